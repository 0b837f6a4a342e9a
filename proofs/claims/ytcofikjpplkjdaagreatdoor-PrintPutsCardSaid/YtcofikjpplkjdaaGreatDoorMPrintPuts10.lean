/- SynVars, SynRead, EvalOps2, EvalNone, EvalReckon, EvalCheck, EvalLight, ActLight, ShapeSpec, CurNew, ScanSpec, ScanRef, ScanRefOne, ScanRefToks, joined. -/
import Derived.Test.YtcofikjpplkjdaaGreatDoorMPrintPuts09
import Derived.Test.YtcofikjpplkjdaaGreatDoorMPrintPuts06
import Derived.Test.YtcofikjpplkjdaaGreatDoorMPrintPuts01
import Derived.Test.YtcofikjpplkjdaaGreatDoorMPrintPuts03
import Derived.BigQuiet
import Derived.Deep.QuietTactic
import Derived.Test.YtcofikjpplkjdaaGreatDoorMPrintPuts07
import Derived.Lib.QuietBelow
import Derived.Test.YtcofikjpplkjdaaGreatDoorMPrintPuts02
import Derived.Deep.AppendLies
import Derived.Laws.MakeOwn
import Derived.OwnWalk
import Derived.Test.YtcofikjpplkjdaaGreatDoorMPrintPuts00
import Derived.Test.YtcofikjpplkjdaaGreatDoorRows
import Derived.IntWalk
import Derived.Deep.RegionHeld3
namespace Go.Proofs.YtcofikjpplkjdaaGreatDoor
open Go.RowKit CurSpec TermSpec EvalSpec ActSpec NamesSpec ExprSpec TransSpec SynSpec
set_option maxRecDepth 100000
def VrRel (W:World) (B:Nat) (F:Cur × List Vr) (gh:Nat) (pv:Value) (wr:World):Prop :=
 ∃ (c:Cur) (ps:List Vr),left c ≤ gh ∧ Ok c ∧ CurAt wr B c ∧ RowB 53 4 vrV (fun _ _ => True) W B wr pv ps ∧ SynSpec.Few 4 c (ps) ∧ loopT qV stV c (ps) = F
set_option maxHeartbeats 8000000 in
theorem readVars_at (B:Nat) (c:Cur) (w:World) (h:CurAt w B c) (ok:Ok c):Calls Tryz.prog 59 #[.pointer (some ⟨B,0,none⟩)] w (RetD RdV w B (vaR c)):=by
 have hB:=h.lt
 obtain ⟨i0,hi,hz0,hz1,hz2⟩:=info_parts inf_var
 have HI:=Lib.hid (And.intro hi (And.intro hz0 (And.intro hz1 hz2)))
 obtain ⟨F,hF⟩:∃ F,F = vaR c:=⟨_,rfl⟩
 rw [← hF]
 have HST:Hid (VrRel w B F (left c) (.slice none 0 0) w):=Lib.hid ⟨c,[],Nat.le_refl _,ok,h,RowB.nil (but_refl _ _) hB,⟨by simp,fun h => by simp at h⟩,hF.symm⟩
 have HBB:=Lib.hid hB
 clear h ok hF hi hz0 hz1 hz2
 go_enter Tryz.func59,Tryz.ntmps59
 go_wp2_with fail
 go_loopg [3] (left c) (fun gh pv wr => VrRel w B F gh pv wr)
 case atStart => exact HST.out
 case round =>
  obtain ⟨d,ps,hgh,hok,hcur,hrow,hfew,htail⟩:=hrel
  have HGH:=Lib.hid hgh
  have HROW:=Lib.hid hrow
  have HTAIL:=Lib.hid htail
  have HCUR:=Lib.hid hcur
  have HIW:=Lib.hid (fun s W b (hW:CurAt W B d) (hb:isB d 1 s = b) => isWord_at B d s W hW hb)
  obtain ⟨pA,pc,rfl⟩:=hrow.shape
  obtain ⟨n,hn⟩:∃ n,n = ps.length:=⟨_,rfl⟩
  rw [← hn]
  rw [← hn] at HROW
  by_cases hb:qV d = true
  ·have HLS:=Lib.hid (left_less goes_V (ps) hb)
   have HFW:=Lib.hid (few_V hb hfew)
   have HT1:=Lib.hid (loopT_yes goes_V (out:=ps) hb)
   have h0:=(goes_V.real hb).1
   have h8:n ≤ 4:=by
    have hl:(ps).length = n:=by simp [hn]
    rcases Nat.lt_or_ge n (4 + 1) with h' | h'
    ·omega
    ·exact absurd h0 (hfew.2 (by have:=hfew.1; omega))
   have HOK2:=Lib.hid ((to_stV d (ps)).ok hok)
   have HD:Hid (stV d (ps) = ((varR (fullO 4 d (ps))).1,(ps) ++ [(varR (fullO 4 d (ps))).2])):=Lib.hid rfl
   have HOKD:=Lib.hid ((to_fullO 4 d (ps)).ok hok)
   have HFU:Hid (fullO 4 d (ps) = if n = 4 then fail d 8 else d):=Lib.hid (by unfold fullO; rw [show (ps).length = n by simp [hn]])
   obtain ⟨D,hD⟩:∃ D,D = fullO 4 d (ps):=⟨_,rfl⟩
   rw [← hD] at HD HOKD HFU
   have HRV:=Lib.hid (fun W (hW:CurAt W B D) => readVar_at B D W hW HOKD.out)
   obtain ⟨⟨c4,v4⟩,h4⟩:∃ q,q = varR D:=⟨_,rfl⟩
   rw [← h4] at HD HRV
   rw [HD.out] at HLS HFW HOK2 HT1
   have HL1:Hid (ps.length + 1 ≤ maxLen):=Lib.hid (by unfold maxLen; omega)
   have HL2:Hid ((ps.length + 1) * 40 ≤ 140737488355328):=Lib.hid (by omega)
   have HFA:=Lib.hid (fun W (hW:CurAt W B d) => fail_at B d 8 W hW)
   have HHB:=Lib.hid hb
   clear hgh hok hfew htail h0 hD h4
   clear hb
   have HW1:Hid (isB d 1 wVar = true):=HHB
   by_cases h8e:n = 4
   ·have g1:((n:Int) == 4) = true:=by simp; omega
    have g1':(n == 4) = true:=by simp; omega
    have HFD:Hid (D = fail d 8):=Lib.hid (by rw [HFU.out,if_pos h8e])
    clear h8e h8 hn hrow hcur
    go_wp2_with (go_at_call 97; (with_reducible refine (HIW.out wVar _ true HCUR.out HW1.out).mono ?_))
    rintro e x30 ⟨rfl,hb3⟩
    have HC3:=Lib.hid (HCUR.out.keep hb3)
    have HR3:=Lib.hid (HROW.out.keep hb3)
    clear hb3
    go_wp2_with (go_at_call 63; (with_reducible refine (HFA.out _ HC3.out).mono ?_))
    rintro e x6 ⟨rfl,hc6,hb6⟩
    rw [← HFD.out] at hc6
    have HCD:=Lib.hid hc6
    have HRW:=Lib.hid (HR3.out.but hb6)
    clear hc6 hb6
    go_wp2_with (go_at_call 98; (with_reducible refine (HRV.out _ HCD.out).mono ?_))
    rintro e x7 ⟨rfl,hc7,hb7⟩
    have HC7:=Lib.hid hc7
    have HR7:=Lib.hid (HRW.out.but hb7)
    clear hc7 hb7
    go_wp2_with (at_builtin; refine wpList_append_rowB rfl (.tmp 11) (.tmp 14) _ rfl i0 (.agg #[.string ByteArray.empty,.int .i64 0,.int .i64 0,.int .i64 0]) 40 Tryz.underlying23 HI.out.1 HI.out.2.1 HI.out.2.2.1 HI.out.2.2.2 rfl (by decide) HR7.out v4 (Dep.triv fun _ => trivial) rfl rfl rfl (vrV_one _) HL1.out HL2.out ?_; intro p2 w2 hrow2 hcur2; have HR8:=Lib.hid hrow2; have HC8:=Lib.hid (hcur2 _ HC7.out); clear hrow2 hcur2)
    go_roundg (left c4)
    case measure => have h1:=HLS.out; have h3:=HGH.out; omega
    case rel => exact ⟨c4,ps ++ [v4],Nat.le_refl _,HOK2.out,HC8.out,HR8.out,HFW.out,by rw [← HTAIL.out,HT1.out]⟩
   ·have g1:((n:Int) == 4) = false:=by simp; omega
    have g1':(n == 4) = false:=by simp; omega
    have HFD:Hid (D = d):=Lib.hid (by rw [HFU.out,if_neg h8e])
    clear h8e h8 hn hrow hcur
    go_wp2_with (go_at_call 97; (with_reducible refine (HIW.out wVar _ true HCUR.out HW1.out).mono ?_))
    rintro e x30 ⟨rfl,hb3⟩
    have HC3:=Lib.hid (HCUR.out.keep hb3)
    have HR3:=Lib.hid (HROW.out.keep hb3)
    clear hb3
    have HCD:=HC3
    rw [← HFD.out] at HCD
    have HRW:=HR3
    go_wp2_with (go_at_call 98; (with_reducible refine (HRV.out _ HCD.out).mono ?_))
    rintro e x7 ⟨rfl,hc7,hb7⟩
    have HC7:=Lib.hid hc7
    have HR7:=Lib.hid (HRW.out.but hb7)
    clear hc7 hb7
    go_wp2_with (at_builtin; refine wpList_append_rowB rfl (.tmp 11) (.tmp 14) _ rfl i0 (.agg #[.string ByteArray.empty,.int .i64 0,.int .i64 0,.int .i64 0]) 40 Tryz.underlying23 HI.out.1 HI.out.2.1 HI.out.2.2.1 HI.out.2.2.2 rfl (by decide) HR7.out v4 (Dep.triv fun _ => trivial) rfl rfl rfl (vrV_one _) HL1.out HL2.out ?_; intro p2 w2 hrow2 hcur2; have HR8:=Lib.hid hrow2; have HC8:=Lib.hid (hcur2 _ HC7.out); clear hrow2 hcur2)
    go_roundg (left c4)
    case measure => have h1:=HLS.out; have h3:=HGH.out; omega
    case rel => exact ⟨c4,ps ++ [v4],Nat.le_refl _,HOK2.out,HC8.out,HR8.out,HFW.out,by rw [← HTAIL.out,HT1.out]⟩
  ·have HFE:Hid (F = (d,ps)):=Lib.hid (by rw [← htail,loopT_no hb])
   have HHB:=Lib.hid hb
   clear hgh hok hfew htail hn hrow hcur hb
   have HW1:Hid (isB d 1 wVar = false):=Lib.hid (by simpa [qV] using HHB.out)
   go_wp2_with (go_at_call 97; (with_reducible refine (HIW.out wVar _ false HCUR.out HW1.out).mono ?_))
   rintro e x30 ⟨rfl,hb3⟩
   have HC3:=Lib.hid (HCUR.out.keep hb3)
   have HR3:=Lib.hid (HROW.out.keep hb3)
   clear hb3
   go_wp2_with fail
   go_ret
   refine ⟨pA,n,pc,rfl,by rw [HFE.out]; exact HC3.out,?_,HR3.out.grown⟩
   rw [HFE.out]
   exact HR3.out.far.imp fun x hx => hx.1
end Go.Proofs.YtcofikjpplkjdaaGreatDoor
namespace Go.Proofs.YtcofikjpplkjdaaGreatDoor
open Go.RowKit CurSpec TermSpec EvalSpec ActSpec NamesSpec ExprSpec TransSpec SynSpec
set_option maxRecDepth 100000
def StsP (w:World) (v:Value) (l:List Sx):Prop:=∃ ps:List SP,ps.map (·.x) = l ∧ Rdk 6 w v ps.length (ps.flatMap spV) ∧ ∀ p ∈ ps,spN p w
theorem spN_keep {p:SP} {w w':World} (h:spN p w) (hb:Below w.heap.size w w'):spN p w':=⟨h.1.keep hb,h.2.1.keep hb,h.2.2.keep hb⟩
theorem StsP.keep {w w':World} {v:Value} {l:List Sx} (h:StsP w v l) (hb:Below w.heap.size w w'):StsP w' v l:=by
 obtain ⟨ps,h1,h2,h3⟩:=h
 exact ⟨ps,h1,h2.keep hb,fun p hp => spN_keep (h3 p hp) hb⟩
theorem StsP.nil (w:World):StsP w (.slice none 0 0) []:=⟨[],rfl,Rdk.nil 6 w,by simp⟩
structure ChIn (w:World) (e v t:Value) (x:Cx):Prop where
 evs:RdS w e x.evs
 vars:RdV w v x.vars
 sts:StsP w t x.sts
theorem ChIn.keep {w w':World} {e v t:Value} {x:Cx} (h:ChIn w e v t x) (hb:Below w.heap.size w w'):ChIn w' e v t x:=⟨Rd.keep h.evs hb,Rdk.keep h.vars hb,h.sts.keep hb⟩
theorem ChIn.zero (w:World):ChIn w (.slice none 0 0) (.slice none 0 0) (.slice none 0 0) zeroC:=⟨Rd.nil w,Rdk.nil 4 w,StsP.nil w⟩
def RetCh (W:World) (B:Nat) (p:Cur × Cx) (e:Ending) (w':World):Prop :=
 ∃ eA en ec vA vn vc sA sn sc,e = .returned (.agg #[.string p.2.s,.slice eA en ec,.slice vA vn vc,.slice sA sn sc]) ∧ CurAt w' B p.1 ∧ Dep w' (fun b => W.heap.size ≤ b) (fun x => ChIn x (.slice eA en ec) (.slice vA vn vc) (.slice sA sn sc) p.2) ∧ W.grownBy w' (some B)
theorem cb_zero (w:World):(Instr.build 26 #[]).run Tryz.prog w = .ok (.agg #[.string ⟨#[]⟩,.slice none 0 0,.slice none 0 0,.slice none 0 0]) w:=run_build w 26 _ _ (by kernel_rfl)
set_option maxRecDepth 100000 in
set_option maxHeartbeats 8000000 in
theorem read_at_chart (B:Nat) (c:Cur) (w:World) (hs:SignsIn w) (h:CurAt w B c) (ok:Ok c):Calls Tryz.prog 25 #[.pointer (some ⟨B,0,none⟩)] w (RetCh w B (readC c)):=by
 have b1:=cb_zero
 have HSG:=Lib.hid (fun W (hW:w.grownBy W (some B)) => signs_but hs h hW)
 have H0:=Lib.hid (Rd4.start (T:=26) (z0:=.string ⟨#[]⟩) (z1:=.slice none 0 0) (z2:=.slice none 0 0) (z3:=.slice none 0 0) h)
 have HLT:=Lib.hid h.lt
 obtain ⟨c1,e1⟩:∃ d,d = want c 1 wChart:=⟨_,rfl⟩
 have k1:Ok c1:=e1 ▸ ok.want _ _
 obtain ⟨c2,e2⟩:∃ d,d = nameC c1:=⟨_,rfl⟩
 have k2:Ok c2:=e2 ▸ k1.nameC
 obtain ⟨s,es⟩:∃ s,s = nameS c1:=⟨_,rfl⟩
 obtain ⟨c3,e3⟩:∃ d,d = want c2 3 wOpen:=⟨_,rfl⟩
 have k3:Ok c3:=e3 ▸ k2.want _ _
 obtain ⟨⟨c4,evs⟩,e4⟩:∃ p,p = evR c3:=⟨_,rfl⟩
 have k4:Ok c4:=by have:=(to_evR c3).ok k3; rw [← e4] at this; exact this
 obtain ⟨⟨c5,vars⟩,e5⟩:∃ p,p = vaR c4:=⟨_,rfl⟩
 have k5:Ok c5:=by have:=(to_vaR c4).ok k4; rw [← e5] at this; exact this
 obtain ⟨⟨c6,sts⟩,e6⟩:∃ p,p = stR 12 0 (-1) c5:=⟨_,rfl⟩
 obtain ⟨c7,e7⟩:∃ d,d = want c6 3 wShut:=⟨_,rfl⟩
 have HP:Hid (readC c = (c7,if c7.bad = 0 then ⟨s,evs,vars,sts⟩ else zeroC)):=Lib.hid (by
  unfold readC seqC
  rw [← e1,← e2,← es,← e3,← e4]
  dsimp only
  rw [← e5]
  dsimp only
  rw [← e6]
  dsimp only
  rw [← e7])
 have HW1:=Lib.hid (fun W (hW:CurAt W B c) => want_at B c 1 wChart W hW)
 have HN2:=Lib.hid (fun W (hW:CurAt W B c1) => name_at B c1 k1 W hW)
 have HW3:=Lib.hid (fun W (hW:CurAt W B c2) => want_at B c2 3 wOpen W hW)
 have HE4:=Lib.hid (fun W (hW:CurAt W B c3) => readEvents_at B c3 W hW k3)
 have HV5:=Lib.hid (fun W (hW:CurAt W B c4) => readVars_at B c4 W hW k4)
 have HS6:Hid (∀ W,SignsIn W → CurAt W B c5 → Calls Tryz.prog 60 #[.pointer (some ⟨B,0,none⟩),.slice none 0 0,.int .i64 (-1),.int .i64 1] W (RetSts W B [] (stR 12 0 (-1) c5))) :=
  Lib.hid (fun W hs hW => readState_at W B hs hW 12 (Nat.le_refl _) c5 [] (-1) none 0 W hW k5 (RowB.nil (but_refl _ _) hW.lt) ⟨by decide,fun h => absurd h (by decide)⟩ (fun h => absurd h (by decide)))
 have HW7:=Lib.hid (fun W (hW:CurAt W B c6) => want_at B c6 3 wShut W hW)
 rw [← e1] at HW1
 rw [← e2,← es] at HN2
 rw [← e3] at HW3
 rw [← e4] at HE4
 rw [← e5] at HV5
 rw [← e6] at HS6
 rw [← e7] at HW7
 obtain ⟨P,hP⟩:∃ P,P = readC c:=⟨_,rfl⟩
 rw [← hP] at HP ⊢
 clear e1 e2 es e3 e4 e5 e6 e7 k1 k2 k3 k4 k5 hP h ok hs
 go_enter Tryz.func25,Tryz.ntmps25
 go_wp2_with (go_at_call 26; (with_reducible refine (HW1.out _ H0.out.cur).mono ?_))
 rintro e x1 ⟨rfl,hc,hb⟩
 have H1:=Lib.hid (H0.out.but hb hc)
 clear hc hb H0
 go_wp2_with (go_at_call 57; (with_reducible refine (HN2.out _ H1.out.cur).mono ?_))
 rintro e x2 ⟨rfl,hc,hb⟩
 have H2:=Lib.hid (H1.out.but hb hc)
 clear hc hb H1
 have H2s:=Lib.hid (H2.out.set 0 (.string s) rfl)
 obtain ⟨f0,f1,f2,f3⟩:=free_4 H2.out.blk
 obtain ⟨q0,q1,q2,q3⟩:=cells_4 H2.out.blk
 go_wp2_with (go_at_call 26; (with_reducible refine (HW3.out _ H2s.out.cur).mono ?_))
 rintro e x3 ⟨rfl,hc,hb⟩
 have H3:=Lib.hid (H2s.out.but hb hc)
 clear hc hb H2 H2s f0 f1 f2 f3 q0 q1 q2 q3
 go_wp2_with (go_at_call 58; (with_reducible refine (HE4.out _ H3.out.cur).mono ?_))
 rintro e x4 ⟨eA,en,ec,rfl,hc,hd,hb⟩
 have H4:=Lib.hid (H3.out.but hb hc)
 have HDE:=Lib.hid (hd.mono (S':=fun b => w.heap.size + 2 ≤ b) fun b _ hb => Nat.le_trans H3.out.size hb)
 clear hc hb hd H3
 have H4s:=Lib.hid (H4.out.set 1 (.slice eA en ec) rfl)
 have HDE4:=Lib.hid (HDE.out.go (Rd4.store (W:=w) (wx:=x4) 1 (.slice eA en ec)) (fun b hS e => by injection e with e; omega))
 obtain ⟨f0,f1,f2,f3⟩:=free_4 H4.out.blk
 obtain ⟨q0,q1,q2,q3⟩:=cells_4 H4.out.blk
 go_wp2_with (go_at_call 59; (with_reducible refine (HV5.out _ H4s.out.cur).mono ?_))
 rintro e x5 ⟨vA,vn,vc,rfl,hc,hd,hb⟩
 have H5:=Lib.hid (H4s.out.but hb hc)
 have HDV:=Lib.hid (hd.mono (S':=fun b => w.heap.size + 2 ≤ b) fun b _ hb => Nat.le_trans H4s.out.size hb)
 have HDE5:=Lib.hid (HDE4.out.go hb (fun b hS e => by injection e with e; have:=HLT.out; omega))
 clear hc hb hd H4 H4s HDE HDE4 f0 f1 f2 f3 q0 q1 q2 q3
 have H5s:=Lib.hid (H5.out.set 2 (.slice vA vn vc) rfl)
 have HD5:=Lib.hid ((HDE5.out.and HDV.out).go (Rd4.store (W:=w) (wx:=x5) 2 (.slice vA vn vc)) (fun b hS e => by injection e with e; omega))
 obtain ⟨f0,f1,f2,f3⟩:=free_4 H5.out.blk
 obtain ⟨q0,q1,q2,q3⟩:=cells_4 H5.out.blk
 go_wp2_with (go_at_call 60; (with_reducible refine (HS6.out _ (HSG.out _ H5s.out.grown) H5s.out.cur).mono ?_))
 rintro e x6 ⟨sA,sn,sc,qs,rfl,hc,hm,hr⟩
 have H6:=Lib.hid (H5s.out.but hr.grown hc)
 have HD6:=Lib.hid ((HD5.out.go hr.grown (fun b hS e => by injection e with e; have:=HLT.out; omega)).and (hr.far.mono (S':=fun b => w.heap.size + 2 ≤ b) fun b _ hb => Nat.le_trans H5s.out.size hb))
 have HM:=Lib.hid hm
 clear hc hr hm H5 H5s HDE5 HDV HD5 f0 f1 f2 f3 q0 q1 q2 q3
 have H6s:=Lib.hid (H6.out.set 3 (.slice sA sn sc) rfl)
 have HD6s:=Lib.hid (HD6.out.go (Rd4.store (W:=w) (wx:=x6) 3 (.slice sA sn sc)) (fun b hS e => by injection e with e; omega))
 obtain ⟨f0,f1,f2,f3⟩:=free_4 H6.out.blk
 obtain ⟨q0,q1,q2,q3⟩:=cells_4 H6.out.blk
 go_wp2_with (go_at_call 26; (with_reducible refine (HW7.out _ H6s.out.cur).mono ?_))
 rintro e x7 ⟨rfl,hc,hb⟩
 have H7:=Lib.hid (H6s.out.but hb hc)
 have HD7:=Lib.hid (HD6s.out.go hb (fun b hS e => by injection e with e; have:=HLT.out; omega))
 clear hc hb H6 H6s HD6 HD6s f0 f1 f2 f3 q0 q1 q2 q3
 have HGOOD:=Lib.hid (fun b hb => good_any _ _ _ _ x7 (Fl.of H7.out.cur) (b:=b) hb)
 by_cases h0:c7.bad = 0
 ·have HP2:Hid (P = (c7,⟨s,evs,vars,sts⟩)):=Lib.hid (by rw [HP.out,if_pos h0])
  have HGD:=Lib.hid (HGOOD.out true (by simpa using h0))
  clear h0 HGOOD HP
  go_wp2_with (go_at_call 61; (with_reducible refine HGD.out.mono ?_))
  rintro e y6 ⟨rfl,hb6⟩
  have HX:=Lib.hid (H7.out.keep hb6)
  have HDX:=Lib.hid (HD7.out.keep hb6)
  clear hb6
  obtain ⟨q0,q1,q2,q3⟩:=cells_4 HX.out.blk
  obtain ⟨r0,r1,r2,r3⟩:=cells_4 HX.out.res
  obtain ⟨f0,f1,f2,f3⟩:=free_4 HX.out.res
  have HD:=Lib.hid (HX.out.done (.string s) (.slice eA en ec) (.slice vA vn vc) (.slice sA sn sc))
  go_wp2_with fail
  obtain ⟨p0,p1,p2,p3⟩:=store_four HX.out.res (.string s) (.slice eA en ec) (.slice vA vn vc) (.slice sA sn sc)
  refine bodyPost_ret (v:=.agg #[.string s,.slice eA en ec,.slice vA vn vc,.slice sA sn sc]) (by simp [results,Tryz.results25,go_sem,p0,p1,p2,p3]) rfl ?_
  have hf:=(HDX.out.go HD.out (fun b hS e => by injection e with e; omega)).mono (S':=fun b => w.heap.size ≤ b) (fun b _ hb => by omega)
  refine ⟨eA,en,ec,vA,vn,vc,sA,sn,sc,by rw [HP2.out],by rw [HP2.out]; exact HX.out.cur.own HD.out HX.out.lt,?_,grown_new HX.out.grown HD.out⟩
  rw [HP2.out]
  exact hf.imp fun x hx => ⟨hx.1.1,hx.1.2,qs,HM.out,hx.2⟩
 ·have HP2:Hid (P = (c7,zeroC)):=Lib.hid (by rw [HP.out,if_neg h0])
  have HGD:=Lib.hid (HGOOD.out false (by simpa using h0))
  clear h0 HGOOD HP
  go_wp2_with (go_at_call 61; (with_reducible refine HGD.out.mono ?_))
  rintro e y6 ⟨rfl,hb6⟩
  have HX:=Lib.hid (H7.out.keep hb6)
  clear hb6
  obtain ⟨r0,r1,r2,r3⟩:=cells_4 HX.out.res
  obtain ⟨f0,f1,f2,f3⟩:=free_4 HX.out.res
  have HD:=Lib.hid (HX.out.done (.string ⟨#[]⟩) (.slice none 0 0) (.slice none 0 0) (.slice none 0 0))
  go_wp2_with fail
  obtain ⟨p0,p1,p2,p3⟩:=store_four HX.out.res (.string ⟨#[]⟩) (.slice none 0 0) (.slice none 0 0) (.slice none 0 0)
  refine bodyPost_ret (v:=.agg #[.string ⟨#[]⟩,.slice none 0 0,.slice none 0 0,.slice none 0 0]) (by simp [results,Tryz.results25,go_sem,p0,p1,p2,p3]) rfl ?_
  refine ⟨none,0,0,none,0,0,none,0,0,by rw [HP2.out],by rw [HP2.out]; exact HX.out.cur.own HD.out HX.out.lt,?_,grown_new HX.out.grown HD.out⟩
  rw [HP2.out]
  exact Dep.triv ChIn.zero
end Go.Proofs.YtcofikjpplkjdaaGreatDoor
namespace Go.Proofs.YtcofikjpplkjdaaGreatDoor
open Go.RowKit TermSpec EvalSpec ValSpec
end Go.Proofs.YtcofikjpplkjdaaGreatDoor
namespace Go.Proofs.YtcofikjpplkjdaaGreatDoor
open Go.RowKit TermSpec EvalSpec NamesSpec Go.Lib ValSpec
end Go.Proofs.YtcofikjpplkjdaaGreatDoor
namespace Go.Proofs.YtcofikjpplkjdaaGreatDoor
open Go.RowKit TermSpec EvalSpec NamesSpec Go.Lib ValSpec
end Go.Proofs.YtcofikjpplkjdaaGreatDoor
namespace Go.Proofs.YtcofikjpplkjdaaGreatDoor
open Go.RowKit TermSpec EvalSpec NamesSpec
end Go.Proofs.YtcofikjpplkjdaaGreatDoor
namespace Go.Proofs.YtcofikjpplkjdaaGreatDoor
open Go.RowKit TermSpec EvalSpec
end Go.Proofs.YtcofikjpplkjdaaGreatDoor
namespace Go.Proofs.YtcofikjpplkjdaaGreatDoor
open Go.RowKit TermSpec EvalSpec ActSpec NamesSpec
end Go.Proofs.YtcofikjpplkjdaaGreatDoor
namespace Go.Proofs.YtcofikjpplkjdaaGreatDoor
namespace ShapeSpec
structure Sh where
 kind:Int
 par:Int
def par (l:List Sh) (i:Nat):Int:=(l[i]?).elim (-1) (·.par)
def kind (l:List Sh) (i:Nat):Int:=(l[i]?).elim 0 (·.kind)
theorem par_at {l:List Sh} {i:Nat} {s:Sh} (h:l[i]? = some s):par l i = s.par:=by simp [par,h]
theorem kind_at {l:List Sh} {i:Nat} {s:Sh} (h:l[i]? = some s):kind l i = s.kind:=by simp [kind,h]
def upF (l:List Sh):Nat → Nat → List Nat
 | 0,_ => []
 | f + 1,i => if 0 ≤ par l i ∧ par l i < i then (par l i).toNat :: upF l f (par l i).toNat else []
theorem upF_fuel (l:List Sh):∀ f g i,i ≤ f → i ≤ g → upF l f i = upF l g i
 | 0,0,_,_,_ => rfl
 | 0,g + 1,i,h,_ => by
   obtain rfl:i = 0:=by omega
   rw [upF,upF,if_neg (by omega)]
 | f + 1,0,i,_,h => by
   obtain rfl:i = 0:=by omega
   rw [upF,upF,if_neg (by omega)]
 | f + 1,g + 1,i,hf,hg => by
   rw [upF,upF]
   split
   ·rw [upF_fuel l f g _ (by omega) (by omega)]
   ·rfl
def up (l:List Sh) (i:Nat):List Nat:=upF l i i
theorem up_no {l:List Sh} {i:Nat} (h:¬ (0 ≤ par l i ∧ par l i < i)):up l i = []:=by
 unfold up
 cases i with
 | zero => rfl
 | succ i => rw [upF,if_neg h]
theorem up_par {l:List Sh} {i:Nat} (h0:0 ≤ par l i) (h1:par l i < i):up l i = (par l i).toNat :: up l (par l i).toNat:=by
 unfold up
 cases i with
 | zero => omega
 | succ i => rw [upF,if_pos ⟨h0,h1⟩,upF_fuel l i _ _ (by omega) (Nat.le_refl _)]
def sf (l:List Sh) (i:Nat):List Nat:=i :: up l i
theorem up_sf {l:List Sh} {i:Nat} (h0:0 ≤ par l i) (h1:par l i < i):up l i = sf l (par l i).toNat:=up_par h0 h1
theorem up_of {l:List Sh} {i p:Nat} (h:par l i = p) (h1:p < i):up l i = sf l p:=by
 rw [up_sf (by omega) (by omega),h]
 rfl
theorem up_lt {l:List Sh}:∀ {i j:Nat},j ∈ up l i → j < i:=by
 intro i
 induction i using Nat.strongRecOn with
 | ind i ih =>
   intro j h
   by_cases hp:0 ≤ par l i ∧ par l i < i
   ·rw [up_par hp.1 hp.2,List.mem_cons] at h
    rcases h with rfl | h
    ·omega
    ·have:=ih _ (by omega) h
     omega
   ·rw [up_no hp] at h
    simp at h
theorem sf_le {l:List Sh} {i j:Nat} (h:j ∈ sf l i):j ≤ i:=by
 rcases List.mem_cons.1 h with rfl | h
 ·omega
 ·exact Nat.le_of_lt (up_lt h)
theorem sf_self (l:List Sh) (i:Nat):i ∈ sf l i:=List.mem_cons_self ..
theorem sf_up {l:List Sh} {i j:Nat} (h:j ∈ sf l i) (hne:j ≠ i):j ∈ up l i:=by
 rcases List.mem_cons.1 h with rfl | h
 ·exact absurd rfl hne
 ·exact h
theorem up_in {l:List Sh} {i j:Nat} (h:j ∈ up l i):j ∈ sf l i:=List.mem_cons_of_mem _ h
theorem sf_chain {l:List Sh}:∀ {i j m:Nat},j ∈ sf l i → m ∈ sf l i → m ≤ j → m ∈ sf l j:=by
 intro i
 induction i using Nat.strongRecOn with
 | ind i ih =>
   intro j m hj hm hle
   by_cases hji:j = i
   ·subst hji
    exact hm
   ·have hj':=sf_up hj hji
    have hlt:=up_lt hj'
    have hm':=sf_up hm (by omega)
    by_cases hp:0 ≤ par l i ∧ par l i < i
    ·rw [up_sf hp.1 hp.2] at hj' hm'
     exact ih _ (by omega) hj' hm' hle
    ·rw [up_no hp] at hj'
     simp at hj'
theorem sf_sub {l:List Sh}:∀ {i j m:Nat},j ∈ sf l i → m ∈ sf l j → m ∈ sf l i:=by
 intro i
 induction i using Nat.strongRecOn with
 | ind i ih =>
   intro j m hj hm
   by_cases hji:j = i
   ·subst hji
    exact hm
   ·have hj':=sf_up hj hji
    by_cases hp:0 ≤ par l i ∧ par l i < i
    ·rw [up_sf hp.1 hp.2] at hj'
     refine up_in ?_
     rw [up_sf hp.1 hp.2]
     exact ih _ (by omega) hj' hm
    ·rw [up_no hp] at hj'
     simp at hj'
theorem up_length_le (l:List Sh):∀ i,(up l i).length ≤ i:=by
 intro i
 induction i using Nat.strongRecOn with
 | ind i ih =>
   by_cases hp:0 ≤ par l i ∧ par l i < i
   ·rw [up_par hp.1 hp.2,List.length_cons]
    have:=ih (par l i).toNat (by omega)
    omega
   ·rw [up_no hp]
    simp
def hangB (l:List Sh) (i:Nat):Bool :=
 if i = 0 then decide (par l i = -1) else decide (0 ≤ par l i) && decide (par l i < i) && decide (kind l (par l i).toNat ≠ 1) && decide ((par l i).toNat ∈ sf l (i - 1))
def goodB (l:List Sh) (i:Nat):Bool:=decide (1 ≤ kind l i) && decide (kind l i ≤ 3) && hangB l i
def standB (l:List Sh):Bool:=decide (0 < l.length) && (List.range l.length).all (goodB l)
def deepB (l:List Sh):Bool:=(List.range l.length).any fun i => decide (11 < (up l i).length)
def chk (l:List Sh):Int:=if 60 < l.length then 8 else if standB l = false then 1 else if deepB l = true then 6 else 0
def SU (l:List Sh) (n:Nat):Prop:=∀ i,i < n → goodB l i = true
theorem SU.zero (l:List Sh):SU l 0:=fun _ h => absurd h (by omega)
theorem SU.next {l:List Sh} {n:Nat} (h:SU l n) (hg:goodB l n = true):SU l (n + 1):=fun i hi => by
 by_cases e:i = n
 ·rw [e]; exact hg
 ·exact h i (by omega)
theorem SU.root {l:List Sh} {n:Nat} (h:SU l n) (hn:0 < n):par l 0 = -1:=by
 have:=h 0 hn
 simp [goodB,hangB] at this
 exact this.2
theorem SU.par {l:List Sh} {n i:Nat} (h:SU l n) (hi:i < n) (h0:0 < i):0 ≤ par l i ∧ par l i < i ∧ (par l i).toNat ∈ sf l (i - 1):=by
 have:=h i hi
 have e:i ≠ 0:=by omega
 simp [goodB,hangB,e] at this
 exact ⟨this.2.1.1.1,this.2.1.1.2,this.2.2⟩
theorem SU.parn {l:List Sh} {n i:Nat} (h:SU l n) (hi:i < n) (h0:0 < i):∃ p:Nat,ShapeSpec.par l i = p ∧ p < i ∧ up l i = sf l p ∧ p ∈ sf l (i - 1):=by
 obtain ⟨a,b,c⟩:=h.par hi h0
 exact ⟨(ShapeSpec.par l i).toNat,by omega,by omega,up_sf a b,c⟩
theorem stand_su {l:List Sh} (h:standB l = true):0 < l.length ∧ SU l l.length:=by
 simp [standB] at h
 refine ⟨?_,fun i hi => h.2 i hi⟩
 cases l with
 | nil => simp at h
 | cons => simp
theorem stand_of {l:List Sh} (h0:0 < l.length) (h:SU l l.length):standB l = true:=by
 simp only [standB,Bool.and_eq_true,decide_eq_true_eq,List.all_eq_true,List.mem_range]
 exact ⟨h0,h⟩
theorem stand_not {l:List Sh} {i:Nat} (hi:i < l.length) (h:goodB l i = false):standB l = false:=by
 cases hs:standB l with
 | false => rfl
 | true => rw [(stand_su hs).2 i hi] at h; cases h
theorem chk_ok {l:List Sh} (h:chk l = 0):l.length ≤ 60 ∧ standB l = true ∧ ∀ i,i < l.length → (up l i).length ≤ 11:=by
 unfold chk at h
 split at h
 ·cases h
 ·split at h
  ·cases h
  ·split at h
   ·cases h
   ·rename_i h1 h2 h3
    refine ⟨by omega,by simpa using h2,fun i hi => ?_⟩
    simp only [deepB,Bool.not_eq_true,List.any_eq_false,List.mem_range,decide_eq_true_eq] at h3
    exact Nat.le_of_not_lt (h3 i hi)
theorem chk_su {l:List Sh} (h:chk l = 0):SU l l.length:=(stand_su (chk_ok h).2.1).2
def kidsTo (l:List Sh) (i n:Nat):List Int:=((List.range n).filter fun k => decide (par l k = i)).map Int.ofNat
def kids (l:List Sh) (i:Nat):List Int:=kidsTo l i l.length
theorem kids_yes {l:List Sh} {i n:Nat} (h:par l n = i):kidsTo l i (n + 1) = kidsTo l i n ++ [(n:Int)]:=by simp [kidsTo,List.range_succ,List.filter_append,h]
theorem kids_no {l:List Sh} {i n:Nat} (h:par l n ≠ i):kidsTo l i (n + 1) = kidsTo l i n:=by simp [kidsTo,List.range_succ,List.filter_append,h]
theorem kids_le (l:List Sh) (i n:Nat):(kidsTo l i n).length ≤ n:=by
 unfold kidsTo
 rw [List.length_map]
 have:=List.length_filter_le (fun k => decide (par l k = i)) (List.range n)
 simpa using this
def upI (l:List Sh) (i:Nat):List Int:=(up l i).map Int.ofNat
def sfI (l:List Sh) (i:Nat):List Int:=(sf l i).map Int.ofNat
theorem upI_length (l:List Sh) (i:Nat):(upI l i).length = (up l i).length:=by simp [upI]
theorem sfI_length (l:List Sh) (i:Nat):(sfI l i).length = (up l i).length + 1:=by simp [sfI,sf]
theorem sfI_cons (l:List Sh) (i:Nat):sfI l i = [(i:Int)] ++ upI l i:=rfl
theorem mem_ints {a:List Nat} {j:Nat}:(j:Int) ∈ a.map Int.ofNat ↔ j ∈ a:=by
 rw [List.mem_map]
 constructor
 ·rintro ⟨x,hx,e⟩
  obtain rfl:x = j:=Int.ofNat.inj e
  exact hx
 ·exact fun h => ⟨j,h,rfl⟩
theorem upI_mem {l:List Sh} {i j:Nat}:(j:Int) ∈ upI l i ↔ j ∈ up l i:=mem_ints
theorem sfI_get {l:List Sh} {i k:Nat} {x:Nat} (h:(sf l i)[k]? = some x):(sfI l i)[k]? = some (x:Int):=by simp [sfI,h]
def endTo (l:List Sh) (i:Nat):Nat → Nat
 | 0 => i + 1
 | k + 1 => if i ∈ up l k then k + 1 else endTo l i k
def endOf (l:List Sh) (i:Nat):Nat:=endTo l i l.length
theorem endTo_gt {l:List Sh} {i:Nat}:∀ n,i < endTo l i n
 | 0 => by rw [endTo]; omega
 | n + 1 => by
   rw [endTo]
   split
   ·have:=up_lt ‹_›
    omega
   ·exact endTo_gt n
theorem endTo_le {l:List Sh} {i:Nat}:∀ {n},endTo l i n ≤ max (i + 1) n
 | 0 => by rw [endTo]; omega
 | n + 1 => by
   rw [endTo]
   split
   ·omega
   ·have:=endTo_le (l:=l) (i:=i) (n:=n)
    omega
theorem endTo_mem {l:List Sh} {i k:Nat} (h:i ∈ up l k):∀ {n},k < n → k < endTo l i n
 | 0,hk => absurd hk (by omega)
 | n + 1,hk => by
   rw [endTo]
   split
   ·omega
   ·rename_i hn
    have:k ≠ n:=by rintro rfl; exact hn h
    exact endTo_mem h (by omega)
theorem endTo_last {l:List Sh} {i:Nat}:∀ {n},endTo l i n = i + 1 ∨ i ∈ up l (endTo l i n - 1) ∧ endTo l i n ≤ n
 | 0 => .inl rfl
 | n + 1 => by
   rw [endTo]
   split
   ·exact .inr ⟨by simpa using ‹i ∈ up l n›,Nat.le_refl _⟩
   ·rcases endTo_last (l:=l) (i:=i) (n:=n) with h | ⟨h,h'⟩
    ·exact .inl h
    ·exact .inr ⟨h,by omega⟩
theorem below_stop {l:List Sh} {n i k:Nat} (h:SU l n) (hk:k < n) (hi:i < k) (hno:i ∉ sf l (k - 1)):i ∉ up l k:=by
 obtain ⟨p,hp,hlt,hup,hin⟩:=h.parn hk (by omega)
 rw [hup]
 exact fun hm => hno (sf_sub hin hm)
theorem below_none {l:List Sh} {n i e:Nat} (h:SU l n) (hi:i < e) (hno:i ∉ up l e):∀ k,e ≤ k → k < n → i ∉ up l k:=by
 intro k
 induction k with
 | zero => intro h1 _; omega
 | succ k ih =>
   intro h1 h2
   by_cases e1:e = k + 1
   ·rw [← e1]
    exact hno
   ·have hk:=ih (by omega) (by omega)
    refine below_stop h h2 (by omega) fun hm => hk (sf_up (by simpa using hm) (by omega))
theorem end_bd {l:List Sh} {i:Nat} (hi:i < l.length):i < endOf l i ∧ endOf l i ≤ l.length:=by
 refine ⟨endTo_gt _,?_⟩
 have:=endTo_le (l:=l) (i:=i) (n:=l.length)
 unfold endOf
 omega
theorem end_iff {l:List Sh} {i k:Nat} (h:SU l l.length) (hi:i < l.length) (hk:k < l.length):i ∈ sf l k ↔ i ≤ k ∧ k < endOf l i:=by
 constructor
 ·intro hm
  refine ⟨sf_le hm,?_⟩
  by_cases e:i = k
  ·rw [← e]
   exact (end_bd hi).1
  ·exact endTo_mem (sf_up hm e) hk
 ·rintro ⟨h1,h2⟩
  rcases Classical.em (i ∈ sf l k) with hm | hm
  ·exact hm
  ·exfalso
   have hne:i ≠ k:=by rintro rfl; exact hm (sf_self _ _)
   have hno:i ∉ up l k:=fun hu => hm (up_in hu)
   rcases endTo_last (l:=l) (i:=i) (n:=l.length) with e | ⟨e,e'⟩
   ·have:endOf l i = i + 1:=e
    omega
   ·have hlt:k < endTo l i l.length:=h2
    exact below_none h (by omega) hno (endTo l i l.length - 1) (by omega) (by omega) e
end ShapeSpec
end Go.Proofs.YtcofikjpplkjdaaGreatDoor
namespace Go.Proofs.YtcofikjpplkjdaaGreatDoor
open Go.RowKit CurSpec
set_option maxRecDepth 100000
theorem info_tk:(Tryz.prog.info? 92).map (fun i => (i.zero,i.size,i.bytes)) = some (some (.agg #[.int .i64 0,.string ByteArray.empty,.int .i64 0,.int .i64 0]),4,40):=by kernel_rfl
def lastP (L:List Tk):Int × Int:=match L.getLast? with | none => (0,0) | some t => (t.l,t.c)
theorem full_snoc:∀ (L:List Tk) (a b:Int),full L a b = L ++ [⟨0,⟨#[]⟩,(match L.getLast? with | none => (a,b) | some t => (t.l,t.c)).1,(match L.getLast? with | none => (a,b) | some t => (t.l,t.c)).2⟩]
 | [],a,b => rfl
 | t :: r,a,b => by
   rw [full,full_snoc r t.l t.c]
   cases r with
   | nil => rfl
   | cons u q =>
     rw [List.getLast?_cons_cons]
     obtain ⟨x,hx⟩:∃ x,(u :: q).getLast? = some x:=⟨_,List.getLast?_eq_some_getLast (by simp)⟩
     rw [hx]
     rfl
theorem full_zero (L:List Tk):full L 0 0 = L ++ [⟨0,⟨#[]⟩,(lastP L).1,(lastP L).2⟩]:=full_snoc L 0 0
def NewPost (W:World) (l:List Tk) (e:Ending) (w':World):Prop :=
 ∃ B,e = .returned (.pointer (some ⟨B,0,none⟩)) ∧ W.heap.size ≤ B ∧ CurAt w' B ⟨l,0,0,0,0,0⟩ ∧ Below W.heap.size W w'
theorem last_cells {w:World} {b off m:Nat} {l:List Tk} (hl:m + 1 = l.length) (hcell:∀ j u,(tksV l)[j]? = some u → w.cell? ⟨b,off + j,none⟩ = some u) :
 w.cell? ⟨b,off + m * 4 + 2,none⟩ = some (.int .i64 (lastP l).1) ∧ w.cell? ⟨b,off + m * 4 + 3,none⟩ = some (.int .i64 (lastP l).2):=by
 obtain ⟨t,ht⟩:∃ t,l[m]? = some t:=get_some (by omega)
 have hlast:l.getLast? = some t:=by rw [List.getLast?_eq_getElem?,← hl]; exact ht
 obtain ⟨_,_,g2,g3⟩:=tksV_get ht
 unfold lastP
 rw [hlast]
 exact ⟨hcell _ _ g2,hcell _ _ g3⟩
theorem lastP_nil {l:List Tk} (h:l.length = 0):lastP l = (0,0):=by rw [List.eq_nil_of_length_eq_zero h]; rfl
theorem new_fin {W w2:World} {l:List Tk} {n g cap:Nat} {p1 p2:Int} (hn:n = l.length) (hp:lastP l = (p1,p2)) (hb:Below W.heap.size W w2) (hg:g < w2.heap.size)
 (hown:w2.ownsRow (W.heap.size + 1) 92 4 (.slice (some ⟨g,0,none⟩) (n + 1) cap) (n + 1) (tksV l ++ [.int .i64 0,.string ⟨#[]⟩,.int .i64 p1,.int .i64 p2])) :
 NewPost W l (.returned (.pointer (some ⟨w2.heap.size,0,none⟩))) (w2.alloc (.cells #[.slice (some ⟨g,0,none⟩) (n + 1) cap,.int .i64 0,.int .i64 0,.int .i64 0] 105)):=by
 refine ⟨_,rfl,hb.size,⟨g,0,n,cap,heap_alloc_new _ _,by omega,hn,Toks.alloc ⟨n + 1,by rw [full_length,hn],?_⟩ _⟩,hb.alloc hb.size _⟩
 have e:tksV (full l 0 0) = tksV l ++ [.int .i64 0,.string ⟨#[]⟩,.int .i64 p1,.int .i64 p2]:=by
  rw [full_zero,hp]
  simp [tksV,tkV]
 show Rdk 4 w2 _ (n + 1) (tksV (full l 0 0))
 rw [e]
 exact Rdk.own hown
theorem made_at {W:World} {base cap H:Nat} {cur:Array Value} (hH:W.heap.size = H) (hb:base ≤ W.heap.size) (hm:cap ≤ maxLen) (hs:cur.size = cap * 4) :
 (W.alloc (.cells cur 92)).ownsRow base 92 4 (.slice (some ⟨H,0,none⟩) 0 cap) 0 []:=by
 subst hH
 exact World.ownsRow_made W cur cap hb hm hs
structure NewMid (W:World) (l:List Tk) (n:Nat) (p1 p2:Int) (v:Value) (w1:World):Prop where
 tok:w1.heap[W.heap.size]? = some (.cells #[.int .i64 0,.string ⟨#[]⟩,.int .i64 p1,.int .i64 p2] 92 (0,0))
 own:w1.ownsRow (W.heap.size + 1) 92 4 v n (tksV l)
 below:Below W.heap.size W w1
theorem new_mid {W w1:World} {l:List Tk} {n cap:Nat} {p1 p2:Int} {v:Value} {mk:Array Value}
 (hown:w1.ownsRow (W.heap.size + 1) 92 4 v n (tksV l))
 (hg:((W.alloc (.cells #[.int .i64 0,.string ⟨#[]⟩,.int .i64 p1,.int .i64 p2] 92)).alloc (.cells mk 92)).grownBy w1 (Value.ownBlock (.slice (some ⟨W.heap.size + 1,0,none⟩) 0 cap))) :
 NewMid W l n p1 p2 v w1:=by
 have hz:=hg.size
 simp only [World.size_alloc] at hz
 refine ⟨?_,hown,⟨hg.os,hg.tape,hg.output,by omega,fun i hi => ?_⟩⟩
 ·exact (hg.block _ (by simp; omega) (by simp [Value.ownBlock])).trans ((heap_alloc_old _ _ (by simp)).trans (heap_alloc_new _ _))
 ·exact (hg.block i (by simp; omega) (by simp [Value.ownBlock]; omega)).trans ((heap_alloc_old _ _ (by simp; omega)).trans (heap_alloc_old _ _ hi))
theorem new_below {W w1 w2:World} {l:List Tk} {n:Nat} {p1 p2:Int} {v:Value} {o:Obj} (h:NewMid W l n p1 p2 v w1) (hg:(w1.alloc o).grownBy w2 v.ownBlock):Below W.heap.size W w2:=by
 have hb:=own_block_bd h.own
 have hz:=hg.size
 have hz1:=h.below.size
 simp only [World.size_alloc] at hz
 refine h.below.trans ⟨hg.os,hg.tape,hg.output,by omega,fun i hi => ?_⟩
 exact (hg.block i (by simp; omega) (fun e => by have:=(hb i e.symm).1; omega)).trans (heap_alloc_old _ _ (by omega))
set_option maxHeartbeats 2000000 in
theorem new_any (A:Option Addr) (n cp:Nat) (l:List Tk) (w:World) (h:Toks w (.slice A n cp) l) (hl:n ≤ 1000000):Calls Tryz.prog 24 #[.slice A n cp] w (NewPost w l):=by
 obtain ⟨i0,hi,hz0,hz1,hz2⟩:=info_parts info_tk
 obtain ⟨n',hn',hR⟩:=h
 obtain rfl:n = n':=by obtain ⟨A',c',heq,_⟩:=hR; cases heq; rfl
 have hmk:∀ W,(Instr.makeSlice 56 (.int .i64 0) (.int .i64 ((n:Int) + 1))).run Tryz.prog W = .ok (.slice (some ⟨W.heap.size,0,none⟩) 0 (n + 1)) (W.alloc (.cells (madeCells (Value.agg #[.int .i64 0,.string ByteArray.empty,.int .i64 0,.int .i64 0]).cells ((n + 1) * 4)) 92)):=fun W => by
  have h:=run_make (P:=Tryz.prog) W 56 92 i0 _ Tryz.underlying56 hi hz0 .i64 .i64 0 ((n:Int) + 1) (by omega) (by omega) (by rw [hz2]; omega) (by omega)
  rw [hz1] at h
  exact h
 have hms:=size_madeCells (Value.agg #[.int .i64 0,.string ByteArray.empty,.int .i64 0,.int .i64 0]).cells ((n + 1) * 4)
 generalize madeCells (Value.agg #[.int .i64 0,.string ByteArray.empty,.int .i64 0,.int .i64 0]).cells ((n + 1) * 4) = mk at hmk hms
 have HM:=Lib.hid hms
 have HR:=Lib.hid hR
 have HN:=Lib.hid hn'
 clear hms hR hn'
 rcases Nat.eq_zero_or_pos n with h0 | h0
 ·have hp:lastP l = (0,0):=lastP_nil (by rw [← HN.out]; exact h0)
  have HP:=Lib.hid hp
  have hn0:n ≤ 0:=by omega
  have hd:decide (0 < (n:Int)) = false:=decide_eq_false (by omega)
  clear hp h0
  go_enter Tryz.func24,Tryz.ntmps24
  go_wp2_with (at_builtin; refine wpList_append_rdk _ rfl (.tmp 21) (.tmp 22) 56 rfl (w.heap.size + 1) 92 i0 _ 4 40 Tryz.underlying56 hi hz0 hz1 hz2 rfl (by decide) _ 0 [] rfl (made_at (by simp) (by simp) (by unfold maxLen; omega) HM.out) _ n (tksV l) rfl ((HR.out.alloc _).alloc _) (tksV_one l) (by unfold maxLen; omega) (by omega) (by simp) ?_)
  intro v1 w1 hown1 hgrow1 _
  have HMid:=Lib.hid (new_mid hown1 hgrow1)
  clear hown1 hgrow1 hmk
  obtain ⟨t0,t1,t2,t3⟩:=cells_4 HMid.out.tok
  go_wp2_with (at_builtin; refine wpList_append_lies _ rfl (.tmp 24) (.tmp 26) 56 rfl (w.heap.size + 1) 92 i0 _ 4 40 Tryz.underlying56 hi hz0 hz1 hz2 rfl (by decide) v1 n (tksV l) rfl (HMid.out.own.alloc _) ⟨w1.heap.size,0,none⟩ 1 1 [.int .i64 0,.string ⟨#[]⟩,.int .i64 0,.int .i64 0] rfl rfl (World.news_of_block (cs:=#[.int .i64 0,.string ⟨#[]⟩,.int .i64 0,.int .i64 0]) (heap_alloc_new w1 _)) (by simp [Value.oneCell']) (by decide) (by unfold maxLen; omega) (by omega) (by have:=HMid.out.below.size; have:=HMid.out.own.2; have:=(Array.getElem?_eq_some_iff.1 HMid.out.tok).1; simp; omega) (w1.heap.size + 1) (by simp) ?_)
  intro g cap w2 hown2 hgrow2 _ hlt2
  have HE:=Lib.hid (new_fin HN.out HP.out (new_below HMid.out hgrow2) hlt2 hown2)
  clear hown2 hgrow2 t0 t1 t2 t3
  go_wp2_with fail
  go_ret
  exact HE.out
 ·obtain ⟨m,rfl⟩:∃ m,n = m + 1:=⟨n - 1,by omega⟩
  have hR:=HR.out
  obtain ⟨A',c',heq,_,_,hA⟩:=hR
  cases heq
  obtain ⟨b,off,rfl,hlt,hcell⟩:=hA (by omega)
  obtain ⟨c2,c3⟩:=last_cells HN.out hcell
  obtain ⟨p1,p2,hp⟩:∃ p1 p2,lastP l = (p1,p2):=⟨_,_,rfl⟩
  rw [hp] at c2 c3
  simp only at c2 c3
  have HP:=Lib.hid hp
  rw [show ((m + 1:Nat):Int) = (m:Int) + 1 by omega] at hmk
  clear hp hcell hA h0
  go_enter Tryz.func24,Tryz.ntmps24
  go_wp2_with (at_builtin; refine wpList_append_rdk _ rfl (.tmp 21) (.tmp 22) 56 rfl (w.heap.size + 1) 92 i0 _ 4 40 Tryz.underlying56 hi hz0 hz1 hz2 rfl (by decide) _ 0 [] rfl (made_at (by simp) (by simp) (by unfold maxLen; omega) HM.out) _ (m + 1) (tksV l) rfl ((HR.out.alloc _).alloc _) (tksV_one l) (by unfold maxLen; omega) (by omega) (by simp) ?_)
  intro v1 w1 hown1 hgrow1 _
  have HMid:=Lib.hid (new_mid hown1 hgrow1)
  clear hown1 hgrow1 hmk c2 c3
  obtain ⟨t0,t1,t2,t3⟩:=cells_4 HMid.out.tok
  go_wp2_with (at_builtin; refine wpList_append_lies _ rfl (.tmp 24) (.tmp 26) 56 rfl (w.heap.size + 1) 92 i0 _ 4 40 Tryz.underlying56 hi hz0 hz1 hz2 rfl (by decide) v1 (m + 1) (tksV l) rfl (HMid.out.own.alloc _) ⟨w1.heap.size,0,none⟩ 1 1 [.int .i64 0,.string ⟨#[]⟩,.int .i64 p1,.int .i64 p2] rfl rfl (World.news_of_block (cs:=#[.int .i64 0,.string ⟨#[]⟩,.int .i64 p1,.int .i64 p2]) (heap_alloc_new w1 _)) (by simp [Value.oneCell']) (by decide) (by unfold maxLen; omega) (by omega) (by have:=HMid.out.below.size; have:=HMid.out.own.2; have:=(Array.getElem?_eq_some_iff.1 HMid.out.tok).1; simp; omega) (w1.heap.size + 1) (by simp) ?_)
  intro g cap w2 hown2 hgrow2 _ hlt2
  have HE:=Lib.hid (new_fin HN.out HP.out (new_below HMid.out hgrow2) hlt2 hown2)
  clear hown2 hgrow2 t0 t1 t2 t3
  go_wp2_with fail
  go_ret
  exact HE.out
end Go.Proofs.YtcofikjpplkjdaaGreatDoor
namespace Go.Proofs.YtcofikjpplkjdaaGreatDoor
namespace ScanSpec
def isLow (c:UInt8):Bool:=decide (97 ≤ (c.toNat:Int)) && decide ((c.toNat:Int) ≤ 122)
def isDig (c:UInt8):Bool:=decide (48 ≤ (c.toNat:Int)) && decide ((c.toNat:Int) ≤ 57)
def isBlank (c:UInt8):Bool:=(c.toNat == 32 || c.toNat == 9) || c.toNat == 10 || c.toNat == 13
def clsB (c:UInt8):Int:=if isLow c then 1 else if isDig c then 2 else if c.toNat = 95 then 3 else if isBlank c then 4 else if c.toNat = 35 then 5 else 0
def cls (l:List UInt8) (i:Nat):Int:=match l[i]? with | some c => clsB c | none => 0
def gapRun:Bool → List UInt8 → Nat
 | _,[] => 0
 | false,c :: t => if clsB c = 4 then gapRun false t + 1 else if clsB c = 5 then gapRun true t + 1 else 0
 | true,c :: t => if c.toNat = 10 then gapRun false t + 1 else gapRun true t + 1
def gap (l:List UInt8) (i:Nat):Nat:=i + gapRun false (l.drop i)
def run (p:UInt8 → Bool):List UInt8 → Nat
 | [] => 0
 | c :: t => if p c then run p t + 1 else 0
def isWord (c:UInt8):Bool:=decide (1 ≤ clsB c) && decide (clsB c ≤ 3)
def isNum (c:UInt8):Bool:=decide (clsB c = 2)
def marks:List (List UInt8):=[[45,62],[58,61],[60,61],[62,61],[33,61],[61,61],[46,46],[123],[125],[91],[93],[40],[41],[44],[59],[61],[60],[62],[43],[45],[42],[47]]
def markLen (d:List UInt8):Nat:=match marks.find? fun m => m.isPrefixOf d with | some m => m.length | none => 0
def one (d:List UInt8):Int × Nat × Int :=
 if cls d 0 = 1 then (if 12 < run isWord d then (0,0,5) else (1,run isWord d,0))
 else if cls d 0 = 2 then (if cls d (run isNum d) = 1 ∨ cls d (run isNum d) = 3 then (0,0,2) else if 9 < run isNum d then (0,0,5) else (2,run isNum d,0))
 else if markLen d = 0 then (0,0,2) else (3,markLen d,0)
def posGo:List UInt8 → Int × Int → Int × Int
 | [],p => p
 | c :: t,p => posGo t (if c.toNat = 10 then (p.1 + 1,1) else (p.1,p.2 + 1))
def pos (l:List UInt8) (i:Nat):Int × Int:=posGo (l.take i) (1,1)
theorem posGo_snoc (l:List UInt8) (c:UInt8) (p:Int × Int):posGo (l ++ [c]) p = (if c.toNat = 10 then ((posGo l p).1 + 1,1) else ((posGo l p).1,(posGo l p).2 + 1)):=by
 induction l generalizing p with
 | nil => rfl
 | cons a t ih => simp only [List.cons_append,posGo,ih]
theorem pos_next {l:List UInt8} {i:Nat} {c:UInt8} (h:l[i]? = some c):pos l (i + 1) = (if c.toNat = 10 then ((pos l i).1 + 1,1) else ((pos l i).1,(pos l i).2 + 1)):=by
 unfold pos; rw [take_next h,posGo_snoc]
theorem posGo_bd (l:List UInt8) (p:Int × Int) (h1:1 ≤ p.1) (h2:1 ≤ p.2):1 ≤ (posGo l p).1 ∧ (posGo l p).1 ≤ p.1 + l.length ∧ 1 ≤ (posGo l p).2 ∧ (posGo l p).2 ≤ p.2 + l.length:=by
 induction l generalizing p with
 | nil => simp [posGo]; omega
 | cons a t ih =>
   simp only [posGo,List.length_cons]
   split
   ·have:=ih (p.1 + 1,1) (by simp; omega) (by simp)
    simp at this ⊢; omega
   ·have:=ih (p.1,p.2 + 1) (by simp; omega) (by simp; omega)
    simp at this ⊢; omega
theorem pos_bd (l:List UInt8) (i:Nat):1 ≤ (pos l i).1 ∧ (pos l i).1 ≤ 1 + i ∧ 1 ≤ (pos l i).2 ∧ (pos l i).2 ≤ 1 + i:=by
 have:=posGo_bd (l.take i) (1,1) (by simp) (by simp)
 have h:=List.length_take_le i l
 unfold pos
 simp at this
 omega
theorem cls_some {l:List UInt8} {i:Nat} {c:UInt8} (h:l[i]? = some c):cls l i = clsB c:=by unfold cls; rw [h]
theorem cls_none {l:List UInt8} {i:Nat} (h:l.length ≤ i):cls l i = 0:=by unfold cls; rw [List.getElem?_eq_none_iff.2 h]
theorem cls_drop (l:List UInt8) (i j:Nat):cls (l.drop i) j = cls l (i + j):=by unfold cls; rw [List.getElem?_drop]
theorem drop_next {l:List UInt8} {i:Nat} {c:UInt8} (h:l[i]? = some c):l.drop i = c :: l.drop (i + 1):=by
 have hi:=get_lt h
 rw [List.drop_eq_getElem_cons hi]
 congr 1
 rw [List.getElem?_eq_getElem hi] at h
 injection h
theorem drop_end {l:List UInt8} {i:Nat} (h:l.length ≤ i):l.drop i = []:=List.drop_eq_nil_of_le h
theorem clsB_35 {c:UInt8} (h:clsB c = 5):c.toNat = 35:=by
 unfold clsB at h
 split at h
 ·simp at h
 ·split at h
  ·simp at h
  ·split at h
   ·simp at h
   ·split at h
    ·simp at h
    ·split at h
     ·assumption
     ·simp at h
theorem clsB_10 {c:UInt8} (h:c.toNat = 10):clsB c = 4:=by
 unfold clsB isLow isDig isBlank
 rw [h]; rfl
theorem gap_blank {l:List UInt8} {i:Nat} (h:cls l i = 4):gap l (i + 1) = gap l i:=by
 unfold cls at h
 split at h
 ·rename_i c hc
  unfold gap
  rw [drop_next hc,gapRun,if_pos h]; omega
 ·simp at h
def rem (l:List UInt8) (i:Nat):Nat:=i + gapRun true (l.drop i)
theorem gap_remark {l:List UInt8} {i:Nat} (h:cls l i = 5):rem l i = gap l i:=by
 unfold cls at h
 split at h
 ·rename_i c hc
  unfold gap rem
  rw [drop_next hc,gapRun,gapRun,if_neg (by rw [clsB_35 h]; decide),if_neg (by rw [h]; decide),if_pos h]
 ·simp at h
theorem rem_next {l:List UInt8} {i:Nat} {c:UInt8} (hc:l[i]? = some c) (h:¬ c.toNat = 10):rem l (i + 1) = rem l i:=by
 unfold rem
 rw [drop_next hc,gapRun,if_neg h]; omega
theorem rem_line {l:List UInt8} {i:Nat} {c:UInt8} (hc:l[i]? = some c) (h:c.toNat = 10):rem l i = gap l i:=by
 unfold rem gap
 rw [drop_next hc,gapRun,gapRun,if_pos h,if_pos (clsB_10 h)]
theorem rem_end {l:List UInt8} {i:Nat} (h:l.length ≤ i):rem l i = gap l i:=by
 unfold rem gap
 rw [drop_end h]; rfl
theorem gap_stop {l:List UInt8} {i:Nat} (h4:¬ cls l i = 4) (h5:¬ cls l i = 5):gap l i = i:=by
 unfold gap
 rcases hc:l[i]? with _ | c
 ·rw [drop_end (List.getElem?_eq_none_iff.1 hc)]; rfl
 ·rw [cls_some hc] at h4 h5
  rw [drop_next hc,gapRun,if_neg h4,if_neg h5]; rfl
theorem gapRun_le (b:Bool) (l:List UInt8):gapRun b l ≤ l.length:=by
 induction l generalizing b with
 | nil => cases b <;> simp [gapRun]
 | cons c t ih =>
   have h1:=ih false
   have h2:=ih true
   cases b <;> simp only [gapRun,List.length_cons] <;> repeat' split
   all_goals omega
theorem gap_bd {l:List UInt8} {i:Nat} (h:i ≤ l.length):i ≤ gap l i ∧ gap l i ≤ l.length:=by
 have:=gapRun_le false (l.drop i)
 rw [List.length_drop] at this
 unfold gap; omega
theorem run_next {p:UInt8 → Bool} {l:List UInt8} {i:Nat} {c:UInt8} (hc:l[i]? = some c) (h:p c = true):i + 1 + run p (l.drop (i + 1)) = i + run p (l.drop i):=by
 rw [drop_next hc,run,if_pos h]; omega
theorem run_stop {p:UInt8 → Bool} {l:List UInt8} {i:Nat} (h:∀ c,l[i]? = some c → p c = false):run p (l.drop i) = 0:=by
 rcases hc:l[i]? with _ | c
 ·rw [drop_end (List.getElem?_eq_none_iff.1 hc)]; rfl
 ·rw [drop_next hc,run,if_neg (by rw [h c hc]; simp)]
theorem run_le (p:UInt8 → Bool) (l:List UInt8):run p l ≤ l.length:=by
 induction l with
 | nil => simp [run]
 | cons c t ih => simp only [run,List.length_cons]; split <;> omega
theorem run_pos {p:UInt8 → Bool} {l:List UInt8} {i:Nat} {c:UInt8} (hc:l[i]? = some c) (h:p c = true):0 < run p (l.drop i):=by
 rw [drop_next hc,run,if_pos h]; omega
theorem isWord_cls {l:List UInt8} {i:Nat} (h1:1 ≤ cls l i) (h3:cls l i ≤ 3):∃ c,l[i]? = some c ∧ isWord c = true:=by
 unfold cls at h1 h3
 split at h1
 ·rename_i c hc
  refine ⟨c,hc,?_⟩
  rw [hc] at h3
  simp [isWord,h1,h3]
 ·omega
structure Tok where
 kind:Int
 at_:Nat
 len:Nat
def scanGo (l:List UInt8):Nat → Nat → List Tok → List Tok × Nat × Int
 | 0,i,acc => (acc ++ [⟨0,i,0⟩],0,0)
 | f + 1,i,acc =>
   if l.length ≤ i then (acc ++ [⟨0,i,0⟩],0,0)
   else
    let t:=one (l.drop i)
    if t.2.2 ≠ 0 then ([],i,t.2.2)
    else if acc.length = 4000 then ([],i,8)
    else scanGo l f (gap l (i + t.2.1)) (acc ++ [⟨t.1,i,t.2.1⟩])
def scan (l:List UInt8):List Tok × Nat × Int:=scanGo l l.length (gap l 0) []
end ScanSpec
end Go.Proofs.YtcofikjpplkjdaaGreatDoor
namespace Go.Proofs.YtcofikjpplkjdaaGreatDoor
open Go.RowKit ScanSpec
theorem byte_at' (s:ByteArray) (i:Nat) (h:i < s.size):s.data.toList[i]? = some s[i]:=by
 rw [List.getElem?_eq_getElem (by simpa using h)]; rfl
theorem size_list' (s:ByteArray):s.data.toList.length = s.size:=rfl
theorem clsB_val (c:UInt8) (n:Int) (hn:n = (c.toNat:Int)):(97 ≤ n ∧ n ≤ 122 ∧ clsB c = 1) ∨ (48 ≤ n ∧ n ≤ 57 ∧ clsB c = 2) ∨ (n = 95 ∧ clsB c = 3) ∨ ((n = 32 ∨ n = 9 ∨ n = 10 ∨ n = 13) ∧ clsB c = 4) ∨ (n = 35 ∧ clsB c = 5) ∨
 ((n < 48 ∨ (57 < n ∧ n < 97) ∨ 122 < n) ∧ n ≠ 95 ∧ n ≠ 32 ∧ n ≠ 9 ∧ n ≠ 10 ∧ n ≠ 13 ∧ n ≠ 35 ∧ clsB c = 0):=by
 unfold clsB isLow isDig isBlank
 simp only [← hn,Bool.and_eq_true,Bool.or_eq_true,decide_eq_true_eq,beq_iff_eq]
 by_cases h1:97 ≤ n ∧ n ≤ 122
 ·exact .inl ⟨h1.1,h1.2,by rw [if_pos h1]⟩
 ·rw [if_neg h1]
  by_cases h2:48 ≤ n ∧ n ≤ 57
  ·exact .inr (.inl ⟨h2.1,h2.2,by rw [if_pos h2]⟩)
  ·rw [if_neg h2]
   by_cases h3:c.toNat = 95
   ·exact .inr (.inr (.inl ⟨by omega,by rw [if_pos h3]⟩))
   ·rw [if_neg h3]
    by_cases h4:((c.toNat = 32 ∨ c.toNat = 9) ∨ c.toNat = 10) ∨ c.toNat = 13
    ·exact .inr (.inr (.inr (.inl ⟨by omega,by rw [if_pos h4]⟩)))
    ·rw [if_neg h4]
     by_cases h5:c.toNat = 35
     ·exact .inr (.inr (.inr (.inr (.inl ⟨by omega,by rw [if_pos h5]⟩))))
     ·exact .inr (.inr (.inr (.inr (.inr ⟨by omega,by omega,by omega,by omega,by omega,by omega,by omega,by rw [if_neg h5]⟩))))
end Go.Proofs.YtcofikjpplkjdaaGreatDoor
namespace Go.Proofs.YtcofikjpplkjdaaGreatDoor
open Go.RowKit ScanSpec Go.BigFrame
theorem one_name {l:List UInt8} {i:Nat} (h:cls l i = 1):ScanSpec.one (l.drop i) = if 12 < run isWord (l.drop i) then (0,0,5) else (1,run isWord (l.drop i),0):=by
 unfold ScanSpec.one; rw [cls_drop,Nat.add_zero,if_pos h]
theorem one_num {l:List UInt8} {i:Nat} (h:cls l i = 2):ScanSpec.one (l.drop i) = if cls l (i + run isNum (l.drop i)) = 1 ∨ cls l (i + run isNum (l.drop i)) = 3 then (0,0,2) else if 9 < run isNum (l.drop i) then (0,0,5) else (2,run isNum (l.drop i),0):=by
 unfold ScanSpec.one; rw [cls_drop,Nat.add_zero,if_neg (by rw [h]; decide),if_pos h,cls_drop]
theorem one_mark {l:List UInt8} {i:Nat} (h1:¬ cls l i = 1) (h2:¬ cls l i = 2):ScanSpec.one (l.drop i) = if markLen (l.drop i) = 0 then (0,0,2) else (3,markLen (l.drop i),0):=by
 unfold ScanSpec.one; rw [cls_drop,Nat.add_zero,if_neg h1,if_neg h2]
theorem find_hit {α:Type} {p:α → Bool}:∀ {l:List α} {j:Nat} {x:α},l[j]? = some x → (∀ y ∈ l.take j,p y = false) → p x = true → l.find? p = some x
 | [],_,_,h,_,_ => by simp at h
 | a :: t,0,x,h,_,hx => by
   simp at h; subst h; simp [hx]
 | a :: t,j + 1,x,h,hn,hx => by
   have ha:p a = false:=hn a (by simp)
   rw [List.find?_cons,ha]
   exact find_hit (j:=j) (by simpa using h) (fun y hy => hn y (by simp [hy])) hx
theorem mark_hit {d:List UInt8} {j:Nat} {m:List UInt8} (h:marks[j]? = some m) (hn:∀ y ∈ marks.take j,y.isPrefixOf d = false) (hm:m.isPrefixOf d = true):markLen d = m.length:=by
 unfold markLen; rw [find_hit (p:=fun m => m.isPrefixOf d) h hn hm]
end Go.Proofs.YtcofikjpplkjdaaGreatDoor
namespace Go.Proofs.YtcofikjpplkjdaaGreatDoor
open Go.RowKit ScanSpec
set_option maxRecDepth 100000
theorem info_tok:(Tryz.prog.info? 92).map (fun i => (i.zero,i.size,i.bytes)) = some (some (.agg #[.int .i64 0,.string ByteArray.empty,.int .i64 0,.int .i64 0]),4,40):=by kernel_rfl
def tokV (s:ByteArray) (t:Tok):List Value:=[.int .i64 t.kind,.string (s.extract t.at_ (t.at_ + t.len)),.int .i64 (pos s.data.toList t.at_).1,.int .i64 (pos s.data.toList t.at_).2]
def toksV (s:ByteArray) (l:List Tok):List Value:=l.flatMap (tokV s)
theorem toksV_snoc (s:ByteArray) (l:List Tok) (t:Tok):toksV s l ++ tokV s t = toksV s (l ++ [t]):=by simp [toksV]
def scanT (l:List UInt8):List Tok × Nat × Int:=if 65536 < l.length then ([],0,5) else scan l
theorem one_bd (d:List UInt8) (hd:0 < d.length):((ScanSpec.one d).2.2 = 0 → 1 ≤ (ScanSpec.one d).2.1 ∧ (ScanSpec.one d).2.1 ≤ d.length) ∧ ((ScanSpec.one d).2.2 = 0 ∨ (ScanSpec.one d).2.2 = 2 ∨ (ScanSpec.one d).2.2 = 5) ∧ (0 ≤ (ScanSpec.one d).1 ∧ (ScanSpec.one d).1 ≤ 3):=by
 obtain ⟨c,hc⟩:∃ c,d[0]? = some c:=get_some hd
 have hd0:d.drop 0 = d:=rfl
 have hml:markLen d ≤ d.length:=by
  unfold markLen
  cases hf:marks.find? fun m => m.isPrefixOf d with
  | none => simp
  | some m =>
    have:=List.find?_some hf
    rw [List.isPrefixOf_iff_prefix] at this
    exact this.length_le
 unfold ScanSpec.one
 split
 ·rename_i h1
  have hp:0 < run isWord d:=by
   have:=run_pos (p:=isWord) (l:=d) (i:=0) hc (by rw [cls_some hc] at h1; simp [isWord,h1])
   rwa [hd0] at this
  have:=run_le isWord d
  split <;> simp <;> omega
 ·split
  ·rename_i h1 h2
   have hp:0 < run isNum d:=by
    have:=run_pos (p:=isNum) (l:=d) (i:=0) hc (by rw [cls_some hc] at h2; simp [isNum,h2])
    rwa [hd0] at this
   have:=run_le isNum d
   split
   ·simp
   ·split <;> simp <;> omega
  ·split <;> simp <;> omega
theorem scanGo_end {l:List UInt8} {f i:Nat} {acc:List Tok} (h:l.length ≤ i):scanGo l f i acc = (acc ++ [⟨0,i,0⟩],0,0):=by
 cases f with
 | zero => rfl
 | succ f => rw [scanGo,if_pos h]
theorem scanGo_err {l:List UInt8} {f i:Nat} {acc:List Tok} (h:i < l.length) (he:(ScanSpec.one (l.drop i)).2.2 ≠ 0):scanGo l (f + 1) i acc = ([],i,(ScanSpec.one (l.drop i)).2.2):=by
 rw [scanGo,if_neg (by omega)]
 simp only [if_pos he]
theorem scanGo_full {l:List UInt8} {f i:Nat} {acc:List Tok} (h:i < l.length) (he:(ScanSpec.one (l.drop i)).2.2 = 0) (hf:acc.length = 4000):scanGo l (f + 1) i acc = ([],i,8):=by
 rw [scanGo,if_neg (by omega)]
 simp [he,hf]
theorem scanGo_next {l:List UInt8} {f i:Nat} {acc:List Tok} (h:i < l.length) (he:(ScanSpec.one (l.drop i)).2.2 = 0) (hf:acc.length ≠ 4000) :
 scanGo l (f + 1) i acc = scanGo l f (gap l (i + (ScanSpec.one (l.drop i)).2.1)) (acc ++ [⟨(ScanSpec.one (l.drop i)).1,i,(ScanSpec.one (l.drop i)).2.1⟩]):=by
 rw [scanGo,if_neg (by omega)]
 simp [he,hf]
def TokPost (W:World) (s:ByteArray) (e:Ending) (w':World):Prop :=
 Below W.heap.size W w' ∧
 ((scanT s.data.toList).2.2 ≠ 0 → e = .returned (.tuple #[.slice none 0 0,.agg #[.int .i64 (pos s.data.toList (scanT s.data.toList).2.1).1,.int .i64 (pos s.data.toList (scanT s.data.toList).2.1).2],.int .i64 (scanT s.data.toList).2.2])) ∧
 ((scanT s.data.toList).2.2 = 0 → ∃ v,e = .returned (.tuple #[v,.agg #[.int .i64 0,.int .i64 0],.int .i64 0]) ∧ Rdk 4 w' v (scanT s.data.toList).1.length (toksV s (scanT s.data.toList).1))
theorem tok_bad {W w':World} {s:ByteArray} {i:Nat} {er:Int} (hb:Below W.heap.size W w') (h:scanT s.data.toList = ([],i,er)) (hne:er ≠ 0) :
 TokPost W s (.returned (.tuple #[.slice none 0 0,.agg #[.int .i64 (pos s.data.toList i).1,.int .i64 (pos s.data.toList i).2],.int .i64 er])) w' :=
 ⟨hb,fun _ => by rw [h],fun h' => by rw [h] at h'; exact absurd h' hne⟩
def endC (s:ByteArray) (i:Nat):List Value:=[.int .i64 0,.string ByteArray.empty,.int .i64 (pos s.data.toList i).1,.int .i64 (pos s.data.toList i).2]
theorem endC_eq (s:ByteArray) (i:Nat):endC s i = tokV s ⟨0,i,0⟩:=by
 have e:s.extract i (i + 0) = ByteArray.empty:=by
  apply ByteArray.ext
  simp
 unfold endC tokV
 rw [e]
theorem tok_end {W w4:World} {s:ByteArray} {i f n gg cap4:Nat} {acc:List Tok} {u v:Value} (hS:scanT s.data.toList = scan s.data.toList) (hN:acc.length = n) (hGo:scanGo s.data.toList f i acc = scan s.data.toList) (hge:s.size ≤ i)
 (hown4:w4.ownsRow (W.heap.size + 1) 92 4 (.slice (some ⟨gg,0,none⟩) (n + 1) cap4) (n + 1) (toksV s acc ++ endC s i)) (hb4:Below W.heap.size W w4) :
 TokPost W s (.returned (.tuple #[.slice (some ⟨gg,0,none⟩) (n + 1) cap4,.agg #[.int .i64 0,.int .i64 0],.int .i64 0])) ((w4.setCell ⟨W.heap.size,0,none⟩ u).setCell ⟨W.heap.size,1,none⟩ v):=by
 have e:scanT s.data.toList = (acc ++ [⟨0,i,0⟩],0,0):=by rw [hS,← hGo,scanGo_end (by rw [size_list']; exact hge)]
 refine ⟨(hb4.setCell (Nat.le_refl _) _).setCell (Nat.le_refl _) _,fun h => by rw [e] at h; exact absurd rfl h,fun _ => ⟨_,rfl,?_⟩⟩
 rw [e]
 have h5:((w4.setCell ⟨W.heap.size,0,none⟩ u).setCell ⟨W.heap.size,1,none⟩ v).ownsRow (W.heap.size + 1) 92 4 (.slice (some ⟨gg,0,none⟩) (n + 1) cap4) (n + 1) (toksV s acc ++ endC s i) :=
  ownsRow_setCell_below (ownsRow_setCell_below hown4 (by simp) u) (by simp) v
 rw [endC_eq,toksV_snoc] at h5
 have hl:(acc ++ [(⟨0,i,0⟩:Tok)]).length = n + 1:=by simp [hN]
 rw [← hl] at h5
 have:=Rdk.own h5
 rwa [hl] at this ⊢
end Go.Proofs.YtcofikjpplkjdaaGreatDoor