/- SynTrans, SynState, joined. -/
import Derived.Test.YtjfghaohogcfbaaGreatDoorMFormatSame19
namespace Go.Proofs.YtjfghaohogcfbaaGreatDoor
open Go.RowKit CurSpec TermSpec EvalSpec ActSpec NamesSpec ExprSpec TransSpec SynSpec
set_option maxRecDepth 100000
theorem tr_fresh {α:Type} {T:TypeId} {k:Nat} {cv:α → List Value} {nest:α → World → Prop} {W wr w':World} {B:Nat} {pv:Value} {ps:List α} {gA aA:Option Addr} {gn gc an ac:Nat} {t:Tr} (h:RowB T k cv nest W B wr pv ps)
 (ht:Tms w' (.slice gA gn gc) t.g) (hf:∀ b,(Value.slice gA gn gc).ownBlock = some b → wr.heap.size ≤ b) (ha:AcsFar wr.heap.size w' (.slice aA an ac) t.acts):Dep w' (fun b => W.heap.size ≤ b ∧ pv.ownBlock ≠ some b) (tpN ⟨t,gA,gn,gc,aA,an,ac⟩) :=
 (((tms_dep ht hf).and (acs_dep ha)).imp fun _ hx => (⟨hx.1,hx.2⟩:TrIn _ gA gn gc aA an ac t)).mono fun b _ hb => ⟨Nat.le_trans h.grown.size hb,fun e => by have:=(own_block_bd h.own b e).2; omega⟩
def TrRel (W:World) (B:Nat) (F:Cur × List Tr) (gh:Nat) (pv:Value) (wr:World):Prop :=
 ∃ (c:Cur) (ps:List TP),left c ≤ gh ∧ Ok c ∧ CurAt wr B c ∧ RowB 65 4 tpV (tpN) W B wr pv ps ∧ SynSpec.Few 16 c (ps.map (·.t)) ∧ loopT qT stT c (ps.map (·.t)) = F
set_option maxHeartbeats 8000000 in
theorem readTrans_at (B:Nat) (c:Cur) (w:World) (hs:SignsIn w) (h:CurAt w B c) (ok:Ok c):Calls Tryz.prog 95 #[.pointer (some ⟨B,0,none⟩)] w (RetD Trs w B (trX c)):=by
 have hB:=h.lt
 obtain ⟨i0,hi,hz0,hz1,hz2⟩:=info_parts inf_trans
 have HI:=Lib.hid (And.intro hi (And.intro hz0 (And.intro hz1 hz2)))
 have HSG:=Lib.hid (fun W (hW:w.grownBy W (some B)) => signs_but hs h hW)
 obtain ⟨F,hF⟩:∃ F,F = trX c:=⟨_,rfl⟩
 rw [← hF]
 have HST:Hid (TrRel w B F (left c) (.slice none 0 0) w):=Lib.hid ⟨c,[],Nat.le_refl _,ok,h,RowB.nil (but_refl _ _) hB,⟨by simp,fun h => by simp at h⟩,hF.symm⟩
 have HBB:=Lib.hid hB
 clear h ok hF hi hz0 hz1 hz2 hs
 go_enter Tryz.func95,Tryz.ntmps95
 go_wp2_with fail
 go_loopg [3] (left c) (fun gh pv wr => TrRel w B F gh pv wr)
 case atStart => exact HST.out
 case round =>
  obtain ⟨d,ps,hgh,hok,hcur,hrow,hfew,htail⟩:=hrel
  have HGH:=Lib.hid hgh
  have HROW:=Lib.hid hrow
  have HTAIL:=Lib.hid htail
  have HCUR:=Lib.hid hcur
  have HIW:=Lib.hid (fun s W b (hW:CurAt W B d) (hb:isB d 1 s = b) => isWord_at B d s W hW hb)
  obtain ⟨pA,pc,rfl⟩:=hrow.shape
  obtain ⟨n,hn⟩:∃ n,n = ps.length:=⟨_,rfl⟩
  rw [← hn]
  rw [← hn] at HROW
  by_cases hb:qT d = true
  ·have HLS:=Lib.hid (left_less goes_T (ps.map (·.t)) hb)
   have HFW:=Lib.hid (few_T hb hfew)
   have HT1:=Lib.hid (loopT_yes goes_T (out:=ps.map (·.t)) hb)
   have h0:=(goes_T.real hb).1
   have h8:n ≤ 16:=by
    have hl:(ps.map (·.t)).length = n:=by simp [hn]
    rcases Nat.lt_or_ge n (16 + 1) with h' | h'
    ·omega
    ·exact absurd h0 (hfew.2 (by have:=hfew.1; omega))
   have HOK2:=Lib.hid ((to_stT d (ps.map (·.t))).ok hok)
   have HD:Hid (stT d (ps.map (·.t)) = ((readT (fullO 16 d (ps.map (·.t)))).1,(ps.map (·.t)) ++ [(readT (fullO 16 d (ps.map (·.t)))).2])):=Lib.hid rfl
   have HOKD:=Lib.hid ((to_fullO 16 d (ps.map (·.t))).ok hok)
   have HFU:Hid (fullO 16 d (ps.map (·.t)) = if n = 16 then fail d 8 else d):=Lib.hid (by unfold fullO; rw [show (ps.map (·.t)).length = n by simp [hn]])
   obtain ⟨D,hD⟩:∃ D,D = fullO 16 d (ps.map (·.t)):=⟨_,rfl⟩
   rw [← hD] at HD HOKD HFU
   have HRV:=Lib.hid (fun W (hs:SignsIn W) (hW:CurAt W B D) => tread_atF B D W hs hW HOKD.out)
   obtain ⟨⟨c4,v4⟩,h4⟩:∃ q,q = readT D:=⟨_,rfl⟩
   rw [← h4] at HD HRV
   rw [HD.out] at HLS HFW HOK2 HT1
   have HL1:Hid (ps.length + 1 ≤ maxLen):=Lib.hid (by unfold maxLen; omega)
   have HL2:Hid ((ps.length + 1) * 80 ≤ 140737488355328):=Lib.hid (by omega)
   have HFA:=Lib.hid (fun W (hW:CurAt W B d) => fail_at B d 8 W hW)
   have HHB:=Lib.hid hb
   clear hgh hok hfew htail h0 hD h4
   rcases h1:isB d 1 wOn with _ | _
   ·have HW1:=Lib.hid h1
    have HW2:Hid (isB d 1 wAuto = true):=Lib.hid (by unfold qT at hb; rw [h1,Bool.false_or] at hb; exact hb)
    clear h1 hb
    by_cases h8e:n = 16
    ·have g1:((n:Int) == 16) = true:=by simp; omega
     have g1':(n == 16) = true:=by simp; omega
     have HFD:Hid (D = fail d 8):=Lib.hid (by rw [HFU.out,if_pos h8e])
     clear h8e h8 hn hrow hcur
     go_wp2_with (go_at_call 91; (with_reducible refine (HIW.out wOn _ false HCUR.out HW1.out).mono ?_))
     rintro e x30 ⟨rfl,hb3⟩
     have HC3:=Lib.hid (HCUR.out.keep hb3)
     have HR3:=Lib.hid (HROW.out.keep hb3)
     clear hb3
     go_wp2_with (go_at_call 91; (with_reducible refine (HIW.out wAuto _ true HC3.out HW2.out).mono ?_))
     rintro e x31 ⟨rfl,hb3⟩
     have HC3:=Lib.hid (HC3.out.keep hb3)
     have HR3:=Lib.hid (HR3.out.keep hb3)
     clear hb3
     go_wp2_with (go_at_call 53; (with_reducible refine (HFA.out _ HC3.out).mono ?_))
     rintro e x6 ⟨rfl,hc6,hb6⟩
     rw [← HFD.out] at hc6
     have HCD:=Lib.hid hc6
     have HRW:=Lib.hid (HR3.out.but hb6)
     clear hc6 hb6
     go_wp2_with (go_at_call 139; (with_reducible refine (HRV.out _ (HSG.out _ HRW.out.grown) HCD.out).mono ?_))
     rintro e x7 ⟨gA,gn,gc,aA,an,ac,rfl,hc7,ht7,hf7,ha7,hb7⟩
     have HC7:=Lib.hid hc7
     have HR7:=Lib.hid (HRW.out.but hb7)
     have HD7:Hid (Dep x7 (fun b => w.heap.size ≤ b ∧ (Value.slice pA n pc).ownBlock ≠ some b) (tpN ⟨v4,gA,gn,gc,aA,an,ac⟩)):=Lib.hid (tr_fresh HRW.out ht7 hf7 ha7)
     clear hc7 hb7 ht7 hf7 ha7
     go_wp2_with (at_builtin; refine wpList_append_rowB rfl (.tmp 15) (.tmp 18) _ rfl i0 (.agg #[.string ByteArray.empty,.slice none 0 0,.slice none 0 0,.string ByteArray.empty]) 80 Tryz.underlying56 HI.out.1 HI.out.2.1 HI.out.2.2.1 HI.out.2.2.2 rfl (by decide) HR7.out ⟨v4,gA,gn,gc,aA,an,ac⟩ HD7.out rfl rfl rfl (tpV_one _) HL1.out HL2.out ?_; intro p2 w2 hrow2 hcur2; have HR8:=Lib.hid hrow2; have HC8:=Lib.hid (hcur2 _ HC7.out); clear hrow2 hcur2)
     go_roundg (left c4)
     case measure => have h1:=HLS.out; have h3:=HGH.out; omega
     case rel => exact ⟨c4,ps ++ [⟨v4,gA,gn,gc,aA,an,ac⟩],Nat.le_refl _,HOK2.out,HC8.out,HR8.out,by rw [List.map_append]; exact HFW.out,by rw [← HTAIL.out,HT1.out,List.map_append]; rfl⟩
    ·have g1:((n:Int) == 16) = false:=by simp; omega
     have g1':(n == 16) = false:=by simp; omega
     have HFD:Hid (D = d):=Lib.hid (by rw [HFU.out,if_neg h8e])
     clear h8e h8 hn hrow hcur
     go_wp2_with (go_at_call 91; (with_reducible refine (HIW.out wOn _ false HCUR.out HW1.out).mono ?_))
     rintro e x30 ⟨rfl,hb3⟩
     have HC3:=Lib.hid (HCUR.out.keep hb3)
     have HR3:=Lib.hid (HROW.out.keep hb3)
     clear hb3
     go_wp2_with (go_at_call 91; (with_reducible refine (HIW.out wAuto _ true HC3.out HW2.out).mono ?_))
     rintro e x31 ⟨rfl,hb3⟩
     have HC3:=Lib.hid (HC3.out.keep hb3)
     have HR3:=Lib.hid (HR3.out.keep hb3)
     clear hb3
     have HCD:=HC3
     rw [← HFD.out] at HCD
     have HRW:=HR3
     go_wp2_with (go_at_call 139; (with_reducible refine (HRV.out _ (HSG.out _ HRW.out.grown) HCD.out).mono ?_))
     rintro e x7 ⟨gA,gn,gc,aA,an,ac,rfl,hc7,ht7,hf7,ha7,hb7⟩
     have HC7:=Lib.hid hc7
     have HR7:=Lib.hid (HRW.out.but hb7)
     have HD7:Hid (Dep x7 (fun b => w.heap.size ≤ b ∧ (Value.slice pA n pc).ownBlock ≠ some b) (tpN ⟨v4,gA,gn,gc,aA,an,ac⟩)):=Lib.hid (tr_fresh HRW.out ht7 hf7 ha7)
     clear hc7 hb7 ht7 hf7 ha7
     go_wp2_with (at_builtin; refine wpList_append_rowB rfl (.tmp 15) (.tmp 18) _ rfl i0 (.agg #[.string ByteArray.empty,.slice none 0 0,.slice none 0 0,.string ByteArray.empty]) 80 Tryz.underlying56 HI.out.1 HI.out.2.1 HI.out.2.2.1 HI.out.2.2.2 rfl (by decide) HR7.out ⟨v4,gA,gn,gc,aA,an,ac⟩ HD7.out rfl rfl rfl (tpV_one _) HL1.out HL2.out ?_; intro p2 w2 hrow2 hcur2; have HR8:=Lib.hid hrow2; have HC8:=Lib.hid (hcur2 _ HC7.out); clear hrow2 hcur2)
     go_roundg (left c4)
     case measure => have h1:=HLS.out; have h3:=HGH.out; omega
     case rel => exact ⟨c4,ps ++ [⟨v4,gA,gn,gc,aA,an,ac⟩],Nat.le_refl _,HOK2.out,HC8.out,HR8.out,by rw [List.map_append]; exact HFW.out,by rw [← HTAIL.out,HT1.out,List.map_append]; rfl⟩
   ·have HW1:=Lib.hid h1
    clear h1 hb
    by_cases h8e:n = 16
    ·have g1:((n:Int) == 16) = true:=by simp; omega
     have g1':(n == 16) = true:=by simp; omega
     have HFD:Hid (D = fail d 8):=Lib.hid (by rw [HFU.out,if_pos h8e])
     clear h8e h8 hn hrow hcur
     go_wp2_with (go_at_call 91; (with_reducible refine (HIW.out wOn _ true HCUR.out HW1.out).mono ?_))
     rintro e x30 ⟨rfl,hb3⟩
     have HC3:=Lib.hid (HCUR.out.keep hb3)
     have HR3:=Lib.hid (HROW.out.keep hb3)
     clear hb3
     go_wp2_with (go_at_call 53; (with_reducible refine (HFA.out _ HC3.out).mono ?_))
     rintro e x6 ⟨rfl,hc6,hb6⟩
     rw [← HFD.out] at hc6
     have HCD:=Lib.hid hc6
     have HRW:=Lib.hid (HR3.out.but hb6)
     clear hc6 hb6
     go_wp2_with (go_at_call 139; (with_reducible refine (HRV.out _ (HSG.out _ HRW.out.grown) HCD.out).mono ?_))
     rintro e x7 ⟨gA,gn,gc,aA,an,ac,rfl,hc7,ht7,hf7,ha7,hb7⟩
     have HC7:=Lib.hid hc7
     have HR7:=Lib.hid (HRW.out.but hb7)
     have HD7:Hid (Dep x7 (fun b => w.heap.size ≤ b ∧ (Value.slice pA n pc).ownBlock ≠ some b) (tpN ⟨v4,gA,gn,gc,aA,an,ac⟩)):=Lib.hid (tr_fresh HRW.out ht7 hf7 ha7)
     clear hc7 hb7 ht7 hf7 ha7
     go_wp2_with (at_builtin; refine wpList_append_rowB rfl (.tmp 15) (.tmp 18) _ rfl i0 (.agg #[.string ByteArray.empty,.slice none 0 0,.slice none 0 0,.string ByteArray.empty]) 80 Tryz.underlying56 HI.out.1 HI.out.2.1 HI.out.2.2.1 HI.out.2.2.2 rfl (by decide) HR7.out ⟨v4,gA,gn,gc,aA,an,ac⟩ HD7.out rfl rfl rfl (tpV_one _) HL1.out HL2.out ?_; intro p2 w2 hrow2 hcur2; have HR8:=Lib.hid hrow2; have HC8:=Lib.hid (hcur2 _ HC7.out); clear hrow2 hcur2)
     go_roundg (left c4)
     case measure => have h1:=HLS.out; have h3:=HGH.out; omega
     case rel => exact ⟨c4,ps ++ [⟨v4,gA,gn,gc,aA,an,ac⟩],Nat.le_refl _,HOK2.out,HC8.out,HR8.out,by rw [List.map_append]; exact HFW.out,by rw [← HTAIL.out,HT1.out,List.map_append]; rfl⟩
    ·have g1:((n:Int) == 16) = false:=by simp; omega
     have g1':(n == 16) = false:=by simp; omega
     have HFD:Hid (D = d):=Lib.hid (by rw [HFU.out,if_neg h8e])
     clear h8e h8 hn hrow hcur
     go_wp2_with (go_at_call 91; (with_reducible refine (HIW.out wOn _ true HCUR.out HW1.out).mono ?_))
     rintro e x30 ⟨rfl,hb3⟩
     have HC3:=Lib.hid (HCUR.out.keep hb3)
     have HR3:=Lib.hid (HROW.out.keep hb3)
     clear hb3
     have HCD:=HC3
     rw [← HFD.out] at HCD
     have HRW:=HR3
     go_wp2_with (go_at_call 139; (with_reducible refine (HRV.out _ (HSG.out _ HRW.out.grown) HCD.out).mono ?_))
     rintro e x7 ⟨gA,gn,gc,aA,an,ac,rfl,hc7,ht7,hf7,ha7,hb7⟩
     have HC7:=Lib.hid hc7
     have HR7:=Lib.hid (HRW.out.but hb7)
     have HD7:Hid (Dep x7 (fun b => w.heap.size ≤ b ∧ (Value.slice pA n pc).ownBlock ≠ some b) (tpN ⟨v4,gA,gn,gc,aA,an,ac⟩)):=Lib.hid (tr_fresh HRW.out ht7 hf7 ha7)
     clear hc7 hb7 ht7 hf7 ha7
     go_wp2_with (at_builtin; refine wpList_append_rowB rfl (.tmp 15) (.tmp 18) _ rfl i0 (.agg #[.string ByteArray.empty,.slice none 0 0,.slice none 0 0,.string ByteArray.empty]) 80 Tryz.underlying56 HI.out.1 HI.out.2.1 HI.out.2.2.1 HI.out.2.2.2 rfl (by decide) HR7.out ⟨v4,gA,gn,gc,aA,an,ac⟩ HD7.out rfl rfl rfl (tpV_one _) HL1.out HL2.out ?_; intro p2 w2 hrow2 hcur2; have HR8:=Lib.hid hrow2; have HC8:=Lib.hid (hcur2 _ HC7.out); clear hrow2 hcur2)
     go_roundg (left c4)
     case measure => have h1:=HLS.out; have h3:=HGH.out; omega
     case rel => exact ⟨c4,ps ++ [⟨v4,gA,gn,gc,aA,an,ac⟩],Nat.le_refl _,HOK2.out,HC8.out,HR8.out,by rw [List.map_append]; exact HFW.out,by rw [← HTAIL.out,HT1.out,List.map_append]; rfl⟩
  ·have HFE:Hid (F = (d,ps.map (·.t))):=Lib.hid (by rw [← htail,loopT_no hb])
   have HHB:=Lib.hid hb
   clear hgh hok hfew htail hn hrow hcur hb
   have HW1:Hid (isB d 1 wOn = false):=Lib.hid (by have:=HHB.out; unfold qT at this; simp at this; exact this.1)
   have HW2:Hid (isB d 1 wAuto = false):=Lib.hid (by have:=HHB.out; unfold qT at this; simp at this; exact this.2)
   go_wp2_with (go_at_call 91; (with_reducible refine (HIW.out wOn _ false HCUR.out HW1.out).mono ?_))
   rintro e x30 ⟨rfl,hb3⟩
   have HC3:=Lib.hid (HCUR.out.keep hb3)
   have HR3:=Lib.hid (HROW.out.keep hb3)
   clear hb3
   go_wp2_with (go_at_call 91; (with_reducible refine (HIW.out wAuto _ false HC3.out HW2.out).mono ?_))
   rintro e x31 ⟨rfl,hb3⟩
   have HC3:=Lib.hid (HC3.out.keep hb3)
   have HR3:=Lib.hid (HR3.out.keep hb3)
   clear hb3
   go_wp2_with fail
   go_ret
   refine ⟨pA,n,pc,rfl,by rw [HFE.out]; exact HC3.out,?_,HR3.out.grown⟩
   rw [HFE.out]
   exact HR3.out.far.imp fun x hx => ⟨ps,rfl,hx.1,hx.2⟩
end Go.Proofs.YtjfghaohogcfbaaGreatDoor
namespace Go.Proofs.YtjfghaohogcfbaaGreatDoor
open Go.RowKit CurSpec TermSpec EvalSpec ActSpec NamesSpec ExprSpec TransSpec SynSpec
set_option maxRecDepth 100000
theorem inf_state:(Tryz.prog.info? 58).map (fun i => (i.zero,i.size,i.bytes)) = some (some (.agg #[.string ByteArray.empty,.int .i64 0,.int .i64 0,.slice none 0 0,.slice none 0 0,.slice none 0 0]),6,104):=by kernel_rfl
structure SP where
 x:Sx
 a3:Option Addr
 n3:Nat
 c3:Nat
 a4:Option Addr
 n4:Nat
 c4:Nat
 a5:Option Addr
 n5:Nat
 c5:Nat
def spV (p:SP):List Value:=[.string p.x.s,.int .i64 p.x.kind,.int .i64 p.x.par,.slice p.a3 p.n3 p.c3,.slice p.a4 p.n4 p.c4,.slice p.a5 p.n5 p.c5]
def spN (p:SP) (w:World):Prop:=Acs w (.slice p.a3 p.n3 p.c3) p.x.en ∧ Acs w (.slice p.a4 p.n4 p.c4) p.x.ex ∧ Trs w (.slice p.a5 p.n5 p.c5) p.x.tr
theorem spV_length (p:SP):(spV p).length = 6:=rfl
theorem spV_one (p:SP):∀ u ∈ spV p,u.oneCell' = true:=by
 intro u hu
 simp only [spV,List.mem_cons,List.not_mem_nil,or_false] at hu
 rcases hu with rfl | rfl | rfl | rfl | rfl | rfl <;> rfl
abbrev RowP (W:World) (B:Nat) (wr:World) (pv:Value) (ps:List SP):Prop:=RowB 58 6 spV spN W B wr pv ps
def RetSts (W:World) (B:Nat) (ps:List SP) (p:Cur × List Sx) (e:Ending) (w':World):Prop :=
 ∃ A n cp qs,e = .returned (.slice A n cp) ∧ CurAt w' B p.1 ∧ qs.map (·.x) = p.2 ∧ RowP W B w' (.slice A n cp) (ps ++ qs)
def StateOk (W:World) (B k:Nat):Prop:=∀ (c:Cur) (ps:List SP) (par:Int) (pA:Option Addr) (pc:Nat) (w:World),CurAt w B c → Ok c → RowP W B w (.slice pA ps.length pc) ps → StartS ps.length c → (k = 0 → c.bad ≠ 0) →
 Calls Tryz.prog 50 #[.pointer (some ⟨B,0,none⟩),.slice pA ps.length pc,.int .i64 par,.int .i64 (13 - k)] w (RetSts W B ps (stR k ps.length par c))
theorem stR_body (k n:Nat) (par:Int) (c:Cur) (h:k = 0 → c.bad ≠ 0):stR k n par c = bodyS (kidsR (stR (k - 1)) (k - 1) n) par c:=by
 cases k with
 | zero =>
   have hd:=((to_kdR c).trans ((to_headR c par).trans (to_insR _))).bad (h rfl)
   have hk:kidsR (stR (0 - 1)) (0 - 1) n (insR (headR c par).1).1 = ((insR (headR c par).1).1,[]):=loopT_no fun h' => hd (qS_real h').1
   show bodyS (fun d => (d,[])) par c = _
   unfold bodyS
   rw [hk]
 | succ k => rfl
theorem flat_mid {α:Type} {k:Nat} {f:α → List Value} (hf:∀ a,(f a).length = k) {l r:List α} {a:α} {j:Nat} {u:Value} (hj:j < k) (hu:(f a)[j]? = some u):((l ++ a :: r).flatMap f)[l.length * k + j]? = some u:=by
 rw [flat_get hf (a:=a) (by simp) hj,hu]
theorem dep_nil {w:World} {S:Nat → Prop} (x:Sx) (h:x.en = [] ∧ x.ex = [] ∧ x.tr = []):Dep w S (spN ⟨x,none,0,0,none,0,0,none,0,0⟩):=by
 obtain ⟨s,k,p,en,ex,tr⟩:=x
 obtain ⟨rfl,rfl,rfl⟩:=h
 exact Dep.triv fun w => ⟨acs_nil w,acs_nil w,Trs.nil w⟩
theorem row_at {W wr:World} {B n:Nat} {A:Option Addr} {cp:Nat} {ps qs:List SP} {p:SP} (h:RowP W B wr (.slice A n cp) (ps ++ p :: qs)):n = (ps ++ p :: qs).length ∧ ∃ g,A = some ⟨g,0,none⟩ ∧ n ≤ cp:=by
 obtain ⟨A',c',heq⟩:=h.shape
 cases heq
 obtain ⟨g,cap,heq,hn⟩:=own_at h.own (by simp; omega)
 cases heq
 exact ⟨rfl,g,rfl,hn⟩
theorem row_cells {W wr:World} {B g n cp:Nat} {ps qs:List SP} {p:SP} (h:RowP W B wr (.slice (some ⟨g,0,none⟩) n cp) (ps ++ p :: qs)) :
 wr.cell? ⟨g,ps.length * 6 + 1,none⟩ = some (.int .i64 p.x.kind) ∧ wr.cell? ⟨g,ps.length * 6 + 3,none⟩ = some (.slice p.a3 p.n3 p.c3) ∧ wr.cell? ⟨g,ps.length * 6 + 4,none⟩ = some (.slice p.a4 p.n4 p.c4) ∧ wr.cell? ⟨g,ps.length * 6 + 5,none⟩ = some (.slice p.a5 p.n5 p.c5) ∧
  (∀ j,wr.frozen? ⟨g,j,none⟩ = false):=by
 obtain ⟨rfl,-⟩:=row_at h
 obtain ⟨⟨cur,hc,-⟩,hcell⟩:=own_cell h.own
 refine ⟨hcell _ _ (flat_mid spV_length (by omega) rfl),hcell _ _ (flat_mid spV_length (by omega) rfl),hcell _ _ (flat_mid spV_length (by omega) rfl),hcell _ _ (flat_mid spV_length (by omega) rfl),fun j => free_of_block' hc j⟩
theorem row_set {W wr:World} {B g n cp j:Nat} {ps qs:List SP} {p p':SP} {u:Value} (h:RowP W B wr (.slice (some ⟨g,0,none⟩) n cp) (ps ++ p :: qs)) (hj:j < 6) (hu:spV p' = (spV p).set j u)
 (hn:Dep wr (fun b => W.heap.size ≤ b ∧ (Value.slice (some ⟨g,0,none⟩) n cp).ownBlock ≠ some b) (spN p')):RowP W B (wr.setCell ⟨g,ps.length * 6 + j,none⟩ u) (.slice (some ⟨g,0,none⟩) n cp) (ps ++ p' :: qs):=by
 obtain ⟨rfl,-⟩:=row_at h
 have hi:(ps ++ p :: qs)[ps.length]? = some p:=by simp
 have h1:=h.set spV_length hi hj hu hn
 rw [show (ps ++ p :: qs).set ps.length p' = ps ++ p' :: qs by simp] at h1
 exact h1
theorem row_fresh {W wr w':World} {B:Nat} {pv:Value} {ps:List SP} {P:World → Prop} (h:RowP W B wr pv ps) (hp:Dep w' (fun b => wr.heap.size ≤ b) P):Dep w' (fun b => W.heap.size ≤ b ∧ pv.ownBlock ≠ some b) P :=
 hp.mono fun b _ hb => ⟨Nat.le_trans h.grown.size hb,fun e => by have:=(own_block_bd h.own b e).2; omega⟩
theorem row_mid {W wr:World} {B:Nat} {pv:Value} {ps qs:List SP} {p:SP} (h:RowP W B wr pv (ps ++ p :: qs)):Dep wr (fun b => W.heap.size ≤ b ∧ pv.ownBlock ≠ some b) (spN p):=h.dep p (by simp)
end Go.Proofs.YtjfghaohogcfbaaGreatDoor