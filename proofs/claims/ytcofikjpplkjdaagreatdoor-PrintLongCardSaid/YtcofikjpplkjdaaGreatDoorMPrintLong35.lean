/- PrintTextP, TermSameG, ActSameG, TransEqual, TransSame, joined. -/
import Derived.Test.YtcofikjpplkjdaaGreatDoorMPrintLong34
import Derived.Test.YtcofikjpplkjdaaGreatDoorMPrintLong07
import Derived.Test.YtcofikjpplkjdaaGreatDoorMPrintLong32
import Derived.Lib.UnsafeStr
import Derived.Test.YtcofikjpplkjdaaGreatDoorMPrintLong06
import Derived.Test.YtcofikjpplkjdaaGreatDoorMPrintLong12
import Derived.Lib.QuietBelow
import Derived.Test.YtcofikjpplkjdaaGreatDoorMPrintLong10
import Derived.Test.YtcofikjpplkjdaaGreatDoorMPrintLong08
namespace Go.Proofs.YtcofikjpplkjdaaGreatDoor
open Go.RowKit Go.Sort CurSpec TermSpec EvalSpec ActSpec NamesSpec ExprSpec TransSpec SynSpec PrintSpec
open ShapeSpec (Sh up sf endOf SU)
set_option maxRecDepth 100000
theorem cells_byte:Tryz.prog.cellsOf 5 = 1:=by kernel_rfl
set_option maxHeartbeats 2000000 in
theorem wstr_any (b:Nat) (n:Int) (l:List UInt8) (w:World) (h:WrAt b n l w) (h0:l ≠ []) :
 Calls Tryz.prog 44 #[.pointer (some ⟨b,0,none⟩)] w fun e w' => e = .returned (.string (bs l)) ∧ Below b w w':=by
 obtain ⟨p,v,hbk,hown,hne⟩:∃ p,WrP b p n l w:=by
  rcases h with h | h
  ·exact ⟨_,h⟩
  ·exact ⟨_,h⟩
 have hl0:l.length ≠ 0:=by simpa using h0
 have hcs:=hown
 obtain ⟨g,cap,cur,rfl,hbg,hg,hnc,hcm,hcsz,htake⟩:∃ g cap cur,v = .slice (some ⟨g,0,none⟩) l.length cap ∧ b ≤ g ∧ w.heap[g]? = some (.cells cur 5 (0,0)) ∧ l.length ≤ cap ∧ cap ≤ maxLen ∧ cur.size = cap * 1 ∧ cur.toList.take (l.length * 1) = Lib.byteCells l:=by
  rcases hown.2 with ⟨_,hz⟩ | ⟨g,cap,cur,hv,r⟩
  ·exact absurd hz hl0
  ·exact ⟨g,cap,cur,hv,r⟩
 have c1:w.drew.cell? ⟨b,1,none⟩ = some (.slice (some ⟨g,0,none⟩) l.length cap):=cell_of_block' (show w.drew.heap[b]? = _ from hbk) (i:=1) rfl
 have hSD:(Builtin.unsafeSliceData_ #[80] 127 #[.slice (some ⟨g,0,none⟩) l.length cap]).run Tryz.prog w.drew = .ok (.pointer (some ⟨g,0,none⟩)) w.drew :=
  Lib.run_unsafeSliceData_row _ _ _ _ _ _ (by omega)
 have hUS:(Builtin.unsafeString_ #[127,3] 9 #[.pointer (some ⟨g,0,none⟩),.int .i64 l.length]).run Tryz.prog w.drew = .ok (.string ⟨l.toArray⟩) (w.drew.freeze ⟨g,0,none⟩ l.length):=by
  refine Lib.run_unsafeString_row w.drew 127 3 9 5 Tryz.underlying127 cells_byte g cur.size (by have hg':w.drew.heap[g]? = some (.cells cur 5 (0,0)):=hg; simp [World.shape?,hg']) l h0 (by omega) (by unfold maxLen at hcm; omega) ?_
  intro j x hx
  exact hcs.cells (g:=g) rfl j (.int .u8 x.toNat) (by simp [Lib.byteCells,hx])
 have HG:=Lib.hid hbg
 clear h hbk hown hne h0 hl0 hcs hg hnc hcm hcsz htake hbg
 go_enter Tryz.func44,Tryz.ntmps44
 go_wp2
 go_region
 all_goals (go_wp2; go_ret; exact ⟨rfl,Lib.below_freeze (Below.drew (Below.refl b w)) (p:=⟨g,0,none⟩) HG.out _⟩)
theorem head_ln (s:ByteArray):begT 0 [⟨#[99,104,97,114,116,32]⟩,s] = inT 0 ++ (([99,104,97,114,116] ++ (32 :: (T s ++ [32,123]))) ++ [10]):=by
 unfold begT
 simp [T]
theorem ev_ln {l:List ByteArray} (h:l ≠ []):lnT 1 [⟨#[101,118,101,110,116,32]⟩,bs (sepT l),⟨#[59]⟩] = PrintSpec.evT l:=by
 unfold lnT PrintSpec.evT
 rw [if_neg h]
 simp [T,bs]
theorem var_ln (v:Vr):lnT 1 [⟨#[118,97,114,32]⟩,v.s,⟨#[32]⟩,bs (ValSpec.text v.lo),⟨#[32,46,46,32]⟩,bs (ValSpec.text v.hi),⟨#[32,61,32]⟩,bs (ValSpec.text v.ini),⟨#[59]⟩] = varT v:=by
 unfold lnT varT
 simp [T,bs]
theorem putC_parts {c:Tc} (h:c.Ok):putC c = begT 0 [⟨#[99,104,97,114,116,32]⟩,c.s] ++ PrintSpec.evT c.evs ++ c.vars.flatMap varT ++ stX c.sh c.sts 0 ++ endT 0:=by
 have H:=h.stand
 have hpos:0 < c.sh.length:=(ShapeSpec.stand_su (ShapeSpec.chk_ok h.sh).2.1).1
 unfold putC
 rw [head_ln,stsT_X H.su H.len hpos]
 unfold endT
 simp only [List.append_assoc]
theorem putC_len {c:Tc} (h:c.Ok):(putC c).length ≤ 100000000:=by
 have H:=h.stand
 have hl:=H.len
 have hf:=H.few
 have s1:=stsTo_len H (k:=c.sh.length) (Nat.le_refl _)
 rw [hl,stsTo_all] at s1
 have n1:=name_size h.nm
 have hT:(T c.s).length = c.s.size:=rfl
 have e1:(PrintSpec.evT c.evs).length ≤ 130:=by
  obtain ⟨a,-⟩:=sep_w h.evs
  have:=h.evf
  unfold PrintSpec.evT
  by_cases h0:c.evs = []
  ·rw [if_pos h0]; simp
  ·rw [if_neg h0]
   simp only [List.length_append,List.length_cons,List.length_nil,inT_len]
   omega
 have v1:=flat_le varT (fun _ => 0) 70 0 (L:=c.vars) fun v hv => by have:=(var_w (h.vars v hv)).1; omega
 have hv:=h.vaf
 unfold putC
 simp only [List.length_append,List.length_cons,List.length_nil,inT_len]
 omega
def WVaRel (W:World) (b:Nat) (T0:List UInt8) (m:Nat) (l:List Vr) (i:Value) (wr:World):Prop:=∃ k:Nat,k ≤ m ∧ i = .int .i64 k ∧ WrAt b ((0 + 1:Nat):Int) (T0 ++ (l.take k).flatMap varT) wr ∧ Wrote b W wr
def WCut (W:World) (b:Nat) (T0:List UInt8) (wr:World):Prop:=WrAt b ((0 + 1:Nat):Int) T0 wr ∧ Wrote b W wr
theorem join_evs {A:Option Addr} {n c:Nat} {l:List ByteArray} {w:World} (h:Rd w (.slice A n c) (strV l)) (h8:l.length ≤ 8) (hl:(sepT l).length ≤ 1000):Calls Tryz.prog 40 #[.slice A n c,.string ⟨#[44,32]⟩] w (RetS w (bs (sepT l))):=by
 obtain ⟨A',n',c',heq,hn,hc,hA⟩:=h.strs
 cases heq
 rcases Nat.eq_zero_or_pos n with h0 | h0
 ·subst h0
  obtain rfl:l = []:=List.eq_nil_of_length_eq_zero hn
  exact (Tryz.strings_Join_none A c _ w).mono fun e w' ⟨he,hw⟩ => ⟨he,by rw [hw]; exact Below.refl _ _⟩
 ·obtain ⟨b,off,rfl,hb,hcell⟩:=hA h0
  subst hn
  exact Tryz.strings_Join b off c l ⟨#[44,32]⟩ w hcell hb (by omega) hc (Nat.le_trans hl (by decide))
set_option maxRecDepth 100000 in
set_option maxHeartbeats 16000000 in
theorem wtext_any (c:Tc) (eA:Option Addr) (en ec:Nat) (vA:Option Addr) (vn vc:Nat) (sA:Option Addr) (sn sc:Nat) (w:World) (h:ChIn w (.slice eA en ec) (.slice vA vn vc) (.slice sA sn sc) c.cx) (ok:c.Ok) (hg:SignsIn w) :
 Calls Tryz.prog 16 #[.agg #[.string c.s,.slice eA en ec,.slice vA vn vc,.slice sA sn sc]] w (RetS w (bs (putC c))):=by
 have H:=ok.stand
 have hl:=H.len
 obtain ⟨hvn,hvc⟩:=RdV.len h.vars
 obtain ⟨hsn,hsc⟩:=h.sts.len
 have hsn':sn = c.sts.length:=by rw [hsn]; exact List.length_map _
 have hen:en = c.evs.length:=by obtain ⟨_,_,_,heq,hn,_⟩:=Rd.strs h.evs; cases heq; exact hn.symm
 have hpos:0 < c.sh.length:=(ShapeSpec.stand_su (ShapeSpec.chk_ok ok.sh).2.1).1
 have hup:up c.sh 0 = []:=ShapeSpec.up_no (by rw [H.su.root hpos]; omega)
 have hPT:=putC_parts ok
 have hPL:=putC_len ok
 obtain ⟨W1,hW1⟩:∃ W1,w.alloc (.cells #[.string c.s,.slice eA en ec,.slice vA vn vc,.slice sA sn sc] 26) = W1:=⟨_,rfl⟩
 have hb1:Below w.heap.size w W1:=by rw [← hW1]; exact KitC.below_one _ _
 have hk1:W1.heap[w.heap.size]? = some (.cells #[.string c.s,.slice eA en ec,.slice vA vn vc,.slice sA sn sc] 26 (0,0)):=by rw [← hW1]; exact heap_alloc_new _ _
 obtain ⟨W2,hW2⟩:∃ W2,W1.alloc (.cells #[.pointer none,.slice none 0 0,.int .i64 0] 84) = W2:=⟨_,rfl⟩
 have hb2:Below W1.heap.size W1 W2:=by rw [← hW2]; exact KitC.below_one _ _
 obtain ⟨b,hb⟩:∃ b,b = W1.heap.size:=⟨_,rfl⟩
 have hwr:WrAt b 0 [] W2:=by rw [← hW2,hb]; exact wr_new W1
 rw [← hb] at hb2
 have HK:=Lib.hid (fun W (hW:Below b W1 W) => cells_4 (KitC.block_on hk1 (by rw [← hb]; exact hW)))
 have HCH:=Lib.hid (fun W (hW:Below b W1 W) => h.keep (below_two' hb1 (by rw [← hb]; exact hW)))
 have HEV:=Lib.hid (fun W (hW:Below b W1 W) => join_evs (A:=eA) (n:=en) (c:=ec) (l:=c.evs) ((h.keep (below_two' hb1 (by rw [← hb]; exact hW))).evs) ok.evf (by have:=(sep_w ok.evs).1; have:=ok.evf; omega))
 have HST:Hid (∀ (text:List UInt8) (w':World),Below b W1 w' → WrAt b ((0 + 1:Nat):Int) text w' → text.length + (stX c.sh c.sts 0).length ≤ 1000000000 →
  Calls Tryz.prog 42 #[.pointer (some ⟨b,0,none⟩),.slice sA sn sc,.int .i64 0] w' (RetWr w' b ((0 + 1:Nat):Int) (text ++ stX c.sh c.sts 0))):=Lib.hid fun text w' a1 a2 a3 => by
  have:=wstate_any c.sh c.sts H ok.sh sA sn sc W1 (h.keep hb1).sts (hg.keep hb1) b (by omega) sn 0 (by omega) (by omega) text w' (by rw [← hb]; exact a1) (by rw [hup]; exact a2) a3
  rw [hup] at this
  exact this
 have HVAR:=Lib.hid (fun v (hv:v ∈ c.vars) => ok.vars v hv)
 have HVN:=Lib.hid hvn
 have HW1:=Lib.hid hW1
 have HW2:=Lib.hid hW2
 have HB1:=Lib.hid hb1
 have HB2:=Lib.hid hb2
 have HBB:=Lib.hid hb
 have hv4:=ok.vaf
 have hvn4:vn ≤ 4:=by rw [hvn]; exact hv4
 obtain ⟨s,evs,vars,sts⟩:=c
 simp only [Tc.cx] at hPT HK HCH HEV HST HVAR HVN HW1 hen hvn
 obtain ⟨T1,hT1⟩:∃ T1,T1 = begT 0 [⟨#[99,104,97,114,116,32]⟩,s]:=⟨_,rfl⟩
 obtain ⟨T2,hT2⟩:∃ T2,T2 = T1 ++ PrintSpec.evT evs:=⟨_,rfl⟩
 obtain ⟨T3,hT3⟩:∃ T3,T3 = T2 ++ vars.flatMap varT:=⟨_,rfl⟩
 obtain ⟨X,hX⟩:∃ X,X = stX (Tc.sh ⟨s,evs,vars,sts⟩) sts 0:=⟨_,rfl⟩
 rw [← hX] at HST hPT
 obtain ⟨T4,hT4⟩:∃ T4,T4 = T3 ++ X:=⟨_,rfl⟩
 have hTX:putC ⟨s,evs,vars,sts⟩ = T4 ++ endT 0:=by rw [hPT,hT4,hT3,hT2,hT1]
 obtain ⟨R,hR⟩:∃ R,R = bs (putC ⟨s,evs,vars,sts⟩):=⟨_,rfl⟩
 rw [← hR]
 rw [hTX] at hPL hR
 rw [List.length_append] at hPL
 have hL3:T3.length + X.length ≤ 100000000:=by rw [hT4,List.length_append] at hPL; omega
 have hL2:T2.length + (vars.flatMap varT).length ≤ 100000000:=by rw [hT3,List.length_append] at hL3; omega
 have hL1:T1.length + (PrintSpec.evT evs).length ≤ 100000000:=by rw [hT2,List.length_append] at hL2; omega
 have HBG:Hid (Calls Tryz.prog 38 #[.pointer (some ⟨b,0,none⟩),.slice (some ⟨W2.heap.size,0,none⟩) 2 2] (W2.alloc (.cells #[.string ⟨#[99,104,97,114,116,32]⟩,.string s] 9)) (RetWr W2 b ((0 + 1:Nat):Int) T1)):=Lib.hid (by
  have h1:=beg_lit b 0 [] [⟨#[99,104,97,114,116,32]⟩,s] _ W2.heap.size 2 W2 rfl hwr rfl rfl (by omega) (by omega) (by rw [← hT1]; show 0 + _ ≤ _; omega)
  rw [← hT1] at h1
  exact h1)
 have hbw:w.heap.size + 1 = b:=by rw [hb,← hW1]; simp
 have HBW:=Lib.hid hbw
 have HEN:=Lib.hid hen
 have HR:=Lib.hid hR
 have HT2:=Lib.hid hT2
 have HT3:=Lib.hid hT3
 have HT4:=Lib.hid hT4
 have HL:=Lib.hid (And.intro hPL (And.intro hL3 (And.intro hL2 hL1)))
 have HEL:=Lib.hid (fun (hne:evs ≠ []) => ev_ln hne)
 have hBe:Below b W1 W2:=hb2
 have HKB:Hid (∀ W,Wrote b W2 W → Below b W1 W):=Lib.hid fun W hW => hBe.trans hW.below
 clear h ok hg H hl hvn hvc hsn hsc hsn' hen hpos hup hPT hPL hW1 hb1 hk1 hW2 hb2 hwr hb hv4 hT1 hT2 hT3 hX hT4 hTX hR hL3 hL2 hL1 hbw hBe
 go_enter Tryz.func16,Tryz.ntmps16
 go_upto_region 2 with fail
 rw [HW1.out,HW2.out,HBW.out]
 obtain ⟨c0,c1,c2,c3⟩:=HK.out W2 HB2.out
 go_wp2_with (go_at_call 38; (with_reducible refine HBG.out.mono ?_))
 rintro e3 w3 ⟨rfl,h3,hx3⟩
 have HW3:=Lib.hid h3
 have HX3:=Lib.hid hx3
 clear c0 c1 c2 c3
 obtain ⟨c0,c1,c2,c3⟩:=HK.out w3 (HKB.out _ hx3)
 have HE3:=Lib.hid (HEV.out w3 (HKB.out _ hx3))
 clear h3 hx3 HBG HEV
 go_upto_if 13 with fail
 go_cut [] from 13 (fun wx => WCut W2 b T2 wx)
 case first =>
  rcases Nat.eq_zero_or_pos en with h0 | h0
  ·have hE:evs = []:=List.eq_nil_of_length_eq_zero (by rw [← HEN.out]; exact h0)
   have HW4:Hid (WrAt b ((0 + 1:Nat):Int) T2 w3):=Lib.hid (by
    have:=HW3.out
    rw [HT2.out,hE]
    simpa [PrintSpec.evT] using this)
   have g0:decide (0 < en) = false:=decide_eq_false (by omega)
   rw [g0]
   clear hE h0 g0
   go_wp2_with fail
   go_meet
   exact ⟨HW4.out,HX3.out⟩
  ·have hE:evs ≠ []:=fun e => by have:=HEN.out; rw [e] at this; simp at this; omega
   have hEL:=HEL.out hE
   have g0:decide (0 < en) = true:=decide_eq_true h0
   obtain ⟨J,hJ⟩:∃ J,J = bs (sepT evs):=⟨_,rfl⟩
   rw [← hJ] at hEL HE3
   have HC:Hid (∀ W,Below w3.heap.size w3 W → Calls Tryz.prog 39 #[.pointer (some ⟨b,0,none⟩),.slice (some ⟨W.heap.size,0,none⟩) 3 3] (W.alloc (.cells #[.string ⟨#[101,118,101,110,116,32]⟩,.string J,.string ⟨#[59]⟩] 9)) (RetWr W b ((0 + 1:Nat):Int) T2)):=Lib.hid fun W hW => by
    have h1:=line_lit b 1 T1 [⟨#[101,118,101,110,116,32]⟩,J,⟨#[59]⟩] _ W.heap.size 3 W rfl (HW3.out.keep hW) rfl rfl (by omega) (by omega) (by rw [hEL]; have:=HL.out.2.2.2; omega)
    rw [hEL,← HT2.out] at h1
    exact h1
   rw [g0]
   clear hE hEL h0 g0 hJ
   go_wp2_with (go_at_call 40; (with_reducible refine HE3.out.mono ?_))
   rintro e4 w4 ⟨rfl,hb4⟩
   have HB4:=Lib.hid hb4
   clear hb4
   go_wp2_with (go_at_call 39; (with_reducible refine (HC.out _ HB4.out).mono ?_))
   rintro e5 w5 ⟨rfl,h5,hx5⟩
   have HW5:=Lib.hid h5
   have HX5:=Lib.hid ((HX3.out.trans (Wrote.of HW3.out.lt HB4.out)).trans hx5)
   clear h5 hx5
   go_wp2_with fail
   go_meet
   exact ⟨HW5.out,HX5.out⟩
 case rest =>
  obtain ⟨hw,hx⟩:=hcut
  have HW:=Lib.hid hw
  have HX:=Lib.hid hx
  clear c0 c1 c2 c3
  obtain ⟨c0,c1,c2,c3⟩:=HK.out _ (HKB.out _ hx)
  clear hw hx HE3 HW3 HX3 HEL
  go_wp2_with fail
  go_loopw [5,22] (fun _ i wr => WVaRel W2 b T2 vn vars i wr) (fun _ i _ => vn - (intOf i).toNat)
  case atStart => exact ⟨0,Nat.zero_le _,rfl,by rw [List.take_zero]; simpa using HW.out,HX.out⟩
  case round =>
   obtain ⟨k,hk,rfl,hw,hx⟩:=hrel
   have HWk:=Lib.hid hw
   have HXk:=Lib.hid hx
   have hbk:=HKB.out _ hx
   have HBK:=Lib.hid hbk
   clear c0 c1 c2 c3 hw hx
   obtain ⟨c0,c1,c2,c3⟩:=HK.out _ hbk
   by_cases hlt:k < vn
   ·obtain ⟨v,hv⟩:∃ v,vars[k]? = some v:=get_some (by rw [← HVN.out]; exact hlt)
    obtain ⟨bv,ov,rfl,hbv,d0,d1,d2,d3⟩:=(RdV.vars (HCH.out wr hbk).vars).at_ hv
    have hok:=HVAR.out v (List.mem_of_getElem? hv)
    simp only [okV,Bool.and_eq_true] at hok
    obtain ⟨-,o2,o3,o4⟩:=hok
    have b2:=small_abs o2
    have b3:=small_abs o3
    have b4:=small_abs o4
    have hln:=var_ln v
    obtain ⟨f1,f2⟩:=flat_part varT hv
    obtain ⟨nm,lo,hi,ini⟩:=v
    simp only at d0 d1 d2 d3 hln b2 b3 b4
    obtain ⟨y2,hy2⟩:∃ y,y = bs (ValSpec.text lo):=⟨_,rfl⟩
    obtain ⟨y3,hy3⟩:∃ y,y = bs (ValSpec.text hi):=⟨_,rfl⟩
    obtain ⟨y4,hy4⟩:∃ y,y = bs (ValSpec.text ini):=⟨_,rfl⟩
    have HL2:Hid (∀ W,Calls Tryz.prog 41 #[.int .i64 lo] W (RetS W y2)):=Lib.hid fun W => by rw [hy2]; exact put_any lo W (by omega) (by omega)
    have HL3:Hid (∀ W,Calls Tryz.prog 41 #[.int .i64 hi] W (RetS W y3)):=Lib.hid fun W => by rw [hy3]; exact put_any hi W (by omega) (by omega)
    have HL4:Hid (∀ W,Calls Tryz.prog 41 #[.int .i64 ini] W (RetS W y4)):=Lib.hid fun W => by rw [hy4]; exact put_any ini W (by omega) (by omega)
    rw [← hy2,← hy3,← hy4] at hln
    obtain ⟨OV,hOV⟩:∃ OV:Obj,OV = .cells #[.string nm,.int .i64 lo,.int .i64 hi,.int .i64 ini] 53:=⟨_,rfl⟩
    have hkv:=heap_alloc_new wr OV
    rw [hOV] at hkv
    have HKV:=Lib.hid (fun W (hW:Below (wr.alloc OV).heap.size (wr.alloc OV) W) => cells_4 (KitC.block_on (by rw [hOV]; exact hkv) hW))
    have HC:Hid (∀ W,Below wr.heap.size wr W → Calls Tryz.prog 39 #[.pointer (some ⟨b,0,none⟩),.slice (some ⟨W.heap.size,0,none⟩) 9 9] (W.alloc (.cells #[.string ⟨#[118,97,114,32]⟩,.string nm,.string ⟨#[32]⟩,.string y2,.string ⟨#[32,46,46,32]⟩,.string y3,.string ⟨#[32,61,32]⟩,.string y4,.string ⟨#[59]⟩] 9)) (RetWr W b ((0 + 1:Nat):Int) (T2 ++ (vars.take (k + 1)).flatMap varT))):=Lib.hid fun W hW => by
     have h1:=line_lit b 1 _ [⟨#[118,97,114,32]⟩,nm,⟨#[32]⟩,y2,⟨#[32,46,46,32]⟩,y3,⟨#[32,61,32]⟩,y4,⟨#[59]⟩] _ W.heap.size 9 W rfl (HWk.out.keep hW) rfl rfl (by omega) (by omega) (by rw [hln]; have:=HL.out.2.2.1; rw [List.length_append]; omega)
     rw [hln,List.append_assoc,← f1] at h1
     exact h1
    have HBL:=Lib.hid (fun W (hW:Below (wr.alloc OV).heap.size (wr.alloc OV) W) => KitC.block_on (by rw [hOV]; exact hkv:(wr.alloc OV).heap[wr.heap.size]? = some OV) hW)
    have HNEB:Hid (wr.heap.size ≠ b):=Lib.hid (by have:=HWk.out.lt; omega)
    rw [hOV] at HKV HBL
    obtain ⟨s0,s1,s2,s3⟩:=cells_4 hkv
    clear hv o2 o3 o4 b2 b3 b4 hln f1 f2 hy2 hy3 hy4 hOV OV hkv hbk
    go_wp2_with fail
    go_region_held3 (fun w' => w'.cell? ⟨wr.heap.size,0,none⟩ = some (.string nm) ∧ w'.cell? ⟨wr.heap.size,1,none⟩ = some (.int .i64 lo) ∧ w'.cell? ⟨wr.heap.size,2,none⟩ = some (.int .i64 hi) ∧ w'.cell? ⟨wr.heap.size,3,none⟩ = some (.int .i64 ini)) (go_keep)
     ((first
       | (go_at_call 41; (with_reducible refine (HL2.out _).mono ?_); rintro e q1 ⟨rfl,hb'⟩; have HQ1:=Lib.hid (undrawn hb'); obtain ⟨t0,t1,t2,t3⟩:=HKV.out _ HQ1.out; clear hb')
       | (go_at_call 41; (with_reducible refine (HL3.out _).mono ?_); rintro e q2 ⟨rfl,hb'⟩; have HQ2:=Lib.hid (below_two' HQ1.out hb'); obtain ⟨x0,x1,x2,x3⟩:=HKV.out _ HQ2.out; clear hb')
       | (go_at_call 41; (with_reducible refine (HL4.out _).mono ?_); rintro e q3 ⟨rfl,hb'⟩; have HQ3:=Lib.hid (below_two' HQ2.out hb'); obtain ⟨z0,z1,z2,z3⟩:=HKV.out _ HQ3.out; have HQ:=Lib.hid (below_two' (KitC.below_one wr _) HQ3.out); have HC3:=Lib.hid (HC.out _ HQ.out); clear hb')
       | (go_at_call 39; (with_reducible refine HC3.out.mono ?_); rintro e q4 ⟨rfl,h4,hx4⟩; have HW4:=Lib.hid h4; have HX4:=Lib.hid ((HXk.out.trans (Wrote.of HWk.out.lt HQ.out)).trans hx4); obtain ⟨v0,v1,v2,v3⟩:=cells_4 (hx4.at_ (HBL.out _ HQ3.out) HNEB.out (by decide)); clear h4 hx4)))
    go_wp2_with fail
    go_roundw
    case rel => exact ⟨k + 1,by omega,by go_num,HW4.out,HX4.out⟩
    case measure => simp [intOf]; omega
   ·obtain rfl:k = vn:=by omega
    have HW9:Hid (WrAt b ((0 + 1:Nat):Int) T3 wr):=Lib.hid (by
     have:=HWk.out
     rw [List.take_of_length_le (by rw [← HVN.out]; exact Nat.le_refl _),← HT3.out] at this
     exact this)
    have HCS:=Lib.hid (HST.out T3 wr hbk HW9.out (by have:=HL.out.2.1; omega))
    clear HWk hbk
    go_wp2_with (go_at_call 42; (with_reducible refine HCS.out.mono ?_))
    rintro e5 w5 ⟨rfl,h5,hx5⟩
    rw [← HT4.out] at h5
    have HW5:=Lib.hid h5
    have HX5:=Lib.hid (HXk.out.trans hx5)
    have HCE:=Lib.hid (wend_any b 0 T4 w5 h5 (by omega) (by have:=HL.out.1; omega))
    clear h5 hx5
    go_wp2_with (go_at_call 43; (with_reducible refine HCE.out.mono ?_))
    rintro e6 w6 ⟨rfl,h6,hx6⟩
    have HX6:=Lib.hid (HX5.out.trans hx6)
    have hne:T4 ++ endT 0 ≠ []:=by unfold endT; simp
    have HCW:=Lib.hid (wstr_any b _ _ w6 h6 hne)
    rw [← HR.out] at HCW
    clear h6 hx6 hne
    go_wp2_with (go_at_call 44; (with_reducible refine HCW.out.mono ?_))
    rintro e7 w7 ⟨rfl,hb7⟩
    have HB7:=Lib.hid (HB1.out.trans (((HKB.out _ HX6.out).trans hb7).mono (by have:=HBW.out; omega)))
    clear hb7
    go_wp2_with fail
    go_ret
    exact ⟨rfl,HB7.out⟩
end Go.Proofs.YtcofikjpplkjdaaGreatDoor
namespace Go.Proofs.YtcofikjpplkjdaaGreatDoor
open Go.RowKit TermSpec Go.BigFrame
set_option maxRecDepth 100000
def TmGRel (W:World) (l m:List Tm) (n:Nat) (v:Value) (w:World):Prop:=∃ k:Nat,k ≤ n ∧ v = .int .i64 k ∧ l.take k = m.take k ∧ Below W.heap.size W w
theorem tm_ne {t u:Tm} (h:t ≠ u):t.op ≠ u.op ∨ (t.op = u.op ∧ t.n ≠ u.n) ∨ (t.op = u.op ∧ t.n = u.n ∧ t.s ≠ u.s):=by
 obtain ⟨a,b,c⟩:=t
 obtain ⟨d,e,f⟩:=u
 simp only
 by_cases h1:a = d
 ·by_cases h2:b = e
  ·exact .inr (.inr ⟨h1,h2,fun h3 => h (by rw [h1,h2,h3])⟩)
  ·exact .inr (.inl ⟨h1,h2⟩)
 ·exact .inl h1
theorem list_ne {α:Type} {l m:List α} {k:Nat} {t u:α} (h1:l[k]? = some t) (h2:m[k]? = some u) (h:t ≠ u):l ≠ m:=fun e => h (by rw [e,h2] at h1; cases h1; rfl)
theorem take_same {α:Type} {l m:List α} {k:Nat} {t:α} (h:l.take k = m.take k) (h1:l[k]? = some t) (h2:m[k]? = some t):l.take (k + 1) = m.take (k + 1):=by rw [take_next h1,take_next h2,h]
theorem bne_bytes {x y:ByteArray} (h:x ≠ y):(x.toList == y.toList) = false:=(Lib.bytes_beq_false_iff x y).2 h
set_option maxHeartbeats 2000000 in
theorem tmsame_dec (A1 A2:Option Addr) (n1 n2 c1 c2:Nat) (l m:List Tm) (b:Bool) (hb:b = true ↔ l = m) (w:World) (h1:Tms w (.slice A1 n1 c1) l) (h2:Tms w (.slice A2 n2 c2) m) (hn1:n1 = l.length) (hn2:n2 = m.length) (hm:n1 ≤ 9223372036854775806) :
 Calls Tryz.prog 106 #[.slice A1 n1 c1,.slice A2 n2 c2] w (RetB w b):=by
 by_cases hnm:n1 = n2
 ·subst hnm
  have HT:=Lib.hid (And.intro h1 h2)
  have HN:=Lib.hid hn1
  have HM:=Lib.hid hn2
  have HBB:=Lib.hid hb
  clear h1 h2 hn1 hn2 hb
  go_enter Tryz.func106,Tryz.ntmps106
  go_wp2_with fail
  go_loopw [5] (fun v wr => TmGRel w l m n1 v wr) (fun v _ => n1 - (intOf v).toNat)
  case atStart => exact ⟨0,Nat.zero_le _,rfl,rfl,Below.refl _ _⟩
  case round =>
   obtain ⟨k,hk,rfl,htk,hbw⟩:=hrel
   by_cases hlt:k < n1
   ·obtain ⟨t,ht⟩:∃ t,l[k]? = some t:=get_some (by rw [← HN.out]; exact hlt)
    obtain ⟨u,hu⟩:∃ u,m[k]? = some u:=get_some (by rw [← HM.out]; exact hlt)
    obtain ⟨b1,off1,rfl,hb1,x0,x1,x2⟩:=(HT.out.1.keep hbw).at_ ht
    obtain ⟨b2,off2,rfl,hb2,y0,y1,y2⟩:=(HT.out.2.keep hbw).at_ hu
    have hltI:(k:Int) < (n1:Int):=by omega
    have HW:=Lib.hid hbw
    have HTK:=Lib.hid htk
    clear hbw htk
    by_cases htu:t = u
    ·subst htu
     have HNX:=Lib.hid (take_same HTK.out ht hu)
     obtain ⟨o,nn,s⟩:=t
     simp only at x0 x1 x2 y0 y1 y2
     clear ht hu
     go_wp2_with fail
     go_big_quiet (fail)
     go_wp2_with fail
     go_roundw
     case rel => exact ⟨k + 1,hlt,by simp,HNX.out,below_drewN HW.out _⟩
     case measure => simp [intOf]; omega
    ·have HST:Hid (b = false):=Lib.hid (by
      have:=list_ne ht hu htu
      rcases b with _ | _
      ·rfl
      ·exact absurd (HBB.out.1 rfl) this)
     have hne:=tm_ne htu
     obtain ⟨o,nn,s⟩:=t
     obtain ⟨o',nn',s'⟩:=u
     simp only at x0 x1 x2 y0 y1 y2 hne
     clear ht hu htu
     rcases hne with hne | ⟨rfl,hne⟩ | ⟨rfl,rfl,hne⟩
     ·have g:(o == o') = false:=by simpa using hne
      clear hne
      go_wp2_with fail
      go_big_quiet (fail)
      go_wp2_with fail
      go_ret
      exact ⟨ret_bool HST.out.symm,below_drewN HW.out _⟩
     ·have g:(nn == nn') = false:=by simpa using hne
      clear hne
      go_wp2_with fail
      go_big_quiet (fail)
      go_wp2_with fail
      go_ret
      exact ⟨ret_bool HST.out.symm,below_drewN HW.out _⟩
     ·have g:=bne_bytes hne
      clear hne
      go_wp2_with fail
      go_big_quiet (fail)
      go_wp2_with fail
      go_ret
      exact ⟨ret_bool HST.out.symm,below_drewN HW.out _⟩
   ·have HE:Hid (b = true):=Lib.hid (HBB.out.2 (by
     have h1:=HN.out
     have h2:=HM.out
     rwa [List.take_of_length_le (by omega),List.take_of_length_le (by omega)] at htk))
    have hltI:¬ (k:Int) < (n1:Int):=by omega
    go_wp2_with fail
    go_ret
    exact ⟨ret_bool HE.out.symm,hbw⟩
 ·have HE:Hid (b = false):=Lib.hid (by
   rcases b with _ | _
   ·rfl
   ·exact absurd (by rw [hn1,hn2,hb.1 rfl]) hnm)
  have g:((n1:Int) != (n2:Int)) = true:=by simp; omega
  have g':((n1:Int) == (n2:Int)) = false:=by simp; omega
  clear h1 h2 hn1 hn2 hb
  go_enter Tryz.func106,Tryz.ntmps106
  go_wp2_with fail
  go_ret
  exact ⟨ret_bool HE.out.symm,Below.refl _ _⟩
end Go.Proofs.YtcofikjpplkjdaaGreatDoor
namespace Go.Proofs.YtcofikjpplkjdaaGreatDoor
open Go.RowKit Go.Sort TermSpec EvalSpec ActSpec NamesSpec Go.BigFrame
set_option maxRecDepth 100000
def AcGRel (W:World) (l m:List Ac) (n:Nat) (v:Value) (w:World):Prop:=∃ k:Nat,k ≤ n ∧ v = .int .i64 k ∧ l.take k = m.take k ∧ Below W.heap.size W w
theorem ac_ne {t u:Ac} (h:t ≠ u):t.s ≠ u.s ∨ (t.s = u.s ∧ t.any ≠ u.any) ∨ (t.s = u.s ∧ t.any = u.any ∧ t.x ≠ u.x):=by
 obtain ⟨a,b,c⟩:=t
 obtain ⟨d,e,f⟩:=u
 simp only
 by_cases h1:a = d
 ·by_cases h2:b = e
  ·exact .inr (.inr ⟨h1,h2,fun h3 => h (by rw [h1,h2,h3])⟩)
  ·exact .inr (.inl ⟨h1,h2⟩)
 ·exact .inl h1
set_option maxHeartbeats 2000000 in
theorem rsame_dec (A1 A2:Option Addr) (n1 n2 c1 c2:Nat) (l m:List Ac) (b:Bool) (hb:b = true ↔ l = m) (w:World) (h1:Acs w (.slice A1 n1 c1) l) (h2:Acs w (.slice A2 n2 c2) m) (hm:n1 ≤ 4398046511104) (hfew:∀ a ∈ l,a.x.length ≤ 4398046511104) :
 Calls Tryz.prog 69 #[.slice A1 n1 c1,.slice A2 n2 c2] w (RetB w b):=by
 have hn1:=h1.len.1
 have hn2:=h2.len.1
 have hc1:=h1.len.2
 have hc2:=h2.len.2
 by_cases hnm:n1 = n2
 ·subst hnm
  have HT:=Lib.hid (And.intro h1 h2)
  have HN:=Lib.hid hn1
  have HM:=Lib.hid hn2
  have HBB:=Lib.hid hb
  have HF:=Lib.hid hfew
  clear h1 h2 hn1 hn2 hb hfew
  go_enter Tryz.func69,Tryz.ntmps69
  go_wp2_with fail
  go_loopw [5] (fun v wr => AcGRel w l m n1 v wr) (fun v _ => n1 - (intOf v).toNat)
  case atStart => exact ⟨0,Nat.zero_le _,rfl,rfl,Below.refl _ _⟩
  case round =>
   obtain ⟨k,hk,rfl,htk,hbw⟩:=hrel
   by_cases hlt:k < n1
   ·obtain ⟨t,ht⟩:∃ t,l[k]? = some t:=get_some (by rw [← HN.out]; exact hlt)
    obtain ⟨u,hu⟩:∃ u,m[k]? = some u:=get_some (by rw [← HM.out]; exact hlt)
    have hx:=HF.out t (List.mem_of_getElem? ht)
    obtain ⟨b1,o1,xA,xn,xc,rfl,hb1,ht1,p0,p1,p2⟩:=(HT.out.1.keep hbw).at_ ht
    obtain ⟨b2,o2,yA,yn,yc,rfl,hb2,ht2,q0,q1,q2⟩:=(HT.out.2.keep hbw).at_ hu
    obtain ⟨_,_,_,heq,hxn,_⟩:=ht1.shape
    cases heq
    obtain ⟨_,_,_,heq,hyn,_⟩:=ht2.shape
    cases heq
    obtain ⟨r,hr⟩:∃ r:Bool,r = true ↔ t.x = u.x:=by
     by_cases h:t.x = u.x
     ·exact ⟨true,by simp [h]⟩
     ·exact ⟨false,by simp [h]⟩
    have HS:Hid (∀ d os,Calls Tryz.prog 106 #[.slice xA xn xc,.slice yA yn yc] (grow (redrawn wr d) os) fun e w'' => e = .returned (.bool r) ∧ ∃ p:Regrown,w'' = grow (redrawn wr p.d) p.os):=Lib.hid (fun d os => Calls.regrown_of (tmsame_dec xA yA xn yn xc yc t.x u.x r hr (grow (redrawn wr d) os) (ht1.keep (below_regrown wr d os)) (ht2.keep (below_regrown wr d os)) hxn hyn (by omega)))
    have hltI:(k:Int) < (n1:Int):=by omega
    have hkI:(k:Int) ≤ 4398046511104:=by omega
    have HW:=Lib.hid hbw
    have HTK:=Lib.hid htk
    clear hbw htk ht1 ht2 hxn hyn hx
    by_cases htu:t = u
    ·subst htu
     have HNX:=Lib.hid (take_same HTK.out ht hu)
     obtain rfl:r = true:=hr.2 rfl
     obtain ⟨s,any,x⟩:=t
     simp only at p0 p1 q0 q1 HS
     have rp0:=cell_regrown p0
     have rp1:=cell_regrown p1
     have rp2:=cell_regrown p2
     have rq0:=cell_regrown q0
     have rq1:=cell_regrown q1
     have rq2:=cell_regrown q2
     clear ht hu p0 p1 p2 q0 q1 q2 hr
     go_wp2_with fail
     refine wp_region_quiet_below (by kernel_rfl) (by kernel_rfl) ?_
     repeat (go_big_quiet_step (exact HS.out _ _))
     refine wpQuiet_nil ?_
     intro _ hw'
     obtain ⟨⟨dq,osq⟩,hw''⟩:=hw'
     subst hw''
     simp only
     have HBQ:=Lib.hid (below_two' HW.out (below_regrown wr dq osq))
     clear rp0 rp1 rp2 rq0 rq1 rq2
     go_wp2_with fail
     go_roundw
     case rel => exact ⟨k + 1,hlt,by go_num,HNX.out,HBQ.out⟩
     case measure => simp [intOf]; omega
    ·have HST:Hid (b = false):=Lib.hid (by
      have:=list_ne ht hu htu
      rcases b with _ | _
      ·rfl
      ·exact absurd (HBB.out.1 rfl) this)
     have hne:=ac_ne htu
     have rp0:=cell_regrown p0
     have rp1:=cell_regrown p1
     have rp2:=cell_regrown p2
     have rq0:=cell_regrown q0
     have rq1:=cell_regrown q1
     have rq2:=cell_regrown q2
     obtain ⟨s,any,x⟩:=t
     obtain ⟨s',any',x'⟩:=u
     simp only at rp0 rp1 rq0 rq1 hne hr
     clear ht hu htu p0 p1 p2 q0 q1 q2
     rcases hne with hne | ⟨rfl,hne⟩ | ⟨rfl,rfl,hne⟩
     ·have g:=bne_bytes hne
      clear hne hr
      go_wp2_with fail
      refine wp_region_quiet_below (by kernel_rfl) (by kernel_rfl) ?_
      repeat (go_big_quiet_step (exact HS.out _ _))
      refine wpQuiet_nil ?_
      intro _ hw'
      obtain ⟨⟨dq,osq⟩,hw''⟩:=hw'
      subst hw''
      simp only
      have HBQ:=Lib.hid (below_two' HW.out (below_regrown wr dq osq))
      clear rp0 rp1 rp2 rq0 rq1 rq2
      go_wp2_with fail
      go_ret
      exact ⟨ret_bool HST.out.symm,HBQ.out⟩
     ·have g:(any == any') = false:=by simpa using hne
      clear hne hr
      go_wp2_with fail
      refine wp_region_quiet_below (by kernel_rfl) (by kernel_rfl) ?_
      repeat (go_big_quiet_step (exact HS.out _ _))
      refine wpQuiet_nil ?_
      intro _ hw'
      obtain ⟨⟨dq,osq⟩,hw''⟩:=hw'
      subst hw''
      simp only
      have HBQ:=Lib.hid (below_two' HW.out (below_regrown wr dq osq))
      clear rp0 rp1 rp2 rq0 rq1 rq2
      go_wp2_with fail
      go_ret
      exact ⟨ret_bool HST.out.symm,HBQ.out⟩
     ·obtain rfl:r = false:=by
       rcases r with _ | _
       ·rfl
       ·exact absurd (hr.1 rfl) hne
      clear hne hr
      go_wp2_with fail
      refine wp_region_quiet_below (by kernel_rfl) (by kernel_rfl) ?_
      repeat (go_big_quiet_step (exact HS.out _ _))
      refine wpQuiet_nil ?_
      intro _ hw'
      obtain ⟨⟨dq,osq⟩,hw''⟩:=hw'
      subst hw''
      simp only
      have HBQ:=Lib.hid (below_two' HW.out (below_regrown wr dq osq))
      clear rp0 rp1 rp2 rq0 rq1 rq2
      go_wp2_with fail
      go_ret
      exact ⟨ret_bool HST.out.symm,HBQ.out⟩
   ·have HE:Hid (b = true):=Lib.hid (HBB.out.2 (by
     have h1:=HN.out
     have h2:=HM.out
     rwa [List.take_of_length_le (by omega),List.take_of_length_le (by omega)] at htk))
    have hltI:¬ (k:Int) < (n1:Int):=by omega
    go_wp2_with fail
    go_ret
    exact ⟨ret_bool HE.out.symm,hbw⟩
 ·have HE:Hid (b = false):=Lib.hid (by
   rcases b with _ | _
   ·rfl
   ·exact absurd (by rw [hn1,hn2,hb.1 rfl]) hnm)
  have g:((n1:Int) != (n2:Int)) = true:=by simp; omega
  have g':((n1:Int) == (n2:Int)) = false:=by simp; omega
  clear h1 h2 hn1 hn2 hb hfew
  go_enter Tryz.func69,Tryz.ntmps69
  go_wp2_with fail
  go_ret
  exact ⟨ret_bool HE.out.symm,Below.refl _ _⟩
end Go.Proofs.YtcofikjpplkjdaaGreatDoor
namespace Go.Proofs.YtcofikjpplkjdaaGreatDoor
open Go.RowKit Go.Sort TermSpec EvalSpec ActSpec NamesSpec Go.BigFrame
set_option maxRecDepth 100000
theorem some_bool (p:Prop):∃ q:Bool,q = true ↔ p:=by
 by_cases h:p
 ·exact ⟨true,by simp [h]⟩
 ·exact ⟨false,by simp [h]⟩
end Go.Proofs.YtcofikjpplkjdaaGreatDoor
namespace Go.Proofs.YtcofikjpplkjdaaGreatDoor
open Go.RowKit TermSpec EvalSpec ActSpec NamesSpec ExprSpec TransSpec
set_option maxRecDepth 100000
theorem tr_parts {t u:Tr} {r qg qa:Bool} (hr:r = true ↔ t = u) (hg:qg = true ↔ t.g = u.g) (ha:qa = true ↔ t.acts = u.acts):r = ((t.ev.toList == u.ev.toList) && ((t.tg.toList == u.tg.toList) && (qg && qa))):=by
 rw [Bool.eq_iff_iff,hr]
 obtain ⟨a,b,c,d⟩:=t
 obtain ⟨a',b',c',d'⟩:=u
 simp only [Bool.and_eq_true,beq_iff_eq] at hg ha ⊢
 rw [hg,ha]
 constructor
 ·rintro h
  cases h
  exact ⟨rfl,rfl,rfl,rfl⟩
 ·rintro ⟨h1,h2,h3,h4⟩
  rw [bytes_eq (x:=a) (y:=a') (by simpa using h1),bytes_eq (x:=d) (y:=d') (by simpa using h2),h3,h4]
set_option maxHeartbeats 4000000 in
theorem trsame_any (t u:Tr) (r:Bool) (hr:r = true ↔ t = u) (gA:Option Addr) (gn gc:Nat) (aA:Option Addr) (an ac:Nat) (gA':Option Addr) (gn' gc':Nat) (aA':Option Addr) (an' ac':Nat) (w:World) (h1:TrIn w gA gn gc aA an ac t) (h2:TrIn w gA' gn' gc' aA' an' ac' u) (hgl:t.g.length ≤ 4398046511104) (hal:t.acts.length ≤ 4398046511104) (hfew:∀ a ∈ t.acts,a.x.length ≤ 4398046511104) :
 Calls Tryz.prog 107 #[.agg #[.string t.ev,.slice gA gn gc,.slice aA an ac,.string t.tg],.agg #[.string u.ev,.slice gA' gn' gc',.slice aA' an' ac',.string u.tg]] w (RetB w r):=by
 obtain ⟨qg,hg⟩:=some_bool (t.g = u.g)
 obtain ⟨qa,ha⟩:=some_bool (t.acts = u.acts)
 have l1:=h1.len
 have l2:=h2.len
 have HG:=Lib.hid (fun W (hW:Below w.heap.size w W) => tmsame_dec gA gA' gn gn' gc gc' t.g u.g qg hg W (h1.g.keep hW) (h2.g.keep hW) l1.1 l2.1 (by omega))
 have HA:=Lib.hid (fun W (hW:Below w.heap.size w W) => rsame_dec aA aA' an an' ac ac' t.acts u.acts qa ha W (h1.a.keep hW) (h2.a.keep hW) (by omega) hfew)
 have HE:=Lib.hid (tr_parts hr hg ha)
 obtain ⟨ev,g,acts,tg⟩:=t
 obtain ⟨ev',g',acts',tg'⟩:=u
 simp only at HE HG HA ⊢
 clear hr hg ha h1 h2 l1 l2 hfew hgl hal
 rcases g1:(ev.toList == ev'.toList) with _ | _
 ·have HR:Hid (r = false):=Lib.hid (by rw [HE.out,g1]; rfl)
  clear HE HG HA
  go_enter Tryz.func107,Tryz.ntmps107
  go_wp2_with fail
  go_ret
  exact ⟨ret_bool HR.out.symm,KitC.below_pair _ _ _⟩
 rcases g2:(tg.toList == tg'.toList) with _ | _
 ·have HR:Hid (r = false):=Lib.hid (by rw [HE.out,g1,g2]; rfl)
  clear HE HG HA
  go_enter Tryz.func107,Tryz.ntmps107
  go_wp2_with fail
  go_ret
  exact ⟨ret_bool HR.out.symm,KitC.below_pair _ _ _⟩
 rcases qg with _ | _
 ·have HR:Hid (r = false):=Lib.hid (by rw [HE.out,g1,g2]; rfl)
  clear HE HA
  go_enter Tryz.func107,Tryz.ntmps107
  go_wp2_with (go_at_call 106; (with_reducible refine (HG.out _ (KitC.below_pair _ _ _)).mono ?_))
  rintro e w2 ⟨rfl,hb⟩
  have HB:=Lib.hid (below_two' (KitC.below_pair _ _ _) hb)
  clear hb
  go_wp2_with fail
  go_ret
  exact ⟨ret_bool HR.out.symm,HB.out⟩
 ·have HR:Hid (r = qa):=Lib.hid (by rw [HE.out,g1,g2]; rfl)
  clear HE
  go_enter Tryz.func107,Tryz.ntmps107
  go_wp2_with (go_at_call 106; (with_reducible refine (HG.out _ (KitC.below_pair _ _ _)).mono ?_))
  rintro e w2 ⟨rfl,hb⟩
  have HB:=Lib.hid (KitC.pair_blocks hb)
  obtain ⟨c0,c1,c2,c3⟩:=cells_4 HB.out.1
  obtain ⟨d0,d1,d2,d3⟩:=cells_4 HB.out.2.1
  clear hb
  go_wp2_with (go_at_call 69; (with_reducible refine (HA.out _ HB.out.2.2.1).mono ?_))
  rintro e w3 ⟨rfl,hb⟩
  have HB3:=Lib.hid (below_two' HB.out.2.2.1 hb)
  clear hb
  go_wp2_with fail
  go_ret
  exact ⟨ret_bool HR.out.symm,HB3.out⟩
end Go.Proofs.YtcofikjpplkjdaaGreatDoor