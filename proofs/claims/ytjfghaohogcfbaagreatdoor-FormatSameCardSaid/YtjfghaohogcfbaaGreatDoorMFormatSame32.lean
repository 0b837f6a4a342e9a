/- PrintTextP, PrintPutP, FormOf, joined. -/
import Derived.Test.YtjfghaohogcfbaaGreatDoorMFormatSame31
import Derived.Test.YtjfghaohogcfbaaGreatDoorMFormatSame06
import Derived.Test.YtjfghaohogcfbaaGreatDoorMFormatSame29
import Derived.Lib.UnsafeStr
import Derived.Test.YtjfghaohogcfbaaGreatDoorMFormatSame26
import Derived.Test.YtjfghaohogcfbaaGreatDoorMFormatSame22
import Derived.Deep.DeepFit
import Derived.BigRegion
namespace Go.Proofs.YtjfghaohogcfbaaGreatDoor
open Go.RowKit Go.Sort CurSpec TermSpec EvalSpec ActSpec NamesSpec ExprSpec TransSpec SynSpec PrintSpec
open ShapeSpec (Sh up sf endOf SU)
set_option maxRecDepth 100000
theorem cells_byte:Tryz.prog.cellsOf 5 = 1:=by kernel_rfl
set_option maxHeartbeats 2000000 in
theorem wstr_any (b:Nat) (n:Int) (l:List UInt8) (w:World) (h:WrAt b n l w) (h0:l ≠ []) :
 Calls Tryz.prog 67 #[.pointer (some ⟨b,0,none⟩)] w fun e w' => e = .returned (.string (bs l)) ∧ Below b w w':=by
 obtain ⟨p,v,hbk,hown,hne⟩:∃ p,WrP b p n l w:=by
  rcases h with h | h
  ·exact ⟨_,h⟩
  ·exact ⟨_,h⟩
 have hl0:l.length ≠ 0:=by simpa using h0
 have hcs:=hown
 obtain ⟨g,cap,cur,rfl,hbg,hg,hnc,hcm,hcsz,htake⟩:∃ g cap cur,v = .slice (some ⟨g,0,none⟩) l.length cap ∧ b ≤ g ∧ w.heap[g]? = some (.cells cur 5 (0,0)) ∧ l.length ≤ cap ∧ cap ≤ maxLen ∧ cur.size = cap * 1 ∧ cur.toList.take (l.length * 1) = Lib.byteCells l:=by
  rcases hown.2 with ⟨_,hz⟩ | ⟨g,cap,cur,hv,r⟩
  ·exact absurd hz hl0
  ·exact ⟨g,cap,cur,hv,r⟩
 have c1:w.drew.cell? ⟨b,1,none⟩ = some (.slice (some ⟨g,0,none⟩) l.length cap):=cell_of_block' (show w.drew.heap[b]? = _ from hbk) (i:=1) rfl
 have hSD:(Builtin.unsafeSliceData_ #[107] 162 #[.slice (some ⟨g,0,none⟩) l.length cap]).run Tryz.prog w.drew = .ok (.pointer (some ⟨g,0,none⟩)) w.drew :=
  Lib.run_unsafeSliceData_row _ _ _ _ _ _ (by omega)
 have hUS:(Builtin.unsafeString_ #[162,3] 9 #[.pointer (some ⟨g,0,none⟩),.int .i64 l.length]).run Tryz.prog w.drew = .ok (.string ⟨l.toArray⟩) (w.drew.freeze ⟨g,0,none⟩ l.length):=by
  refine Lib.run_unsafeString_row w.drew 162 3 9 5 Tryz.underlying162 cells_byte g cur.size (by have hg':w.drew.heap[g]? = some (.cells cur 5 (0,0)):=hg; simp [World.shape?,hg']) l h0 (by omega) (by unfold maxLen at hcm; omega) ?_
  intro j x hx
  exact hcs.cells (g:=g) rfl j (.int .u8 x.toNat) (by simp [Lib.byteCells,hx])
 have HG:=Lib.hid hbg
 clear h hbk hown hne h0 hl0 hcs hg hnc hcm hcsz htake hbg
 go_enter Tryz.func67,Tryz.ntmps67
 go_wp2
 go_region
 all_goals (go_wp2; go_ret; exact ⟨rfl,Lib.below_freeze (Below.drew (Below.refl b w)) (p:=⟨g,0,none⟩) HG.out _⟩)
theorem head_ln (s:ByteArray):begT 0 [⟨#[99,104,97,114,116,32]⟩,s] = inT 0 ++ (([99,104,97,114,116] ++ (32 :: (T s ++ [32,123]))) ++ [10]):=by
 unfold begT
 simp [T]
theorem ev_ln {l:List ByteArray} (h:l ≠ []):lnT 1 [⟨#[101,118,101,110,116,32]⟩,bs (sepT l),⟨#[59]⟩] = PrintSpec.evT l:=by
 unfold lnT PrintSpec.evT
 rw [if_neg h]
 simp [T,bs]
theorem var_ln (v:Vr):lnT 1 [⟨#[118,97,114,32]⟩,v.s,⟨#[32]⟩,bs (ValSpec.text v.lo),⟨#[32,46,46,32]⟩,bs (ValSpec.text v.hi),⟨#[32,61,32]⟩,bs (ValSpec.text v.ini),⟨#[59]⟩] = varT v:=by
 unfold lnT varT
 simp [T,bs]
theorem putC_parts {c:Tc} (h:c.Ok):putC c = begT 0 [⟨#[99,104,97,114,116,32]⟩,c.s] ++ PrintSpec.evT c.evs ++ c.vars.flatMap varT ++ stX c.sh c.sts 0 ++ endT 0:=by
 have H:=h.stand
 have hpos:0 < c.sh.length:=(ShapeSpec.stand_su (ShapeSpec.chk_ok h.sh).2.1).1
 unfold putC
 rw [head_ln,stsT_X H.su H.len hpos]
 unfold endT
 simp only [List.append_assoc]
theorem putC_len {c:Tc} (h:c.Ok):(putC c).length ≤ 100000000:=by
 have H:=h.stand
 have hl:=H.len
 have hf:=H.few
 have s1:=stsTo_len H (k:=c.sh.length) (Nat.le_refl _)
 rw [hl,stsTo_all] at s1
 have n1:=name_size h.nm
 have hT:(T c.s).length = c.s.size:=rfl
 have e1:(PrintSpec.evT c.evs).length ≤ 130:=by
  obtain ⟨a,-⟩:=sep_w h.evs
  have:=h.evf
  unfold PrintSpec.evT
  by_cases h0:c.evs = []
  ·rw [if_pos h0]; simp
  ·rw [if_neg h0]
   simp only [List.length_append,List.length_cons,List.length_nil,inT_len]
   omega
 have v1:=flat_le varT (fun _ => 0) 70 0 (L:=c.vars) fun v hv => by have:=(var_w (h.vars v hv)).1; omega
 have hv:=h.vaf
 unfold putC
 simp only [List.length_append,List.length_cons,List.length_nil,inT_len]
 omega
def WVaRel (W:World) (b:Nat) (T0:List UInt8) (m:Nat) (l:List Vr) (i:Value) (wr:World):Prop:=∃ k:Nat,k ≤ m ∧ i = .int .i64 k ∧ WrAt b ((0 + 1:Nat):Int) (T0 ++ (l.take k).flatMap varT) wr ∧ Wrote b W wr
def WCut (W:World) (b:Nat) (T0:List UInt8) (wr:World):Prop:=WrAt b ((0 + 1:Nat):Int) T0 wr ∧ Wrote b W wr
theorem join_evs {A:Option Addr} {n c:Nat} {l:List ByteArray} {w:World} (h:Rd w (.slice A n c) (strV l)) (h8:l.length ≤ 8) (hl:(sepT l).length ≤ 1000):Calls Tryz.prog 63 #[.slice A n c,.string ⟨#[44,32]⟩] w (RetS w (bs (sepT l))):=by
 obtain ⟨A',n',c',heq,hn,hc,hA⟩:=h.strs
 cases heq
 rcases Nat.eq_zero_or_pos n with h0 | h0
 ·subst h0
  obtain rfl:l = []:=List.eq_nil_of_length_eq_zero hn
  exact (Tryz.strings_Join_none A c _ w).mono fun e w' ⟨he,hw⟩ => ⟨he,by rw [hw]; exact Below.refl _ _⟩
 ·obtain ⟨b,off,rfl,hb,hcell⟩:=hA h0
  subst hn
  exact Tryz.strings_Join b off c l ⟨#[44,32]⟩ w hcell hb (by omega) hc (Nat.le_trans hl (by decide))
set_option maxRecDepth 100000 in
set_option maxHeartbeats 16000000 in
theorem wtext_any (c:Tc) (eA:Option Addr) (en ec:Nat) (vA:Option Addr) (vn vc:Nat) (sA:Option Addr) (sn sc:Nat) (w:World) (h:ChIn w (.slice eA en ec) (.slice vA vn vc) (.slice sA sn sc) c.cx) (ok:c.Ok) (hg:SignsIn w) :
 Calls Tryz.prog 33 #[.agg #[.string c.s,.slice eA en ec,.slice vA vn vc,.slice sA sn sc]] w (RetS w (bs (putC c))):=by
 have H:=ok.stand
 have hl:=H.len
 obtain ⟨hvn,hvc⟩:=RdV.len h.vars
 obtain ⟨hsn,hsc⟩:=h.sts.len
 have hsn':sn = c.sts.length:=by rw [hsn]; exact List.length_map _
 have hen:en = c.evs.length:=by obtain ⟨_,_,_,heq,hn,_⟩:=Rd.strs h.evs; cases heq; exact hn.symm
 have hpos:0 < c.sh.length:=(ShapeSpec.stand_su (ShapeSpec.chk_ok ok.sh).2.1).1
 have hup:up c.sh 0 = []:=ShapeSpec.up_no (by rw [H.su.root hpos]; omega)
 have hPT:=putC_parts ok
 have hPL:=putC_len ok
 obtain ⟨W1,hW1⟩:∃ W1,w.alloc (.cells #[.string c.s,.slice eA en ec,.slice vA vn vc,.slice sA sn sc] 33) = W1:=⟨_,rfl⟩
 have hb1:Below w.heap.size w W1:=by rw [← hW1]; exact KitC.below_one _ _
 have hk1:W1.heap[w.heap.size]? = some (.cells #[.string c.s,.slice eA en ec,.slice vA vn vc,.slice sA sn sc] 33 (0,0)):=by rw [← hW1]; exact heap_alloc_new _ _
 obtain ⟨W2,hW2⟩:∃ W2,W1.alloc (.cells #[.pointer none,.slice none 0 0,.int .i64 0] 111) = W2:=⟨_,rfl⟩
 have hb2:Below W1.heap.size W1 W2:=by rw [← hW2]; exact KitC.below_one _ _
 obtain ⟨b,hb⟩:∃ b,b = W1.heap.size:=⟨_,rfl⟩
 have hwr:WrAt b 0 [] W2:=by rw [← hW2,hb]; exact wr_new W1
 rw [← hb] at hb2
 have HK:=Lib.hid (fun W (hW:Below b W1 W) => cells_4 (KitC.block_on hk1 (by rw [← hb]; exact hW)))
 have HCH:=Lib.hid (fun W (hW:Below b W1 W) => h.keep (below_two' hb1 (by rw [← hb]; exact hW)))
 have HEV:=Lib.hid (fun W (hW:Below b W1 W) => join_evs (A:=eA) (n:=en) (c:=ec) (l:=c.evs) ((h.keep (below_two' hb1 (by rw [← hb]; exact hW))).evs) ok.evf (by have:=(sep_w ok.evs).1; have:=ok.evf; omega))
 have HST:Hid (∀ (text:List UInt8) (w':World),Below b W1 w' → WrAt b ((0 + 1:Nat):Int) text w' → text.length + (stX c.sh c.sts 0).length ≤ 1000000000 →
  Calls Tryz.prog 65 #[.pointer (some ⟨b,0,none⟩),.slice sA sn sc,.int .i64 0] w' (RetWr w' b ((0 + 1:Nat):Int) (text ++ stX c.sh c.sts 0))):=Lib.hid fun text w' a1 a2 a3 => by
  have:=wstate_any c.sh c.sts H ok.sh sA sn sc W1 (h.keep hb1).sts (hg.keep hb1) b (by omega) sn 0 (by omega) (by omega) text w' (by rw [← hb]; exact a1) (by rw [hup]; exact a2) a3
  rw [hup] at this
  exact this
 have HVAR:=Lib.hid (fun v (hv:v ∈ c.vars) => ok.vars v hv)
 have HVN:=Lib.hid hvn
 have HW1:=Lib.hid hW1
 have HW2:=Lib.hid hW2
 have HB1:=Lib.hid hb1
 have HB2:=Lib.hid hb2
 have HBB:=Lib.hid hb
 have hv4:=ok.vaf
 have hvn4:vn ≤ 4:=by rw [hvn]; exact hv4
 obtain ⟨s,evs,vars,sts⟩:=c
 simp only [Tc.cx] at hPT HK HCH HEV HST HVAR HVN HW1 hen hvn
 obtain ⟨T1,hT1⟩:∃ T1,T1 = begT 0 [⟨#[99,104,97,114,116,32]⟩,s]:=⟨_,rfl⟩
 obtain ⟨T2,hT2⟩:∃ T2,T2 = T1 ++ PrintSpec.evT evs:=⟨_,rfl⟩
 obtain ⟨T3,hT3⟩:∃ T3,T3 = T2 ++ vars.flatMap varT:=⟨_,rfl⟩
 obtain ⟨X,hX⟩:∃ X,X = stX (Tc.sh ⟨s,evs,vars,sts⟩) sts 0:=⟨_,rfl⟩
 rw [← hX] at HST hPT
 obtain ⟨T4,hT4⟩:∃ T4,T4 = T3 ++ X:=⟨_,rfl⟩
 have hTX:putC ⟨s,evs,vars,sts⟩ = T4 ++ endT 0:=by rw [hPT,hT4,hT3,hT2,hT1]
 obtain ⟨R,hR⟩:∃ R,R = bs (putC ⟨s,evs,vars,sts⟩):=⟨_,rfl⟩
 rw [← hR]
 rw [hTX] at hPL hR
 rw [List.length_append] at hPL
 have hL3:T3.length + X.length ≤ 100000000:=by rw [hT4,List.length_append] at hPL; omega
 have hL2:T2.length + (vars.flatMap varT).length ≤ 100000000:=by rw [hT3,List.length_append] at hL3; omega
 have hL1:T1.length + (PrintSpec.evT evs).length ≤ 100000000:=by rw [hT2,List.length_append] at hL2; omega
 have HBG:Hid (Calls Tryz.prog 61 #[.pointer (some ⟨b,0,none⟩),.slice (some ⟨W2.heap.size,0,none⟩) 2 2] (W2.alloc (.cells #[.string ⟨#[99,104,97,114,116,32]⟩,.string s] 9)) (RetWr W2 b ((0 + 1:Nat):Int) T1)):=Lib.hid (by
  have h1:=beg_lit b 0 [] [⟨#[99,104,97,114,116,32]⟩,s] _ W2.heap.size 2 W2 rfl hwr rfl rfl (by omega) (by omega) (by rw [← hT1]; show 0 + _ ≤ _; omega)
  rw [← hT1] at h1
  exact h1)
 have hbw:w.heap.size + 1 = b:=by rw [hb,← hW1]; simp
 have HBW:=Lib.hid hbw
 have HEN:=Lib.hid hen
 have HR:=Lib.hid hR
 have HT2:=Lib.hid hT2
 have HT3:=Lib.hid hT3
 have HT4:=Lib.hid hT4
 have HL:=Lib.hid (And.intro hPL (And.intro hL3 (And.intro hL2 hL1)))
 have HEL:=Lib.hid (fun (hne:evs ≠ []) => ev_ln hne)
 have hBe:Below b W1 W2:=hb2
 have HKB:Hid (∀ W,Wrote b W2 W → Below b W1 W):=Lib.hid fun W hW => hBe.trans hW.below
 clear h ok hg H hl hvn hvc hsn hsc hsn' hen hpos hup hPT hPL hW1 hb1 hk1 hW2 hb2 hwr hb hv4 hT1 hT2 hT3 hX hT4 hTX hR hL3 hL2 hL1 hbw hBe
 go_enter Tryz.func33,Tryz.ntmps33
 go_upto_region 2 with fail
 rw [HW1.out,HW2.out,HBW.out]
 obtain ⟨c0,c1,c2,c3⟩:=HK.out W2 HB2.out
 go_wp2_with (go_at_call 61; (with_reducible refine HBG.out.mono ?_))
 rintro e3 w3 ⟨rfl,h3,hx3⟩
 have HW3:=Lib.hid h3
 have HX3:=Lib.hid hx3
 clear c0 c1 c2 c3
 obtain ⟨c0,c1,c2,c3⟩:=HK.out w3 (HKB.out _ hx3)
 have HE3:=Lib.hid (HEV.out w3 (HKB.out _ hx3))
 clear h3 hx3 HBG HEV
 go_upto_if 13 with fail
 go_cut [] from 13 (fun wx => WCut W2 b T2 wx)
 case first =>
  rcases Nat.eq_zero_or_pos en with h0 | h0
  ·have hE:evs = []:=List.eq_nil_of_length_eq_zero (by rw [← HEN.out]; exact h0)
   have HW4:Hid (WrAt b ((0 + 1:Nat):Int) T2 w3):=Lib.hid (by
    have:=HW3.out
    rw [HT2.out,hE]
    simpa [PrintSpec.evT] using this)
   have g0:decide (0 < en) = false:=decide_eq_false (by omega)
   rw [g0]
   clear hE h0 g0
   go_wp2_with fail
   go_meet
   exact ⟨HW4.out,HX3.out⟩
  ·have hE:evs ≠ []:=fun e => by have:=HEN.out; rw [e] at this; simp at this; omega
   have hEL:=HEL.out hE
   have g0:decide (0 < en) = true:=decide_eq_true h0
   obtain ⟨J,hJ⟩:∃ J,J = bs (sepT evs):=⟨_,rfl⟩
   rw [← hJ] at hEL HE3
   have HC:Hid (∀ W,Below w3.heap.size w3 W → Calls Tryz.prog 62 #[.pointer (some ⟨b,0,none⟩),.slice (some ⟨W.heap.size,0,none⟩) 3 3] (W.alloc (.cells #[.string ⟨#[101,118,101,110,116,32]⟩,.string J,.string ⟨#[59]⟩] 9)) (RetWr W b ((0 + 1:Nat):Int) T2)):=Lib.hid fun W hW => by
    have h1:=line_lit b 1 T1 [⟨#[101,118,101,110,116,32]⟩,J,⟨#[59]⟩] _ W.heap.size 3 W rfl (HW3.out.keep hW) rfl rfl (by omega) (by omega) (by rw [hEL]; have:=HL.out.2.2.2; omega)
    rw [hEL,← HT2.out] at h1
    exact h1
   rw [g0]
   clear hE hEL h0 g0 hJ
   go_wp2_with (go_at_call 63; (with_reducible refine HE3.out.mono ?_))
   rintro e4 w4 ⟨rfl,hb4⟩
   have HB4:=Lib.hid hb4
   clear hb4
   go_wp2_with (go_at_call 62; (with_reducible refine (HC.out _ HB4.out).mono ?_))
   rintro e5 w5 ⟨rfl,h5,hx5⟩
   have HW5:=Lib.hid h5
   have HX5:=Lib.hid ((HX3.out.trans (Wrote.of HW3.out.lt HB4.out)).trans hx5)
   clear h5 hx5
   go_wp2_with fail
   go_meet
   exact ⟨HW5.out,HX5.out⟩
 case rest =>
  obtain ⟨hw,hx⟩:=hcut
  have HW:=Lib.hid hw
  have HX:=Lib.hid hx
  clear c0 c1 c2 c3
  obtain ⟨c0,c1,c2,c3⟩:=HK.out _ (HKB.out _ hx)
  clear hw hx HE3 HW3 HX3 HEL
  go_wp2_with fail
  go_loopw [5,22] (fun _ i wr => WVaRel W2 b T2 vn vars i wr) (fun _ i _ => vn - (intOf i).toNat)
  case atStart => exact ⟨0,Nat.zero_le _,rfl,by rw [List.take_zero]; simpa using HW.out,HX.out⟩
  case round =>
   obtain ⟨k,hk,rfl,hw,hx⟩:=hrel
   have HWk:=Lib.hid hw
   have HXk:=Lib.hid hx
   have hbk:=HKB.out _ hx
   have HBK:=Lib.hid hbk
   clear c0 c1 c2 c3 hw hx
   obtain ⟨c0,c1,c2,c3⟩:=HK.out _ hbk
   by_cases hlt:k < vn
   ·obtain ⟨v,hv⟩:∃ v,vars[k]? = some v:=get_some (by rw [← HVN.out]; exact hlt)
    obtain ⟨bv,ov,rfl,hbv,d0,d1,d2,d3⟩:=(RdV.vars (HCH.out wr hbk).vars).at_ hv
    have hok:=HVAR.out v (List.mem_of_getElem? hv)
    simp only [okV,Bool.and_eq_true] at hok
    obtain ⟨-,o2,o3,o4⟩:=hok
    have b2:=small_abs o2
    have b3:=small_abs o3
    have b4:=small_abs o4
    have hln:=var_ln v
    obtain ⟨f1,f2⟩:=flat_part varT hv
    obtain ⟨nm,lo,hi,ini⟩:=v
    simp only at d0 d1 d2 d3 hln b2 b3 b4
    obtain ⟨y2,hy2⟩:∃ y,y = bs (ValSpec.text lo):=⟨_,rfl⟩
    obtain ⟨y3,hy3⟩:∃ y,y = bs (ValSpec.text hi):=⟨_,rfl⟩
    obtain ⟨y4,hy4⟩:∃ y,y = bs (ValSpec.text ini):=⟨_,rfl⟩
    have HL2:Hid (∀ W,Calls Tryz.prog 64 #[.int .i64 lo] W (RetS W y2)):=Lib.hid fun W => by rw [hy2]; exact put_any lo W (by omega) (by omega)
    have HL3:Hid (∀ W,Calls Tryz.prog 64 #[.int .i64 hi] W (RetS W y3)):=Lib.hid fun W => by rw [hy3]; exact put_any hi W (by omega) (by omega)
    have HL4:Hid (∀ W,Calls Tryz.prog 64 #[.int .i64 ini] W (RetS W y4)):=Lib.hid fun W => by rw [hy4]; exact put_any ini W (by omega) (by omega)
    rw [← hy2,← hy3,← hy4] at hln
    obtain ⟨OV,hOV⟩:∃ OV:Obj,OV = .cells #[.string nm,.int .i64 lo,.int .i64 hi,.int .i64 ini] 53:=⟨_,rfl⟩
    have hkv:=heap_alloc_new wr OV
    rw [hOV] at hkv
    have HKV:=Lib.hid (fun W (hW:Below (wr.alloc OV).heap.size (wr.alloc OV) W) => cells_4 (KitC.block_on (by rw [hOV]; exact hkv) hW))
    have HC:Hid (∀ W,Below wr.heap.size wr W → Calls Tryz.prog 62 #[.pointer (some ⟨b,0,none⟩),.slice (some ⟨W.heap.size,0,none⟩) 9 9] (W.alloc (.cells #[.string ⟨#[118,97,114,32]⟩,.string nm,.string ⟨#[32]⟩,.string y2,.string ⟨#[32,46,46,32]⟩,.string y3,.string ⟨#[32,61,32]⟩,.string y4,.string ⟨#[59]⟩] 9)) (RetWr W b ((0 + 1:Nat):Int) (T2 ++ (vars.take (k + 1)).flatMap varT))):=Lib.hid fun W hW => by
     have h1:=line_lit b 1 _ [⟨#[118,97,114,32]⟩,nm,⟨#[32]⟩,y2,⟨#[32,46,46,32]⟩,y3,⟨#[32,61,32]⟩,y4,⟨#[59]⟩] _ W.heap.size 9 W rfl (HWk.out.keep hW) rfl rfl (by omega) (by omega) (by rw [hln]; have:=HL.out.2.2.1; rw [List.length_append]; omega)
     rw [hln,List.append_assoc,← f1] at h1
     exact h1
    have HBL:=Lib.hid (fun W (hW:Below (wr.alloc OV).heap.size (wr.alloc OV) W) => KitC.block_on (by rw [hOV]; exact hkv:(wr.alloc OV).heap[wr.heap.size]? = some OV) hW)
    have HNEB:Hid (wr.heap.size ≠ b):=Lib.hid (by have:=HWk.out.lt; omega)
    rw [hOV] at HKV HBL
    obtain ⟨s0,s1,s2,s3⟩:=cells_4 hkv
    clear hv o2 o3 o4 b2 b3 b4 hln f1 f2 hy2 hy3 hy4 hOV OV hkv hbk
    go_wp2_with fail
    go_region_held3 (fun w' => w'.cell? ⟨wr.heap.size,0,none⟩ = some (.string nm) ∧ w'.cell? ⟨wr.heap.size,1,none⟩ = some (.int .i64 lo) ∧ w'.cell? ⟨wr.heap.size,2,none⟩ = some (.int .i64 hi) ∧ w'.cell? ⟨wr.heap.size,3,none⟩ = some (.int .i64 ini)) (go_keep)
     ((first
       | (go_at_call 64; (with_reducible refine (HL2.out _).mono ?_); rintro e q1 ⟨rfl,hb'⟩; have HQ1:=Lib.hid (undrawn hb'); obtain ⟨t0,t1,t2,t3⟩:=HKV.out _ HQ1.out; clear hb')
       | (go_at_call 64; (with_reducible refine (HL3.out _).mono ?_); rintro e q2 ⟨rfl,hb'⟩; have HQ2:=Lib.hid (below_two' HQ1.out hb'); obtain ⟨x0,x1,x2,x3⟩:=HKV.out _ HQ2.out; clear hb')
       | (go_at_call 64; (with_reducible refine (HL4.out _).mono ?_); rintro e q3 ⟨rfl,hb'⟩; have HQ3:=Lib.hid (below_two' HQ2.out hb'); obtain ⟨z0,z1,z2,z3⟩:=HKV.out _ HQ3.out; have HQ:=Lib.hid (below_two' (KitC.below_one wr _) HQ3.out); have HC3:=Lib.hid (HC.out _ HQ.out); clear hb')
       | (go_at_call 62; (with_reducible refine HC3.out.mono ?_); rintro e q4 ⟨rfl,h4,hx4⟩; have HW4:=Lib.hid h4; have HX4:=Lib.hid ((HXk.out.trans (Wrote.of HWk.out.lt HQ.out)).trans hx4); obtain ⟨v0,v1,v2,v3⟩:=cells_4 (hx4.at_ (HBL.out _ HQ3.out) HNEB.out (by decide)); clear h4 hx4)))
    go_wp2_with fail
    go_roundw
    case rel => exact ⟨k + 1,by omega,by go_num,HW4.out,HX4.out⟩
    case measure => simp [intOf]; omega
   ·obtain rfl:k = vn:=by omega
    have HW9:Hid (WrAt b ((0 + 1:Nat):Int) T3 wr):=Lib.hid (by
     have:=HWk.out
     rw [List.take_of_length_le (by rw [← HVN.out]; exact Nat.le_refl _),← HT3.out] at this
     exact this)
    have HCS:=Lib.hid (HST.out T3 wr hbk HW9.out (by have:=HL.out.2.1; omega))
    clear HWk hbk
    go_wp2_with (go_at_call 65; (with_reducible refine HCS.out.mono ?_))
    rintro e5 w5 ⟨rfl,h5,hx5⟩
    rw [← HT4.out] at h5
    have HW5:=Lib.hid h5
    have HX5:=Lib.hid (HXk.out.trans hx5)
    have HCE:=Lib.hid (wend_any b 0 T4 w5 h5 (by omega) (by have:=HL.out.1; omega))
    clear h5 hx5
    go_wp2_with (go_at_call 66; (with_reducible refine HCE.out.mono ?_))
    rintro e6 w6 ⟨rfl,h6,hx6⟩
    have HX6:=Lib.hid (HX5.out.trans hx6)
    have hne:T4 ++ endT 0 ≠ []:=by unfold endT; simp
    have HCW:=Lib.hid (wstr_any b _ _ w6 h6 hne)
    rw [← HR.out] at HCW
    clear h6 hx6 hne
    go_wp2_with (go_at_call 67; (with_reducible refine HCW.out.mono ?_))
    rintro e7 w7 ⟨rfl,hb7⟩
    have HB7:=Lib.hid (HB1.out.trans (((HKB.out _ HX6.out).trans hb7).mono (by have:=HBW.out; omega)))
    clear hb7
    go_wp2_with fail
    go_ret
    exact ⟨rfl,HB7.out⟩
end Go.Proofs.YtjfghaohogcfbaaGreatDoor
namespace Go.Proofs.YtjfghaohogcfbaaGreatDoor
open Go.RowKit Go.Sort CurSpec TermSpec EvalSpec ActSpec NamesSpec ExprSpec TransSpec SynSpec ScanSpec PrintSpec
set_option maxRecDepth 100000
theorem cx_evs {W:World} {x:Cx} {eA:Option Addr} {en ec:Nat} {v t:Value} (h:ChIn W (.slice eA en ec) v t x):en = x.evs.length:=by
 obtain ⟨_,_,_,heq,hn,_⟩:=Rd.strs h.evs
 cases heq
 exact hn.symm
theorem toks_bad {s:ByteArray} {W w:World} {e:Ending} (h:TokPost W s e w) (h0:(scanT s.data.toList).2.2 ≠ 0) :
 ∃ a c er:Int,e = .returned (.tuple #[.slice none 0 0,.agg #[.int .i64 a,.int .i64 c],.int .i64 er]) ∧ (er != 0) = true ∧ Below W.heap.size W w :=
 ⟨_,_,_,h.2.1 h0,by simpa using h0,h.1⟩
set_option maxHeartbeats 4000000 in
theorem pput_tree (c:Tc) (eA:Option Addr) (en ec:Nat) (vA:Option Addr) (vn vc:Nat) (sA:Option Addr) (sn sc:Nat) (w:World) (hp:PairsIn w) (hg:SignsIn w) (h:ChIn w (.slice eA en ec) (.slice vA vn vc) (.slice sA sn sc) c.cx) (ok:c.Ok) :
 ((scanT (T (bs (putC c)))).2.2 = 0 → Calls Tryz.prog 14 #[.agg #[.string c.s,.slice eA en ec,.slice vA vn vc,.slice sA sn sc]] w (RetPP w (bs (putC c)) 0)) ∧
 ((scanT (T (bs (putC c)))).2.2 ≠ 0 → Calls Tryz.prog 14 #[.agg #[.string c.s,.slice eA en ec,.slice vA vn vc,.slice sA sn sc]] w (RetPP w ⟨#[]⟩ 5)):=by
 have hen:en ≤ 9223372036854775807:=by have:=cx_evs h; have:=ok.evf; rw [show c.cx.evs = c.evs from rfl] at *; omega
 have hvn:vn ≤ 9223372036854775807:=by have:=(RdV.len h.vars).1; have:=ok.vaf; rw [show c.cx.vars = c.vars from rfl] at *; omega
 obtain ⟨W1,hW1⟩:∃ W1,w.alloc (.cells #[.string c.s,.slice eA en ec,.slice vA vn vc,.slice sA sn sc] 33) = W1:=⟨_,rfl⟩
 have hb1:Below w.heap.size w W1:=by rw [← hW1]; exact KitC.below_one _ _
 have hk1:W1.heap[w.heap.size]? = some (.cells #[.string c.s,.slice eA en ec,.slice vA vn vc,.slice sA sn sc] 33 (0,0)):=by rw [← hW1]; exact heap_alloc_new _ _
 have HK:=Lib.hid (fun W (hW:Below W1.heap.size W1 W) => cells_4 (KitC.block_on hk1 hW))
 have HC:Hid (Calls Tryz.prog 32 #[.agg #[.string c.s,.slice eA en ec,.slice vA vn vc,.slice sA sn sc]] W1 (RetI W1 0)):=Lib.hid (by
  have:=pcheck_any c.cx eA en ec vA vn vc sA sn sc W1 (h.keep hb1) (chart_fits ok) hen hvn
  rwa [mayC_of ok] at this)
 have HT:=Lib.hid (fun W (hW:Below W1.heap.size W1 W) => wtext_any c eA en ec vA vn vc sA sn sc W (h.keep (below_two' hb1 hW)) ok (hg.keep (below_two' hb1 hW)))
 obtain ⟨s,hs⟩:∃ s,s = bs (putC c):=⟨_,rfl⟩
 rw [← hs] at HT ⊢
 have HS:=Lib.hid (fun W (hW:Below W1.heap.size W1 W) => stoks_any s W (hp.keep (below_two' hb1 hW)))
 obtain ⟨c0,c1,c2,c3⟩:=cells_4 hk1
 have HW1:=Lib.hid hW1
 have HB1:=Lib.hid hb1
 obtain ⟨nm,evs,vars,sts⟩:=c
 simp only at HK HC HT HW1 c0
 clear hen hvn h ok hg hp hs hW1 hb1 hk1
 refine ⟨fun h0 => ?_,fun h0 => ?_⟩
 ·have HX:=Lib.hid (fun W e w' (h:TokPost W s e w') => toks_at h h0)
  clear h0
  go_enter Tryz.func14,Tryz.ntmps14
  go_wp2_with (rw [HW1.out]; go_at_call 32; (with_reducible refine HC.out.mono ?_))
  rintro e w2 ⟨rfl,hb2⟩
  have HB2:=Lib.hid hb2
  clear c0 c1 c2 c3
  obtain ⟨c0,c1,c2,c3⟩:=HK.out _ hb2
  clear hb2
  go_wp2_with (go_at_call 33; (with_reducible refine (HT.out _ HB2.out).mono ?_))
  rintro e w3 ⟨rfl,hb3⟩
  have HB3:=Lib.hid (below_two' HB2.out hb3)
  clear hb3
  go_wp2_with (go_at_call 18; (with_reducible refine (HS.out _ HB3.out).mono ?_))
  intro e w4 hx
  obtain ⟨A,n,cp,rfl,-,-,hb4⟩:=HX.out _ _ _ hx
  have HB4:=Lib.hid (below_two' HB3.out hb4)
  clear hx hb4
  go_wp2_with fail
  go_ret2
  exact ⟨rfl,below_two' HB1.out (below_two' HB4.out (KitC.below_one _ _))⟩
 ·have HX:=Lib.hid (fun W e w' (h:TokPost W s e w') => toks_bad h h0)
  clear h0
  go_enter Tryz.func14,Tryz.ntmps14
  go_wp2_with (rw [HW1.out]; go_at_call 32; (with_reducible refine HC.out.mono ?_))
  rintro e w2 ⟨rfl,hb2⟩
  have HB2:=Lib.hid hb2
  clear c0 c1 c2 c3
  obtain ⟨c0,c1,c2,c3⟩:=HK.out _ hb2
  clear hb2
  go_wp2_with (go_at_call 33; (with_reducible refine (HT.out _ HB2.out).mono ?_))
  rintro e w3 ⟨rfl,hb3⟩
  have HB3:=Lib.hid (below_two' HB2.out hb3)
  clear hb3
  go_wp2_with (go_at_call 18; (with_reducible refine (HS.out _ HB3.out).mono ?_))
  intro e w4 hx
  obtain ⟨a,c,er,rfl,g1,hb4⟩:=HX.out _ _ _ hx
  have HB4:=Lib.hid (below_two' HB3.out hb4)
  clear hx hb4
  go_wp2_with fail
  go_ret2
  exact ⟨rfl,below_two' HB1.out (below_two' HB4.out (KitC.below_one _ _))⟩
end Go.Proofs.YtjfghaohogcfbaaGreatDoor
namespace Go.Proofs.YtjfghaohogcfbaaGreatDoor
open Go.RowKit CurSpec TermSpec EvalSpec ActSpec NamesSpec ExprSpec TransSpec SynSpec FormSpec ScanSpec PrintSpec
set_option maxRecDepth 100000
def RetFo (W:World) (o:Fo) (e:Ending) (w':World):Prop:=e = .returned (.tuple #[.string o.t,.agg #[.int .i64 o.l,.int .i64 o.c],.int .i64 o.er]) ∧ Below W.heap.size W w'
abbrev poO (l c:Int):Obj:=.cells #[.int .i64 l,.int .i64 c] 24
theorem put_one {w x:World} {o:Obj} (hb:Below (w.alloc o).heap.size (w.alloc o) x) (u v:Value):Below w.heap.size w ((x.setCell ⟨w.heap.size,0,none⟩ u).setCell ⟨w.heap.size,1,none⟩ v) :=
 ((below_two' (KitC.below_one w o) hb).setCell (Nat.le_refl _) u).setCell (Nat.le_refl _) v
set_option maxHeartbeats 4000000 in
theorem fof_bad (s:ByteArray) (o:Fo) (ho:FoBad s o) (w:World) (hp:PairsIn w) (hg:SignsIn w) (hz:s.size ≤ 9223372036854775807):Calls Tryz.prog 7 #[.string s] w (RetFo w o):=by
 have HT:=Lib.hid (parse_chart s (w.alloc poZ) (hp.alloc _) (hg.keep (KitC.below_one _ _)) hz)
 obtain ⟨P,hP⟩:∃ P,P = parseC s:=⟨_,rfl⟩
 obtain ⟨h1,h2⟩:=ho
 rw [← hP] at HT h1 h2
 have e1:(P.er != 0) = true:=by simpa using h1
 subst h2
 clear h1 hP hp hg hz
 go_enter Tryz.func7,Tryz.ntmps7
 go_wp2_with (go_at_call 10; go_fit HT.out)
 rintro e x1 ⟨eA,en,ec,vA,vn,vc,sA,sn,sc,rfl,-,hb⟩
 have hk:=(one_block hb).1
 have HB:=Lib.hid (fun l c => put_one hb (.int .i64 l) (.int .i64 c))
 have hlt:w.heap.size < x1.heap.size:=(one_block hb).2.2
 obtain ⟨CO,hCO⟩:∃ CO:Obj,CO = .cells #[.string P.x.s,.slice eA en ec,.slice vA vn vc,.slice sA sn sc] 33:=⟨_,rfl⟩
 have hb2:Below w.heap.size w ((x1.alloc CO).alloc (poO P.l P.c)):=below_two' (one_block hb).2.1 (below_two' (KitC.below_one _ _) (KitC.below_one _ _))
 have hpo:((x1.alloc CO).alloc (poO P.l P.c)).heap[x1.heap.size + 1]? = some (poO P.l P.c):=by have:=heap_alloc_new (x1.alloc CO) (poO P.l P.c); rwa [World.size_alloc] at this
 have hre:((x1.alloc CO).alloc (poO P.l P.c)).heap[w.heap.size]? = some poZ:=block_on hk (below_two' (KitC.below_one _ _) (KitC.below_one _ _))
 obtain ⟨Y,hY⟩:∃ Y,(x1.alloc CO).alloc (poO P.l P.c) = Y:=⟨_,rfl⟩
 rw [hY] at hb2 hpo hre
 rw [hCO] at hY
 have HY:=Lib.hid hY
 have HB2:=Lib.hid hb2
 have HK:=Lib.hid hre
 obtain ⟨t0,t1⟩:=cells_2 hpo
 obtain ⟨⟨r0,r1⟩,j0,j1⟩:=And.intro (cells_2 hre) (free_2 hre)
 have n1:¬ x1.heap.size + 1 = w.heap.size:=by omega
 have n2:¬ w.heap.size = x1.heap.size + 1:=by omega
 clear hk hlt hb hCO hb2 hpo hre hY
 go_upto_region 2 with fail
 rw [HY.out]
 go_wp2_with fail
 go_region
 all_goals
  go_wp2_with fail
  obtain ⟨y0,y1⟩:=cells_2 (show ((Y.setCell ⟨w.heap.size,0,none⟩ (.int .i64 P.l)).setCell ⟨w.heap.size,1,none⟩ (.int .i64 P.c)).heap[w.heap.size]? = some (poO P.l P.c) from block_setCell' (block_setCell' HK.out 0 _) 1 _)
  refine bodyPost_ret (v:=.tuple #[.string ⟨#[]⟩,.agg #[.int .i64 P.l,.int .i64 P.c],.int .i64 P.er]) (by simp [results,Tryz.results7,go_sem,y0,y1]) rfl ?_
  exact ⟨rfl,((HB2.out.setCell (Nat.le_refl _) _).setCell (Nat.le_refl _) _).drew⟩
theorem put_says {c:Tc} {o:Fo} (h:FoOk c o):∃ t er,o = ⟨t,0,0,er⟩ ∧ (er = 0 ∨ er = 5 ∧ t = ⟨#[]⟩) ∧ (er = 0 ↔ (scanT (T (bs (putC c)))).2.2 = 0) ∧ (er = 0 → t = bs (putC c)) ∧
 ∀ eA en ec vA vn vc sA sn sc W,PairsIn W → SignsIn W → ChIn W (.slice eA en ec) (.slice vA vn vc) (.slice sA sn sc) c.cx → Calls Tryz.prog 14 #[.agg #[.string c.s,.slice eA en ec,.slice vA vn vc,.slice sA sn sc]] W (RetPP W t er):=by
 obtain ⟨ok,ho⟩:=h
 by_cases hs:(scanT (T (bs (putC c)))).2.2 = 0
 ·rw [if_pos hs] at ho
  exact ⟨_,_,ho,.inl rfl,⟨fun _ => hs,fun _ => rfl⟩,fun _ => rfl,fun eA en ec vA vn vc sA sn sc W hp hg h => (pput_tree c eA en ec vA vn vc sA sn sc W hp hg h ok).1 hs⟩
 ·rw [if_neg hs] at ho
  exact ⟨_,_,ho,.inr ⟨rfl,rfl⟩,⟨(fun h => by cases h),fun h => absurd h hs⟩,(fun h => by cases h),fun eA en ec vA vn vc sA sn sc W hp hg h => (pput_tree c eA en ec vA vn vc sA sn sc W hp hg h ok).2 hs⟩
set_option maxHeartbeats 4000000 in
theorem fof_ok (s:ByteArray) (c:Tc) (o:Fo) (hP:parseC s = ⟨c.cx,0,0,0⟩) (ho:FoOk c o) (w:World) (hp:PairsIn w) (hg:SignsIn w) (hz:s.size ≤ 9223372036854775807):Calls Tryz.prog 7 #[.string s] w (RetFo w o):=by
 have b2:=pb_zero
 have HT:=Lib.hid (parse_chart s (w.alloc poZ) (hp.alloc _) (hg.keep (KitC.below_one _ _)) hz)
 rw [hP] at HT
 obtain ⟨t,er,rfl,he,-,-,hput⟩:=put_says ho
 have HPT:=Lib.hid (fun eA en ec vA vn vc sA sn sc W (hW:Below w.heap.size w W) h => hput eA en ec vA vn vc sA sn sc W (hp.keep hW) (hg.keep hW) h)
 have hcs:c.cx.s = c.s:=rfl
 rw [hcs] at *
 obtain ⟨nm,hnm⟩:∃ nm,nm = c.s:=⟨_,rfl⟩
 rw [← hnm] at HPT
 have HNM:Hid (c.cx.s = nm):=Lib.hid hnm.symm
 clear hP ho hp hg hz hput hcs hnm
 go_enter Tryz.func7,Tryz.ntmps7
 go_wp2_with (go_at_call 10; go_fit HT.out)
 rintro e x1 ⟨eA,en,ec,vA,vn,vc,sA,sn,sc,rfl,hch,hb⟩
 simp only [HNM.out]
 have hk:=(one_block hb).1
 have hlt:w.heap.size < x1.heap.size:=(one_block hb).2.2
 obtain ⟨CO,hCO⟩:∃ CO:Obj,CO = .cells #[.string nm,.slice eA en ec,.slice vA vn vc,.slice sA sn sc] 33:=⟨_,rfl⟩
 have hby:Below x1.heap.size x1 ((x1.alloc CO).alloc poZ):=below_two' (KitC.below_one _ _) (KitC.below_one _ _)
 have hco:((x1.alloc CO).alloc poZ).heap[x1.heap.size]? = some CO:=block_on (heap_alloc_new _ _) (KitC.below_one _ _)
 obtain ⟨Y,hY⟩:∃ Y,(x1.alloc CO).alloc poZ = Y:=⟨_,rfl⟩
 rw [hY] at hby hco
 rw [hCO] at hY hco
 have HY:=Lib.hid hY
 have HBY:=Lib.hid (below_two' (one_block hb).2.1 hby)
 have HCH:=Lib.hid (hch.keep hby)
 have HRE:=Lib.hid (block_on hk hby)
 obtain ⟨t0,t1,t2,t3⟩:=cells_4 hco
 clear hk hlt hb hCO hby hco hY hch
 go_upto_region 4 with fail
 rw [HY.out]
 go_wp2_with (go_at_call 14; go_fit (HPT.out _ _ _ _ _ _ _ _ _ _ HBY.out HCH.out))
 rintro e x2 ⟨rfl,hb⟩
 have HB:=Lib.hid (below_two' HBY.out hb)
 have HK:=Lib.hid (block_on HRE.out hb)
 obtain ⟨⟨r0,r1⟩,j0,j1⟩:=And.intro (cells_2 HK.out) (free_2 HK.out)
 clear hb
 rcases he with rfl | ⟨rfl,rfl⟩
 ·go_wp2_with fail
  obtain ⟨y0,y1⟩:=cells_2 (show ((x2.setCell ⟨w.heap.size,0,none⟩ (.int .i64 0)).setCell ⟨w.heap.size,1,none⟩ (.int .i64 0)).heap[w.heap.size]? = some (poO 0 0) from block_setCell' (block_setCell' HK.out 0 _) 1 _)
  refine bodyPost_ret (v:=.tuple #[.string t,.agg #[.int .i64 0,.int .i64 0],.int .i64 0]) (by simp [results,Tryz.results7,go_sem,y0,y1]) rfl ?_
  exact ⟨rfl,(HB.out.setCell (Nat.le_refl _) _).setCell (Nat.le_refl _) _⟩
 ·go_wp2_with fail
  obtain ⟨y0,y1⟩:=cells_2 (show ((x2.setCell ⟨w.heap.size,0,none⟩ (.int .i64 0)).setCell ⟨w.heap.size,1,none⟩ (.int .i64 0)).heap[w.heap.size]? = some (poO 0 0) from block_setCell' (block_setCell' HK.out 0 _) 1 _)
  refine bodyPost_ret (v:=.tuple #[.string ⟨#[]⟩,.agg #[.int .i64 0,.int .i64 0],.int .i64 5]) (by simp [results,Tryz.results7,go_sem,y0,y1]) rfl ?_
  exact ⟨rfl,(HB.out.setCell (Nat.le_refl _) _).setCell (Nat.le_refl _) _⟩
theorem fof_any (s:ByteArray) (o:Fo) (ho:FoIs s o) (w:World) (hp:PairsIn w) (hg:SignsIn w) (hz:s.size ≤ 9223372036854775807):Calls Tryz.prog 7 #[.string s] w (RetFo w o):=by
 rcases ho with ho | ⟨c,hP,ho⟩
 ·exact fof_bad s o ho w hp hg hz
 ·exact fof_ok s c o hP ho w hp hg hz
set_option maxHeartbeats 4000000 in
theorem fis_any (s:ByteArray) (o:Fo) (ho:FoIs s o) (w:World) (hp:PairsIn w) (hg:SignsIn w) (hz:s.size ≤ 9223372036854775807):Calls Tryz.prog 9 #[.string s] w (RetB w (decide (o.er = 0) && decide (o.t = s))):=by
 have HT:=Lib.hid (fof_any s o ho w hp hg hz)
 clear ho hp hg hz
 go_enter Tryz.func9,Tryz.ntmps9
 go_wp2_with (go_at_call 7; go_fit HT.out)
 rintro e x1 ⟨rfl,hb⟩
 have HB:=Lib.hid (below_two' hb (KitC.below_one x1 (poO o.l o.c)))
 clear hb
 by_cases h0:o.er = 0
 ·have g0:(o.er == 0) = true:=by simpa using h0
  by_cases h1:o.t = s
  ·have g1:(o.t.toList == s.toList) = true:=by rw [h1]; simp
   have HV:Hid ((decide (o.er = 0) && decide (o.t = s)) = true):=Lib.hid (by simp [h0,h1])
   clear h0 h1
   go_wp2_with fail
   go_ret
   exact ⟨ret_bool HV.out.symm,HB.out⟩
  ·have g1:(o.t.toList == s.toList) = false:=(Lib.bytes_beq_false_iff _ _).2 h1
   have HV:Hid ((decide (o.er = 0) && decide (o.t = s)) = false):=Lib.hid (by simp [h1])
   clear h0 h1
   go_wp2_with fail
   go_ret
   exact ⟨ret_bool HV.out.symm,HB.out⟩
 ·have g0:(o.er == 0) = false:=by simpa using h0
  have HV:Hid ((decide (o.er = 0) && decide (o.t = s)) = false):=Lib.hid (by simp [h0])
  clear h0
  go_wp2_with fail
  go_ret
  exact ⟨ret_bool HV.out.symm,HB.out⟩
end Go.Proofs.YtjfghaohogcfbaaGreatDoor