/- RulesLaw, joined. -/
import Derived.Test.YtbdalbpackfejaaMRulesBroken21
import Derived.Test.YtbdalbpackfejaaMRulesBroken20
namespace Go.Proofs.Ytbdalbpackfejaa
open Go.RowKit Go.Sort TermSpec NamesSpec EvalSpec ActSpec TransSpec SynSpec RulesSpec PrintSpec
set_option maxRecDepth 100000
theorem brk_few {x:Cx} (hf:FewR x) (r:Int):(brk x r).length ≤ 1000000:=by
 have h1:=hf.evl; have h2:=hf.val; have h3:=hf.stl
 unfold brk
 split
 ·rw [itemsF_length]; exact Nat.le_trans (twinsTo_length _ _) (by omega)
 split
 ·rw [itemsF_length]; exact Nat.le_trans (twinsTo_length _ _) (by unfold vnC; rw [List.length_map]; omega)
 split
 ·rw [itemsF_length]; exact Nat.le_trans (plTo_length _ _) (by omega)
 split
 ·rw [itemsF_length]; exact Nat.le_trans (twinsTo_length _ _) (by unfold snC; rw [List.length_map]; omega)
 split
 ·rw [itemsF_length]; exact Nat.le_trans (plTo_length _ _) (by omega)
 exact Nat.le_trans (ptTo_length (fun s hs => (hf.sts s hs).2.2) _) (by omega)
section
variable (x:Cx) (eA:Option Addr) (en ec:Nat) (vA:Option Addr) (vn vc:Nat) (sA:Option Addr) (sn sc:Nat) (w:World) (h:ChIn w (.slice eA en ec) (.slice vA vn vc) (.slice sA sn sc) x) (hf:FitC x) (hv:∀ v ∈ x.vars,VFit v)
include h hf hv
omit hv in
set_option maxRecDepth 100000 in
set_option maxHeartbeats 8000000 in
theorem rulesbroken_no (rule:Int) (hl:lightC x = false):Calls Try.prog 3 #[.agg #[.string x.s,.slice eA en ec,.slice vA vn vc,.slice sA sn sc],.int .i64 rule] w fun e w' => e = .returned (.bool true) ∧ Below w.heap.size w w':=by
 have HAW:=Lib.hid (fun W => rwawake_any W)
 have HL:=Lib.hid (fun W (hW:Below w.heap.size w W) => lightC_any x eA en ec vA vn vc sA sn sc W (h.keep hW) hf)
 rw [hl] at HL
 clear h hf hl
 go_enter Try.func3,Try.ntmps3
 go_wp2_with (go_at_call 5; go_fit (HL.out _ (KitC.below_one _ _)))
 rintro e w2 ⟨rfl,hb⟩
 have HB2:=Lib.hid (below_two' (KitC.below_one _ _) hb)
 clear hb
 go_wp2_with (go_at_call 7; go_fit (HAW.out _))
 rintro e w3 ⟨rfl,hb⟩
 have HB3:=Lib.hid (below_two' HB2.out hb)
 clear hb
 go_wp2_with fail
 go_ret
 exact ⟨rfl,HB3.out⟩
omit hv in
set_option maxRecDepth 100000 in
set_option maxHeartbeats 8000000 in
theorem rulesbroken_bad (rule:Int) (hl:lightC x = true) (hm:mayC x = false):Calls Try.prog 3 #[.agg #[.string x.s,.slice eA en ec,.slice vA vn vc,.slice sA sn sc],.int .i64 rule] w fun e w' => e = .returned (.bool true) ∧ Below w.heap.size w w':=by
 have HAW:=Lib.hid (fun W => rwawake_any W)
 have HL:=Lib.hid (fun W (hW:Below w.heap.size w W) => lightC_any x eA en ec vA vn vc sA sn sc W (h.keep hW) hf)
 have HM:=Lib.hid (fun W (hW:Below w.heap.size w W) => mayC_any x eA en ec vA vn vc sA sn sc W (h.keep hW) (chart_fit (chart_light hl) hf))
 rw [hl] at HL
 rw [hm] at HM
 clear h hf hl hm
 go_enter Try.func3,Try.ntmps3
 go_wp2_with (go_at_call 5; go_fit (HL.out _ (KitC.below_one _ _)))
 rintro e w2 ⟨rfl,hb⟩
 have HK:=Lib.hid (fun W (hW:Below w2.heap.size w2 W) => And.intro (KitC.one_block (below_two' hb hW)).1 (KitC.one_block (below_two' hb hW)).2.1)
 obtain ⟨c0,c1,c2,c3⟩:=cells_4 (HK.out _ (Below.refl _ _)).1
 clear hb
 go_wp2_with (go_at_call 6; go_fit (HM.out _ (HK.out _ (Below.refl _ _)).2))
 rintro e w3 ⟨rfl,hb⟩
 have HB3:=Lib.hid hb
 clear hb
 go_wp2_with (go_at_call 7; go_fit (HAW.out _))
 rintro e w4 ⟨rfl,hb⟩
 have HB4:=Lib.hid (below_two' HB3.out hb)
 clear hb
 go_wp2_with fail
 go_ret
 exact ⟨rfl,(HK.out _ HB4.out).2⟩
set_option maxRecDepth 100000 in
set_option maxHeartbeats 16000000 in
theorem rulesbroken_ok (rule:Int) (hl:lightC x = true) (hm:mayC x = true):Calls Try.prog 3 #[.agg #[.string x.s,.slice eA en ec,.slice vA vn vc,.slice sA sn sc],.int .i64 rule] w fun e w' => e = .returned (.bool true) ∧ Below w.heap.size w w':=by
 have hfr:=fewR_of (chart_light hl) hf hv
 obtain ⟨hmr,hck⟩:=mayR_of hm
 have HBR:=Lib.hid (fun (r:Int) W (hW:Below w.heap.size w W) => rbroken_any x eA en ec vA vn vc sA sn sc W (h.keep hW) hfr hck r)
 have HRF:=Lib.hid (fun (r:Int) (h1:1 ≤ r) (h2:r ≤ 10) W (hW:Below w.heap.size w W) => rbk_any x eA en ec vA vn vc sA sn sc W (h.keep hW) hfr hmr r h1 h2)
 have HKP:=Lib.hid (fun (r:Int) W (hW:Below w.heap.size w W) => rkept_any x eA en ec vA vn vc sA sn sc W (h.keep hW) hfr hck r)
 have HAW:=Lib.hid (fun W => rwawake_any W)
 have HL:=Lib.hid (fun W (hW:Below w.heap.size w W) => lightC_any x eA en ec vA vn vc sA sn sc W (h.keep hW) hf)
 have HM:=Lib.hid (fun W (hW:Below w.heap.size w W) => mayC_any x eA en ec vA vn vc sA sn sc W (h.keep hW) (chart_fit (chart_light hl) hf))
 rw [hl] at HL
 rw [hm] at HM
 obtain ⟨B,hB⟩:∃ B:Int → List Fw,B = brk x:=⟨_,rfl⟩
 have HBN:Hid (∀ r,r < 1 ∨ 10 < r → B r = []):=Lib.hid (fun r hr => by rw [hB]; exact brk_other hr)
 have HBL:Hid (∀ r,(B r).length ≤ 1000000):=Lib.hid (fun r => by rw [hB]; exact brk_few hfr r)
 rw [← hB] at HBR HRF HKP
 obtain ⟨nm,hnm⟩:∃ nm,nm = x.s:=⟨_,rfl⟩
 rw [← hnm] at HL HM HBR HRF HKP ⊢
 clear h hf hv hl hm hfr hmr hck hB hnm
 by_cases r1:1 ≤ rule
 case neg =>
  have g1:decide (1 ≤ rule) = false:=by simpa using r1
  have G0:=Lib.hid (HBN.out rule (.inl (by omega)))
  clear r1
  go_enter Try.func3,Try.ntmps3
  go_wp2_with (go_at_call 5; go_fit (HL.out _ (KitC.below_one _ _)))
  rintro e w2 ⟨rfl,hb⟩
  have HK:=Lib.hid (fun W (hW:Below w2.heap.size w2 W) => And.intro (KitC.one_block (below_two' hb hW)).1 (KitC.one_block (below_two' hb hW)).2.1)
  obtain ⟨c0,c1,c2,c3⟩:=cells_4 (HK.out _ (Below.refl _ _)).1
  clear hb
  go_wp2_with (go_at_call 6; go_fit (HM.out _ (HK.out _ (Below.refl _ _)).2))
  rintro e w3 ⟨rfl,hb⟩
  have HB3:=Lib.hid hb
  clear hb c0 c1 c2 c3
  obtain ⟨c0,c1,c2,c3⟩:=cells_4 (HK.out _ HB3.out).1
  go_wp2_with (go_at_call 8; go_fit (HBR.out rule _ (HK.out _ HB3.out).2))
  rintro e w4 ⟨A,n,c,rfl,hn,hfw,hb⟩
  have HB4:=Lib.hid (below_two' HB3.out hb)
  have HF:=Lib.hid (fun W (hW:Below w4.heap.size w4 W) => hfw.keep hW)
  have HN:=Lib.hid hn
  have hnb:n ≤ 1000000:=by rw [hn]; exact HBL.out rule
  clear hb hfw hn c0 c1 c2 c3
  obtain ⟨W5,hW5⟩:∃ W5,w4.alloc (.cells #[] 52) = W5:=⟨_,rfl⟩
  have HB5:=Lib.hid (show Below w4.heap.size w4 W5 by rw [← hW5]; exact KitC.below_one _ _)
  have HF2:Hid (Fws W5 (.slice (some ⟨w4.heap.size,0,none⟩) 0 0) (B rule)):=Lib.hid (by rw [G0.out,← hW5]; exact RowF.fws (W:=w4) ⟨World.ownsRow_lit w4 #[] 0 (Nat.le_refl _) (Nat.zero_le _) rfl,KitC.below_one _ _⟩)
  have HW5:=Lib.hid hW5
  have HB6:=Lib.hid (below_two' HB4.out HB5.out)
  clear hW5
  obtain rfl:n = 0:=by rw [HN.out,G0.out]; rfl
  obtain ⟨c0,c1,c2,c3⟩:=cells_4 (HK.out _ HB6.out).1
  go_wp2_with (rw [HW5.out]; go_at_call 10; go_fit (fwsame_any A (some ⟨w4.heap.size,0,none⟩) 0 0 c 0 (B rule) _ (HF.out _ HB5.out) HF2.out (by decide)))
  rintro e w7 ⟨rfl,hb⟩
  have HB7:=Lib.hid (below_two' HB6.out hb)
  clear hb c0 c1 c2 c3
  obtain ⟨c0,c1,c2,c3⟩:=cells_4 (HK.out _ HB7.out).1
  go_wp2_with (go_at_call 11; go_fit (HKP.out rule _ (HK.out _ HB7.out).2))
  rintro e w8 ⟨rfl,hb⟩
  have HB8:=Lib.hid (below_two' HB7.out hb)
  clear hb c0 c1 c2 c3
  rw [show decide ((B rule).length = 0) = true by rw [G0.out]; rfl]
  go_wp2_with (go_at_call 7; go_fit (HAW.out _))
  rintro e w9 ⟨rfl,hb⟩
  have HB9:=Lib.hid (below_two' HB8.out hb)
  clear hb
  go_wp2_with fail
  go_ret
  exact ⟨rfl,(HK.out _ HB9.out).2⟩
 have g1:decide (1 ≤ rule) = true:=by simpa using r1
 by_cases r2:rule ≤ 10
 case neg =>
  have g2:decide (rule ≤ 10) = false:=by simpa using r2
  have G0:=Lib.hid (HBN.out rule (.inr (by omega)))
  clear r1 r2
  go_enter Try.func3,Try.ntmps3
  go_wp2_with (go_at_call 5; go_fit (HL.out _ (KitC.below_one _ _)))
  rintro e w2 ⟨rfl,hb⟩
  have HK:=Lib.hid (fun W (hW:Below w2.heap.size w2 W) => And.intro (KitC.one_block (below_two' hb hW)).1 (KitC.one_block (below_two' hb hW)).2.1)
  obtain ⟨c0,c1,c2,c3⟩:=cells_4 (HK.out _ (Below.refl _ _)).1
  clear hb
  go_wp2_with (go_at_call 6; go_fit (HM.out _ (HK.out _ (Below.refl _ _)).2))
  rintro e w3 ⟨rfl,hb⟩
  have HB3:=Lib.hid hb
  clear hb c0 c1 c2 c3
  obtain ⟨c0,c1,c2,c3⟩:=cells_4 (HK.out _ HB3.out).1
  go_wp2_with (go_at_call 8; go_fit (HBR.out rule _ (HK.out _ HB3.out).2))
  rintro e w4 ⟨A,n,c,rfl,hn,hfw,hb⟩
  have HB4:=Lib.hid (below_two' HB3.out hb)
  have HF:=Lib.hid (fun W (hW:Below w4.heap.size w4 W) => hfw.keep hW)
  have HN:=Lib.hid hn
  have hnb:n ≤ 1000000:=by rw [hn]; exact HBL.out rule
  clear hb hfw hn c0 c1 c2 c3
  obtain ⟨W5,hW5⟩:∃ W5,w4.alloc (.cells #[] 52) = W5:=⟨_,rfl⟩
  have HB5:=Lib.hid (show Below w4.heap.size w4 W5 by rw [← hW5]; exact KitC.below_one _ _)
  have HF2:Hid (Fws W5 (.slice (some ⟨w4.heap.size,0,none⟩) 0 0) (B rule)):=Lib.hid (by rw [G0.out,← hW5]; exact RowF.fws (W:=w4) ⟨World.ownsRow_lit w4 #[] 0 (Nat.le_refl _) (Nat.zero_le _) rfl,KitC.below_one _ _⟩)
  have HW5:=Lib.hid hW5
  have HB6:=Lib.hid (below_two' HB4.out HB5.out)
  clear hW5
  obtain rfl:n = 0:=by rw [HN.out,G0.out]; rfl
  obtain ⟨c0,c1,c2,c3⟩:=cells_4 (HK.out _ HB6.out).1
  go_wp2_with (rw [HW5.out]; go_at_call 10; go_fit (fwsame_any A (some ⟨w4.heap.size,0,none⟩) 0 0 c 0 (B rule) _ (HF.out _ HB5.out) HF2.out (by decide)))
  rintro e w7 ⟨rfl,hb⟩
  have HB7:=Lib.hid (below_two' HB6.out hb)
  clear hb c0 c1 c2 c3
  obtain ⟨c0,c1,c2,c3⟩:=cells_4 (HK.out _ HB7.out).1
  go_wp2_with (go_at_call 11; go_fit (HKP.out rule _ (HK.out _ HB7.out).2))
  rintro e w8 ⟨rfl,hb⟩
  have HB8:=Lib.hid (below_two' HB7.out hb)
  clear hb c0 c1 c2 c3
  rw [show decide ((B rule).length = 0) = true by rw [G0.out]; rfl]
  go_wp2_with (go_at_call 7; go_fit (HAW.out _))
  rintro e w9 ⟨rfl,hb⟩
  have HB9:=Lib.hid (below_two' HB8.out hb)
  clear hb
  go_wp2_with fail
  go_ret
  exact ⟨rfl,(HK.out _ HB9.out).2⟩
 have g2:decide (rule ≤ 10) = true:=by simpa using r2
 have G1:=Lib.hid r1
 have G2:=Lib.hid r2
 clear r1 r2
 go_enter Try.func3,Try.ntmps3
 go_wp2_with (go_at_call 5; go_fit (HL.out _ (KitC.below_one _ _)))
 rintro e w2 ⟨rfl,hb⟩
 have HK:=Lib.hid (fun W (hW:Below w2.heap.size w2 W) => And.intro (KitC.one_block (below_two' hb hW)).1 (KitC.one_block (below_two' hb hW)).2.1)
 obtain ⟨c0,c1,c2,c3⟩:=cells_4 (HK.out _ (Below.refl _ _)).1
 clear hb
 go_wp2_with (go_at_call 6; go_fit (HM.out _ (HK.out _ (Below.refl _ _)).2))
 rintro e w3 ⟨rfl,hb⟩
 have HB3:=Lib.hid hb
 clear hb c0 c1 c2 c3
 obtain ⟨c0,c1,c2,c3⟩:=cells_4 (HK.out _ HB3.out).1
 go_wp2_with (go_at_call 8; go_fit (HBR.out rule _ (HK.out _ HB3.out).2))
 rintro e w4 ⟨A,n,c,rfl,hn,hfw,hb⟩
 have HB4:=Lib.hid (below_two' HB3.out hb)
 have HF:=Lib.hid (fun W (hW:Below w4.heap.size w4 W) => hfw.keep hW)
 have HN:=Lib.hid hn
 have hnb:n ≤ 1000000:=by rw [hn]; exact HBL.out rule
 clear hb hfw hn c0 c1 c2 c3
 obtain ⟨W5,hW5⟩:∃ W5,w4.alloc (.cells #[] 52) = W5:=⟨_,rfl⟩
 have HB5:=Lib.hid (show Below w4.heap.size w4 W5 by rw [← hW5]; exact KitC.below_one _ _)
 have HW5:=Lib.hid hW5
 have HB25:=Lib.hid (below_two' HB4.out HB5.out)
 clear hW5
 obtain ⟨c0,c1,c2,c3⟩:=cells_4 (HK.out _ HB4.out).1
 have hws:w.heap.size < w4.heap.size:=(Array.getElem?_eq_some_iff.1 (HK.out _ HB4.out).1).1
 go_wp2_with (rw [HW5.out]; go_at_call 9; go_fit (HRF.out rule G1.out G2.out _ (HK.out _ HB25.out).2))
 rintro e w6 ⟨A2,n2,c2',rfl,hn2,hfw2,hb⟩
 obtain rfl:n2 = n:=hn2.trans HN.out.symm
 have HB6:=Lib.hid (below_two' HB25.out hb)
 have HF2:=Lib.hid hfw2
 have HB46:=Lib.hid (below_two' HB5.out hb)
 clear hb hfw2 hn2 c0 c1 c2 c3 hws
 obtain ⟨c0,c1,c2,c3⟩:=cells_4 (HK.out _ HB6.out).1
 go_wp2_with (go_at_call 10; go_fit (fwsame_any A A2 n2 n2 c c2' (B rule) _ (HF.out _ HB46.out) HF2.out (by omega)))
 rintro e w7 ⟨rfl,hb⟩
 have HB7:=Lib.hid (below_two' HB6.out hb)
 clear hb c0 c1 c2 c3
 obtain ⟨c0,c1,c2,c3⟩:=cells_4 (HK.out _ HB7.out).1
 go_wp2_with (go_at_call 11; go_fit (HKP.out rule _ (HK.out _ HB7.out).2))
 rintro e w8 ⟨rfl,hb⟩
 have HB8:=Lib.hid (below_two' HB7.out hb)
 clear hb c0 c1 c2 c3
 rw [← HN.out]
 have ge:(decide (n2 = 0) == ((n2:Int) == 0)) = true:=by rw [show ((n2:Int) == 0) = decide (n2 = 0) by rw [Bool.eq_iff_iff]; simp]; simp
 go_wp2_with (go_at_call 7; go_fit (HAW.out _))
 rintro e w9 ⟨rfl,hb⟩
 have HB9:=Lib.hid (below_two' HB8.out hb)
 clear hb
 go_wp2_with fail
 go_ret
 exact ⟨rfl,(HK.out _ HB9.out).2⟩
theorem rulesbroken_walk (rule:Int):Calls Try.prog 3 #[.agg #[.string x.s,.slice eA en ec,.slice vA vn vc,.slice sA sn sc],.int .i64 rule] w fun e w' => e = .returned (.bool true) ∧ Below w.heap.size w w':=by
 cases hl:lightC x with
 | false => exact rulesbroken_no x eA en ec vA vn vc sA sn sc w h hf rule hl
 | true =>
   cases hm:mayC x with
   | false => exact rulesbroken_bad x eA en ec vA vn vc sA sn sc w h hf rule hl hm
   | true => exact rulesbroken_ok x eA en ec vA vn vc sA sn sc w h hf hv rule hl hm
end
theorem walk_RulesBroken (x:Cx) (eA:Option Addr) (en ec:Nat) (vA:Option Addr) (vn vc:Nat) (sA:Option Addr) (sn sc:Nat) (rule:Int) (w:World) (h:ChIn w (.slice eA en ec) (.slice vA vn vc) (.slice sA sn sc) x) (hf:FitC x ∧ ∀ v ∈ x.vars,VFit v) (_hr:(Lit.int .i64 rule).wf = true) :
 Calls Try.prog 3 #[.agg #[.string x.s,.slice eA en ec,.slice vA vn vc,.slice sA sn sc],.int .i64 rule] w fun e w' => e = .returned (.bool true) ∧ Below w.heap.size w w':=rulesbroken_walk x eA en ec vA vn vc sA sn sc w h hf.1 hf.2 rule
end Go.Proofs.Ytbdalbpackfejaa