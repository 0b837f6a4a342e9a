/- RulesLaw, joined. -/
import Derived.Test.YtbdalbpackfejaaMRulesAll21
import Derived.Test.YtbdalbpackfejaaMRulesAll20
namespace Go.Proofs.Ytbdalbpackfejaa
open Go.RowKit Go.Sort TermSpec NamesSpec EvalSpec ActSpec TransSpec SynSpec RulesSpec PrintSpec
set_option maxRecDepth 100000
theorem brk_few {x:Cx} (hf:FewR x) (r:Int):(brk x r).length ≤ 1000000:=by
 have h1:=hf.evl; have h2:=hf.val; have h3:=hf.stl
 unfold brk
 split
 ·rw [itemsF_length]; exact Nat.le_trans (twinsTo_length _ _) (by omega)
 split
 ·rw [itemsF_length]; exact Nat.le_trans (twinsTo_length _ _) (by unfold vnC; rw [List.length_map]; omega)
 split
 ·rw [itemsF_length]; exact Nat.le_trans (plTo_length _ _) (by omega)
 split
 ·rw [itemsF_length]; exact Nat.le_trans (twinsTo_length _ _) (by unfold snC; rw [List.length_map]; omega)
 split
 ·rw [itemsF_length]; exact Nat.le_trans (plTo_length _ _) (by omega)
 exact Nat.le_trans (ptTo_length (fun s hs => (hf.sts s hs).2.2) _) (by omega)
section
variable (x:Cx) (eA:Option Addr) (en ec:Nat) (vA:Option Addr) (vn vc:Nat) (sA:Option Addr) (sn sc:Nat) (w:World) (h:ChIn w (.slice eA en ec) (.slice vA vn vc) (.slice sA sn sc) x) (hf:FitC x) (hv:∀ v ∈ x.vars,VFit v)
include h hf hv
omit hv in
set_option maxRecDepth 100000 in
set_option maxHeartbeats 8000000 in
theorem rulesall_no (hl:lightC x = false):Calls Try.prog 4 #[.agg #[.string x.s,.slice eA en ec,.slice vA vn vc,.slice sA sn sc]] w fun e w' => e = .returned (.bool true) ∧ Below w.heap.size w w':=by
 have HAW:=Lib.hid (fun W => rwawake_any W)
 have HL:=Lib.hid (fun W (hW:Below w.heap.size w W) => lightC_any x eA en ec vA vn vc sA sn sc W (h.keep hW) hf)
 rw [hl] at HL
 clear h hf hl
 go_enter Try.func4,Try.ntmps4
 go_wp2_with (go_at_call 5; go_fit (HL.out _ (KitC.below_one _ _)))
 rintro e w2 ⟨rfl,hb⟩
 have HB2:=Lib.hid (below_two' (KitC.below_one _ _) hb)
 clear hb
 go_wp2_with (go_at_call 7; go_fit (HAW.out _))
 rintro e w3 ⟨rfl,hb⟩
 have HB3:=Lib.hid (below_two' HB2.out hb)
 clear hb
 go_wp2_with fail
 go_ret
 exact ⟨rfl,HB3.out⟩
omit hv in
set_option maxRecDepth 100000 in
set_option maxHeartbeats 8000000 in
theorem rulesall_bad (hl:lightC x = true) (hm:mayC x = false):Calls Try.prog 4 #[.agg #[.string x.s,.slice eA en ec,.slice vA vn vc,.slice sA sn sc]] w fun e w' => e = .returned (.bool true) ∧ Below w.heap.size w w':=by
 have HAW:=Lib.hid (fun W => rwawake_any W)
 have HL:=Lib.hid (fun W (hW:Below w.heap.size w W) => lightC_any x eA en ec vA vn vc sA sn sc W (h.keep hW) hf)
 have HM:=Lib.hid (fun W (hW:Below w.heap.size w W) => mayC_any x eA en ec vA vn vc sA sn sc W (h.keep hW) (chart_fit (chart_light hl) hf))
 rw [hl] at HL
 rw [hm] at HM
 clear h hf hl hm
 go_enter Try.func4,Try.ntmps4
 go_wp2_with (go_at_call 5; go_fit (HL.out _ (KitC.below_one _ _)))
 rintro e w2 ⟨rfl,hb⟩
 have HK:=Lib.hid (fun W (hW:Below w2.heap.size w2 W) => And.intro (KitC.one_block (below_two' hb hW)).1 (KitC.one_block (below_two' hb hW)).2.1)
 obtain ⟨c0,c1,c2,c3⟩:=cells_4 (HK.out _ (Below.refl _ _)).1
 clear hb
 go_wp2_with (go_at_call 6; go_fit (HM.out _ (HK.out _ (Below.refl _ _)).2))
 rintro e w3 ⟨rfl,hb⟩
 have HB3:=Lib.hid hb
 clear hb
 go_wp2_with (go_at_call 7; go_fit (HAW.out _))
 rintro e w4 ⟨rfl,hb⟩
 have HB4:=Lib.hid (below_two' HB3.out hb)
 clear hb
 go_wp2_with fail
 go_ret
 exact ⟨rfl,(HK.out _ HB4.out).2⟩
set_option maxRecDepth 100000 in
set_option maxHeartbeats 16000000 in
theorem rulesall_ok (hl:lightC x = true) (hm:mayC x = true):Calls Try.prog 4 #[.agg #[.string x.s,.slice eA en ec,.slice vA vn vc,.slice sA sn sc]] w fun e w' => e = .returned (.bool true) ∧ Below w.heap.size w w':=by
 have hfr:=fewR_of (chart_light hl) hf hv
 obtain ⟨hmr,hck⟩:=mayR_of hm
 have HBR:=Lib.hid (fun (r:Int) W (hW:Below w.heap.size w W) => rbroken_any x eA en ec vA vn vc sA sn sc W (h.keep hW) hfr hck r)
 have HRF:=Lib.hid (fun (r:Int) (h1:1 ≤ r) (h2:r ≤ 10) W (hW:Below w.heap.size w W) => rbk_any x eA en ec vA vn vc sA sn sc W (h.keep hW) hfr hmr r h1 h2)
 have HKP:=Lib.hid (fun (r:Int) W (hW:Below w.heap.size w W) => rkept_any x eA en ec vA vn vc sA sn sc W (h.keep hW) hfr hck r)
 have HAW:=Lib.hid (fun W => rwawake_any W)
 have HL:=Lib.hid (fun W (hW:Below w.heap.size w W) => lightC_any x eA en ec vA vn vc sA sn sc W (h.keep hW) hf)
 have HM:=Lib.hid (fun W (hW:Below w.heap.size w W) => mayC_any x eA en ec vA vn vc sA sn sc W (h.keep hW) (chart_fit (chart_light hl) hf))
 rw [hl] at HL
 rw [hm] at HM
 obtain ⟨B,hB⟩:∃ B:Int → List Fw,B = brk x:=⟨_,rfl⟩
 have HBN:Hid (∀ r,r < 1 ∨ 10 < r → B r = []):=Lib.hid (fun r hr => by rw [hB]; exact brk_other hr)
 have HBL:Hid (∀ r,(B r).length ≤ 1000000):=Lib.hid (fun r => by rw [hB]; exact brk_few hfr r)
 rw [← hB] at HBR HRF HKP
 obtain ⟨nm,hnm⟩:∃ nm,nm = x.s:=⟨_,rfl⟩
 rw [← hnm] at HL HM HBR HRF HKP ⊢
 clear h hf hv hl hm hfr hmr hck hB hnm
 go_enter Try.func4,Try.ntmps4
 go_wp2_with (go_at_call 5; go_fit (HL.out _ (KitC.below_one _ _)))
 rintro e w2 ⟨rfl,hb⟩
 have HK:=Lib.hid (fun W (hW:Below w2.heap.size w2 W) => And.intro (KitC.one_block (below_two' hb hW)).1 (KitC.one_block (below_two' hb hW)).2.1)
 obtain ⟨c0,c1,c2,c3⟩:=cells_4 (HK.out _ (Below.refl _ _)).1
 clear hb
 go_wp2_with (go_at_call 6; go_fit (HM.out _ (HK.out _ (Below.refl _ _)).2))
 rintro e w3 ⟨rfl,hb⟩
 have HB3:=Lib.hid hb
 clear hb c0 c1 c2 c3
 go_wp2_with fail
 go_loopw [3] (fun i wr => ∃ r:Nat,1 ≤ r ∧ r ≤ 11 ∧ i = .int .i64 r ∧ Hid (Below w2.heap.size w2 wr)) (fun i _ => 11 - (intOf i).toNat)
 case atStart => exact ⟨1,by decide,by decide,rfl,HB3⟩
 case round =>
  obtain ⟨r,hr1,hr2,rfl,HBW⟩:=hrel
  by_cases hlt:r ≤ 10
  case neg =>
   have g:decide ((r:Int) ≤ 10) = false:=by simp; omega
   go_wp2_with (go_at_call 7; go_fit (HAW.out _))
   rintro e w9 ⟨rfl,hb⟩
   have HB9:=Lib.hid (below_two' HBW.out hb)
   clear hb
   go_wp2_with fail
   go_ret
   exact ⟨rfl,(HK.out _ HB9.out).2⟩
  have g:decide ((r:Int) ≤ 10) = true:=by simp; omega
  obtain ⟨c0,c1,c2,c3⟩:=cells_4 (HK.out _ HBW.out).1
  have hdr:Below w2.heap.size w2 wr.drew:=HBW.out.drew
  have hbl:=HBL.out r
  go_wp2_with fail
  go_region_held3 (fun w' => w'.cell? ⟨w.heap.size,0,none⟩ = some (.string nm) ∧ w'.cell? ⟨w.heap.size,1,none⟩ = some (.slice eA en ec) ∧ w'.cell? ⟨w.heap.size,2,none⟩ = some (.slice vA vn vc) ∧ w'.cell? ⟨w.heap.size,3,none⟩ = some (.slice sA sn sc)) (go_keep)
   ((first
     | (go_at_call 8; (with_reducible refine (HBR.out r _ (HK.out _ hdr).2).mono ?_); rintro e y1 ⟨A1,n1,k1,rfl,rfl,hf1,hb1⟩; have f1:=below_two' hdr hb1; obtain ⟨x10,x11,x12,x13⟩:=cells_4 (HK.out _ f1).1)
     | (go_at_call 9; (with_reducible refine (HRF.out r (by omega) (by omega) _ (HK.out _ f1).2).mono ?_); rintro e y2 ⟨A2,n2,k2,rfl,rfl,hf2,hb2⟩; have f2:=below_two' f1 hb2; obtain ⟨x20,x21,x22,x23⟩:=cells_4 (HK.out _ f2).1)
     | (go_at_call 10; (with_reducible refine (fwsame_any A1 A2 _ _ k1 k2 (B r) _ (hf1.keep hb2) hf2 (by omega)).mono ?_); rintro e y3 ⟨rfl,hb3⟩; have f3:=below_two' f2 hb3; obtain ⟨x30,x31,x32,x33⟩:=cells_4 (HK.out _ f3).1)))
  all_goals
   have HB9:=Lib.hid f3
   clear hf1 hf2 hb1 hb2 hb3 f1 f2 f3 hbl
   go_wp2_with fail
   go_roundw
   case rel => exact ⟨r + 1,by omega,by omega,by go_num,HB9⟩
   case measure => simp [intOf]; omega
theorem rulesall_walk:Calls Try.prog 4 #[.agg #[.string x.s,.slice eA en ec,.slice vA vn vc,.slice sA sn sc]] w fun e w' => e = .returned (.bool true) ∧ Below w.heap.size w w':=by
 cases hl:lightC x with
 | false => exact rulesall_no x eA en ec vA vn vc sA sn sc w h hf hl
 | true =>
   cases hm:mayC x with
   | false => exact rulesall_bad x eA en ec vA vn vc sA sn sc w h hf hl hm
   | true => exact rulesall_ok x eA en ec vA vn vc sA sn sc w h hf hv hl hm
end
theorem walk_RulesAll (x:Cx) (eA:Option Addr) (en ec:Nat) (vA:Option Addr) (vn vc:Nat) (sA:Option Addr) (sn sc:Nat) (w:World) (h:ChIn w (.slice eA en ec) (.slice vA vn vc) (.slice sA sn sc) x) (hf:FitC x ∧ ∀ v ∈ x.vars,VFit v) :
 Calls Try.prog 4 #[.agg #[.string x.s,.slice eA en ec,.slice vA vn vc,.slice sA sn sc]] w fun e w' => e = .returned (.bool true) ∧ Below w.heap.size w w':=rulesall_walk x eA en ec vA vn vc sA sn sc w h hf.1 hf.2
end Go.Proofs.Ytbdalbpackfejaa