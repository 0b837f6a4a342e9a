/- What List answers: all numbers of a set, rising, in a list of the call's own. Conditions: a set is a number below 2^64; the library's table is in memory. -/
import Derived.Test.YtihgigmncgopjaaDoorGroupEach
import Derived.Test.YtihgigmncgopjaaDoorRowI
namespace Go.Proofs.YtihgigmncgopjaaDoor
open Go.RowKit Go.Shelf GroupSpec NamesSpec
set_option maxRecDepth 100000

attribute [local go_sem] Oper.semAt_some

/-- What lies in memory when the first k have come. -/
def AtL (w : World) (C m k : Nat) (W : World) : Prop :=
  (∃ v, Boxed W C 23 v ∧ W.ownsRow w.heap.size 3 1 v ((bitsL m).take k).length (intV ((bitsL m).take k)) ∧ True) ∧ Below w.heap.size w W
theorem AtL.own (w : World) (C m B : Nat) (hB : w.heap.size ≤ B) : OwnFrom B (fun k W => AtL w C m k W) :=
  OwnFrom.and (Own.from (holdsRow_own _ _ _ _ _ (fun k => ((bitsL m).take k).length) (fun k => intV ((bitsL m).take k)) (fun _ _ => True)) _) (ownFrom_below (Nat.le_refl _) hB)
theorem keepsFrom_below' {B : Nat} {W W' : World} (h : Below W.heap.size W W') : KeepsFrom B W W' := ⟨h.size, fun k _ _ hk _ => (h.block k (Array.getElem?_eq_some_iff.1 hk).1).trans hk⟩
/-- Behind `l = append(l, i)`. -/
theorem AtL.appended {w W w1 : World} {C m k : Nat} {v v' : Value} {x : Int} {tmp : Obj} (h : AtL w C m k W) (hC : w.heap.size ≤ C) (hx : (bitsL m)[k]? = some x) (hv : Boxed W C 23 v)
    (hrow : W.ownsRow w.heap.size 3 1 v ((bitsL m).take k).length (intV ((bitsL m).take k))) (hown' : w1.ownsRow w.heap.size 3 1 v' (((bitsL m).take k).length + 1) (intV ((bitsL m).take k) ++ [.int .i64 x])) (hgrow : (W.alloc tmp).grownBy w1 v.ownBlock) :
    (∃ u, Boxed w1 C 23 u) ∧ AtL w C m (k + 1) (w1.setCell ⟨C, 0, none⟩ v') ∧ (∀ B, KeepsFrom B W (w1.setCell ⟨C, 0, none⟩ v')) ∧ Below w.heap.size W (w1.setCell ⟨C, 0, none⟩ v') := by
  obtain ⟨-, h6⟩ := h
  have hu1 : Boxed w1 C 23 v := (hv.alloc tmp).kept hgrow (hv.not_row (by decide) hrow)
  have hlow : Below w.heap.size W (w1.setCell ⟨C, 0, none⟩ v') := by
    refine (((Below.refl w.heap.size W).alloc h6.size tmp).grown hgrow (by have := h6.size; simp; omega) fun i ei => ?_).setCell (p := ⟨C, 0, none⟩) hC v'
    exact (own_block_bd hrow i ei).1
  have e1 : ((bitsL m).take (k + 1)).length = ((bitsL m).take k).length + 1 := by rw [take_next hx]; simp
  have e2 : intV ((bitsL m).take (k + 1)) = intV ((bitsL m).take k) ++ [.int .i64 x] := by rw [take_next hx]; unfold intV; simp
  refine ⟨⟨v, hu1⟩, ⟨⟨v', hu1.set v', ?_, trivial⟩, h6.trans hlow⟩, fun B => ?_, hlow⟩
  · rw [e1, e2]
    exact hown'.kept (grownBy_setCell' w1 C v') (.inr (hu1.not_row (by decide) hown').symm)
  · refine KeepsOthers.from ((KeepsOthers.alloc W tmp).trans (KeepsOthers.trans (KeepsOthers.of_grownBy hgrow fun i o ei hi => ?_) (KeepsOthers.setCell _ _ _))) B
    rcases (hrow.alloc tmp).2 with ⟨heq, _⟩ | ⟨g, cap', cur, heq, _, hgb, _⟩
    · rw [heq] at ei; simp [Value.ownBlock] at ei
    · rw [heq] at ei
      obtain rfl : g = i := by simpa [Value.ownBlock] using ei
      rw [hgb] at hi; cases hi; rfl

set_option maxRecDepth 100000 in
set_option maxHeartbeats 4000000 in
theorem list_any (m : Nat) (hm : m < 18446744073709551616) (w : World) (hT : TabIn w) : Calls Tryd.prog 9 #[.int .u64 m] w (RetInts w (bitsL m)) := by
  have HT := Lib.hid hT
  have HCN := Lib.hid (count_any m hm w)
  obtain ⟨N, hN⟩ : ∃ N, N = (bitsL m).length := ⟨_, rfl⟩
  have hN64 : N ≤ 64 := by rw [hN]; exact bitsL_length m
  rw [← hN] at HCN
  have HN := Lib.hid hN
  obtain ⟨i0, hi, hz0, hz1, hz2⟩ := info_parts inf_int
  have HI := Lib.hid (And.intro hi (And.intro hz0 (And.intro hz1 hz2)))
  clear hT hN hi hz0 hz1 hz2
  refine (callsIn_wide (n := 5)).1 ?_
  refine callsIn_of_wp_marks Tryd.func9 rfl trivial ?_ rfl
  simp only [Tryd.ntmps9, List.size_toArray, List.length_cons, List.length_nil, Nat.reduceAdd, Nat.reduceSub, Array.replicate_succ, Array.replicate_zero, List.push_toArray, List.append_toArray, List.nil_append, List.cons_append]
  gi_wp2_with first | (refine ⟨trivial, ?_⟩; gi_at_call 11; (with_reducible refine (callsIn_wide.2 HCN.out).mono ?_); rintro e w' ⟨rfl, rfl⟩) | (gi_at_make; refine wpListIn_make_own _ rfl _ _ 23 rfl w.heap.size 3 i0 (.int .i64 0) 1 Tryd.underlying23 HI.out.1 HI.out.2.1 HI.out.2.2.1 .i64 .i64 _ N rfl rfl rfl (by rw [HI.out.2.2.2]; omega) (by unfold maxLen; omega) (Nat.le_refl _) ?_; intro w1 hrow1 hg1; have HROW := Lib.hid hrow1; have HG := Lib.hid hg1; clear hrow1 hg1)
  gi_wp2_with (refine ⟨trivial, ?_⟩; gi_at_call 7; (with_reducible refine (each_in m _ _).mono ?_); rintro e w' ⟨rfl, rfl⟩)
  have hb1 : Below w.heap.size w w1 := (Below.refl _ w).grown HG.out (Nat.le_refl _) (fun k e => by cases e)
  have bC := (Boxed.new w1 23 (.slice (some ⟨w.heap.size, 0, none⟩) 0 N)).alloc (.cells #[.int .u64 m] 22)
  have bS := Boxed.new (w1.alloc (.cells #[.slice (some ⟨w.heap.size, 0, none⟩) 0 N] 23)) 22 (.int .u64 m)
  rw [World.size_alloc] at bS
  have hB0 : Below w.heap.size w ((w1.alloc (.cells #[.slice (some ⟨w.heap.size, 0, none⟩) 0 N] 23)).alloc (.cells #[.int .u64 m] 22)) := below_two' hb1 (KitC.below_pair _ _ _)
  have hR0 := own_keep HROW.out (KitC.below_pair w1 (.cells #[.slice (some ⟨w.heap.size, 0, none⟩) 0 N] 23) (.cells #[.int .u64 m] 22))
  have hsz : ((w1.alloc (.cells #[.slice (some ⟨w.heap.size, 0, none⟩) 0 N] 23)).alloc (.cells #[.int .u64 m] 22)).heap.size = w1.heap.size + 2 := by simp
  have hs1 := hb1.size
  obtain ⟨W0, hW0⟩ : ∃ W0, (w1.alloc (.cells #[.slice (some ⟨w.heap.size, 0, none⟩) 0 N] 23)).alloc (.cells #[.int .u64 m] 22) = W0 := ⟨_, rfl⟩
  rw [hW0] at bC bS hB0 hR0 hsz ⊢
  clear hW0
  have HI0 : Hid (AtL w w1.heap.size m 0 W0) := Lib.hid ⟨⟨_, bC, hR0, trivial⟩, hB0⟩
  have HBS := Lib.hid bS
  clear bC bS hB0 hR0 hb1
  refine range_seq rfl (by omega) (gf := 18) (lb := #[.pointer (some ⟨w1.heap.size + 1, 0, none⟩)]) rfl trivial (enters_of Tryd.func18 (by kernel_rfl) rfl)
    (each_hands (5 - 1) (by omega) (w1.heap.size + 1) w.heap.size m hm W0 HBS.out (HT.out.keep HI0.out.2) HT.out.pos).all (fun h k => h.trans k) (below_turn (by omega)) (fun _ => rfl)
    (fun k W => AtL w w1.heap.size m k W) (AtL.own _ _ _ _ (by omega)) HI0.out
    (fun k a' W => ∃ x : Int, (bitsL m)[k]? = some x ∧ a' = { tmps := #[.int .u64 m, undef, .slice none 0 0, .pointer (some ⟨w1.heap.size, 0, none⟩), .int .i64 x, .int .u64 m, .int .i64 N, .slice (some ⟨w.heap.size, 0, none⟩) 0 N, .int .u64 m, .func (.func 18) #[] #[.pointer (some ⟨w1.heap.size + 1, 0, none⟩)], .int .i64 x, undef, undef, undef, undef, undef], defers := [] })
    (fun a' s X Y row hs _ _ => hs)
    ?assign ?body ?done
  case assign =>
    rintro lp k W K hk hI hK
    have hx := (rest_more hm hk).2
    obtain ⟨x, hxe⟩ : ∃ x : Int, x = (Lib.ctz 64 (restG m k) : Int) := ⟨_, rfl⟩
    have he : encE m k = #[.int .i64 x] := by rw [hxe]; rfl
    rw [← hxe] at hx
    rw [he]
    have HK := Lib.hid hK
    have HIH := Lib.hid hI
    have HX := Lib.hid hx
    clear hI hK hxe he hx
    gi_wp2
    exact HK.out _ _ (keepsFrom_below' (Below.refl _ _)) (Below.refl _ _) HIH.out ⟨x, HX.out, rfl⟩
  case body =>
    rintro lp k a' W hk hI ⟨x, hx, rfl⟩
    obtain ⟨⟨v, hv1, hv2, _⟩, hbel⟩ := hI
    have HIH := Lib.hid (show AtL w w1.heap.size m k W from ⟨⟨v, hv1, hv2, trivial⟩, hbel⟩)
    have HV := Lib.hid (And.intro hv1 hv2)
    have hc := hv1.cell
    obtain ⟨q, hq⟩ : ∃ q, q = ((bitsL m).take k).length := ⟨_, rfl⟩
    have hq64 : q ≤ 64 := by rw [hq, List.length_take]; have := HN.out; omega
    have HL1 : Hid (q + 1 ≤ maxLen) := Lib.hid (by unfold maxLen; omega)
    have HL2 : Hid ((q + 1) * 8 ≤ 140737488355328) := Lib.hid (by omega)
    have HSZ : Hid (w.heap.size ≤ W.heap.size) := Lib.hid hbel.size
    rw [← hq] at hv2
    have HROW2 := Lib.hid hv2
    have HQ := Lib.hid hq
    have HX := Lib.hid hx
    have HS1 := Lib.hid hs1
    clear hv1 hv2 hbel hq hx hs1
    gi_wp2_with (gi_at_builtin; refine wpListIn_append_own _ rfl _ _ 23 rfl w.heap.size 3 i0 (.int .i64 0) 1 8 Tryd.underlying23 HI.out.1 HI.out.2.1 HI.out.2.2.1 HI.out.2.2.2 rfl (by decide) _ _ _ rfl (HROW2.out.alloc _) ⟨W.heap.size, 0, none⟩ 1 1 [.int .i64 x] rfl rfl (cell_one_new _ _ _) (by simp [Value.oneCell']) HL1.out HL2.out (by have := HSZ.out; simp; omega) ?_; intro v' w2 hown' hgrow _; obtain ⟨g', cap', rfl⟩ := ownsRow_succ hown'; obtain ⟨⟨u, hu1⟩, hI', hkf, hkp⟩ := AtL.appended HIH.out HS1.out HX.out HV.out.1 HV.out.2 (by rw [← HQ.out]; exact hown') hgrow; have hc1 := hu1.cell; have hf1 := hu1.frozen; have HI' := Lib.hid hI'; have HKF := Lib.hid hkf; have HKP := Lib.hid hkp; clear hI' hkf hkp hown' hgrow hu1)
    exact ⟨HKF.out _, HKP.out, HI'.out⟩
  case done =>
    rintro D W hD hI hK
    obtain ⟨⟨v, hv1, hv2, _⟩, hbel⟩ := hI
    rw [List.take_of_length_le (Nat.le_refl _)] at hv2
    have hc := hv1.cell
    have HR := Lib.hid (Rd.own (ownsRow_putObj hv2 (.deferred none) hK rfl))
    have HBEL := Lib.hid hbel
    clear hv1 hv2 hbel
    gi_wp2
    refine ⟨by simp, .inl ⟨_, _, rfl, run_takeDeferred hK, ?_⟩⟩
    exact ⟨v, by simp [results, Tryd.results9, go_sem], v, rfl, HR.out, HBEL.out.trans (belowK_b (w := w) (Nat.le_refl _) W D _ _ (by omega) hK rfl rfl)⟩
end Go.Proofs.YtihgigmncgopjaaDoor
