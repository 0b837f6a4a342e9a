/- The plain example of the layer of shape (awake) answers true, and what was in memory stays. No condition. -/
import Derived.Test.YtlebgecajlifgaaShapeTell
import Derived.Laws.StructEq
namespace Go.Proofs.Ytlebgecajlifgaa
open Go.RowKit ShapeSpec
set_option maxRecDepth 100000

def stE (k p : Int) : StC := ⟨⟨#[]⟩, ⟨k, p⟩, none, 0, 0, none, 0, 0, none, 0, 0⟩
def shX : List Sh := [⟨2, -1⟩, ⟨1, 0⟩, ⟨1, 0⟩]
abbrev shO : Obj := .cells #[.string ⟨#[]⟩, .int .i64 2, .int .i64 (-1), .slice none 0 0, .slice none 0 0, .slice none 0 0, .string ⟨#[]⟩, .int .i64 1, .int .i64 0, .slice none 0 0, .slice none 0 0, .slice none 0 0, .string ⟨#[]⟩, .int .i64 1, .int .i64 0, .slice none 0 0, .slice none 0 0, .slice none 0 0] 37
abbrev shW (k : Nat) : Value := .slice (some ⟨k, 0, none⟩) 3 3
abbrev shW1 (k : Nat) : Value := .slice (some ⟨k, 6, none⟩) 2 2
theorem sts_lit {w : World} {cs : Array Value} {xs : List StC} {e : TypeId} {n k : Nat} (hk : k = w.heap.size) (hn : n = xs.length) (hx : cs.toList = stsV xs) : Sts (w.alloc (.cells cs e)) (.slice (some ⟨k, 0, none⟩) n n) (xs.map (·.sh)) := by
  subst hk
  refine ⟨xs, rfl, _, n, by rw [List.length_map, hn], by rw [List.length_map, hn]; exact Nat.le_refl _, by rw [stsV_length, List.length_map], fun _ => ⟨w.heap.size, 0, rfl, by simp, fun j u hj => ?_⟩⟩
  rw [← hx, Array.getElem?_toList] at hj
  rw [World.cell?_alloc_at _ _ _ _ rfl]
  simpa using hj
/-- What stands behind the first so many. -/
theorem Sts.rest {w : World} {b off n c i : Nat} {l : List Sh} (h : Sts w (.slice (some ⟨b, off, none⟩) n c) l) (hi : i ≤ n) : Sts w (.slice (some ⟨b, off + i * 6, none⟩) (n - i) (c - i)) (l.drop i) := by
  obtain ⟨xs, hx, A', c', heq, hc, hl, hA⟩ := h
  cases heq
  subst hx
  rw [List.length_map] at hi hc hl hA
  refine ⟨xs.drop i, by rw [List.map_drop], _, c - i, by rw [List.length_drop, List.length_map], by rw [List.length_drop, List.length_map]; omega, by rw [stsV_length, List.length_drop, List.length_drop, List.length_map], fun h0 => ?_⟩
  rw [List.length_drop, List.length_map] at h0
  obtain ⟨b', off', heq, hb, hcell⟩ := hA (by omega)
  cases heq
  refine ⟨b, off + i * 6, rfl, hb, fun j u hj => ?_⟩
  have e : (stsV xs)[i * 6 + j]? = some u := by
    have hj6 : j < (xs.drop i).length * 6 := by have := get_lt hj; rwa [stsV_length] at this
    have e1 : stsV xs = stsV (xs.take i) ++ stsV (xs.drop i) := by unfold stsV; rw [← List.flatMap_append, List.take_append_drop]
    rw [e1, List.getElem?_append_right (by rw [stsV_length, List.length_take]; omega), stsV_length, List.length_take, show i * 6 + j - min i xs.length * 6 = j by rw [Nat.min_eq_left hi]; omega]
    exact hj
  rw [Nat.add_assoc]
  exact hcell _ _ e
theorem shx_chk : chk shX = 0 := by decide
theorem shx_chk1 : chk (shX.drop 1) = 1 := by decide
theorem shx_kids : kidsA shX 0 = [1, 2] := by decide
theorem shx_meet : meetA shX 1 2 = 0 := by decide
theorem shx_depth : depthA shX 2 = 2 := by decide
theorem shx_end0 : endA shX 0 = 3 := by decide
theorem shx_end1 : endA shX 1 = 2 := by decide
section
variable (k : Nat) (w : World)
theorem shc_kids (h : Sts w (shW k) shX) : Calls Try.prog 9 #[shW k, .int .i64 0] w (RetInts w [1, 2]) := by
  have := shkids_any (some ⟨k, 0, none⟩) 3 3 shX 0 w h (by decide)
  rwa [shx_kids] at this
theorem shc_check (h : Sts w (shW k) shX) : Calls Try.prog 7 #[shW k] w (RetI w 0) := by
  have := check_any (some ⟨k, 0, none⟩) 3 3 shX w h (by decide)
  rwa [shx_chk] at this
theorem shc_check1 (h : Sts w (shW k) shX) : Calls Try.prog 7 #[shW1 k] w (RetI w 1) := by
  have h1 := h.rest (i := 1) (by decide)
  have := check_any (some ⟨k, 6, none⟩) 2 2 (shX.drop 1) w h1 (by decide)
  rwa [shx_chk1] at this
theorem shc_meet (h : Sts w (shW k) shX) : Calls Try.prog 13 #[shW k, .int .i64 1, .int .i64 2] w (RetI w 0) := by
  have := shmeet_any (some ⟨k, 0, none⟩) 3 3 shX 1 2 w h (by decide)
  rwa [shx_meet] at this
theorem shc_depth (h : Sts w (shW k) shX) : Calls Try.prog 11 #[shW k, .int .i64 2] w (RetI w 2) := by
  have := shdep_any (some ⟨k, 0, none⟩) 3 3 shX 2 w h (by decide)
  rwa [shx_depth] at this
theorem shc_end0 (h : Sts w (shW k) shX) : Calls Try.prog 12 #[shW k, .int .i64 0] w (RetI w 3) := by
  have := shend_any (some ⟨k, 0, none⟩) 3 3 shX 0 w h (by decide)
  rwa [shx_end0] at this
theorem shc_end1 (h : Sts w (shW k) shX) : Calls Try.prog 12 #[shW k, .int .i64 1] w (RetI w 2) := by
  have := shend_any (some ⟨k, 0, none⟩) 3 3 shX 1 w h (by decide)
  rwa [shx_end1] at this
end
theorem build_st2 (k p : Int) (w : World) : (Instr.build 37 #[(1, .int .i64 k), (2, .int .i64 p)]).run Try.prog w = .ok (.agg #[.string ⟨#[]⟩, .int .i64 k, .int .i64 p, .slice none 0 0, .slice none 0 0, .slice none 0 0]) w := run_build w 37 _ _ (by kernel_rfl)
theorem build_st1 (k : Int) (w : World) : (Instr.build 37 #[(1, .int .i64 k)]).run Try.prog w = .ok (.agg #[.string ⟨#[]⟩, .int .i64 k, .int .i64 0, .slice none 0 0, .slice none 0 0, .slice none 0 0]) w := run_build w 37 _ _ (by kernel_rfl)

set_option maxHeartbeats 4000000 in
theorem shawake_any (w : World) : Calls Try.prog 6 #[] w (RetB w true) := by
  have hb0 := build_st2
  have hb1 := build_st1
  have HT0 : Hid (Sts (w.alloc shO) (shW w.heap.size) shX) := Lib.hid (sts_lit (xs := [stE 2 (-1), stE 1 0, stE 1 0]) rfl rfl rfl)
  have HB0 : Hid (Below w.heap.size w (w.alloc shO)) := Lib.hid ((Below.refl _ _).alloc (Nat.le_refl _) _)
  go_enter Try.func6, Try.ntmps6
  go_wp2_with (go_at_call 9; (with_reducible refine (shc_kids _ _ HT0.out).mono ?_))
  rintro e w1 ⟨v, rfl, hv, hb1'⟩
  obtain ⟨A, n, c, rfl, hn, hc, hA⟩ := hv.ints
  obtain rfl : n = 2 := hn.symm
  obtain ⟨bn, offn, rfl, hbn, hcell⟩ := hA (by omega)
  have HS1 := Lib.hid (hcell 1 _ rfl)
  have HT1 := Lib.hid (HT0.out.keep hb1')
  have HB1 := Lib.hid (below_two' HB0.out hb1')
  clear hA hcell hv hb1' hc hn
  go_wp2_with (go_at_call 7; (with_reducible refine (shc_check _ _ HT1.out).mono ?_))
  rintro e w2 ⟨rfl, hb2'⟩
  have HT2 := Lib.hid (HT1.out.keep hb2')
  have HB2 := Lib.hid (below_two' HB1.out hb2')
  have HS2 := (hb2'.cell (p := ⟨bn, offn + 1, none⟩) hbn).trans HS1.out
  clear hb2'
  go_wp2_with (go_at_call 13; (with_reducible refine (shc_meet _ _ HT2.out).mono ?_))
  rintro e w3 ⟨rfl, hb3'⟩
  have HT3 := Lib.hid (HT2.out.keep hb3')
  have HB3 := Lib.hid (below_two' HB2.out hb3')
  clear hb3' HS2
  go_wp2_with (go_at_call 11; (with_reducible refine (shc_depth _ _ HT3.out).mono ?_))
  rintro e w4 ⟨rfl, hb4'⟩
  have HT4 := Lib.hid (HT3.out.keep hb4')
  have HB4 := Lib.hid (below_two' HB3.out hb4')
  clear hb4'
  go_wp2_with (go_at_call 12; (with_reducible refine (shc_end0 _ _ HT4.out).mono ?_))
  rintro e w5 ⟨rfl, hb5'⟩
  have HT5 := Lib.hid (HT4.out.keep hb5')
  have HB5 := Lib.hid (below_two' HB4.out hb5')
  clear hb5'
  go_wp2_with (go_at_call 12; (with_reducible refine (shc_end1 _ _ HT5.out).mono ?_))
  rintro e w6 ⟨rfl, hb6'⟩
  have HT6 := Lib.hid (HT5.out.keep hb6')
  have HB6 := Lib.hid (below_two' HB5.out hb6')
  clear hb6'
  go_wp2_with (go_at_call 7; (with_reducible refine (shc_check1 _ _ HT6.out).mono ?_))
  rintro e w7 ⟨rfl, hb7'⟩
  have HB7 := Lib.hid (below_two' HB6.out hb7')
  clear hb7'
  go_wp2_with fail
  go_ret
  exact ⟨rfl, HB7.out⟩
end Go.Proofs.Ytlebgecajlifgaa
