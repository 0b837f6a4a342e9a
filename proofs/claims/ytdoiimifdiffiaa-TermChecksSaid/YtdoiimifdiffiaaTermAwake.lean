/- The plain example of the layer of terms (awake) answers true, and what was in memory stays. No condition. -/
import Derived.Test.YtdoiimifdiffiaaTermCheck
import Derived.Test.YtdoiimifdiffiaaTermNames
namespace Go.Proofs.Ytdoiimifdiffiaa
open Go.RowKit TermSpec

def exT : List Tm := [⟨15, 0, ⟨#[]⟩⟩, ⟨2, 0, ⟨#[120]⟩⟩, ⟨1, 2, ⟨#[]⟩⟩]
theorem ex_small : Small exT := by
  intro t ht
  simp only [exT, List.mem_cons, List.not_mem_nil, or_false] at ht
  rcases ht with rfl | rfl | rfl <;> decide
theorem ex_small2 : Small (exT.take 2) := fun t ht => ex_small t (List.mem_of_mem_take ht)
theorem ex_chk : chk exT = 0 := by decide
theorem ex_chk2 : chk (exT.take 2) = 1 := by decide
theorem ex_typ : typ exT = 2 := by decide
theorem ex_dep : depth exT = 2 := by decide
theorem ex_end : endA exT 1 = 2 := by decide
theorem ex_end2 : endA (exT.take 2) 0 = -1 := by decide
theorem ex_below : belowsE exT 0 = [1, 2] := by decide
theorem ex_names : namesOf exT 2 = [⟨#[120]⟩] := by rfl
abbrev exO : Obj := .cells #[.int .i64 15, .int .i64 0, .string ⟨#[]⟩, .int .i64 2, .int .i64 0, .string ⟨#[120]⟩, .int .i64 1, .int .i64 2, .string ⟨#[]⟩] 39
section
variable (k : Nat) (w : World)
abbrev exV (k : Nat) : Value := .slice (some ⟨k, 0, none⟩) 3 3
abbrev exV2 (k : Nat) : Value := .slice (some ⟨k, 0, none⟩) 2 3
theorem ex_cut {w : World} {k : Nat} (h : Tms w (exV k) exT) : Tms w (exV2 k) (exT.take 2) := by
  have := h.part (i := 0) (j := 2) (c' := 3) (by decide) (by decide) (by decide)
  simpa using this
theorem exc_names (h : Tms w (exV k) exT) : Calls Try.prog 23 #[exV k, .int .i64 2] w (RetStrs w [⟨#[120]⟩]) := by
  have := names_any (some ⟨k, 0, none⟩) 3 3 exT 2 rfl (by decide) w h
  rwa [ex_names] at this
theorem exc_check (h : Tms w (exV k) exT) : Calls Try.prog 18 #[exV k] w (RetI w 0) := by
  have := check_any (some ⟨k, 0, none⟩) 3 3 exT rfl (by decide) ex_small w h
  rwa [ex_chk] at this
theorem exc_check2 (h : Tms w (exV k) exT) : Calls Try.prog 18 #[exV2 k] w (RetI w 1) := by
  have := check_any (some ⟨k, 0, none⟩) 2 3 (exT.take 2) rfl (by decide) ex_small2 w (ex_cut h)
  rwa [ex_chk2] at this
theorem exc_type (h : Tms w (exV k) exT) : Calls Try.prog 21 #[exV k] w (RetI w 2) := by
  have := typ_any (some ⟨k, 0, none⟩) 3 3 exT rfl (by decide) w h
  rwa [ex_typ] at this
theorem exc_depth (h : Tms w (exV k) exT) : Calls Try.prog 20 #[exV k] w (RetI w 2) := by
  have := depth_any (some ⟨k, 0, none⟩) 3 3 exT rfl (by decide) w h
  rwa [ex_dep] at this
theorem exc_end (h : Tms w (exV k) exT) : Calls Try.prog 8 #[exV k, .int .i64 1] w (SameI w 2) := by
  have := end_any (some ⟨k, 0, none⟩) 3 3 exT 1 w h rfl (by decide)
  rwa [ex_end] at this
theorem exc_end2 (h : Tms w (exV k) exT) : Calls Try.prog 8 #[exV2 k, .int .i64 0] w (SameI w (-1)) := by
  have := end_any (some ⟨k, 0, none⟩) 2 3 (exT.take 2) 0 w (ex_cut h) rfl (by decide)
  rwa [ex_end2] at this
theorem exc_below (h : Tms w (exV k) exT) : Calls Try.prog 9 #[exV k, .int .i64 0] w (RetInts w [1, 2]) := by
  have := below_any (some ⟨k, 0, none⟩) 3 3 exT 0 w h rfl (by decide)
  rwa [ex_below] at this
end
theorem build_02 (a : Int) (s : ByteArray) (w : World) : (Instr.build 39 #[(0, .int .i64 a), (2, .string s)]).run Try.prog w = .ok (.agg #[.int .i64 a, .int .i64 0, .string s]) w := run_build w 39 _ _ (by kernel_rfl)
theorem build_01 (a b : Int) (w : World) : (Instr.build 39 #[(0, .int .i64 a), (1, .int .i64 b)]).run Try.prog w = .ok (.agg #[.int .i64 a, .int .i64 b, .string ⟨#[]⟩]) w := run_build w 39 _ _ (by kernel_rfl)

set_option maxHeartbeats 2000000 in
theorem awake_any (w : World) : Calls Try.prog 7 #[] w (RetB w true) := by
  have hb0 := build_term
  have hb1 := build_01
  have hb2 := build_02
  have HT0 : Hid (Tms (w.alloc exO) (exV w.heap.size) exT) := Lib.hid (tms_lit rfl rfl rfl)
  have HB0 : Hid (Below w.heap.size w (w.alloc exO)) := Lib.hid ((Below.refl _ _).alloc (Nat.le_refl _) _)
  go_enter Try.func7, Try.ntmps7
  go_wp2_with (go_at_call 23; (with_reducible refine (exc_names _ _ HT0.out).mono ?_))
  rintro e w1 ⟨v, rfl, hv, hb1'⟩
  obtain ⟨A, n, c, rfl, hn, hc, hA⟩ := hv.strs
  obtain rfl : n = 1 := hn.symm
  obtain ⟨bn, offn, rfl, hbn, hcell⟩ := hA (by omega)
  have HS1 := Lib.hid (hcell 0 _ rfl)
  have HT1 := Lib.hid (HT0.out.keep hb1')
  have HB1 := Lib.hid (below_two' HB0.out hb1')
  clear hA hcell hv hb1' hc hn
  go_wp2_with (go_at_call 18; (with_reducible refine (exc_check _ _ HT1.out).mono ?_))
  rintro e w2 ⟨rfl, hb2'⟩
  have HT2 := Lib.hid (HT1.out.keep hb2')
  have HB2 := Lib.hid (below_two' HB1.out hb2')
  have HS2 := Lib.hid ((hb2'.cell (p := ⟨bn, offn + 0, none⟩) hbn).trans HS1.out)
  have hbn2 := Nat.lt_of_lt_of_le hbn hb2'.size
  clear hb2' hbn
  go_wp2_with (go_at_call 21; (with_reducible refine (exc_type _ _ HT2.out).mono ?_))
  rintro e w3 ⟨rfl, hb3'⟩
  have HT3 := Lib.hid (HT2.out.keep hb3')
  have HB3 := Lib.hid (below_two' HB2.out hb3')
  have HS3 := Lib.hid ((hb3'.cell (p := ⟨bn, offn + 0, none⟩) hbn2).trans HS2.out)
  have hbn3 := Nat.lt_of_lt_of_le hbn2 hb3'.size
  clear hb3' hbn2
  go_wp2_with (go_at_call 20; (with_reducible refine (exc_depth _ _ HT3.out).mono ?_))
  rintro e w4 ⟨rfl, hb4'⟩
  have HT4 := Lib.hid (HT3.out.keep hb4')
  have HB4 := Lib.hid (below_two' HB3.out hb4')
  have HS4 := Lib.hid ((hb4'.cell (p := ⟨bn, offn + 0, none⟩) hbn3).trans HS3.out)
  have hbn4 := Nat.lt_of_lt_of_le hbn3 hb4'.size
  have HE1 := Lib.hid (exc_end w.heap.size w4 HT4.out)
  have HE2 := Lib.hid (exc_end2 w.heap.size w4 HT4.out)
  clear hb4' hbn3
  go_wp2_with (go_at_call 8; (with_reducible refine HE1.out.mono ?_); rintro e w' ⟨rfl, rfl⟩)
  go_wp2_with (go_at_call 8; (with_reducible refine HE2.out.mono ?_); rintro e w' ⟨rfl, rfl⟩)
  go_wp2_with (go_at_call 9; (with_reducible refine (exc_below _ _ HT4.out).mono ?_))
  rintro e w5 ⟨v, rfl, hv, hb5'⟩
  obtain ⟨A2, n2, c2, rfl, hn2, hc2, hA2⟩ := hv.ints
  obtain rfl : n2 = 2 := hn2.symm
  have HT5 := Lib.hid (HT4.out.keep hb5')
  have HB5 := Lib.hid (below_two' HB4.out hb5')
  have hs5 := (hb5'.cell (p := ⟨bn, offn + 0, none⟩) hbn4).trans HS4.out
  rw [Nat.add_zero] at hs5
  clear hA2 hv hb5' hc2 hn2 hbn4
  go_wp2_with (go_at_call 18; (with_reducible refine (exc_check2 _ _ HT5.out).mono ?_))
  rintro e w6 ⟨rfl, hb6'⟩
  have HB6 := Lib.hid (below_two' HB5.out hb6')
  clear hb6' hs5
  go_wp2_with fail
  go_ret
  exact ⟨rfl, HB6.out⟩
end Go.Proofs.Ytdoiimifdiffiaa
