/- ExprAwake, joined. -/
import Derived.Test.YtffdfajlfgeicaaDoorMExprPutW
import Derived.Test.YtffdfajlfgeicaaDoorMExprEval
namespace Go.Proofs.YtffdfajlfgeicaaDoor
open Go.RowKit CurSpec TermSpec ExprSpec
set_option maxRecDepth 100000

theorem small_1 : Small (flat exE1) := by
  intro t ht
  simp only [exE1, flat, List.cons_append, List.nil_append, List.mem_cons, List.not_mem_nil, or_false] at ht
  rcases ht with rfl | rfl | rfl | rfl | rfl <;> decide
theorem small_2 : Small (flat exE2) := by
  intro t ht
  simp only [exE2, flat, List.cons_append, List.nil_append, List.mem_cons, List.not_mem_nil, or_false] at ht
  rcases ht with rfl | rfl | rfl | rfl | rfl | rfl | rfl | rfl <;> decide
theorem exc_parse1 (w : World) (hp : PairsIn w) (hs : SignsIn w) : Calls Tryd.prog 8 #[.string ⟨#[40, 40, 120, 41, 41, 32, 45, 32, 49, 32, 45, 32, 50]⟩] w fun e w' =>
    ∃ b off c, e = .returned (.tuple #[.slice (some ⟨b, off, none⟩) 5 c, .int .i64 0]) ∧ b < w'.heap.size ∧ w'.cell? ⟨b, off, none⟩ = some (.int .i64 5) ∧ w'.cell? ⟨b, off + 3, none⟩ = some (.int .i64 5) ∧ Tms w' (.slice (some ⟨b, off, none⟩) 5 c) (flat exE1) ∧ Below w.heap.size w w' := by
  refine (parse_any exS1 w hp hs (by decide)).mono fun e w' ⟨A, n, c, he, ht, hn, hb⟩ => ?_
  rw [ex_p1] at he ht hn
  obtain rfl : n = 5 := hn
  obtain ⟨b, off, rfl, hlt, c0, -, -⟩ := ht.at_ (i := 0) rfl
  obtain ⟨b', off', hA, -, c1, -, -⟩ := ht.at_ (i := 1) rfl
  cases hA
  exact ⟨b, off, c, he, hlt, c0, c1, ht, hb⟩
theorem exc_parse2 (w : World) (hp : PairsIn w) (hs : SignsIn w) : Calls Tryd.prog 8 #[.string ⟨#[110, 111, 116, 32, 120, 32, 60, 32, 50, 32, 97, 110, 100, 32, 40, 97, 32, 111, 114, 32, 105, 110, 40, 98, 41, 41]⟩] w fun e w' =>
    ∃ A c, e = .returned (.tuple #[.slice A 8 c, .int .i64 0]) ∧ Tms w' (.slice A 8 c) (flat exE2) ∧ Below w.heap.size w w' := by
  refine (parse_any exS2 w hp hs (by decide)).mono fun e w' ⟨A, n, c, he, ht, hn, hb⟩ => ?_
  rw [ex_p2] at he ht hn
  obtain rfl : n = 8 := hn
  exact ⟨A, c, he, ht, hb⟩
theorem exc_parse3 (w : World) (hp : PairsIn w) (hs : SignsIn w) : Calls Tryd.prog 8 #[.string ⟨#[49, 32, 60, 32, 50, 32, 60, 32, 51]⟩] w fun e w' =>
    ∃ A n c, e = .returned (.tuple #[.slice A n c, .int .i64 2]) ∧ Below w.heap.size w w' := by
  refine (parse_any exS3 w hp hs (by decide)).mono fun e w' ⟨A, n, c, he, _, _, hb⟩ => ?_
  rw [ex_p3] at he
  exact ⟨A, n, c, he, hb⟩
theorem exc_put1 (A : Option Addr) (c : Nat) (w : World) (hs : SignsIn w) (ht : Tms w (.slice A 5 c) (flat exE1)) : Calls Tryd.prog 17 #[.slice A 5 c] w (RetPut w ⟨#[120, 32, 45, 32, 49, 32, 45, 32, 50]⟩ 0) := by
  have := put_ok A 5 c (flat exE1) w ht rfl small_1 hs rfl ex_g1 ex_c1 (by decide)
  rwa [ex_t1] at this
theorem exc_put2 (A : Option Addr) (c : Nat) (w : World) (hs : SignsIn w) (ht : Tms w (.slice A 8 c) (flat exE2)) : Calls Tryd.prog 17 #[.slice A 8 c] w (RetPut w ⟨#[110, 111, 116, 32, 120, 32, 60, 32, 50, 32, 97, 110, 100, 32, 40, 97, 32, 111, 114, 32, 105, 110, 40, 98, 41, 41]⟩ 0) := by
  have := put_ok A 8 c (flat exE2) w ht rfl small_2 hs rfl ex_g2 ex_c2 (by decide)
  rwa [ex_t2] at this

set_option maxHeartbeats 4000000 in
theorem awake_any (w : World) (hp : PairsIn w) (hs : SignsIn w) : Calls Tryd.prog 7 #[] w (RetB w true) := by
  have HP := Lib.hid hp
  have HS := Lib.hid hs
  clear hp hs
  go_enter Tryd.func7, Tryd.ntmps7
  go_wp2_with (go_at_call 8; (with_reducible refine (exc_parse1 w HP.out HS.out).mono ?_))
  rintro e w1 ⟨b, off, c, rfl, hlt, c0, c1, ht, hb1⟩
  have HB1 := Lib.hid hb1
  have HT1 := Lib.hid ht
  have HC := Lib.hid (And.intro hlt (And.intro c0 c1))
  clear hb1 ht hlt c0 c1
  go_wp2_with (go_at_call 17; (with_reducible refine (exc_put1 _ _ w1 (HS.out.keep HB1.out) HT1.out).mono ?_))
  rintro e w2 ⟨rfl, hb2⟩
  have HB2 := Lib.hid (below_two' HB1.out hb2)
  have HD2 := Lib.hid hb2
  clear hb2
  go_wp2_with (go_at_call 8; (with_reducible refine (exc_parse2 w2 (HP.out.keep HB2.out) (HS.out.keep HB2.out)).mono ?_))
  rintro e w3 ⟨A3, c3, rfl, ht3, hb3⟩
  have HB3 := Lib.hid (below_two' HB2.out hb3)
  have HD3 := Lib.hid (below_two' HD2.out hb3)
  have HT3 := Lib.hid ht3
  clear ht3 hb3
  go_wp2_with (go_at_call 17; (with_reducible refine (exc_put2 _ _ w3 (HS.out.keep HB3.out) HT3.out).mono ?_))
  rintro e w4 ⟨rfl, hb4⟩
  have HB4 := Lib.hid (below_two' HB3.out hb4)
  have HD4 := Lib.hid (below_two' HD3.out hb4)
  clear hb4
  go_wp2_with (go_at_call 8; (with_reducible refine (exc_parse3 w4 (HP.out.keep HB4.out) (HS.out.keep HB4.out)).mono ?_))
  rintro e w5 ⟨A5, n5, c5, rfl, hb5⟩
  have HB5 := Lib.hid (below_two' HB4.out hb5)
  have HD5 := Lib.hid (below_two' HD4.out hb5)
  have d0 := (HD5.out.cell (p := ⟨b, off, none⟩) HC.out.1).trans HC.out.2.1
  have d1 := (HD5.out.cell (p := ⟨b, off + 3, none⟩) HC.out.1).trans HC.out.2.2
  clear hb5
  go_wp2_with fail
  go_ret
  exact ⟨rfl, HB5.out⟩
end Go.Proofs.YtffdfajlfgeicaaDoor
