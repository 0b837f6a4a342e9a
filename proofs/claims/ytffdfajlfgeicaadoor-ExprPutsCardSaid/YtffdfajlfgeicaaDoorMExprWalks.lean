/- ExprWalks, joined. -/
import Derived.Test.YtffdfajlfgeicaaDoorMExprAwake
import Derived.Test.YtffdfajlfgeicaaDoorMExprSame
import Derived.Test.YtffdfajlfgeicaaDoorMExprRefParse
namespace Go.Proofs.YtffdfajlfgeicaaDoor
open Go.RowKit CurSpec TermSpec ExprSpec ScanSpec
set_option maxRecDepth 100000

theorem parseP_few (s : ByteArray) : (parseP s).1.length ≤ 1000 := by
  unfold parseP
  split
  · simp
  · unfold endP
    split
    · simp
    · unfold readP
      dsimp only
      split
      · split
        · rename_i h
          have := (tree_of h).choose_spec.2.2
          dsimp only
          omega
        · simp
      · simp

set_option maxHeartbeats 2000000 in
theorem walk_ExprParses (s : ByteArray) (w : World) (hp : PairsIn w) (hs : SignsIn w) (hz : s.size ≤ maxLen) :
    Calls Tryd.prog 3 #[.string s] w fun e w' => e = .returned (.bool true) ∧ Below w.heap.size w w' := by
  have HAw := Lib.hid awake_any
  have HP := Lib.hid hp
  have HS := Lib.hid hs
  clear hp hs
  by_cases hl : 400 < s.size
  · have hl' : (400 : Int) < (s.size : Int) := by omega
    clear hz
    go_enter Tryd.func3, Tryd.ntmps3
    go_wp2_with (go_at_call 7; (with_reducible refine (HAw.out w HP.out HS.out).mono ?_))
    rintro e w1 ⟨rfl, hb1⟩
    have HB := Lib.hid hb1
    clear hb1
    go_wp2_with fail
    go_ret
    exact ⟨rfl, HB.out⟩
  · have hl' : ¬ (400 : Int) < (s.size : Int) := by omega
    have HPA := Lib.hid (parse_any s w HP.out HS.out (by omega))
    have HRP := Lib.hid (fun w => rparse_any s w (by omega))
    have hfew := parseP_few s
    obtain ⟨r, hr⟩ : ∃ r, r = parseP s := ⟨_, rfl⟩
    rw [← hr] at HPA HRP hfew
    have HF := Lib.hid hfew
    clear hz hr hfew
    go_enter Tryd.func3, Tryd.ntmps3
    go_wp2_with (go_at_call 8; (with_reducible refine HPA.out.mono ?_))
    rintro e w1 ⟨A1, n1, c1, rfl, ht1, hn1, hb1⟩
    have HT1 := Lib.hid (And.intro ht1 (And.intro hn1 hb1))
    clear ht1 hn1 hb1
    go_wp2_with (go_at_call 9; (with_reducible refine (HRP.out w1).mono ?_))
    rintro e w2 ⟨A2, n2, c2, rfl, ht2, hn2, hb2⟩
    have HSM := Lib.hid (tmsame_any A1 A2 n1 n2 c1 c2 r.1 w2 (HT1.out.1.keep hb2) ht2 HT1.out.2.1 hn2 (by have := HF.out; have := HT1.out.2.1; omega))
    have HB2 := Lib.hid (below_two' HT1.out.2.2 hb2)
    have g1 : (r.2 == r.2) = true := by simp
    clear ht2 hn2 hb2
    go_wp2_with (first
      | (go_at_call 10; (with_reducible refine HSM.out.mono ?_))
      | fail)
    rintro e w3 ⟨rfl, hb3⟩
    have HB3 := Lib.hid (below_two' HB2.out hb3)
    clear hb3
    go_wp2_with (go_at_call 7; (with_reducible refine (HAw.out _ (HP.out.keep HB3.out) (HS.out.keep HB3.out)).mono ?_))
    rintro e w4 ⟨rfl, hb4⟩
    have HB4 := Lib.hid (below_two' HB3.out hb4)
    clear hb4
    go_wp2_with fail
    go_ret
    exact ⟨rfl, HB4.out⟩
end Go.Proofs.YtffdfajlfgeicaaDoor
