/- The walks of the three laws of the layer of numbers: each returns true, and what was in memory stays. Conditions: integers that fit, a text no longer than a slice may be. -/
import Derived.Test.YtofeceabnnoekaaValAwake
import Derived.OpenShut
import Derived.WideKeyArr2
namespace Go.Proofs.Ytofeceabnnoekaa
open Go.RowKit ValSpec

theorem bounds_i64 {n : Int} (h : (Lit.int .i64 n).wf = true) : -9223372036854775808 ≤ n ∧ n ≤ 9223372036854775807 := by
  simp [Lit.wf, IntKind.min, IntKind.max, IntKind.signed, IntKind.bits] at h
  omega

theorem walk_ValLaws (a b c : Int) (w : World) (_ : (Lit.int .i64 a).wf = true) (_ : (Lit.int .i64 b).wf = true) (_ : (Lit.int .i64 c).wf = true) :
    Calls Try.prog 5 #[.int .i64 a, .int .i64 b, .int .i64 c] w fun e w' => e = .returned (.bool true) ∧ Below w.heap.size w w' := by
  have e1 : (plus a b == plus b a) = true := by rw [plus_comm a b]; simp
  have e2 : (times a b == times b a) = true := by rw [times_comm a b]; simp
  have E3 : (plus a b != plus b a) = false := by rw [plus_comm a b]; simp
  have E4 : (times a b != times b a) = false := by rw [times_comm a b]; simp
  by_cases hab : b < a
  all_goals
    by_cases hc : 0 ≤ c
    all_goals
      (first
        | have p1 := plus_mono c (show b ≤ a by omega)
        | have p1 := plus_mono c (show a ≤ b by omega))
      (first
        | have p2 := minus_mono c (show b ≤ a by omega)
        | have p2 := minus_mono c (show a ≤ b by omega))
      (first
        | have p3 := times_mono (show b ≤ a by omega) hc
        | have p3 := times_mono (show a ≤ b by omega) hc
        | have p3 := times_anti (show b ≤ a by omega) (show c ≤ 0 by omega)
        | have p3 := times_anti (show a ≤ b by omega) (show c ≤ 0 by omega))
      go_enter Try.func5, Try.ntmps5
      go_wp2_with (first
        | (go_at_call 9; (with_reducible refine (plus_any _ _ _).mono ?_); rintro e w' ⟨rfl, rfl⟩)
        | (go_at_call 10; (with_reducible refine (minus_any _ _ _).mono ?_); rintro e w' ⟨rfl, rfl⟩)
        | (go_at_call 11; (with_reducible refine (times_any _ _ _).mono ?_); rintro e w' ⟨rfl, rfl⟩)
        | (go_at_call 12; (with_reducible refine (awake_any _).mono ?_); rintro e w' ⟨rfl, hb⟩))
      go_ret
      exact ⟨rfl, by assumption⟩

theorem walk_ValSums (a b r0 r1 : Int) (w : World) (_ : (Lit.int .i64 a).wf = true) (_ : (Lit.int .i64 b).wf = true) (_ : (Lit.int .i64 r0).wf = true) (_ : (Lit.int .i64 r1).wf = true) :
    Calls Try.prog 3 #[.int .i64 a, .int .i64 b, .agg #[.int .i64 r0, .int .i64 r1]] w fun e w' => e = .returned (.bool true) ∧ Below w.heap.size w w' := by
  have a1 := near_lo a
  have a2 := near_hi a
  have b1 := near_lo b
  have b2 := near_hi b
  obtain ⟨p1, p2⟩ := prod_bd (near a) (near b) a1 a2 b1 b2
  have e1 : near (near a + near b) = plus a b := rfl
  have e2 : near (near a - near b) = minus a b := rfl
  have e3 : near (near a * near b) = times a b := rfl
  by_cases h1 : a < r0
  · have ec : clampI a r0 r1 = r0 := by unfold clampI; rw [if_pos h1]
    by_cases h2 : r1 < a
    all_goals
      go_enter Try.func3, Try.ntmps3
      go_wp2_with (first
        | (go_at_call 6; (with_reducible refine (rnear_any _ _).mono ?_); rintro e w' ⟨rfl, rfl⟩)
        | (go_at_call 8; (with_reducible refine (near_any _ _).mono ?_); rintro e w' ⟨rfl, rfl⟩)
        | (go_at_call 7; (with_reducible refine (clamp_any _ _ _ _).mono ?_); rintro e w' ⟨rfl, rfl⟩)
        | (go_at_call 9; (with_reducible refine (plus_any _ _ _).mono ?_); rintro e w' ⟨rfl, rfl⟩)
        | (go_at_call 10; (with_reducible refine (minus_any _ _ _).mono ?_); rintro e w' ⟨rfl, rfl⟩)
        | (go_at_call 11; (with_reducible refine (times_any _ _ _).mono ?_); rintro e w' ⟨rfl, rfl⟩)
        | (go_at_call 12; (with_reducible refine (awake_any _).mono ?_); rintro e w' ⟨rfl, hb⟩))
      go_ret
      exact ⟨rfl, Below.trans ((Below.refl _ _).alloc (Nat.le_refl _) _) (Below.mono (by assumption) (by simp))⟩
  · by_cases h2 : r1 < a
    · have ec : clampI a r0 r1 = r1 := by unfold clampI; rw [if_neg h1, if_pos h2]
      go_enter Try.func3, Try.ntmps3
      go_wp2_with (first
        | (go_at_call 6; (with_reducible refine (rnear_any _ _).mono ?_); rintro e w' ⟨rfl, rfl⟩)
        | (go_at_call 8; (with_reducible refine (near_any _ _).mono ?_); rintro e w' ⟨rfl, rfl⟩)
        | (go_at_call 7; (with_reducible refine (clamp_any _ _ _ _).mono ?_); rintro e w' ⟨rfl, rfl⟩)
        | (go_at_call 9; (with_reducible refine (plus_any _ _ _).mono ?_); rintro e w' ⟨rfl, rfl⟩)
        | (go_at_call 10; (with_reducible refine (minus_any _ _ _).mono ?_); rintro e w' ⟨rfl, rfl⟩)
        | (go_at_call 11; (with_reducible refine (times_any _ _ _).mono ?_); rintro e w' ⟨rfl, rfl⟩)
        | (go_at_call 12; (with_reducible refine (awake_any _).mono ?_); rintro e w' ⟨rfl, hb⟩))
      go_ret
      exact ⟨rfl, Below.trans ((Below.refl _ _).alloc (Nat.le_refl _) _) (Below.mono (by assumption) (by simp))⟩
    · have ec : clampI a r0 r1 = a := by unfold clampI; rw [if_neg h1, if_neg h2]
      go_enter Try.func3, Try.ntmps3
      go_wp2_with (first
        | (go_at_call 6; (with_reducible refine (rnear_any _ _).mono ?_); rintro e w' ⟨rfl, rfl⟩)
        | (go_at_call 8; (with_reducible refine (near_any _ _).mono ?_); rintro e w' ⟨rfl, rfl⟩)
        | (go_at_call 7; (with_reducible refine (clamp_any _ _ _ _).mono ?_); rintro e w' ⟨rfl, rfl⟩)
        | (go_at_call 9; (with_reducible refine (plus_any _ _ _).mono ?_); rintro e w' ⟨rfl, rfl⟩)
        | (go_at_call 10; (with_reducible refine (minus_any _ _ _).mono ?_); rintro e w' ⟨rfl, rfl⟩)
        | (go_at_call 11; (with_reducible refine (times_any _ _ _).mono ?_); rintro e w' ⟨rfl, rfl⟩)
        | (go_at_call 12; (with_reducible refine (awake_any _).mono ?_); rintro e w' ⟨rfl, hb⟩))
      go_ret
      exact ⟨rfl, Below.trans ((Below.refl _ _).alloc (Nat.le_refl _) _) (Below.mono (by assumption) (by simp))⟩

/-- A pair of integers that came in. -/
theorem open_pair {H : Type} {enc : TypeId × Value → H} {P : Program} {W : World} {base b0 : Nat} {spare : Nat → Bool} {held : Bool} {r : Reach} {t e : TypeId} {k : IntKind} {v : Value} {d : DataW H} {p : List MemPlace}
    (hu : P.underlying t = some (.array 2 e)) (he : P.underlying e = some (.int k)) (hone : P.cellsOf e = 1) (hC : P.cellsOf t = 2) (hv : Value.okWide P W r b0 t v) (h : DataW.Trod enc P W base spare held t v d p) :
    ∃ a b : Int, v = .agg #[.int k a, .int k b] ∧ (Lit.int k a).wf = true ∧ (Lit.int k b).wf = true := by
  simp only [Value.okWide, hu] at hv
  obtain ⟨cs, rfl, hs, _⟩ := hv
  obtain ⟨fuel, hf⟩ := h
  obtain ⟨xs, m, rfl, _, hl, hx, hi⟩ := DataW.trod_array hu hf
  obtain ⟨c0, c1, rfl⟩ : ∃ c0 c1, cs = #[c0, c1] := by
    rw [hC] at hs
    obtain ⟨l⟩ := cs
    match l, hs with
    | [c0, c1], _ => exact ⟨c0, c1, rfl⟩
  have h0 := hi 0 (by omega)
  have h1 := hi 1 (by omega)
  match xs, hx with
  | [x0, x1], _ =>
    simp [hone, Value.cells] at h0 h1
    obtain ⟨a, e0, _, wa⟩ := DataW.trod_int he h0
    obtain ⟨b, e1, _, wb⟩ := DataW.trod_int he h1
    simp at e0 e1
    subst e0; subst e1
    exact ⟨a, b, rfl, wa, wb⟩

theorem text_len (n : Int) (h1 : -9223372036854775808 ≤ n) (h2 : n ≤ 9223372036854775807) : (text n).length ≤ 20 := by
  have := digs_len 18 n.natAbs (by omega)
  unfold text
  split <;> simp <;> omega
theorem text_size (n : Int) (h1 : -9223372036854775808 ≤ n) (h2 : n ≤ 9223372036854775807) : (⟨(text n).toArray⟩ : ByteArray).size ≤ maxLen := by
  have := text_len n h1 h2
  have e : (⟨(text n).toArray⟩ : ByteArray).size = (text n).length := rfl
  rw [e]; unfold maxLen; omega
theorem get_text (n : Int) (w : World) (x y : Int) (h1 : -9223372036854775808 ≤ n) (h2 : n ≤ 9223372036854775807) (hx : getN (text n) = x) (hy : getE (text n) = y) :
    Calls Try.prog 13 #[.string ⟨(text n).toArray⟩] w fun e w' => e = .returned (.tuple #[.int .i64 x, .int .i64 y]) ∧ w = w' := by
  subst hx; subst hy
  have := get_any ⟨(text n).toArray⟩ w (text_size n h1 h2)
  simpa using this
theorem get_text_in {n : Int} (h0 : 0 ≤ n) (h1 : n ≤ 1000000) : getN (text n) = n ∧ getE (text n) = 0 := (get_put n).mpr ⟨h0, h1⟩
theorem get_text_lo {n : Int} (h0 : n < 0) : getN (text n) = 0 ∧ getE (text n) = 2 := by
  unfold getN getE text
  rw [if_pos h0, head_minus]; exact ⟨rfl, rfl⟩
theorem get_text_hi {n : Int} (h0 : 1000000 < n) : getN (text n) = 0 ∧ getE (text n) = 3 := by
  have hs : says (digs n.natAbs) = n := by rw [digs_says]; omega
  have ht : text n = digs n.natAbs := by unfold text; rw [if_neg (by omega)]
  rw [ht]
  unfold getN getE
  rw [if_pos (digs_isNum _), hs, if_pos h0, if_pos (digs_isNum _), if_pos h0]; exact ⟨rfl, rfl⟩
theorem getN_bd (l : List UInt8) : 0 ≤ getN l ∧ getN l ≤ 1000000 := by
  unfold getN
  by_cases h : isNum l = true
  · rw [if_pos h]
    have := says_nonneg l (isNum_all h)
    split <;> omega
  · rw [if_neg h]; omega
theorem put_back (s : ByteArray) (w : World) (h : getE s.data.toList = 0) :
    Calls Try.prog 15 #[.int .i64 (getN s.data.toList)] w fun e w' => e = .returned (.string s) ∧ Below w.heap.size w w' := by
  obtain ⟨b1, b2⟩ := getN_bd s.data.toList
  have := put_any (getN s.data.toList) w (by omega) (by omega)
  rw [put_get h] at this
  exact this

theorem below_two {a b c : World} (h : Below a.heap.size a b) (k : Below b.heap.size b c) : Below a.heap.size a c := h.trans (k.mono h.size)

set_option maxHeartbeats 1000000 in
theorem walk_ValTexts (n : Int) (s : ByteArray) (w : World) (wn : (Lit.int .i64 n).wf = true) (hs : s.size ≤ maxLen) :
    Calls Try.prog 4 #[.int .i64 n, .string s] w fun e w' => e = .returned (.bool true) ∧ Below w.heap.size w w' := by
  obtain ⟨n1, n2⟩ := bounds_i64 wn
  clear wn
  have hs' : s.size ≤ 9223372036854775807 := hs
  by_cases h60 : 60 < s.size
  · clear hs
    go_enter Try.func4, Try.ntmps4
    go_wp2_with (go_at_call 12; (with_reducible refine (awake_any _).mono ?_); rintro e w' ⟨rfl, hb⟩)
    go_ret
    exact ⟨rfl, by assumption⟩
  · obtain ⟨x, y, hx, hy, hxy⟩ : ∃ x y : Int, getN (text n) = x ∧ getE (text n) = y ∧ ((0 ≤ n ∧ n ≤ 1000000 ∧ x = n ∧ y = 0) ∨ (n < 0 ∧ x = 0 ∧ y = 2) ∨ (1000000 < n ∧ decide (n ≤ 1000000) = false ∧ x = 0 ∧ y = 3)) := by
      refine ⟨_, _, rfl, rfl, ?_⟩
      rcases (show n < 0 ∨ 1000000 < n ∨ 0 ≤ n ∧ n ≤ 1000000 by omega) with h | h | ⟨h, h'⟩
      · exact .inr (.inl ⟨h, get_text_lo h⟩)
      · exact .inr (.inr ⟨h, decide_eq_false (by omega), get_text_hi h⟩)
      · exact .inl ⟨h, h', get_text_in h h'⟩
    have HX := Lib.hid hx
    have HY := Lib.hid hy
    clear hx hy
    by_cases he : getE s.data.toList = 0
    all_goals
      have HE := Lib.hid he
      have he1 : (getE s.data.toList == 0) = decide (getE s.data.toList = 0) := rfl
      first | rw [decide_eq_true he] at he1 | rw [decide_eq_false he] at he1
      clear he
      rcases hxy with ⟨c1, c2, rfl, rfl⟩ | ⟨c1, rfl, rfl⟩ | ⟨c1, c2, rfl, rfl⟩
      all_goals
        go_enter Try.func4, Try.ntmps4
        go_wp2_with (first
          | (go_at_call 13; (with_reducible refine (get_any s _ hs).mono ?_); rintro e w' ⟨rfl, rfl⟩)
          | (go_at_call 14; (with_reducible refine (rget_any s _ hs).mono ?_); rintro e w' ⟨rfl, rfl⟩)
          | (go_at_call 15; (with_reducible refine (put_any _ _ n1 n2).mono ?_); rintro e w' ⟨rfl, hb1⟩)
          | (go_at_call 15; (with_reducible refine (put_back s _ HE.out).mono ?_); rintro e w' ⟨rfl, hb2⟩)
          | (go_at_call 13; (with_reducible refine (get_text _ _ _ _ n1 n2 HX.out HY.out).mono ?_); rintro e w' ⟨rfl, rfl⟩)
          | (go_at_call 16; (with_reducible refine (rput_any _ _ n1 n2).mono ?_); rintro e w' ⟨rfl, rfl⟩)
          | (go_at_call 12; (with_reducible refine (awake_any _).mono ?_); rintro e w' ⟨rfl, hb3⟩))
        go_ret
        first
          | exact ⟨rfl, below_two (below_two (by assumption) (by assumption)) (by assumption)⟩
          | exact ⟨rfl, below_two (by assumption) (by assumption)⟩
end Go.Proofs.Ytofeceabnnoekaa
