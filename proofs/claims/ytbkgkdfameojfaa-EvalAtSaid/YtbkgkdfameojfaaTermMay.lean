/- What may of the layer of terms answers, the reference's May too. Condition: a name no longer than memory holds. -/
import Derived.Test.YtbkgkdfameojfaaTermArity
import Derived.Test.YtbkgkdfameojfaaNamesWords
import Derived.Test.YtbkgkdfameojfaaNamesRefIs
import Derived.Laws.StructEq
namespace Go.Proofs.Ytbkgkdfameojfaa
open Go.RowKit TermSpec NamesSpec
set_option maxRecDepth 100000

theorem cells_3 {w : World} {b : Nat} {T : TypeId} {x0 x1 x2 : Value} (h : w.heap[b]? = some (.cells #[x0, x1, x2] T (0, 0))) : w.cell? ⟨b, 0, none⟩ = some x0 ∧ w.cell? ⟨b, 1, none⟩ = some x1 ∧ w.cell? ⟨b, 2, none⟩ = some x2 :=
  ⟨cell_of_block' h (i := 0) rfl, cell_of_block' h (i := 1) rfl, cell_of_block' h (i := 2) rfl⟩
theorem free_3 {w : World} {b : Nat} {T : TypeId} {cs : Array Value} (h : w.heap[b]? = some (.cells cs T (0, 0))) : w.frozen? ⟨b, 0, none⟩ = false ∧ w.frozen? ⟨b, 1, none⟩ = false ∧ w.frozen? ⟨b, 2, none⟩ = false :=
  ⟨free_of_block' h 0, free_of_block' h 1, free_of_block' h 2⟩

theorem eq_term (a b c d : Int) (s u : ByteArray) (w : World) : (Op.equalIn 10000 39 (.agg #[.int .i64 a, .int .i64 b, .string s]) (.agg #[.int .i64 c, .int .i64 d, .string u])).run Try.prog w = .ok (a == c && (b == d && s.toList == u.toList)) w := by
  have u3 := Try.underlying3
  have u9 := Try.underlying9
  have hS : Try.prog.underlying 39 = some (.struct (Try.prog.fieldsOf 39)) := by kernel_rfl
  rw [show (10000 : Nat) = 9999 + 1 from rfl, run_equalIn_agg w 9999 39 _ _ hS (by kernel_rfl)]
  simp only [Program.fieldsOf, Try.underlying39]
  go_simp
  by_cases h1 : a = c <;> by_cases h2 : b = d <;> by_cases h3 : s.toList = u.toList <;> simp [h1, h2, h3]
theorem build_term (a : Int) (w : World) : (Instr.build 39 #[(0, .int .i64 a)]).run Try.prog w = .ok (.agg #[.int .i64 a, .int .i64 0, .string ⟨#[]⟩]) w := run_build w 39 _ _ (by kernel_rfl)

theorem may_one {o n : Int} {s : ByteArray} (h1 : o = 1) : mayB ⟨o, n, s⟩ = (decide (0 ≤ n) && decide (n ≤ 1000000) && decide (s.size = 0)) := by
  unfold mayB
  rw [if_pos h1, if_neg (by show ¬ (o = 2 ∨ o = 11); omega)]
theorem may_name {o n : Int} {s : ByteArray} (h1 : o = 2 ∨ o = 11) : mayB ⟨o, n, s⟩ = (decide (n = 0) && isName s.data.toList) := by
  unfold mayB
  rw [if_neg (by show ¬ o = 1; omega), if_pos h1]
theorem may_else {o n : Int} {s : ByteArray} (h1 : ¬ o = 1) (h2 : ¬ (o = 2 ∨ o = 11)) : mayB ⟨o, n, s⟩ = (decide (n = 0) && decide (s.size = 0)) := by
  unfold mayB
  rw [if_neg h1, if_neg h2]
theorem int0_dec (n : Int) : (n == 0) = decide (n = 0) := by rw [Bool.eq_iff_iff]; simp
theorem size_dec (s : ByteArray) : ((s.size : Int) == 0) = decide (s.size = 0) := by rw [Bool.eq_iff_iff, decide_eq_true_iff, beq_iff_eq]; omega
theorem nil_iff (s : ByteArray) : (s.toList == []) = decide (s.size = 0) := by
  rw [Bool.eq_iff_iff, decide_eq_true_iff, beq_iff_eq, toList_of]
  exact List.length_eq_zero_iff.symm

set_option maxHeartbeats 1600000 in
theorem may_any1 (o n : Int) (s : ByteArray) (w : World) (h1 : o = 1) : Calls Try.prog 36 #[.agg #[.int .i64 o, .int .i64 n, .string s]] w (RetB w (mayB ⟨o, n, s⟩)) := by
  have HE := Lib.hid (may_one (n := n) (s := s) h1)
  have heq := eq_term
  have hbd := build_term
  subst h1
  by_cases hn : n < 0
  · go_enter Try.func36, Try.ntmps36
    go_wp2_with fail
    go_ret
    exact ⟨ret_bool (by rw [HE.out, decide_eq_false (show ¬ 0 ≤ n by omega)]; rfl), (Below.refl _ _).alloc (Nat.le_refl _) _⟩
  by_cases hn2 : 1000000 < n
  · go_enter Try.func36, Try.ntmps36
    go_wp2_with fail
    go_ret
    exact ⟨ret_bool (by rw [HE.out, decide_eq_false (show ¬ n ≤ 1000000 by omega)]; simp), (Below.refl _ _).alloc (Nat.le_refl _) _⟩
  · have HS := Lib.hid (nil_iff s)
    go_enter Try.func36, Try.ntmps36
    go_wp2_with fail
    go_ret
    exact ⟨ret_bool (by rw [HE.out, decide_eq_true (show 0 ≤ n by omega), decide_eq_true (show n ≤ 1000000 by omega), ← HS.out]; simp), ((Below.refl _ _).alloc (Nat.le_refl _) _)⟩
set_option maxHeartbeats 1600000 in
theorem may_any0 (o n : Int) (s : ByteArray) (w : World) (h1 : ¬ o = 1) (h2 : ¬ (o = 2 ∨ o = 11)) : Calls Try.prog 36 #[.agg #[.int .i64 o, .int .i64 n, .string s]] w (RetB w (mayB ⟨o, n, s⟩)) := by
  have HE := Lib.hid (may_else (n := n) (s := s) h1 h2)
  have heq := eq_term
  have hbd := build_term
  have g1 : (o == 1) = false := by simp [h1]
  have g2 : (o == 2) = false := by simp; omega
  have g3 : (o == 11) = false := by simp; omega
  have HS := Lib.hid (nil_iff s)
  clear h1 h2
  go_enter Try.func36, Try.ntmps36
  go_wp2_with fail
  go_ret
  exact ⟨ret_bool (by rw [HE.out, ← HS.out, ← int0_dec]; simp), ((Below.refl _ _).alloc (Nat.le_refl _) _)⟩
set_option maxHeartbeats 1600000 in
theorem may_any2 (o n : Int) (s : ByteArray) (w : World) (hs : s.size ≤ 9223372036854775807) (h2 : o = 2 ∨ o = 11) : Calls Try.prog 36 #[.agg #[.int .i64 o, .int .i64 n, .string s]] w (RetB w (mayB ⟨o, n, s⟩)) := by
  have HE := Lib.hid (may_name (n := n) (s := s) h2)
  have heq := eq_term
  have hbd := build_term
  have HC : Hid (∀ w, Calls Try.prog 53 #[.string s] w (RetB w (isName s.data.toList))) := Lib.hid (fun w => is_any s w hs)
  obtain ⟨q, hq⟩ : ∃ q, q = isName s.data.toList := ⟨_, rfl⟩
  rw [← hq] at HC HE
  clear hq
  have g1 : (o == 1) = false := by simp; omega
  cases q with
  | false =>
    rcases h2 with rfl | rfl
    all_goals
      go_enter Try.func36, Try.ntmps36
      go_wp2_with (go_at_call 53; (with_reducible refine (HC.out _).mono ?_))
      rintro e w1 ⟨rfl, hb1⟩
      go_wp2_with fail
      go_ret
      exact ⟨ret_bool (by rw [HE.out]; simp), below_two' ((Below.refl _ _).alloc (Nat.le_refl _) _) (hb1.mono (by simp))⟩
  | true =>
    rcases h2 with rfl | rfl
    all_goals
      go_enter Try.func36, Try.ntmps36
      go_wp2_with (go_at_call 53; (with_reducible refine (HC.out _).mono ?_))
      rintro e w1 ⟨rfl, hb1⟩
      have hbl := (hb1.block w.heap.size (by simp)).trans (heap_alloc_new w _)
      obtain ⟨c0, c1, c2⟩ := cells_3 hbl
      obtain ⟨f0, f1, f2⟩ := free_3 hbl
      have HB : Hid (Below w.heap.size w w1) := Lib.hid (((Below.refl _ _).alloc (Nat.le_refl _) _).trans (hb1.mono (by simp)))
      have HBL := Lib.hid hbl
      clear hb1 hbl
      go_wp2_with fail
      go_ret
      exact ⟨ret_bool (by rw [HE.out, ← int0_dec]; simp), HB.out.setCell (Nat.le_refl _) _⟩
theorem may_any (t : Tm) (w : World) (hs : t.s.size ≤ 9223372036854775807) : Calls Try.prog 36 #[.agg #[.int .i64 t.op, .int .i64 t.n, .string t.s]] w (RetB w (mayB t)) := by
  by_cases h1 : t.op = 1
  · exact may_any1 t.op t.n t.s w h1
  · by_cases h2 : t.op = 2 ∨ t.op = 11
    · exact may_any2 t.op t.n t.s w hs h2
    · exact may_any0 t.op t.n t.s w h1 h2

set_option maxHeartbeats 1600000 in
theorem rmay_any1 (n : Int) (s : ByteArray) (w : World) (hs : s.size ≤ 9223372036854775807) : Calls Try.prog 34 #[.agg #[.int .i64 1, .int .i64 n, .string s]] w (RetB w (mayB ⟨1, n, s⟩)) := by
  have HE := Lib.hid (may_one (n := n) (s := s) (o := 1) rfl)
  by_cases hn : n < 0
  · go_enter Try.func34, Try.ntmps34
    go_wp2_with fail
    go_ret
    exact ⟨ret_bool (by rw [HE.out, decide_eq_false (show ¬ 0 ≤ n by omega)]; rfl), (Below.refl _ _).alloc (Nat.le_refl _) _⟩
  by_cases hn2 : 1000000 < n
  · go_enter Try.func34, Try.ntmps34
    go_wp2_with fail
    go_ret
    exact ⟨ret_bool (by rw [HE.out, decide_eq_false (show ¬ n ≤ 1000000 by omega)]; simp), (Below.refl _ _).alloc (Nat.le_refl _) _⟩
  · go_enter Try.func34, Try.ntmps34
    go_wp2_with fail
    go_ret
    exact ⟨ret_bool (by rw [HE.out, decide_eq_true (show 0 ≤ n by omega), decide_eq_true (show n ≤ 1000000 by omega), ← size_dec]; rfl), ((Below.refl _ _).alloc (Nat.le_refl _) _)⟩
set_option maxHeartbeats 1600000 in
theorem rmay_n (o n : Int) (s : ByteArray) (w : World) (h0 : 1 ≤ o) (h20 : o ≤ 20) (h1 : ¬ o = 1) (hn : ¬ n = 0) : Calls Try.prog 34 #[.agg #[.int .i64 o, .int .i64 n, .string s]] w (RetB w (mayB ⟨o, n, s⟩)) := by
  have HE : Hid (mayB ⟨o, n, s⟩ = false) := Lib.hid (by unfold mayB; rw [if_neg h1, decide_eq_false hn]; rfl)
  have g1 : (o != 1) = true := by simp [h1]
  have g2 : (n != 0) = true := by simp [hn]
  go_enter Try.func34, Try.ntmps34
  go_wp2_with fail
  go_ret
  exact ⟨ret_bool HE.out.symm, (Below.refl _ _).alloc (Nat.le_refl _) _⟩
set_option maxHeartbeats 1600000 in
theorem rmay_0 (o : Int) (s : ByteArray) (w : World) (h0 : 1 ≤ o) (h20 : o ≤ 20) (h1 : ¬ o = 1) (h2 : ¬ (o = 2 ∨ o = 11)) (hs : s.size ≤ 9223372036854775807) : Calls Try.prog 34 #[.agg #[.int .i64 o, .int .i64 0, .string s]] w (RetB w (mayB ⟨o, 0, s⟩)) := by
  have HE := Lib.hid (may_else (n := 0) (s := s) h1 h2)
  have g1 : (o != 1) = true := by simp [h1]
  have g2 : (o == 2) = false := by simp; omega
  have g3 : (o == 11) = false := by simp; omega
  clear h2
  go_enter Try.func34, Try.ntmps34
  go_wp2_with fail
  go_ret
  exact ⟨ret_bool (by rw [HE.out, ← size_dec]; rfl), (Below.refl _ _).alloc (Nat.le_refl _) _⟩
set_option maxHeartbeats 1600000 in
theorem rmay_2 (o : Int) (s : ByteArray) (w : World) (h2 : o = 2 ∨ o = 11) (hs : s.size ≤ 9223372036854775807) : Calls Try.prog 34 #[.agg #[.int .i64 o, .int .i64 0, .string s]] w (RetB w (mayB ⟨o, 0, s⟩)) := by
  have HE := Lib.hid (may_name (n := 0) (s := s) h2)
  have HC : Hid (∀ w, Calls Try.prog 51 #[.string s] w (RetB w (isName s.data.toList))) := Lib.hid (fun w => ris_any s w hs)
  rcases h2 with rfl | rfl
  all_goals
    go_enter Try.func34, Try.ntmps34
    go_wp2_with (go_at_call 51; (with_reducible refine (HC.out _).mono ?_))
    rintro e w1 ⟨rfl, hb1⟩
    go_wp2_with fail
    go_ret
    exact ⟨ret_bool (by rw [HE.out]; simp), below_two' ((Below.refl _ _).alloc (Nat.le_refl _) _) (hb1.mono (by simp))⟩
theorem rmay_any (t : Tm) (w : World) (hs : t.s.size ≤ 9223372036854775807) (h0 : 0 ≤ ar t.op) : Calls Try.prog 34 #[.agg #[.int .i64 t.op, .int .i64 t.n, .string t.s]] w (RetB w (mayB t)) := by
  obtain ⟨h1, h20⟩ := ar_in.1 h0
  obtain ⟨o, n, s⟩ := t
  by_cases e1 : o = 1
  · subst e1
    exact rmay_any1 n s w hs
  · by_cases en : n = 0
    · subst en
      by_cases h2 : o = 2 ∨ o = 11
      · exact rmay_2 o s w h2 hs
      · exact rmay_0 o s w h1 h20 e1 h2 hs
    · exact rmay_n o n s w h1 h20 e1 en
end Go.Proofs.Ytbkgkdfameojfaa
