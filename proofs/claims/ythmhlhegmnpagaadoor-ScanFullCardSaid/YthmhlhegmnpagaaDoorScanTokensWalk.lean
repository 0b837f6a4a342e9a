/- The walk of ScanTokens: it returns true, and what was in memory stays. Conditions: what Tokens answers (ToksSay); a text no longer than memory holds. -/
import Derived.Test.YthmhlhegmnpagaaDoorScanAwake
namespace Go.Proofs.YthmhlhegmnpagaaDoor
open Go.RowKit ScanSpec

theorem toks_bad {W : World} {s : ByteArray} {i : Nat} {er p1 p2 : Int} {f : FuncId} (H : Calls Tryd.prog f #[.string s] W (TokPost W s)) (h : scanT s.data.toList = ([], i, er)) (hne : er ≠ 0) (h1 : pos s.data.toList i = (p1, p2)) :
    Calls Tryd.prog f #[.string s] W fun e w' => e = .returned (.tuple #[.slice none 0 0, .agg #[.int .i64 p1, .int .i64 p2], .int .i64 er]) ∧ Below W.heap.size W w' := by
  refine H.mono fun e w' ⟨hb, hbad, _⟩ => ⟨?_, hb⟩
  rw [h] at hbad
  have := hbad hne
  rwa [h1] at this
theorem toks_ok {W : World} {s : ByteArray} {ts : List Tok} {n : Nat} {f : FuncId} (H : Calls Tryd.prog f #[.string s] W (TokPost W s)) (h : scanT s.data.toList = (ts, 0, 0)) (hn : ts.length = n) :
    Calls Tryd.prog f #[.string s] W fun e w' => ∃ v, e = .returned (.tuple #[v, .agg #[.int .i64 0, .int .i64 0], .int .i64 0]) ∧ Rdk 4 w' v n (toksV s ts) ∧ Below W.heap.size W w' := by
  refine H.mono fun e w' ⟨hb, _, hok⟩ => ?_
  rw [h] at hok
  obtain ⟨v, he, hv⟩ := hok rfl
  exact ⟨v, he, by rw [← hn]; exact hv, hb⟩
/-- Beside no error there is no place. -/
theorem scanGo_zero {l : List UInt8} : ∀ (f i : Nat) (acc : List Tok), (scanGo l f i acc).2.2 = 0 → (scanGo l f i acc).2.1 = 0
  | 0, _, _, _ => rfl
  | f + 1, i, acc, h => by
    rw [scanGo] at h ⊢
    split
    · rfl
    · rename_i hi
      rw [if_neg hi] at h
      simp only at h ⊢
      split
      · rename_i he
        rw [if_pos he] at h
        exact absurd h he
      · rename_i he
        rw [if_neg he] at h
        split
        · rename_i hf
          rw [if_pos hf] at h
          exact absurd (show (8 : Int) = 0 from h) (by decide)
        · rename_i hf
          rw [if_neg hf] at h
          exact scanGo_zero f _ _ h
theorem scanGo_nil {l : List UInt8} : ∀ (f i : Nat) (acc : List Tok), (scanGo l f i acc).2.2 ≠ 0 → (scanGo l f i acc).1 = []
  | 0, _, _, h => absurd rfl h
  | f + 1, i, acc, h => by
    rw [scanGo] at h ⊢
    split
    · rename_i hi
      rw [if_pos hi] at h
      exact absurd rfl h
    · rename_i hi
      rw [if_neg hi] at h
      simp only at h ⊢
      split
      · rfl
      · rename_i he
        rw [if_neg he] at h
        split
        · rfl
        · rename_i hf
          rw [if_neg hf] at h
          exact scanGo_nil f _ _ h
theorem scanT_cases (l : List UInt8) : (∃ ts, scanT l = (ts, 0, 0)) ∨ ∃ i er, scanT l = ([], i, er) ∧ er ≠ 0 := by
  unfold scanT
  split
  · exact .inr ⟨0, 5, rfl, by decide⟩
  · by_cases h : (scan l).2.2 = 0
    · refine .inl ⟨(scan l).1, ?_⟩
      have h2 : (scan l).2.1 = 0 := scanGo_zero _ _ _ h
      exact Prod.ext rfl (Prod.ext h2 h)
    · refine .inr ⟨(scan l).2.1, (scan l).2.2, ?_, h⟩
      have h2 : (scan l).1 = [] := scanGo_nil _ _ _ h
      exact Prod.ext h2 rfl

theorem scanGo_len {l : List UInt8} : ∀ (f i : Nat) (acc : List Tok), acc.length ≤ 4000 → (scanGo l f i acc).1.length ≤ 4001
  | 0, _, acc, h => by simp [scanGo]; omega
  | f + 1, i, acc, h => by
    rw [scanGo]
    split
    · simp; omega
    · simp only
      split
      · simp
      · split
        · simp
        · rename_i hf
          exact scanGo_len f _ _ (by simp; omega)
theorem scanT_len {l : List UInt8} {ts : List Tok} {a : Nat} {b : Int} (h : scanT l = (ts, a, b)) : ts.length ≤ 4001 := by
  have : (scanT l).1.length ≤ 4001 := by
    unfold scanT
    split
    · simp
    · exact scanGo_len _ _ _ (by simp)
  rwa [h] at this
theorem kept {w w1 w2 w3 : World} {o o' : Obj} {v : Value} {j : Nat} (h : (w1.alloc o).cell? ⟨w1.heap.size, j, none⟩ = some v) (hb2 : Below (w1.alloc o).heap.size (w1.alloc o) w2) (hb3 : Below (w2.alloc o').heap.size (w2.alloc o') w3) (_hw : w = w1) : w3.cell? ⟨w1.heap.size, j, none⟩ = some v := by
  have h1 := hb2.size
  rw [World.size_alloc] at h1
  exact ((hb3.cell (p := ⟨w1.heap.size, j, none⟩) (by simp; omega)).trans ((World.cell?_alloc_lt w2 _ ⟨w1.heap.size, j, none⟩ (by simp; omega)).trans (hb2.cell (p := ⟨w1.heap.size, j, none⟩) (by simp)))).trans h
theorem kept2 {w2 w3 : World} {o' : Obj} {v : Value} {j : Nat} (h : (w2.alloc o').cell? ⟨w2.heap.size, j, none⟩ = some v) (hb3 : Below (w2.alloc o').heap.size (w2.alloc o') w3) : w3.cell? ⟨w2.heap.size, j, none⟩ = some v :=
  (hb3.cell (p := ⟨w2.heap.size, j, none⟩) (by simp)).trans h

set_option maxHeartbeats 2000000 in
theorem tokens_same (H : ToksSay) (s : ByteArray) (w : World) (hpw : PairsIn w) (hs : s.size ≤ 9223372036854775800) (hg : s.size ≤ 1000 ∨ 65536 < s.size) (hg2 : s.size ≤ 70000) :
    Calls Tryd.prog 3 #[.string s] w fun e w' => e = .returned (.bool true) ∧ Below w.heap.size w w' := by
  have HAw := Lib.hid (awake_any H)
  rcases scanT_cases s.data.toList with ⟨ts, hT⟩ | ⟨i, er, hT, hne⟩
  · obtain ⟨n, hn⟩ : ∃ n, ts.length = n := ⟨_, rfl⟩
    have H1 := Lib.hid (toks_ok (H s w hpw hs) hT hn)
    have HPw := Lib.hid hpw
    clear hpw
    have H2 := Lib.hid (fun w => toks_ok (rtoks_any s w hs) hT hn)
    have HN := Lib.hid hn
    clear hn
    have hn4 : n ≤ 4001 := by rw [← HN.out]; exact scanT_len hT
    clear hT H
    rcases hg with hg | hg
    all_goals
      have g70 : decide (70000 < (s.size : Int)) = false := decide_eq_false (by omega)
      (first | (have g1 : decide (1000 < (s.size : Int)) = false := decide_eq_false (by omega)) | (have hc : 1000 < (s.size : Int) := (by omega); have g2 : decide ((s.size : Int) ≤ 65536) = false := decide_eq_false (by omega)))
      go_enter Tryd.func3, Tryd.ntmps3
      go_wp2_with (go_at_call 6; refine H1.out.mono ?_)
      rintro e w1 ⟨v, rfl, hv, hb1⟩
      have hv2 := hv
      obtain ⟨A1, cp1, rfl, _, _, _⟩ := hv2
      go_wp2_with (go_at_call 7; refine (H2.out _).mono ?_)
      rintro e w2 ⟨u, rfl, hu, hb2⟩
      have hu2 := hu
      obtain ⟨A2, cp2, rfl, _, _, _⟩ := hu2
      have HSm := Lib.hid (tsame_any _ _ s ts n _ HN.out (((hv.alloc (.cells #[.int .i64 0, .int .i64 0] 25)).keep hb2).alloc (.cells #[.int .i64 0, .int .i64 0] 25)) (hu.alloc (.cells #[.int .i64 0, .int .i64 0] 25)) (by omega))
      go_wp2_with (go_at_call 8; refine HSm.out.mono ?_)
      rintro e w3 ⟨rfl, hb3⟩
      have a0 := kept (World.cell?_alloc_at _ _ _ 0 rfl) hb2 hb3 rfl
      have a1 := kept (World.cell?_alloc_at _ _ _ 1 rfl) hb2 hb3 rfl
      have c0 := kept2 (World.cell?_alloc_at _ _ _ 0 rfl) hb3
      have c1 := kept2 (World.cell?_alloc_at _ _ _ 1 rfl) hb3
      have hB := below_two' hb1 (below_two' (((Below.refl _ _).alloc (Nat.le_refl _) _).trans (hb2.mono (by simp))) (((Below.refl _ _).alloc (Nat.le_refl _) _).trans (hb3.mono (by simp))))
      clear hb1 hb2 hb3
      go_wp2_with (go_at_call 5; refine (HAw.out _ (HPw.out.keep hB)).mono ?_)
      rintro e w4 ⟨rfl, hb4⟩
      go_wp2_with fail
      go_ret
      exact ⟨rfl, below_two' hB hb4⟩
  · obtain ⟨p1, p2, hp⟩ : ∃ p1 p2, pos s.data.toList i = (p1, p2) := ⟨_, _, rfl⟩
    have H1 := Lib.hid (toks_bad (H s w hpw hs) hT hne hp)
    have HPw := Lib.hid hpw
    clear hpw
    have H2 := Lib.hid (fun w => toks_bad (rtoks_any s w hs) hT hne hp)
    clear hT hp H
    rcases hg with hg | hg
    all_goals
      have g70 : decide (70000 < (s.size : Int)) = false := decide_eq_false (by omega)
      (first | (have g1 : decide (1000 < (s.size : Int)) = false := decide_eq_false (by omega)) | (have hc : 1000 < (s.size : Int) := (by omega); have g2 : decide ((s.size : Int) ≤ 65536) = false := decide_eq_false (by omega)))
      go_enter Tryd.func3, Tryd.ntmps3
      go_wp2_with (go_at_call 6; refine H1.out.mono ?_)
      rintro e w1 ⟨rfl, hb1⟩
      go_wp2_with (go_at_call 7; refine (H2.out _).mono ?_)
      rintro e w2 ⟨rfl, hb2⟩
      have HSm := Lib.hid (fun w => tsame_any (.slice none 0 0) (.slice none 0 0) s [] 0 w rfl (Rdk.nil 4 w) (Rdk.nil 4 w) (by decide))
      go_wp2_with (go_at_call 8; refine (HSm.out _).mono ?_)
      rintro e w3 ⟨rfl, hb3⟩
      have a0 := kept (World.cell?_alloc_at _ _ _ 0 rfl) hb2 hb3 rfl
      have a1 := kept (World.cell?_alloc_at _ _ _ 1 rfl) hb2 hb3 rfl
      have c0 := kept2 (World.cell?_alloc_at _ _ _ 0 rfl) hb3
      have c1 := kept2 (World.cell?_alloc_at _ _ _ 1 rfl) hb3
      have hB := below_two' hb1 (below_two' (((Below.refl _ _).alloc (Nat.le_refl _) _).trans (hb2.mono (by simp))) (((Below.refl _ _).alloc (Nat.le_refl _) _).trans (hb3.mono (by simp))))
      clear hb1 hb2 hb3 hne
      go_wp2_with (go_at_call 5; refine (HAw.out _ (HPw.out.keep hB)).mono ?_)
      rintro e w4 ⟨rfl, hb4⟩
      go_wp2_with fail
      go_ret
      exact ⟨rfl, below_two' hB hb4⟩

theorem walk_tokens (H : ToksSay) (s : ByteArray) (w : World) (hpw : PairsIn w) (hs : s.size ≤ maxLen) :
    Calls Tryd.prog 3 #[.string s] w fun e w' => e = .returned (.bool true) ∧ Below w.heap.size w w' := by
  have hs' : s.size ≤ 9223372036854775807 := hs
  by_cases hg : (s.size ≤ 1000 ∨ 65536 < s.size) ∧ s.size ≤ 70000
  · exact tokens_same H s w hpw (by omega) hg.1 hg.2
  · have HAw := Lib.hid (awake_any H w hpw)
    clear H hs hpw
    by_cases hb : 70000 < s.size
    · have g70 : decide (70000 < (s.size : Int)) = true := decide_eq_true (by omega)
      have g1 : decide (1000 < (s.size : Int)) = true := decide_eq_true (by omega)
      have g2 : decide ((s.size : Int) ≤ 65536) = false := decide_eq_false (by omega)
      clear hg hb
      go_enter Tryd.func3, Tryd.ntmps3
      go_wp2_with (go_at_call 5; refine HAw.out.mono ?_)
      rintro e w1 ⟨rfl, hb1⟩
      go_wp2_with fail
      go_ret
      exact ⟨rfl, hb1⟩
    · have g1 : decide (1000 < (s.size : Int)) = true := decide_eq_true (by omega)
      have g2 : decide ((s.size : Int) ≤ 65536) = true := decide_eq_true (by omega)
      clear hg hb
      go_enter Tryd.func3, Tryd.ntmps3
      go_wp2_with (go_at_call 5; refine HAw.out.mono ?_)
      rintro e w1 ⟨rfl, hb1⟩
      go_wp2_with fail
      go_ret
      exact ⟨rfl, hb1⟩
end Go.Proofs.YthmhlhegmnpagaaDoor
