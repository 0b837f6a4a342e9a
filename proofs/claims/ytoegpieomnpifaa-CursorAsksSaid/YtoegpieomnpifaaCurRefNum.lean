/- What the reference's calls on cursors answer: Number. Condition: the cursor's tokens lie in memory, its texts are no longer than memory holds. -/
import Derived.Test.YtoegpieomnpifaaCurRefTake
import Derived.Test.YtoegpieomnpifaaValGet
namespace Go.Proofs.Ytoegpieomnpifaa
open Go.RowKit CurSpec ValSpec

def RetCurN (W0 W : World) (c : Cur) (m : Int) (e : Ending) (w' : World) : Prop :=
  ∃ A n cp, e = .returned (.tuple #[.agg #[.slice A n cp, .int .i64 c.w1, .int .i64 c.w2, .int .i64 c.a1, .int .i64 c.a2, .int .i64 c.bad], .int .i64 m]) ∧ Toks W0 (.slice A n cp) c.L ∧ Below W.heap.size W w'
def RetGet (W : World) (n er : Int) (e : Ending) (w' : World) : Prop := e = .returned (.tuple #[.int .i64 n, .int .i64 er]) ∧ W = w'
theorem rget_say {s : ByteArray} {n er : Int} (hn : getN s.data.toList = n) (he : getE s.data.toList = er) (hs : s.size ≤ 9223372036854775807) (w : World) : Calls Try.prog 27 #[.string s] w (RetGet w n er) := by
  subst hn he
  exact rget_any s w hs
theorem num_fail {c : Cur} {m er : Int} (h : numE c m = er) (hne : er ≠ 0) : numC c m = fail c er ∧ numN c m = 0 := by
  subst h
  unfold numC numN
  rw [if_neg hne, if_neg hne]
  exact ⟨rfl, rfl⟩
theorem numE_kind {c : Cur} {m : Int} (h : (next c).k ≠ 2) : numE c m = 2 := if_neg (fun h' => h h'.2)
theorem numE_get {c : Cur} {m : Int} (h0 : c.bad = 0) (h : (next c).k = 2) (hE : getE (next c).t.data.toList ≠ 0) : numE c m = getE (next c).t.data.toList := by
  unfold numE
  rw [if_pos ⟨h0, h⟩, if_neg hE]
theorem numE_most {c : Cur} {m : Int} (h0 : c.bad = 0) (h : (next c).k = 2) (hE : getE (next c).t.data.toList = 0) (hm : m < getN (next c).t.data.toList) : numE c m = 3 := by
  unfold numE
  rw [if_pos ⟨h0, h⟩, if_pos hE, if_pos hm]
theorem numE_good {c : Cur} {m : Int} (h0 : c.bad = 0) (h : (next c).k = 2) (hE : getE (next c).t.data.toList = 0) (hm : ¬ m < getN (next c).t.data.toList) : numE c m = 0 := by
  unfold numE
  rw [if_pos ⟨h0, h⟩, if_pos hE, if_neg hm]

set_option maxHeartbeats 2000000 in
theorem number_say (c : Cur) (m : Int) (ok : Ok c) (A : Option Addr) (n cp : Nat) (W0 w : World) (h : Toks W0 (.slice A n cp) c.L) (hw : Below W0.heap.size W0 w) :
    Calls Try.prog 16 #[.agg #[.slice A n cp, .int .i64 c.w1, .int .i64 c.w2, .int .i64 c.a1, .int .i64 c.a2, .int .i64 c.bad], .int .i64 m] w (RetCurN W0 w (numC c m) (numN c m)) := by
  have HT := Lib.hid h
  have HW := Lib.hid hw
  have HN := Lib.hid (fun W h => next_say c A n cp W h)
  have HO := Lib.hid (fun W hw => on_say c A n cp W0 W h hw)
  have HFa := Lib.hid (fun er W hw => fail_say c er A n cp W0 W h hw)
  clear h hw
  obtain ⟨d, hd⟩ : ∃ d, d = numC c m := ⟨_, rfl⟩
  obtain ⟨u, hu⟩ : ∃ u, u = numN c m := ⟨_, rfl⟩
  obtain ⟨t, ht⟩ : ∃ t, t = next c := ⟨_, rfl⟩
  have HG := Lib.hid (fun W => rget_say (s := (next c).t) rfl rfl ok.next W)
  rw [← hd, ← hu]
  rw [← ht] at HN HG
  by_cases h0 : c.bad = 0
  · have e0 : (c.bad != 0) = false := by simpa using h0
    by_cases h1 : t.k = 2
    · have e1 : (t.k != 2) = false := by simpa using h1
      obtain ⟨N, hN⟩ : ∃ N, N = getN t.t.data.toList := ⟨_, rfl⟩
      obtain ⟨E, hE⟩ : ∃ E, E = getE t.t.data.toList := ⟨_, rfl⟩
      rw [← hN, ← hE] at HG
      by_cases h2 : E = 0
      · have e2 : (E != 0) = false := by simpa using h2
        by_cases h3 : m < N
        · have hB := num_fail (numE_most (m := m) h0 (by rw [← ht]; exact h1) (by rw [← ht, ← hE]; exact h2) (by rw [← ht, ← hN]; exact h3)) (by decide)
          have hc : fail c 3 = d := by rw [hd, hB.1]
          have HS : Hid ((0 : Int) = u) := Lib.hid (by rw [hu, hB.2])
          have HF := Lib.hid (fun W hw => HFa.out 3 W hw)
          rw [hc] at HF
          clear hc hB hd hu ht h0 h1 h2 hN hE HO HFa
          go_enter Try.func16, Try.ntmps16
          go_wp2_with (go_at_call 8; (with_reducible refine (HN.out _ (((HT.out.keep HW.out).alloc _).alloc _)).mono ?_))
          rintro e x2 ⟨rfl, hb2⟩
          obtain ⟨k1, k2, hB, hz⟩ := pair_blocks hb2
          have hz' : w.heap.size < x2.heap.size := by omega
          have HK1 := Lib.hid k1
          have HK2 := Lib.hid k2
          have HB := Lib.hid hB
          obtain ⟨c0, c1, c2, c3, c4, c5⟩ := cells_6 k1
          clear hb2 k1 k2 hB
          go_wp2_with (go_at_call 27; (with_reducible refine (HG.out _).mono ?_))
          rintro e w' ⟨rfl, rfl⟩
          go_wp2_with (go_at_call 20; (with_reducible refine (HF.out _ (below_two' HW.out (HB.out.alloc (Nat.le_trans (Nat.le_succ _) (Nat.le_of_lt hz)) _))).mono ?_))
          rintro e x4 ⟨A', n', cp', rfl, hT4, hb4⟩
          have k4 := block_on ((heap_alloc_old _ _ hz).trans HK2.out) hb4
          have HB4 := Lib.hid (below_two' (HB.out.alloc (Nat.le_trans (Nat.le_succ _) (Nat.le_of_lt hz)) _) hb4)
          have HT4 := Lib.hid hT4
          have HK4 := Lib.hid (blk_of k4 (n := 6) rfl)
          obtain ⟨d0, d1, d2, d3, d4, d5⟩ := cells_6 k4
          obtain ⟨g0, g1, g2, g3, g4, g5⟩ := free_6 k4
          clear hT4 hb4 k4 c0 c1 c2 c3 c4 c5
          go_wp2_with fail
          obtain ⟨q0, q1, q2, q3, q4, q5⟩ := store_six HK4.out (.slice A' n' cp') (.int .i64 d.w1) (.int .i64 d.w2) (.int .i64 d.a1) (.int .i64 d.a2) (.int .i64 d.bad)
          refine bodyPost_ret (v := .tuple #[.agg #[.slice A' n' cp', .int .i64 d.w1, .int .i64 d.w2, .int .i64 d.a1, .int .i64 d.a2, .int .i64 d.bad], .int .i64 0]) (by simp [results, Try.results16, go_sem, q0, q1, q2, q3, q4, q5]) rfl ?_
          rw [HS.out]
          exact ⟨A', n', cp', rfl, HT4.out, below_six HB4.out (by omega) _ _ _ _ _ _⟩
        · have hB := numE_good (m := m) h0 (by rw [← ht]; exact h1) (by rw [← ht, ← hE]; exact h2) (by rw [← ht, ← hN]; exact h3)
          have hc : on c = d := by rw [hd]; unfold numC; rw [if_pos hB]
          have HS : Hid (N = u) := Lib.hid (by rw [hu]; unfold numN; rw [if_pos hB, ← ht, hN])
          have HF := HO
          rw [hc] at HF
          have e3 : N ≤ m := by omega
          clear hc hB hd hu ht h0 h1 h2 h3 hN hE HO HFa
          go_enter Try.func16, Try.ntmps16
          go_wp2_with (go_at_call 8; (with_reducible refine (HN.out _ (((HT.out.keep HW.out).alloc _).alloc _)).mono ?_))
          rintro e x2 ⟨rfl, hb2⟩
          obtain ⟨k1, k2, hB, hz⟩ := pair_blocks hb2
          have hz' : w.heap.size < x2.heap.size := by omega
          have HK1 := Lib.hid k1
          have HK2 := Lib.hid k2
          have HB := Lib.hid hB
          obtain ⟨c0, c1, c2, c3, c4, c5⟩ := cells_6 k1
          clear hb2 k1 k2 hB
          go_wp2_with (go_at_call 27; (with_reducible refine (HG.out _).mono ?_))
          rintro e w' ⟨rfl, rfl⟩
          go_wp2_with (go_at_call 23; (with_reducible refine (HF.out _ (below_two' HW.out (HB.out.alloc (Nat.le_trans (Nat.le_succ _) (Nat.le_of_lt hz)) _))).mono ?_))
          rintro e x4 ⟨A', n', cp', rfl, hT4, hb4⟩
          have k4 := block_on ((heap_alloc_old _ _ hz).trans HK2.out) hb4
          have HB4 := Lib.hid (below_two' (HB.out.alloc (Nat.le_trans (Nat.le_succ _) (Nat.le_of_lt hz)) _) hb4)
          have HT4 := Lib.hid hT4
          have HK4 := Lib.hid (blk_of k4 (n := 6) rfl)
          obtain ⟨d0, d1, d2, d3, d4, d5⟩ := cells_6 k4
          obtain ⟨g0, g1, g2, g3, g4, g5⟩ := free_6 k4
          clear hT4 hb4 k4 c0 c1 c2 c3 c4 c5
          go_wp2_with fail
          obtain ⟨q0, q1, q2, q3, q4, q5⟩ := store_six HK4.out (.slice A' n' cp') (.int .i64 d.w1) (.int .i64 d.w2) (.int .i64 d.a1) (.int .i64 d.a2) (.int .i64 d.bad)
          refine bodyPost_ret (v := .tuple #[.agg #[.slice A' n' cp', .int .i64 d.w1, .int .i64 d.w2, .int .i64 d.a1, .int .i64 d.a2, .int .i64 d.bad], .int .i64 N]) (by simp [results, Try.results16, go_sem, q0, q1, q2, q3, q4, q5]) rfl ?_
          rw [HS.out]
          exact ⟨A', n', cp', rfl, HT4.out, below_six HB4.out (by omega) _ _ _ _ _ _⟩
      · have e2 : (E != 0) = true := by simpa using h2
        have hB := num_fail (numE_get (m := m) h0 (by rw [← ht]; exact h1) (by rw [← ht, ← hE]; exact h2)) (by rw [← ht, ← hE]; exact h2)
        rw [← ht, ← hE] at hB
        have hc : fail c E = d := by rw [hd, hB.1]
        have HS : Hid ((0 : Int) = u) := Lib.hid (by rw [hu, hB.2])
        have HF := Lib.hid (fun W hw => HFa.out E W hw)
        rw [hc] at HF
        clear hc hB hd hu ht h0 h1 h2 hN hE HO HFa
        go_enter Try.func16, Try.ntmps16
        go_wp2_with (go_at_call 8; (with_reducible refine (HN.out _ (((HT.out.keep HW.out).alloc _).alloc _)).mono ?_))
        rintro e x2 ⟨rfl, hb2⟩
        obtain ⟨k1, k2, hB, hz⟩ := pair_blocks hb2
        have hz' : w.heap.size < x2.heap.size := by omega
        have HK1 := Lib.hid k1
        have HK2 := Lib.hid k2
        have HB := Lib.hid hB
        obtain ⟨c0, c1, c2, c3, c4, c5⟩ := cells_6 k1
        clear hb2 k1 k2 hB
        go_wp2_with (go_at_call 27; (with_reducible refine (HG.out _).mono ?_))
        rintro e w' ⟨rfl, rfl⟩
        go_wp2_with (go_at_call 20; (with_reducible refine (HF.out _ (below_two' HW.out (HB.out.alloc (Nat.le_trans (Nat.le_succ _) (Nat.le_of_lt hz)) _))).mono ?_))
        rintro e x4 ⟨A', n', cp', rfl, hT4, hb4⟩
        have k4 := block_on ((heap_alloc_old _ _ hz).trans HK2.out) hb4
        have HB4 := Lib.hid (below_two' (HB.out.alloc (Nat.le_trans (Nat.le_succ _) (Nat.le_of_lt hz)) _) hb4)
        have HT4 := Lib.hid hT4
        have HK4 := Lib.hid (blk_of k4 (n := 6) rfl)
        obtain ⟨d0, d1, d2, d3, d4, d5⟩ := cells_6 k4
        obtain ⟨g0, g1, g2, g3, g4, g5⟩ := free_6 k4
        clear hT4 hb4 k4 c0 c1 c2 c3 c4 c5
        go_wp2_with fail
        obtain ⟨q0, q1, q2, q3, q4, q5⟩ := store_six HK4.out (.slice A' n' cp') (.int .i64 d.w1) (.int .i64 d.w2) (.int .i64 d.a1) (.int .i64 d.a2) (.int .i64 d.bad)
        refine bodyPost_ret (v := .tuple #[.agg #[.slice A' n' cp', .int .i64 d.w1, .int .i64 d.w2, .int .i64 d.a1, .int .i64 d.a2, .int .i64 d.bad], .int .i64 0]) (by simp [results, Try.results16, go_sem, q0, q1, q2, q3, q4, q5]) rfl ?_
        rw [HS.out]
        exact ⟨A', n', cp', rfl, HT4.out, below_six HB4.out (by omega) _ _ _ _ _ _⟩
    · have e1 : (t.k != 2) = true := by simpa using h1
      have hB := num_fail (numE_kind (m := m) (by rw [← ht]; exact h1)) (by decide)
      have hc : fail c 2 = d := by rw [hd, hB.1]
      have HS : Hid ((0 : Int) = u) := Lib.hid (by rw [hu, hB.2])
      have HF := Lib.hid (fun W hw => HFa.out 2 W hw)
      rw [hc] at HF
      clear hc hB hd hu ht h0 h1 HO HFa HG
      go_enter Try.func16, Try.ntmps16
      go_wp2_with (go_at_call 8; (with_reducible refine (HN.out _ (((HT.out.keep HW.out).alloc _).alloc _)).mono ?_))
      rintro e x2 ⟨rfl, hb2⟩
      obtain ⟨k1, k2, hB, hz⟩ := pair_blocks hb2
      have hz' : w.heap.size < x2.heap.size := by omega
      have HK1 := Lib.hid k1
      have HK2 := Lib.hid k2
      have HB := Lib.hid hB
      obtain ⟨c0, c1, c2, c3, c4, c5⟩ := cells_6 k1
      clear hb2 k1 k2 hB
      go_wp2_with (go_at_call 20; (with_reducible refine (HF.out _ (below_two' HW.out (HB.out.alloc (Nat.le_trans (Nat.le_succ _) (Nat.le_of_lt hz)) _))).mono ?_))
      rintro e x4 ⟨A', n', cp', rfl, hT4, hb4⟩
      have k4 := block_on ((heap_alloc_old _ _ hz).trans HK2.out) hb4
      have HB4 := Lib.hid (below_two' (HB.out.alloc (Nat.le_trans (Nat.le_succ _) (Nat.le_of_lt hz)) _) hb4)
      have HT4 := Lib.hid hT4
      have HK4 := Lib.hid (blk_of k4 (n := 6) rfl)
      obtain ⟨d0, d1, d2, d3, d4, d5⟩ := cells_6 k4
      obtain ⟨g0, g1, g2, g3, g4, g5⟩ := free_6 k4
      clear hT4 hb4 k4 c0 c1 c2 c3 c4 c5
      go_wp2_with fail
      obtain ⟨q0, q1, q2, q3, q4, q5⟩ := store_six HK4.out (.slice A' n' cp') (.int .i64 d.w1) (.int .i64 d.w2) (.int .i64 d.a1) (.int .i64 d.a2) (.int .i64 d.bad)
      refine bodyPost_ret (v := .tuple #[.agg #[.slice A' n' cp', .int .i64 d.w1, .int .i64 d.w2, .int .i64 d.a1, .int .i64 d.a2, .int .i64 d.bad], .int .i64 0]) (by simp [results, Try.results16, go_sem, q0, q1, q2, q3, q4, q5]) rfl ?_
      rw [HS.out]
      exact ⟨A', n', cp', rfl, HT4.out, below_six HB4.out (by omega) _ _ _ _ _ _⟩
  · have e0 : (c.bad != 0) = true := by simpa using h0
    have hB := num_fail (numE_dead m h0) (by decide)
    have hc : fail c 2 = d := by rw [hd, hB.1]
    have HS : Hid ((0 : Int) = u) := Lib.hid (by rw [hu, hB.2])
    have HF := Lib.hid (fun W hw => HFa.out 2 W hw)
    rw [hc] at HF
    clear hc hB hd hu ht h0 HO HFa HG
    go_enter Try.func16, Try.ntmps16
    go_wp2_with (go_at_call 8; (with_reducible refine (HN.out _ (((HT.out.keep HW.out).alloc _).alloc _)).mono ?_))
    rintro e x2 ⟨rfl, hb2⟩
    obtain ⟨k1, k2, hB, hz⟩ := pair_blocks hb2
    have hz' : w.heap.size < x2.heap.size := by omega
    have HK1 := Lib.hid k1
    have HK2 := Lib.hid k2
    have HB := Lib.hid hB
    obtain ⟨c0, c1, c2, c3, c4, c5⟩ := cells_6 k1
    clear hb2 k1 k2 hB
    go_wp2_with (go_at_call 20; (with_reducible refine (HF.out _ (below_two' HW.out (HB.out.alloc (Nat.le_trans (Nat.le_succ _) (Nat.le_of_lt hz)) _))).mono ?_))
    rintro e x4 ⟨A', n', cp', rfl, hT4, hb4⟩
    have k4 := block_on ((heap_alloc_old _ _ hz).trans HK2.out) hb4
    have HB4 := Lib.hid (below_two' (HB.out.alloc (Nat.le_trans (Nat.le_succ _) (Nat.le_of_lt hz)) _) hb4)
    have HT4 := Lib.hid hT4
    have HK4 := Lib.hid (blk_of k4 (n := 6) rfl)
    obtain ⟨d0, d1, d2, d3, d4, d5⟩ := cells_6 k4
    obtain ⟨g0, g1, g2, g3, g4, g5⟩ := free_6 k4
    clear hT4 hb4 k4 c0 c1 c2 c3 c4 c5
    go_wp2_with fail
    obtain ⟨q0, q1, q2, q3, q4, q5⟩ := store_six HK4.out (.slice A' n' cp') (.int .i64 d.w1) (.int .i64 d.w2) (.int .i64 d.a1) (.int .i64 d.a2) (.int .i64 d.bad)
    refine bodyPost_ret (v := .tuple #[.agg #[.slice A' n' cp', .int .i64 d.w1, .int .i64 d.w2, .int .i64 d.a1, .int .i64 d.a2, .int .i64 d.bad], .int .i64 0]) (by simp [results, Try.results16, go_sem, q0, q1, q2, q3, q4, q5]) rfl ?_
    rw [HS.out]
    exact ⟨A', n', cp', rfl, HT4.out, below_six HB4.out (by omega) _ _ _ _ _ _⟩
end Go.Proofs.Ytoegpieomnpifaa
