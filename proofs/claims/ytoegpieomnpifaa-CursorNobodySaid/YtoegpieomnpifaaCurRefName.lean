/- What the reference's calls on cursors answer: Name. Condition: the cursor's tokens lie in memory, its texts are no longer than memory holds. -/
import Derived.Test.YtoegpieomnpifaaCurRefTake
import Derived.Test.YtoegpieomnpifaaNamesRefIs
import Derived.Deep.RegionHeld3
namespace Go.Proofs.Ytoegpieomnpifaa
open Go.RowKit CurSpec NamesSpec

def RetCurS (W0 W : World) (c : Cur) (s : ByteArray) (e : Ending) (w' : World) : Prop :=
  ∃ A n cp, e = .returned (.tuple #[.agg #[.slice A n cp, .int .i64 c.w1, .int .i64 c.w2, .int .i64 c.a1, .int .i64 c.a2, .int .i64 c.bad], .string s]) ∧ Toks W0 (.slice A n cp) c.L ∧ Below W.heap.size W w'
theorem ris_say {s : ByteArray} {b : Bool} (hb : isName s.data.toList = b) (hs : s.size ≤ 9223372036854775807) (w : World) : Calls Try.prog 25 #[.string s] w (RetBool w b) := by
  subst hb
  exact ris_any s w hs
theorem nameB_yes {c : Cur} (h0 : c.bad = 0) (h1 : (next c).k = 1) (h2 : isName (next c).t.data.toList = true) : nameB c = true := by simp [nameB, h0, h1, h2]
theorem nameB_no1 {c : Cur} (h1 : (next c).k ≠ 1) : nameB c = false := by simp [nameB, h1]
theorem nameB_no2 {c : Cur} (h1 : isName (next c).t.data.toList = false) : nameB c = false := by simp [nameB, h1]

set_option maxHeartbeats 2000000 in
theorem name_say (c : Cur) (ok : Ok c) (A : Option Addr) (n cp : Nat) (W0 w : World) (h : Toks W0 (.slice A n cp) c.L) (hw : Below W0.heap.size W0 w) :
    Calls Try.prog 14 #[.agg #[.slice A n cp, .int .i64 c.w1, .int .i64 c.w2, .int .i64 c.a1, .int .i64 c.a2, .int .i64 c.bad]] w (RetCurS W0 w (nameC c) (nameS c)) := by
  have HT := Lib.hid h
  have HW := Lib.hid hw
  have HN := Lib.hid (fun W h => next_say c A n cp W h)
  have HO := Lib.hid (fun W hw => on_say c A n cp W0 W h hw)
  have HF := Lib.hid (fun W hw => fail_say c 2 A n cp W0 W h hw)
  clear h hw
  obtain ⟨d, hd⟩ : ∃ d, d = nameC c := ⟨_, rfl⟩
  obtain ⟨u, hu⟩ : ∃ u, u = nameS c := ⟨_, rfl⟩
  obtain ⟨t, ht⟩ : ∃ t, t = next c := ⟨_, rfl⟩
  have HI := Lib.hid (fun b hb W => ris_say (s := (next c).t) (b := b) hb ok.next W)
  rw [← hd, ← hu]
  rw [← ht] at HN HI
  by_cases h0 : c.bad = 0
  · have e0 : (c.bad == 0) = true := by simpa using h0
    by_cases h1 : t.k = 1
    · have e1 : (t.k == 1) = true := by simpa using h1
      by_cases h2 : isName t.t.data.toList = true
      · have hB : nameB c = true := nameB_yes h0 (by rw [← ht]; exact h1) (by rw [← ht]; exact h2)
        have hc : on c = d := by rw [hd]; unfold nameC; rw [if_pos hB]
        have hs : t.t = u := by rw [hu]; unfold nameS; rw [if_pos hB, ht]
        have HI2 := Lib.hid (HI.out true h2)
        rw [hc] at HO
        have HS := Lib.hid hs
        clear HI hs hc hB hd hu ht h0 h1 h2 HF
        go_enter Try.func14, Try.ntmps14
        go_wp2_with (go_at_call 8; (with_reducible refine (HN.out _ (((HT.out.keep HW.out).alloc _).alloc _)).mono ?_))
        rintro e x2 ⟨rfl, hb2⟩
        obtain ⟨k1, k2, hB, hz⟩ := pair_blocks hb2
        have hz' : w.heap.size < x2.heap.size := by omega
        have HK1 := Lib.hid k1
        have HK2 := Lib.hid k2
        have HB := Lib.hid hB
        obtain ⟨c0, c1, c2, c3, c4, c5⟩ := cells_6 k1
        clear hb2 k1 k2 hB
        go_wp2_with (go_at_call 25; (with_reducible refine (HI2.out _).mono ?_))
        rintro e x3 ⟨rfl, hb3⟩
        obtain ⟨k3, hB3, hz3⟩ := one_block hb3
        have HB3 := Lib.hid (below_two' HB.out hB3)
        have HB1 := Lib.hid (block_on HK1.out hB3)
        have HK3 := Lib.hid (block_on HK2.out hB3)
        have HBt := Lib.hid k3
        clear c0 c1 c2 c3 c4 c5 hb3 hB3 k3
        obtain ⟨c0, c1, c2, c3, c4, c5⟩ := cells_6 HB1.out
        obtain ⟨t0, t1, t2, t3⟩ := cells_4 HBt.out
        have hne1 : ¬ x2.heap.size = w.heap.size + 1 := by omega
        have hne2 : ¬ w.heap.size + 1 = x2.heap.size := by omega
        go_wp2_with fail
        go_region_held3 (fun w' => w'.cell? ⟨w.heap.size, 0, none⟩ = some (.slice A n cp) ∧ w'.cell? ⟨w.heap.size, 1, none⟩ = some (.int .i64 c.w1) ∧ w'.cell? ⟨w.heap.size, 2, none⟩ = some (.int .i64 c.w2) ∧ w'.cell? ⟨w.heap.size, 3, none⟩ = some (.int .i64 c.a1) ∧ w'.cell? ⟨w.heap.size, 4, none⟩ = some (.int .i64 c.a2) ∧ w'.cell? ⟨w.heap.size, 5, none⟩ = some (.int .i64 c.bad) ∧ w'.cell? ⟨x2.heap.size, 1, none⟩ = some (.string t.t)) (go_keep)
          ((go_at_call 23; refine (HO.out _ (below_two' HW.out HB3.out.drew)).mono ?_; rintro e x4 ⟨A', n', cp', rfl, hT4, hb4'⟩; have hb4 := undrew hb4'; clear hb4'; have k4 := block_on HK3.out hb4; obtain ⟨d0, d1, d2, d3, d4, d5⟩ := cells_6 k4; obtain ⟨g0, g1, g2, g3, g4, g5⟩ := free_6 k4; have HB4 := Lib.hid hb4; have HK4 := Lib.hid (blk_of k4 (n := 6) rfl); have HT4 := Lib.hid hT4; obtain ⟨p0, p1, p2, p3, p4, p5⟩ := cells_6 (block_on HB1.out hb4); obtain ⟨r0, r1, r2, r3⟩ := cells_4 (block_on HBt.out hb4); clear hb4 k4 hT4))
        go_wp2_with fail
        obtain ⟨q0, q1, q2, q3, q4, q5⟩ := store_six HK4.out (.slice A' n' cp') (.int .i64 d.w1) (.int .i64 d.w2) (.int .i64 d.a1) (.int .i64 d.a2) (.int .i64 d.bad)
        refine bodyPost_ret (v := .tuple #[.agg #[.slice A' n' cp', .int .i64 d.w1, .int .i64 d.w2, .int .i64 d.a1, .int .i64 d.a2, .int .i64 d.bad], .string t.t]) (by simp [results, Try.results14, go_sem, q0, q1, q2, q3, q4, q5]) rfl ?_
        rw [HS.out]
        exact ⟨A', n', cp', rfl, HT4.out, below_six (below_two' HB3.out HB4.out) (by omega) _ _ _ _ _ _⟩
      · have h2' : isName t.t.data.toList = false := by simpa using h2
        have hB : nameB c = false := nameB_no2 (by rw [← ht]; exact h2')
        have hc : fail c 2 = d := by rw [hd]; unfold nameC; rw [hB]; rfl
        have hs : (⟨#[]⟩ : ByteArray) = u := by rw [hu]; unfold nameS; rw [hB]; rfl
        have HI2 := Lib.hid (HI.out false h2')
        rw [hc] at HF
        have HS := Lib.hid hs
        clear HI hs hc hB hd hu ht h0 h1 h2 h2' HO
        go_enter Try.func14, Try.ntmps14
        go_wp2_with (go_at_call 8; (with_reducible refine (HN.out _ (((HT.out.keep HW.out).alloc _).alloc _)).mono ?_))
        rintro e x2 ⟨rfl, hb2⟩
        obtain ⟨k1, k2, hB, hz⟩ := pair_blocks hb2
        have hz' : w.heap.size < x2.heap.size := by omega
        have HK1 := Lib.hid k1
        have HK2 := Lib.hid k2
        have HB := Lib.hid hB
        obtain ⟨c0, c1, c2, c3, c4, c5⟩ := cells_6 k1
        clear hb2 k1 k2 hB
        go_wp2_with (go_at_call 25; (with_reducible refine (HI2.out _).mono ?_))
        rintro e x3 ⟨rfl, hb3⟩
        obtain ⟨k3, hB3, hz3⟩ := one_block hb3
        have HB3 := Lib.hid (below_two' HB.out hB3)
        have HB1 := Lib.hid (block_on HK1.out hB3)
        have HK3 := Lib.hid (block_on HK2.out hB3)
        have HBt := Lib.hid k3
        clear c0 c1 c2 c3 c4 c5 hb3 hB3 k3
        obtain ⟨c0, c1, c2, c3, c4, c5⟩ := cells_6 HB1.out
        obtain ⟨t0, t1, t2, t3⟩ := cells_4 HBt.out
        go_wp2_with (go_at_call 20; (with_reducible refine (HF.out _ (below_two' HW.out HB3.out)).mono ?_))
        rintro e x4 ⟨A', n', cp', rfl, hT4, hb4⟩
        have k4 := block_on HK3.out hb4
        have HB4 := Lib.hid (below_two' HB3.out hb4)
        have HT4 := Lib.hid hT4
        have HK4 := Lib.hid (blk_of k4 (n := 6) rfl)
        obtain ⟨d0, d1, d2, d3, d4, d5⟩ := cells_6 k4
        obtain ⟨g0, g1, g2, g3, g4, g5⟩ := free_6 k4
        clear hT4 hb4 k4 c0 c1 c2 c3 c4 c5
        go_wp2_with fail
        obtain ⟨q0, q1, q2, q3, q4, q5⟩ := store_six HK4.out (.slice A' n' cp') (.int .i64 d.w1) (.int .i64 d.w2) (.int .i64 d.a1) (.int .i64 d.a2) (.int .i64 d.bad)
        refine bodyPost_ret (v := .tuple #[.agg #[.slice A' n' cp', .int .i64 d.w1, .int .i64 d.w2, .int .i64 d.a1, .int .i64 d.a2, .int .i64 d.bad], .string ⟨#[]⟩]) (by simp [results, Try.results14, go_sem, q0, q1, q2, q3, q4, q5]) rfl ?_
        rw [HS.out]
        exact ⟨A', n', cp', rfl, HT4.out, below_six HB4.out (by omega) _ _ _ _ _ _⟩
    · have e1 : (t.k == 1) = false := by simpa using h1
      have hB : nameB c = false := nameB_no1 (by rw [← ht]; exact h1)
      have hc : fail c 2 = d := by rw [hd]; unfold nameC; rw [hB]; rfl
      have hs : (⟨#[]⟩ : ByteArray) = u := by rw [hu]; unfold nameS; rw [hB]; rfl
      rw [hc] at HF
      have HS := Lib.hid hs
      clear HI hs hc hB hd hu ht h0 h1 HO
      go_enter Try.func14, Try.ntmps14
      go_wp2_with (go_at_call 8; (with_reducible refine (HN.out _ (((HT.out.keep HW.out).alloc _).alloc _)).mono ?_))
      rintro e x2 ⟨rfl, hb2⟩
      obtain ⟨k1, k2, hB, hz⟩ := pair_blocks hb2
      have hz' : w.heap.size < x2.heap.size := by omega
      have HK1 := Lib.hid k1
      have HK2 := Lib.hid k2
      have HB := Lib.hid hB
      obtain ⟨c0, c1, c2, c3, c4, c5⟩ := cells_6 k1
      clear hb2 k1 k2 hB
      go_wp2_with (go_at_call 20; (with_reducible refine (HF.out _ (below_two' HW.out (HB.out.alloc (Nat.le_trans (Nat.le_succ _) (Nat.le_of_lt hz)) _))).mono ?_))
      rintro e x4 ⟨A', n', cp', rfl, hT4, hb4⟩
      have k4 := block_on ((heap_alloc_old _ _ hz).trans HK2.out) hb4
      have HB4 := Lib.hid (below_two' (HB.out.alloc (Nat.le_trans (Nat.le_succ _) (Nat.le_of_lt hz)) _) hb4)
      have HT4 := Lib.hid hT4
      have HK4 := Lib.hid (blk_of k4 (n := 6) rfl)
      obtain ⟨d0, d1, d2, d3, d4, d5⟩ := cells_6 k4
      obtain ⟨g0, g1, g2, g3, g4, g5⟩ := free_6 k4
      clear hT4 hb4 k4 c0 c1 c2 c3 c4 c5
      go_wp2_with fail
      obtain ⟨q0, q1, q2, q3, q4, q5⟩ := store_six HK4.out (.slice A' n' cp') (.int .i64 d.w1) (.int .i64 d.w2) (.int .i64 d.a1) (.int .i64 d.a2) (.int .i64 d.bad)
      refine bodyPost_ret (v := .tuple #[.agg #[.slice A' n' cp', .int .i64 d.w1, .int .i64 d.w2, .int .i64 d.a1, .int .i64 d.a2, .int .i64 d.bad], .string ⟨#[]⟩]) (by simp [results, Try.results14, go_sem, q0, q1, q2, q3, q4, q5]) rfl ?_
      rw [HS.out]
      exact ⟨A', n', cp', rfl, HT4.out, below_six HB4.out (by omega) _ _ _ _ _ _⟩
  · have e0 : (c.bad == 0) = false := by simpa using h0
    have hB : nameB c = false := nameB_dead h0
    have hc : fail c 2 = d := by rw [hd]; unfold nameC; rw [hB]; rfl
    have hs : (⟨#[]⟩ : ByteArray) = u := by rw [hu]; unfold nameS; rw [hB]; rfl
    rw [hc] at HF
    have HS := Lib.hid hs
    clear HI hs hc hB hd hu ht h0 HO
    go_enter Try.func14, Try.ntmps14
    go_wp2_with (go_at_call 8; (with_reducible refine (HN.out _ (((HT.out.keep HW.out).alloc _).alloc _)).mono ?_))
    rintro e x2 ⟨rfl, hb2⟩
    obtain ⟨k1, k2, hB, hz⟩ := pair_blocks hb2
    have hz' : w.heap.size < x2.heap.size := by omega
    have HK1 := Lib.hid k1
    have HK2 := Lib.hid k2
    have HB := Lib.hid hB
    obtain ⟨c0, c1, c2, c3, c4, c5⟩ := cells_6 k1
    clear hb2 k1 k2 hB
    go_wp2_with (go_at_call 20; (with_reducible refine (HF.out _ (below_two' HW.out (HB.out.alloc (Nat.le_trans (Nat.le_succ _) (Nat.le_of_lt hz)) _))).mono ?_))
    rintro e x4 ⟨A', n', cp', rfl, hT4, hb4⟩
    have k4 := block_on ((heap_alloc_old _ _ hz).trans HK2.out) hb4
    have HB4 := Lib.hid (below_two' (HB.out.alloc (Nat.le_trans (Nat.le_succ _) (Nat.le_of_lt hz)) _) hb4)
    have HT4 := Lib.hid hT4
    have HK4 := Lib.hid (blk_of k4 (n := 6) rfl)
    obtain ⟨d0, d1, d2, d3, d4, d5⟩ := cells_6 k4
    obtain ⟨g0, g1, g2, g3, g4, g5⟩ := free_6 k4
    clear hT4 hb4 k4 c0 c1 c2 c3 c4 c5
    go_wp2_with fail
    obtain ⟨q0, q1, q2, q3, q4, q5⟩ := store_six HK4.out (.slice A' n' cp') (.int .i64 d.w1) (.int .i64 d.w2) (.int .i64 d.a1) (.int .i64 d.a2) (.int .i64 d.bad)
    refine bodyPost_ret (v := .tuple #[.agg #[.slice A' n' cp', .int .i64 d.w1, .int .i64 d.w2, .int .i64 d.a1, .int .i64 d.a2, .int .i64 d.bad], .string ⟨#[]⟩]) (by simp [results, Try.results14, go_sem, q0, q1, q2, q3, q4, q5]) rfl ?_
    rw [HS.out]
    exact ⟨A', n', cp', rfl, HT4.out, below_six HB4.out (by omega) _ _ _ _ _ _⟩
end Go.Proofs.Ytoegpieomnpifaa
