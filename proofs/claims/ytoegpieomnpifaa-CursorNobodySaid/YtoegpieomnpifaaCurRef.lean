/- What the reference's calls on cursors answer: Next, On, Fail, Is. Condition: the cursor's tokens lie in memory. -/
import Derived.Test.YtoegpieomnpifaaCurMem
namespace Go.Proofs.Ytoegpieomnpifaa
open Go.RowKit CurSpec

/-- The cells of a cursor by value. -/
abbrev curO (A : Option Addr) (n cp : Nat) (w1 w2 a1 a2 bad : Int) : Obj := .cells #[.slice A n cp, .int .i64 w1, .int .i64 w2, .int .i64 a1, .int .i64 a2, .int .i64 bad] 33

set_option maxHeartbeats 1000000 in
theorem next_say (c : Cur) (A : Option Addr) (n cp : Nat) (w : World) (h : Toks w (.slice A n cp) c.L) :
    Calls Try.prog 8 #[.agg #[.slice A n cp, .int .i64 c.w1, .int .i64 c.w2, .int .i64 c.a1, .int .i64 c.a2, .int .i64 c.bad]] w (RetTk w (next c).k (next c).t (next c).l (next c).c) := by
  obtain ⟨L, w1, w2, a1, a2, bad⟩ := c
  change Calls _ _ #[.agg #[.slice A n cp, .int .i64 w1, .int .i64 w2, .int .i64 a1, .int .i64 a2, .int .i64 bad]] _ _
  by_cases hb : bad = 0
  · subst hb
    cases L with
    | nil =>
      obtain rfl := h.nil0
      clear h
      go_enter Try.func8, Try.ntmps8
      go_wp2_with fail
      refine bodyPost_ret (v := .agg #[.int .i64 0, .string ⟨#[]⟩, .int .i64 w1, .int .i64 w2]) (by simp [results, Try.results8, go_sem]) rfl ⟨rfl, below_pair _ _ _⟩
    | cons t r =>
      obtain ⟨b, off, m, rfl, rfl, hc, hlt, c0, c1, c2, c3, _⟩ := h.cons'
      clear h
      obtain ⟨k, s, l, cc⟩ := t
      simp only at c0 c1 c2 c3
      have hnI : 0 ≤ (m : Int) := by omega
      clear hc
      go_enter Try.func8, Try.ntmps8
      go_wp2_with fail
      refine bodyPost_ret (v := .agg #[.int .i64 k, .string s, .int .i64 l, .int .i64 cc]) (by simp [results, Try.results8, go_sem]) rfl ⟨rfl, below_pair _ _ _⟩
  · have e0 : (bad == 0) = false := by simpa using hb
    have e1 : (bad != 0) = true := by simpa using hb
    clear h
    go_enter Try.func8, Try.ntmps8
    go_wp2_with fail
    refine bodyPost_ret (v := .agg #[.int .i64 0, .string ⟨#[]⟩, .int .i64 0, .int .i64 0]) (by simp [results, Try.results8, go_sem]) rfl ⟨?_, below_pair _ _ _⟩
    rw [next_dead hb]; rfl

theorem ret_cur {W0 w w' : World} {c : Cur} {A : Option Addr} {n cp : Nat} {w1 w2 a1 a2 bad : Int} (h : c = ⟨c.L, w1, w2, a1, a2, bad⟩) (hT : Toks W0 (.slice A n cp) c.L) (hB : Below w.heap.size w w') :
    RetCur W0 w c (.returned (.agg #[.slice A n cp, .int .i64 w1, .int .i64 w2, .int .i64 a1, .int .i64 a2, .int .i64 bad])) w' :=
  ⟨A, n, cp, by rw [h], hT, hB⟩

set_option maxHeartbeats 1000000 in
theorem on_say (c : Cur) (A : Option Addr) (n cp : Nat) (W0 w : World) (h : Toks W0 (.slice A n cp) c.L) (hw : Below W0.heap.size W0 w) :
    Calls Try.prog 23 #[.agg #[.slice A n cp, .int .i64 c.w1, .int .i64 c.w2, .int .i64 c.a1, .int .i64 c.a2, .int .i64 c.bad]] w (RetCur W0 w (on c)) := by
  obtain ⟨L, w1, w2, a1, a2, bad⟩ := c
  change Calls _ _ #[.agg #[.slice A n cp, .int .i64 w1, .int .i64 w2, .int .i64 a1, .int .i64 a2, .int .i64 bad]] _ _
  cases L with
  | nil =>
    obtain rfl := h.nil0
    have HT := Lib.hid h
    clear h hw
    go_enter Try.func23, Try.ntmps23
    go_wp2_with fail
    refine bodyPost_ret (v := .agg #[.slice A 0 cp, .int .i64 w1, .int .i64 w2, .int .i64 a1, .int .i64 a2, .int .i64 bad]) (by simp [results, Try.results23, go_sem]) rfl ?_
    exact ret_cur rfl HT.out (below_pair _ _ _)
  | cons t r =>
    obtain ⟨b, off, n, rfl, rfl, hc, _, _, _, _, _, hr⟩ := h.cons'
    obtain ⟨b', off', n', hA, hn, _, hlt, c0, c1, c2, c3, _⟩ := (h.keep hw).cons'
    cases hA; cases hn
    clear h hw
    have HT := Lib.hid hr
    clear hr
    obtain ⟨k, s, l, cc⟩ := t
    simp only at c0 c1 c2 c3
    have hnI : 0 ≤ (n : Int) := by omega
    by_cases hcp : cp = 1
    · subst hcp
      obtain rfl : n = 0 := by omega
      have HT2 : Hid (Toks W0 (.slice (some ⟨b, off, none⟩) 0 0) r) := HT
      clear HT
      go_enter Try.func23, Try.ntmps23
      go_wp2_with fail
      refine bodyPost_ret (v := .agg #[.slice (some ⟨b, off, none⟩) 0 0, .int .i64 l, .int .i64 cc, .int .i64 a1, .int .i64 a2, .int .i64 bad]) (by simp [results, Try.results23, go_sem]) rfl ?_
      exact ret_cur rfl HT2.out (below_pair _ _ _)
    · have hc1 : 1 < cp := by omega
      have HT2 : Hid (Toks W0 (.slice (some ⟨b, off + 4, none⟩) n (cp - 1)) r) := Lib.hid (by have := HT.out; rwa [if_neg hcp] at this)
      go_enter Try.func23, Try.ntmps23
      go_wp2_with fail
      refine bodyPost_ret (v := .agg #[.slice (some ⟨b, off + 4, none⟩) n (cp - 1), .int .i64 l, .int .i64 cc, .int .i64 a1, .int .i64 a2, .int .i64 bad]) (by simp [results, Try.results23, go_sem]) rfl ?_
      exact ret_cur rfl HT2.out (below_pair _ _ _)

set_option maxHeartbeats 1000000 in
theorem fail_say (c : Cur) (er : Int) (A : Option Addr) (n cp : Nat) (W0 w : World) (h : Toks W0 (.slice A n cp) c.L) (hw : Below W0.heap.size W0 w) :
    Calls Try.prog 20 #[.agg #[.slice A n cp, .int .i64 c.w1, .int .i64 c.w2, .int .i64 c.a1, .int .i64 c.a2, .int .i64 c.bad], .int .i64 er] w (RetCur W0 w (fail c er)) := by
  have HT := Lib.hid h
  have HTw := Lib.hid (h.keep hw)
  have HN := Lib.hid (fun W h => next_say c A n cp W h)
  clear h hw
  by_cases hb : c.bad = 0
  · by_cases he : er = 0
    · have HF : Hid (fail c er = c) := Lib.hid (by rw [he]; exact fail_zero _)
      have e0 : (c.bad == 0) = true := by simpa using hb
      have e1 : (er != 0) = false := by simpa using he
      clear he hb
      go_enter Try.func20, Try.ntmps20
      go_wp2_with fail
      refine bodyPost_ret (v := .agg #[.slice A n cp, .int .i64 c.w1, .int .i64 c.w2, .int .i64 c.a1, .int .i64 c.a2, .int .i64 c.bad]) (by simp [results, Try.results20, go_sem]) rfl ?_
      rw [HF.out]
      exact ret_cur rfl HT.out (below_pair _ _ _)
    · obtain ⟨k, s, l, cc⟩ : ∃ t, next c = t := ⟨_, rfl⟩
      obtain ⟨t, ht⟩ : ∃ t, t = next c := ⟨_, rfl⟩
      have HF : Hid (fail c er = ⟨c.L, c.w1, c.w2, t.l, t.c, er⟩) := Lib.hid (by rw [fail_yes hb he, ht])
      rw [← ht] at HN
      have e2 : (c.bad == 0) = true := by simpa using hb
      have e1 : (er != 0) = true := by simpa using he
      have e0 : (er == 0) = false := by simpa using he
      clear he ht hb
      have hF2 : ∀ W, (Instr.field 28 (.agg #[.int .i64 t.k, .string t.t, .int .i64 t.l, .int .i64 t.c]) 2).run Try.prog W = .ok (.agg #[.int .i64 t.l, .int .i64 t.c]) W := fun _ => by kernel_rfl
      go_enter Try.func20, Try.ntmps20
      go_wp2_with (go_at_call 8; (with_reducible refine (HN.out _ ((HTw.out.alloc _).alloc _)).mono ?_))
      rintro e x2 ⟨rfl, hb2⟩
      obtain ⟨k1, k2, hB, _⟩ := pair_blocks hb2
      have HK2 := Lib.hid (blk_of k2 (n := 6) rfl)
      have HB := Lib.hid hB
      obtain ⟨c0, c1, c2, c3, c4, c5⟩ := cells_6 k1
      obtain ⟨f0, f1, f2, f3, f4, f5⟩ := free_6 k1
      obtain ⟨d0, d1, d2, d3, d4, d5⟩ := cells_6 k2
      obtain ⟨g0, g1, g2, g3, g4, g5⟩ := free_6 k2
      clear hb2 k1 k2 hB
      go_wp2_with fail
      have HS := ((HK2.out.other (c := w.heap.size) (by omega) 3 (.int .i64 t.l)).other (c := w.heap.size) (by omega) 4 (.int .i64 t.c)).other (c := w.heap.size) (by omega) 5 (.int .i64 er)
      obtain ⟨q0, q1, q2, q3, q4, q5⟩ := store_six HS (.slice A n cp) (.int .i64 c.w1) (.int .i64 c.w2) (.int .i64 t.l) (.int .i64 t.c) (.int .i64 er)
      refine bodyPost_ret (v := .agg #[.slice A n cp, .int .i64 c.w1, .int .i64 c.w2, .int .i64 t.l, .int .i64 t.c, .int .i64 er]) (by simp [results, Try.results20, go_sem, q0, q1, q2, q3, q4, q5]) rfl ?_
      have hB := below_six (((HB.out.setCell (p := ⟨w.heap.size, 3, none⟩) (Nat.le_refl _) (.int .i64 t.l)).setCell (p := ⟨w.heap.size, 4, none⟩) (Nat.le_refl _) (.int .i64 t.c)).setCell (p := ⟨w.heap.size, 5, none⟩) (Nat.le_refl _) (.int .i64 er)) (b := w.heap.size + 1) (by omega) (.slice A n cp) (.int .i64 c.w1) (.int .i64 c.w2) (.int .i64 t.l) (.int .i64 t.c) (.int .i64 er)
      rw [HF.out]
      exact ret_cur rfl HT.out hB
  · have HF : Hid (fail c er = c) := Lib.hid (fail_dead er hb)
    have e0 : (c.bad == 0) = false := by simpa using hb
    go_enter Try.func20, Try.ntmps20
    go_wp2_with fail
    refine bodyPost_ret (v := .agg #[.slice A n cp, .int .i64 c.w1, .int .i64 c.w2, .int .i64 c.a1, .int .i64 c.a2, .int .i64 c.bad]) (by simp [results, Try.results20, go_sem]) rfl ?_
    rw [HF.out]
    exact ret_cur rfl HT.out (below_pair _ _ _)

/-- The three tests of Is, each decided. -/
theorem isB_yes {c : Cur} {k : Int} {s : ByteArray} (h0 : c.bad = 0) (h1 : (next c).k = k) (h2 : (next c).t = s) : isB c k s = true := by simp [isB, h0, h1, h2]
theorem isB_no1 {c : Cur} {k : Int} {s : ByteArray} (h1 : (next c).k ≠ k) : isB c k s = false := by simp [isB, h1]
theorem isB_no2 {c : Cur} {k : Int} {s : ByteArray} (h1 : (next c).t ≠ s) : isB c k s = false := by simp [isB, h1]
set_option maxHeartbeats 1000000 in
theorem is_say (c : Cur) (k : Int) (s : ByteArray) (A : Option Addr) (n cp : Nat) (w : World) (h : Toks w (.slice A n cp) c.L) :
    Calls Try.prog 19 #[.agg #[.slice A n cp, .int .i64 c.w1, .int .i64 c.w2, .int .i64 c.a1, .int .i64 c.a2, .int .i64 c.bad], .int .i64 k, .string s] w (RetBool w (isB c k s)) := by
  have HT := Lib.hid h
  have HN := Lib.hid (fun W h => next_say c A n cp W h)
  clear h
  obtain ⟨t, ht⟩ : ∃ t, t = next c := ⟨_, rfl⟩
  obtain ⟨b, hb⟩ : ∃ b, b = isB c k s := ⟨_, rfl⟩
  rw [← ht] at HN
  rw [← hb]
  by_cases h0 : c.bad = 0
  · have e0 : (c.bad == 0) = true := by simpa using h0
    by_cases h1 : t.k = k
    · have e1 : (t.k == k) = true := by simpa using h1
      by_cases h2 : t.t = s
      · have e2 : (t.t.toList == s.toList) = true := by rw [h2]; simp
        have HV : Hid (b = true) := Lib.hid (hb.trans (isB_yes h0 (by rw [← ht]; exact h1) (by rw [← ht]; exact h2)))
        clear hb ht h0 h1 h2
        go_enter Try.func19, Try.ntmps19
        go_wp2_with (go_at_call 8; (with_reducible refine (HN.out _ (HT.out.alloc _)).mono ?_))
        rintro e x2 ⟨rfl, hb2⟩
        obtain ⟨k1, hB, hz⟩ := one_block hb2
        obtain ⟨c0, c1, c2, c3, c4, c5⟩ := cells_6 k1
        have HB := Lib.hid hB
        clear hb2 k1 hB
        go_wp2_with fail
        go_ret
        exact ⟨ret_bool HV.out.symm, HB.out.alloc (Nat.le_of_lt hz) _⟩
      · have e2 : (t.t.toList == s.toList) = false := (Lib.bytes_beq_false_iff _ _).2 h2
        have HV : Hid (b = false) := Lib.hid (hb.trans (isB_no2 (by rw [← ht]; exact h2)))
        clear hb ht h0 h1 h2
        go_enter Try.func19, Try.ntmps19
        go_wp2_with (go_at_call 8; (with_reducible refine (HN.out _ (HT.out.alloc _)).mono ?_))
        rintro e x2 ⟨rfl, hb2⟩
        obtain ⟨k1, hB, hz⟩ := one_block hb2
        obtain ⟨c0, c1, c2, c3, c4, c5⟩ := cells_6 k1
        have HB := Lib.hid hB
        clear hb2 k1 hB
        go_wp2_with fail
        go_ret
        exact ⟨ret_bool HV.out.symm, HB.out.alloc (Nat.le_of_lt hz) _⟩
    · have e1 : (t.k == k) = false := by simpa using h1
      have HV : Hid (b = false) := Lib.hid (hb.trans (isB_no1 (by rw [← ht]; exact h1)))
      clear hb ht h0 h1
      go_enter Try.func19, Try.ntmps19
      go_wp2_with (go_at_call 8; (with_reducible refine (HN.out _ (HT.out.alloc _)).mono ?_))
      rintro e x2 ⟨rfl, hb2⟩
      obtain ⟨k1, hB, hz⟩ := one_block hb2
      obtain ⟨c0, c1, c2, c3, c4, c5⟩ := cells_6 k1
      have HB := Lib.hid hB
      clear hb2 k1 hB
      go_wp2_with fail
      go_ret
      exact ⟨ret_bool HV.out.symm, HB.out.alloc (Nat.le_of_lt hz) _⟩
  · have e0 : (c.bad == 0) = false := by simpa using h0
    have HV : Hid (b = false) := Lib.hid (hb.trans (isB_dead k s h0))
    clear hb ht h0
    go_enter Try.func19, Try.ntmps19
    go_wp2_with (go_at_call 8; (with_reducible refine (HN.out _ (HT.out.alloc _)).mono ?_))
    rintro e x2 ⟨rfl, hb2⟩
    obtain ⟨k1, hB, hz⟩ := one_block hb2
    obtain ⟨c0, c1, c2, c3, c4, c5⟩ := cells_6 k1
    have HB := Lib.hid hB
    clear hb2 k1 hB
    go_wp2_with fail
    go_ret
    exact ⟨ret_bool HV.out.symm, HB.out.alloc (Nat.le_of_lt hz) _⟩
end Go.Proofs.Ytoegpieomnpifaa
