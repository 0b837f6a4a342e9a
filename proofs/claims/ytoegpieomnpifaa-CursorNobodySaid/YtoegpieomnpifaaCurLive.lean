/- What the program's Next, Is, Fail and pass answer, of a cursor that New gave. Condition: the cursor lies in memory. -/
import Derived.Test.YtoegpieomnpifaaCurDead
import Derived.Test.YtoegpieomnpifaaCurRef
namespace Go.Proofs.Ytoegpieomnpifaa
open Go.RowKit CurSpec

theorem full_next {c : Cur} (h : c.bad = 0) : ∃ r, full c.L c.w1 c.w2 = next c :: r ∧ (0 < c.L.length → r = full (on c).L (on c).w1 (on c).w2) := by
  obtain ⟨L, w1, w2, a1, a2, bad⟩ := c
  obtain rfl : bad = 0 := h
  cases L with
  | nil => exact ⟨[], rfl, fun h => absurd h (by simp)⟩
  | cons t r => exact ⟨_, rfl, fun _ => rfl⟩
/-- The block of a cursor, and where its next token lies. -/
theorem CurAt.open {w : World} {B : Nat} {c : Cur} (h : CurAt w B c) (h0 : c.bad = 0) :
    ∃ b off n cp, w.heap[B]? = some (.cells #[.slice (some ⟨b, off, none⟩) (n + 1) cp, .int .i64 c.a1, .int .i64 c.a2, .int .i64 c.bad] 56 (0, 0)) ∧ b ≠ B ∧ n = c.L.length ∧ n + 1 ≤ cp ∧ b < w.heap.size ∧
      w.cell? ⟨b, off, none⟩ = some (.int .i64 (next c).k) ∧ w.cell? ⟨b, off + 1, none⟩ = some (.string (next c).t) ∧ w.cell? ⟨b, off + 2, none⟩ = some (.int .i64 (next c).l) ∧ w.cell? ⟨b, off + 3, none⟩ = some (.int .i64 (next c).c) := by
  obtain ⟨b, off, n, cp, hB, hne, hn, hT⟩ := h
  obtain ⟨r, hr, _⟩ := full_next h0
  rw [hr] at hT
  obtain ⟨b', off', m, hA, hm, hc, hlt, c0, c1, c2, c3, _⟩ := hT.cons'
  cases hA; cases hm
  exact ⟨b, off, n, cp, hB, Nat.ne_of_lt hne, hn, hc, hlt, c0, c1, c2, c3⟩

set_option maxHeartbeats 1000000 in
theorem next_live (B : Nat) (c : Cur) (w : World) (h : CurAt w B c) (h0 : c.bad = 0) : Calls Try.prog 7 #[.pointer (some ⟨B, 0, none⟩)] w (RetTk w (next c).k (next c).t (next c).l (next c).c) := by
  have HG := Lib.hid (fun W hW => good_any _ _ _ _ W ((Fl.of h).keep hW) (b := true) (by simpa using h0))
  obtain ⟨t, ht⟩ : ∃ t, t = next c := ⟨_, rfl⟩
  have HC := Lib.hid (fun W hW => (CurAt.keep (w' := W) h hW).open h0)
  rw [← ht] at HC ⊢
  clear h h0 ht
  go_enter Try.func7, Try.ntmps7
  go_wp2_with (go_at_call 9; (with_reducible refine (HG.out _ ((Below.refl _ _).alloc (Nat.le_refl _) _)).mono ?_))
  rintro e x2 ⟨rfl, hb2⟩
  obtain ⟨k1, hB, hz⟩ := one_block hb2
  obtain ⟨b, off, n, cp, hBl, hne, hn, hcp, hlt, t0, t1, t2, t3⟩ := HC.out x2 hB
  obtain ⟨c0, c1, c2, c3⟩ := cells_4 hBl
  obtain ⟨d0, d1, d2, d3⟩ := cells_4 k1
  obtain ⟨f0, f1, f2, f3⟩ := free_4 k1
  have HK := Lib.hid (blk_of k1 (n := 4) rfl)
  have HB := Lib.hid hB
  have hnI : 0 ≤ (n : Int) := by omega
  clear hb2 hB k1 hBl hne hn hcp
  go_wp2_with fail
  obtain ⟨q0, q1, q2, q3⟩ := store_4 HK.out (.int .i64 t.k) (.string t.t) (.int .i64 t.l) (.int .i64 t.c)
  refine bodyPost_ret (v := .agg #[.int .i64 t.k, .string t.t, .int .i64 t.l, .int .i64 t.c]) (by simp [results, Try.results7, go_sem, q0, q1, q2, q3]) rfl ⟨rfl, below_4 HB.out (Nat.le_refl _) _ _ _ _⟩

theorem next_at (B : Nat) (c : Cur) (w : World) (h : CurAt w B c) : Calls Try.prog 7 #[.pointer (some ⟨B, 0, none⟩)] w (RetTk w (next c).k (next c).t (next c).l (next c).c) := by
  by_cases h0 : c.bad = 0
  · exact next_live B c w h h0
  · rw [next_dead h0]
    exact next_dead' _ _ _ _ h0 w (Fl.of h)

set_option maxHeartbeats 1000000 in
theorem is_at (B : Nat) (c : Cur) (k : Int) (s : ByteArray) (w : World) (h : CurAt w B c) : Calls Try.prog 18 #[.pointer (some ⟨B, 0, none⟩), .int .i64 k, .string s] w (RetBool w (isB c k s)) := by
  by_cases h0 : c.bad = 0
  · have HG := Lib.hid (good_any _ _ _ _ w (Fl.of h) (b := true) (by simpa using h0))
    have HN := Lib.hid (fun W hW => next_at B c W (h.keep hW))
    obtain ⟨t, ht⟩ : ∃ t, t = next c := ⟨_, rfl⟩
    obtain ⟨b, hb⟩ : ∃ b, b = isB c k s := ⟨_, rfl⟩
    rw [← ht] at HN
    rw [← hb]
    clear h
    by_cases h1 : t.k = k
    · have e1 : (t.k == k) = true := by simpa using h1
      by_cases h2 : t.t = s
      · have e2 : (t.t.toList == s.toList) = true := by rw [h2]; simp
        have HV : Hid (b = true) := Lib.hid (hb.trans (isB_yes h0 (by rw [← ht]; exact h1) (by rw [← ht]; exact h2)))
        clear hb ht h0 h1 h2
        go_enter Try.func18, Try.ntmps18
        go_wp2_with (go_at_call 9; (with_reducible refine HG.out.mono ?_))
        rintro e x2 ⟨rfl, hb2⟩
        have HB := Lib.hid hb2
        clear hb2
        go_wp2_with (go_at_call 7; (with_reducible refine (HN.out _ HB.out).mono ?_))
        rintro e x3 ⟨rfl, hb3⟩
        have HB3 := Lib.hid (below_two' HB.out hb3)
        clear hb3
        go_wp2_with fail
        go_ret
        exact ⟨ret_bool HV.out.symm, HB3.out.alloc HB3.out.size _⟩
      · have e2 : (t.t.toList == s.toList) = false := (Lib.bytes_beq_false_iff _ _).2 h2
        have HV : Hid (b = false) := Lib.hid (hb.trans (isB_no2 (by rw [← ht]; exact h2)))
        clear hb ht h0 h1 h2
        go_enter Try.func18, Try.ntmps18
        go_wp2_with (go_at_call 9; (with_reducible refine HG.out.mono ?_))
        rintro e x2 ⟨rfl, hb2⟩
        have HB := Lib.hid hb2
        clear hb2
        go_wp2_with (go_at_call 7; (with_reducible refine (HN.out _ HB.out).mono ?_))
        rintro e x3 ⟨rfl, hb3⟩
        have HB3 := Lib.hid (below_two' HB.out hb3)
        clear hb3
        go_wp2_with fail
        go_ret
        exact ⟨ret_bool HV.out.symm, HB3.out.alloc HB3.out.size _⟩
    · have e1 : (t.k == k) = false := by simpa using h1
      have HV : Hid (b = false) := Lib.hid (hb.trans (isB_no1 (by rw [← ht]; exact h1)))
      clear hb ht h0 h1
      go_enter Try.func18, Try.ntmps18
      go_wp2_with (go_at_call 9; (with_reducible refine HG.out.mono ?_))
      rintro e x2 ⟨rfl, hb2⟩
      have HB := Lib.hid hb2
      clear hb2
      go_wp2_with (go_at_call 7; (with_reducible refine (HN.out _ HB.out).mono ?_))
      rintro e x3 ⟨rfl, hb3⟩
      have HB3 := Lib.hid (below_two' HB.out hb3)
      clear hb3
      go_wp2_with fail
      go_ret
      exact ⟨ret_bool HV.out.symm, HB3.out.alloc HB3.out.size _⟩
  · rw [isB_dead k s h0]
    exact is_dead _ _ _ _ h0 w (Fl.of h) k s

/-- What a call leaves that writes to the cursor: another one at the same place, nothing else touched. -/
def RetAt (W : World) (B : Nat) (c : Cur) (e : Ending) (w' : World) : Prop := e = .returned (.tuple #[]) ∧ CurAt w' B c ∧ W.grownBy w' (some B)
theorem but_below {w w' : World} {B : Nat} (h : Below w.heap.size w w') : w.grownBy w' (some B) := ⟨h.os, h.tape, h.output, h.size, fun i hi _ => h.block i hi⟩

set_option maxHeartbeats 1000000 in
theorem pass_at (B : Nat) (c : Cur) (w : World) (h : CurAt w B c) : Calls Try.prog 24 #[.pointer (some ⟨B, 0, none⟩)] w (RetAt w B (on c)) := by
  have HC := Lib.hid h
  obtain ⟨b, off, n, cp, hBl, hne, hn, hT⟩ := h
  rcases Nat.eq_zero_or_pos n with hz | hp
  · obtain rfl : n = 0 := hz
    have HO : Hid (on c = c) := Lib.hid (on_nil hn.symm)
    obtain ⟨c0, c1, c2, c3⟩ := cells_4 hBl
    clear hBl hne hn hT
    go_enter Try.func24, Try.ntmps24
    go_wp2_with fail
    go_end0
    exact ⟨rfl, by rw [HO.out]; exact HC.out, but_refl _ _⟩
  · obtain ⟨m, rfl⟩ : ∃ m, n = m + 1 := ⟨n - 1, by omega⟩
    have hf : full c.L c.w1 c.w2 = (full c.L c.w1 c.w2).headD tz :: full (on c).L (on c).w1 (on c).w2 := on_full (by omega)
    rw [hf] at hT
    obtain ⟨b', off', m', hA, hm, hcp, hlt, _, _, _, _, hr⟩ := hT.cons'
    cases hA; cases hm
    rw [if_neg (by omega)] at hr
    obtain ⟨c0, c1, c2, c3⟩ := cells_4 hBl
    obtain ⟨f0, f1, f2, f3⟩ := free_4 hBl
    have hcI : 1 < cp := by omega
    have hb := on_bad c
    have HR : Hid (CurAt (w.setCell ⟨B, 0, none⟩ (.slice (some ⟨b, off + 4, none⟩) (m + 1) (cp - 1))) B (on c)) := Lib.hid (by
      refine ⟨b, off + 4, m, cp - 1, ?_, hne, by rw [on_len]; omega, hr.but (but_set (but_refl _ _) 0 _) (Nat.ne_of_lt hne)⟩
      have := block_setCell' hBl 0 (.slice (some ⟨b, off + 4, none⟩) (m + 1) (cp - 1))
      rw [hb.1, hb.2.1, hb.2.2]
      exact this)
    have hnI : 0 ≤ (m : Int) := by omega
    clear hBl hne hn hT hr hf hb hlt
    go_enter Try.func24, Try.ntmps24
    go_wp2_with fail
    go_end0
    exact ⟨rfl, HR.out, but_set (but_refl _ _) 0 _⟩

theorem CurAt.fault {w : World} {B : Nat} {c : Cur} (h : CurAt w B c) (l cc er : Int) :
    CurAt (((w.setCell ⟨B, 1, none⟩ (.int .i64 l)).setCell ⟨B, 2, none⟩ (.int .i64 cc)).setCell ⟨B, 3, none⟩ (.int .i64 er)) B ⟨c.L, c.w1, c.w2, l, cc, er⟩ := by
  obtain ⟨b, off, n, cp, hBl, hne, hn, hT⟩ := h
  refine ⟨b, off, n, cp, ?_, hne, hn, hT.but (but_set (but_set (but_set (but_refl _ _) 1 _) 2 _) 3 _) (Nat.ne_of_lt hne)⟩
  exact block_setCell' (block_setCell' (block_setCell' hBl 1 (.int .i64 l)) 2 (.int .i64 cc)) 3 (.int .i64 er)

set_option maxHeartbeats 1000000 in
theorem fail_at (B : Nat) (c : Cur) (er : Int) (w : World) (h : CurAt w B c) : Calls Try.prog 21 #[.pointer (some ⟨B, 0, none⟩), .int .i64 er] w (RetAt w B (fail c er)) := by
  by_cases h0 : c.bad = 0
  · have HG := Lib.hid (good_any _ _ _ _ w (Fl.of h) (b := true) (by simpa using h0))
    have HC := Lib.hid h
    by_cases he : er = 0
    · have e1 : (er != 0) = false := by simpa using he
      have HF : Hid (fail c er = c) := Lib.hid (by rw [he]; exact fail_zero c)
      clear h he h0
      go_enter Try.func21, Try.ntmps21
      go_wp2_with (go_at_call 9; (with_reducible refine HG.out.mono ?_))
      rintro e x2 ⟨rfl, hb2⟩
      have HB := Lib.hid hb2
      clear hb2
      go_wp2_with fail
      go_end0
      exact ⟨rfl, by rw [HF.out]; exact HC.out.keep HB.out, but_below HB.out⟩
    · have e1 : (er != 0) = true := by simpa using he
      obtain ⟨t, ht⟩ : ∃ t, t = next c := ⟨_, rfl⟩
      have HF : Hid (fail c er = ⟨c.L, c.w1, c.w2, t.l, t.c, er⟩) := Lib.hid (by rw [fail_yes h0 he, ht])
      have HO := Lib.hid (fun W hW => (CurAt.keep (w' := W) h hW).open h0)
      rw [← ht] at HO
      clear h he h0 ht
      go_enter Try.func21, Try.ntmps21
      go_wp2_with (go_at_call 9; (with_reducible refine HG.out.mono ?_))
      rintro e x2 ⟨rfl, hb2⟩
      have HB := Lib.hid hb2
      obtain ⟨b, off, n, cp, hBl, hne, hn, hcp, hlt, t0, t1, t2, t3⟩ := HO.out x2 hb2
      obtain ⟨c0, c1, c2, c3⟩ := cells_4 hBl
      obtain ⟨f0, f1, f2, f3⟩ := free_4 hBl
      have hnI : 0 ≤ (n : Int) := by omega
      clear hb2 hBl hn hcp
      go_wp2_with fail
      go_end0
      refine ⟨rfl, ?_, but_set (but_set (but_set (but_below HB.out) 1 _) 2 _) 3 _⟩
      rw [HF.out]
      exact (HC.out.keep HB.out).fault t.l t.c er
  · rw [fail_dead er h0]
    refine (fail_dead' _ _ _ _ h0 w (Fl.of h) er).mono ?_
    rintro e w' ⟨he, hb⟩
    exact ⟨he, h.keep hb, but_below hb⟩
end Go.Proofs.Ytoegpieomnpifaa
