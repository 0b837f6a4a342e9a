/- What the reference's calls on cursors answer: Take, Want. Condition: the cursor's tokens lie in memory. -/
import Derived.Test.YtoegpieomnpifaaCurRef
namespace Go.Proofs.Ytoegpieomnpifaa
open Go.RowKit CurSpec

def RetCurB (W0 W : World) (c : Cur) (b : Bool) (e : Ending) (w' : World) : Prop :=
  ∃ A n cp, e = .returned (.tuple #[.agg #[.slice A n cp, .int .i64 c.w1, .int .i64 c.w2, .int .i64 c.a1, .int .i64 c.a2, .int .i64 c.bad], .bool b]) ∧ Toks W0 (.slice A n cp) c.L ∧ Below W.heap.size W w'

set_option maxHeartbeats 1000000 in
theorem take_say (c : Cur) (k : Int) (s : ByteArray) (A : Option Addr) (n cp : Nat) (W0 w : World) (h : Toks W0 (.slice A n cp) c.L) (hw : Below W0.heap.size W0 w) :
    Calls Try.prog 10 #[.agg #[.slice A n cp, .int .i64 c.w1, .int .i64 c.w2, .int .i64 c.a1, .int .i64 c.a2, .int .i64 c.bad], .int .i64 k, .string s] w (RetCurB W0 w (take c k s) (isB c k s)) := by
  have HT := Lib.hid h
  have HW := Lib.hid hw
  have HI := Lib.hid (fun W h => is_say c k s A n cp W h)
  have HO := Lib.hid (fun W hw => on_say c A n cp W0 W h hw)
  clear h hw
  obtain ⟨d, hd⟩ : ∃ d, d = on c := ⟨_, rfl⟩
  rw [← hd] at HO
  by_cases hb : isB c k s = true
  · have HC : Hid (take c k s = d) := Lib.hid (by unfold take; rw [if_pos hb, hd])
    rw [hb] at HI ⊢
    clear hb hd
    go_enter Try.func10, Try.ntmps10
    go_wp2_with (go_at_call 19; (with_reducible refine (HI.out _ (((HT.out.keep HW.out).alloc _).alloc _)).mono ?_))
    rintro e x2 ⟨rfl, hb2⟩
    obtain ⟨k1, k2, hB, hz⟩ := pair_blocks hb2
    have HK2 := Lib.hid k2
    have HB := Lib.hid hB
    obtain ⟨c0, c1, c2, c3, c4, c5⟩ := cells_6 k1
    clear hb2 k1 k2 hB
    go_wp2_with (go_at_call 23; (with_reducible refine (HO.out _ (below_two' HW.out HB.out)).mono ?_))
    rintro e x3 ⟨A', n', cp', rfl, hT3, hb3⟩
    have k3 := block_on HK2.out hb3
    have HT3 := Lib.hid hT3
    have HB3 := Lib.hid (below_two' HB.out hb3)
    have HK3 := Lib.hid (blk_of k3 (n := 6) rfl)
    obtain ⟨d0, d1, d2, d3, d4, d5⟩ := cells_6 k3
    obtain ⟨g0, g1, g2, g3, g4, g5⟩ := free_6 k3
    clear hT3 hb3 k3 c0 c1 c2 c3 c4 c5
    go_wp2_with fail
    obtain ⟨q0, q1, q2, q3, q4, q5⟩ := store_six HK3.out (.slice A' n' cp') (.int .i64 d.w1) (.int .i64 d.w2) (.int .i64 d.a1) (.int .i64 d.a2) (.int .i64 d.bad)
    refine bodyPost_ret (v := .tuple #[.agg #[.slice A' n' cp', .int .i64 d.w1, .int .i64 d.w2, .int .i64 d.a1, .int .i64 d.a2, .int .i64 d.bad], .bool true]) (by simp [results, Try.results10, go_sem, q0, q1, q2, q3, q4, q5]) rfl ?_
    rw [HC.out]
    exact ⟨A', n', cp', rfl, HT3.out, below_six HB3.out (by omega) _ _ _ _ _ _⟩
  · have hb' : isB c k s = false := by simpa using hb
    have HC : Hid (take c k s = c) := Lib.hid (by unfold take; rw [if_neg hb])
    rw [hb'] at HI ⊢
    clear hb hb' hd
    go_enter Try.func10, Try.ntmps10
    go_wp2_with (go_at_call 19; (with_reducible refine (HI.out _ (((HT.out.keep HW.out).alloc _).alloc _)).mono ?_))
    rintro e x2 ⟨rfl, hb2⟩
    obtain ⟨k1, k2, hB, hz⟩ := pair_blocks hb2
    have HK2 := Lib.hid (blk_of k2 (n := 6) rfl)
    have HB := Lib.hid hB
    obtain ⟨c0, c1, c2, c3, c4, c5⟩ := cells_6 k1
    obtain ⟨d0, d1, d2, d3, d4, d5⟩ := cells_6 k2
    obtain ⟨g0, g1, g2, g3, g4, g5⟩ := free_6 k2
    clear hb2 k1 k2 hB
    go_wp2_with fail
    obtain ⟨q0, q1, q2, q3, q4, q5⟩ := store_six HK2.out (.slice A n cp) (.int .i64 c.w1) (.int .i64 c.w2) (.int .i64 c.a1) (.int .i64 c.a2) (.int .i64 c.bad)
    refine bodyPost_ret (v := .tuple #[.agg #[.slice A n cp, .int .i64 c.w1, .int .i64 c.w2, .int .i64 c.a1, .int .i64 c.a2, .int .i64 c.bad], .bool false]) (by simp [results, Try.results10, go_sem, q0, q1, q2, q3, q4, q5]) rfl ?_
    have hB := below_six HB.out (b := w.heap.size + 1) (by omega) (.slice A n cp) (.int .i64 c.w1) (.int .i64 c.w2) (.int .i64 c.a1) (.int .i64 c.a2) (.int .i64 c.bad)
    rw [HC.out]
    exact ⟨A, n, cp, rfl, HT.out, hB⟩

set_option maxHeartbeats 1000000 in
theorem want_say (c : Cur) (k : Int) (s : ByteArray) (A : Option Addr) (n cp : Nat) (W0 w : World) (h : Toks W0 (.slice A n cp) c.L) (hw : Below W0.heap.size W0 w) :
    Calls Try.prog 12 #[.agg #[.slice A n cp, .int .i64 c.w1, .int .i64 c.w2, .int .i64 c.a1, .int .i64 c.a2, .int .i64 c.bad], .int .i64 k, .string s] w (RetCur W0 w (want c k s)) := by
  have HT := Lib.hid h
  have HW := Lib.hid hw
  have HI := Lib.hid (fun W h => is_say c k s A n cp W h)
  have HO := Lib.hid (fun W hw => on_say c A n cp W0 W h hw)
  have HF := Lib.hid (fun W hw => fail_say c 2 A n cp W0 W h hw)
  clear h hw
  obtain ⟨d, hd⟩ : ∃ d, d = want c k s := ⟨_, rfl⟩
  rw [← hd]
  by_cases hb : isB c k s = true
  · have hc : on c = d := by rw [hd]; unfold want; rw [if_pos hb]
    rw [hc] at HO
    rw [hb] at HI
    clear hb hd hc HF
    go_enter Try.func12, Try.ntmps12
    go_wp2_with (go_at_call 19; (with_reducible refine (HI.out _ (((HT.out.keep HW.out).alloc _).alloc _)).mono ?_))
    rintro e x2 ⟨rfl, hb2⟩
    obtain ⟨k1, k2, hB, hz⟩ := pair_blocks hb2
    have HK2 := Lib.hid k2
    have HB := Lib.hid hB
    obtain ⟨c0, c1, c2, c3, c4, c5⟩ := cells_6 k1
    clear hb2 k1 k2 hB
    go_wp2_with (go_at_call 23; (with_reducible refine (HO.out _ (below_two' HW.out HB.out)).mono ?_))
    rintro e x3 ⟨A', n', cp', rfl, hT3, hb3⟩
    have k3 := block_on HK2.out hb3
    have HT3 := Lib.hid hT3
    have HB3 := Lib.hid (below_two' HB.out hb3)
    have HK3 := Lib.hid (blk_of k3 (n := 6) rfl)
    obtain ⟨d0, d1, d2, d3, d4, d5⟩ := cells_6 k3
    obtain ⟨g0, g1, g2, g3, g4, g5⟩ := free_6 k3
    clear hT3 hb3 k3 c0 c1 c2 c3 c4 c5
    go_wp2_with fail
    obtain ⟨q0, q1, q2, q3, q4, q5⟩ := store_six HK3.out (.slice A' n' cp') (.int .i64 d.w1) (.int .i64 d.w2) (.int .i64 d.a1) (.int .i64 d.a2) (.int .i64 d.bad)
    refine bodyPost_ret (v := .agg #[.slice A' n' cp', .int .i64 d.w1, .int .i64 d.w2, .int .i64 d.a1, .int .i64 d.a2, .int .i64 d.bad]) (by simp [results, Try.results12, go_sem, q0, q1, q2, q3, q4, q5]) rfl ?_
    exact ⟨A', n', cp', rfl, HT3.out, below_six HB3.out (by omega) _ _ _ _ _ _⟩
  · have hc : fail c 2 = d := by rw [hd]; unfold want; rw [if_neg hb]
    have hb' : isB c k s = false := by simpa using hb
    rw [hc] at HF
    rw [hb'] at HI
    clear hb hb' hd hc HO
    go_enter Try.func12, Try.ntmps12
    go_wp2_with (go_at_call 19; (with_reducible refine (HI.out _ (((HT.out.keep HW.out).alloc _).alloc _)).mono ?_))
    rintro e x2 ⟨rfl, hb2⟩
    obtain ⟨k1, k2, hB, hz⟩ := pair_blocks hb2
    have HK2 := Lib.hid k2
    have HB := Lib.hid hB
    obtain ⟨c0, c1, c2, c3, c4, c5⟩ := cells_6 k1
    clear hb2 k1 k2 hB
    go_wp2_with (go_at_call 20; (with_reducible refine (HF.out _ (below_two' HW.out HB.out)).mono ?_))
    rintro e x3 ⟨A', n', cp', rfl, hT3, hb3⟩
    have k3 := block_on HK2.out hb3
    have HT3 := Lib.hid hT3
    have HB3 := Lib.hid (below_two' HB.out hb3)
    have HK3 := Lib.hid (blk_of k3 (n := 6) rfl)
    obtain ⟨d0, d1, d2, d3, d4, d5⟩ := cells_6 k3
    obtain ⟨g0, g1, g2, g3, g4, g5⟩ := free_6 k3
    clear hT3 hb3 k3 c0 c1 c2 c3 c4 c5
    go_wp2_with fail
    obtain ⟨q0, q1, q2, q3, q4, q5⟩ := store_six HK3.out (.slice A' n' cp') (.int .i64 d.w1) (.int .i64 d.w2) (.int .i64 d.a1) (.int .i64 d.a2) (.int .i64 d.bad)
    refine bodyPost_ret (v := .agg #[.slice A' n' cp', .int .i64 d.w1, .int .i64 d.w2, .int .i64 d.a1, .int .i64 d.a2, .int .i64 d.bad]) (by simp [results, Try.results12, go_sem, q0, q1, q2, q3, q4, q5]) rfl ?_
    exact ⟨A', n', cp', rfl, HT3.out, below_six HB3.out (by omega) _ _ _ _ _ _⟩
end Go.Proofs.Ytoegpieomnpifaa
