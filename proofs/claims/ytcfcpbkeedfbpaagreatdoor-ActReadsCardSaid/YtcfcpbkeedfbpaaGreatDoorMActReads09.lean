/- CurRefTake, CurRefName, ValGet, CurRefNum, joined. -/
import Derived.Test.YtcfcpbkeedfbpaaGreatDoorMActReads08
import Derived.Test.YtcfcpbkeedfbpaaGreatDoorMActReads01
import Derived.Deep.RegionHeld3
import Derived.Test.YtcfcpbkeedfbpaaGreatDoorMActReads00
import Derived.Test.YtcfcpbkeedfbpaaGreatDoorMActReads06
import Derived.Lib.Hide
namespace Go.Proofs.YtcfcpbkeedfbpaaGreatDoor
open Go.RowKit CurSpec
set_option maxRecDepth 100000

def RetCurB (W0 W : World) (c : Cur) (b : Bool) (e : Ending) (w' : World) : Prop :=
  ∃ A n cp, e = .returned (.tuple #[.agg #[.slice A n cp, .int .i64 c.w1, .int .i64 c.w2, .int .i64 c.a1, .int .i64 c.a2, .int .i64 c.bad], .bool b]) ∧ Toks W0 (.slice A n cp) c.L ∧ Below W.heap.size W w'

set_option maxHeartbeats 1000000 in
theorem take_say (c : Cur) (k : Int) (s : ByteArray) (A : Option Addr) (n cp : Nat) (W0 w : World) (h : Toks W0 (.slice A n cp) c.L) (hw : Below W0.heap.size W0 w) :
    Calls Tryz.prog 38 #[.agg #[.slice A n cp, .int .i64 c.w1, .int .i64 c.w2, .int .i64 c.a1, .int .i64 c.a2, .int .i64 c.bad], .int .i64 k, .string s] w (RetCurB W0 w (take c k s) (isB c k s)) := by
  have HT := Lib.hid h
  have HW := Lib.hid hw
  have HI := Lib.hid (fun W h => is_say c k s A n cp W h)
  have HO := Lib.hid (fun W hw => on_say c A n cp W0 W h hw)
  clear h hw
  obtain ⟨d, hd⟩ : ∃ d, d = on c := ⟨_, rfl⟩
  rw [← hd] at HO
  by_cases hb : isB c k s = true
  · have HC : Hid (take c k s = d) := Lib.hid (by unfold take; rw [if_pos hb, hd])
    rw [hb] at HI ⊢
    clear hb hd
    go_enter Tryz.func38, Tryz.ntmps38
    go_wp2_with (go_at_call 67; (with_reducible refine (HI.out _ (((HT.out.keep HW.out).alloc _).alloc _)).mono ?_))
    rintro e x2 ⟨rfl, hb2⟩
    obtain ⟨k1, k2, hB, hz⟩ := pair_blocks hb2
    have HK2 := Lib.hid k2
    have HB := Lib.hid hB
    obtain ⟨c0, c1, c2, c3, c4, c5⟩ := cells_6 k1
    clear hb2 k1 k2 hB
    go_wp2_with (go_at_call 68; (with_reducible refine (HO.out _ (below_two' HW.out HB.out)).mono ?_))
    rintro e x3 ⟨A', n', cp', rfl, hT3, hb3⟩
    have k3 := block_on HK2.out hb3
    have HT3 := Lib.hid hT3
    have HB3 := Lib.hid (below_two' HB.out hb3)
    have HK3 := Lib.hid (blk_of k3 (n := 6) rfl)
    obtain ⟨d0, d1, d2, d3, d4, d5⟩ := cells_6 k3
    obtain ⟨g0, g1, g2, g3, g4, g5⟩ := free_6 k3
    clear hT3 hb3 k3 c0 c1 c2 c3 c4 c5
    go_wp2_with fail
    obtain ⟨q0, q1, q2, q3, q4, q5⟩ := store_six HK3.out (.slice A' n' cp') (.int .i64 d.w1) (.int .i64 d.w2) (.int .i64 d.a1) (.int .i64 d.a2) (.int .i64 d.bad)
    refine bodyPost_ret (v := .tuple #[.agg #[.slice A' n' cp', .int .i64 d.w1, .int .i64 d.w2, .int .i64 d.a1, .int .i64 d.a2, .int .i64 d.bad], .bool true]) (by simp [results, Tryz.results38, go_sem, q0, q1, q2, q3, q4, q5]) rfl ?_
    rw [HC.out]
    exact ⟨A', n', cp', rfl, HT3.out, below_six HB3.out (by omega) _ _ _ _ _ _⟩
  · have hb' : isB c k s = false := by simpa using hb
    have HC : Hid (take c k s = c) := Lib.hid (by unfold take; rw [if_neg hb])
    rw [hb'] at HI ⊢
    clear hb hb' hd
    go_enter Tryz.func38, Tryz.ntmps38
    go_wp2_with (go_at_call 67; (with_reducible refine (HI.out _ (((HT.out.keep HW.out).alloc _).alloc _)).mono ?_))
    rintro e x2 ⟨rfl, hb2⟩
    obtain ⟨k1, k2, hB, hz⟩ := pair_blocks hb2
    have HK2 := Lib.hid (blk_of k2 (n := 6) rfl)
    have HB := Lib.hid hB
    obtain ⟨c0, c1, c2, c3, c4, c5⟩ := cells_6 k1
    obtain ⟨d0, d1, d2, d3, d4, d5⟩ := cells_6 k2
    obtain ⟨g0, g1, g2, g3, g4, g5⟩ := free_6 k2
    clear hb2 k1 k2 hB
    go_wp2_with fail
    obtain ⟨q0, q1, q2, q3, q4, q5⟩ := store_six HK2.out (.slice A n cp) (.int .i64 c.w1) (.int .i64 c.w2) (.int .i64 c.a1) (.int .i64 c.a2) (.int .i64 c.bad)
    refine bodyPost_ret (v := .tuple #[.agg #[.slice A n cp, .int .i64 c.w1, .int .i64 c.w2, .int .i64 c.a1, .int .i64 c.a2, .int .i64 c.bad], .bool false]) (by simp [results, Tryz.results38, go_sem, q0, q1, q2, q3, q4, q5]) rfl ?_
    have hB := below_six HB.out (b := w.heap.size + 1) (by omega) (.slice A n cp) (.int .i64 c.w1) (.int .i64 c.w2) (.int .i64 c.a1) (.int .i64 c.a2) (.int .i64 c.bad)
    rw [HC.out]
    exact ⟨A, n, cp, rfl, HT.out, hB⟩

set_option maxHeartbeats 1000000 in
theorem want_say (c : Cur) (k : Int) (s : ByteArray) (A : Option Addr) (n cp : Nat) (W0 w : World) (h : Toks W0 (.slice A n cp) c.L) (hw : Below W0.heap.size W0 w) :
    Calls Tryz.prog 69 #[.agg #[.slice A n cp, .int .i64 c.w1, .int .i64 c.w2, .int .i64 c.a1, .int .i64 c.a2, .int .i64 c.bad], .int .i64 k, .string s] w (RetCur W0 w (want c k s)) := by
  have HT := Lib.hid h
  have HW := Lib.hid hw
  have HI := Lib.hid (fun W h => is_say c k s A n cp W h)
  have HO := Lib.hid (fun W hw => on_say c A n cp W0 W h hw)
  have HF := Lib.hid (fun W hw => fail_say c 2 A n cp W0 W h hw)
  clear h hw
  obtain ⟨d, hd⟩ : ∃ d, d = want c k s := ⟨_, rfl⟩
  rw [← hd]
  by_cases hb : isB c k s = true
  · have hc : on c = d := by rw [hd]; unfold want; rw [if_pos hb]
    rw [hc] at HO
    rw [hb] at HI
    clear hb hd hc HF
    go_enter Tryz.func69, Tryz.ntmps69
    go_wp2_with (go_at_call 67; (with_reducible refine (HI.out _ (((HT.out.keep HW.out).alloc _).alloc _)).mono ?_))
    rintro e x2 ⟨rfl, hb2⟩
    obtain ⟨k1, k2, hB, hz⟩ := pair_blocks hb2
    have HK2 := Lib.hid k2
    have HB := Lib.hid hB
    obtain ⟨c0, c1, c2, c3, c4, c5⟩ := cells_6 k1
    clear hb2 k1 k2 hB
    go_wp2_with (go_at_call 68; (with_reducible refine (HO.out _ (below_two' HW.out HB.out)).mono ?_))
    rintro e x3 ⟨A', n', cp', rfl, hT3, hb3⟩
    have k3 := block_on HK2.out hb3
    have HT3 := Lib.hid hT3
    have HB3 := Lib.hid (below_two' HB.out hb3)
    have HK3 := Lib.hid (blk_of k3 (n := 6) rfl)
    obtain ⟨d0, d1, d2, d3, d4, d5⟩ := cells_6 k3
    obtain ⟨g0, g1, g2, g3, g4, g5⟩ := free_6 k3
    clear hT3 hb3 k3 c0 c1 c2 c3 c4 c5
    go_wp2_with fail
    obtain ⟨q0, q1, q2, q3, q4, q5⟩ := store_six HK3.out (.slice A' n' cp') (.int .i64 d.w1) (.int .i64 d.w2) (.int .i64 d.a1) (.int .i64 d.a2) (.int .i64 d.bad)
    refine bodyPost_ret (v := .agg #[.slice A' n' cp', .int .i64 d.w1, .int .i64 d.w2, .int .i64 d.a1, .int .i64 d.a2, .int .i64 d.bad]) (by simp [results, Tryz.results69, go_sem, q0, q1, q2, q3, q4, q5]) rfl ?_
    exact ⟨A', n', cp', rfl, HT3.out, below_six HB3.out (by omega) _ _ _ _ _ _⟩
  · have hc : fail c 2 = d := by rw [hd]; unfold want; rw [if_neg hb]
    have hb' : isB c k s = false := by simpa using hb
    rw [hc] at HF
    rw [hb'] at HI
    clear hb hb' hd hc HO
    go_enter Tryz.func69, Tryz.ntmps69
    go_wp2_with (go_at_call 67; (with_reducible refine (HI.out _ (((HT.out.keep HW.out).alloc _).alloc _)).mono ?_))
    rintro e x2 ⟨rfl, hb2⟩
    obtain ⟨k1, k2, hB, hz⟩ := pair_blocks hb2
    have HK2 := Lib.hid k2
    have HB := Lib.hid hB
    obtain ⟨c0, c1, c2, c3, c4, c5⟩ := cells_6 k1
    clear hb2 k1 k2 hB
    go_wp2_with (go_at_call 37; (with_reducible refine (HF.out _ (below_two' HW.out HB.out)).mono ?_))
    rintro e x3 ⟨A', n', cp', rfl, hT3, hb3⟩
    have k3 := block_on HK2.out hb3
    have HT3 := Lib.hid hT3
    have HB3 := Lib.hid (below_two' HB.out hb3)
    have HK3 := Lib.hid (blk_of k3 (n := 6) rfl)
    obtain ⟨d0, d1, d2, d3, d4, d5⟩ := cells_6 k3
    obtain ⟨g0, g1, g2, g3, g4, g5⟩ := free_6 k3
    clear hT3 hb3 k3 c0 c1 c2 c3 c4 c5
    go_wp2_with fail
    obtain ⟨q0, q1, q2, q3, q4, q5⟩ := store_six HK3.out (.slice A' n' cp') (.int .i64 d.w1) (.int .i64 d.w2) (.int .i64 d.a1) (.int .i64 d.a2) (.int .i64 d.bad)
    refine bodyPost_ret (v := .agg #[.slice A' n' cp', .int .i64 d.w1, .int .i64 d.w2, .int .i64 d.a1, .int .i64 d.a2, .int .i64 d.bad]) (by simp [results, Tryz.results69, go_sem, q0, q1, q2, q3, q4, q5]) rfl ?_
    exact ⟨A', n', cp', rfl, HT3.out, below_six HB3.out (by omega) _ _ _ _ _ _⟩
end Go.Proofs.YtcfcpbkeedfbpaaGreatDoor

namespace Go.Proofs.YtcfcpbkeedfbpaaGreatDoor
open Go.RowKit CurSpec NamesSpec
set_option maxRecDepth 100000

def RetCurS (W0 W : World) (c : Cur) (s : ByteArray) (e : Ending) (w' : World) : Prop :=
  ∃ A n cp, e = .returned (.tuple #[.agg #[.slice A n cp, .int .i64 c.w1, .int .i64 c.w2, .int .i64 c.a1, .int .i64 c.a2, .int .i64 c.bad], .string s]) ∧ Toks W0 (.slice A n cp) c.L ∧ Below W.heap.size W w'
theorem ris_say {s : ByteArray} {b : Bool} (hb : isName s.data.toList = b) (hs : s.size ≤ 9223372036854775807) (w : World) : Calls Tryz.prog 51 #[.string s] w (RetBool w b) := by
  subst hb
  exact ris_any s w hs
theorem nameB_yes {c : Cur} (h0 : c.bad = 0) (h1 : (next c).k = 1) (h2 : isName (next c).t.data.toList = true) : nameB c = true := by simp [nameB, h0, h1, h2]
theorem nameB_no1 {c : Cur} (h1 : (next c).k ≠ 1) : nameB c = false := by simp [nameB, h1]
theorem nameB_no2 {c : Cur} (h1 : isName (next c).t.data.toList = false) : nameB c = false := by simp [nameB, h1]

set_option maxHeartbeats 2000000 in
theorem name_say (c : Cur) (ok : Ok c) (A : Option Addr) (n cp : Nat) (W0 w : World) (h : Toks W0 (.slice A n cp) c.L) (hw : Below W0.heap.size W0 w) :
    Calls Tryz.prog 39 #[.agg #[.slice A n cp, .int .i64 c.w1, .int .i64 c.w2, .int .i64 c.a1, .int .i64 c.a2, .int .i64 c.bad]] w (RetCurS W0 w (nameC c) (nameS c)) := by
  have HT := Lib.hid h
  have HW := Lib.hid hw
  have HN := Lib.hid (fun W h => next_say c A n cp W h)
  have HO := Lib.hid (fun W hw => on_say c A n cp W0 W h hw)
  have HF := Lib.hid (fun W hw => fail_say c 2 A n cp W0 W h hw)
  clear h hw
  obtain ⟨d, hd⟩ : ∃ d, d = nameC c := ⟨_, rfl⟩
  obtain ⟨u, hu⟩ : ∃ u, u = nameS c := ⟨_, rfl⟩
  obtain ⟨t, ht⟩ : ∃ t, t = next c := ⟨_, rfl⟩
  have HI := Lib.hid (fun b hb W => ris_say (s := (next c).t) (b := b) hb ok.next W)
  rw [← hd, ← hu]
  rw [← ht] at HN HI
  by_cases h0 : c.bad = 0
  · have e0 : (c.bad == 0) = true := by simpa using h0
    by_cases h1 : t.k = 1
    · have e1 : (t.k == 1) = true := by simpa using h1
      by_cases h2 : isName t.t.data.toList = true
      · have hB : nameB c = true := nameB_yes h0 (by rw [← ht]; exact h1) (by rw [← ht]; exact h2)
        have hc : on c = d := by rw [hd]; unfold nameC; rw [if_pos hB]
        have hs : t.t = u := by rw [hu]; unfold nameS; rw [if_pos hB, ht]
        have HI2 := Lib.hid (HI.out true h2)
        rw [hc] at HO
        have HS := Lib.hid hs
        clear HI hs hc hB hd hu ht h0 h1 h2 HF
        go_enter Tryz.func39, Tryz.ntmps39
        go_wp2_with (go_at_call 20; (with_reducible refine (HN.out _ (((HT.out.keep HW.out).alloc _).alloc _)).mono ?_))
        rintro e x2 ⟨rfl, hb2⟩
        obtain ⟨k1, k2, hB, hz⟩ := pair_blocks hb2
        have hz' : w.heap.size < x2.heap.size := by omega
        have HK1 := Lib.hid k1
        have HK2 := Lib.hid k2
        have HB := Lib.hid hB
        obtain ⟨c0, c1, c2, c3, c4, c5⟩ := cells_6 k1
        clear hb2 k1 k2 hB
        go_wp2_with (go_at_call 51; (with_reducible refine (HI2.out _).mono ?_))
        rintro e x3 ⟨rfl, hb3⟩
        obtain ⟨k3, hB3, hz3⟩ := one_block hb3
        have HB3 := Lib.hid (below_two' HB.out hB3)
        have HB1 := Lib.hid (block_on HK1.out hB3)
        have HK3 := Lib.hid (block_on HK2.out hB3)
        have HBt := Lib.hid k3
        clear c0 c1 c2 c3 c4 c5 hb3 hB3 k3
        obtain ⟨c0, c1, c2, c3, c4, c5⟩ := cells_6 HB1.out
        obtain ⟨t0, t1, t2, t3⟩ := cells_4 HBt.out
        have hne1 : ¬ x2.heap.size = w.heap.size + 1 := by omega
        have hne2 : ¬ w.heap.size + 1 = x2.heap.size := by omega
        go_wp2_with fail
        go_region_held3 (fun w' => w'.cell? ⟨w.heap.size, 0, none⟩ = some (.slice A n cp) ∧ w'.cell? ⟨w.heap.size, 1, none⟩ = some (.int .i64 c.w1) ∧ w'.cell? ⟨w.heap.size, 2, none⟩ = some (.int .i64 c.w2) ∧ w'.cell? ⟨w.heap.size, 3, none⟩ = some (.int .i64 c.a1) ∧ w'.cell? ⟨w.heap.size, 4, none⟩ = some (.int .i64 c.a2) ∧ w'.cell? ⟨w.heap.size, 5, none⟩ = some (.int .i64 c.bad) ∧ w'.cell? ⟨x2.heap.size, 1, none⟩ = some (.string t.t)) (go_keep)
          ((go_at_call 68; refine (HO.out _ (below_two' HW.out HB3.out.drew)).mono ?_; rintro e x4 ⟨A', n', cp', rfl, hT4, hb4'⟩; have hb4 := undrew hb4'; clear hb4'; have k4 := block_on HK3.out hb4; obtain ⟨d0, d1, d2, d3, d4, d5⟩ := cells_6 k4; obtain ⟨g0, g1, g2, g3, g4, g5⟩ := free_6 k4; have HB4 := Lib.hid hb4; have HK4 := Lib.hid (blk_of k4 (n := 6) rfl); have HT4 := Lib.hid hT4; obtain ⟨p0, p1, p2, p3, p4, p5⟩ := cells_6 (block_on HB1.out hb4); obtain ⟨r0, r1, r2, r3⟩ := cells_4 (block_on HBt.out hb4); clear hb4 k4 hT4))
        go_wp2_with fail
        obtain ⟨q0, q1, q2, q3, q4, q5⟩ := store_six HK4.out (.slice A' n' cp') (.int .i64 d.w1) (.int .i64 d.w2) (.int .i64 d.a1) (.int .i64 d.a2) (.int .i64 d.bad)
        refine bodyPost_ret (v := .tuple #[.agg #[.slice A' n' cp', .int .i64 d.w1, .int .i64 d.w2, .int .i64 d.a1, .int .i64 d.a2, .int .i64 d.bad], .string t.t]) (by simp [results, Tryz.results39, go_sem, q0, q1, q2, q3, q4, q5]) rfl ?_
        rw [HS.out]
        exact ⟨A', n', cp', rfl, HT4.out, below_six (below_two' HB3.out HB4.out) (by omega) _ _ _ _ _ _⟩
      · have h2' : isName t.t.data.toList = false := by simpa using h2
        have hB : nameB c = false := nameB_no2 (by rw [← ht]; exact h2')
        have hc : fail c 2 = d := by rw [hd]; unfold nameC; rw [hB]; rfl
        have hs : (⟨#[]⟩ : ByteArray) = u := by rw [hu]; unfold nameS; rw [hB]; rfl
        have HI2 := Lib.hid (HI.out false h2')
        rw [hc] at HF
        have HS := Lib.hid hs
        clear HI hs hc hB hd hu ht h0 h1 h2 h2' HO
        go_enter Tryz.func39, Tryz.ntmps39
        go_wp2_with (go_at_call 20; (with_reducible refine (HN.out _ (((HT.out.keep HW.out).alloc _).alloc _)).mono ?_))
        rintro e x2 ⟨rfl, hb2⟩
        obtain ⟨k1, k2, hB, hz⟩ := pair_blocks hb2
        have hz' : w.heap.size < x2.heap.size := by omega
        have HK1 := Lib.hid k1
        have HK2 := Lib.hid k2
        have HB := Lib.hid hB
        obtain ⟨c0, c1, c2, c3, c4, c5⟩ := cells_6 k1
        clear hb2 k1 k2 hB
        go_wp2_with (go_at_call 51; (with_reducible refine (HI2.out _).mono ?_))
        rintro e x3 ⟨rfl, hb3⟩
        obtain ⟨k3, hB3, hz3⟩ := one_block hb3
        have HB3 := Lib.hid (below_two' HB.out hB3)
        have HB1 := Lib.hid (block_on HK1.out hB3)
        have HK3 := Lib.hid (block_on HK2.out hB3)
        have HBt := Lib.hid k3
        clear c0 c1 c2 c3 c4 c5 hb3 hB3 k3
        obtain ⟨c0, c1, c2, c3, c4, c5⟩ := cells_6 HB1.out
        obtain ⟨t0, t1, t2, t3⟩ := cells_4 HBt.out
        go_wp2_with (go_at_call 37; (with_reducible refine (HF.out _ (below_two' HW.out HB3.out)).mono ?_))
        rintro e x4 ⟨A', n', cp', rfl, hT4, hb4⟩
        have k4 := block_on HK3.out hb4
        have HB4 := Lib.hid (below_two' HB3.out hb4)
        have HT4 := Lib.hid hT4
        have HK4 := Lib.hid (blk_of k4 (n := 6) rfl)
        obtain ⟨d0, d1, d2, d3, d4, d5⟩ := cells_6 k4
        obtain ⟨g0, g1, g2, g3, g4, g5⟩ := free_6 k4
        clear hT4 hb4 k4 c0 c1 c2 c3 c4 c5
        go_wp2_with fail
        obtain ⟨q0, q1, q2, q3, q4, q5⟩ := store_six HK4.out (.slice A' n' cp') (.int .i64 d.w1) (.int .i64 d.w2) (.int .i64 d.a1) (.int .i64 d.a2) (.int .i64 d.bad)
        refine bodyPost_ret (v := .tuple #[.agg #[.slice A' n' cp', .int .i64 d.w1, .int .i64 d.w2, .int .i64 d.a1, .int .i64 d.a2, .int .i64 d.bad], .string ⟨#[]⟩]) (by simp [results, Tryz.results39, go_sem, q0, q1, q2, q3, q4, q5]) rfl ?_
        rw [HS.out]
        exact ⟨A', n', cp', rfl, HT4.out, below_six HB4.out (by omega) _ _ _ _ _ _⟩
    · have e1 : (t.k == 1) = false := by simpa using h1
      have hB : nameB c = false := nameB_no1 (by rw [← ht]; exact h1)
      have hc : fail c 2 = d := by rw [hd]; unfold nameC; rw [hB]; rfl
      have hs : (⟨#[]⟩ : ByteArray) = u := by rw [hu]; unfold nameS; rw [hB]; rfl
      rw [hc] at HF
      have HS := Lib.hid hs
      clear HI hs hc hB hd hu ht h0 h1 HO
      go_enter Tryz.func39, Tryz.ntmps39
      go_wp2_with (go_at_call 20; (with_reducible refine (HN.out _ (((HT.out.keep HW.out).alloc _).alloc _)).mono ?_))
      rintro e x2 ⟨rfl, hb2⟩
      obtain ⟨k1, k2, hB, hz⟩ := pair_blocks hb2
      have hz' : w.heap.size < x2.heap.size := by omega
      have HK1 := Lib.hid k1
      have HK2 := Lib.hid k2
      have HB := Lib.hid hB
      obtain ⟨c0, c1, c2, c3, c4, c5⟩ := cells_6 k1
      clear hb2 k1 k2 hB
      go_wp2_with (go_at_call 37; (with_reducible refine (HF.out _ (below_two' HW.out (HB.out.alloc (Nat.le_trans (Nat.le_succ _) (Nat.le_of_lt hz)) _))).mono ?_))
      rintro e x4 ⟨A', n', cp', rfl, hT4, hb4⟩
      have k4 := block_on ((heap_alloc_old _ _ hz).trans HK2.out) hb4
      have HB4 := Lib.hid (below_two' (HB.out.alloc (Nat.le_trans (Nat.le_succ _) (Nat.le_of_lt hz)) _) hb4)
      have HT4 := Lib.hid hT4
      have HK4 := Lib.hid (blk_of k4 (n := 6) rfl)
      obtain ⟨d0, d1, d2, d3, d4, d5⟩ := cells_6 k4
      obtain ⟨g0, g1, g2, g3, g4, g5⟩ := free_6 k4
      clear hT4 hb4 k4 c0 c1 c2 c3 c4 c5
      go_wp2_with fail
      obtain ⟨q0, q1, q2, q3, q4, q5⟩ := store_six HK4.out (.slice A' n' cp') (.int .i64 d.w1) (.int .i64 d.w2) (.int .i64 d.a1) (.int .i64 d.a2) (.int .i64 d.bad)
      refine bodyPost_ret (v := .tuple #[.agg #[.slice A' n' cp', .int .i64 d.w1, .int .i64 d.w2, .int .i64 d.a1, .int .i64 d.a2, .int .i64 d.bad], .string ⟨#[]⟩]) (by simp [results, Tryz.results39, go_sem, q0, q1, q2, q3, q4, q5]) rfl ?_
      rw [HS.out]
      exact ⟨A', n', cp', rfl, HT4.out, below_six HB4.out (by omega) _ _ _ _ _ _⟩
  · have e0 : (c.bad == 0) = false := by simpa using h0
    have hB : nameB c = false := nameB_dead h0
    have hc : fail c 2 = d := by rw [hd]; unfold nameC; rw [hB]; rfl
    have hs : (⟨#[]⟩ : ByteArray) = u := by rw [hu]; unfold nameS; rw [hB]; rfl
    rw [hc] at HF
    have HS := Lib.hid hs
    clear HI hs hc hB hd hu ht h0 HO
    go_enter Tryz.func39, Tryz.ntmps39
    go_wp2_with (go_at_call 20; (with_reducible refine (HN.out _ (((HT.out.keep HW.out).alloc _).alloc _)).mono ?_))
    rintro e x2 ⟨rfl, hb2⟩
    obtain ⟨k1, k2, hB, hz⟩ := pair_blocks hb2
    have hz' : w.heap.size < x2.heap.size := by omega
    have HK1 := Lib.hid k1
    have HK2 := Lib.hid k2
    have HB := Lib.hid hB
    obtain ⟨c0, c1, c2, c3, c4, c5⟩ := cells_6 k1
    clear hb2 k1 k2 hB
    go_wp2_with (go_at_call 37; (with_reducible refine (HF.out _ (below_two' HW.out (HB.out.alloc (Nat.le_trans (Nat.le_succ _) (Nat.le_of_lt hz)) _))).mono ?_))
    rintro e x4 ⟨A', n', cp', rfl, hT4, hb4⟩
    have k4 := block_on ((heap_alloc_old _ _ hz).trans HK2.out) hb4
    have HB4 := Lib.hid (below_two' (HB.out.alloc (Nat.le_trans (Nat.le_succ _) (Nat.le_of_lt hz)) _) hb4)
    have HT4 := Lib.hid hT4
    have HK4 := Lib.hid (blk_of k4 (n := 6) rfl)
    obtain ⟨d0, d1, d2, d3, d4, d5⟩ := cells_6 k4
    obtain ⟨g0, g1, g2, g3, g4, g5⟩ := free_6 k4
    clear hT4 hb4 k4 c0 c1 c2 c3 c4 c5
    go_wp2_with fail
    obtain ⟨q0, q1, q2, q3, q4, q5⟩ := store_six HK4.out (.slice A' n' cp') (.int .i64 d.w1) (.int .i64 d.w2) (.int .i64 d.a1) (.int .i64 d.a2) (.int .i64 d.bad)
    refine bodyPost_ret (v := .tuple #[.agg #[.slice A' n' cp', .int .i64 d.w1, .int .i64 d.w2, .int .i64 d.a1, .int .i64 d.a2, .int .i64 d.bad], .string ⟨#[]⟩]) (by simp [results, Tryz.results39, go_sem, q0, q1, q2, q3, q4, q5]) rfl ?_
    rw [HS.out]
    exact ⟨A', n', cp', rfl, HT4.out, below_six HB4.out (by omega) _ _ _ _ _ _⟩
end Go.Proofs.YtcfcpbkeedfbpaaGreatDoor

namespace Go.Proofs.YtcfcpbkeedfbpaaGreatDoor
open Go.RowKit ValSpec
set_option maxRecDepth 100000

theorem str_nil {s : ByteArray} (h : s.size = 0) : s.toList = [] := by
  rw [ByteArray.toList_eq, ← List.length_eq_zero_iff]; exact h
theorem str_ne {s : ByteArray} (h : 0 < s.size) : s.toList.isEmpty = false := by
  have e : s.toList.length = s.size := by rw [ByteArray.toList_eq]; rfl
  cases h' : s.toList with
  | nil => rw [h'] at e; simp at e; omega
  | cons a l => rfl
theorem val_bool {a b : Bool} (h : a = b) : Ending.returned (.bool a) = .returned (.bool b) := by rw [h]
theorem val_pair {a b c d : Int} (h : a = b) (h' : c = d) : Ending.returned (.tuple #[.int .i64 a, .int .i64 c]) = .returned (.tuple #[.int .i64 b, .int .i64 d]) := by rw [h, h']
theorem take_snoc (s : ByteArray) (k : Nat) (h : k < s.size) : s.data.toList.take (k + 1) = s.data.toList.take k ++ [s[k]] := by
  rw [List.take_succ_eq_append_getElem (by simpa using h)]; rfl
theorem take_all (s : ByteArray) : s.data.toList.take s.size = s.data.toList := by rw [List.take_of_length_le (by simp)]
theorem cons_of {s : ByteArray} (h : 0 < s.size) : ∃ tl, s.data.toList = s[0] :: tl ∧ tl.length + 1 = s.size := by
  have e : s.data.toList.length = s.size := rfl
  cases h' : s.data.toList with
  | nil => rw [h'] at e; simp at e; omega
  | cons a l =>
    rw [h'] at e
    refine ⟨l, ?_, by simpa using e⟩
    have : s.data.toList[0]'(by rw [h']; simp) = s[0] := rfl
    rw [← this]
    simp [h']
theorem num_zero {s : ByteArray} (h : 0 < s.size) (h0 : (s[0].toNat : Int) = 48) (h1 : 1 < s.size) : isNum s.data.toList = false := by
  obtain ⟨tl, e, hl⟩ := cons_of h
  have e0 : s[0] = 48 := UInt8.toNat_inj.mp (by show _ = 48; omega)
  rw [e, e0]
  have : 1 ≤ tl.length := by omega
  simp [isNum]
  intro h2; subst h2; simp at this
theorem num_else {s : ByteArray} (h : 0 < s.size) (h0 : ¬ (s[0].toNat : Int) = 48 ∨ s.size ≤ 1) : isNum s.data.toList = s.data.toList.all isDig := by
  obtain ⟨tl, e, hl⟩ := cons_of h
  rw [e]
  unfold isNum
  have e1 : (!(s[0] :: tl).isEmpty) = true := rfl
  rw [e1]
  rcases h0 with h0 | h0
  · have : ((s[0] :: tl).head? == some 48) = false := by
      rw [beq_eq_false_iff_ne]; intro h2; simp at h2; exact h0 (by rw [h2]; rfl)
    rw [this]; simp
  · have : tl = [] := by rw [← List.length_eq_zero_iff]; omega
    subst this; simp
theorem all_take_no {s : ByteArray} {k : Nat} (h : k < s.size) (hc : isDig s[k] = false) : s.data.toList.all isDig = false := by
  rw [List.all_eq_false]
  exact ⟨s[k], by rw [← Array.mem_def]; exact Array.getElem_mem _, by simp [hc]⟩

set_option maxHeartbeats 400000 in
theorem numeral_loop (s : ByteArray) (w : World) (hs : s.size ≤ 9223372036854775807) (hp : 0 < s.size) (h0 : ¬ (s[0].toNat : Int) = 48 ∨ s.size ≤ 1) :
    Calls Tryz.prog 188 #[.string s] w fun e w' => e = .returned (.bool (isNum s.data.toList)) ∧ w = w' := by
  have he := str_ne hp
  have HN := Lib.hid (num_else hp h0)
  have hz : ¬ ((s[0].toNat : Int) = 48 ∧ 1 < (s.size : Int)) := by omega
  by_cases hs0 : (s[0].toNat : Int) = 48
  all_goals
    (first | (have h1 : (s.size : Int) ≤ 1 := by omega) | skip)
    clear h0 hz
    go_enter Tryz.func188, Tryz.ntmps188
    go_wp2_with fail
    go_loop [18] (fun i => ∃ k : Nat, k ≤ s.size ∧ i = .int .i64 k ∧ (s.data.toList.take k).all isDig = true) (fun i => s.size - (intOf i).toNat)
    case atStart => exact ⟨0, Nat.zero_le _, rfl, rfl⟩
    case round =>
      obtain ⟨k, hk, rfl, hall⟩ := hrel
      have HA := Lib.hid hall
      clear hall
      by_cases hlt : k < s.size
      · by_cases hc1 : (s[k].toNat : Int) < 48
        · go_wp2_with fail
          go_ret
          exact ⟨val_bool (by rw [HN.out, all_take_no hlt (not_dig_lo hc1)]), rfl⟩
        · by_cases hc2 : 57 < (s[k].toNat : Int)
          · go_wp2_with fail
            go_ret
            exact ⟨val_bool (by rw [HN.out, all_take_no hlt (not_dig_hi hc2)]), rfl⟩
          · go_wp2_with fail
            go_round
            case rel => exact ⟨k + 1, by omega, by go_num, by rw [take_snoc s k hlt, List.all_append, HA.out]; simp [dig_mk (c := s[k]) (by omega) (by omega)]⟩
            case measure => simp [intOf]; omega
      · go_wp2_with fail
        go_ret
        exact ⟨val_bool (by have : k = s.size := by omega
                            rw [HN.out, ← take_all s, ← this, HA.out]), rfl⟩

theorem numeral_any (s : ByteArray) (w : World) (hs : s.size ≤ maxLen) :
    Calls Tryz.prog 188 #[.string s] w fun e w' => e = .returned (.bool (isNum s.data.toList)) ∧ w = w' := by
  unfold maxLen at hs
  by_cases h0 : s.size = 0
  · have he := str_nil h0
    have : s.data.toList = [] := by rw [← ByteArray.toList_eq]; exact he
    have HE := Lib.hid this
    clear this
    go_enter Tryz.func188, Tryz.ntmps188
    go_wp2_with fail
    go_ret
    exact ⟨val_bool (by rw [HE.out]; rfl), rfl⟩
  · have hp : 0 < s.size := by omega
    by_cases h1 : (s[0].toNat : Int) = 48 ∧ 1 < s.size
    · obtain ⟨h1, h2⟩ := h1
      have he := str_ne hp
      have HZ := Lib.hid (num_zero hp h1 h2)
      go_enter Tryz.func188, Tryz.ntmps188
      go_wp2_with fail
      go_ret
      exact ⟨val_bool HZ.out.symm, rfl⟩
    · exact numeral_loop s w hs hp (by omega)

theorem all_at {s : ByteArray} {k : Nat} (h : k < s.size) (ha : s.data.toList.all isDig = true) : isDig s[k] = true := by
  rw [List.all_eq_true] at ha
  exact ha _ (by rw [← Array.mem_def]; exact Array.getElem_mem _)

set_option maxHeartbeats 400000 in
theorem get_any (s : ByteArray) (w : World) (hs : s.size ≤ maxLen) :
    Calls Tryz.prog 186 #[.string s] w fun e w' => e = .returned (.tuple #[.int .i64 (getN s.data.toList), .int .i64 (getE s.data.toList)]) ∧ w = w' := by
  have hs' : s.size ≤ 9223372036854775807 := hs
  by_cases hn : isNum s.data.toList = true
  · have ha := isNum_all hn
    have HAll := Lib.hid ha
    have HNum := Lib.hid hn
    go_enter Tryz.func186, Tryz.ntmps186
    go_wp2_with (go_at_call 188; refine (numeral_any _ _ hs).mono ?_; rintro e w' ⟨rfl, rfl⟩)
    clear hn ha
    go_loop [4, 11] (fun n i => ∃ k : Nat, k ≤ s.size ∧ i = .int .i64 k ∧ n = .int .i64 (says (s.data.toList.take k)) ∧ says (s.data.toList.take k) ≤ 1000000) (fun _ i => s.size - (intOf i).toNat)
    case atStart => exact ⟨0, Nat.zero_le _, rfl, rfl, by show (0 : Int) ≤ 1000000; omega⟩
    case round =>
      obtain ⟨k, hk, rfl, rfl, hbig⟩ := hrel
      have hlo := says_nonneg _ (all_take k HAll.out)
      by_cases hlt : k < s.size
      · obtain ⟨b1, b2⟩ := dig_bd (all_at hlt HAll.out)
        have hsn : says (s.data.toList.take (k + 1)) = 10 * says (s.data.toList.take k) + ((s[k].toNat : Int) - 48) := by rw [take_snoc s k hlt, says_snoc]
        have HS := Lib.hid hsn
        have hle := says_take_le s.data.toList (k + 1) HAll.out
        rw [hsn] at hle
        have HL := Lib.hid hle
        clear hsn hle
        by_cases hb : 1000000 < 10 * says (s.data.toList.take k) + ((s[k].toNat : Int) - 48)
        · go_wp2_with fail
          go_ret2
          exact ⟨val_pair (by unfold getN; rw [if_pos HNum.out, if_pos (by have := HL.out; omega)]) (by unfold getE; rw [if_pos HNum.out, if_pos (by have := HL.out; omega)]), rfl⟩
        · go_wp2_with fail
          go_round
          case rel => exact ⟨k + 1, by omega, by go_num, by rw [HS.out], by rw [HS.out]; omega⟩
          case measure => simp [intOf]; omega
      · have hks : k = s.size := by omega
        have hsa : says (s.data.toList.take k) = says s.data.toList := by rw [hks, take_all]
        have HE := Lib.hid hsa
        clear hsa hks
        go_wp2_with fail
        go_ret2
        exact ⟨val_pair (by rw [HE.out]; unfold getN; rw [if_pos HNum.out, if_neg (by rw [← HE.out]; omega)]) (by unfold getE; rw [if_pos HNum.out, if_neg (by rw [← HE.out]; omega)]), rfl⟩
  · have hf : isNum s.data.toList = false := by simpa using hn
    clear hn
    have HF := Lib.hid hf
    go_enter Tryz.func186, Tryz.ntmps186
    go_wp2_with (go_at_call 188; refine (numeral_any _ _ hs).mono ?_; rintro e w' ⟨rfl, rfl⟩)
    go_ret2
    exact ⟨val_pair (by unfold getN; rw [HF.out]; rfl) (by unfold getE; rw [HF.out]; rfl), rfl⟩


theorem num_ok {s : ByteArray} (h : 0 < s.size) (ha : s.data.toList.all isDig = true) (h0 : (s[0].toNat : Int) = 48 → s.size ≤ 1) : isNum s.data.toList = true := by
  rw [num_else h (by by_cases e : (s[0].toNat : Int) = 48; exact .inr (h0 e); exact .inl e), ha]
theorem num_no {s : ByteArray} {k : Nat} (h : k < s.size) (hc : isDig s[k] = false) : isNum s.data.toList = false := by
  cases e : isNum s.data.toList with
  | false => rfl
  | true => have := all_at h (isNum_all e); rw [hc] at this; cases this

/-- What holds at the head of each round of the reference's loop: what was read so far. -/
def RGet (s : ByteArray) (z : Int) (n i : Value) : Prop := ∃ (k : Nat) (m : Int), k ≤ s.size ∧ i = .int .i64 k ∧ n = .int .i64 m ∧ 0 ≤ m ∧ m ≤ 10000009 ∧ (s.data.toList.take k).all isDig = true ∧ (m ≤ 1000000 → m = says (s.data.toList.take k)) ∧ (1000000 < m → 1000000 < says (s.data.toList.take k)) ∧ (z = 48 → k ≤ 1)

set_option maxHeartbeats 400000 in
theorem rget_any (s : ByteArray) (w : World) (hs : s.size ≤ maxLen) :
    Calls Tryz.prog 160 #[.string s] w fun e w' => e = .returned (.tuple #[.int .i64 (getN s.data.toList), .int .i64 (getE s.data.toList)]) ∧ w = w' := by
  have hs' : s.size ≤ 9223372036854775807 := hs
  by_cases h0 : s.size = 0
  · have he : s.data.toList = [] := by rw [← ByteArray.toList_eq]; exact str_nil h0
    have HE := Lib.hid he
    clear he hs
    go_enter Tryz.func160, Tryz.ntmps160
    go_wp2_with fail
    go_ret2
    exact ⟨val_pair (by rw [HE.out]; rfl) (by rw [HE.out]; rfl), rfl⟩
  · have hp : 0 < s.size := by omega
    have hp' : (0 : Int) < (s.size : Int) := by omega
    clear hs
    go_enter Tryz.func160, Tryz.ntmps160
    go_wp2_with fail
    go_loop [4, 5] (fun n i => RGet s (s[0].toNat : Int) n i) (fun _ i => s.size - (intOf i).toNat)
    case atStart => exact ⟨0, 0, Nat.zero_le _, rfl, rfl, by omega, by omega, rfl, fun _ => rfl, fun h => by omega, fun _ => by omega⟩
    case round =>
      obtain ⟨k, m, hk, rfl, rfl, m0, m1, hall, hm1, hm2, hz⟩ := hrel
      have HA := Lib.hid hall
      have H1 := Lib.hid hm1
      have H2 := Lib.hid hm2
      have HZ := Lib.hid hz
      clear hall hm1 hm2 hz
      by_cases hlt : k < s.size
      · by_cases hc1 : (s[k].toNat : Int) < 48
        · have HN := Lib.hid (num_no hlt (not_dig_lo hc1))
          go_wp2_with fail
          go_ret2
          exact ⟨val_pair (by unfold getN; rw [HN.out]; rfl) (by unfold getE; rw [HN.out]; rfl), rfl⟩
        · by_cases hc2 : 57 < (s[k].toNat : Int)
          · have HN := Lib.hid (num_no hlt (not_dig_hi hc2))
            go_wp2_with fail
            go_ret2
            exact ⟨val_pair (by unfold getN; rw [HN.out]; rfl) (by unfold getE; rw [HN.out]; rfl), rfl⟩
          · by_cases hc3 : k = 1 ∧ (s[0].toNat : Int) = 48
            · obtain ⟨rfl, hc3⟩ := hc3
              have HN := Lib.hid (num_zero hp hc3 hlt)
              go_wp2_with fail
              go_ret2
              exact ⟨val_pair (by unfold getN; rw [HN.out]; rfl) (by unfold getE; rw [HN.out]; rfl), rfl⟩
            · have HZ2 : Hid ((s[0].toNat : Int) = 48 → k + 1 ≤ 1) := Lib.hid fun e => by have := HZ.out e; omega
              have hsn : says (s.data.toList.take (k + 1)) = 10 * says (s.data.toList.take k) + ((s[k].toNat : Int) - 48) := by rw [take_snoc s k hlt, says_snoc]
              have HS := Lib.hid hsn
              have HA2 : Hid ((s.data.toList.take (k + 1)).all isDig = true) := Lib.hid (by rw [take_snoc s k hlt, List.all_append, HA.out]; simp [dig_mk (c := s[k]) (by omega) (by omega)])
              clear hsn
              by_cases hk1 : k = 1
              · have hc4 : ¬ (s[0].toNat : Int) = 48 := fun e => hc3 ⟨hk1, e⟩
                clear hc3
                subst hk1
                by_cases hb : m ≤ 1000000
                all_goals
                  go_wp2_with fail
                  go_round
                  case rel => first
                    | exact ⟨2, _, by omega, by go_num, rfl, by omega, by omega, HA2.out, fun _ => by rw [HS.out, ← H1.out (by omega)]; omega, fun _ => by rw [HS.out, ← H1.out (by omega)]; omega, HZ2.out⟩
                    | exact ⟨2, _, by omega, by go_num, rfl, by omega, by omega, HA2.out, fun _ => by omega, fun _ => by have := H2.out (by omega); rw [HS.out]; omega, HZ2.out⟩
                  case measure => simp [intOf]; omega
              · clear hc3
                have hk2 : ((k : Int) == 1) = false := by rw [beq_eq_false_iff_ne]; omega
                by_cases hb : m ≤ 1000000
                all_goals
                  go_wp2_with fail
                  go_round
                  case rel => first
                    | exact ⟨k + 1, _, by omega, by go_num, rfl, by omega, by omega, HA2.out, fun _ => by rw [HS.out, ← H1.out (by omega)]; omega, fun _ => by rw [HS.out, ← H1.out (by omega)]; omega, HZ2.out⟩
                    | exact ⟨k + 1, _, by omega, by go_num, rfl, by omega, by omega, HA2.out, fun _ => by omega, fun _ => by have := H2.out (by omega); rw [HS.out]; omega, HZ2.out⟩
                  case measure => simp [intOf]; omega
      · have hks : k = s.size := by omega
        subst hks
        have HA2 : Hid (s.data.toList.all isDig = true) := Lib.hid (by rw [← take_all s]; exact HA.out)
        have HN : Hid (isNum s.data.toList = true) := Lib.hid (num_ok hp HA2.out HZ.out)
        have H3 : Hid (m ≤ 1000000 → m = says s.data.toList) := Lib.hid (by have := H1.out; rwa [take_all] at this)
        have H4 : Hid (1000000 < m → 1000000 < says s.data.toList) := Lib.hid (by have := H2.out; rwa [take_all] at this)
        clear HA HA2 HZ H1 H2
        by_cases hb : 1000000 < m
        · go_wp2_with fail
          go_ret2
          exact ⟨val_pair (by unfold getN; rw [HN.out, if_pos rfl, if_pos (H4.out hb)]) (by unfold getE; rw [HN.out, if_pos rfl, if_pos (H4.out hb)]), rfl⟩
        · go_wp2_with fail
          go_ret2
          have e := H3.out (by omega)
          exact ⟨val_pair (by unfold getN; rw [HN.out, if_pos rfl, if_neg (by omega)]; exact e) (by unfold getE; rw [HN.out, if_pos rfl, if_neg (by omega)]), rfl⟩

end Go.Proofs.YtcfcpbkeedfbpaaGreatDoor

namespace Go.Proofs.YtcfcpbkeedfbpaaGreatDoor
open Go.RowKit CurSpec ValSpec
set_option maxRecDepth 100000

def RetCurN (W0 W : World) (c : Cur) (m : Int) (e : Ending) (w' : World) : Prop :=
  ∃ A n cp, e = .returned (.tuple #[.agg #[.slice A n cp, .int .i64 c.w1, .int .i64 c.w2, .int .i64 c.a1, .int .i64 c.a2, .int .i64 c.bad], .int .i64 m]) ∧ Toks W0 (.slice A n cp) c.L ∧ Below W.heap.size W w'
def RetGet (W : World) (n er : Int) (e : Ending) (w' : World) : Prop := e = .returned (.tuple #[.int .i64 n, .int .i64 er]) ∧ W = w'
theorem rget_say {s : ByteArray} {n er : Int} (hn : getN s.data.toList = n) (he : getE s.data.toList = er) (hs : s.size ≤ 9223372036854775807) (w : World) : Calls Tryz.prog 160 #[.string s] w (RetGet w n er) := by
  subst hn he
  exact rget_any s w hs
theorem num_fail {c : Cur} {m er : Int} (h : numE c m = er) (hne : er ≠ 0) : numC c m = fail c er ∧ numN c m = 0 := by
  subst h
  unfold numC numN
  rw [if_neg hne, if_neg hne]
  exact ⟨rfl, rfl⟩
theorem numE_kind {c : Cur} {m : Int} (h : (next c).k ≠ 2) : numE c m = 2 := if_neg (fun h' => h h'.2)
theorem numE_get {c : Cur} {m : Int} (h0 : c.bad = 0) (h : (next c).k = 2) (hE : getE (next c).t.data.toList ≠ 0) : numE c m = getE (next c).t.data.toList := by
  unfold numE
  rw [if_pos ⟨h0, h⟩, if_neg hE]
theorem numE_most {c : Cur} {m : Int} (h0 : c.bad = 0) (h : (next c).k = 2) (hE : getE (next c).t.data.toList = 0) (hm : m < getN (next c).t.data.toList) : numE c m = 3 := by
  unfold numE
  rw [if_pos ⟨h0, h⟩, if_pos hE, if_pos hm]
theorem numE_good {c : Cur} {m : Int} (h0 : c.bad = 0) (h : (next c).k = 2) (hE : getE (next c).t.data.toList = 0) (hm : ¬ m < getN (next c).t.data.toList) : numE c m = 0 := by
  unfold numE
  rw [if_pos ⟨h0, h⟩, if_pos hE, if_neg hm]

set_option maxHeartbeats 2000000 in
theorem number_say (c : Cur) (m : Int) (ok : Ok c) (A : Option Addr) (n cp : Nat) (W0 w : World) (h : Toks W0 (.slice A n cp) c.L) (hw : Below W0.heap.size W0 w) :
    Calls Tryz.prog 135 #[.agg #[.slice A n cp, .int .i64 c.w1, .int .i64 c.w2, .int .i64 c.a1, .int .i64 c.a2, .int .i64 c.bad], .int .i64 m] w (RetCurN W0 w (numC c m) (numN c m)) := by
  have HT := Lib.hid h
  have HW := Lib.hid hw
  have HN := Lib.hid (fun W h => next_say c A n cp W h)
  have HO := Lib.hid (fun W hw => on_say c A n cp W0 W h hw)
  have HFa := Lib.hid (fun er W hw => fail_say c er A n cp W0 W h hw)
  clear h hw
  obtain ⟨d, hd⟩ : ∃ d, d = numC c m := ⟨_, rfl⟩
  obtain ⟨u, hu⟩ : ∃ u, u = numN c m := ⟨_, rfl⟩
  obtain ⟨t, ht⟩ : ∃ t, t = next c := ⟨_, rfl⟩
  have HG := Lib.hid (fun W => rget_say (s := (next c).t) rfl rfl ok.next W)
  rw [← hd, ← hu]
  rw [← ht] at HN HG
  by_cases h0 : c.bad = 0
  · have e0 : (c.bad != 0) = false := by simpa using h0
    by_cases h1 : t.k = 2
    · have e1 : (t.k != 2) = false := by simpa using h1
      obtain ⟨N, hN⟩ : ∃ N, N = getN t.t.data.toList := ⟨_, rfl⟩
      obtain ⟨E, hE⟩ : ∃ E, E = getE t.t.data.toList := ⟨_, rfl⟩
      rw [← hN, ← hE] at HG
      by_cases h2 : E = 0
      · have e2 : (E != 0) = false := by simpa using h2
        by_cases h3 : m < N
        · have hB := num_fail (numE_most (m := m) h0 (by rw [← ht]; exact h1) (by rw [← ht, ← hE]; exact h2) (by rw [← ht, ← hN]; exact h3)) (by decide)
          have hc : fail c 3 = d := by rw [hd, hB.1]
          have HS : Hid ((0 : Int) = u) := Lib.hid (by rw [hu, hB.2])
          have HF := Lib.hid (fun W hw => HFa.out 3 W hw)
          rw [hc] at HF
          clear hc hB hd hu ht h0 h1 h2 hN hE HO HFa
          go_enter Tryz.func135, Tryz.ntmps135
          go_wp2_with (go_at_call 20; (with_reducible refine (HN.out _ (((HT.out.keep HW.out).alloc _).alloc _)).mono ?_))
          rintro e x2 ⟨rfl, hb2⟩
          obtain ⟨k1, k2, hB, hz⟩ := pair_blocks hb2
          have hz' : w.heap.size < x2.heap.size := by omega
          have HK1 := Lib.hid k1
          have HK2 := Lib.hid k2
          have HB := Lib.hid hB
          obtain ⟨c0, c1, c2, c3, c4, c5⟩ := cells_6 k1
          clear hb2 k1 k2 hB
          go_wp2_with (go_at_call 160; (with_reducible refine (HG.out _).mono ?_))
          rintro e w' ⟨rfl, rfl⟩
          go_wp2_with (go_at_call 37; (with_reducible refine (HF.out _ (below_two' HW.out (HB.out.alloc (Nat.le_trans (Nat.le_succ _) (Nat.le_of_lt hz)) _))).mono ?_))
          rintro e x4 ⟨A', n', cp', rfl, hT4, hb4⟩
          have k4 := block_on ((heap_alloc_old _ _ hz).trans HK2.out) hb4
          have HB4 := Lib.hid (below_two' (HB.out.alloc (Nat.le_trans (Nat.le_succ _) (Nat.le_of_lt hz)) _) hb4)
          have HT4 := Lib.hid hT4
          have HK4 := Lib.hid (blk_of k4 (n := 6) rfl)
          obtain ⟨d0, d1, d2, d3, d4, d5⟩ := cells_6 k4
          obtain ⟨g0, g1, g2, g3, g4, g5⟩ := free_6 k4
          clear hT4 hb4 k4 c0 c1 c2 c3 c4 c5
          go_wp2_with fail
          obtain ⟨q0, q1, q2, q3, q4, q5⟩ := store_six HK4.out (.slice A' n' cp') (.int .i64 d.w1) (.int .i64 d.w2) (.int .i64 d.a1) (.int .i64 d.a2) (.int .i64 d.bad)
          refine bodyPost_ret (v := .tuple #[.agg #[.slice A' n' cp', .int .i64 d.w1, .int .i64 d.w2, .int .i64 d.a1, .int .i64 d.a2, .int .i64 d.bad], .int .i64 0]) (by simp [results, Tryz.results135, go_sem, q0, q1, q2, q3, q4, q5]) rfl ?_
          rw [HS.out]
          exact ⟨A', n', cp', rfl, HT4.out, below_six HB4.out (by omega) _ _ _ _ _ _⟩
        · have hB := numE_good (m := m) h0 (by rw [← ht]; exact h1) (by rw [← ht, ← hE]; exact h2) (by rw [← ht, ← hN]; exact h3)
          have hc : on c = d := by rw [hd]; unfold numC; rw [if_pos hB]
          have HS : Hid (N = u) := Lib.hid (by rw [hu]; unfold numN; rw [if_pos hB, ← ht, hN])
          have HF := HO
          rw [hc] at HF
          have e3 : N ≤ m := by omega
          clear hc hB hd hu ht h0 h1 h2 h3 hN hE HO HFa
          go_enter Tryz.func135, Tryz.ntmps135
          go_wp2_with (go_at_call 20; (with_reducible refine (HN.out _ (((HT.out.keep HW.out).alloc _).alloc _)).mono ?_))
          rintro e x2 ⟨rfl, hb2⟩
          obtain ⟨k1, k2, hB, hz⟩ := pair_blocks hb2
          have hz' : w.heap.size < x2.heap.size := by omega
          have HK1 := Lib.hid k1
          have HK2 := Lib.hid k2
          have HB := Lib.hid hB
          obtain ⟨c0, c1, c2, c3, c4, c5⟩ := cells_6 k1
          clear hb2 k1 k2 hB
          go_wp2_with (go_at_call 160; (with_reducible refine (HG.out _).mono ?_))
          rintro e w' ⟨rfl, rfl⟩
          go_wp2_with (go_at_call 68; (with_reducible refine (HF.out _ (below_two' HW.out (HB.out.alloc (Nat.le_trans (Nat.le_succ _) (Nat.le_of_lt hz)) _))).mono ?_))
          rintro e x4 ⟨A', n', cp', rfl, hT4, hb4⟩
          have k4 := block_on ((heap_alloc_old _ _ hz).trans HK2.out) hb4
          have HB4 := Lib.hid (below_two' (HB.out.alloc (Nat.le_trans (Nat.le_succ _) (Nat.le_of_lt hz)) _) hb4)
          have HT4 := Lib.hid hT4
          have HK4 := Lib.hid (blk_of k4 (n := 6) rfl)
          obtain ⟨d0, d1, d2, d3, d4, d5⟩ := cells_6 k4
          obtain ⟨g0, g1, g2, g3, g4, g5⟩ := free_6 k4
          clear hT4 hb4 k4 c0 c1 c2 c3 c4 c5
          go_wp2_with fail
          obtain ⟨q0, q1, q2, q3, q4, q5⟩ := store_six HK4.out (.slice A' n' cp') (.int .i64 d.w1) (.int .i64 d.w2) (.int .i64 d.a1) (.int .i64 d.a2) (.int .i64 d.bad)
          refine bodyPost_ret (v := .tuple #[.agg #[.slice A' n' cp', .int .i64 d.w1, .int .i64 d.w2, .int .i64 d.a1, .int .i64 d.a2, .int .i64 d.bad], .int .i64 N]) (by simp [results, Tryz.results135, go_sem, q0, q1, q2, q3, q4, q5]) rfl ?_
          rw [HS.out]
          exact ⟨A', n', cp', rfl, HT4.out, below_six HB4.out (by omega) _ _ _ _ _ _⟩
      · have e2 : (E != 0) = true := by simpa using h2
        have hB := num_fail (numE_get (m := m) h0 (by rw [← ht]; exact h1) (by rw [← ht, ← hE]; exact h2)) (by rw [← ht, ← hE]; exact h2)
        rw [← ht, ← hE] at hB
        have hc : fail c E = d := by rw [hd, hB.1]
        have HS : Hid ((0 : Int) = u) := Lib.hid (by rw [hu, hB.2])
        have HF := Lib.hid (fun W hw => HFa.out E W hw)
        rw [hc] at HF
        clear hc hB hd hu ht h0 h1 h2 hN hE HO HFa
        go_enter Tryz.func135, Tryz.ntmps135
        go_wp2_with (go_at_call 20; (with_reducible refine (HN.out _ (((HT.out.keep HW.out).alloc _).alloc _)).mono ?_))
        rintro e x2 ⟨rfl, hb2⟩
        obtain ⟨k1, k2, hB, hz⟩ := pair_blocks hb2
        have hz' : w.heap.size < x2.heap.size := by omega
        have HK1 := Lib.hid k1
        have HK2 := Lib.hid k2
        have HB := Lib.hid hB
        obtain ⟨c0, c1, c2, c3, c4, c5⟩ := cells_6 k1
        clear hb2 k1 k2 hB
        go_wp2_with (go_at_call 160; (with_reducible refine (HG.out _).mono ?_))
        rintro e w' ⟨rfl, rfl⟩
        go_wp2_with (go_at_call 37; (with_reducible refine (HF.out _ (below_two' HW.out (HB.out.alloc (Nat.le_trans (Nat.le_succ _) (Nat.le_of_lt hz)) _))).mono ?_))
        rintro e x4 ⟨A', n', cp', rfl, hT4, hb4⟩
        have k4 := block_on ((heap_alloc_old _ _ hz).trans HK2.out) hb4
        have HB4 := Lib.hid (below_two' (HB.out.alloc (Nat.le_trans (Nat.le_succ _) (Nat.le_of_lt hz)) _) hb4)
        have HT4 := Lib.hid hT4
        have HK4 := Lib.hid (blk_of k4 (n := 6) rfl)
        obtain ⟨d0, d1, d2, d3, d4, d5⟩ := cells_6 k4
        obtain ⟨g0, g1, g2, g3, g4, g5⟩ := free_6 k4
        clear hT4 hb4 k4 c0 c1 c2 c3 c4 c5
        go_wp2_with fail
        obtain ⟨q0, q1, q2, q3, q4, q5⟩ := store_six HK4.out (.slice A' n' cp') (.int .i64 d.w1) (.int .i64 d.w2) (.int .i64 d.a1) (.int .i64 d.a2) (.int .i64 d.bad)
        refine bodyPost_ret (v := .tuple #[.agg #[.slice A' n' cp', .int .i64 d.w1, .int .i64 d.w2, .int .i64 d.a1, .int .i64 d.a2, .int .i64 d.bad], .int .i64 0]) (by simp [results, Tryz.results135, go_sem, q0, q1, q2, q3, q4, q5]) rfl ?_
        rw [HS.out]
        exact ⟨A', n', cp', rfl, HT4.out, below_six HB4.out (by omega) _ _ _ _ _ _⟩
    · have e1 : (t.k != 2) = true := by simpa using h1
      have hB := num_fail (numE_kind (m := m) (by rw [← ht]; exact h1)) (by decide)
      have hc : fail c 2 = d := by rw [hd, hB.1]
      have HS : Hid ((0 : Int) = u) := Lib.hid (by rw [hu, hB.2])
      have HF := Lib.hid (fun W hw => HFa.out 2 W hw)
      rw [hc] at HF
      clear hc hB hd hu ht h0 h1 HO HFa HG
      go_enter Tryz.func135, Tryz.ntmps135
      go_wp2_with (go_at_call 20; (with_reducible refine (HN.out _ (((HT.out.keep HW.out).alloc _).alloc _)).mono ?_))
      rintro e x2 ⟨rfl, hb2⟩
      obtain ⟨k1, k2, hB, hz⟩ := pair_blocks hb2
      have hz' : w.heap.size < x2.heap.size := by omega
      have HK1 := Lib.hid k1
      have HK2 := Lib.hid k2
      have HB := Lib.hid hB
      obtain ⟨c0, c1, c2, c3, c4, c5⟩ := cells_6 k1
      clear hb2 k1 k2 hB
      go_wp2_with (go_at_call 37; (with_reducible refine (HF.out _ (below_two' HW.out (HB.out.alloc (Nat.le_trans (Nat.le_succ _) (Nat.le_of_lt hz)) _))).mono ?_))
      rintro e x4 ⟨A', n', cp', rfl, hT4, hb4⟩
      have k4 := block_on ((heap_alloc_old _ _ hz).trans HK2.out) hb4
      have HB4 := Lib.hid (below_two' (HB.out.alloc (Nat.le_trans (Nat.le_succ _) (Nat.le_of_lt hz)) _) hb4)
      have HT4 := Lib.hid hT4
      have HK4 := Lib.hid (blk_of k4 (n := 6) rfl)
      obtain ⟨d0, d1, d2, d3, d4, d5⟩ := cells_6 k4
      obtain ⟨g0, g1, g2, g3, g4, g5⟩ := free_6 k4
      clear hT4 hb4 k4 c0 c1 c2 c3 c4 c5
      go_wp2_with fail
      obtain ⟨q0, q1, q2, q3, q4, q5⟩ := store_six HK4.out (.slice A' n' cp') (.int .i64 d.w1) (.int .i64 d.w2) (.int .i64 d.a1) (.int .i64 d.a2) (.int .i64 d.bad)
      refine bodyPost_ret (v := .tuple #[.agg #[.slice A' n' cp', .int .i64 d.w1, .int .i64 d.w2, .int .i64 d.a1, .int .i64 d.a2, .int .i64 d.bad], .int .i64 0]) (by simp [results, Tryz.results135, go_sem, q0, q1, q2, q3, q4, q5]) rfl ?_
      rw [HS.out]
      exact ⟨A', n', cp', rfl, HT4.out, below_six HB4.out (by omega) _ _ _ _ _ _⟩
  · have e0 : (c.bad != 0) = true := by simpa using h0
    have hB := num_fail (numE_dead m h0) (by decide)
    have hc : fail c 2 = d := by rw [hd, hB.1]
    have HS : Hid ((0 : Int) = u) := Lib.hid (by rw [hu, hB.2])
    have HF := Lib.hid (fun W hw => HFa.out 2 W hw)
    rw [hc] at HF
    clear hc hB hd hu ht h0 HO HFa HG
    go_enter Tryz.func135, Tryz.ntmps135
    go_wp2_with (go_at_call 20; (with_reducible refine (HN.out _ (((HT.out.keep HW.out).alloc _).alloc _)).mono ?_))
    rintro e x2 ⟨rfl, hb2⟩
    obtain ⟨k1, k2, hB, hz⟩ := pair_blocks hb2
    have hz' : w.heap.size < x2.heap.size := by omega
    have HK1 := Lib.hid k1
    have HK2 := Lib.hid k2
    have HB := Lib.hid hB
    obtain ⟨c0, c1, c2, c3, c4, c5⟩ := cells_6 k1
    clear hb2 k1 k2 hB
    go_wp2_with (go_at_call 37; (with_reducible refine (HF.out _ (below_two' HW.out (HB.out.alloc (Nat.le_trans (Nat.le_succ _) (Nat.le_of_lt hz)) _))).mono ?_))
    rintro e x4 ⟨A', n', cp', rfl, hT4, hb4⟩
    have k4 := block_on ((heap_alloc_old _ _ hz).trans HK2.out) hb4
    have HB4 := Lib.hid (below_two' (HB.out.alloc (Nat.le_trans (Nat.le_succ _) (Nat.le_of_lt hz)) _) hb4)
    have HT4 := Lib.hid hT4
    have HK4 := Lib.hid (blk_of k4 (n := 6) rfl)
    obtain ⟨d0, d1, d2, d3, d4, d5⟩ := cells_6 k4
    obtain ⟨g0, g1, g2, g3, g4, g5⟩ := free_6 k4
    clear hT4 hb4 k4 c0 c1 c2 c3 c4 c5
    go_wp2_with fail
    obtain ⟨q0, q1, q2, q3, q4, q5⟩ := store_six HK4.out (.slice A' n' cp') (.int .i64 d.w1) (.int .i64 d.w2) (.int .i64 d.a1) (.int .i64 d.a2) (.int .i64 d.bad)
    refine bodyPost_ret (v := .tuple #[.agg #[.slice A' n' cp', .int .i64 d.w1, .int .i64 d.w2, .int .i64 d.a1, .int .i64 d.a2, .int .i64 d.bad], .int .i64 0]) (by simp [results, Tryz.results135, go_sem, q0, q1, q2, q3, q4, q5]) rfl ?_
    rw [HS.out]
    exact ⟨A', n', cp', rfl, HT4.out, below_six HB4.out (by omega) _ _ _ _ _ _⟩
end Go.Proofs.YtcfcpbkeedfbpaaGreatDoor
