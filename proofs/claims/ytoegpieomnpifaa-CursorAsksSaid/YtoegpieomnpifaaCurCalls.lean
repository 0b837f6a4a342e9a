/- What the program's Take, Want, Name, Number answer, of a cursor that New gave. Condition: the cursor lies in memory, its texts are no longer than memory holds. -/
import Derived.Test.YtoegpieomnpifaaCurLive
import Derived.Test.YtoegpieomnpifaaCurRefName
import Derived.Test.YtoegpieomnpifaaCurRefNum
namespace Go.Proofs.Ytoegpieomnpifaa
open Go.RowKit CurSpec NamesSpec ValSpec

def RetAtB (W : World) (B : Nat) (c : Cur) (b : Bool) (e : Ending) (w' : World) : Prop := e = .returned (.bool b) ∧ CurAt w' B c ∧ W.grownBy w' (some B)
def RetAtS (W : World) (B : Nat) (c : Cur) (s : ByteArray) (e : Ending) (w' : World) : Prop := e = .returned (.string s) ∧ CurAt w' B c ∧ W.grownBy w' (some B)
def RetAtN (W : World) (B : Nat) (c : Cur) (n : Int) (e : Ending) (w' : World) : Prop := e = .returned (.int .i64 n) ∧ CurAt w' B c ∧ W.grownBy w' (some B)

set_option maxHeartbeats 1000000 in
theorem take_at (B : Nat) (c : Cur) (k : Int) (s : ByteArray) (w : World) (h : CurAt w B c) : Calls Try.prog 11 #[.pointer (some ⟨B, 0, none⟩), .int .i64 k, .string s] w (RetAtB w B (take c k s) (isB c k s)) := by
  have HI := Lib.hid (is_at B c k s w h)
  have HC := Lib.hid h
  clear h
  by_cases hb : isB c k s = true
  · have HT : Hid (take c k s = on c) := Lib.hid (by unfold take; rw [if_pos hb])
    rw [hb] at HI ⊢
    clear hb
    go_enter Try.func11, Try.ntmps11
    go_wp2_with (go_at_call 18; (with_reducible refine HI.out.mono ?_))
    rintro e x2 ⟨rfl, hb2⟩
    have HB := Lib.hid hb2
    clear hb2
    go_wp2_with (go_at_call 24; (with_reducible refine (pass_at _ _ _ (HC.out.keep HB.out)).mono ?_))
    rintro e x3 ⟨rfl, hC3, hb3⟩
    have HE := Lib.hid (And.intro hC3 (but_trans (but_below HB.out) hb3))
    clear hC3 hb3
    go_wp2_with fail
    go_ret
    exact ⟨rfl, by rw [HT.out]; exact HE.out.1, HE.out.2⟩
  · have HT : Hid (take c k s = c) := Lib.hid (by unfold take; rw [if_neg hb])
    have hb' : isB c k s = false := by simpa using hb
    rw [hb'] at HI ⊢
    clear hb hb'
    go_enter Try.func11, Try.ntmps11
    go_wp2_with (go_at_call 18; (with_reducible refine HI.out.mono ?_))
    rintro e x2 ⟨rfl, hb2⟩
    have HB := Lib.hid hb2
    clear hb2
    go_wp2_with fail
    go_ret
    exact ⟨rfl, by rw [HT.out]; exact HC.out.keep HB.out, but_below HB.out⟩

set_option maxHeartbeats 1000000 in
theorem want_at (B : Nat) (c : Cur) (k : Int) (s : ByteArray) (w : World) (h : CurAt w B c) : Calls Try.prog 13 #[.pointer (some ⟨B, 0, none⟩), .int .i64 k, .string s] w (RetAt w B (want c k s)) := by
  have HI := Lib.hid (take_at B c k s w h)
  clear h
  by_cases hb : isB c k s = true
  · have HT : Hid (want c k s = take c k s) := Lib.hid (by unfold want take; rw [if_pos hb, if_pos hb])
    rw [hb] at HI
    clear hb
    go_enter Try.func13, Try.ntmps13
    go_wp2_with (go_at_call 11; (with_reducible refine HI.out.mono ?_))
    rintro e x2 ⟨rfl, hC2, hb2⟩
    have HE := Lib.hid (And.intro hC2 hb2)
    clear hC2 hb2
    go_wp2_with fail
    go_end0
    exact ⟨rfl, by rw [HT.out]; exact HE.out.1, HE.out.2⟩
  · have HT : Hid (want c k s = fail (take c k s) 2) := Lib.hid (by unfold want take; rw [if_neg hb, if_neg hb])
    have hb' : isB c k s = false := by simpa using hb
    rw [hb'] at HI
    clear hb hb'
    go_enter Try.func13, Try.ntmps13
    go_wp2_with (go_at_call 11; (with_reducible refine HI.out.mono ?_))
    rintro e x2 ⟨rfl, hC2, hb2⟩
    have HE := Lib.hid (And.intro hC2 hb2)
    clear hC2 hb2
    go_wp2_with (go_at_call 21; (with_reducible refine (fail_at _ _ _ _ HE.out.1).mono ?_))
    rintro e x3 ⟨rfl, hC3, hb3⟩
    have HE3 := Lib.hid (And.intro hC3 (but_trans HE.out.2 hb3))
    clear hC3 hb3
    go_wp2_with fail
    go_end0
    exact ⟨rfl, by rw [HT.out]; exact HE3.out.1, HE3.out.2⟩

theorem bad_of_kind {c : Cur} {k : Int} (h : (next c).k = k) (hk : k ≠ 0) : c.bad = 0 := by
  rcases Decidable.em (c.bad = 0) with h0 | h0
  · exact h0
  · rw [next_dead h0] at h
    exact absurd h.symm hk
theorem nis_say {s : ByteArray} {b : Bool} (hb : isName s.data.toList = b) (hs : s.size ≤ 9223372036854775807) (w : World) : Calls Try.prog 26 #[.string s] w (RetBool w b) := by
  subst hb
  exact is_any s w hs

set_option maxHeartbeats 1000000 in
theorem name_at (B : Nat) (c : Cur) (ok : Ok c) (w : World) (h : CurAt w B c) : Calls Try.prog 15 #[.pointer (some ⟨B, 0, none⟩)] w (RetAtS w B (nameC c) (nameS c)) := by
  have HN := Lib.hid (next_at B c w h)
  have HC := Lib.hid h
  clear h
  obtain ⟨t, ht⟩ : ∃ t, t = next c := ⟨_, rfl⟩
  have HI := Lib.hid (fun b hb W => nis_say (s := (next c).t) (b := b) hb ok.next W)
  rw [← ht] at HN HI
  by_cases h1 : t.k = 1
  · have e1 : (t.k != 1) = false := by simpa using h1
    by_cases h2 : isName t.t.data.toList = true
    · have hB : nameB c = true := nameB_yes (bad_of_kind (k := 1) (by rw [← ht]; exact h1) (by decide)) (by rw [← ht]; exact h1) (by rw [← ht]; exact h2)
      have HS : Hid (nameC c = on c ∧ nameS c = t.t) := Lib.hid (by unfold nameC nameS; rw [if_pos hB, if_pos hB, ht]; exact ⟨rfl, rfl⟩)
      have HI2 := Lib.hid (HI.out true h2)
      clear HI hB ht h1 h2
      go_enter Try.func15, Try.ntmps15
      go_wp2_with (go_at_call 7; (with_reducible refine HN.out.mono ?_))
      rintro e x2 ⟨rfl, hb2⟩
      have HB := Lib.hid hb2
      clear hb2
      go_wp2_with (go_at_call 26; (with_reducible refine (HI2.out _).mono ?_))
      rintro e x3 ⟨rfl, hb3⟩
      obtain ⟨k3, hB3, hz3⟩ := one_block hb3
      have HB3 := Lib.hid (below_two' HB.out hB3)
      have HK3 := Lib.hid k3
      obtain ⟨t0, t1, t2, t3⟩ := cells_4 k3
      clear hb3 hB3 k3
      go_wp2_with (go_at_call 24; (with_reducible refine (pass_at _ _ _ (HC.out.keep HB3.out)).mono ?_))
      rintro e x4 ⟨rfl, hC4, hb4⟩
      have k4 := (hb4.block _ (Array.getElem?_eq_some_iff.1 HK3.out).1 (by have := HC.out.lt; have := HB.out.size; simp; omega)).trans HK3.out
      clear t0 t1 t2 t3
      obtain ⟨t0, t1, t2, t3⟩ := cells_4 k4
      have HE := Lib.hid (And.intro hC4 (but_trans (but_below HB3.out) hb4))
      clear hC4 hb4 k4
      go_wp2_with fail
      go_ret
      exact ⟨by rw [HS.out.2]; rfl, by rw [HS.out.1]; exact HE.out.1, HE.out.2⟩
    · have h2' : isName t.t.data.toList = false := by simpa using h2
      have hB : nameB c = false := nameB_no2 (by rw [← ht]; exact h2')
      have HS : Hid (nameC c = fail c 2 ∧ nameS c = ⟨#[]⟩) := Lib.hid (by unfold nameC nameS; rw [hB]; exact ⟨rfl, rfl⟩)
      have HI2 := Lib.hid (HI.out false h2')
      clear HI hB ht h1 h2 h2'
      go_enter Try.func15, Try.ntmps15
      go_wp2_with (go_at_call 7; (with_reducible refine HN.out.mono ?_))
      rintro e x2 ⟨rfl, hb2⟩
      have HB := Lib.hid hb2
      clear hb2
      go_wp2_with (go_at_call 26; (with_reducible refine (HI2.out _).mono ?_))
      rintro e x3 ⟨rfl, hb3⟩
      obtain ⟨k3, hB3, hz3⟩ := one_block hb3
      have HB3 := Lib.hid (below_two' HB.out hB3)
      clear hb3 hB3 k3
      go_wp2_with (go_at_call 21; (with_reducible refine (fail_at _ _ _ _ (HC.out.keep HB3.out)).mono ?_))
      rintro e x4 ⟨rfl, hC4, hb4⟩
      have HE := Lib.hid (And.intro hC4 (but_trans (but_below HB3.out) hb4))
      clear hC4 hb4
      go_wp2_with fail
      go_ret
      exact ⟨by rw [HS.out.2]; rfl, by rw [HS.out.1]; exact HE.out.1, HE.out.2⟩
  · have e1 : (t.k != 1) = true := by simpa using h1
    have hB : nameB c = false := nameB_no1 (by rw [← ht]; exact h1)
    have HS : Hid (nameC c = fail c 2 ∧ nameS c = ⟨#[]⟩) := Lib.hid (by unfold nameC nameS; rw [hB]; exact ⟨rfl, rfl⟩)
    clear HI hB ht h1
    go_enter Try.func15, Try.ntmps15
    go_wp2_with (go_at_call 7; (with_reducible refine HN.out.mono ?_))
    rintro e x2 ⟨rfl, hb2⟩
    have HB := Lib.hid hb2
    clear hb2
    go_wp2_with (go_at_call 21; (with_reducible refine (fail_at _ _ _ _ ((HC.out.keep HB.out).alloc _)).mono ?_))
    rintro e x4 ⟨rfl, hC4, hb4⟩
    have HE := Lib.hid (And.intro hC4 (but_trans (but_below (HB.out.alloc HB.out.size _)) hb4))
    clear hC4 hb4
    go_wp2_with fail
    go_ret
    exact ⟨by rw [HS.out.2]; rfl, by rw [HS.out.1]; exact HE.out.1, HE.out.2⟩

/-- What number tells of a token. -/
def numR (k : Int) (l : List UInt8) (m : Int) : Int × Int := if k = 2 then (if getE l = 0 ∧ m < getN l then (0, 3) else (getN l, getE l)) else (0, 2)
def RetPair (W : World) (r : Int × Int) (e : Ending) (w' : World) : Prop := e = .returned (.tuple #[.int .i64 r.1, .int .i64 r.2]) ∧ Below W.heap.size W w'
theorem get_say {s : ByteArray} {n er : Int} (hn : getN s.data.toList = n) (he : getE s.data.toList = er) (hs : s.size ≤ 9223372036854775807) (w : World) : Calls Try.prog 34 #[.string s] w (RetGet w n er) := by
  subst hn he
  exact get_any s w hs
set_option maxHeartbeats 1000000 in
theorem pnum_any (k : Int) (s : ByteArray) (l c m : Int) (w : World) (hs : s.size ≤ 9223372036854775807) : Calls Try.prog 28 #[.agg #[.int .i64 k, .string s, .int .i64 l, .int .i64 c], .int .i64 m] w (RetPair w (numR k s.data.toList m)) := by
  by_cases hk : k = 2
  · have e1 : (k != 2) = false := by simpa using hk
    obtain ⟨N, hN⟩ : ∃ N, N = getN s.data.toList := ⟨_, rfl⟩
    obtain ⟨E, hE⟩ : ∃ E, E = getE s.data.toList := ⟨_, rfl⟩
    have HG := Lib.hid (fun W => get_say hN.symm hE.symm hs W)
    by_cases h2 : E = 0
    · by_cases h3 : m < N
      · have HV : Hid (numR k s.data.toList m = (0, 3)) := Lib.hid (by unfold numR; rw [if_pos hk, ← hN, ← hE, if_pos ⟨h2, h3⟩])
        have e2 : (E == 0) = true := by simpa using h2
        clear hN hE hk h2
        go_enter Try.func28, Try.ntmps28
        go_wp2_with (go_at_call 34; (with_reducible refine (HG.out _).mono ?_))
        rintro e w' ⟨rfl, rfl⟩
        go_wp2_with fail
        go_ret2
        exact ⟨by rw [HV.out]; rfl, (Below.refl _ _).alloc (Nat.le_refl _) _⟩
      · have HV : Hid (numR k s.data.toList m = (N, E)) := Lib.hid (by unfold numR; rw [if_pos hk, ← hN, ← hE, if_neg (fun h => h3 h.2)])
        have e2 : (E == 0) = true := by simpa using h2
        have e3 : decide (m < N) = false := by simpa using h3
        clear hN hE hk h2 h3
        go_enter Try.func28, Try.ntmps28
        go_wp2_with (go_at_call 34; (with_reducible refine (HG.out _).mono ?_))
        rintro e w' ⟨rfl, rfl⟩
        go_wp2_with fail
        go_ret2
        exact ⟨by rw [HV.out]; rfl, (Below.refl _ _).alloc (Nat.le_refl _) _⟩
    · have HV : Hid (numR k s.data.toList m = (N, E)) := Lib.hid (by unfold numR; rw [if_pos hk, ← hN, ← hE, if_neg (fun h => h2 h.1)])
      have e2 : (E == 0) = false := by simpa using h2
      clear hN hE hk h2
      go_enter Try.func28, Try.ntmps28
      go_wp2_with (go_at_call 34; (with_reducible refine (HG.out _).mono ?_))
      rintro e w' ⟨rfl, rfl⟩
      go_wp2_with fail
      go_ret2
      exact ⟨by rw [HV.out]; rfl, (Below.refl _ _).alloc (Nat.le_refl _) _⟩
  · have e1 : (k != 2) = true := by simpa using hk
    have HV : Hid (numR k s.data.toList m = (0, 2)) := Lib.hid (by unfold numR; rw [if_neg hk])
    clear hk
    go_enter Try.func28, Try.ntmps28
    go_wp2_with fail
    go_ret2
    exact ⟨by rw [HV.out]; rfl, (Below.refl _ _).alloc (Nat.le_refl _) _⟩
theorem numR_is (c : Cur) (m : Int) : (numR (next c).k (next c).t.data.toList m).2 = numE c m ∧ (numE c m = 0 → (numR (next c).k (next c).t.data.toList m).1 = numN c m) := by
  by_cases hk : (next c).k = 2
  · have h0 := bad_of_kind hk (by decide)
    by_cases hE : getE (next c).t.data.toList = 0
    · by_cases hm : m < getN (next c).t.data.toList
      · have e1 : numR (next c).k (next c).t.data.toList m = (0, 3) := by unfold numR; rw [if_pos hk, if_pos ⟨hE, hm⟩]
        rw [e1, numE_most h0 hk hE hm]
        exact ⟨rfl, fun h => absurd h (by decide)⟩
      · have e1 : numR (next c).k (next c).t.data.toList m = (getN (next c).t.data.toList, getE (next c).t.data.toList) := by unfold numR; rw [if_pos hk, if_neg (fun h => hm h.2)]
        have e2 := numE_good h0 hk hE hm
        rw [e1, e2]
        exact ⟨hE, fun _ => by unfold numN; rw [if_pos e2]⟩
    · have e1 : numR (next c).k (next c).t.data.toList m = (getN (next c).t.data.toList, getE (next c).t.data.toList) := by unfold numR; rw [if_pos hk, if_neg (fun h => hE h.1)]
      rw [e1, numE_get h0 hk hE]
      exact ⟨rfl, fun h => absurd h hE⟩
  · have e1 : numR (next c).k (next c).t.data.toList m = (0, 2) := if_neg hk
    rw [e1, numE_kind hk]
    exact ⟨rfl, fun h => absurd h (by decide)⟩

set_option maxHeartbeats 1000000 in
theorem number_at (B : Nat) (c : Cur) (m : Int) (ok : Ok c) (w : World) (h : CurAt w B c) : Calls Try.prog 17 #[.pointer (some ⟨B, 0, none⟩), .int .i64 m] w (RetAtN w B (numC c m) (numN c m)) := by
  have HN := Lib.hid (next_at B c w h)
  have HC := Lib.hid h
  clear h
  obtain ⟨v1, v2⟩ := numR_is c m
  have HP := Lib.hid (fun W => pnum_any (next c).k (next c).t (next c).l (next c).c m W ok.next)
  obtain ⟨t, ht⟩ : ∃ t, t = next c := ⟨_, rfl⟩
  rw [← ht] at HN HP v1 v2
  obtain ⟨N, E, hr⟩ : ∃ N E, numR t.k t.t.data.toList m = (N, E) := ⟨_, _, rfl⟩
  rw [hr] at HP v1 v2
  simp only at v1 v2
  clear hr ht
  by_cases hE : E = 0
  · have e1 : (E != 0) = false := by simpa using hE
    have HS : Hid (numC c m = on c ∧ N = numN c m) := Lib.hid ⟨by unfold numC; rw [if_pos (by rw [← v1]; exact hE)], v2 (by rw [← v1]; exact hE)⟩
    clear v1 v2 hE
    go_enter Try.func17, Try.ntmps17
    go_wp2_with (go_at_call 7; (with_reducible refine HN.out.mono ?_))
    rintro e x2 ⟨rfl, hb2⟩
    have HB := Lib.hid hb2
    clear hb2
    go_wp2_with (go_at_call 28; (with_reducible refine (HP.out _).mono ?_))
    rintro e x3 ⟨rfl, hb3⟩
    have HB3 := Lib.hid (below_two' HB.out hb3)
    clear hb3
    go_wp2_with (go_at_call 24; (with_reducible refine (pass_at _ _ _ (HC.out.keep HB3.out)).mono ?_))
    rintro e x4 ⟨rfl, hC4, hb4⟩
    have HE := Lib.hid (And.intro hC4 (but_trans (but_below HB3.out) hb4))
    clear hC4 hb4
    go_wp2_with fail
    go_ret
    exact ⟨ret_int HS.out.2, by rw [HS.out.1]; exact HE.out.1, HE.out.2⟩
  · have e1 : (E != 0) = true := by simpa using hE
    have HS : Hid (numC c m = fail c E ∧ (0 : Int) = numN c m) := Lib.hid (by
      obtain ⟨q1, q2⟩ := num_fail (m := m) v1.symm hE
      exact ⟨q1, q2.symm⟩)
    clear v1 v2 hE
    go_enter Try.func17, Try.ntmps17
    go_wp2_with (go_at_call 7; (with_reducible refine HN.out.mono ?_))
    rintro e x2 ⟨rfl, hb2⟩
    have HB := Lib.hid hb2
    clear hb2
    go_wp2_with (go_at_call 28; (with_reducible refine (HP.out _).mono ?_))
    rintro e x3 ⟨rfl, hb3⟩
    have HB3 := Lib.hid (below_two' HB.out hb3)
    clear hb3
    go_wp2_with (go_at_call 21; (with_reducible refine (fail_at _ _ _ _ (HC.out.keep HB3.out)).mono ?_))
    rintro e x4 ⟨rfl, hC4, hb4⟩
    have HE := Lib.hid (And.intro hC4 (but_trans (but_below HB3.out) hb4))
    clear hC4 hb4
    go_wp2_with fail
    go_ret
    exact ⟨ret_int HS.out.2, by rw [HS.out.1]; exact HE.out.1, HE.out.2⟩

set_option maxHeartbeats 1000000 in
theorem number_dead (p : Value) (a1 a2 er : Int) (hne : er ≠ 0) (w : World) (h : Fl w p a1 a2 er) (m : Int) : Calls Try.prog 17 #[p, .int .i64 m] w (RetInt w 0) := by
  have HG := Lib.hid (next_dead' p a1 a2 er hne w h)
  have HF := Lib.hid (fun W hW => fail_dead' p a1 a2 er hne W (h.keep hW) 2)
  have HP := Lib.hid (fun W => pnum_any 0 ⟨#[]⟩ 0 0 m W (by decide))
  clear h hne
  go_enter Try.func17, Try.ntmps17
  go_wp2_with (go_at_call 7; (with_reducible refine HG.out.mono ?_))
  rintro e x2 ⟨rfl, hb2⟩
  have HB := Lib.hid hb2
  clear hb2
  go_wp2_with (go_at_call 28; (with_reducible refine (HP.out _).mono ?_))
  rintro e x3 ⟨rfl, hb3⟩
  have HB3 := Lib.hid (below_two' HB.out hb3)
  clear hb3
  have hv : numR 0 (⟨#[]⟩ : ByteArray).data.toList m = (0, 2) := if_neg (by decide)
  rw [hv]
  clear hv
  go_wp2_with (go_at_call 21; (with_reducible refine (HF.out _ HB3.out).mono ?_))
  rintro e x4 ⟨rfl, hb4⟩
  have HB4 := Lib.hid (below_two' HB3.out hb4)
  clear hb4
  go_wp2_with fail
  go_ret
  exact ⟨rfl, HB4.out⟩
end Go.Proofs.Ytoegpieomnpifaa
