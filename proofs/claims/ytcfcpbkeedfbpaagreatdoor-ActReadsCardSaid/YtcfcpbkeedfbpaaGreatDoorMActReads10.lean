/- CurCalls, ExprRdr, ExprSigns, ValPut, ExprText, ActTextSpec, joined. -/
import Derived.Test.YtcfcpbkeedfbpaaGreatDoorMActReads08
import Derived.Test.YtcfcpbkeedfbpaaGreatDoorMActReads09
import Derived.Test.YtcfcpbkeedfbpaaGreatDoorMActReads02
import Derived.Test.YtcfcpbkeedfbpaaGreatDoorMActReads07
import Derived.Laws.Rows
import Derived.Deep.RegionLaw
import Derived.Deep.RegionHeld3
import Derived.Test.YtcfcpbkeedfbpaaGreatDoorMActReads01
import Derived.Lib.Join
namespace Go.Proofs.YtcfcpbkeedfbpaaGreatDoor
open Go.RowKit CurSpec NamesSpec ValSpec
set_option maxRecDepth 100000

def RetAtB (W : World) (B : Nat) (c : Cur) (b : Bool) (e : Ending) (w' : World) : Prop := e = .returned (.bool b) ∧ CurAt w' B c ∧ W.grownBy w' (some B)
def RetAtS (W : World) (B : Nat) (c : Cur) (s : ByteArray) (e : Ending) (w' : World) : Prop := e = .returned (.string s) ∧ CurAt w' B c ∧ W.grownBy w' (some B)
def RetAtN (W : World) (B : Nat) (c : Cur) (n : Int) (e : Ending) (w' : World) : Prop := e = .returned (.int .i64 n) ∧ CurAt w' B c ∧ W.grownBy w' (some B)

set_option maxHeartbeats 1000000 in
theorem take_at (B : Nat) (c : Cur) (k : Int) (s : ByteArray) (w : World) (h : CurAt w B c) : Calls Tryz.prog 34 #[.pointer (some ⟨B, 0, none⟩), .int .i64 k, .string s] w (RetAtB w B (take c k s) (isB c k s)) := by
  have HI := Lib.hid (is_at B c k s w h)
  have HC := Lib.hid h
  clear h
  by_cases hb : isB c k s = true
  · have HT : Hid (take c k s = on c) := Lib.hid (by unfold take; rw [if_pos hb])
    rw [hb] at HI ⊢
    clear hb
    go_enter Tryz.func34, Tryz.ntmps34
    go_wp2_with (go_at_call 65; (with_reducible refine HI.out.mono ?_))
    rintro e x2 ⟨rfl, hb2⟩
    have HB := Lib.hid hb2
    clear hb2
    go_wp2_with (go_at_call 66; (with_reducible refine (pass_at _ _ _ (HC.out.keep HB.out)).mono ?_))
    rintro e x3 ⟨rfl, hC3, hb3⟩
    have HE := Lib.hid (And.intro hC3 (but_trans (but_below HB.out) hb3))
    clear hC3 hb3
    go_wp2_with fail
    go_ret
    exact ⟨rfl, by rw [HT.out]; exact HE.out.1, HE.out.2⟩
  · have HT : Hid (take c k s = c) := Lib.hid (by unfold take; rw [if_neg hb])
    have hb' : isB c k s = false := by simpa using hb
    rw [hb'] at HI ⊢
    clear hb hb'
    go_enter Tryz.func34, Tryz.ntmps34
    go_wp2_with (go_at_call 65; (with_reducible refine HI.out.mono ?_))
    rintro e x2 ⟨rfl, hb2⟩
    have HB := Lib.hid hb2
    clear hb2
    go_wp2_with fail
    go_ret
    exact ⟨rfl, by rw [HT.out]; exact HC.out.keep HB.out, but_below HB.out⟩

set_option maxHeartbeats 1000000 in
theorem want_at (B : Nat) (c : Cur) (k : Int) (s : ByteArray) (w : World) (h : CurAt w B c) : Calls Tryz.prog 63 #[.pointer (some ⟨B, 0, none⟩), .int .i64 k, .string s] w (RetAt w B (want c k s)) := by
  have HI := Lib.hid (take_at B c k s w h)
  clear h
  by_cases hb : isB c k s = true
  · have HT : Hid (want c k s = take c k s) := Lib.hid (by unfold want take; rw [if_pos hb, if_pos hb])
    rw [hb] at HI
    clear hb
    go_enter Tryz.func63, Tryz.ntmps63
    go_wp2_with (go_at_call 34; (with_reducible refine HI.out.mono ?_))
    rintro e x2 ⟨rfl, hC2, hb2⟩
    have HE := Lib.hid (And.intro hC2 hb2)
    clear hC2 hb2
    go_wp2_with fail
    go_end0
    exact ⟨rfl, by rw [HT.out]; exact HE.out.1, HE.out.2⟩
  · have HT : Hid (want c k s = fail (take c k s) 2) := Lib.hid (by unfold want take; rw [if_neg hb, if_neg hb])
    have hb' : isB c k s = false := by simpa using hb
    rw [hb'] at HI
    clear hb hb'
    go_enter Tryz.func63, Tryz.ntmps63
    go_wp2_with (go_at_call 34; (with_reducible refine HI.out.mono ?_))
    rintro e x2 ⟨rfl, hC2, hb2⟩
    have HE := Lib.hid (And.intro hC2 hb2)
    clear hC2 hb2
    go_wp2_with (go_at_call 35; (with_reducible refine (fail_at _ _ _ _ HE.out.1).mono ?_))
    rintro e x3 ⟨rfl, hC3, hb3⟩
    have HE3 := Lib.hid (And.intro hC3 (but_trans HE.out.2 hb3))
    clear hC3 hb3
    go_wp2_with fail
    go_end0
    exact ⟨rfl, by rw [HT.out]; exact HE3.out.1, HE3.out.2⟩

theorem bad_of_kind {c : Cur} {k : Int} (h : (next c).k = k) (hk : k ≠ 0) : c.bad = 0 := by
  rcases Decidable.em (c.bad = 0) with h0 | h0
  · exact h0
  · rw [next_dead h0] at h
    exact absurd h.symm hk
theorem nis_say {s : ByteArray} {b : Bool} (hb : isName s.data.toList = b) (hs : s.size ≤ 9223372036854775807) (w : World) : Calls Tryz.prog 53 #[.string s] w (RetBool w b) := by
  subst hb
  exact is_any s w hs

set_option maxHeartbeats 1000000 in
theorem name_at (B : Nat) (c : Cur) (ok : Ok c) (w : World) (h : CurAt w B c) : Calls Tryz.prog 62 #[.pointer (some ⟨B, 0, none⟩)] w (RetAtS w B (nameC c) (nameS c)) := by
  have HN := Lib.hid (next_at B c w h)
  have HC := Lib.hid h
  clear h
  obtain ⟨t, ht⟩ : ∃ t, t = next c := ⟨_, rfl⟩
  have HI := Lib.hid (fun b hb W => nis_say (s := (next c).t) (b := b) hb ok.next W)
  rw [← ht] at HN HI
  by_cases h1 : t.k = 1
  · have e1 : (t.k != 1) = false := by simpa using h1
    by_cases h2 : isName t.t.data.toList = true
    · have hB : nameB c = true := nameB_yes (bad_of_kind (k := 1) (by rw [← ht]; exact h1) (by decide)) (by rw [← ht]; exact h1) (by rw [← ht]; exact h2)
      have HS : Hid (nameC c = on c ∧ nameS c = t.t) := Lib.hid (by unfold nameC nameS; rw [if_pos hB, if_pos hB, ht]; exact ⟨rfl, rfl⟩)
      have HI2 := Lib.hid (HI.out true h2)
      clear HI hB ht h1 h2
      go_enter Tryz.func62, Tryz.ntmps62
      go_wp2_with (go_at_call 17; (with_reducible refine HN.out.mono ?_))
      rintro e x2 ⟨rfl, hb2⟩
      have HB := Lib.hid hb2
      clear hb2
      go_wp2_with (go_at_call 53; (with_reducible refine (HI2.out _).mono ?_))
      rintro e x3 ⟨rfl, hb3⟩
      obtain ⟨k3, hB3, hz3⟩ := one_block hb3
      have HB3 := Lib.hid (below_two' HB.out hB3)
      have HK3 := Lib.hid k3
      obtain ⟨t0, t1, t2, t3⟩ := cells_4 k3
      clear hb3 hB3 k3
      go_wp2_with (go_at_call 66; (with_reducible refine (pass_at _ _ _ (HC.out.keep HB3.out)).mono ?_))
      rintro e x4 ⟨rfl, hC4, hb4⟩
      have k4 := (hb4.block _ (Array.getElem?_eq_some_iff.1 HK3.out).1 (by have := HC.out.lt; have := HB.out.size; simp; omega)).trans HK3.out
      clear t0 t1 t2 t3
      obtain ⟨t0, t1, t2, t3⟩ := cells_4 k4
      have HE := Lib.hid (And.intro hC4 (but_trans (but_below HB3.out) hb4))
      clear hC4 hb4 k4
      go_wp2_with fail
      go_ret
      exact ⟨by rw [HS.out.2]; rfl, by rw [HS.out.1]; exact HE.out.1, HE.out.2⟩
    · have h2' : isName t.t.data.toList = false := by simpa using h2
      have hB : nameB c = false := nameB_no2 (by rw [← ht]; exact h2')
      have HS : Hid (nameC c = fail c 2 ∧ nameS c = ⟨#[]⟩) := Lib.hid (by unfold nameC nameS; rw [hB]; exact ⟨rfl, rfl⟩)
      have HI2 := Lib.hid (HI.out false h2')
      clear HI hB ht h1 h2 h2'
      go_enter Tryz.func62, Tryz.ntmps62
      go_wp2_with (go_at_call 17; (with_reducible refine HN.out.mono ?_))
      rintro e x2 ⟨rfl, hb2⟩
      have HB := Lib.hid hb2
      clear hb2
      go_wp2_with (go_at_call 53; (with_reducible refine (HI2.out _).mono ?_))
      rintro e x3 ⟨rfl, hb3⟩
      obtain ⟨k3, hB3, hz3⟩ := one_block hb3
      have HB3 := Lib.hid (below_two' HB.out hB3)
      clear hb3 hB3 k3
      go_wp2_with (go_at_call 35; (with_reducible refine (fail_at _ _ _ _ (HC.out.keep HB3.out)).mono ?_))
      rintro e x4 ⟨rfl, hC4, hb4⟩
      have HE := Lib.hid (And.intro hC4 (but_trans (but_below HB3.out) hb4))
      clear hC4 hb4
      go_wp2_with fail
      go_ret
      exact ⟨by rw [HS.out.2]; rfl, by rw [HS.out.1]; exact HE.out.1, HE.out.2⟩
  · have e1 : (t.k != 1) = true := by simpa using h1
    have hB : nameB c = false := nameB_no1 (by rw [← ht]; exact h1)
    have HS : Hid (nameC c = fail c 2 ∧ nameS c = ⟨#[]⟩) := Lib.hid (by unfold nameC nameS; rw [hB]; exact ⟨rfl, rfl⟩)
    clear HI hB ht h1
    go_enter Tryz.func62, Tryz.ntmps62
    go_wp2_with (go_at_call 17; (with_reducible refine HN.out.mono ?_))
    rintro e x2 ⟨rfl, hb2⟩
    have HB := Lib.hid hb2
    clear hb2
    go_wp2_with (go_at_call 35; (with_reducible refine (fail_at _ _ _ _ ((HC.out.keep HB.out).alloc _)).mono ?_))
    rintro e x4 ⟨rfl, hC4, hb4⟩
    have HE := Lib.hid (And.intro hC4 (but_trans (but_below (HB.out.alloc HB.out.size _)) hb4))
    clear hC4 hb4
    go_wp2_with fail
    go_ret
    exact ⟨by rw [HS.out.2]; rfl, by rw [HS.out.1]; exact HE.out.1, HE.out.2⟩

/-- What number tells of a token. -/
def numR (k : Int) (l : List UInt8) (m : Int) : Int × Int := if k = 2 then (if getE l = 0 ∧ m < getN l then (0, 3) else (getN l, getE l)) else (0, 2)
def RetPair (W : World) (r : Int × Int) (e : Ending) (w' : World) : Prop := e = .returned (.tuple #[.int .i64 r.1, .int .i64 r.2]) ∧ Below W.heap.size W w'
theorem get_say {s : ByteArray} {n er : Int} (hn : getN s.data.toList = n) (he : getE s.data.toList = er) (hs : s.size ≤ 9223372036854775807) (w : World) : Calls Tryz.prog 186 #[.string s] w (RetGet w n er) := by
  subst hn he
  exact get_any s w hs
set_option maxHeartbeats 1000000 in
theorem pnum_any (k : Int) (s : ByteArray) (l c m : Int) (w : World) (hs : s.size ≤ 9223372036854775807) : Calls Tryz.prog 183 #[.agg #[.int .i64 k, .string s, .int .i64 l, .int .i64 c], .int .i64 m] w (RetPair w (numR k s.data.toList m)) := by
  by_cases hk : k = 2
  · have e1 : (k != 2) = false := by simpa using hk
    obtain ⟨N, hN⟩ : ∃ N, N = getN s.data.toList := ⟨_, rfl⟩
    obtain ⟨E, hE⟩ : ∃ E, E = getE s.data.toList := ⟨_, rfl⟩
    have HG := Lib.hid (fun W => get_say hN.symm hE.symm hs W)
    by_cases h2 : E = 0
    · by_cases h3 : m < N
      · have HV : Hid (numR k s.data.toList m = (0, 3)) := Lib.hid (by unfold numR; rw [if_pos hk, ← hN, ← hE, if_pos ⟨h2, h3⟩])
        have e2 : (E == 0) = true := by simpa using h2
        clear hN hE hk h2
        go_enter Tryz.func183, Tryz.ntmps183
        go_wp2_with (go_at_call 186; (with_reducible refine (HG.out _).mono ?_))
        rintro e w' ⟨rfl, rfl⟩
        go_wp2_with fail
        go_ret2
        exact ⟨by rw [HV.out]; rfl, (Below.refl _ _).alloc (Nat.le_refl _) _⟩
      · have HV : Hid (numR k s.data.toList m = (N, E)) := Lib.hid (by unfold numR; rw [if_pos hk, ← hN, ← hE, if_neg (fun h => h3 h.2)])
        have e2 : (E == 0) = true := by simpa using h2
        have e3 : decide (m < N) = false := by simpa using h3
        clear hN hE hk h2 h3
        go_enter Tryz.func183, Tryz.ntmps183
        go_wp2_with (go_at_call 186; (with_reducible refine (HG.out _).mono ?_))
        rintro e w' ⟨rfl, rfl⟩
        go_wp2_with fail
        go_ret2
        exact ⟨by rw [HV.out]; rfl, (Below.refl _ _).alloc (Nat.le_refl _) _⟩
    · have HV : Hid (numR k s.data.toList m = (N, E)) := Lib.hid (by unfold numR; rw [if_pos hk, ← hN, ← hE, if_neg (fun h => h2 h.1)])
      have e2 : (E == 0) = false := by simpa using h2
      clear hN hE hk h2
      go_enter Tryz.func183, Tryz.ntmps183
      go_wp2_with (go_at_call 186; (with_reducible refine (HG.out _).mono ?_))
      rintro e w' ⟨rfl, rfl⟩
      go_wp2_with fail
      go_ret2
      exact ⟨by rw [HV.out]; rfl, (Below.refl _ _).alloc (Nat.le_refl _) _⟩
  · have e1 : (k != 2) = true := by simpa using hk
    have HV : Hid (numR k s.data.toList m = (0, 2)) := Lib.hid (by unfold numR; rw [if_neg hk])
    clear hk
    go_enter Tryz.func183, Tryz.ntmps183
    go_wp2_with fail
    go_ret2
    exact ⟨by rw [HV.out]; rfl, (Below.refl _ _).alloc (Nat.le_refl _) _⟩
theorem numR_is (c : Cur) (m : Int) : (numR (next c).k (next c).t.data.toList m).2 = numE c m ∧ (numE c m = 0 → (numR (next c).k (next c).t.data.toList m).1 = numN c m) := by
  by_cases hk : (next c).k = 2
  · have h0 := bad_of_kind hk (by decide)
    by_cases hE : getE (next c).t.data.toList = 0
    · by_cases hm : m < getN (next c).t.data.toList
      · have e1 : numR (next c).k (next c).t.data.toList m = (0, 3) := by unfold numR; rw [if_pos hk, if_pos ⟨hE, hm⟩]
        rw [e1, numE_most h0 hk hE hm]
        exact ⟨rfl, fun h => absurd h (by decide)⟩
      · have e1 : numR (next c).k (next c).t.data.toList m = (getN (next c).t.data.toList, getE (next c).t.data.toList) := by unfold numR; rw [if_pos hk, if_neg (fun h => hm h.2)]
        have e2 := numE_good h0 hk hE hm
        rw [e1, e2]
        exact ⟨hE, fun _ => by unfold numN; rw [if_pos e2]⟩
    · have e1 : numR (next c).k (next c).t.data.toList m = (getN (next c).t.data.toList, getE (next c).t.data.toList) := by unfold numR; rw [if_pos hk, if_neg (fun h => hE h.1)]
      rw [e1, numE_get h0 hk hE]
      exact ⟨rfl, fun h => absurd h hE⟩
  · have e1 : numR (next c).k (next c).t.data.toList m = (0, 2) := if_neg hk
    rw [e1, numE_kind hk]
    exact ⟨rfl, fun h => absurd h (by decide)⟩

set_option maxHeartbeats 1000000 in
theorem number_at (B : Nat) (c : Cur) (m : Int) (ok : Ok c) (w : World) (h : CurAt w B c) : Calls Tryz.prog 171 #[.pointer (some ⟨B, 0, none⟩), .int .i64 m] w (RetAtN w B (numC c m) (numN c m)) := by
  have HN := Lib.hid (next_at B c w h)
  have HC := Lib.hid h
  clear h
  obtain ⟨v1, v2⟩ := numR_is c m
  have HP := Lib.hid (fun W => pnum_any (next c).k (next c).t (next c).l (next c).c m W ok.next)
  obtain ⟨t, ht⟩ : ∃ t, t = next c := ⟨_, rfl⟩
  rw [← ht] at HN HP v1 v2
  obtain ⟨N, E, hr⟩ : ∃ N E, numR t.k t.t.data.toList m = (N, E) := ⟨_, _, rfl⟩
  rw [hr] at HP v1 v2
  simp only at v1 v2
  clear hr ht
  by_cases hE : E = 0
  · have e1 : (E != 0) = false := by simpa using hE
    have HS : Hid (numC c m = on c ∧ N = numN c m) := Lib.hid ⟨by unfold numC; rw [if_pos (by rw [← v1]; exact hE)], v2 (by rw [← v1]; exact hE)⟩
    clear v1 v2 hE
    go_enter Tryz.func171, Tryz.ntmps171
    go_wp2_with (go_at_call 17; (with_reducible refine HN.out.mono ?_))
    rintro e x2 ⟨rfl, hb2⟩
    have HB := Lib.hid hb2
    clear hb2
    go_wp2_with (go_at_call 183; (with_reducible refine (HP.out _).mono ?_))
    rintro e x3 ⟨rfl, hb3⟩
    have HB3 := Lib.hid (below_two' HB.out hb3)
    clear hb3
    go_wp2_with (go_at_call 66; (with_reducible refine (pass_at _ _ _ (HC.out.keep HB3.out)).mono ?_))
    rintro e x4 ⟨rfl, hC4, hb4⟩
    have HE := Lib.hid (And.intro hC4 (but_trans (but_below HB3.out) hb4))
    clear hC4 hb4
    go_wp2_with fail
    go_ret
    exact ⟨ret_int HS.out.2, by rw [HS.out.1]; exact HE.out.1, HE.out.2⟩
  · have e1 : (E != 0) = true := by simpa using hE
    have HS : Hid (numC c m = fail c E ∧ (0 : Int) = numN c m) := Lib.hid (by
      obtain ⟨q1, q2⟩ := num_fail (m := m) v1.symm hE
      exact ⟨q1, q2.symm⟩)
    clear v1 v2 hE
    go_enter Tryz.func171, Tryz.ntmps171
    go_wp2_with (go_at_call 17; (with_reducible refine HN.out.mono ?_))
    rintro e x2 ⟨rfl, hb2⟩
    have HB := Lib.hid hb2
    clear hb2
    go_wp2_with (go_at_call 183; (with_reducible refine (HP.out _).mono ?_))
    rintro e x3 ⟨rfl, hb3⟩
    have HB3 := Lib.hid (below_two' HB.out hb3)
    clear hb3
    go_wp2_with (go_at_call 35; (with_reducible refine (fail_at _ _ _ _ (HC.out.keep HB3.out)).mono ?_))
    rintro e x4 ⟨rfl, hC4, hb4⟩
    have HE := Lib.hid (And.intro hC4 (but_trans (but_below HB3.out) hb4))
    clear hC4 hb4
    go_wp2_with fail
    go_ret
    exact ⟨ret_int HS.out.2, by rw [HS.out.1]; exact HE.out.1, HE.out.2⟩

end Go.Proofs.YtcfcpbkeedfbpaaGreatDoor

namespace Go.Proofs.YtcfcpbkeedfbpaaGreatDoor
open Go.RowKit CurSpec TermSpec ExprSpec
set_option maxRecDepth 100000

theorem CurAt.upto {w w' : World} {B : Nat} {c : Cur} (h : CurAt w B c) (hs : w.heap.size ≤ w'.heap.size) (hk : ∀ i, i ≤ B → w'.heap[i]? = w.heap[i]?) : CurAt w' B c := by
  obtain ⟨b, off, n, cp, h, hlt, hn, m, hm, A, c', heq, hc, hl, hA⟩ := h
  refine ⟨b, off, n, cp, (hk B (Nat.le_refl _)).trans h, hlt, hn, m, hm, A, c', heq, hc, hl, fun h0 => ?_⟩
  obtain ⟨b', off', h1, hlt', hcell⟩ := hA h0
  subst h1
  cases heq
  refine ⟨b, off, rfl, by omega, fun j u hj => ?_⟩
  rw [← hcell j u hj]
  simp [World.cell?, hk b (by omega)]

/-- The reader in block R: the cursor in block B, the terms in a row of its own. -/
structure RdAt (w : World) (R B : Nat) (v : Value) (c : Cur) (l : List Tm) : Prop where
  cur : CurAt w B c
  blk : w.heap[R]? = some (.cells #[.pointer (some ⟨B, 0, none⟩), v] 147 (0, 0))
  own : w.ownsRow (R + 1) 68 3 v l.length (tmsV l)
  lt : B < R
  few : l.length ≤ 41
  small : Small l
/-- What a call leaves: nothing is changed but the cursor, the reader, and the row; new blocks may have come. -/
structure Hold (R B : Nat) (v v' : Value) (w w' : World) : Prop where
  os : w'.os = w.os
  tape : w'.tape = w.tape
  output : w'.output = w.output
  size : w.heap.size ≤ w'.heap.size
  block : ∀ i, i < w.heap.size → i ≠ B → i ≠ R → v.ownBlock ≠ some i → w'.heap[i]? = w.heap[i]?
  row : v'.ownBlock = v.ownBlock ∨ ∀ j, v'.ownBlock = some j → w.heap.size ≤ j
theorem Hold.refl (R B : Nat) (v : Value) (w : World) : Hold R B v v w w := ⟨rfl, rfl, rfl, Nat.le_refl _, fun _ _ _ _ _ => rfl, .inl rfl⟩
theorem Hold.trans {R B : Nat} {v v' v2 : Value} {w w' w2 : World} (h : Hold R B v v' w w') (k : Hold R B v' v2 w' w2) : Hold R B v v2 w w2 := by
  refine ⟨k.os.trans h.os, k.tape.trans h.tape, k.output.trans h.output, Nat.le_trans h.size k.size, fun i hi h1 h2 h3 => ?_, ?_⟩
  · refine (k.block i (Nat.lt_of_lt_of_le hi h.size) h1 h2 ?_).trans (h.block i hi h1 h2 h3)
    rcases h.row with hr | hr
    · rw [hr]; exact h3
    · intro e; have := hr i e; omega
  · rcases k.row with hk | hk
    · rcases h.row with hr | hr
      · exact .inl (hk.trans hr)
      · exact .inr (fun j hj => hr j (by rw [← hk]; exact hj))
    · exact .inr (fun j hj => Nat.le_trans h.size (hk j hj))
theorem Hold.of_but {R B : Nat} {w w' : World} (v : Value) (h : w.grownBy w' (some B)) : Hold R B v v w w' :=
  ⟨h.os, h.tape, h.output, h.size, fun i hi h1 _ _ => h.block i hi (by simpa using h1), .inl rfl⟩
theorem Hold.of_below {R B : Nat} {w w' : World} (v : Value) (h : Below w.heap.size w w') : Hold R B v v w w' := Hold.of_but v (but_below h)
theorem Hold.apart {R B : Nat} {v v' : Value} {w w' : World} (h : Hold R B v v' w w') {i : Nat} (hi : i < w.heap.size) (hne : v.ownBlock ≠ some i) : v'.ownBlock ≠ some i := by
  rcases h.row with hr | hr
  · rw [hr]; exact hne
  · intro e; have := hr i e; omega
theorem RdAt.lt' {w : World} {R B : Nat} {v : Value} {c : Cur} {l : List Tm} (h : RdAt w R B v c l) : R < w.heap.size := (Array.getElem?_eq_some_iff.1 h.blk).1
theorem RdAt.apart {w : World} {R B : Nat} {v : Value} {c : Cur} {l : List Tm} (h : RdAt w R B v c l) {i : Nat} (hi : w.heap.size ≤ i) : i ≠ B ∧ i ≠ R ∧ v.ownBlock ≠ some i := by
  have h1 := h.lt'
  have h2 := h.lt
  refine ⟨by omega, by omega, fun e => ?_⟩
  have := (own_block_bd h.own i e).2
  omega
theorem RdAt.keep {w w' : World} {R B : Nat} {v : Value} {c : Cur} {l : List Tm} (h : RdAt w R B v c l) (hb : Below w.heap.size w w') : RdAt w' R B v c l :=
  ⟨h.cur.keep hb, block_on h.blk hb, own_keep h.own hb, h.lt, h.few, h.small⟩
theorem RdAt.but {w w' : World} {R B : Nat} {v : Value} {c c' : Cur} {l : List Tm} (h : RdAt w R B v c l) (hb : w.grownBy w' (some B)) (hc : CurAt w' B c') : RdAt w' R B v c' l :=
  ⟨hc, (hb.block R h.lt' (by have := h.lt; simp; omega)).trans h.blk, own_but h.own hb (by have := h.lt; omega), h.lt, h.few, h.small⟩
theorem RdAt.alloc {w : World} {R B : Nat} {v : Value} {c : Cur} {l : List Tm} (h : RdAt w R B v c l) (o : Obj) : RdAt (w.alloc o) R B v c l := h.keep ((Below.refl _ _).alloc (Nat.le_refl _) _)
theorem RdAt.drew {w : World} {R B : Nat} {v : Value} {c : Cur} {l : List Tm} (h : RdAt w R B v c l) : RdAt w.drew R B v c l := ⟨h.cur.drew, h.blk, h.own, h.lt, h.few, h.small⟩

def RetRd (W : World) (R B : Nat) (v : Value) (c : Cur) (l : List Tm) (e : Ending) (w' : World) : Prop := ∃ v', e = .returned (.tuple #[]) ∧ RdAt w' R B v' c l ∧ Hold R B v v' W w'

/-- A term put in, where there is room for one more. -/
def ins (l : List Tm) (i : Nat) (t : Tm) : List Tm := if l.length ≤ 40 then l.take i ++ t :: l.drop i else l
theorem hold_ins {w w1 x : World} {R B : Nat} {v v' : Value} {c : Cur} {l : List Tm} {i : Nat} {t : Tm} {n : Nat} (h : RdAt w R B v c l) (hn : n = l.length) (h40 : n ≤ 40) (ht : t.s.size ≤ 9223372036854775807) (hb : Below w.heap.size w w1)
    (hown : x.ownsRow (R + 1) 68 3 v' (n + 1) (tmsV (l.take i ++ t :: l.drop i))) (hg : w1.grownBy x v.ownBlock) (hr : v'.ownBlock = v.ownBlock ∨ v'.ownBlock = some w1.heap.size) :
    RdAt (x.setCell ⟨R, 1, none⟩ v') R B v' c (ins l i t) ∧ Hold R B v v' w (x.setCell ⟨R, 1, none⟩ v') ∧ x.heap[R]? = some (.cells #[.pointer (some ⟨B, 0, none⟩), v] 147 (0, 0)) := by
  have hRlt := h.lt'
  have hBR := h.lt
  have hz1 := hb.size
  have hz2 := hg.size
  have hap : ∀ j, j ≤ R → v.ownBlock ≠ some j := fun j hj e => by have := (own_block_bd h.own j e).1; omega
  have hold : ∀ j, j < w.heap.size → v.ownBlock ≠ some j → x.heap[j]? = w.heap[j]? := fun j hj hne => (hg.block j (by omega) (fun e => hne e.symm)).trans (hb.block j hj)
  have hxR := (hold R hRlt (hap R (Nat.le_refl _))).trans h.blk
  have hlen : (l.take i ++ t :: l.drop i).length = n + 1 := by
    simp only [List.length_append, List.length_take, List.length_cons, List.length_drop]; omega
  have hins : ins l i t = l.take i ++ t :: l.drop i := if_pos (by omega)
  have hset : ∀ j, j ≠ R → (x.setCell ⟨R, 1, none⟩ v').heap[j]? = x.heap[j]? := fun j hj => Below.heap_setCell _ _ _ _ hj
  have hown' : (x.setCell ⟨R, 1, none⟩ v').ownsRow (R + 1) 68 3 v' (n + 1) (tmsV (l.take i ++ t :: l.drop i)) :=
    own_but hown (B := R) (but_set (but_refl _ _) 1 _) (by omega)
  refine ⟨⟨?_, block_setCell' hxR 1 v', by rw [hins, hlen]; exact hown', h.lt, by rw [hins, hlen]; omega, ?_⟩, ⟨?_, ?_, ?_, ?_, fun j hj h1 h2 h3 => (hset j h2).trans (hold j hj h3), ?_⟩, hxR⟩
  rotate_left
  · rw [hins]
    intro u hu
    rcases List.mem_append.1 hu with hu | hu
    · exact h.small u (List.mem_of_mem_take hu)
    · rcases List.mem_cons.1 hu with rfl | hu
      · exact ht
      · exact h.small u (List.mem_of_mem_drop hu)
  rotate_right
  · refine h.cur.upto (by simp [World.setCell]; omega) (fun j hj => (hset j (by omega)).trans (hold j (by omega) (hap j (by omega))))
  · exact hg.os.trans hb.os
  · exact hg.tape.trans hb.tape
  · exact hg.output.trans hb.output
  · simp [World.setCell]; omega
  · rcases hr with hr | hr
    · exact .inl hr
    · exact .inr (fun j hj => by rw [hr] at hj; cases hj; omega)

abbrev tmO (t : Tm) : Obj := .cells #[.int .i64 t.op, .int .i64 t.n, .string t.s] 68
set_option maxHeartbeats 4000000 in
theorem insert_at (R B : Nat) (v : Value) (c : Cur) (l : List Tm) (i : Nat) (t : Tm) (w : World) (h : RdAt w R B v c l) (hi : i ≤ l.length) (ht : t.s.size ≤ 9223372036854775807) :
    Calls Tryz.prog 134 #[.pointer (some ⟨R, 0, none⟩), .int .i64 i, .agg #[.int .i64 t.op, .int .i64 t.n, .string t.s]] w (RetRd w R B v c (ins l i t)) := by
  obtain ⟨A, cp, rfl⟩ := own_shape h.own
  obtain ⟨n, hn⟩ : ∃ n, n = l.length := ⟨_, rfl⟩
  have HR := Lib.hid (h.alloc (tmO t)).blk
  obtain ⟨r0, r1⟩ := cells_2 HR.out
  obtain ⟨_, r2⟩ := cells_2 ((h.alloc (tmO t)).alloc (tmO t)).blk
  rw [← hn] at r1 r2 hi ⊢
  obtain ⟨b0, b1, b2⟩ := cells_3 (heap_alloc_new w (tmO t))
  by_cases h40 : n ≤ 40
  · have hI : (n : Int) ≤ 40 := by omega
    have h41 : n < 41 := by omega
    have HINS : Hid (Calls Tryz.prog 159 #[.slice A n cp, .int .i64 i, .slice (some ⟨w.heap.size + 1, 0, none⟩) 1 1] (((w.alloc (tmO t)).alloc (tmO t)).drew) (InsPost (((w.alloc (tmO t)).alloc (tmO t)).drew) (R + 1) (.slice A n cp) (n + 1) (l.take i ++ t :: l.drop i))) := Lib.hid (by
      have h2 := ((h.alloc (tmO t)).alloc (tmO t)).drew
      have ho := h2.own
      rw [← hn] at ho
      refine insert_any (R + 1) _ n i l t (w.heap.size + 1) _ hn (by omega) hi ho (by have := h2.lt'; omega) ?_ ?_
      · have := heap_alloc_new (w.alloc (tmO t)) (tmO t)
        rwa [World.size_alloc] at this
      · have := (h.apart (i := w.heap.size + 1) (by omega)).2.2
        rw [← hn] at this
        exact this)
    have HH := Lib.hid h
    have HTS := Lib.hid ht
    have HN := Lib.hid hn
    have HB : Hid (Below w.heap.size w (((w.alloc (tmO t)).alloc (tmO t)).drew)) := Lib.hid (((Below.refl _ _).alloc (Nat.le_refl _) _).alloc (by simp) _).drew
    clear h hn ht
    go_enter Tryz.func134, Tryz.ntmps134
    go_wp2_with fail
    go_region_law (go_simp; go_at_call 159; (with_reducible refine HINS.out.mono ?_); rintro e x ⟨v', he, hown', hgr', hrow'⟩; obtain ⟨A2, cp2, rfl⟩ := own_shape hown'; subst he; (have HE := Lib.hid (hold_ins HH.out HN.out h40 HTS.out HB.out hown' (by rw [← HN.out]; exact hgr') (by rw [← HN.out]; exact hrow'))); clear hown' hgr' hrow'; obtain ⟨s0, s1⟩ := cells_2 HE.out.2.2; obtain ⟨f0, f1⟩ := free_2 HE.out.2.2)
    all_goals
      go_wp2_with fail
      go_end0
      have hnl := HN.out
      subst hnl
      exact ⟨_, rfl, HE.out.1, HE.out.2.1⟩
  · have hI : ¬ (n : Int) ≤ 40 := by omega
    have HF : Hid (ins l i t = l) := Lib.hid (if_neg (by omega))
    have HH := Lib.hid h
    have HN := Lib.hid hn
    clear h hn ht
    go_enter Tryz.func134, Tryz.ntmps134
    go_wp2_with fail
    go_end0
    have hnl := HN.out
    subst hnl
    rw [HF.out]
    exact ⟨_, rfl, HH.out.alloc _, Hold.of_below _ ((Below.refl _ _).alloc (Nat.le_refl _) _)⟩
end Go.Proofs.YtcfcpbkeedfbpaaGreatDoor

namespace Go.Proofs.YtcfcpbkeedfbpaaGreatDoor
open Go.RowKit CurSpec TermSpec ExprSpec
set_option maxRecDepth 100000

def sgC (s : Sg) : List Value := [.string s.t, .int .i64 s.op, .int .i64 s.lev, .int .i64 s.left, .int .i64 s.right]
abbrev sgA (s : Sg) : Value := .agg #[.string s.t, .int .i64 s.op, .int .i64 s.lev, .int .i64 s.left, .int .i64 s.right]
def sgZ : Sg := ⟨⟨#[]⟩, 0, 0, 0, 0⟩
def signsV : Array Value := (sgs.flatMap sgC).toArray
def SignsIn (w : World) : Prop := ∃ T fr, w.heap[1]? = some (.cells signsV T fr)
theorem SignsIn.pos {w : World} (h : SignsIn w) : 1 < w.heap.size := by
  obtain ⟨T, fr, h⟩ := h
  exact (Array.getElem?_eq_some_iff.1 h).1
theorem SignsIn.of {w w' : World} (h : SignsIn w) (hb : w'.heap[1]? = w.heap[1]?) : SignsIn w' := by
  obtain ⟨T, fr, h⟩ := h
  exact ⟨T, fr, hb.trans h⟩
theorem SignsIn.keep {w w' : World} (h : SignsIn w) (hb : Below w.heap.size w w') : SignsIn w' := h.of (hb.block _ h.pos)
theorem SignsIn.alloc {w : World} (h : SignsIn w) (o : Obj) : SignsIn (w.alloc o) := h.keep ((Below.refl _ _).alloc (Nat.le_refl _) _)

theorem signs_size : (Tryz.prog.info? 197).map (·.size) = some signsV.size := by kernel_rfl
theorem signs_index : ∀ (j : Nat) (s : Sg), sgs[j]? = some s → ∀ w, (Instr.index 197 (.agg signsV) (.int .i64 j)).run Tryz.prog w = .ok (sgA s) w
  | 0, s, h, w => by cases h; kernel_rfl
  | 1, s, h, w => by cases h; kernel_rfl
  | 2, s, h, w => by cases h; kernel_rfl
  | 3, s, h, w => by cases h; kernel_rfl
  | 4, s, h, w => by cases h; kernel_rfl
  | 5, s, h, w => by cases h; kernel_rfl
  | 6, s, h, w => by cases h; kernel_rfl
  | 7, s, h, w => by cases h; kernel_rfl
  | 8, s, h, w => by cases h; kernel_rfl
  | 9, s, h, w => by cases h; kernel_rfl
  | 10, s, h, w => by cases h; kernel_rfl
  | j + 11, s, h, w => by cases h
theorem sgs_len : sgs.length = 11 := rfl

theorem cells_5 {w : World} {b : Nat} {T : TypeId} {x0 x1 x2 x3 x4 : Value} (h : w.heap[b]? = some (.cells #[x0, x1, x2, x3, x4] T (0, 0))) : w.cell? ⟨b, 0, none⟩ = some x0 ∧ w.cell? ⟨b, 1, none⟩ = some x1 ∧ w.cell? ⟨b, 2, none⟩ = some x2 ∧ w.cell? ⟨b, 3, none⟩ = some x3 ∧ w.cell? ⟨b, 4, none⟩ = some x4 :=
  ⟨cell_of_block' h (i := 0) rfl, cell_of_block' h (i := 1) rfl, cell_of_block' h (i := 2) rfl, cell_of_block' h (i := 3) rfl, cell_of_block' h (i := 4) rfl⟩
theorem free_5 {w : World} {b : Nat} {T : TypeId} {cs : Array Value} (h : w.heap[b]? = some (.cells cs T (0, 0))) : w.frozen? ⟨b, 0, none⟩ = false ∧ w.frozen? ⟨b, 1, none⟩ = false ∧ w.frozen? ⟨b, 2, none⟩ = false ∧ w.frozen? ⟨b, 3, none⟩ = false ∧ w.frozen? ⟨b, 4, none⟩ = false :=
  ⟨free_of_block' h 0, free_of_block' h 1, free_of_block' h 2, free_of_block' h 3, free_of_block' h 4⟩
theorem store_five {w : World} {b : Nat} (h : Blk w b 5) (u0 u1 u2 u3 u4 : Value) :
    (w.setCell ⟨b, 0, none⟩ u0).cell? ⟨b, 0, none⟩ = some u0 ∧ ((w.setCell ⟨b, 0, none⟩ u0).setCell ⟨b, 1, none⟩ u1).cell? ⟨b, 1, none⟩ = some u1 ∧
    (((w.setCell ⟨b, 0, none⟩ u0).setCell ⟨b, 1, none⟩ u1).setCell ⟨b, 2, none⟩ u2).cell? ⟨b, 2, none⟩ = some u2 ∧
    ((((w.setCell ⟨b, 0, none⟩ u0).setCell ⟨b, 1, none⟩ u1).setCell ⟨b, 2, none⟩ u2).setCell ⟨b, 3, none⟩ u3).cell? ⟨b, 3, none⟩ = some u3 ∧
    (((((w.setCell ⟨b, 0, none⟩ u0).setCell ⟨b, 1, none⟩ u1).setCell ⟨b, 2, none⟩ u2).setCell ⟨b, 3, none⟩ u3).setCell ⟨b, 4, none⟩ u4).cell? ⟨b, 4, none⟩ = some u4 :=
  ⟨h.read 0 (by omega) _, (h.set _ _).read 1 (by omega) _, ((h.set _ _).set _ _).read 2 (by omega) _, (((h.set _ _).set _ _).set _ _).read 3 (by omega) _, ((((h.set _ _).set _ _).set _ _).set _ _).read 4 (by omega) _⟩
theorem below_5 {B : Nat} {w x : World} {b : Nat} (h : Below B w x) (hb : B ≤ b) (u0 u1 u2 u3 u4 : Value) :
    Below B w (((((x.setCell ⟨b, 0, none⟩ u0).setCell ⟨b, 1, none⟩ u1).setCell ⟨b, 2, none⟩ u2).setCell ⟨b, 3, none⟩ u3).setCell ⟨b, 4, none⟩ u4) :=
  ((((h.setCell hb _).setCell hb _).setCell hb _).setCell hb _).setCell hb _

def SgRel (W : World) (o : Int) (i : Value) (wr : World) : Prop := ∃ j : Nat, j ≤ 11 ∧ i = .int .i64 j ∧ (∀ y ∈ sgs.take j, y.op ≠ o) ∧ Below W.heap.size W wr
/-- The sign of a term. -/
def opSg (o : Int) : Sg := (sgs.find? fun s => decide (s.op = o)).getD sgZ
theorem opSg_hit {o : Int} {j : Nat} {s : Sg} (hs : sgs[j]? = some s) (h : ∀ y ∈ sgs.take j, y.op ≠ o) (he : s.op = o) : opSg o = s := by
  have hl := (List.getElem?_eq_some_iff.1 hs).1
  have e : sgs = sgs.take j ++ s :: sgs.drop (j + 1) := by
    have h2 : sgs.drop j = s :: sgs.drop (j + 1) := by rw [List.drop_eq_getElem_cons hl]; congr 1; exact (List.getElem?_eq_some_iff.1 hs).2
    rw [← h2, List.take_append_drop]
  unfold opSg
  rw [e, List.find?_append]
  have : (sgs.take j).find? (fun s => decide (s.op = o)) = none := by
    rw [List.find?_eq_none]
    intro y hy
    simpa using h y hy
  rw [this]
  simp [he]
theorem opSg_none {o : Int} (h : ∀ y ∈ sgs.take 11, y.op ≠ o) : opSg o = sgZ := by
  unfold opSg
  have : sgs.find? (fun s => decide (s.op = o)) = none := by
    rw [List.find?_eq_none]
    intro y hy
    have : sgs.take 11 = sgs := rfl
    rw [this] at h
    simpa using h y hy
  rw [this]
  rfl
def RetSign (W : World) (s : Sg) (e : Ending) (w' : World) : Prop := e = .returned (sgA s) ∧ Below W.heap.size W w'
abbrev sgO (s : Sg) : Obj := .cells #[.string s.t, .int .i64 s.op, .int .i64 s.lev, .int .i64 s.left, .int .i64 s.right] 163
theorem sg_below' {w wr : World} {o : Obj} (h : Below (w.alloc o).heap.size (w.alloc o) wr) : Below w.heap.size w wr :=
  ((Below.refl _ _).alloc (Nat.le_refl _) _).trans (h.mono (by simp))
theorem sg_below {w wr : World} {o : Obj} (h : Below (w.alloc o).heap.size (w.alloc o) wr) (p : Obj) : Below w.heap.size w (wr.alloc p) :=
  (sg_below' h).alloc (sg_below' h).size _
theorem sg_next {o : Int} {j : Nat} {s : Sg} (h : ∀ y ∈ sgs.take j, y.op ≠ o) (hs : sgs[j]? = some s) (hne : s.op ≠ o) : ∀ y ∈ sgs.take (j + 1), y.op ≠ o := by
  intro y hy
  rw [take_next hs, List.mem_append, List.mem_singleton] at hy
  rcases hy with hy | rfl
  · exact h y hy
  · exact hne
set_option maxHeartbeats 4000000 in
theorem signOf_any (o : Int) (w : World) (hs : SignsIn w) : Calls Tryz.prog 124 #[.int .i64 o] w (RetSign w (opSg o)) := by
  have hi := signs_size
  have hix := signs_index
  obtain ⟨SV, hSV⟩ : ∃ SV, SV = signsV := ⟨_, rfl⟩
  unfold SignsIn at hs
  rw [← hSV] at hi hix hs
  obtain ⟨T, fr, hg0⟩ := hs
  have hg := (heap_alloc_old w (.cells #[.string ⟨#[]⟩, .int .i64 0, .int .i64 0, .int .i64 0, .int .i64 0] 163) (Array.getElem?_eq_some_iff.1 hg0).1).trans hg0
  have HIX := Lib.hid hix
  clear hix hSV hg0
  have k0 := heap_alloc_new w (.cells #[.string ⟨#[]⟩, .int .i64 0, .int .i64 0, .int .i64 0, .int .i64 0] 163)
  have HK0 := Lib.hid k0
  clear k0
  go_enter Tryz.func124, Tryz.ntmps124
  go_wp2_with (refine wpList_load_row rfl 197 _ rfl 1 rfl T SV fr _ hg Tryz.underlying197 rfl hi ?_)
  clear hg hi
  go_loopw [4, 6] (fun _ i wr => SgRel (w.alloc (.cells #[.string ⟨#[]⟩, .int .i64 0, .int .i64 0, .int .i64 0, .int .i64 0] 163)) o i wr) (fun _ i _ => 11 - (intOf i).toNat)
  case atStart => exact ⟨0, by omega, rfl, by simp, Below.refl _ _⟩
  case round =>
    obtain ⟨j, hj, rfl, hno, hbw⟩ := hrel
    have HN := Lib.hid hno
    have HB := Lib.hid hbw
    have hz := hbw.size
    rw [World.size_alloc] at hz
    have hlt0 : w.heap.size < wr.heap.size := by omega
    have k0 := block_on HK0.out hbw
    have HK := Lib.hid k0
    have HZ := Lib.hid hlt0
    clear hno hbw k0 hz
    by_cases hlt : j < 11
    · obtain ⟨s, hs⟩ : ∃ s, sgs[j]? = some s := get_some (by rw [sgs_len]; exact hlt)
      have hx := HIX.out j s hs
      have HS := Lib.hid hs
      have k1 := (heap_alloc_old wr (sgO s) hlt0).trans HK.out
      have HK1 := Lib.hid (blk_of k1 (n := 5) rfl)
      clear hs hlt0
      by_cases ho : s.op = o
      · have e1 : (s.op == o) = true := by simpa using ho
        have HO := Lib.hid (opSg_hit HS.out HN.out ho)
        obtain ⟨f0, f1, f2, f3, f4⟩ := free_5 k1
        obtain ⟨d0, d1, d2, d3, d4⟩ := cells_5 k1
        clear ho k1
        go_wp2_with fail
        obtain ⟨q0, q1, q2, q3, q4⟩ := store_five HK1.out (.string s.t) (.int .i64 s.op) (.int .i64 s.lev) (.int .i64 s.left) (.int .i64 s.right)
        refine bodyPost_ret (v := sgA s) (by simp [results, Tryz.results124, go_sem, q0, q1, q2, q3, q4]) rfl ?_
        rw [HO.out]
        exact ⟨rfl, below_5 (sg_below HB.out (sgO s)) (Nat.le_refl _) _ _ _ _ _⟩
      · have e1 : (s.op == o) = false := by simpa using ho
        have HO := Lib.hid ho
        clear ho k1
        go_wp2_with fail
        go_roundw
        case rel => exact ⟨j + 1, hlt, by simp, sg_next HN.out HS.out HO.out, HB.out.alloc HB.out.size _⟩
        case measure => simp [intOf]; omega
    · obtain rfl : j = 11 := by omega
      have HO := Lib.hid (opSg_none HN.out)
      obtain ⟨f0, f1, f2, f3, f4⟩ := free_5 HK.out
      obtain ⟨d0, d1, d2, d3, d4⟩ := cells_5 HK.out
      have HK1 := Lib.hid (blk_of HK.out (n := 5) rfl)
      go_wp2_with fail
      obtain ⟨q0, q1, q2, q3, q4⟩ := store_five HK1.out (.string ⟨#[]⟩) (.int .i64 0) (.int .i64 0) (.int .i64 0) (.int .i64 0)
      refine bodyPost_ret (v := sgA sgZ) (by simp [results, Tryz.results124, go_sem, q0, q1, q2, q3, q4, sgZ]) rfl ?_
      rw [HO.out]
      exact ⟨rfl, below_5 (sg_below' HB.out) (Nat.le_refl _) _ _ _ _ _⟩
end Go.Proofs.YtcfcpbkeedfbpaaGreatDoor

namespace Go.Proofs.YtcfcpbkeedfbpaaGreatDoor
open Go.RowKit ValSpec
set_option maxRecDepth 100000

theorem val_str {a b : ByteArray} (h : a = b) : Ending.returned (.string a) = .returned (.string b) := by rw [h]
theorem neg_parts (n : Int) (h : n < 0) (h1 : -9223372036854775808 ≤ n) : ∃ d q : Nat, n.tmod 10 = -(d : Int) ∧ n.tdiv 10 = -(q : Int) ∧ d < 10 ∧ q ≤ 922337203685477580 ∧ n.natAbs = 10 * q + d := by
  obtain ⟨m, rfl⟩ : ∃ m : Nat, n = -(m : Int) := ⟨n.natAbs, by omega⟩
  refine ⟨m % 10, m / 10, ?_, ?_, Nat.mod_lt _ (by omega), by omega, by rw [Int.natAbs_neg]; simp; omega⟩
  · rw [Int.neg_tmod]; rfl
  · rw [Int.neg_tdiv]; rfl

theorem vdigit_any (d : Int) (w : World) (h0 : 0 ≤ d) (h9 : d ≤ 9) :
    Calls Tryz.prog 153 #[.int .i64 d] w fun e w' => e = .returned (.int .u8 (48 + d)) ∧ w = w' := by
  go_enter Tryz.func153, Tryz.ntmps153
  go_wp2
  go_ret
  exact ⟨rfl, rfl⟩

def byteV (c : UInt8) : Value := .int .u8 c.toNat
/-- The array: z zeros, digits behind them. -/
def cellsOf (z : Nat) (cs : List UInt8) : Array Value := (List.replicate z (Value.int .u8 0) ++ cs.map byteV).toArray
theorem cells_zero {z k : Nat} {cs : List UInt8} (h : k < z) : (cellsOf z cs)[k]? = some (.int .u8 0) := by
  simp [cellsOf, List.getElem?_append, h]
theorem cells_set {z : Nat} {cs : List UInt8} (c : UInt8) : (cellsOf (z + 1) cs).setIfInBounds z (byteV c) = cellsOf z (c :: cs) := by
  apply Array.ext'
  simp only [cellsOf, Array.toList_setIfInBounds]
  rw [List.set_append_left _ _ (by simp)]
  simp [List.replicate_succ', List.set_append_right]
theorem byteV_digit {d : Nat} (h : d < 10) : byteV (UInt8.ofNat (48 + d)) = .int .u8 (48 + (d : Int)) := by
  unfold byteV; rw [byte_nat (by omega)]; simp
theorem cell_of_block {w : World} {b : Nat} {cs : Array Value} {t : TypeId} (h : w.heap[b]? = some (.cells cs t (0, 0))) {i : Nat} {v : Value} (hi : cs[i]? = some v) : w.cell? ⟨b, i, none⟩ = some v := by simp [World.cell?, h, hi]
theorem free_of_block {w : World} {b : Nat} {cs : Array Value} {t : TypeId} (h : w.heap[b]? = some (.cells cs t (0, 0))) (i : Nat) : w.frozen? ⟨b, i, none⟩ = false := by simp [World.frozen?, h]
theorem block_setCell {w : World} {b : Nat} {cs : Array Value} {t : TypeId} (h : w.heap[b]? = some (.cells cs t (0, 0))) (i : Nat) (u : Value) : (w.setCell ⟨b, i, none⟩ u).heap[b]? = some (.cells (cs.setIfInBounds i u) t (0, 0)) := by
  have hlt := lt_of_block h
  have h' : w.heap[b] = .cells cs t (0, 0) := by simpa [Array.getElem?_eq_getElem hlt] using h
  show (w.heap.modify b _)[b]? = _
  rw [Array.getElem?_eq_getElem (by simpa using hlt), Array.getElem_modify_self, h']
  rfl

/-- What holds at the head of each round: the digits that are written, and those that are left. -/
def PutRel (W : World) (m : Nat) (rv av : Value) (wr : World) : Prop :=
  ∃ (i : Nat) (r : Int) (cs : List UInt8), cs.length + i = 18 ∧ rv = .int .i64 r ∧ av = .int .i64 ((i : Int) + 1) ∧ r ≤ 0 ∧ -9223372036854775808 ≤ r ∧ digs m = digs r.natAbs ++ cs ∧ r.natAbs * 10 ^ (18 - i) ≤ m ∧
    wr.heap[W.heap.size]? = some (.cells (cellsOf (i + 2) cs) 195 (0, 0)) ∧ Below W.heap.size W wr

theorem put_step {W wr : World} {m i q d : Nat} {r : Int} {cs : List UInt8} (hm : m ≤ 9223372036854775808) (hl : cs.length + i = 18) (hr : r < -9) (hd : digs m = digs r.natAbs ++ cs) (hp : r.natAbs * 10 ^ (18 - i) ≤ m)
    (hb : wr.heap[W.heap.size]? = some (.cells (cellsOf (i + 2) cs) 195 (0, 0))) (hbel : Below W.heap.size W wr) (hn : r.natAbs = 10 * q + d) (hd10 : d < 10) (hq : q ≤ 922337203685477580) :
    PutRel W m (.int .i64 (-(q : Int))) (.int .i64 i) (wr.setCell ⟨W.heap.size, i + 1, none⟩ (.int .u8 (48 + (d : Int)))) := by
  have hi : 1 ≤ i := by
    rcases Nat.lt_or_ge 0 i with h | h
    · exact h
    · exfalso
      obtain rfl : i = 0 := by omega
      have : 10 * 10 ^ 18 ≤ r.natAbs * 10 ^ (18 - 0) := Nat.mul_le_mul_right _ (by omega)
      omega
  obtain ⟨k, rfl⟩ : ∃ k, i = k + 1 := ⟨i - 1, by omega⟩
  have hq1 : 1 ≤ q := by omega
  refine ⟨k, -(q : Int), UInt8.ofNat (48 + d) :: cs, by simp; omega, rfl, by simp, by omega, by omega, ?_, ?_, ?_, hbel.setCell (Nat.le_refl _) _⟩
  · rw [hd, hn, digs_ge (n := 10 * q + d) (by omega), show (10 * q + d) / 10 = q by omega, show (10 * q + d) % 10 = d by omega]
    simp
  · have e : 18 - k = (18 - (k + 1)) + 1 := by omega
    rw [e, Nat.pow_succ]
    refine Nat.le_trans ?_ hp
    rw [hn, Int.natAbs_neg, Int.natAbs_natCast, Nat.mul_comm (10 ^ _) 10, ← Nat.mul_assoc]
    exact Nat.mul_le_mul_right _ (by omega)
  · rw [block_setCell hb, ← byteV_digit hd10, cells_set]

theorem slice_tail (B l L : Nat) (li : Int) (hli : li = l) (hl : l + L = 20) (h1 : 1 ≤ L) (W : World) : (Instr.sliceAt 195 (.pointer (some ⟨B, 0, none⟩)) (some (.int .i64 li)) none none).run Tryz.prog W = .ok (.slice (some ⟨B, l, none⟩) L L) W := by
  subst hli
  have hal : Tryz.prog.arrayLen 195 = 20 := by simp [Program.arrayLen, Tryz.underlying195]
  rw [run_sliceAt_array_l W 195 ⟨B, 0, none⟩ (by simp [Program.arrayLen, Program.elem, Tryz.underlying195]) .i64 (l : Int) (by omega) (by rw [hal]; omega), hal]
  go_simp
  omega

theorem tail_text {w : World} {B z : Nat} {cs : List UInt8} (h : w.heap[B]? = some (.cells (cellsOf z cs) 195 (0, 0))) (L : Nat) (hL : cs.length = L) :
    (convert 98 9 (.slice (some ⟨B, z, none⟩) L L)).run Tryz.prog w = .ok (.string ⟨cs.toArray⟩) w := by
  subst hL
  refine run_convert_bytes_back _ _ _ _ _ cs.length cs Tryz.underlying98 Tryz.underlying5 Tryz.underlying9 (fun j hj => ?_)
  have ea : (⟨B, z, none⟩ : Addr).add j = ⟨B, z + j, none⟩ := by unfold Addr.add; split <;> simp_all
  rw [ea]
  refine cell_of_block h ?_
  simp [cellsOf, List.getElem?_append, show ¬ (z + j < z) by omega, List.getElem?_eq_getElem hj, byteV]

theorem put_last {W wr : World} {m i d : Nat} {r : Int} {cs : List UInt8} (hr : r = -(d : Int)) (hd10 : d < 10) (hd : digs m = digs r.natAbs ++ cs)
    (hb : wr.heap[W.heap.size]? = some (.cells (cellsOf (i + 2) cs) 195 (0, 0))) :
    (wr.setCell ⟨W.heap.size, i + 1, none⟩ (.int .u8 (48 + (d : Int)))).heap[W.heap.size]? = some (.cells (cellsOf (i + 1) (digs m)) 195 (0, 0)) := by
  rw [block_setCell hb, ← byteV_digit hd10, cells_set, hd, hr, Int.natAbs_neg, Int.natAbs_natCast, digs_lt hd10]
  rfl
theorem put_sign {wr : World} {B i : Nat} {cs : List UInt8} (hb : wr.heap[B]? = some (.cells (cellsOf (i + 1) cs) 195 (0, 0))) :
    (wr.setCell ⟨B, i, none⟩ (.int .u8 45)).heap[B]? = some (.cells (cellsOf i (45 :: cs)) 195 (0, 0)) := by
  rw [block_setCell hb, show (Value.int .u8 45) = byteV 45 from rfl, cells_set]

set_option maxRecDepth 100000 in
set_option maxHeartbeats 800000 in
theorem put_any (n : Int) (w : World) (h1 : -9223372036854775808 ≤ n) (h2 : n ≤ 9223372036854775807) :
    Calls Tryz.prog 122 #[.int .i64 n] w fun e w' => e = .returned (.string ⟨(text n).toArray⟩) ∧ Below w.heap.size w w' := by
  rcases (show 0 < n ∨ n < 0 ∨ n ≤ 0 ∧ 0 ≤ n by omega) with h | h | ⟨h, h'⟩
  all_goals
    go_enter Tryz.func122, Tryz.ntmps122
    go_wp2_with fail
    go_loopw [3, 5] (fun r a wr => PutRel w n.natAbs r a wr) (fun r _ _ => (intOf r).natAbs)
    case atStart => first
      | exact ⟨18, -n, [], rfl, rfl, rfl, by omega, by omega, by simp, by simp, (heap_alloc_new _ _).trans rfl, (Below.refl _ _).alloc (Nat.le_refl _) _⟩
      | exact ⟨18, n, [], rfl, rfl, rfl, by omega, by omega, by simp, by simp, (heap_alloc_new _ _).trans rfl, (Below.refl _ _).alloc (Nat.le_refl _) _⟩
    case round =>
      obtain ⟨i, r, cs, hl, rfl, rfl, hr, hr2, hd, hp, hb, hbel⟩ := hrel
      have hi2 : i ≤ 18 := by omega
      have hc := cell_of_block hb (cells_zero (k := i + 1) (by omega))
      have hf := free_of_block hb (i + 1)
      have hc' := cell_of_block hb (cells_zero (k := i) (by omega))
      have hf' := free_of_block hb i
      by_cases h9 : r < -9
      · obtain ⟨d, q, hd1, hq, hd10, hqb, hn⟩ := neg_parts r (by omega) hr2
        have HR := Lib.hid (put_step (show n.natAbs ≤ 9223372036854775808 by omega) hl h9 hd hp hb hbel hn hd10 hqb)
        have HM : Hid (q < r.natAbs) := Lib.hid (by omega)
        clear hn hd hp hb hl hc' hf'
        go_wp2_with (go_at_call 153; refine (vdigit_any _ _ (by omega) (by omega)).mono ?_; rintro e w' ⟨rfl, rfl⟩)
        go_round
        case rel => exact HR.out
        case measure => have := HM.out; simp [intOf]; omega
      · obtain ⟨d, rfl⟩ : ∃ d : Nat, r = -(d : Int) := ⟨r.natAbs, by omega⟩
        have hd10 : d < 10 := by omega
        have hb2 := put_last (m := n.natAbs) rfl hd10 hd hb
        have hlen : (digs n.natAbs).length = 19 - i := by
          rw [hd, List.length_append, Int.natAbs_neg, Int.natAbs_natCast, digs_lt hd10]; simp; omega
        by_cases hneg : n < 0
        · first
            | (exfalso; omega)
            | (have hb3 := put_sign hb2
               obtain ⟨L, hL⟩ : ∃ L, L = 20 - i := ⟨_, rfl⟩
               have hsl := slice_tail w.heap.size i L (i : Int) rfl (by omega) (by omega)
               have hcv := tail_text hb3 L (by simp; omega)
               have HB : Hid (Below w.heap.size w ((wr.setCell ⟨w.heap.size, i + 1, none⟩ (.int .u8 (48 + (d : Int)))).setCell ⟨w.heap.size, i, none⟩ (.int .u8 45))) := Lib.hid ((hbel.setCell (Nat.le_refl _) _).setCell (Nat.le_refl _) _)
               clear hb hb2 hb3 hlen hd hp hl hL hbel
               go_wp2_with (go_at_call 153; refine (vdigit_any _ _ (by omega) (by omega)).mono ?_; rintro e w' ⟨rfl, rfl⟩)
               go_ret
               exact ⟨val_str (by unfold text; rw [if_pos (by omega)]), HB.out⟩)
        · first
            | (exfalso; omega)
            | (obtain ⟨L, hL⟩ : ∃ L, L = 19 - i := ⟨_, rfl⟩
               have hsl := slice_tail w.heap.size (i + 1) L ((i : Int) + 1) rfl (by omega) (by omega)
               have hcv := tail_text hb2 L (by omega)
               have HB : Hid (Below w.heap.size w (wr.setCell ⟨w.heap.size, i + 1, none⟩ (.int .u8 (48 + (d : Int))))) := Lib.hid (hbel.setCell (Nat.le_refl _) _)
               clear hb hb2 hlen hd hp hl hL hbel hc' hf'
               go_wp2_with (go_at_call 153; refine (vdigit_any _ _ (by omega) (by omega)).mono ?_; rintro e w' ⟨rfl, rfl⟩)
               go_ret
               exact ⟨val_str (by unfold text; rw [if_neg (by omega)]), HB.out⟩)
end Go.Proofs.YtcfcpbkeedfbpaaGreatDoor

namespace Go.Proofs.YtcfcpbkeedfbpaaGreatDoor
open Go.RowKit CurSpec TermSpec ExprSpec
set_option maxRecDepth 100000

namespace ExprSpec
def bk (b : Prop) [Decidable b] (s : ByteArray) : ByteArray := if b then (⟨#[40]⟩ ++ s) ++ ⟨#[41]⟩ else s
/-- The text of an expression. -/
def tx : Ex → ByteArray
  | .leaf t => if t.op = 1 then bs (ValSpec.text t.n) else if t.op = 2 then t.s else if t.op = 9 then ⟨#[116, 114, 117, 101]⟩ else if t.op = 10 then ⟨#[102, 97, 108, 115, 101]⟩ else (⟨#[105, 110, 40]⟩ ++ t.s) ++ ⟨#[41]⟩
  | .un o a => if o = 3 then ⟨#[45]⟩ ++ bk (lev a < 7) (tx a) else ⟨#[110, 111, 116, 32]⟩ ++ bk (lev a < 3) (tx a)
  | .bin o a b => if o = 7 then (((⟨#[109, 105, 110, 40]⟩ ++ tx a) ++ ⟨#[44, 32]⟩) ++ tx b) ++ ⟨#[41]⟩
    else if o = 8 then (((⟨#[109, 97, 120, 40]⟩ ++ tx a) ++ ⟨#[44, 32]⟩) ++ tx b) ++ ⟨#[41]⟩
    else (((bk (lev a < (sgOf o).left) (tx a) ++ ⟨#[32]⟩) ++ (sgOf o).t) ++ ⟨#[32]⟩) ++ bk (lev b < (sgOf o).right) (tx b)
def opE : Ex → Int
  | .leaf t => t.op
  | .un o _ => o
  | .bin o _ _ => o
def levO (o : Int) : Int := if o = 1 ∨ o = 2 ∨ o = 9 ∨ o = 10 ∨ o = 11 ∨ o = 7 ∨ o = 8 then 8 else if o = 12 then 3 else if o = 3 then 7 else (opSg o).lev
theorem lev_opE {e : Ex} (h : Good e) : lev e = levO (opE e) := by
  cases e with
  | leaf t =>
    have := leaf_ops h.1
    show (8 : Int) = levO t.op
    unfold levO
    rw [if_pos (by omega)]
  | un o a =>
    have ho : o = 3 ∨ o = 12 := by
      have h1 := h.1
      unfold ar at h1
      split at h1
      · omega
      split at h1
      · assumption
      split at h1 <;> omega
    rcases ho with rfl | rfl <;> rfl
  | bin o a b =>
    have e : lev (.bin o a b) = if o = 7 ∨ o = 8 then 8 else (sgOf o).lev := rfl
    rw [e]
    show _ = levO o
    unfold levO
    by_cases h7 : o = 7 ∨ o = 8
    · rw [if_pos h7, if_pos (by omega)]
    · have h1 : ¬ (o = 1 ∨ o = 2 ∨ o = 9 ∨ o = 10 ∨ o = 11 ∨ o = 12 ∨ o = 3) := by
        rintro (rfl | rfl | rfl | rfl | rfl | rfl | rfl) <;> exact absurd h.1 (by decide)
      rw [if_neg h7, if_neg (by omega), if_neg (by omega), if_neg (by omega)]
      rfl
theorem bk_size (b : Prop) [Decidable b] (s : ByteArray) : (bk b s).size ≤ s.size + 2 := by
  unfold bk
  split
  · rw [ByteArray.size_append, ByteArray.size_append]
    show 1 + s.size + 1 ≤ _
    omega
  · omega
theorem bs_size (l : List UInt8) : (bs l).size = l.length := rfl
theorem name_size {s : ByteArray} (h : NamesSpec.isName s.data.toList = true) : s.size ≤ 12 := by
  unfold NamesSpec.isName at h
  simp only [Bool.and_eq_true, decide_eq_true_eq] at h
  have := h.1.1.1.2
  rwa [show s.data.toList.length = s.size from rfl] at this
theorem text_size {n : Int} (h : 0 ≤ n ∧ n ≤ 1000000) : (ValSpec.text n).length ≤ 12 := by
  unfold ValSpec.text
  rw [if_neg (by omega)]
  have := ValSpec.digs_len 6 n.natAbs (by omega)
  omega
theorem sg_size : ∀ s ∈ sgs, s.t.size ≤ 3 := by decide
theorem tx_size : ∀ {e : Ex}, Good e → (tx e).size ≤ 30 * (flat e).length
  | .leaf t, h => by
    show (tx (.leaf t)).size ≤ 30
    unfold tx
    rcases leaf_ops h.1 with h1 | h1 | h1 | h1 | h1
    · rw [if_pos h1, bs_size]
      have := text_size (may_num h1 h.2).1
      omega
    · rw [if_neg (by omega), if_pos h1]
      have := name_size (may_name (.inl h1) h.2).1
      omega
    · rw [if_neg (by omega), if_neg (by omega), if_pos h1]
      decide
    · rw [if_neg (by omega), if_neg (by omega), if_neg (by omega), if_pos h1]
      decide
    · rw [if_neg (by omega), if_neg (by omega), if_neg (by omega), if_neg (by omega), ByteArray.size_append, ByteArray.size_append]
      have := name_size (may_name (.inr h1) h.2).1
      show 3 + t.s.size + 1 ≤ 30
      omega
  | .un o a, h => by
    have ih := tx_size h.2
    have h7 := bk_size (lev a < 7) (tx a)
    have h3 := bk_size (lev a < 3) (tx a)
    show (tx (.un o a)).size ≤ 30 * ((flat a).length + 1)
    unfold tx
    split
    · rw [ByteArray.size_append]
      show 1 + _ ≤ _
      omega
    · rw [ByteArray.size_append]
      show 4 + _ ≤ _
      omega
  | .bin o a b, h => by
    have iha := tx_size h.2.1
    have ihb := tx_size h.2.2
    have hl := bk_size (lev a < (sgOf o).left) (tx a)
    have hr := bk_size (lev b < (sgOf o).right) (tx b)
    show (tx (.bin o a b)).size ≤ 30 * ((flat a ++ flat b).length + 1)
    rw [List.length_append]
    unfold tx
    by_cases h7 : o = 7
    · rw [if_pos h7]
      simp only [ByteArray.size_append]
      show 4 + _ + 2 + _ + 1 ≤ _
      omega
    by_cases h8 : o = 8
    · rw [if_neg h7, if_pos h8]
      simp only [ByteArray.size_append]
      show 4 + _ + 2 + _ + 1 ≤ _
      omega
    · rw [if_neg h7, if_neg h8]
      have := sg_size _ (sgOf_mem h.1 (by omega)).1
      simp only [ByteArray.size_append]
      show _ + 1 + _ + 1 + _ ≤ _
      omega
theorem flat_first (e : Ex) : ∃ t r, flat e = t :: r ∧ t.op = opE e := by
  cases e with
  | leaf t => exact ⟨t, [], rfl, rfl⟩
  | un o a => exact ⟨opT o, flat a, rfl, rfl⟩
  | bin o a b => exact ⟨opT o, flat a ++ flat b, rfl, rfl⟩
end ExprSpec

def RetS (W : World) (s : ByteArray) (e : Ending) (w' : World) : Prop := e = .returned (.string s) ∧ Below W.heap.size W w'
structure TxAt (W : World) (A : Option Addr) (n c : Nat) (l : List Tm) : Prop where
  tms : Tms W (.slice A n c) l
  len : n = l.length
  few : n ≤ 1000
  sg : SignsIn W
theorem TxAt.on {W W' : World} {A : Option Addr} {n c : Nat} {l : List Tm} (h : TxAt W A n c l) (hb : Below W.heap.size W W') : TxAt W' A n c l := ⟨h.tms.keep hb, h.len, h.few, h.sg.keep hb⟩
def TextOk (e : Ex) : Prop := ∀ A n c l (a : Nat) rest W, TxAt W A n c l → l.drop a = flat e ++ rest → Calls Tryz.prog 86 #[.slice A n c, .int .i64 a] W (RetS W (tx e))
def WithinOk (e : Ex) : Prop := ∀ A n c l (a : Nat) rest (k : Int) W, TxAt W A n c l → l.drop a = flat e ++ rest → Calls Tryz.prog 123 #[.slice A n c, .int .i64 a, .int .i64 k] W (RetS W (bk (lev e < k) (tx e)))

theorem sg_field (x0 x1 x2 x3 x4 : Value) (w : World) : (Instr.field 163 (.agg #[x0, x1, x2, x3, x4]) 2).run Tryz.prog w = .ok x2 w := by kernel_rfl
set_option maxHeartbeats 2000000 in
theorem level_any (o : Int) (w : World) (hs : SignsIn w) : Calls Tryz.prog 154 #[.int .i64 o] w (RetI w (levO o)) := by
  have HS : Hid (Calls Tryz.prog 124 #[.int .i64 o] w fun e w' => e = .returned (.agg #[.string (opSg o).t, .int .i64 (opSg o).op, .int .i64 (opSg o).lev, .int .i64 (opSg o).left, .int .i64 (opSg o).right]) ∧ Below w.heap.size w w') := Lib.hid (signOf_any o w hs)
  clear hs
  by_cases h8 : o = 1 ∨ o = 2 ∨ o = 9 ∨ o = 10 ∨ o = 11 ∨ o = 7 ∨ o = 8
  · have HO : Hid (levO o = 8) := Lib.hid (if_pos h8)
    rcases h8 with rfl | rfl | rfl | rfl | rfl | rfl | rfl
    all_goals
      go_enter Tryz.func154, Tryz.ntmps154
      go_wp2_with fail
      go_ret
      exact ⟨by rw [HO.out]; rfl, Below.refl _ _⟩
  · by_cases h12 : o = 12
    · subst h12
      go_enter Tryz.func154, Tryz.ntmps154
      go_wp2_with fail
      go_ret
      exact ⟨rfl, Below.refl _ _⟩
    · by_cases h3 : o = 3
      · subst h3
        go_enter Tryz.func154, Tryz.ntmps154
        go_wp2_with fail
        go_ret
        exact ⟨rfl, Below.refl _ _⟩
      · have HO : Hid (levO o = (opSg o).lev) := Lib.hid (by unfold levO; rw [if_neg h8, if_neg h12, if_neg h3])
        have e1 : (o == 1) = false := by simp; omega
        have e2 : (o == 2) = false := by simp; omega
        have e3 : (o == 9) = false := by simp; omega
        have e4 : (o == 10) = false := by simp; omega
        have e5 : (o == 11) = false := by simp; omega
        have e6 : (o == 7) = false := by simp; omega
        have e7 : (o == 8) = false := by simp; omega
        have e8 : (o == 12) = false := by simp; omega
        have e9 : (o == 3) = false := by simp; omega
        have hfl := sg_field
        clear h8 h12 h3
        go_enter Tryz.func154, Tryz.ntmps154
        go_wp2_with (go_at_call 124; (with_reducible refine HS.out.mono ?_))
        rintro e w1 ⟨rfl, hb1⟩
        have HB1 := Lib.hid hb1
        clear hb1
        go_wp2_with fail
        go_ret
        exact ⟨by rw [HO.out]; rfl, HB1.out⟩

set_option maxHeartbeats 2000000 in
theorem within_ok {x : Ex} (hg : ExprSpec.Good x) (ht : TextOk x) : WithinOk x := by
  intro A n c l a rest k w h hd
  have HTX := Lib.hid (ht A n c l a rest w h hd)
  obtain ⟨t, r, hf, hop⟩ := flat_first x
  have hla : l[a]? = some t := by
    have : (l.drop a)[0]? = some t := by rw [hd, hf]; rfl
    rwa [List.getElem?_drop] at this
  obtain ⟨b, off, rfl, hb, c0, -, -⟩ := h.tms.at_ hla
  have hlen := h.len
  have hal : a < n := by have := get_lt hla; omega
  have hz : (tx x).size ≤ 60000 := by
    have h1 := tx_size hg
    have h2 := congrArg List.length hd
    have h3 := h.few
    rw [List.length_drop, List.length_append] at h2
    omega
  have hal' : (a : Int) < n := by omega
  have HL := Lib.hid (fun w h => level_any t.op w h)
  obtain ⟨lv, hlv⟩ : ∃ lv, lv = levO t.op := ⟨_, rfl⟩
  rw [← hlv] at HL
  have HE : Hid (lev x = lv) := Lib.hid (by rw [lev_opE hg, hlv, hop])
  obtain ⟨o, ho⟩ : ∃ o, o = t.op := ⟨_, rfl⟩
  rw [← ho] at HL c0
  have HS := Lib.hid h.sg
  have HC0 := Lib.hid c0
  clear ht h hd hf hop hla hlen ho hlv c0
  by_cases hk : lv < k
  all_goals
    go_enter Tryz.func123, Tryz.ntmps123
    go_wp2_with (go_at_call 86; (with_reducible refine HTX.out.mono ?_))
    rintro e w1 ⟨rfl, hb1⟩
    have c1 := (hb1.cell (p := ⟨b, off + a * 3, none⟩) hb).trans HC0.out
    have HL1 := Lib.hid (HL.out w1 (HS.out.keep hb1))
    have HB1 := Lib.hid hb1
    clear hb1
    go_wp2_with (go_at_call 154; (with_reducible refine HL1.out.mono ?_))
    rintro e w2 ⟨rfl, hb2⟩
    have HB2 := Lib.hid (below_two' HB1.out hb2)
    clear hb2 c1
    go_wp2_with fail
    go_ret
    refine ⟨?_, HB2.out⟩
    rw [HE.out]
    first | rw [show bk (lv < k) (tx x) = (⟨#[40]⟩ ++ tx x) ++ ⟨#[41]⟩ from if_pos hk] | rw [show bk (lv < k) (tx x) = tx x from if_neg (by omega)]
    rfl
end Go.Proofs.YtcfcpbkeedfbpaaGreatDoor

namespace Go.Proofs.YtcfcpbkeedfbpaaGreatDoor
namespace ActSpec
open TermSpec EvalSpec NamesSpec ExprSpec

/-- An act whose expression is a tree. -/
structure Ta where
  s : ByteArray
  any : Bool
  e : Ex
def Ta.ac (t : Ta) : Ac := ⟨t.s, t.any, if t.any then [] else flat t.e⟩
def Ta.Ok (t : Ta) : Prop := isName t.s.data.toList = true ∧ (t.any = false → ExprSpec.Good t.e ∧ chk (flat t.e) = 0)
/-- The text of an act. -/
def txA (t : Ta) : ByteArray := if t.any then ⟨#[97, 110, 121, 32]⟩ ++ t.s else t.s ++ ⟨#[32, 58, 61, 32]⟩ ++ tx t.e
theorem ta_few {t : Ta} (h : t.Ok) (ha : t.any = false) : (flat t.e).length ≤ 40 := (wholeB_iff.1 (chk_ok (h.2 ha).2).1).1
theorem txA_size {t : Ta} (h : t.Ok) : (txA t).size ≤ 1300 := by
  have h1 := name_size h.1
  unfold txA
  rcases ha : t.any with _ | _
  · have h2 := tx_size (h.2 ha).1
    have h3 := ta_few h ha
    simp only [Bool.false_eq_true, if_false, ByteArray.size_append]
    show t.s.size + 4 + (tx t.e).size ≤ 1300
    omega
  · simp only [if_true, ByteArray.size_append]
    show 4 + t.s.size ≤ 1300
    omega
/-- Acts' text. -/
def putT (ts : List Ta) : List UInt8 := Lib.join (ts.map fun t => (txA t).data.toList) [44, 32]
def putB (ts : List Ta) : ByteArray := ⟨(putT ts).toArray⟩
theorem putT_snoc (ts : List Ta) (t : Ta) : putT (ts ++ [t]) = (if ts = [] then [] else putT ts ++ [44, 32]) ++ (txA t).data.toList := by
  unfold putT
  cases ts with
  | nil => simp [Lib.join_one]
  | cons u r =>
    rw [if_neg (by simp)]
    simp only [List.cons_append, List.map_cons, List.map_append, Lib.join_cons, List.map_nil]
    unfold Lib.joinTail
    simp
theorem putB_snoc (ts : List Ta) (t : Ta) : putB (ts ++ [t]) = (if ts = [] then ⟨#[]⟩ else putB ts ++ ⟨#[44, 32]⟩) ++ txA t := by
  apply ByteArray.ext
  apply Array.ext'
  rw [ByteArray.data_append]
  simp only [putB, putT_snoc]
  split
  · simp
  · simp [ByteArray.data_append]
theorem putB_size {ts : List Ta} (h : ∀ t ∈ ts, t.Ok) : (putB ts).size ≤ 1302 * ts.length := by
  have : ∀ n, n ≤ ts.length → (putB (ts.take n)).size ≤ 1302 * n := by
    intro n
    induction n with
    | zero => intro _; simp [putB, putT, Lib.join_nil, ByteArray.size]
    | succ n ih =>
      intro hn
      have hg : ts[n]? = some ts[n] := List.getElem?_eq_getElem (by omega)
      have h1 := ih (by omega)
      have h2 := txA_size (h ts[n] (List.getElem_mem _))
      rw [List.take_add_one, hg, Option.toList_some, putB_snoc, ByteArray.size_append]
      split
      · show 0 + _ ≤ _
        omega
      · rw [ByteArray.size_append]
        show _ + 2 + _ ≤ _
        omega
  have h2 := this ts.length (Nat.le_refl _)
  rwa [List.take_length] at h2
end ActSpec
end Go.Proofs.YtcfcpbkeedfbpaaGreatDoor
