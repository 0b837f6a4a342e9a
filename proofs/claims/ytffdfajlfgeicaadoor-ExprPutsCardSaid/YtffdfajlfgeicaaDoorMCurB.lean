/- CurAt, CurDead, CurLive, CurCalls, CurNew, joined. -/
import Derived.Test.YtffdfajlfgeicaaDoorMCurA
import Derived.RegionTactic
import Derived.ChangeAlike
import Derived.Deep.AppendLies
import Derived.Laws.MakeOwn
import Derived.OwnWalk
namespace Go.Proofs.YtffdfajlfgeicaaDoor
open Go.RowKit CurSpec
set_option maxRecDepth 100000

theorem Toks.but {w w' : World} {b off n cp B : Nat} {l : List Tk} (h : Toks w (.slice (some ⟨b, off, none⟩) n cp) l) (hb : w.grownBy w' (some B)) (hne : b ≠ B) : Toks w' (.slice (some ⟨b, off, none⟩) n cp) l := by
  obtain ⟨m, hm, A, c, heq, hc, hl, hA⟩ := h
  cases heq
  refine ⟨n, hm, _, cp, rfl, hc, hl, fun h0 => ?_⟩
  obtain ⟨b', off', h1, hlt, hcell⟩ := hA h0
  cases h1
  refine ⟨b, off, rfl, Nat.lt_of_lt_of_le hlt hb.size, fun j u hj => ?_⟩
  rw [← hcell j u hj]
  have := hb.block b hlt (by simp; omega)
  simp [World.cell?, this]

/-- Block B holds a cursor: the tokens from the next one on, the end behind them; the fault's place and the fault. -/
def CurAt (w : World) (B : Nat) (c : Cur) : Prop :=
  ∃ b off n cp, w.heap[B]? = some (.cells #[.slice (some ⟨b, off, none⟩) (n + 1) cp, .int .i64 c.a1, .int .i64 c.a2, .int .i64 c.bad] 58 (0, 0)) ∧ b < B ∧ n = c.L.length ∧
    Toks w (.slice (some ⟨b, off, none⟩) (n + 1) cp) (full c.L c.w1 c.w2)
theorem CurAt.lt {w : World} {B : Nat} {c : Cur} (h : CurAt w B c) : B < w.heap.size := by
  obtain ⟨b, off, n, cp, h, _⟩ := h
  exact (Array.getElem?_eq_some_iff.1 h).1
theorem CurAt.keep {w w' : World} {B : Nat} {c : Cur} (h : CurAt w B c) (hb : Below w.heap.size w w') : CurAt w' B c := by
  obtain ⟨b, off, n, cp, h, hne, hn, hT⟩ := h
  exact ⟨b, off, n, cp, block_on h hb, hne, hn, hT.keep hb⟩
theorem CurAt.but {w w' : World} {B B2 : Nat} {c : Cur} (h : CurAt w B c) (hb : w.grownBy w' (some B2)) (hlt : B < B2) : CurAt w' B c := by
  obtain ⟨b, off, n, cp, h, hne, hn, hT⟩ := h
  exact ⟨b, off, n, cp, (hb.block _ (Array.getElem?_eq_some_iff.1 h).1 (by simp; omega)).trans h, hne, hn, hT.but hb (by omega)⟩
theorem CurAt.drew {w : World} {B : Nat} {c : Cur} (h : CurAt w B c) : CurAt w.drew B c := h
theorem CurAt.alloc {w : World} {B : Nat} {c : Cur} (h : CurAt w B c) (o : Obj) : CurAt (w.alloc o) B c := h.keep ((Below.refl _ _).alloc (Nat.le_refl _) _)

/-- What a cursor's fault is: of nobody's it is ErrState at 0, 0. -/
def Fl (w : World) (p : Value) (a1 a2 e : Int) : Prop :=
  (p = .pointer none ∧ a1 = 0 ∧ a2 = 0 ∧ e = 10) ∨
  (∃ B, p = .pointer (some ⟨B, 0, none⟩) ∧ w.heap[B]? = some (.cells #[.slice none 0 0, .int .i64 0, .int .i64 0, .int .i64 0] 58 (0, 0)) ∧ a1 = 0 ∧ a2 = 0 ∧ e = 10) ∨
  (∃ B c, p = .pointer (some ⟨B, 0, none⟩) ∧ CurAt w B c ∧ a1 = c.a1 ∧ a2 = c.a2 ∧ e = c.bad)
theorem Fl.keep {w w' : World} {p : Value} {a1 a2 e : Int} (h : Fl w p a1 a2 e) (hb : Below w.heap.size w w') : Fl w' p a1 a2 e := by
  rcases h with h | ⟨B, hp, h, h'⟩ | ⟨B, c, hp, h, h'⟩
  · exact .inl h
  · exact .inr (.inl ⟨B, hp, block_on h hb, h'⟩)
  · exact .inr (.inr ⟨B, c, hp, h.keep hb, h'⟩)
theorem Fl.of {w : World} {B : Nat} {c : Cur} (h : CurAt w B c) : Fl w (.pointer (some ⟨B, 0, none⟩)) c.a1 c.a2 c.bad := .inr (.inr ⟨B, c, rfl, h, rfl, rfl, rfl⟩)

def RetFault (W : World) (a1 a2 er : Int) (e : Ending) (w' : World) : Prop := e = .returned (.tuple #[.agg #[.int .i64 a1, .int .i64 a2], .int .i64 er]) ∧ Below W.heap.size W w'
set_option maxHeartbeats 1000000 in
theorem fault_any (p : Value) (a1 a2 er : Int) (w : World) (h : Fl w p a1 a2 er) : Calls Tryd.prog 14 #[p] w (RetFault w a1 a2 er) := by
  rcases h with ⟨rfl, rfl, rfl, rfl⟩ | ⟨B, rfl, h, rfl, rfl, rfl⟩ | ⟨B, c, rfl, h, rfl, rfl, rfl⟩
  · go_enter Tryd.func14, Tryd.ntmps14
    go_wp2_with fail
    refine bodyPost_ret (v := .tuple #[.agg #[.int .i64 0, .int .i64 0], .int .i64 10]) (by simp [results, Tryd.results14, go_sem]) rfl ⟨rfl, (Below.refl _ _).alloc (Nat.le_refl _) _⟩
  · obtain ⟨c0, c1, c2, c3⟩ := cells_4 h
    have hlt := (Array.getElem?_eq_some_iff.1 h).1
    clear h
    go_enter Tryd.func14, Tryd.ntmps14
    go_wp2_with fail
    refine bodyPost_ret (v := .tuple #[.agg #[.int .i64 0, .int .i64 0], .int .i64 10]) (by simp [results, Tryd.results14, go_sem]) rfl ⟨rfl, (Below.refl _ _).alloc (Nat.le_refl _) _⟩
  · have hlt := h.lt
    obtain ⟨b, off, n, cp, h, _, _, _⟩ := h
    obtain ⟨c0, c1, c2, c3⟩ := cells_4 h
    have hnI : 0 ≤ (n : Int) := by omega
    clear h
    go_enter Tryd.func14, Tryd.ntmps14
    go_wp2_with fail
    go_region
    all_goals
      go_wp2_with fail
      refine bodyPost_ret (v := .tuple #[.agg #[.int .i64 c.a1, .int .i64 c.a2], .int .i64 c.bad]) (by simp [results, Tryd.results14, go_sem]) rfl ⟨rfl, ((Below.refl _ _).alloc (Nat.le_refl _) _).drew⟩
theorem good_any (p : Value) (a1 a2 er : Int) (w : World) (h : Fl w p a1 a2 er) {b : Bool} (hb : (er == 0) = b) : Calls Tryd.prog 27 #[p] w (RetBool w b) := by
  have HF := Lib.hid (fun W hW => fault_any p a1 a2 er W (h.keep hW))
  have HV := Lib.hid hb
  clear h hb
  go_enter Tryd.func27, Tryd.ntmps27
  go_wp2_with (go_at_call 14; (with_reducible refine (HF.out _ (Below.refl _ _)).mono ?_))
  rintro e x2 ⟨rfl, hb2⟩
  have HB := Lib.hid hb2
  clear hb2
  go_wp2_with fail
  go_ret
  exact ⟨ret_bool HV.out, HB.out.alloc HB.out.size _⟩
end Go.Proofs.YtffdfajlfgeicaaDoor

namespace Go.Proofs.YtffdfajlfgeicaaDoor
open Go.RowKit CurSpec
set_option maxRecDepth 100000

def RetStr (W : World) (s : ByteArray) (e : Ending) (w' : World) : Prop := e = .returned (.string s) ∧ Below W.heap.size W w'
def RetInt (W : World) (n : Int) (e : Ending) (w' : World) : Prop := e = .returned (.int .i64 n) ∧ Below W.heap.size W w'
def RetNone (W : World) (e : Ending) (w' : World) : Prop := e = .returned (.tuple #[]) ∧ Below W.heap.size W w'

section
variable (p : Value) (a1 a2 er : Int) (hne : er ≠ 0) (w : World) (h : Fl w p a1 a2 er)
include hne h
theorem good_dead : Calls Tryd.prog 27 #[p] w (RetBool w false) := good_any p a1 a2 er w h (by simpa using hne)

set_option maxHeartbeats 1000000 in
theorem next_dead' : Calls Tryd.prog 15 #[p] w (RetTk w 0 ⟨#[]⟩ 0 0) := by
  have HG := Lib.hid (fun W hW => good_dead p a1 a2 er hne W (h.keep hW))
  clear h hne
  go_enter Tryd.func15, Tryd.ntmps15
  go_wp2_with (go_at_call 27; (with_reducible refine (HG.out _ ((Below.refl _ _).alloc (Nat.le_refl _) _)).mono ?_))
  rintro e x2 ⟨rfl, hb2⟩
  obtain ⟨k1, hB, hz⟩ := one_block hb2
  obtain ⟨c0, c1, c2, c3⟩ := cells_4 k1
  obtain ⟨f0, f1, f2, f3⟩ := free_4 k1
  have HK := Lib.hid (blk_of k1 (n := 4) rfl)
  have HB := Lib.hid hB
  clear hb2 hB k1
  go_wp2_with fail
  obtain ⟨q0, q1, q2, q3⟩ := store_4 HK.out (.int .i64 0) (.string ⟨#[]⟩) (.int .i64 0) (.int .i64 0)
  refine bodyPost_ret (v := .agg #[.int .i64 0, .string ⟨#[]⟩, .int .i64 0, .int .i64 0]) (by simp [results, Tryd.results15, go_sem, q0, q1, q2, q3]) rfl ⟨rfl, below_4 HB.out (Nat.le_refl _) _ _ _ _⟩

set_option maxHeartbeats 1000000 in
theorem is_dead (k : Int) (s : ByteArray) : Calls Tryd.prog 63 #[p, .int .i64 k, .string s] w (RetBool w false) := by
  have HG := Lib.hid (good_dead p a1 a2 er hne w h)
  clear h hne
  go_enter Tryd.func63, Tryd.ntmps63
  go_wp2_with (go_at_call 27; (with_reducible refine HG.out.mono ?_))
  rintro e x2 ⟨rfl, hb2⟩
  have HB := Lib.hid hb2
  clear hb2
  go_wp2_with fail
  go_ret
  exact ⟨rfl, HB.out⟩

set_option maxHeartbeats 1000000 in
theorem take_dead (k : Int) (s : ByteArray) : Calls Tryd.prog 39 #[p, .int .i64 k, .string s] w (RetBool w false) := by
  have HG := Lib.hid (is_dead p a1 a2 er hne w h k s)
  clear h hne
  go_enter Tryd.func39, Tryd.ntmps39
  go_wp2_with (go_at_call 63; (with_reducible refine HG.out.mono ?_))
  rintro e x2 ⟨rfl, hb2⟩
  have HB := Lib.hid hb2
  clear hb2
  go_wp2_with fail
  go_ret
  exact ⟨rfl, HB.out⟩

set_option maxHeartbeats 1000000 in
theorem fail_dead' (n : Int) : Calls Tryd.prog 25 #[p, .int .i64 n] w (RetNone w) := by
  have HG := Lib.hid (good_dead p a1 a2 er hne w h)
  clear h hne
  go_enter Tryd.func25, Tryd.ntmps25
  go_wp2_with (go_at_call 27; (with_reducible refine HG.out.mono ?_))
  rintro e x2 ⟨rfl, hb2⟩
  have HB := Lib.hid hb2
  clear hb2
  go_wp2_with fail
  go_end0
  exact ⟨rfl, HB.out⟩

set_option maxHeartbeats 1000000 in
theorem want_dead (k : Int) (s : ByteArray) : Calls Tryd.prog 21 #[p, .int .i64 k, .string s] w (RetNone w) := by
  have HG := Lib.hid (take_dead p a1 a2 er hne w h k s)
  have HF := Lib.hid (fun W hW => fail_dead' p a1 a2 er hne W (h.keep hW) 2)
  clear h hne
  go_enter Tryd.func21, Tryd.ntmps21
  go_wp2_with (go_at_call 39; (with_reducible refine HG.out.mono ?_))
  rintro e x2 ⟨rfl, hb2⟩
  have HB := Lib.hid hb2
  clear hb2
  go_wp2_with (go_at_call 25; (with_reducible refine (HF.out _ HB.out).mono ?_))
  rintro e x3 ⟨rfl, hb3⟩
  have HB3 := Lib.hid (below_two' HB.out hb3)
  clear hb3
  go_wp2_with fail
  go_end0
  exact ⟨rfl, HB3.out⟩

set_option maxHeartbeats 1000000 in
theorem name_dead : Calls Tryd.prog 89 #[p] w (RetStr w ⟨#[]⟩) := by
  have HG := Lib.hid (next_dead' p a1 a2 er hne w h)
  have HF := Lib.hid (fun W hW => fail_dead' p a1 a2 er hne W (h.keep hW) 2)
  clear h hne
  go_enter Tryd.func89, Tryd.ntmps89
  go_wp2_with (go_at_call 15; (with_reducible refine HG.out.mono ?_))
  rintro e x2 ⟨rfl, hb2⟩
  have HB := Lib.hid hb2
  clear hb2
  go_wp2_with (go_at_call 25; (with_reducible refine (HF.out _ (HB.out.alloc HB.out.size _)).mono ?_))
  rintro e x3 ⟨rfl, hb3⟩
  have HB3 := Lib.hid (below_two' (HB.out.alloc HB.out.size _) hb3)
  clear hb3
  go_wp2_with fail
  go_ret
  exact ⟨rfl, HB3.out⟩
end
end Go.Proofs.YtffdfajlfgeicaaDoor

namespace Go.Proofs.YtffdfajlfgeicaaDoor
open Go.RowKit CurSpec
set_option maxRecDepth 100000

theorem full_next {c : Cur} (h : c.bad = 0) : ∃ r, full c.L c.w1 c.w2 = next c :: r ∧ (0 < c.L.length → r = full (on c).L (on c).w1 (on c).w2) := by
  obtain ⟨L, w1, w2, a1, a2, bad⟩ := c
  obtain rfl : bad = 0 := h
  cases L with
  | nil => exact ⟨[], rfl, fun h => absurd h (by simp)⟩
  | cons t r => exact ⟨_, rfl, fun _ => rfl⟩
/-- The block of a cursor, and where its next token lies. -/
theorem CurAt.open {w : World} {B : Nat} {c : Cur} (h : CurAt w B c) (h0 : c.bad = 0) :
    ∃ b off n cp, w.heap[B]? = some (.cells #[.slice (some ⟨b, off, none⟩) (n + 1) cp, .int .i64 c.a1, .int .i64 c.a2, .int .i64 c.bad] 58 (0, 0)) ∧ b ≠ B ∧ n = c.L.length ∧ n + 1 ≤ cp ∧ b < w.heap.size ∧
      w.cell? ⟨b, off, none⟩ = some (.int .i64 (next c).k) ∧ w.cell? ⟨b, off + 1, none⟩ = some (.string (next c).t) ∧ w.cell? ⟨b, off + 2, none⟩ = some (.int .i64 (next c).l) ∧ w.cell? ⟨b, off + 3, none⟩ = some (.int .i64 (next c).c) := by
  obtain ⟨b, off, n, cp, hB, hne, hn, hT⟩ := h
  obtain ⟨r, hr, _⟩ := full_next h0
  rw [hr] at hT
  obtain ⟨b', off', m, hA, hm, hc, hlt, c0, c1, c2, c3, _⟩ := hT.cons'
  cases hA; cases hm
  exact ⟨b, off, n, cp, hB, Nat.ne_of_lt hne, hn, hc, hlt, c0, c1, c2, c3⟩

set_option maxHeartbeats 1000000 in
theorem next_live (B : Nat) (c : Cur) (w : World) (h : CurAt w B c) (h0 : c.bad = 0) : Calls Tryd.prog 15 #[.pointer (some ⟨B, 0, none⟩)] w (RetTk w (next c).k (next c).t (next c).l (next c).c) := by
  have HG := Lib.hid (fun W hW => good_any _ _ _ _ W ((Fl.of h).keep hW) (b := true) (by simpa using h0))
  obtain ⟨t, ht⟩ : ∃ t, t = next c := ⟨_, rfl⟩
  have HC := Lib.hid (fun W hW => (CurAt.keep (w' := W) h hW).open h0)
  rw [← ht] at HC ⊢
  clear h h0 ht
  go_enter Tryd.func15, Tryd.ntmps15
  go_wp2_with (go_at_call 27; (with_reducible refine (HG.out _ ((Below.refl _ _).alloc (Nat.le_refl _) _)).mono ?_))
  rintro e x2 ⟨rfl, hb2⟩
  obtain ⟨k1, hB, hz⟩ := one_block hb2
  obtain ⟨b, off, n, cp, hBl, hne, hn, hcp, hlt, t0, t1, t2, t3⟩ := HC.out x2 hB
  obtain ⟨c0, c1, c2, c3⟩ := cells_4 hBl
  obtain ⟨d0, d1, d2, d3⟩ := cells_4 k1
  obtain ⟨f0, f1, f2, f3⟩ := free_4 k1
  have HK := Lib.hid (blk_of k1 (n := 4) rfl)
  have HB := Lib.hid hB
  have hnI : 0 ≤ (n : Int) := by omega
  clear hb2 hB k1 hBl hne hn hcp
  go_wp2_with fail
  obtain ⟨q0, q1, q2, q3⟩ := store_4 HK.out (.int .i64 t.k) (.string t.t) (.int .i64 t.l) (.int .i64 t.c)
  refine bodyPost_ret (v := .agg #[.int .i64 t.k, .string t.t, .int .i64 t.l, .int .i64 t.c]) (by simp [results, Tryd.results15, go_sem, q0, q1, q2, q3]) rfl ⟨rfl, below_4 HB.out (Nat.le_refl _) _ _ _ _⟩

theorem next_at (B : Nat) (c : Cur) (w : World) (h : CurAt w B c) : Calls Tryd.prog 15 #[.pointer (some ⟨B, 0, none⟩)] w (RetTk w (next c).k (next c).t (next c).l (next c).c) := by
  by_cases h0 : c.bad = 0
  · exact next_live B c w h h0
  · rw [next_dead h0]
    exact next_dead' _ _ _ _ h0 w (Fl.of h)

set_option maxHeartbeats 1000000 in
theorem is_at (B : Nat) (c : Cur) (k : Int) (s : ByteArray) (w : World) (h : CurAt w B c) : Calls Tryd.prog 63 #[.pointer (some ⟨B, 0, none⟩), .int .i64 k, .string s] w (RetBool w (isB c k s)) := by
  by_cases h0 : c.bad = 0
  · have HG := Lib.hid (good_any _ _ _ _ w (Fl.of h) (b := true) (by simpa using h0))
    have HN := Lib.hid (fun W hW => next_at B c W (h.keep hW))
    obtain ⟨t, ht⟩ : ∃ t, t = next c := ⟨_, rfl⟩
    obtain ⟨b, hb⟩ : ∃ b, b = isB c k s := ⟨_, rfl⟩
    rw [← ht] at HN
    rw [← hb]
    clear h
    by_cases h1 : t.k = k
    · have e1 : (t.k == k) = true := by simpa using h1
      by_cases h2 : t.t = s
      · have e2 : (t.t.toList == s.toList) = true := by rw [h2]; simp
        have HV : Hid (b = true) := Lib.hid (hb.trans (isB_yes h0 (by rw [← ht]; exact h1) (by rw [← ht]; exact h2)))
        clear hb ht h0 h1 h2
        go_enter Tryd.func63, Tryd.ntmps63
        go_wp2_with (go_at_call 27; (with_reducible refine HG.out.mono ?_))
        rintro e x2 ⟨rfl, hb2⟩
        have HB := Lib.hid hb2
        clear hb2
        go_wp2_with (go_at_call 15; (with_reducible refine (HN.out _ HB.out).mono ?_))
        rintro e x3 ⟨rfl, hb3⟩
        have HB3 := Lib.hid (below_two' HB.out hb3)
        clear hb3
        go_wp2_with fail
        go_ret
        exact ⟨ret_bool HV.out.symm, HB3.out.alloc HB3.out.size _⟩
      · have e2 : (t.t.toList == s.toList) = false := (Lib.bytes_beq_false_iff _ _).2 h2
        have HV : Hid (b = false) := Lib.hid (hb.trans (isB_no2 (by rw [← ht]; exact h2)))
        clear hb ht h0 h1 h2
        go_enter Tryd.func63, Tryd.ntmps63
        go_wp2_with (go_at_call 27; (with_reducible refine HG.out.mono ?_))
        rintro e x2 ⟨rfl, hb2⟩
        have HB := Lib.hid hb2
        clear hb2
        go_wp2_with (go_at_call 15; (with_reducible refine (HN.out _ HB.out).mono ?_))
        rintro e x3 ⟨rfl, hb3⟩
        have HB3 := Lib.hid (below_two' HB.out hb3)
        clear hb3
        go_wp2_with fail
        go_ret
        exact ⟨ret_bool HV.out.symm, HB3.out.alloc HB3.out.size _⟩
    · have e1 : (t.k == k) = false := by simpa using h1
      have HV : Hid (b = false) := Lib.hid (hb.trans (isB_no1 (by rw [← ht]; exact h1)))
      clear hb ht h0 h1
      go_enter Tryd.func63, Tryd.ntmps63
      go_wp2_with (go_at_call 27; (with_reducible refine HG.out.mono ?_))
      rintro e x2 ⟨rfl, hb2⟩
      have HB := Lib.hid hb2
      clear hb2
      go_wp2_with (go_at_call 15; (with_reducible refine (HN.out _ HB.out).mono ?_))
      rintro e x3 ⟨rfl, hb3⟩
      have HB3 := Lib.hid (below_two' HB.out hb3)
      clear hb3
      go_wp2_with fail
      go_ret
      exact ⟨ret_bool HV.out.symm, HB3.out.alloc HB3.out.size _⟩
  · rw [isB_dead k s h0]
    exact is_dead _ _ _ _ h0 w (Fl.of h) k s

/-- What a call leaves that writes to the cursor: another one at the same place, nothing else touched. -/
def RetAt (W : World) (B : Nat) (c : Cur) (e : Ending) (w' : World) : Prop := e = .returned (.tuple #[]) ∧ CurAt w' B c ∧ W.grownBy w' (some B)
theorem but_below {w w' : World} {B : Nat} (h : Below w.heap.size w w') : w.grownBy w' (some B) := ⟨h.os, h.tape, h.output, h.size, fun i hi _ => h.block i hi⟩

set_option maxHeartbeats 1000000 in
theorem pass_at (B : Nat) (c : Cur) (w : World) (h : CurAt w B c) : Calls Tryd.prog 64 #[.pointer (some ⟨B, 0, none⟩)] w (RetAt w B (on c)) := by
  have HC := Lib.hid h
  obtain ⟨b, off, n, cp, hBl, hne, hn, hT⟩ := h
  rcases Nat.eq_zero_or_pos n with hz | hp
  · obtain rfl : n = 0 := hz
    have HO : Hid (on c = c) := Lib.hid (on_nil hn.symm)
    obtain ⟨c0, c1, c2, c3⟩ := cells_4 hBl
    clear hBl hne hn hT
    go_enter Tryd.func64, Tryd.ntmps64
    go_wp2_with fail
    go_end0
    exact ⟨rfl, by rw [HO.out]; exact HC.out, but_refl _ _⟩
  · obtain ⟨m, rfl⟩ : ∃ m, n = m + 1 := ⟨n - 1, by omega⟩
    have hf : full c.L c.w1 c.w2 = (full c.L c.w1 c.w2).headD tz :: full (on c).L (on c).w1 (on c).w2 := on_full (by omega)
    rw [hf] at hT
    obtain ⟨b', off', m', hA, hm, hcp, hlt, _, _, _, _, hr⟩ := hT.cons'
    cases hA; cases hm
    rw [if_neg (by omega)] at hr
    obtain ⟨c0, c1, c2, c3⟩ := cells_4 hBl
    obtain ⟨f0, f1, f2, f3⟩ := free_4 hBl
    have hcI : 1 < cp := by omega
    have hb := on_bad c
    have HR : Hid (CurAt (w.setCell ⟨B, 0, none⟩ (.slice (some ⟨b, off + 4, none⟩) (m + 1) (cp - 1))) B (on c)) := Lib.hid (by
      refine ⟨b, off + 4, m, cp - 1, ?_, hne, by rw [on_len]; omega, hr.but (but_set (but_refl _ _) 0 _) (Nat.ne_of_lt hne)⟩
      have := block_setCell' hBl 0 (.slice (some ⟨b, off + 4, none⟩) (m + 1) (cp - 1))
      rw [hb.1, hb.2.1, hb.2.2]
      exact this)
    have hnI : 0 ≤ (m : Int) := by omega
    clear hBl hne hn hT hr hf hb hlt
    go_enter Tryd.func64, Tryd.ntmps64
    go_wp2_with fail
    go_end0
    exact ⟨rfl, HR.out, but_set (but_refl _ _) 0 _⟩

theorem CurAt.fault {w : World} {B : Nat} {c : Cur} (h : CurAt w B c) (l cc er : Int) :
    CurAt (((w.setCell ⟨B, 1, none⟩ (.int .i64 l)).setCell ⟨B, 2, none⟩ (.int .i64 cc)).setCell ⟨B, 3, none⟩ (.int .i64 er)) B ⟨c.L, c.w1, c.w2, l, cc, er⟩ := by
  obtain ⟨b, off, n, cp, hBl, hne, hn, hT⟩ := h
  refine ⟨b, off, n, cp, ?_, hne, hn, hT.but (but_set (but_set (but_set (but_refl _ _) 1 _) 2 _) 3 _) (Nat.ne_of_lt hne)⟩
  exact block_setCell' (block_setCell' (block_setCell' hBl 1 (.int .i64 l)) 2 (.int .i64 cc)) 3 (.int .i64 er)

set_option maxHeartbeats 1000000 in
theorem fail_at (B : Nat) (c : Cur) (er : Int) (w : World) (h : CurAt w B c) : Calls Tryd.prog 25 #[.pointer (some ⟨B, 0, none⟩), .int .i64 er] w (RetAt w B (fail c er)) := by
  by_cases h0 : c.bad = 0
  · have HG := Lib.hid (good_any _ _ _ _ w (Fl.of h) (b := true) (by simpa using h0))
    have HC := Lib.hid h
    by_cases he : er = 0
    · have e1 : (er != 0) = false := by simpa using he
      have HF : Hid (fail c er = c) := Lib.hid (by rw [he]; exact fail_zero c)
      clear h he h0
      go_enter Tryd.func25, Tryd.ntmps25
      go_wp2_with (go_at_call 27; (with_reducible refine HG.out.mono ?_))
      rintro e x2 ⟨rfl, hb2⟩
      have HB := Lib.hid hb2
      clear hb2
      go_wp2_with fail
      go_end0
      exact ⟨rfl, by rw [HF.out]; exact HC.out.keep HB.out, but_below HB.out⟩
    · have e1 : (er != 0) = true := by simpa using he
      obtain ⟨t, ht⟩ : ∃ t, t = next c := ⟨_, rfl⟩
      have HF : Hid (fail c er = ⟨c.L, c.w1, c.w2, t.l, t.c, er⟩) := Lib.hid (by rw [fail_yes h0 he, ht])
      have HO := Lib.hid (fun W hW => (CurAt.keep (w' := W) h hW).open h0)
      rw [← ht] at HO
      clear h he h0 ht
      go_enter Tryd.func25, Tryd.ntmps25
      go_wp2_with (go_at_call 27; (with_reducible refine HG.out.mono ?_))
      rintro e x2 ⟨rfl, hb2⟩
      have HB := Lib.hid hb2
      obtain ⟨b, off, n, cp, hBl, hne, hn, hcp, hlt, t0, t1, t2, t3⟩ := HO.out x2 hb2
      obtain ⟨c0, c1, c2, c3⟩ := cells_4 hBl
      obtain ⟨f0, f1, f2, f3⟩ := free_4 hBl
      have hnI : 0 ≤ (n : Int) := by omega
      clear hb2 hBl hn hcp
      go_wp2_with fail
      go_end0
      refine ⟨rfl, ?_, but_set (but_set (but_set (but_below HB.out) 1 _) 2 _) 3 _⟩
      rw [HF.out]
      exact (HC.out.keep HB.out).fault t.l t.c er
  · rw [fail_dead er h0]
    refine (fail_dead' _ _ _ _ h0 w (Fl.of h) er).mono ?_
    rintro e w' ⟨he, hb⟩
    exact ⟨he, h.keep hb, but_below hb⟩
end Go.Proofs.YtffdfajlfgeicaaDoor

namespace Go.Proofs.YtffdfajlfgeicaaDoor
open Go.RowKit CurSpec NamesSpec ValSpec
set_option maxRecDepth 100000

def RetAtB (W : World) (B : Nat) (c : Cur) (b : Bool) (e : Ending) (w' : World) : Prop := e = .returned (.bool b) ∧ CurAt w' B c ∧ W.grownBy w' (some B)
def RetAtS (W : World) (B : Nat) (c : Cur) (s : ByteArray) (e : Ending) (w' : World) : Prop := e = .returned (.string s) ∧ CurAt w' B c ∧ W.grownBy w' (some B)
def RetAtN (W : World) (B : Nat) (c : Cur) (n : Int) (e : Ending) (w' : World) : Prop := e = .returned (.int .i64 n) ∧ CurAt w' B c ∧ W.grownBy w' (some B)

set_option maxHeartbeats 1000000 in
theorem take_at (B : Nat) (c : Cur) (k : Int) (s : ByteArray) (w : World) (h : CurAt w B c) : Calls Tryd.prog 39 #[.pointer (some ⟨B, 0, none⟩), .int .i64 k, .string s] w (RetAtB w B (take c k s) (isB c k s)) := by
  have HI := Lib.hid (is_at B c k s w h)
  have HC := Lib.hid h
  clear h
  by_cases hb : isB c k s = true
  · have HT : Hid (take c k s = on c) := Lib.hid (by unfold take; rw [if_pos hb])
    rw [hb] at HI ⊢
    clear hb
    go_enter Tryd.func39, Tryd.ntmps39
    go_wp2_with (go_at_call 63; (with_reducible refine HI.out.mono ?_))
    rintro e x2 ⟨rfl, hb2⟩
    have HB := Lib.hid hb2
    clear hb2
    go_wp2_with (go_at_call 64; (with_reducible refine (pass_at _ _ _ (HC.out.keep HB.out)).mono ?_))
    rintro e x3 ⟨rfl, hC3, hb3⟩
    have HE := Lib.hid (And.intro hC3 (but_trans (but_below HB.out) hb3))
    clear hC3 hb3
    go_wp2_with fail
    go_ret
    exact ⟨rfl, by rw [HT.out]; exact HE.out.1, HE.out.2⟩
  · have HT : Hid (take c k s = c) := Lib.hid (by unfold take; rw [if_neg hb])
    have hb' : isB c k s = false := by simpa using hb
    rw [hb'] at HI ⊢
    clear hb hb'
    go_enter Tryd.func39, Tryd.ntmps39
    go_wp2_with (go_at_call 63; (with_reducible refine HI.out.mono ?_))
    rintro e x2 ⟨rfl, hb2⟩
    have HB := Lib.hid hb2
    clear hb2
    go_wp2_with fail
    go_ret
    exact ⟨rfl, by rw [HT.out]; exact HC.out.keep HB.out, but_below HB.out⟩

set_option maxHeartbeats 1000000 in
theorem want_at (B : Nat) (c : Cur) (k : Int) (s : ByteArray) (w : World) (h : CurAt w B c) : Calls Tryd.prog 21 #[.pointer (some ⟨B, 0, none⟩), .int .i64 k, .string s] w (RetAt w B (want c k s)) := by
  have HI := Lib.hid (take_at B c k s w h)
  clear h
  by_cases hb : isB c k s = true
  · have HT : Hid (want c k s = take c k s) := Lib.hid (by unfold want take; rw [if_pos hb, if_pos hb])
    rw [hb] at HI
    clear hb
    go_enter Tryd.func21, Tryd.ntmps21
    go_wp2_with (go_at_call 39; (with_reducible refine HI.out.mono ?_))
    rintro e x2 ⟨rfl, hC2, hb2⟩
    have HE := Lib.hid (And.intro hC2 hb2)
    clear hC2 hb2
    go_wp2_with fail
    go_end0
    exact ⟨rfl, by rw [HT.out]; exact HE.out.1, HE.out.2⟩
  · have HT : Hid (want c k s = fail (take c k s) 2) := Lib.hid (by unfold want take; rw [if_neg hb, if_neg hb])
    have hb' : isB c k s = false := by simpa using hb
    rw [hb'] at HI
    clear hb hb'
    go_enter Tryd.func21, Tryd.ntmps21
    go_wp2_with (go_at_call 39; (with_reducible refine HI.out.mono ?_))
    rintro e x2 ⟨rfl, hC2, hb2⟩
    have HE := Lib.hid (And.intro hC2 hb2)
    clear hC2 hb2
    go_wp2_with (go_at_call 25; (with_reducible refine (fail_at _ _ _ _ HE.out.1).mono ?_))
    rintro e x3 ⟨rfl, hC3, hb3⟩
    have HE3 := Lib.hid (And.intro hC3 (but_trans HE.out.2 hb3))
    clear hC3 hb3
    go_wp2_with fail
    go_end0
    exact ⟨rfl, by rw [HT.out]; exact HE3.out.1, HE3.out.2⟩

theorem bad_of_kind {c : Cur} {k : Int} (h : (next c).k = k) (hk : k ≠ 0) : c.bad = 0 := by
  rcases Decidable.em (c.bad = 0) with h0 | h0
  · exact h0
  · rw [next_dead h0] at h
    exact absurd h.symm hk
theorem nis_say {s : ByteArray} {b : Bool} (hb : isName s.data.toList = b) (hs : s.size ≤ 9223372036854775807) (w : World) : Calls Tryd.prog 72 #[.string s] w (RetBool w b) := by
  subst hb
  exact is_any s w hs

set_option maxHeartbeats 1000000 in
theorem name_at (B : Nat) (c : Cur) (ok : Ok c) (w : World) (h : CurAt w B c) : Calls Tryd.prog 89 #[.pointer (some ⟨B, 0, none⟩)] w (RetAtS w B (nameC c) (nameS c)) := by
  have HN := Lib.hid (next_at B c w h)
  have HC := Lib.hid h
  clear h
  obtain ⟨t, ht⟩ : ∃ t, t = next c := ⟨_, rfl⟩
  have HI := Lib.hid (fun b hb W => nis_say (s := (next c).t) (b := b) hb ok.next W)
  rw [← ht] at HN HI
  by_cases h1 : t.k = 1
  · have e1 : (t.k != 1) = false := by simpa using h1
    by_cases h2 : isName t.t.data.toList = true
    · have hB : nameB c = true := nameB_yes (bad_of_kind (k := 1) (by rw [← ht]; exact h1) (by decide)) (by rw [← ht]; exact h1) (by rw [← ht]; exact h2)
      have HS : Hid (nameC c = on c ∧ nameS c = t.t) := Lib.hid (by unfold nameC nameS; rw [if_pos hB, if_pos hB, ht]; exact ⟨rfl, rfl⟩)
      have HI2 := Lib.hid (HI.out true h2)
      clear HI hB ht h1 h2
      go_enter Tryd.func89, Tryd.ntmps89
      go_wp2_with (go_at_call 15; (with_reducible refine HN.out.mono ?_))
      rintro e x2 ⟨rfl, hb2⟩
      have HB := Lib.hid hb2
      clear hb2
      go_wp2_with (go_at_call 72; (with_reducible refine (HI2.out _).mono ?_))
      rintro e x3 ⟨rfl, hb3⟩
      obtain ⟨k3, hB3, hz3⟩ := one_block hb3
      have HB3 := Lib.hid (below_two' HB.out hB3)
      have HK3 := Lib.hid k3
      obtain ⟨t0, t1, t2, t3⟩ := cells_4 k3
      clear hb3 hB3 k3
      go_wp2_with (go_at_call 64; (with_reducible refine (pass_at _ _ _ (HC.out.keep HB3.out)).mono ?_))
      rintro e x4 ⟨rfl, hC4, hb4⟩
      have k4 := (hb4.block _ (Array.getElem?_eq_some_iff.1 HK3.out).1 (by have := HC.out.lt; have := HB.out.size; simp; omega)).trans HK3.out
      clear t0 t1 t2 t3
      obtain ⟨t0, t1, t2, t3⟩ := cells_4 k4
      have HE := Lib.hid (And.intro hC4 (but_trans (but_below HB3.out) hb4))
      clear hC4 hb4 k4
      go_wp2_with fail
      go_ret
      exact ⟨by rw [HS.out.2]; rfl, by rw [HS.out.1]; exact HE.out.1, HE.out.2⟩
    · have h2' : isName t.t.data.toList = false := by simpa using h2
      have hB : nameB c = false := nameB_no2 (by rw [← ht]; exact h2')
      have HS : Hid (nameC c = fail c 2 ∧ nameS c = ⟨#[]⟩) := Lib.hid (by unfold nameC nameS; rw [hB]; exact ⟨rfl, rfl⟩)
      have HI2 := Lib.hid (HI.out false h2')
      clear HI hB ht h1 h2 h2'
      go_enter Tryd.func89, Tryd.ntmps89
      go_wp2_with (go_at_call 15; (with_reducible refine HN.out.mono ?_))
      rintro e x2 ⟨rfl, hb2⟩
      have HB := Lib.hid hb2
      clear hb2
      go_wp2_with (go_at_call 72; (with_reducible refine (HI2.out _).mono ?_))
      rintro e x3 ⟨rfl, hb3⟩
      obtain ⟨k3, hB3, hz3⟩ := one_block hb3
      have HB3 := Lib.hid (below_two' HB.out hB3)
      clear hb3 hB3 k3
      go_wp2_with (go_at_call 25; (with_reducible refine (fail_at _ _ _ _ (HC.out.keep HB3.out)).mono ?_))
      rintro e x4 ⟨rfl, hC4, hb4⟩
      have HE := Lib.hid (And.intro hC4 (but_trans (but_below HB3.out) hb4))
      clear hC4 hb4
      go_wp2_with fail
      go_ret
      exact ⟨by rw [HS.out.2]; rfl, by rw [HS.out.1]; exact HE.out.1, HE.out.2⟩
  · have e1 : (t.k != 1) = true := by simpa using h1
    have hB : nameB c = false := nameB_no1 (by rw [← ht]; exact h1)
    have HS : Hid (nameC c = fail c 2 ∧ nameS c = ⟨#[]⟩) := Lib.hid (by unfold nameC nameS; rw [hB]; exact ⟨rfl, rfl⟩)
    clear HI hB ht h1
    go_enter Tryd.func89, Tryd.ntmps89
    go_wp2_with (go_at_call 15; (with_reducible refine HN.out.mono ?_))
    rintro e x2 ⟨rfl, hb2⟩
    have HB := Lib.hid hb2
    clear hb2
    go_wp2_with (go_at_call 25; (with_reducible refine (fail_at _ _ _ _ ((HC.out.keep HB.out).alloc _)).mono ?_))
    rintro e x4 ⟨rfl, hC4, hb4⟩
    have HE := Lib.hid (And.intro hC4 (but_trans (but_below (HB.out.alloc HB.out.size _)) hb4))
    clear hC4 hb4
    go_wp2_with fail
    go_ret
    exact ⟨by rw [HS.out.2]; rfl, by rw [HS.out.1]; exact HE.out.1, HE.out.2⟩

/-- What number tells of a token. -/
def numR (k : Int) (l : List UInt8) (m : Int) : Int × Int := if k = 2 then (if getE l = 0 ∧ m < getN l then (0, 3) else (getN l, getE l)) else (0, 2)
def RetPair (W : World) (r : Int × Int) (e : Ending) (w' : World) : Prop := e = .returned (.tuple #[.int .i64 r.1, .int .i64 r.2]) ∧ Below W.heap.size W w'
theorem get_say {s : ByteArray} {n er : Int} (hn : getN s.data.toList = n) (he : getE s.data.toList = er) (hs : s.size ≤ 9223372036854775807) (w : World) : Calls Tryd.prog 106 #[.string s] w (RetGet w n er) := by
  subst hn he
  exact get_any s w hs
set_option maxHeartbeats 1000000 in
theorem pnum_any (k : Int) (s : ByteArray) (l c m : Int) (w : World) (hs : s.size ≤ 9223372036854775807) : Calls Tryd.prog 102 #[.agg #[.int .i64 k, .string s, .int .i64 l, .int .i64 c], .int .i64 m] w (RetPair w (numR k s.data.toList m)) := by
  by_cases hk : k = 2
  · have e1 : (k != 2) = false := by simpa using hk
    obtain ⟨N, hN⟩ : ∃ N, N = getN s.data.toList := ⟨_, rfl⟩
    obtain ⟨E, hE⟩ : ∃ E, E = getE s.data.toList := ⟨_, rfl⟩
    have HG := Lib.hid (fun W => get_say hN.symm hE.symm hs W)
    by_cases h2 : E = 0
    · by_cases h3 : m < N
      · have HV : Hid (numR k s.data.toList m = (0, 3)) := Lib.hid (by unfold numR; rw [if_pos hk, ← hN, ← hE, if_pos ⟨h2, h3⟩])
        have e2 : (E == 0) = true := by simpa using h2
        clear hN hE hk h2
        go_enter Tryd.func102, Tryd.ntmps102
        go_wp2_with (go_at_call 106; (with_reducible refine (HG.out _).mono ?_))
        rintro e w' ⟨rfl, rfl⟩
        go_wp2_with fail
        go_ret2
        exact ⟨by rw [HV.out]; rfl, (Below.refl _ _).alloc (Nat.le_refl _) _⟩
      · have HV : Hid (numR k s.data.toList m = (N, E)) := Lib.hid (by unfold numR; rw [if_pos hk, ← hN, ← hE, if_neg (fun h => h3 h.2)])
        have e2 : (E == 0) = true := by simpa using h2
        have e3 : decide (m < N) = false := by simpa using h3
        clear hN hE hk h2 h3
        go_enter Tryd.func102, Tryd.ntmps102
        go_wp2_with (go_at_call 106; (with_reducible refine (HG.out _).mono ?_))
        rintro e w' ⟨rfl, rfl⟩
        go_wp2_with fail
        go_ret2
        exact ⟨by rw [HV.out]; rfl, (Below.refl _ _).alloc (Nat.le_refl _) _⟩
    · have HV : Hid (numR k s.data.toList m = (N, E)) := Lib.hid (by unfold numR; rw [if_pos hk, ← hN, ← hE, if_neg (fun h => h2 h.1)])
      have e2 : (E == 0) = false := by simpa using h2
      clear hN hE hk h2
      go_enter Tryd.func102, Tryd.ntmps102
      go_wp2_with (go_at_call 106; (with_reducible refine (HG.out _).mono ?_))
      rintro e w' ⟨rfl, rfl⟩
      go_wp2_with fail
      go_ret2
      exact ⟨by rw [HV.out]; rfl, (Below.refl _ _).alloc (Nat.le_refl _) _⟩
  · have e1 : (k != 2) = true := by simpa using hk
    have HV : Hid (numR k s.data.toList m = (0, 2)) := Lib.hid (by unfold numR; rw [if_neg hk])
    clear hk
    go_enter Tryd.func102, Tryd.ntmps102
    go_wp2_with fail
    go_ret2
    exact ⟨by rw [HV.out]; rfl, (Below.refl _ _).alloc (Nat.le_refl _) _⟩
theorem numR_is (c : Cur) (m : Int) : (numR (next c).k (next c).t.data.toList m).2 = numE c m ∧ (numE c m = 0 → (numR (next c).k (next c).t.data.toList m).1 = numN c m) := by
  by_cases hk : (next c).k = 2
  · have h0 := bad_of_kind hk (by decide)
    by_cases hE : getE (next c).t.data.toList = 0
    · by_cases hm : m < getN (next c).t.data.toList
      · have e1 : numR (next c).k (next c).t.data.toList m = (0, 3) := by unfold numR; rw [if_pos hk, if_pos ⟨hE, hm⟩]
        rw [e1, numE_most h0 hk hE hm]
        exact ⟨rfl, fun h => absurd h (by decide)⟩
      · have e1 : numR (next c).k (next c).t.data.toList m = (getN (next c).t.data.toList, getE (next c).t.data.toList) := by unfold numR; rw [if_pos hk, if_neg (fun h => hm h.2)]
        have e2 := numE_good h0 hk hE hm
        rw [e1, e2]
        exact ⟨hE, fun _ => by unfold numN; rw [if_pos e2]⟩
    · have e1 : numR (next c).k (next c).t.data.toList m = (getN (next c).t.data.toList, getE (next c).t.data.toList) := by unfold numR; rw [if_pos hk, if_neg (fun h => hE h.1)]
      rw [e1, numE_get h0 hk hE]
      exact ⟨rfl, fun h => absurd h hE⟩
  · have e1 : numR (next c).k (next c).t.data.toList m = (0, 2) := if_neg hk
    rw [e1, numE_kind hk]
    exact ⟨rfl, fun h => absurd h (by decide)⟩

set_option maxHeartbeats 1000000 in
theorem number_at (B : Nat) (c : Cur) (m : Int) (ok : Ok c) (w : World) (h : CurAt w B c) : Calls Tryd.prog 88 #[.pointer (some ⟨B, 0, none⟩), .int .i64 m] w (RetAtN w B (numC c m) (numN c m)) := by
  have HN := Lib.hid (next_at B c w h)
  have HC := Lib.hid h
  clear h
  obtain ⟨v1, v2⟩ := numR_is c m
  have HP := Lib.hid (fun W => pnum_any (next c).k (next c).t (next c).l (next c).c m W ok.next)
  obtain ⟨t, ht⟩ : ∃ t, t = next c := ⟨_, rfl⟩
  rw [← ht] at HN HP v1 v2
  obtain ⟨N, E, hr⟩ : ∃ N E, numR t.k t.t.data.toList m = (N, E) := ⟨_, _, rfl⟩
  rw [hr] at HP v1 v2
  simp only at v1 v2
  clear hr ht
  by_cases hE : E = 0
  · have e1 : (E != 0) = false := by simpa using hE
    have HS : Hid (numC c m = on c ∧ N = numN c m) := Lib.hid ⟨by unfold numC; rw [if_pos (by rw [← v1]; exact hE)], v2 (by rw [← v1]; exact hE)⟩
    clear v1 v2 hE
    go_enter Tryd.func88, Tryd.ntmps88
    go_wp2_with (go_at_call 15; (with_reducible refine HN.out.mono ?_))
    rintro e x2 ⟨rfl, hb2⟩
    have HB := Lib.hid hb2
    clear hb2
    go_wp2_with (go_at_call 102; (with_reducible refine (HP.out _).mono ?_))
    rintro e x3 ⟨rfl, hb3⟩
    have HB3 := Lib.hid (below_two' HB.out hb3)
    clear hb3
    go_wp2_with (go_at_call 64; (with_reducible refine (pass_at _ _ _ (HC.out.keep HB3.out)).mono ?_))
    rintro e x4 ⟨rfl, hC4, hb4⟩
    have HE := Lib.hid (And.intro hC4 (but_trans (but_below HB3.out) hb4))
    clear hC4 hb4
    go_wp2_with fail
    go_ret
    exact ⟨ret_int HS.out.2, by rw [HS.out.1]; exact HE.out.1, HE.out.2⟩
  · have e1 : (E != 0) = true := by simpa using hE
    have HS : Hid (numC c m = fail c E ∧ (0 : Int) = numN c m) := Lib.hid (by
      obtain ⟨q1, q2⟩ := num_fail (m := m) v1.symm hE
      exact ⟨q1, q2.symm⟩)
    clear v1 v2 hE
    go_enter Tryd.func88, Tryd.ntmps88
    go_wp2_with (go_at_call 15; (with_reducible refine HN.out.mono ?_))
    rintro e x2 ⟨rfl, hb2⟩
    have HB := Lib.hid hb2
    clear hb2
    go_wp2_with (go_at_call 102; (with_reducible refine (HP.out _).mono ?_))
    rintro e x3 ⟨rfl, hb3⟩
    have HB3 := Lib.hid (below_two' HB.out hb3)
    clear hb3
    go_wp2_with (go_at_call 25; (with_reducible refine (fail_at _ _ _ _ (HC.out.keep HB3.out)).mono ?_))
    rintro e x4 ⟨rfl, hC4, hb4⟩
    have HE := Lib.hid (And.intro hC4 (but_trans (but_below HB3.out) hb4))
    clear hC4 hb4
    go_wp2_with fail
    go_ret
    exact ⟨ret_int HS.out.2, by rw [HS.out.1]; exact HE.out.1, HE.out.2⟩

set_option maxHeartbeats 1000000 in
theorem number_dead (p : Value) (a1 a2 er : Int) (hne : er ≠ 0) (w : World) (h : Fl w p a1 a2 er) (m : Int) : Calls Tryd.prog 88 #[p, .int .i64 m] w (RetInt w 0) := by
  have HG := Lib.hid (next_dead' p a1 a2 er hne w h)
  have HF := Lib.hid (fun W hW => fail_dead' p a1 a2 er hne W (h.keep hW) 2)
  have HP := Lib.hid (fun W => pnum_any 0 ⟨#[]⟩ 0 0 m W (by decide))
  clear h hne
  go_enter Tryd.func88, Tryd.ntmps88
  go_wp2_with (go_at_call 15; (with_reducible refine HG.out.mono ?_))
  rintro e x2 ⟨rfl, hb2⟩
  have HB := Lib.hid hb2
  clear hb2
  go_wp2_with (go_at_call 102; (with_reducible refine (HP.out _).mono ?_))
  rintro e x3 ⟨rfl, hb3⟩
  have HB3 := Lib.hid (below_two' HB.out hb3)
  clear hb3
  have hv : numR 0 (⟨#[]⟩ : ByteArray).data.toList m = (0, 2) := if_neg (by decide)
  rw [hv]
  clear hv
  go_wp2_with (go_at_call 25; (with_reducible refine (HF.out _ HB3.out).mono ?_))
  rintro e x4 ⟨rfl, hb4⟩
  have HB4 := Lib.hid (below_two' HB3.out hb4)
  clear hb4
  go_wp2_with fail
  go_ret
  exact ⟨rfl, HB4.out⟩
end Go.Proofs.YtffdfajlfgeicaaDoor

namespace Go.Proofs.YtffdfajlfgeicaaDoor
open Go.RowKit CurSpec
set_option maxRecDepth 100000

theorem info_tk : (Tryd.prog.info? 33).map (fun i => (i.zero, i.size, i.bytes)) = some (some (.agg #[.int .i64 0, .string ByteArray.empty, .int .i64 0, .int .i64 0]), 4, 40) := by kernel_rfl
/-- The last token's place. -/
def lastP (L : List Tk) : Int × Int := match L.getLast? with | none => (0, 0) | some t => (t.l, t.c)
theorem full_snoc : ∀ (L : List Tk) (a b : Int), full L a b = L ++ [⟨0, ⟨#[]⟩, (match L.getLast? with | none => (a, b) | some t => (t.l, t.c)).1, (match L.getLast? with | none => (a, b) | some t => (t.l, t.c)).2⟩]
  | [], a, b => rfl
  | t :: r, a, b => by
    rw [full, full_snoc r t.l t.c]
    cases r with
    | nil => rfl
    | cons u q =>
      rw [List.getLast?_cons_cons]
      obtain ⟨x, hx⟩ : ∃ x, (u :: q).getLast? = some x := ⟨_, List.getLast?_eq_some_getLast (by simp)⟩
      rw [hx]
      rfl
theorem full_zero (L : List Tk) : full L 0 0 = L ++ [⟨0, ⟨#[]⟩, (lastP L).1, (lastP L).2⟩] := full_snoc L 0 0

def NewPost (W : World) (l : List Tk) (e : Ending) (w' : World) : Prop :=
  ∃ B, e = .returned (.pointer (some ⟨B, 0, none⟩)) ∧ W.heap.size ≤ B ∧ CurAt w' B ⟨l, 0, 0, 0, 0, 0⟩ ∧ Below W.heap.size W w'

theorem last_cells {w : World} {b off m : Nat} {l : List Tk} (hl : m + 1 = l.length) (hcell : ∀ j u, (tksV l)[j]? = some u → w.cell? ⟨b, off + j, none⟩ = some u) :
    w.cell? ⟨b, off + m * 4 + 2, none⟩ = some (.int .i64 (lastP l).1) ∧ w.cell? ⟨b, off + m * 4 + 3, none⟩ = some (.int .i64 (lastP l).2) := by
  obtain ⟨t, ht⟩ : ∃ t, l[m]? = some t := get_some (by omega)
  have hlast : l.getLast? = some t := by rw [List.getLast?_eq_getElem?, ← hl]; exact ht
  obtain ⟨_, _, g2, g3⟩ := tksV_get ht
  unfold lastP
  rw [hlast]
  exact ⟨hcell _ _ g2, hcell _ _ g3⟩
theorem lastP_nil {l : List Tk} (h : l.length = 0) : lastP l = (0, 0) := by rw [List.eq_nil_of_length_eq_zero h]; rfl

/-- Behind the second append. -/
theorem new_fin {W w2 : World} {l : List Tk} {n g cap : Nat} {p1 p2 : Int} (hn : n = l.length) (hp : lastP l = (p1, p2)) (hb : Below W.heap.size W w2) (hg : g < w2.heap.size)
    (hown : w2.ownsRow (W.heap.size + 1) 33 4 (.slice (some ⟨g, 0, none⟩) (n + 1) cap) (n + 1) (tksV l ++ [.int .i64 0, .string ⟨#[]⟩, .int .i64 p1, .int .i64 p2])) :
    NewPost W l (.returned (.pointer (some ⟨w2.heap.size, 0, none⟩))) (w2.alloc (.cells #[.slice (some ⟨g, 0, none⟩) (n + 1) cap, .int .i64 0, .int .i64 0, .int .i64 0] 58)) := by
  refine ⟨_, rfl, hb.size, ⟨g, 0, n, cap, heap_alloc_new _ _, by omega, hn, Toks.alloc ⟨n + 1, by rw [full_length, hn], ?_⟩ _⟩, hb.alloc hb.size _⟩
  have e : tksV (full l 0 0) = tksV l ++ [.int .i64 0, .string ⟨#[]⟩, .int .i64 p1, .int .i64 p2] := by
    rw [full_zero, hp]
    simp [tksV, tkV]
  show Rdk 4 w2 _ (n + 1) (tksV (full l 0 0))
  rw [e]
  exact Rdk.own hown

theorem made_at {W : World} {base cap H : Nat} {cur : Array Value} (hH : W.heap.size = H) (hb : base ≤ W.heap.size) (hm : cap ≤ maxLen) (hs : cur.size = cap * 4) :
    (W.alloc (.cells cur 33)).ownsRow base 33 4 (.slice (some ⟨H, 0, none⟩) 0 cap) 0 [] := by
  subst hH
  exact World.ownsRow_made W cur cap hb hm hs
/-- Behind the first append: the end's token, the row. -/
structure NewMid (W : World) (l : List Tk) (n : Nat) (p1 p2 : Int) (v : Value) (w1 : World) : Prop where
  tok : w1.heap[W.heap.size]? = some (.cells #[.int .i64 0, .string ⟨#[]⟩, .int .i64 p1, .int .i64 p2] 33 (0, 0))
  own : w1.ownsRow (W.heap.size + 1) 33 4 v n (tksV l)
  below : Below W.heap.size W w1
theorem new_mid {W w1 : World} {l : List Tk} {n cap : Nat} {p1 p2 : Int} {v : Value} {mk : Array Value}
    (hown : w1.ownsRow (W.heap.size + 1) 33 4 v n (tksV l))
    (hg : ((W.alloc (.cells #[.int .i64 0, .string ⟨#[]⟩, .int .i64 p1, .int .i64 p2] 33)).alloc (.cells mk 33)).grownBy w1 (Value.ownBlock (.slice (some ⟨W.heap.size + 1, 0, none⟩) 0 cap))) :
    NewMid W l n p1 p2 v w1 := by
  have hz := hg.size
  simp only [World.size_alloc] at hz
  refine ⟨?_, hown, ⟨hg.os, hg.tape, hg.output, by omega, fun i hi => ?_⟩⟩
  · exact (hg.block _ (by simp; omega) (by simp [Value.ownBlock])).trans ((heap_alloc_old _ _ (by simp)).trans (heap_alloc_new _ _))
  · exact (hg.block i (by simp; omega) (by simp [Value.ownBlock]; omega)).trans ((heap_alloc_old _ _ (by simp; omega)).trans (heap_alloc_old _ _ hi))

theorem new_below {W w1 w2 : World} {l : List Tk} {n : Nat} {p1 p2 : Int} {v : Value} {o : Obj} (h : NewMid W l n p1 p2 v w1) (hg : (w1.alloc o).grownBy w2 v.ownBlock) : Below W.heap.size W w2 := by
  have hb := own_block_bd h.own
  have hz := hg.size
  have hz1 := h.below.size
  simp only [World.size_alloc] at hz
  refine h.below.trans ⟨hg.os, hg.tape, hg.output, by omega, fun i hi => ?_⟩
  exact (hg.block i (by simp; omega) (fun e => by have := (hb i e.symm).1; omega)).trans (heap_alloc_old _ _ (by omega))

set_option maxHeartbeats 2000000 in
theorem new_any (A : Option Addr) (n cp : Nat) (l : List Tk) (w : World) (h : Toks w (.slice A n cp) l) (hl : n ≤ 1000000) : Calls Tryd.prog 11 #[.slice A n cp] w (NewPost w l) := by
  obtain ⟨i0, hi, hz0, hz1, hz2⟩ := info_parts info_tk
  obtain ⟨n', hn', hR⟩ := h
  obtain rfl : n = n' := by obtain ⟨A', c', heq, _⟩ := hR; cases heq; rfl
  have hmk : ∀ W, (Instr.makeSlice 29 (.int .i64 0) (.int .i64 ((n : Int) + 1))).run Tryd.prog W = .ok (.slice (some ⟨W.heap.size, 0, none⟩) 0 (n + 1)) (W.alloc (.cells (madeCells (Value.agg #[.int .i64 0, .string ByteArray.empty, .int .i64 0, .int .i64 0]).cells ((n + 1) * 4)) 33)) := fun W => by
    have h := run_make (P := Tryd.prog) W 29 33 i0 _ Tryd.underlying29 hi hz0 .i64 .i64 0 ((n : Int) + 1) (by omega) (by omega) (by rw [hz2]; omega) (by omega)
    rw [hz1] at h
    exact h
  have hms := size_madeCells (Value.agg #[.int .i64 0, .string ByteArray.empty, .int .i64 0, .int .i64 0]).cells ((n + 1) * 4)
  generalize madeCells (Value.agg #[.int .i64 0, .string ByteArray.empty, .int .i64 0, .int .i64 0]).cells ((n + 1) * 4) = mk at hmk hms
  have HM := Lib.hid hms
  have HR := Lib.hid hR
  have HN := Lib.hid hn'
  clear hms hR hn'
  rcases Nat.eq_zero_or_pos n with h0 | h0
  · have hp : lastP l = (0, 0) := lastP_nil (by rw [← HN.out]; exact h0)
    have HP := Lib.hid hp
    have hn0 : n ≤ 0 := by omega
    have hd : decide (0 < (n : Int)) = false := decide_eq_false (by omega)
    clear hp h0
    go_enter Tryd.func11, Tryd.ntmps11
    go_wp2_with (at_builtin; refine wpList_append_rdk _ rfl (.tmp 21) (.tmp 22) 29 rfl (w.heap.size + 1) 33 i0 _ 4 40 Tryd.underlying29 hi hz0 hz1 hz2 rfl (by decide) _ 0 [] rfl (made_at (by simp) (by simp) (by unfold maxLen; omega) HM.out) _ n (tksV l) rfl ((HR.out.alloc _).alloc _) (tksV_one l) (by unfold maxLen; omega) (by omega) (by simp) ?_)
    intro v1 w1 hown1 hgrow1 _
    have HMid := Lib.hid (new_mid hown1 hgrow1)
    clear hown1 hgrow1 hmk
    obtain ⟨t0, t1, t2, t3⟩ := cells_4 HMid.out.tok
    go_wp2_with (at_builtin; refine wpList_append_lies _ rfl (.tmp 24) (.tmp 26) 29 rfl (w.heap.size + 1) 33 i0 _ 4 40 Tryd.underlying29 hi hz0 hz1 hz2 rfl (by decide) v1 n (tksV l) rfl (HMid.out.own.alloc _) ⟨w1.heap.size, 0, none⟩ 1 1 [.int .i64 0, .string ⟨#[]⟩, .int .i64 0, .int .i64 0] rfl rfl (World.news_of_block (cs := #[.int .i64 0, .string ⟨#[]⟩, .int .i64 0, .int .i64 0]) (heap_alloc_new w1 _)) (by simp [Value.oneCell']) (by decide) (by unfold maxLen; omega) (by omega) (by have := HMid.out.below.size; have := HMid.out.own.2; have := (Array.getElem?_eq_some_iff.1 HMid.out.tok).1; simp; omega) (w1.heap.size + 1) (by simp) ?_)
    intro g cap w2 hown2 hgrow2 _ hlt2
    have HE := Lib.hid (new_fin HN.out HP.out (new_below HMid.out hgrow2) hlt2 hown2)
    clear hown2 hgrow2 t0 t1 t2 t3
    go_wp2_with fail
    go_ret
    exact HE.out
  · obtain ⟨m, rfl⟩ : ∃ m, n = m + 1 := ⟨n - 1, by omega⟩
    have hR := HR.out
    obtain ⟨A', c', heq, _, _, hA⟩ := hR
    cases heq
    obtain ⟨b, off, rfl, hlt, hcell⟩ := hA (by omega)
    obtain ⟨c2, c3⟩ := last_cells HN.out hcell
    obtain ⟨p1, p2, hp⟩ : ∃ p1 p2, lastP l = (p1, p2) := ⟨_, _, rfl⟩
    rw [hp] at c2 c3
    simp only at c2 c3
    have HP := Lib.hid hp
    rw [show ((m + 1 : Nat) : Int) = (m : Int) + 1 by omega] at hmk
    clear hp hcell hA h0
    go_enter Tryd.func11, Tryd.ntmps11
    go_wp2_with (at_builtin; refine wpList_append_rdk _ rfl (.tmp 21) (.tmp 22) 29 rfl (w.heap.size + 1) 33 i0 _ 4 40 Tryd.underlying29 hi hz0 hz1 hz2 rfl (by decide) _ 0 [] rfl (made_at (by simp) (by simp) (by unfold maxLen; omega) HM.out) _ (m + 1) (tksV l) rfl ((HR.out.alloc _).alloc _) (tksV_one l) (by unfold maxLen; omega) (by omega) (by simp) ?_)
    intro v1 w1 hown1 hgrow1 _
    have HMid := Lib.hid (new_mid hown1 hgrow1)
    clear hown1 hgrow1 hmk c2 c3
    obtain ⟨t0, t1, t2, t3⟩ := cells_4 HMid.out.tok
    go_wp2_with (at_builtin; refine wpList_append_lies _ rfl (.tmp 24) (.tmp 26) 29 rfl (w.heap.size + 1) 33 i0 _ 4 40 Tryd.underlying29 hi hz0 hz1 hz2 rfl (by decide) v1 (m + 1) (tksV l) rfl (HMid.out.own.alloc _) ⟨w1.heap.size, 0, none⟩ 1 1 [.int .i64 0, .string ⟨#[]⟩, .int .i64 p1, .int .i64 p2] rfl rfl (World.news_of_block (cs := #[.int .i64 0, .string ⟨#[]⟩, .int .i64 p1, .int .i64 p2]) (heap_alloc_new w1 _)) (by simp [Value.oneCell']) (by decide) (by unfold maxLen; omega) (by omega) (by have := HMid.out.below.size; have := HMid.out.own.2; have := (Array.getElem?_eq_some_iff.1 HMid.out.tok).1; simp; omega) (w1.heap.size + 1) (by simp) ?_)
    intro g cap w2 hown2 hgrow2 _ hlt2
    have HE := Lib.hid (new_fin HN.out HP.out (new_below HMid.out hgrow2) hlt2 hown2)
    clear hown2 hgrow2 t0 t1 t2 t3
    go_wp2_with fail
    go_ret
    exact HE.out
end Go.Proofs.YtffdfajlfgeicaaDoor
