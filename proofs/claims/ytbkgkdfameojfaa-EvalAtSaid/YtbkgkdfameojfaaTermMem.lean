/- How terms lie in memory; what a call answers that gives a list of numbers or of texts. No condition. -/
import Derived.Test.YtbkgkdfameojfaaRows
import Derived.Test.YtbkgkdfameojfaaKitB
import Derived.Test.YtbkgkdfameojfaaNamesPlace
import Derived.Test.YtbkgkdfameojfaaTermSpec
namespace Go.Proofs.Ytbkgkdfameojfaa
open Go.RowKit TermSpec
set_option maxRecDepth 100000

def tmV (t : Tm) : List Value := [.int .i64 t.op, .int .i64 t.n, .string t.s]
def tmsV (l : List Tm) : List Value := l.flatMap tmV
theorem tmV_length (t : Tm) : (tmV t).length = 3 := rfl
theorem tmsV_length (l : List Tm) : (tmsV l).length = l.length * 3 := flat_length tmV_length l
theorem tmV_one (t : Tm) : ∀ u ∈ tmV t, u.oneCell' = true := by simp [tmV, Value.oneCell']
theorem tmsV_one (l : List Tm) : ∀ u ∈ tmsV l, u.oneCell' = true := by
  intro u hu
  obtain ⟨t, _, h⟩ := List.mem_flatMap.1 hu
  exact tmV_one t u h
theorem tmsV_get {l : List Tm} {i : Nat} {t : Tm} (h : l[i]? = some t) : (tmsV l)[i * 3]? = some (.int .i64 t.op) ∧ (tmsV l)[i * 3 + 1]? = some (.int .i64 t.n) ∧ (tmsV l)[i * 3 + 2]? = some (.string t.s) :=
  ⟨flat_get (j := 0) tmV_length h (by omega), flat_get (j := 1) tmV_length h (by omega), flat_get (j := 2) tmV_length h (by omega)⟩

/-- The value is a slice of these terms. -/
def Tms (w : World) (v : Value) (l : List Tm) : Prop := ∃ n, n = l.length ∧ Rdk 3 w v n (tmsV l)
theorem Tms.keep {w w' : World} {v : Value} {l : List Tm} (h : Tms w v l) (hb : Below w.heap.size w w') : Tms w' v l := by
  obtain ⟨n, hn, h⟩ := h
  exact ⟨n, hn, h.keep hb⟩
theorem Tms.alloc {w : World} {v : Value} {l : List Tm} (h : Tms w v l) (o : Obj) : Tms (w.alloc o) v l := h.keep ((Below.refl _ _).alloc (Nat.le_refl _) _)
theorem Tms.shape {w : World} {v : Value} {l : List Tm} (h : Tms w v l) : ∃ A n c, v = .slice A n c ∧ n = l.length ∧ n ≤ c := by
  obtain ⟨n, hn, A, c, hv, hc, _⟩ := h
  exact ⟨A, n, c, hv, hn, hc⟩
theorem Tms.cap {w : World} {A : Option Addr} {n c : Nat} {l : List Tm} (h : Tms w (.slice A n c) l) : n ≤ c := by
  obtain ⟨A', n', c', heq, _, hc⟩ := h.shape
  cases heq
  exact hc
/-- The cells of the i-th term. -/
theorem Tms.at_ {w : World} {A : Option Addr} {n c : Nat} {l : List Tm} {i : Nat} {t : Tm} (h : Tms w (.slice A n c) l) (hi : l[i]? = some t) :
    ∃ b off, A = some ⟨b, off, none⟩ ∧ b < w.heap.size ∧ w.cell? ⟨b, off + i * 3, none⟩ = some (.int .i64 t.op) ∧ w.cell? ⟨b, off + i * 3 + 1, none⟩ = some (.int .i64 t.n) ∧ w.cell? ⟨b, off + i * 3 + 2, none⟩ = some (.string t.s) := by
  obtain ⟨m, hm, A', c', heq, hc, hl, hA⟩ := h
  cases heq
  have := get_lt hi
  obtain ⟨b, off, rfl, hb, hcell⟩ := hA (by omega)
  obtain ⟨g0, g1, g2⟩ := tmsV_get hi
  exact ⟨b, off, rfl, hb, hcell _ _ g0, by rw [Nat.add_assoc]; exact hcell _ _ g1, by rw [Nat.add_assoc]; exact hcell _ _ g2⟩
theorem tms_drop {l : List Tm} {k : Nat} : tmsV (l.drop k) = (tmsV l).drop (k * 3) := by
  induction l generalizing k with
  | nil => simp [tmsV]
  | cons t r ih =>
    cases k with
    | zero => simp
    | succ k =>
      rw [List.drop_succ_cons, ih, show tmsV (t :: r) = tmV t ++ tmsV r from List.flatMap_cons .., show (k + 1) * 3 = 3 + k * 3 by omega, ← List.drop_drop]
      rfl
theorem tms_take {l : List Tm} {k : Nat} : tmsV (l.take k) = (tmsV l).take (k * 3) := by
  induction l generalizing k with
  | nil => simp [tmsV]
  | cons t r ih =>
    cases k with
    | zero => simp [tmsV]
    | succ k =>
      rw [List.take_succ_cons, show tmsV (t :: r.take k) = tmV t ++ tmsV (r.take k) from List.flatMap_cons .., ih, show tmsV (t :: r) = tmV t ++ tmsV r from List.flatMap_cons .., show (k + 1) * 3 = 3 + k * 3 by omega, List.take_append, tmV_length]
      rw [show (tmV t).take (3 + k * 3) = tmV t from List.take_of_length_le (by rw [tmV_length]; omega), Nat.add_sub_cancel_left]

/-- A literal slice just made; its block's number as the walk spells it. -/
theorem lit_here {w : World} {cs : Array Value} {xs : List Value} {e : TypeId} {n k : Nat} (hk : k = w.heap.size) (hn : n = xs.length) (hx : cs.toList = xs) : Rd (w.alloc (.cells cs e)) (.slice (some ⟨k, 0, none⟩) n n) xs := by
  subst hk; subst hx
  exact Rd.lit (by simpa using hn)
theorem tms_lit {w : World} {cs : Array Value} {l : List Tm} {e : TypeId} {n k : Nat} (hk : k = w.heap.size) (hn : n = l.length) (hx : cs.toList = tmsV l) : Tms (w.alloc (.cells cs e)) (.slice (some ⟨k, 0, none⟩) n n) l := by
  subst hk
  refine ⟨n, hn, _, n, rfl, Nat.le_refl _, by rw [tmsV_length, hn], fun _ => ⟨w.heap.size, 0, rfl, by simp, fun j u hj => ?_⟩⟩
  rw [← hx, Array.getElem?_toList] at hj
  rw [World.cell?_alloc_at _ _ _ _ rfl]
  simpa using hj
/-- A part of a slice of terms. -/
theorem Tms.part {w : World} {b off n c c' i j : Nat} {l : List Tm} (h : Tms w (.slice (some ⟨b, off, none⟩) n c) l) (hij : i ≤ j) (hj : j ≤ n) (hc : j - i ≤ c') : Tms w (.slice (some ⟨b, off + i * 3, none⟩) (j - i) c') ((l.drop i).take (j - i)) := by
  obtain ⟨m, hm, A', c2, heq, hcm, hl, hA⟩ := h
  cases heq
  refine ⟨j - i, by rw [List.length_take, List.length_drop]; omega, _, c', rfl, hc, by rw [tmsV_length, List.length_take, List.length_drop]; rw [show min (j - i) (l.length - i) = j - i by omega], fun h0 => ?_⟩
  obtain ⟨b', off', heq, hb, hcell⟩ := hA (by omega)
  cases heq
  refine ⟨b, off + i * 3, rfl, hb, fun q u hq => ?_⟩
  rw [tms_take, tms_drop] at hq
  have hq1 : q < (j - i) * 3 := by have := (List.getElem?_eq_some_iff.1 hq).1; rw [List.length_take] at this; omega
  rw [List.getElem?_take_of_lt hq1, List.getElem?_drop] at hq
  rw [Nat.add_assoc]
  exact hcell _ _ hq

theorem elem_tms : Try.prog.elem 22 = 39 := by kernel_rfl
theorem slice_mid (b off n c p e : Nat) (hp : p < c) (he : p ≤ e) (hc : e ≤ c) :
    ∀ W, (Instr.slice 22 (.slice (some ⟨b, off, none⟩) n c) (some (.int .i64 (p : Int))) (some (.int .i64 (e : Int))) none).run Try.prog W = .ok (.slice (some ⟨b, off + p * 3, none⟩) (e - p) (c - p)) W := by
  intro W
  rw [run_slice_lh (P := Try.prog) W 22 _ n c (by rw [elem_tms]; exact Try.underlying22) .i64 .i64 (p : Int) (e : Int) (by omega) (by omega) (by omega), elem_tms, Try.sizeOf39]
  simp [sliced, Result.andThen, addr_add]
  try omega
/-- Names no longer than memory holds. -/
def Small (l : List Tm) : Prop := ∀ t ∈ l, t.s.size ≤ 9223372036854775807
def RetI (W : World) (n : Int) (e : Ending) (w' : World) : Prop := e = .returned (.int .i64 n) ∧ Below W.heap.size W w'
def RetB (W : World) (b : Bool) (e : Ending) (w' : World) : Prop := e = .returned (.bool b) ∧ Below W.heap.size W w'
def SameI (W : World) (n : Int) (e : Ending) (w' : World) : Prop := e = .returned (.int .i64 n) ∧ W = w'
def SameB (W : World) (b : Bool) (e : Ending) (w' : World) : Prop := e = .returned (.bool b) ∧ W = w'
end Go.Proofs.Ytbkgkdfameojfaa
