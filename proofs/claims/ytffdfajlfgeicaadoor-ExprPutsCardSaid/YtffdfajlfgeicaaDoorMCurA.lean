/- CurSpec, CurMem, CurRef, CurRefTake, CurRefName, CurRefNum, joined. -/
import Derived.Test.YtffdfajlfgeicaaDoorMNames
import Derived.Test.YtffdfajlfgeicaaDoorMVal
import Derived.Test.YtffdfajlfgeicaaDoorRows
import Derived.Test.YtffdfajlfgeicaaDoorMKits
import Derived.Deep.RegionHeld3
namespace Go.Proofs.YtffdfajlfgeicaaDoor.CurSpec
open NamesSpec ValSpec

/-- A token: its kind, what it says, its line and byte. -/
structure Tk where
  k : Int
  t : ByteArray
  l : Int
  c : Int
def tz : Tk := ⟨0, ⟨#[]⟩, 0, 0⟩
/-- A cursor: the tokens that are left, the last one's place, the fault's place and the fault. -/
structure Cur where
  L : List Tk
  w1 : Int
  w2 : Int
  a1 : Int
  a2 : Int
  bad : Int
def next (c : Cur) : Tk := if c.bad = 0 then (match c.L with | [] => ⟨0, ⟨#[]⟩, c.w1, c.w2⟩ | t :: _ => t) else tz
def on (c : Cur) : Cur := match c.L with | [] => c | t :: r => ⟨r, t.l, t.c, c.a1, c.a2, c.bad⟩
def fail (c : Cur) (e : Int) : Cur := if c.bad = 0 ∧ e ≠ 0 then ⟨c.L, c.w1, c.w2, (next c).l, (next c).c, e⟩ else c
def isB (c : Cur) (k : Int) (s : ByteArray) : Bool := decide (c.bad = 0) && (decide ((next c).k = k) && decide ((next c).t = s))
def take (c : Cur) (k : Int) (s : ByteArray) : Cur := if isB c k s then on c else c
def want (c : Cur) (k : Int) (s : ByteArray) : Cur := if isB c k s then on c else fail c 2
def nameB (c : Cur) : Bool := decide (c.bad = 0) && (decide ((next c).k = 1) && isName (next c).t.data.toList)
def nameC (c : Cur) : Cur := if nameB c then on c else fail c 2
def nameS (c : Cur) : ByteArray := if nameB c then (next c).t else ⟨#[]⟩
/-- Why the next token is no number that may be (0: it is one). -/
def numE (c : Cur) (m : Int) : Int := if c.bad = 0 ∧ (next c).k = 2 then (if getE (next c).t.data.toList = 0 then (if m < getN (next c).t.data.toList then 3 else 0) else getE (next c).t.data.toList) else 2
def numC (c : Cur) (m : Int) : Cur := if numE c m = 0 then on c else fail c (numE c m)
def numN (c : Cur) (m : Int) : Int := if numE c m = 0 then getN (next c).t.data.toList else 0
/-- The tokens that are left, with the end behind them. -/
def full : List Tk → Int → Int → List Tk
  | [], a, b => [⟨0, ⟨#[]⟩, a, b⟩]
  | t :: r, _, _ => t :: full r t.l t.c
theorem full_length : ∀ (L : List Tk) (a b : Int), (full L a b).length = L.length + 1
  | [], _, _ => rfl
  | _ :: r, _, _ => by rw [full, List.length_cons, full_length r, List.length_cons]
theorem full_head (c : Cur) (h : c.bad = 0) : (full c.L c.w1 c.w2)[0]? = some (next c) := by
  unfold next
  rw [if_pos h]
  cases c.L <;> rfl
theorem on_nil {c : Cur} (h : c.L.length = 0) : on c = c := by
  unfold on
  rw [List.eq_nil_of_length_eq_zero h]
theorem on_full {c : Cur} (h : 0 < c.L.length) : full c.L c.w1 c.w2 = (full c.L c.w1 c.w2).headD tz :: full (on c).L (on c).w1 (on c).w2 := by
  obtain ⟨L, w1, w2, a1, a2, bad⟩ := c
  cases L with
  | nil => simp at h
  | cons t r => rfl
theorem on_bad (c : Cur) : (on c).bad = c.bad ∧ (on c).a1 = c.a1 ∧ (on c).a2 = c.a2 := by
  unfold on
  split <;> exact ⟨rfl, rfl, rfl⟩
theorem on_len (c : Cur) : (on c).L.length = c.L.length - 1 := by
  unfold on
  split
  · rename_i h; rw [h]; rfl
  · rename_i h; rw [h]; rfl
theorem fail_yes {c : Cur} {e : Int} (h : c.bad = 0) (he : e ≠ 0) : fail c e = ⟨c.L, c.w1, c.w2, (next c).l, (next c).c, e⟩ := if_pos ⟨h, he⟩
theorem fail_zero (c : Cur) : fail c 0 = c := if_neg (fun h => h.2 rfl)
theorem fail_dead {c : Cur} (e : Int) (h : c.bad ≠ 0) : fail c e = c := if_neg (fun h' => h h'.1)
theorem isB_dead {c : Cur} (k : Int) (s : ByteArray) (h : c.bad ≠ 0) : isB c k s = false := by simp [isB, h]
theorem next_dead {c : Cur} (h : c.bad ≠ 0) : next c = tz := if_neg h
theorem numE_dead {c : Cur} (m : Int) (h : c.bad ≠ 0) : numE c m = 2 := if_neg (fun h' => h h'.1)
theorem nameB_dead {c : Cur} (h : c.bad ≠ 0) : nameB c = false := by simp [nameB, h]

/-- Texts that memory holds. -/
def Ok (c : Cur) : Prop := ∀ t ∈ c.L, t.t.size ≤ 9223372036854775807
theorem Ok.next {c : Cur} (h : Ok c) : (next c).t.size ≤ 9223372036854775807 := by
  obtain ⟨L, w1, w2, a1, a2, bad⟩ := c
  unfold CurSpec.next
  split
  · cases L with
    | nil => exact (by decide : (⟨#[]⟩ : ByteArray).size ≤ 9223372036854775807)
    | cons t r => exact h t (by simp)
  · exact (by decide : (⟨#[]⟩ : ByteArray).size ≤ 9223372036854775807)
theorem Ok.on {c : Cur} (h : Ok c) : Ok (on c) := by
  obtain ⟨L, w1, w2, a1, a2, bad⟩ := c
  cases L with
  | nil => exact h
  | cons t r => exact fun x hx => h x (by simp [CurSpec.on] at hx ⊢; exact .inr hx)
theorem Ok.fail {c : Cur} (h : Ok c) (e : Int) : Ok (fail c e) := by
  unfold CurSpec.fail
  split
  · exact h
  · exact h
theorem Ok.take {c : Cur} (h : Ok c) (k : Int) (s : ByteArray) : Ok (take c k s) := by
  unfold CurSpec.take
  split
  · exact h.on
  · exact h
theorem Ok.want {c : Cur} (h : Ok c) (k : Int) (s : ByteArray) : Ok (want c k s) := by
  unfold CurSpec.want
  split
  · exact h.on
  · exact h.fail 2
theorem Ok.nameC {c : Cur} (h : Ok c) : Ok (nameC c) := by
  unfold CurSpec.nameC
  split
  · exact h.on
  · exact h.fail 2
theorem Ok.numC {c : Cur} (h : Ok c) (m : Int) : Ok (numC c m) := by
  unfold CurSpec.numC
  split
  · exact h.on
  · exact h.fail _
theorem getE_cases (l : List UInt8) : getE l = 0 ∨ getE l = 2 ∨ getE l = 3 := by
  unfold getE
  split
  · split <;> simp
  · simp
end Go.Proofs.YtffdfajlfgeicaaDoor.CurSpec

namespace Go.Proofs.YtffdfajlfgeicaaDoor
open Go.RowKit CurSpec

def tkV (t : Tk) : List Value := [.int .i64 t.k, .string t.t, .int .i64 t.l, .int .i64 t.c]
def tksV (l : List Tk) : List Value := l.flatMap tkV
theorem tkV_length (t : Tk) : (tkV t).length = 4 := rfl
theorem tksV_length (l : List Tk) : (tksV l).length = l.length * 4 := flat_length tkV_length l
theorem tkV_one (t : Tk) : ∀ u ∈ tkV t, u.oneCell' = true := by simp [tkV, Value.oneCell']
theorem tksV_one (l : List Tk) : ∀ u ∈ tksV l, u.oneCell' = true := by
  intro u hu
  obtain ⟨t, _, h⟩ := List.mem_flatMap.1 hu
  exact tkV_one t u h
theorem tksV_cons (t : Tk) (l : List Tk) : tksV (t :: l) = tkV t ++ tksV l := by simp [tksV]
theorem tksV_get {l : List Tk} {i : Nat} {t : Tk} (h : l[i]? = some t) : (tksV l)[i * 4]? = some (.int .i64 t.k) ∧ (tksV l)[i * 4 + 1]? = some (.string t.t) ∧ (tksV l)[i * 4 + 2]? = some (.int .i64 t.l) ∧ (tksV l)[i * 4 + 3]? = some (.int .i64 t.c) :=
  ⟨flat_get (j := 0) tkV_length h (by omega), flat_get (j := 1) tkV_length h (by omega), flat_get (j := 2) tkV_length h (by omega), flat_get (j := 3) tkV_length h (by omega)⟩
/-- A token by value. -/
def tkA (t : Tk) : Value := .agg #[.int .i64 t.k, .string t.t, .int .i64 t.l, .int .i64 t.c]

/-- The value is a slice of these tokens. -/
def Toks (w : World) (v : Value) (l : List Tk) : Prop := ∃ n, n = l.length ∧ Rdk 4 w v n (tksV l)
theorem Toks.keep {w w' : World} {v : Value} {l : List Tk} (h : Toks w v l) (hb : Below w.heap.size w w') : Toks w' v l := by
  obtain ⟨n, hn, h⟩ := h
  exact ⟨n, hn, h.keep hb⟩
theorem Toks.alloc {w : World} {v : Value} {l : List Tk} (h : Toks w v l) (o : Obj) : Toks (w.alloc o) v l := h.keep ((Below.refl _ _).alloc (Nat.le_refl _) _)
/-- Opened: the first token's cells, and the slice behind it. -/
theorem Toks.cons {w : World} {v : Value} {t : Tk} {l : List Tk} (h : Toks w v (t :: l)) :
    ∃ b off n c, v = .slice (some ⟨b, off, none⟩) (n + 1) c ∧ n = l.length ∧ n + 1 ≤ c ∧ b < w.heap.size ∧ w.cell? ⟨b, off, none⟩ = some (.int .i64 t.k) ∧ w.cell? ⟨b, off + 1, none⟩ = some (.string t.t) ∧ w.cell? ⟨b, off + 2, none⟩ = some (.int .i64 t.l) ∧ w.cell? ⟨b, off + 3, none⟩ = some (.int .i64 t.c) ∧
      Toks w (.slice (some ⟨b, if c = 1 then off else off + 4, none⟩) n (c - 1)) l := by
  obtain ⟨n, rfl, A, c, rfl, hc, hl, hA⟩ := h
  obtain ⟨b, off, rfl, hb, hcell⟩ := hA (by simp)
  have g := tksV_get (l := t :: l) (i := 0) rfl
  simp only [List.length_cons] at hc
  refine ⟨b, off, l.length, c, rfl, rfl, hc, hb, hcell 0 _ g.1, hcell 1 _ g.2.1, hcell 2 _ g.2.2.1, hcell 3 _ g.2.2.2, l.length, rfl, _, _, rfl, by omega, tksV_length l, fun h0 => ⟨b, off + 4, ?_, hb, fun j u hj => ?_⟩⟩
  · rw [if_neg (by omega)]
  · rw [show off + 4 + j = off + (4 + j) by omega]
    refine hcell _ _ ?_
    rw [tksV_cons, List.getElem?_append_right (by rw [tkV_length]; omega), tkV_length, Nat.add_sub_cancel_left, hj]
theorem Toks.shape {w : World} {v : Value} {l : List Tk} (h : Toks w v l) : ∃ A n c, v = .slice A n c ∧ n = l.length := by
  obtain ⟨n, hn, A, c, hv, _⟩ := h
  exact ⟨A, n, c, hv, hn⟩
theorem Toks.nil0 {w : World} {A : Option Addr} {n cp : Nat} (h : Toks w (.slice A n cp) []) : n = 0 := by
  obtain ⟨m, hm, A', c', heq, _⟩ := h
  cases heq
  exact hm
theorem Toks.cons' {w : World} {A : Option Addr} {n cp : Nat} {t : Tk} {l : List Tk} (h : Toks w (.slice A n cp) (t :: l)) :
    ∃ b off m, A = some ⟨b, off, none⟩ ∧ n = m + 1 ∧ m + 1 ≤ cp ∧ b < w.heap.size ∧ w.cell? ⟨b, off, none⟩ = some (.int .i64 t.k) ∧ w.cell? ⟨b, off + 1, none⟩ = some (.string t.t) ∧ w.cell? ⟨b, off + 2, none⟩ = some (.int .i64 t.l) ∧ w.cell? ⟨b, off + 3, none⟩ = some (.int .i64 t.c) ∧
      Toks w (.slice (some ⟨b, if cp = 1 then off else off + 4, none⟩) m (cp - 1)) l := by
  obtain ⟨b, off, m, c, heq, _, hc, hb, h0, h1, h2, h3, ht⟩ := h.cons
  cases heq
  exact ⟨b, off, m, rfl, rfl, hc, hb, h0, h1, h2, h3, ht⟩

/-- A cursor by value, whose tokens lie in the memory of an earlier world. -/
def RetCur (W0 W : World) (c : Cur) (e : Ending) (w' : World) : Prop :=
  ∃ A n cp, e = .returned (.agg #[.slice A n cp, .int .i64 c.w1, .int .i64 c.w2, .int .i64 c.a1, .int .i64 c.a2, .int .i64 c.bad]) ∧ Toks W0 (.slice A n cp) c.L ∧ Below W.heap.size W w'
def RetBool (W : World) (b : Bool) (e : Ending) (w' : World) : Prop := e = .returned (.bool b) ∧ Below W.heap.size W w'
def RetTk (W : World) (k : Int) (s : ByteArray) (l c : Int) (e : Ending) (w' : World) : Prop := e = .returned (.agg #[.int .i64 k, .string s, .int .i64 l, .int .i64 c]) ∧ Below W.heap.size W w'

/-- A block of so many cells. -/
def Blk (w : World) (b n : Nat) : Prop := ∃ cs T, w.heap[b]? = some (.cells cs T (0, 0)) ∧ cs.size = n
theorem Blk.of {w : World} {b : Nat} {cs : Array Value} {T : TypeId} (h : w.heap[b]? = some (.cells cs T (0, 0))) : Blk w b cs.size := ⟨cs, T, h, rfl⟩
theorem Blk.set {w : World} {b n : Nat} (h : Blk w b n) (i : Nat) (u : Value) : Blk (w.setCell ⟨b, i, none⟩ u) b n := by
  obtain ⟨cs, T, h, hn⟩ := h
  exact ⟨_, T, block_setCell' h i u, by rw [Array.size_setIfInBounds, hn]⟩
theorem Blk.read {w : World} {b n : Nat} (h : Blk w b n) (i : Nat) (hi : i < n) (u : Value) : (w.setCell ⟨b, i, none⟩ u).cell? ⟨b, i, none⟩ = some u := by
  obtain ⟨cs, T, h, hn⟩ := h
  exact cell_of_block' (block_setCell' h i u) (by rw [Array.getElem?_setIfInBounds_self, if_pos (by omega)])
/-- A result of six cells that has just been written. -/
theorem store_six {w : World} {b : Nat} (h : Blk w b 6) (u0 u1 u2 u3 u4 u5 : Value) :
    (w.setCell ⟨b, 0, none⟩ u0).cell? ⟨b, 0, none⟩ = some u0 ∧ ((w.setCell ⟨b, 0, none⟩ u0).setCell ⟨b, 1, none⟩ u1).cell? ⟨b, 1, none⟩ = some u1 ∧
    (((w.setCell ⟨b, 0, none⟩ u0).setCell ⟨b, 1, none⟩ u1).setCell ⟨b, 2, none⟩ u2).cell? ⟨b, 2, none⟩ = some u2 ∧
    ((((w.setCell ⟨b, 0, none⟩ u0).setCell ⟨b, 1, none⟩ u1).setCell ⟨b, 2, none⟩ u2).setCell ⟨b, 3, none⟩ u3).cell? ⟨b, 3, none⟩ = some u3 ∧
    (((((w.setCell ⟨b, 0, none⟩ u0).setCell ⟨b, 1, none⟩ u1).setCell ⟨b, 2, none⟩ u2).setCell ⟨b, 3, none⟩ u3).setCell ⟨b, 4, none⟩ u4).cell? ⟨b, 4, none⟩ = some u4 ∧
    ((((((w.setCell ⟨b, 0, none⟩ u0).setCell ⟨b, 1, none⟩ u1).setCell ⟨b, 2, none⟩ u2).setCell ⟨b, 3, none⟩ u3).setCell ⟨b, 4, none⟩ u4).setCell ⟨b, 5, none⟩ u5).cell? ⟨b, 5, none⟩ = some u5 :=
  ⟨h.read 0 (by omega) _, (h.set _ _).read 1 (by omega) _, ((h.set _ _).set _ _).read 2 (by omega) _, (((h.set _ _).set _ _).set _ _).read 3 (by omega) _, ((((h.set _ _).set _ _).set _ _).set _ _).read 4 (by omega) _, (((((h.set _ _).set _ _).set _ _).set _ _).set _ _).read 5 (by omega) _⟩
theorem store_4 {w : World} {b : Nat} (h : Blk w b 4) (u0 u1 u2 u3 : Value) :
    (w.setCell ⟨b, 0, none⟩ u0).cell? ⟨b, 0, none⟩ = some u0 ∧ ((w.setCell ⟨b, 0, none⟩ u0).setCell ⟨b, 1, none⟩ u1).cell? ⟨b, 1, none⟩ = some u1 ∧
    (((w.setCell ⟨b, 0, none⟩ u0).setCell ⟨b, 1, none⟩ u1).setCell ⟨b, 2, none⟩ u2).cell? ⟨b, 2, none⟩ = some u2 ∧
    ((((w.setCell ⟨b, 0, none⟩ u0).setCell ⟨b, 1, none⟩ u1).setCell ⟨b, 2, none⟩ u2).setCell ⟨b, 3, none⟩ u3).cell? ⟨b, 3, none⟩ = some u3 :=
  ⟨h.read 0 (by omega) _, (h.set _ _).read 1 (by omega) _, ((h.set _ _).set _ _).read 2 (by omega) _, (((h.set _ _).set _ _).set _ _).read 3 (by omega) _⟩
theorem below_4 {B : Nat} {w x : World} {b : Nat} (h : Below B w x) (hb : B ≤ b) (u0 u1 u2 u3 : Value) :
    Below B w ((((x.setCell ⟨b, 0, none⟩ u0).setCell ⟨b, 1, none⟩ u1).setCell ⟨b, 2, none⟩ u2).setCell ⟨b, 3, none⟩ u3) :=
  (((h.setCell hb _).setCell hb _).setCell hb _).setCell hb _
theorem below_six {B : Nat} {w x : World} {b : Nat} (h : Below B w x) (hb : B ≤ b) (u0 u1 u2 u3 u4 u5 : Value) :
    Below B w ((((((x.setCell ⟨b, 0, none⟩ u0).setCell ⟨b, 1, none⟩ u1).setCell ⟨b, 2, none⟩ u2).setCell ⟨b, 3, none⟩ u3).setCell ⟨b, 4, none⟩ u4).setCell ⟨b, 5, none⟩ u5) :=
  (((((h.setCell hb _).setCell hb _).setCell hb _).setCell hb _).setCell hb _).setCell hb _
theorem below_pair (w : World) (o p : Obj) : Below w.heap.size w ((w.alloc o).alloc p) := ((Below.refl _ _).alloc (Nat.le_refl _) _).alloc (by simp) _
/-- Two blocks that were made, behind a call that leaves them. -/
theorem pair_blocks {w w2 : World} {o p : Obj} (hb : Below ((w.alloc o).alloc p).heap.size ((w.alloc o).alloc p) w2) :
    w2.heap[w.heap.size]? = some o ∧ w2.heap[w.heap.size + 1]? = some p ∧ Below w.heap.size w w2 ∧ w.heap.size + 1 < w2.heap.size := by
  have hz := hb.size
  simp only [World.size_alloc] at hz
  refine ⟨(hb.block _ (by simp; omega)).trans ((heap_alloc_old _ _ (by simp)).trans (heap_alloc_new _ _)), (hb.block _ (by simp)).trans ?_, ?_, by omega⟩
  · have := heap_alloc_new (w.alloc o) p
    rwa [World.size_alloc] at this
  · exact (below_pair w o p).trans (hb.mono (by simp; omega))
theorem one_block {w w2 : World} {o : Obj} (hb : Below (w.alloc o).heap.size (w.alloc o) w2) : w2.heap[w.heap.size]? = some o ∧ Below w.heap.size w w2 ∧ w.heap.size < w2.heap.size := by
  have hz := hb.size
  simp only [World.size_alloc] at hz
  exact ⟨(hb.block _ (by simp)).trans (heap_alloc_new _ _), ((Below.refl _ _).alloc (Nat.le_refl _) _).trans (hb.mono (by simp)), by omega⟩
theorem undrew {w w' : World} (h : Below w.drew.heap.size w.drew w') : Below w.heap.size w w' := ⟨h.os, h.tape, h.output, h.size, h.block⟩
/-- A block as it was, behind a call. -/
theorem block_on {w w2 : World} {b : Nat} {o : Obj} (h : w.heap[b]? = some o) (hb : Below w.heap.size w w2) : w2.heap[b]? = some o := (hb.block b (Array.getElem?_eq_some_iff.1 h).1).trans h
theorem blk_of {w : World} {b n : Nat} {cs : Array Value} {T : TypeId} (h : w.heap[b]? = some (.cells cs T (0, 0))) (hn : cs.size = n) : Blk w b n := ⟨cs, T, h, hn⟩
theorem Blk.other {w : World} {b n c : Nat} (h : Blk w b n) (hne : b ≠ c) (i : Nat) (u : Value) : Blk (w.setCell ⟨c, i, none⟩ u) b n := by
  obtain ⟨cs, T, h, hn⟩ := h
  exact ⟨cs, T, (Below.heap_setCell _ _ _ _ hne).trans h, hn⟩
end Go.Proofs.YtffdfajlfgeicaaDoor

namespace Go.Proofs.YtffdfajlfgeicaaDoor
open Go.RowKit CurSpec
set_option maxRecDepth 100000

/-- The cells of a cursor by value. -/
abbrev curO (A : Option Addr) (n cp : Nat) (w1 w2 a1 a2 bad : Int) : Obj := .cells #[.slice A n cp, .int .i64 w1, .int .i64 w2, .int .i64 a1, .int .i64 a2, .int .i64 bad] 38

set_option maxHeartbeats 1000000 in
theorem next_say (c : Cur) (A : Option Addr) (n cp : Nat) (w : World) (h : Toks w (.slice A n cp) c.L) :
    Calls Tryd.prog 16 #[.agg #[.slice A n cp, .int .i64 c.w1, .int .i64 c.w2, .int .i64 c.a1, .int .i64 c.a2, .int .i64 c.bad]] w (RetTk w (next c).k (next c).t (next c).l (next c).c) := by
  obtain ⟨L, w1, w2, a1, a2, bad⟩ := c
  change Calls _ _ #[.agg #[.slice A n cp, .int .i64 w1, .int .i64 w2, .int .i64 a1, .int .i64 a2, .int .i64 bad]] _ _
  by_cases hb : bad = 0
  · subst hb
    cases L with
    | nil =>
      obtain rfl := h.nil0
      clear h
      go_enter Tryd.func16, Tryd.ntmps16
      go_wp2_with fail
      refine bodyPost_ret (v := .agg #[.int .i64 0, .string ⟨#[]⟩, .int .i64 w1, .int .i64 w2]) (by simp [results, Tryd.results16, go_sem]) rfl ⟨rfl, below_pair _ _ _⟩
    | cons t r =>
      obtain ⟨b, off, m, rfl, rfl, hc, hlt, c0, c1, c2, c3, _⟩ := h.cons'
      clear h
      obtain ⟨k, s, l, cc⟩ := t
      simp only at c0 c1 c2 c3
      have hnI : 0 ≤ (m : Int) := by omega
      clear hc
      go_enter Tryd.func16, Tryd.ntmps16
      go_wp2_with fail
      refine bodyPost_ret (v := .agg #[.int .i64 k, .string s, .int .i64 l, .int .i64 cc]) (by simp [results, Tryd.results16, go_sem]) rfl ⟨rfl, below_pair _ _ _⟩
  · have e0 : (bad == 0) = false := by simpa using hb
    have e1 : (bad != 0) = true := by simpa using hb
    clear h
    go_enter Tryd.func16, Tryd.ntmps16
    go_wp2_with fail
    refine bodyPost_ret (v := .agg #[.int .i64 0, .string ⟨#[]⟩, .int .i64 0, .int .i64 0]) (by simp [results, Tryd.results16, go_sem]) rfl ⟨?_, below_pair _ _ _⟩
    rw [next_dead hb]; rfl

theorem ret_cur {W0 w w' : World} {c : Cur} {A : Option Addr} {n cp : Nat} {w1 w2 a1 a2 bad : Int} (h : c = ⟨c.L, w1, w2, a1, a2, bad⟩) (hT : Toks W0 (.slice A n cp) c.L) (hB : Below w.heap.size w w') :
    RetCur W0 w c (.returned (.agg #[.slice A n cp, .int .i64 w1, .int .i64 w2, .int .i64 a1, .int .i64 a2, .int .i64 bad])) w' :=
  ⟨A, n, cp, by rw [h], hT, hB⟩

set_option maxHeartbeats 1000000 in
theorem on_say (c : Cur) (A : Option Addr) (n cp : Nat) (W0 w : World) (h : Toks W0 (.slice A n cp) c.L) (hw : Below W0.heap.size W0 w) :
    Calls Tryd.prog 44 #[.agg #[.slice A n cp, .int .i64 c.w1, .int .i64 c.w2, .int .i64 c.a1, .int .i64 c.a2, .int .i64 c.bad]] w (RetCur W0 w (on c)) := by
  obtain ⟨L, w1, w2, a1, a2, bad⟩ := c
  change Calls _ _ #[.agg #[.slice A n cp, .int .i64 w1, .int .i64 w2, .int .i64 a1, .int .i64 a2, .int .i64 bad]] _ _
  cases L with
  | nil =>
    obtain rfl := h.nil0
    have HT := Lib.hid h
    clear h hw
    go_enter Tryd.func44, Tryd.ntmps44
    go_wp2_with fail
    refine bodyPost_ret (v := .agg #[.slice A 0 cp, .int .i64 w1, .int .i64 w2, .int .i64 a1, .int .i64 a2, .int .i64 bad]) (by simp [results, Tryd.results44, go_sem]) rfl ?_
    exact ret_cur rfl HT.out (below_pair _ _ _)
  | cons t r =>
    obtain ⟨b, off, n, rfl, rfl, hc, _, _, _, _, _, hr⟩ := h.cons'
    obtain ⟨b', off', n', hA, hn, _, hlt, c0, c1, c2, c3, _⟩ := (h.keep hw).cons'
    cases hA; cases hn
    clear h hw
    have HT := Lib.hid hr
    clear hr
    obtain ⟨k, s, l, cc⟩ := t
    simp only at c0 c1 c2 c3
    have hnI : 0 ≤ (n : Int) := by omega
    by_cases hcp : cp = 1
    · subst hcp
      obtain rfl : n = 0 := by omega
      have HT2 : Hid (Toks W0 (.slice (some ⟨b, off, none⟩) 0 0) r) := HT
      clear HT
      go_enter Tryd.func44, Tryd.ntmps44
      go_wp2_with fail
      refine bodyPost_ret (v := .agg #[.slice (some ⟨b, off, none⟩) 0 0, .int .i64 l, .int .i64 cc, .int .i64 a1, .int .i64 a2, .int .i64 bad]) (by simp [results, Tryd.results44, go_sem]) rfl ?_
      exact ret_cur rfl HT2.out (below_pair _ _ _)
    · have hc1 : 1 < cp := by omega
      have HT2 : Hid (Toks W0 (.slice (some ⟨b, off + 4, none⟩) n (cp - 1)) r) := Lib.hid (by have := HT.out; rwa [if_neg hcp] at this)
      go_enter Tryd.func44, Tryd.ntmps44
      go_wp2_with fail
      refine bodyPost_ret (v := .agg #[.slice (some ⟨b, off + 4, none⟩) n (cp - 1), .int .i64 l, .int .i64 cc, .int .i64 a1, .int .i64 a2, .int .i64 bad]) (by simp [results, Tryd.results44, go_sem]) rfl ?_
      exact ret_cur rfl HT2.out (below_pair _ _ _)

set_option maxHeartbeats 1000000 in
theorem fail_say (c : Cur) (er : Int) (A : Option Addr) (n cp : Nat) (W0 w : World) (h : Toks W0 (.slice A n cp) c.L) (hw : Below W0.heap.size W0 w) :
    Calls Tryd.prog 29 #[.agg #[.slice A n cp, .int .i64 c.w1, .int .i64 c.w2, .int .i64 c.a1, .int .i64 c.a2, .int .i64 c.bad], .int .i64 er] w (RetCur W0 w (fail c er)) := by
  have HT := Lib.hid h
  have HTw := Lib.hid (h.keep hw)
  have HN := Lib.hid (fun W h => next_say c A n cp W h)
  clear h hw
  by_cases hb : c.bad = 0
  · by_cases he : er = 0
    · have HF : Hid (fail c er = c) := Lib.hid (by rw [he]; exact fail_zero _)
      have e0 : (c.bad == 0) = true := by simpa using hb
      have e1 : (er != 0) = false := by simpa using he
      clear he hb
      go_enter Tryd.func29, Tryd.ntmps29
      go_wp2_with fail
      refine bodyPost_ret (v := .agg #[.slice A n cp, .int .i64 c.w1, .int .i64 c.w2, .int .i64 c.a1, .int .i64 c.a2, .int .i64 c.bad]) (by simp [results, Tryd.results29, go_sem]) rfl ?_
      rw [HF.out]
      exact ret_cur rfl HT.out (below_pair _ _ _)
    · obtain ⟨k, s, l, cc⟩ : ∃ t, next c = t := ⟨_, rfl⟩
      obtain ⟨t, ht⟩ : ∃ t, t = next c := ⟨_, rfl⟩
      have HF : Hid (fail c er = ⟨c.L, c.w1, c.w2, t.l, t.c, er⟩) := Lib.hid (by rw [fail_yes hb he, ht])
      rw [← ht] at HN
      have e2 : (c.bad == 0) = true := by simpa using hb
      have e1 : (er != 0) = true := by simpa using he
      have e0 : (er == 0) = false := by simpa using he
      clear he ht hb
      have hF2 : ∀ W, (Instr.field 33 (.agg #[.int .i64 t.k, .string t.t, .int .i64 t.l, .int .i64 t.c]) 2).run Tryd.prog W = .ok (.agg #[.int .i64 t.l, .int .i64 t.c]) W := fun _ => by kernel_rfl
      go_enter Tryd.func29, Tryd.ntmps29
      go_wp2_with (go_at_call 16; (with_reducible refine (HN.out _ ((HTw.out.alloc _).alloc _)).mono ?_))
      rintro e x2 ⟨rfl, hb2⟩
      obtain ⟨k1, k2, hB, _⟩ := pair_blocks hb2
      have HK2 := Lib.hid (blk_of k2 (n := 6) rfl)
      have HB := Lib.hid hB
      obtain ⟨c0, c1, c2, c3, c4, c5⟩ := cells_6 k1
      obtain ⟨f0, f1, f2, f3, f4, f5⟩ := free_6 k1
      obtain ⟨d0, d1, d2, d3, d4, d5⟩ := cells_6 k2
      obtain ⟨g0, g1, g2, g3, g4, g5⟩ := free_6 k2
      clear hb2 k1 k2 hB
      go_wp2_with fail
      have HS := ((HK2.out.other (c := w.heap.size) (by omega) 3 (.int .i64 t.l)).other (c := w.heap.size) (by omega) 4 (.int .i64 t.c)).other (c := w.heap.size) (by omega) 5 (.int .i64 er)
      obtain ⟨q0, q1, q2, q3, q4, q5⟩ := store_six HS (.slice A n cp) (.int .i64 c.w1) (.int .i64 c.w2) (.int .i64 t.l) (.int .i64 t.c) (.int .i64 er)
      refine bodyPost_ret (v := .agg #[.slice A n cp, .int .i64 c.w1, .int .i64 c.w2, .int .i64 t.l, .int .i64 t.c, .int .i64 er]) (by simp [results, Tryd.results29, go_sem, q0, q1, q2, q3, q4, q5]) rfl ?_
      have hB := below_six (((HB.out.setCell (p := ⟨w.heap.size, 3, none⟩) (Nat.le_refl _) (.int .i64 t.l)).setCell (p := ⟨w.heap.size, 4, none⟩) (Nat.le_refl _) (.int .i64 t.c)).setCell (p := ⟨w.heap.size, 5, none⟩) (Nat.le_refl _) (.int .i64 er)) (b := w.heap.size + 1) (by omega) (.slice A n cp) (.int .i64 c.w1) (.int .i64 c.w2) (.int .i64 t.l) (.int .i64 t.c) (.int .i64 er)
      rw [HF.out]
      exact ret_cur rfl HT.out hB
  · have HF : Hid (fail c er = c) := Lib.hid (fail_dead er hb)
    have e0 : (c.bad == 0) = false := by simpa using hb
    go_enter Tryd.func29, Tryd.ntmps29
    go_wp2_with fail
    refine bodyPost_ret (v := .agg #[.slice A n cp, .int .i64 c.w1, .int .i64 c.w2, .int .i64 c.a1, .int .i64 c.a2, .int .i64 c.bad]) (by simp [results, Tryd.results29, go_sem]) rfl ?_
    rw [HF.out]
    exact ret_cur rfl HT.out (below_pair _ _ _)

/-- The three tests of Is, each decided. -/
theorem isB_yes {c : Cur} {k : Int} {s : ByteArray} (h0 : c.bad = 0) (h1 : (next c).k = k) (h2 : (next c).t = s) : isB c k s = true := by simp [isB, h0, h1, h2]
theorem isB_no1 {c : Cur} {k : Int} {s : ByteArray} (h1 : (next c).k ≠ k) : isB c k s = false := by simp [isB, h1]
theorem isB_no2 {c : Cur} {k : Int} {s : ByteArray} (h1 : (next c).t ≠ s) : isB c k s = false := by simp [isB, h1]
set_option maxHeartbeats 1000000 in
theorem is_say (c : Cur) (k : Int) (s : ByteArray) (A : Option Addr) (n cp : Nat) (w : World) (h : Toks w (.slice A n cp) c.L) :
    Calls Tryd.prog 43 #[.agg #[.slice A n cp, .int .i64 c.w1, .int .i64 c.w2, .int .i64 c.a1, .int .i64 c.a2, .int .i64 c.bad], .int .i64 k, .string s] w (RetBool w (isB c k s)) := by
  have HT := Lib.hid h
  have HN := Lib.hid (fun W h => next_say c A n cp W h)
  clear h
  obtain ⟨t, ht⟩ : ∃ t, t = next c := ⟨_, rfl⟩
  obtain ⟨b, hb⟩ : ∃ b, b = isB c k s := ⟨_, rfl⟩
  rw [← ht] at HN
  rw [← hb]
  by_cases h0 : c.bad = 0
  · have e0 : (c.bad == 0) = true := by simpa using h0
    by_cases h1 : t.k = k
    · have e1 : (t.k == k) = true := by simpa using h1
      by_cases h2 : t.t = s
      · have e2 : (t.t.toList == s.toList) = true := by rw [h2]; simp
        have HV : Hid (b = true) := Lib.hid (hb.trans (isB_yes h0 (by rw [← ht]; exact h1) (by rw [← ht]; exact h2)))
        clear hb ht h0 h1 h2
        go_enter Tryd.func43, Tryd.ntmps43
        go_wp2_with (go_at_call 16; (with_reducible refine (HN.out _ (HT.out.alloc _)).mono ?_))
        rintro e x2 ⟨rfl, hb2⟩
        obtain ⟨k1, hB, hz⟩ := one_block hb2
        obtain ⟨c0, c1, c2, c3, c4, c5⟩ := cells_6 k1
        have HB := Lib.hid hB
        clear hb2 k1 hB
        go_wp2_with fail
        go_ret
        exact ⟨ret_bool HV.out.symm, HB.out.alloc (Nat.le_of_lt hz) _⟩
      · have e2 : (t.t.toList == s.toList) = false := (Lib.bytes_beq_false_iff _ _).2 h2
        have HV : Hid (b = false) := Lib.hid (hb.trans (isB_no2 (by rw [← ht]; exact h2)))
        clear hb ht h0 h1 h2
        go_enter Tryd.func43, Tryd.ntmps43
        go_wp2_with (go_at_call 16; (with_reducible refine (HN.out _ (HT.out.alloc _)).mono ?_))
        rintro e x2 ⟨rfl, hb2⟩
        obtain ⟨k1, hB, hz⟩ := one_block hb2
        obtain ⟨c0, c1, c2, c3, c4, c5⟩ := cells_6 k1
        have HB := Lib.hid hB
        clear hb2 k1 hB
        go_wp2_with fail
        go_ret
        exact ⟨ret_bool HV.out.symm, HB.out.alloc (Nat.le_of_lt hz) _⟩
    · have e1 : (t.k == k) = false := by simpa using h1
      have HV : Hid (b = false) := Lib.hid (hb.trans (isB_no1 (by rw [← ht]; exact h1)))
      clear hb ht h0 h1
      go_enter Tryd.func43, Tryd.ntmps43
      go_wp2_with (go_at_call 16; (with_reducible refine (HN.out _ (HT.out.alloc _)).mono ?_))
      rintro e x2 ⟨rfl, hb2⟩
      obtain ⟨k1, hB, hz⟩ := one_block hb2
      obtain ⟨c0, c1, c2, c3, c4, c5⟩ := cells_6 k1
      have HB := Lib.hid hB
      clear hb2 k1 hB
      go_wp2_with fail
      go_ret
      exact ⟨ret_bool HV.out.symm, HB.out.alloc (Nat.le_of_lt hz) _⟩
  · have e0 : (c.bad == 0) = false := by simpa using h0
    have HV : Hid (b = false) := Lib.hid (hb.trans (isB_dead k s h0))
    clear hb ht h0
    go_enter Tryd.func43, Tryd.ntmps43
    go_wp2_with (go_at_call 16; (with_reducible refine (HN.out _ (HT.out.alloc _)).mono ?_))
    rintro e x2 ⟨rfl, hb2⟩
    obtain ⟨k1, hB, hz⟩ := one_block hb2
    obtain ⟨c0, c1, c2, c3, c4, c5⟩ := cells_6 k1
    have HB := Lib.hid hB
    clear hb2 k1 hB
    go_wp2_with fail
    go_ret
    exact ⟨ret_bool HV.out.symm, HB.out.alloc (Nat.le_of_lt hz) _⟩
end Go.Proofs.YtffdfajlfgeicaaDoor

namespace Go.Proofs.YtffdfajlfgeicaaDoor
open Go.RowKit CurSpec
set_option maxRecDepth 100000

def RetCurB (W0 W : World) (c : Cur) (b : Bool) (e : Ending) (w' : World) : Prop :=
  ∃ A n cp, e = .returned (.tuple #[.agg #[.slice A n cp, .int .i64 c.w1, .int .i64 c.w2, .int .i64 c.a1, .int .i64 c.a2, .int .i64 c.bad], .bool b]) ∧ Toks W0 (.slice A n cp) c.L ∧ Below W.heap.size W w'

set_option maxHeartbeats 1000000 in
theorem take_say (c : Cur) (k : Int) (s : ByteArray) (A : Option Addr) (n cp : Nat) (W0 w : World) (h : Toks W0 (.slice A n cp) c.L) (hw : Below W0.heap.size W0 w) :
    Calls Tryd.prog 74 #[.agg #[.slice A n cp, .int .i64 c.w1, .int .i64 c.w2, .int .i64 c.a1, .int .i64 c.a2, .int .i64 c.bad], .int .i64 k, .string s] w (RetCurB W0 w (take c k s) (isB c k s)) := by
  have HT := Lib.hid h
  have HW := Lib.hid hw
  have HI := Lib.hid (fun W h => is_say c k s A n cp W h)
  have HO := Lib.hid (fun W hw => on_say c A n cp W0 W h hw)
  clear h hw
  obtain ⟨d, hd⟩ : ∃ d, d = on c := ⟨_, rfl⟩
  rw [← hd] at HO
  by_cases hb : isB c k s = true
  · have HC : Hid (take c k s = d) := Lib.hid (by unfold take; rw [if_pos hb, hd])
    rw [hb] at HI ⊢
    clear hb hd
    go_enter Tryd.func74, Tryd.ntmps74
    go_wp2_with (go_at_call 43; (with_reducible refine (HI.out _ (((HT.out.keep HW.out).alloc _).alloc _)).mono ?_))
    rintro e x2 ⟨rfl, hb2⟩
    obtain ⟨k1, k2, hB, hz⟩ := pair_blocks hb2
    have HK2 := Lib.hid k2
    have HB := Lib.hid hB
    obtain ⟨c0, c1, c2, c3, c4, c5⟩ := cells_6 k1
    clear hb2 k1 k2 hB
    go_wp2_with (go_at_call 44; (with_reducible refine (HO.out _ (below_two' HW.out HB.out)).mono ?_))
    rintro e x3 ⟨A', n', cp', rfl, hT3, hb3⟩
    have k3 := block_on HK2.out hb3
    have HT3 := Lib.hid hT3
    have HB3 := Lib.hid (below_two' HB.out hb3)
    have HK3 := Lib.hid (blk_of k3 (n := 6) rfl)
    obtain ⟨d0, d1, d2, d3, d4, d5⟩ := cells_6 k3
    obtain ⟨g0, g1, g2, g3, g4, g5⟩ := free_6 k3
    clear hT3 hb3 k3 c0 c1 c2 c3 c4 c5
    go_wp2_with fail
    obtain ⟨q0, q1, q2, q3, q4, q5⟩ := store_six HK3.out (.slice A' n' cp') (.int .i64 d.w1) (.int .i64 d.w2) (.int .i64 d.a1) (.int .i64 d.a2) (.int .i64 d.bad)
    refine bodyPost_ret (v := .tuple #[.agg #[.slice A' n' cp', .int .i64 d.w1, .int .i64 d.w2, .int .i64 d.a1, .int .i64 d.a2, .int .i64 d.bad], .bool true]) (by simp [results, Tryd.results74, go_sem, q0, q1, q2, q3, q4, q5]) rfl ?_
    rw [HC.out]
    exact ⟨A', n', cp', rfl, HT3.out, below_six HB3.out (by omega) _ _ _ _ _ _⟩
  · have hb' : isB c k s = false := by simpa using hb
    have HC : Hid (take c k s = c) := Lib.hid (by unfold take; rw [if_neg hb])
    rw [hb'] at HI ⊢
    clear hb hb' hd
    go_enter Tryd.func74, Tryd.ntmps74
    go_wp2_with (go_at_call 43; (with_reducible refine (HI.out _ (((HT.out.keep HW.out).alloc _).alloc _)).mono ?_))
    rintro e x2 ⟨rfl, hb2⟩
    obtain ⟨k1, k2, hB, hz⟩ := pair_blocks hb2
    have HK2 := Lib.hid (blk_of k2 (n := 6) rfl)
    have HB := Lib.hid hB
    obtain ⟨c0, c1, c2, c3, c4, c5⟩ := cells_6 k1
    obtain ⟨d0, d1, d2, d3, d4, d5⟩ := cells_6 k2
    obtain ⟨g0, g1, g2, g3, g4, g5⟩ := free_6 k2
    clear hb2 k1 k2 hB
    go_wp2_with fail
    obtain ⟨q0, q1, q2, q3, q4, q5⟩ := store_six HK2.out (.slice A n cp) (.int .i64 c.w1) (.int .i64 c.w2) (.int .i64 c.a1) (.int .i64 c.a2) (.int .i64 c.bad)
    refine bodyPost_ret (v := .tuple #[.agg #[.slice A n cp, .int .i64 c.w1, .int .i64 c.w2, .int .i64 c.a1, .int .i64 c.a2, .int .i64 c.bad], .bool false]) (by simp [results, Tryd.results74, go_sem, q0, q1, q2, q3, q4, q5]) rfl ?_
    have hB := below_six HB.out (b := w.heap.size + 1) (by omega) (.slice A n cp) (.int .i64 c.w1) (.int .i64 c.w2) (.int .i64 c.a1) (.int .i64 c.a2) (.int .i64 c.bad)
    rw [HC.out]
    exact ⟨A, n, cp, rfl, HT.out, hB⟩

set_option maxHeartbeats 1000000 in
theorem want_say (c : Cur) (k : Int) (s : ByteArray) (A : Option Addr) (n cp : Nat) (W0 w : World) (h : Toks W0 (.slice A n cp) c.L) (hw : Below W0.heap.size W0 w) :
    Calls Tryd.prog 23 #[.agg #[.slice A n cp, .int .i64 c.w1, .int .i64 c.w2, .int .i64 c.a1, .int .i64 c.a2, .int .i64 c.bad], .int .i64 k, .string s] w (RetCur W0 w (want c k s)) := by
  have HT := Lib.hid h
  have HW := Lib.hid hw
  have HI := Lib.hid (fun W h => is_say c k s A n cp W h)
  have HO := Lib.hid (fun W hw => on_say c A n cp W0 W h hw)
  have HF := Lib.hid (fun W hw => fail_say c 2 A n cp W0 W h hw)
  clear h hw
  obtain ⟨d, hd⟩ : ∃ d, d = want c k s := ⟨_, rfl⟩
  rw [← hd]
  by_cases hb : isB c k s = true
  · have hc : on c = d := by rw [hd]; unfold want; rw [if_pos hb]
    rw [hc] at HO
    rw [hb] at HI
    clear hb hd hc HF
    go_enter Tryd.func23, Tryd.ntmps23
    go_wp2_with (go_at_call 43; (with_reducible refine (HI.out _ (((HT.out.keep HW.out).alloc _).alloc _)).mono ?_))
    rintro e x2 ⟨rfl, hb2⟩
    obtain ⟨k1, k2, hB, hz⟩ := pair_blocks hb2
    have HK2 := Lib.hid k2
    have HB := Lib.hid hB
    obtain ⟨c0, c1, c2, c3, c4, c5⟩ := cells_6 k1
    clear hb2 k1 k2 hB
    go_wp2_with (go_at_call 44; (with_reducible refine (HO.out _ (below_two' HW.out HB.out)).mono ?_))
    rintro e x3 ⟨A', n', cp', rfl, hT3, hb3⟩
    have k3 := block_on HK2.out hb3
    have HT3 := Lib.hid hT3
    have HB3 := Lib.hid (below_two' HB.out hb3)
    have HK3 := Lib.hid (blk_of k3 (n := 6) rfl)
    obtain ⟨d0, d1, d2, d3, d4, d5⟩ := cells_6 k3
    obtain ⟨g0, g1, g2, g3, g4, g5⟩ := free_6 k3
    clear hT3 hb3 k3 c0 c1 c2 c3 c4 c5
    go_wp2_with fail
    obtain ⟨q0, q1, q2, q3, q4, q5⟩ := store_six HK3.out (.slice A' n' cp') (.int .i64 d.w1) (.int .i64 d.w2) (.int .i64 d.a1) (.int .i64 d.a2) (.int .i64 d.bad)
    refine bodyPost_ret (v := .agg #[.slice A' n' cp', .int .i64 d.w1, .int .i64 d.w2, .int .i64 d.a1, .int .i64 d.a2, .int .i64 d.bad]) (by simp [results, Tryd.results23, go_sem, q0, q1, q2, q3, q4, q5]) rfl ?_
    exact ⟨A', n', cp', rfl, HT3.out, below_six HB3.out (by omega) _ _ _ _ _ _⟩
  · have hc : fail c 2 = d := by rw [hd]; unfold want; rw [if_neg hb]
    have hb' : isB c k s = false := by simpa using hb
    rw [hc] at HF
    rw [hb'] at HI
    clear hb hb' hd hc HO
    go_enter Tryd.func23, Tryd.ntmps23
    go_wp2_with (go_at_call 43; (with_reducible refine (HI.out _ (((HT.out.keep HW.out).alloc _).alloc _)).mono ?_))
    rintro e x2 ⟨rfl, hb2⟩
    obtain ⟨k1, k2, hB, hz⟩ := pair_blocks hb2
    have HK2 := Lib.hid k2
    have HB := Lib.hid hB
    obtain ⟨c0, c1, c2, c3, c4, c5⟩ := cells_6 k1
    clear hb2 k1 k2 hB
    go_wp2_with (go_at_call 29; (with_reducible refine (HF.out _ (below_two' HW.out HB.out)).mono ?_))
    rintro e x3 ⟨A', n', cp', rfl, hT3, hb3⟩
    have k3 := block_on HK2.out hb3
    have HT3 := Lib.hid hT3
    have HB3 := Lib.hid (below_two' HB.out hb3)
    have HK3 := Lib.hid (blk_of k3 (n := 6) rfl)
    obtain ⟨d0, d1, d2, d3, d4, d5⟩ := cells_6 k3
    obtain ⟨g0, g1, g2, g3, g4, g5⟩ := free_6 k3
    clear hT3 hb3 k3 c0 c1 c2 c3 c4 c5
    go_wp2_with fail
    obtain ⟨q0, q1, q2, q3, q4, q5⟩ := store_six HK3.out (.slice A' n' cp') (.int .i64 d.w1) (.int .i64 d.w2) (.int .i64 d.a1) (.int .i64 d.a2) (.int .i64 d.bad)
    refine bodyPost_ret (v := .agg #[.slice A' n' cp', .int .i64 d.w1, .int .i64 d.w2, .int .i64 d.a1, .int .i64 d.a2, .int .i64 d.bad]) (by simp [results, Tryd.results23, go_sem, q0, q1, q2, q3, q4, q5]) rfl ?_
    exact ⟨A', n', cp', rfl, HT3.out, below_six HB3.out (by omega) _ _ _ _ _ _⟩
end Go.Proofs.YtffdfajlfgeicaaDoor

namespace Go.Proofs.YtffdfajlfgeicaaDoor
open Go.RowKit CurSpec NamesSpec
set_option maxRecDepth 100000

def RetCurS (W0 W : World) (c : Cur) (s : ByteArray) (e : Ending) (w' : World) : Prop :=
  ∃ A n cp, e = .returned (.tuple #[.agg #[.slice A n cp, .int .i64 c.w1, .int .i64 c.w2, .int .i64 c.a1, .int .i64 c.a2, .int .i64 c.bad], .string s]) ∧ Toks W0 (.slice A n cp) c.L ∧ Below W.heap.size W w'
theorem ris_say {s : ByteArray} {b : Bool} (hb : isName s.data.toList = b) (hs : s.size ≤ 9223372036854775807) (w : World) : Calls Tryd.prog 58 #[.string s] w (RetBool w b) := by
  subst hb
  exact ris_any s w hs
theorem nameB_yes {c : Cur} (h0 : c.bad = 0) (h1 : (next c).k = 1) (h2 : isName (next c).t.data.toList = true) : nameB c = true := by simp [nameB, h0, h1, h2]
theorem nameB_no1 {c : Cur} (h1 : (next c).k ≠ 1) : nameB c = false := by simp [nameB, h1]
theorem nameB_no2 {c : Cur} (h1 : isName (next c).t.data.toList = false) : nameB c = false := by simp [nameB, h1]

set_option maxHeartbeats 2000000 in
theorem name_say (c : Cur) (ok : Ok c) (A : Option Addr) (n cp : Nat) (W0 w : World) (h : Toks W0 (.slice A n cp) c.L) (hw : Below W0.heap.size W0 w) :
    Calls Tryd.prog 76 #[.agg #[.slice A n cp, .int .i64 c.w1, .int .i64 c.w2, .int .i64 c.a1, .int .i64 c.a2, .int .i64 c.bad]] w (RetCurS W0 w (nameC c) (nameS c)) := by
  have HT := Lib.hid h
  have HW := Lib.hid hw
  have HN := Lib.hid (fun W h => next_say c A n cp W h)
  have HO := Lib.hid (fun W hw => on_say c A n cp W0 W h hw)
  have HF := Lib.hid (fun W hw => fail_say c 2 A n cp W0 W h hw)
  clear h hw
  obtain ⟨d, hd⟩ : ∃ d, d = nameC c := ⟨_, rfl⟩
  obtain ⟨u, hu⟩ : ∃ u, u = nameS c := ⟨_, rfl⟩
  obtain ⟨t, ht⟩ : ∃ t, t = next c := ⟨_, rfl⟩
  have HI := Lib.hid (fun b hb W => ris_say (s := (next c).t) (b := b) hb ok.next W)
  rw [← hd, ← hu]
  rw [← ht] at HN HI
  by_cases h0 : c.bad = 0
  · have e0 : (c.bad == 0) = true := by simpa using h0
    by_cases h1 : t.k = 1
    · have e1 : (t.k == 1) = true := by simpa using h1
      by_cases h2 : isName t.t.data.toList = true
      · have hB : nameB c = true := nameB_yes h0 (by rw [← ht]; exact h1) (by rw [← ht]; exact h2)
        have hc : on c = d := by rw [hd]; unfold nameC; rw [if_pos hB]
        have hs : t.t = u := by rw [hu]; unfold nameS; rw [if_pos hB, ht]
        have HI2 := Lib.hid (HI.out true h2)
        rw [hc] at HO
        have HS := Lib.hid hs
        clear HI hs hc hB hd hu ht h0 h1 h2 HF
        go_enter Tryd.func76, Tryd.ntmps76
        go_wp2_with (go_at_call 16; (with_reducible refine (HN.out _ (((HT.out.keep HW.out).alloc _).alloc _)).mono ?_))
        rintro e x2 ⟨rfl, hb2⟩
        obtain ⟨k1, k2, hB, hz⟩ := pair_blocks hb2
        have hz' : w.heap.size < x2.heap.size := by omega
        have HK1 := Lib.hid k1
        have HK2 := Lib.hid k2
        have HB := Lib.hid hB
        obtain ⟨c0, c1, c2, c3, c4, c5⟩ := cells_6 k1
        clear hb2 k1 k2 hB
        go_wp2_with (go_at_call 58; (with_reducible refine (HI2.out _).mono ?_))
        rintro e x3 ⟨rfl, hb3⟩
        obtain ⟨k3, hB3, hz3⟩ := one_block hb3
        have HB3 := Lib.hid (below_two' HB.out hB3)
        have HB1 := Lib.hid (block_on HK1.out hB3)
        have HK3 := Lib.hid (block_on HK2.out hB3)
        have HBt := Lib.hid k3
        clear c0 c1 c2 c3 c4 c5 hb3 hB3 k3
        obtain ⟨c0, c1, c2, c3, c4, c5⟩ := cells_6 HB1.out
        obtain ⟨t0, t1, t2, t3⟩ := cells_4 HBt.out
        have hne1 : ¬ x2.heap.size = w.heap.size + 1 := by omega
        have hne2 : ¬ w.heap.size + 1 = x2.heap.size := by omega
        go_wp2_with fail
        go_region_held3 (fun w' => w'.cell? ⟨w.heap.size, 0, none⟩ = some (.slice A n cp) ∧ w'.cell? ⟨w.heap.size, 1, none⟩ = some (.int .i64 c.w1) ∧ w'.cell? ⟨w.heap.size, 2, none⟩ = some (.int .i64 c.w2) ∧ w'.cell? ⟨w.heap.size, 3, none⟩ = some (.int .i64 c.a1) ∧ w'.cell? ⟨w.heap.size, 4, none⟩ = some (.int .i64 c.a2) ∧ w'.cell? ⟨w.heap.size, 5, none⟩ = some (.int .i64 c.bad) ∧ w'.cell? ⟨x2.heap.size, 1, none⟩ = some (.string t.t)) (go_keep)
          ((go_at_call 44; refine (HO.out _ (below_two' HW.out HB3.out.drew)).mono ?_; rintro e x4 ⟨A', n', cp', rfl, hT4, hb4'⟩; have hb4 := undrew hb4'; clear hb4'; have k4 := block_on HK3.out hb4; obtain ⟨d0, d1, d2, d3, d4, d5⟩ := cells_6 k4; obtain ⟨g0, g1, g2, g3, g4, g5⟩ := free_6 k4; have HB4 := Lib.hid hb4; have HK4 := Lib.hid (blk_of k4 (n := 6) rfl); have HT4 := Lib.hid hT4; obtain ⟨p0, p1, p2, p3, p4, p5⟩ := cells_6 (block_on HB1.out hb4); obtain ⟨r0, r1, r2, r3⟩ := cells_4 (block_on HBt.out hb4); clear hb4 k4 hT4))
        go_wp2_with fail
        obtain ⟨q0, q1, q2, q3, q4, q5⟩ := store_six HK4.out (.slice A' n' cp') (.int .i64 d.w1) (.int .i64 d.w2) (.int .i64 d.a1) (.int .i64 d.a2) (.int .i64 d.bad)
        refine bodyPost_ret (v := .tuple #[.agg #[.slice A' n' cp', .int .i64 d.w1, .int .i64 d.w2, .int .i64 d.a1, .int .i64 d.a2, .int .i64 d.bad], .string t.t]) (by simp [results, Tryd.results76, go_sem, q0, q1, q2, q3, q4, q5]) rfl ?_
        rw [HS.out]
        exact ⟨A', n', cp', rfl, HT4.out, below_six (below_two' HB3.out HB4.out) (by omega) _ _ _ _ _ _⟩
      · have h2' : isName t.t.data.toList = false := by simpa using h2
        have hB : nameB c = false := nameB_no2 (by rw [← ht]; exact h2')
        have hc : fail c 2 = d := by rw [hd]; unfold nameC; rw [hB]; rfl
        have hs : (⟨#[]⟩ : ByteArray) = u := by rw [hu]; unfold nameS; rw [hB]; rfl
        have HI2 := Lib.hid (HI.out false h2')
        rw [hc] at HF
        have HS := Lib.hid hs
        clear HI hs hc hB hd hu ht h0 h1 h2 h2' HO
        go_enter Tryd.func76, Tryd.ntmps76
        go_wp2_with (go_at_call 16; (with_reducible refine (HN.out _ (((HT.out.keep HW.out).alloc _).alloc _)).mono ?_))
        rintro e x2 ⟨rfl, hb2⟩
        obtain ⟨k1, k2, hB, hz⟩ := pair_blocks hb2
        have hz' : w.heap.size < x2.heap.size := by omega
        have HK1 := Lib.hid k1
        have HK2 := Lib.hid k2
        have HB := Lib.hid hB
        obtain ⟨c0, c1, c2, c3, c4, c5⟩ := cells_6 k1
        clear hb2 k1 k2 hB
        go_wp2_with (go_at_call 58; (with_reducible refine (HI2.out _).mono ?_))
        rintro e x3 ⟨rfl, hb3⟩
        obtain ⟨k3, hB3, hz3⟩ := one_block hb3
        have HB3 := Lib.hid (below_two' HB.out hB3)
        have HB1 := Lib.hid (block_on HK1.out hB3)
        have HK3 := Lib.hid (block_on HK2.out hB3)
        have HBt := Lib.hid k3
        clear c0 c1 c2 c3 c4 c5 hb3 hB3 k3
        obtain ⟨c0, c1, c2, c3, c4, c5⟩ := cells_6 HB1.out
        obtain ⟨t0, t1, t2, t3⟩ := cells_4 HBt.out
        go_wp2_with (go_at_call 29; (with_reducible refine (HF.out _ (below_two' HW.out HB3.out)).mono ?_))
        rintro e x4 ⟨A', n', cp', rfl, hT4, hb4⟩
        have k4 := block_on HK3.out hb4
        have HB4 := Lib.hid (below_two' HB3.out hb4)
        have HT4 := Lib.hid hT4
        have HK4 := Lib.hid (blk_of k4 (n := 6) rfl)
        obtain ⟨d0, d1, d2, d3, d4, d5⟩ := cells_6 k4
        obtain ⟨g0, g1, g2, g3, g4, g5⟩ := free_6 k4
        clear hT4 hb4 k4 c0 c1 c2 c3 c4 c5
        go_wp2_with fail
        obtain ⟨q0, q1, q2, q3, q4, q5⟩ := store_six HK4.out (.slice A' n' cp') (.int .i64 d.w1) (.int .i64 d.w2) (.int .i64 d.a1) (.int .i64 d.a2) (.int .i64 d.bad)
        refine bodyPost_ret (v := .tuple #[.agg #[.slice A' n' cp', .int .i64 d.w1, .int .i64 d.w2, .int .i64 d.a1, .int .i64 d.a2, .int .i64 d.bad], .string ⟨#[]⟩]) (by simp [results, Tryd.results76, go_sem, q0, q1, q2, q3, q4, q5]) rfl ?_
        rw [HS.out]
        exact ⟨A', n', cp', rfl, HT4.out, below_six HB4.out (by omega) _ _ _ _ _ _⟩
    · have e1 : (t.k == 1) = false := by simpa using h1
      have hB : nameB c = false := nameB_no1 (by rw [← ht]; exact h1)
      have hc : fail c 2 = d := by rw [hd]; unfold nameC; rw [hB]; rfl
      have hs : (⟨#[]⟩ : ByteArray) = u := by rw [hu]; unfold nameS; rw [hB]; rfl
      rw [hc] at HF
      have HS := Lib.hid hs
      clear HI hs hc hB hd hu ht h0 h1 HO
      go_enter Tryd.func76, Tryd.ntmps76
      go_wp2_with (go_at_call 16; (with_reducible refine (HN.out _ (((HT.out.keep HW.out).alloc _).alloc _)).mono ?_))
      rintro e x2 ⟨rfl, hb2⟩
      obtain ⟨k1, k2, hB, hz⟩ := pair_blocks hb2
      have hz' : w.heap.size < x2.heap.size := by omega
      have HK1 := Lib.hid k1
      have HK2 := Lib.hid k2
      have HB := Lib.hid hB
      obtain ⟨c0, c1, c2, c3, c4, c5⟩ := cells_6 k1
      clear hb2 k1 k2 hB
      go_wp2_with (go_at_call 29; (with_reducible refine (HF.out _ (below_two' HW.out (HB.out.alloc (Nat.le_trans (Nat.le_succ _) (Nat.le_of_lt hz)) _))).mono ?_))
      rintro e x4 ⟨A', n', cp', rfl, hT4, hb4⟩
      have k4 := block_on ((heap_alloc_old _ _ hz).trans HK2.out) hb4
      have HB4 := Lib.hid (below_two' (HB.out.alloc (Nat.le_trans (Nat.le_succ _) (Nat.le_of_lt hz)) _) hb4)
      have HT4 := Lib.hid hT4
      have HK4 := Lib.hid (blk_of k4 (n := 6) rfl)
      obtain ⟨d0, d1, d2, d3, d4, d5⟩ := cells_6 k4
      obtain ⟨g0, g1, g2, g3, g4, g5⟩ := free_6 k4
      clear hT4 hb4 k4 c0 c1 c2 c3 c4 c5
      go_wp2_with fail
      obtain ⟨q0, q1, q2, q3, q4, q5⟩ := store_six HK4.out (.slice A' n' cp') (.int .i64 d.w1) (.int .i64 d.w2) (.int .i64 d.a1) (.int .i64 d.a2) (.int .i64 d.bad)
      refine bodyPost_ret (v := .tuple #[.agg #[.slice A' n' cp', .int .i64 d.w1, .int .i64 d.w2, .int .i64 d.a1, .int .i64 d.a2, .int .i64 d.bad], .string ⟨#[]⟩]) (by simp [results, Tryd.results76, go_sem, q0, q1, q2, q3, q4, q5]) rfl ?_
      rw [HS.out]
      exact ⟨A', n', cp', rfl, HT4.out, below_six HB4.out (by omega) _ _ _ _ _ _⟩
  · have e0 : (c.bad == 0) = false := by simpa using h0
    have hB : nameB c = false := nameB_dead h0
    have hc : fail c 2 = d := by rw [hd]; unfold nameC; rw [hB]; rfl
    have hs : (⟨#[]⟩ : ByteArray) = u := by rw [hu]; unfold nameS; rw [hB]; rfl
    rw [hc] at HF
    have HS := Lib.hid hs
    clear HI hs hc hB hd hu ht h0 HO
    go_enter Tryd.func76, Tryd.ntmps76
    go_wp2_with (go_at_call 16; (with_reducible refine (HN.out _ (((HT.out.keep HW.out).alloc _).alloc _)).mono ?_))
    rintro e x2 ⟨rfl, hb2⟩
    obtain ⟨k1, k2, hB, hz⟩ := pair_blocks hb2
    have hz' : w.heap.size < x2.heap.size := by omega
    have HK1 := Lib.hid k1
    have HK2 := Lib.hid k2
    have HB := Lib.hid hB
    obtain ⟨c0, c1, c2, c3, c4, c5⟩ := cells_6 k1
    clear hb2 k1 k2 hB
    go_wp2_with (go_at_call 29; (with_reducible refine (HF.out _ (below_two' HW.out (HB.out.alloc (Nat.le_trans (Nat.le_succ _) (Nat.le_of_lt hz)) _))).mono ?_))
    rintro e x4 ⟨A', n', cp', rfl, hT4, hb4⟩
    have k4 := block_on ((heap_alloc_old _ _ hz).trans HK2.out) hb4
    have HB4 := Lib.hid (below_two' (HB.out.alloc (Nat.le_trans (Nat.le_succ _) (Nat.le_of_lt hz)) _) hb4)
    have HT4 := Lib.hid hT4
    have HK4 := Lib.hid (blk_of k4 (n := 6) rfl)
    obtain ⟨d0, d1, d2, d3, d4, d5⟩ := cells_6 k4
    obtain ⟨g0, g1, g2, g3, g4, g5⟩ := free_6 k4
    clear hT4 hb4 k4 c0 c1 c2 c3 c4 c5
    go_wp2_with fail
    obtain ⟨q0, q1, q2, q3, q4, q5⟩ := store_six HK4.out (.slice A' n' cp') (.int .i64 d.w1) (.int .i64 d.w2) (.int .i64 d.a1) (.int .i64 d.a2) (.int .i64 d.bad)
    refine bodyPost_ret (v := .tuple #[.agg #[.slice A' n' cp', .int .i64 d.w1, .int .i64 d.w2, .int .i64 d.a1, .int .i64 d.a2, .int .i64 d.bad], .string ⟨#[]⟩]) (by simp [results, Tryd.results76, go_sem, q0, q1, q2, q3, q4, q5]) rfl ?_
    rw [HS.out]
    exact ⟨A', n', cp', rfl, HT4.out, below_six HB4.out (by omega) _ _ _ _ _ _⟩
end Go.Proofs.YtffdfajlfgeicaaDoor

namespace Go.Proofs.YtffdfajlfgeicaaDoor
open Go.RowKit CurSpec ValSpec
set_option maxRecDepth 100000

def RetCurN (W0 W : World) (c : Cur) (m : Int) (e : Ending) (w' : World) : Prop :=
  ∃ A n cp, e = .returned (.tuple #[.agg #[.slice A n cp, .int .i64 c.w1, .int .i64 c.w2, .int .i64 c.a1, .int .i64 c.a2, .int .i64 c.bad], .int .i64 m]) ∧ Toks W0 (.slice A n cp) c.L ∧ Below W.heap.size W w'
def RetGet (W : World) (n er : Int) (e : Ending) (w' : World) : Prop := e = .returned (.tuple #[.int .i64 n, .int .i64 er]) ∧ W = w'
theorem rget_say {s : ByteArray} {n er : Int} (hn : getN s.data.toList = n) (he : getE s.data.toList = er) (hs : s.size ≤ 9223372036854775807) (w : World) : Calls Tryd.prog 97 #[.string s] w (RetGet w n er) := by
  subst hn he
  exact rget_any s w hs
theorem num_fail {c : Cur} {m er : Int} (h : numE c m = er) (hne : er ≠ 0) : numC c m = fail c er ∧ numN c m = 0 := by
  subst h
  unfold numC numN
  rw [if_neg hne, if_neg hne]
  exact ⟨rfl, rfl⟩
theorem numE_kind {c : Cur} {m : Int} (h : (next c).k ≠ 2) : numE c m = 2 := if_neg (fun h' => h h'.2)
theorem numE_get {c : Cur} {m : Int} (h0 : c.bad = 0) (h : (next c).k = 2) (hE : getE (next c).t.data.toList ≠ 0) : numE c m = getE (next c).t.data.toList := by
  unfold numE
  rw [if_pos ⟨h0, h⟩, if_neg hE]
theorem numE_most {c : Cur} {m : Int} (h0 : c.bad = 0) (h : (next c).k = 2) (hE : getE (next c).t.data.toList = 0) (hm : m < getN (next c).t.data.toList) : numE c m = 3 := by
  unfold numE
  rw [if_pos ⟨h0, h⟩, if_pos hE, if_pos hm]
theorem numE_good {c : Cur} {m : Int} (h0 : c.bad = 0) (h : (next c).k = 2) (hE : getE (next c).t.data.toList = 0) (hm : ¬ m < getN (next c).t.data.toList) : numE c m = 0 := by
  unfold numE
  rw [if_pos ⟨h0, h⟩, if_pos hE, if_neg hm]

set_option maxHeartbeats 2000000 in
theorem number_say (c : Cur) (m : Int) (ok : Ok c) (A : Option Addr) (n cp : Nat) (W0 w : World) (h : Toks W0 (.slice A n cp) c.L) (hw : Below W0.heap.size W0 w) :
    Calls Tryd.prog 73 #[.agg #[.slice A n cp, .int .i64 c.w1, .int .i64 c.w2, .int .i64 c.a1, .int .i64 c.a2, .int .i64 c.bad], .int .i64 m] w (RetCurN W0 w (numC c m) (numN c m)) := by
  have HT := Lib.hid h
  have HW := Lib.hid hw
  have HN := Lib.hid (fun W h => next_say c A n cp W h)
  have HO := Lib.hid (fun W hw => on_say c A n cp W0 W h hw)
  have HFa := Lib.hid (fun er W hw => fail_say c er A n cp W0 W h hw)
  clear h hw
  obtain ⟨d, hd⟩ : ∃ d, d = numC c m := ⟨_, rfl⟩
  obtain ⟨u, hu⟩ : ∃ u, u = numN c m := ⟨_, rfl⟩
  obtain ⟨t, ht⟩ : ∃ t, t = next c := ⟨_, rfl⟩
  have HG := Lib.hid (fun W => rget_say (s := (next c).t) rfl rfl ok.next W)
  rw [← hd, ← hu]
  rw [← ht] at HN HG
  by_cases h0 : c.bad = 0
  · have e0 : (c.bad != 0) = false := by simpa using h0
    by_cases h1 : t.k = 2
    · have e1 : (t.k != 2) = false := by simpa using h1
      obtain ⟨N, hN⟩ : ∃ N, N = getN t.t.data.toList := ⟨_, rfl⟩
      obtain ⟨E, hE⟩ : ∃ E, E = getE t.t.data.toList := ⟨_, rfl⟩
      rw [← hN, ← hE] at HG
      by_cases h2 : E = 0
      · have e2 : (E != 0) = false := by simpa using h2
        by_cases h3 : m < N
        · have hB := num_fail (numE_most (m := m) h0 (by rw [← ht]; exact h1) (by rw [← ht, ← hE]; exact h2) (by rw [← ht, ← hN]; exact h3)) (by decide)
          have hc : fail c 3 = d := by rw [hd, hB.1]
          have HS : Hid ((0 : Int) = u) := Lib.hid (by rw [hu, hB.2])
          have HF := Lib.hid (fun W hw => HFa.out 3 W hw)
          rw [hc] at HF
          clear hc hB hd hu ht h0 h1 h2 hN hE HO HFa
          go_enter Tryd.func73, Tryd.ntmps73
          go_wp2_with (go_at_call 16; (with_reducible refine (HN.out _ (((HT.out.keep HW.out).alloc _).alloc _)).mono ?_))
          rintro e x2 ⟨rfl, hb2⟩
          obtain ⟨k1, k2, hB, hz⟩ := pair_blocks hb2
          have hz' : w.heap.size < x2.heap.size := by omega
          have HK1 := Lib.hid k1
          have HK2 := Lib.hid k2
          have HB := Lib.hid hB
          obtain ⟨c0, c1, c2, c3, c4, c5⟩ := cells_6 k1
          clear hb2 k1 k2 hB
          go_wp2_with (go_at_call 97; (with_reducible refine (HG.out _).mono ?_))
          rintro e w' ⟨rfl, rfl⟩
          go_wp2_with (go_at_call 29; (with_reducible refine (HF.out _ (below_two' HW.out (HB.out.alloc (Nat.le_trans (Nat.le_succ _) (Nat.le_of_lt hz)) _))).mono ?_))
          rintro e x4 ⟨A', n', cp', rfl, hT4, hb4⟩
          have k4 := block_on ((heap_alloc_old _ _ hz).trans HK2.out) hb4
          have HB4 := Lib.hid (below_two' (HB.out.alloc (Nat.le_trans (Nat.le_succ _) (Nat.le_of_lt hz)) _) hb4)
          have HT4 := Lib.hid hT4
          have HK4 := Lib.hid (blk_of k4 (n := 6) rfl)
          obtain ⟨d0, d1, d2, d3, d4, d5⟩ := cells_6 k4
          obtain ⟨g0, g1, g2, g3, g4, g5⟩ := free_6 k4
          clear hT4 hb4 k4 c0 c1 c2 c3 c4 c5
          go_wp2_with fail
          obtain ⟨q0, q1, q2, q3, q4, q5⟩ := store_six HK4.out (.slice A' n' cp') (.int .i64 d.w1) (.int .i64 d.w2) (.int .i64 d.a1) (.int .i64 d.a2) (.int .i64 d.bad)
          refine bodyPost_ret (v := .tuple #[.agg #[.slice A' n' cp', .int .i64 d.w1, .int .i64 d.w2, .int .i64 d.a1, .int .i64 d.a2, .int .i64 d.bad], .int .i64 0]) (by simp [results, Tryd.results73, go_sem, q0, q1, q2, q3, q4, q5]) rfl ?_
          rw [HS.out]
          exact ⟨A', n', cp', rfl, HT4.out, below_six HB4.out (by omega) _ _ _ _ _ _⟩
        · have hB := numE_good (m := m) h0 (by rw [← ht]; exact h1) (by rw [← ht, ← hE]; exact h2) (by rw [← ht, ← hN]; exact h3)
          have hc : on c = d := by rw [hd]; unfold numC; rw [if_pos hB]
          have HS : Hid (N = u) := Lib.hid (by rw [hu]; unfold numN; rw [if_pos hB, ← ht, hN])
          have HF := HO
          rw [hc] at HF
          have e3 : N ≤ m := by omega
          clear hc hB hd hu ht h0 h1 h2 h3 hN hE HO HFa
          go_enter Tryd.func73, Tryd.ntmps73
          go_wp2_with (go_at_call 16; (with_reducible refine (HN.out _ (((HT.out.keep HW.out).alloc _).alloc _)).mono ?_))
          rintro e x2 ⟨rfl, hb2⟩
          obtain ⟨k1, k2, hB, hz⟩ := pair_blocks hb2
          have hz' : w.heap.size < x2.heap.size := by omega
          have HK1 := Lib.hid k1
          have HK2 := Lib.hid k2
          have HB := Lib.hid hB
          obtain ⟨c0, c1, c2, c3, c4, c5⟩ := cells_6 k1
          clear hb2 k1 k2 hB
          go_wp2_with (go_at_call 97; (with_reducible refine (HG.out _).mono ?_))
          rintro e w' ⟨rfl, rfl⟩
          go_wp2_with (go_at_call 44; (with_reducible refine (HF.out _ (below_two' HW.out (HB.out.alloc (Nat.le_trans (Nat.le_succ _) (Nat.le_of_lt hz)) _))).mono ?_))
          rintro e x4 ⟨A', n', cp', rfl, hT4, hb4⟩
          have k4 := block_on ((heap_alloc_old _ _ hz).trans HK2.out) hb4
          have HB4 := Lib.hid (below_two' (HB.out.alloc (Nat.le_trans (Nat.le_succ _) (Nat.le_of_lt hz)) _) hb4)
          have HT4 := Lib.hid hT4
          have HK4 := Lib.hid (blk_of k4 (n := 6) rfl)
          obtain ⟨d0, d1, d2, d3, d4, d5⟩ := cells_6 k4
          obtain ⟨g0, g1, g2, g3, g4, g5⟩ := free_6 k4
          clear hT4 hb4 k4 c0 c1 c2 c3 c4 c5
          go_wp2_with fail
          obtain ⟨q0, q1, q2, q3, q4, q5⟩ := store_six HK4.out (.slice A' n' cp') (.int .i64 d.w1) (.int .i64 d.w2) (.int .i64 d.a1) (.int .i64 d.a2) (.int .i64 d.bad)
          refine bodyPost_ret (v := .tuple #[.agg #[.slice A' n' cp', .int .i64 d.w1, .int .i64 d.w2, .int .i64 d.a1, .int .i64 d.a2, .int .i64 d.bad], .int .i64 N]) (by simp [results, Tryd.results73, go_sem, q0, q1, q2, q3, q4, q5]) rfl ?_
          rw [HS.out]
          exact ⟨A', n', cp', rfl, HT4.out, below_six HB4.out (by omega) _ _ _ _ _ _⟩
      · have e2 : (E != 0) = true := by simpa using h2
        have hB := num_fail (numE_get (m := m) h0 (by rw [← ht]; exact h1) (by rw [← ht, ← hE]; exact h2)) (by rw [← ht, ← hE]; exact h2)
        rw [← ht, ← hE] at hB
        have hc : fail c E = d := by rw [hd, hB.1]
        have HS : Hid ((0 : Int) = u) := Lib.hid (by rw [hu, hB.2])
        have HF := Lib.hid (fun W hw => HFa.out E W hw)
        rw [hc] at HF
        clear hc hB hd hu ht h0 h1 h2 hN hE HO HFa
        go_enter Tryd.func73, Tryd.ntmps73
        go_wp2_with (go_at_call 16; (with_reducible refine (HN.out _ (((HT.out.keep HW.out).alloc _).alloc _)).mono ?_))
        rintro e x2 ⟨rfl, hb2⟩
        obtain ⟨k1, k2, hB, hz⟩ := pair_blocks hb2
        have hz' : w.heap.size < x2.heap.size := by omega
        have HK1 := Lib.hid k1
        have HK2 := Lib.hid k2
        have HB := Lib.hid hB
        obtain ⟨c0, c1, c2, c3, c4, c5⟩ := cells_6 k1
        clear hb2 k1 k2 hB
        go_wp2_with (go_at_call 97; (with_reducible refine (HG.out _).mono ?_))
        rintro e w' ⟨rfl, rfl⟩
        go_wp2_with (go_at_call 29; (with_reducible refine (HF.out _ (below_two' HW.out (HB.out.alloc (Nat.le_trans (Nat.le_succ _) (Nat.le_of_lt hz)) _))).mono ?_))
        rintro e x4 ⟨A', n', cp', rfl, hT4, hb4⟩
        have k4 := block_on ((heap_alloc_old _ _ hz).trans HK2.out) hb4
        have HB4 := Lib.hid (below_two' (HB.out.alloc (Nat.le_trans (Nat.le_succ _) (Nat.le_of_lt hz)) _) hb4)
        have HT4 := Lib.hid hT4
        have HK4 := Lib.hid (blk_of k4 (n := 6) rfl)
        obtain ⟨d0, d1, d2, d3, d4, d5⟩ := cells_6 k4
        obtain ⟨g0, g1, g2, g3, g4, g5⟩ := free_6 k4
        clear hT4 hb4 k4 c0 c1 c2 c3 c4 c5
        go_wp2_with fail
        obtain ⟨q0, q1, q2, q3, q4, q5⟩ := store_six HK4.out (.slice A' n' cp') (.int .i64 d.w1) (.int .i64 d.w2) (.int .i64 d.a1) (.int .i64 d.a2) (.int .i64 d.bad)
        refine bodyPost_ret (v := .tuple #[.agg #[.slice A' n' cp', .int .i64 d.w1, .int .i64 d.w2, .int .i64 d.a1, .int .i64 d.a2, .int .i64 d.bad], .int .i64 0]) (by simp [results, Tryd.results73, go_sem, q0, q1, q2, q3, q4, q5]) rfl ?_
        rw [HS.out]
        exact ⟨A', n', cp', rfl, HT4.out, below_six HB4.out (by omega) _ _ _ _ _ _⟩
    · have e1 : (t.k != 2) = true := by simpa using h1
      have hB := num_fail (numE_kind (m := m) (by rw [← ht]; exact h1)) (by decide)
      have hc : fail c 2 = d := by rw [hd, hB.1]
      have HS : Hid ((0 : Int) = u) := Lib.hid (by rw [hu, hB.2])
      have HF := Lib.hid (fun W hw => HFa.out 2 W hw)
      rw [hc] at HF
      clear hc hB hd hu ht h0 h1 HO HFa HG
      go_enter Tryd.func73, Tryd.ntmps73
      go_wp2_with (go_at_call 16; (with_reducible refine (HN.out _ (((HT.out.keep HW.out).alloc _).alloc _)).mono ?_))
      rintro e x2 ⟨rfl, hb2⟩
      obtain ⟨k1, k2, hB, hz⟩ := pair_blocks hb2
      have hz' : w.heap.size < x2.heap.size := by omega
      have HK1 := Lib.hid k1
      have HK2 := Lib.hid k2
      have HB := Lib.hid hB
      obtain ⟨c0, c1, c2, c3, c4, c5⟩ := cells_6 k1
      clear hb2 k1 k2 hB
      go_wp2_with (go_at_call 29; (with_reducible refine (HF.out _ (below_two' HW.out (HB.out.alloc (Nat.le_trans (Nat.le_succ _) (Nat.le_of_lt hz)) _))).mono ?_))
      rintro e x4 ⟨A', n', cp', rfl, hT4, hb4⟩
      have k4 := block_on ((heap_alloc_old _ _ hz).trans HK2.out) hb4
      have HB4 := Lib.hid (below_two' (HB.out.alloc (Nat.le_trans (Nat.le_succ _) (Nat.le_of_lt hz)) _) hb4)
      have HT4 := Lib.hid hT4
      have HK4 := Lib.hid (blk_of k4 (n := 6) rfl)
      obtain ⟨d0, d1, d2, d3, d4, d5⟩ := cells_6 k4
      obtain ⟨g0, g1, g2, g3, g4, g5⟩ := free_6 k4
      clear hT4 hb4 k4 c0 c1 c2 c3 c4 c5
      go_wp2_with fail
      obtain ⟨q0, q1, q2, q3, q4, q5⟩ := store_six HK4.out (.slice A' n' cp') (.int .i64 d.w1) (.int .i64 d.w2) (.int .i64 d.a1) (.int .i64 d.a2) (.int .i64 d.bad)
      refine bodyPost_ret (v := .tuple #[.agg #[.slice A' n' cp', .int .i64 d.w1, .int .i64 d.w2, .int .i64 d.a1, .int .i64 d.a2, .int .i64 d.bad], .int .i64 0]) (by simp [results, Tryd.results73, go_sem, q0, q1, q2, q3, q4, q5]) rfl ?_
      rw [HS.out]
      exact ⟨A', n', cp', rfl, HT4.out, below_six HB4.out (by omega) _ _ _ _ _ _⟩
  · have e0 : (c.bad != 0) = true := by simpa using h0
    have hB := num_fail (numE_dead m h0) (by decide)
    have hc : fail c 2 = d := by rw [hd, hB.1]
    have HS : Hid ((0 : Int) = u) := Lib.hid (by rw [hu, hB.2])
    have HF := Lib.hid (fun W hw => HFa.out 2 W hw)
    rw [hc] at HF
    clear hc hB hd hu ht h0 HO HFa HG
    go_enter Tryd.func73, Tryd.ntmps73
    go_wp2_with (go_at_call 16; (with_reducible refine (HN.out _ (((HT.out.keep HW.out).alloc _).alloc _)).mono ?_))
    rintro e x2 ⟨rfl, hb2⟩
    obtain ⟨k1, k2, hB, hz⟩ := pair_blocks hb2
    have hz' : w.heap.size < x2.heap.size := by omega
    have HK1 := Lib.hid k1
    have HK2 := Lib.hid k2
    have HB := Lib.hid hB
    obtain ⟨c0, c1, c2, c3, c4, c5⟩ := cells_6 k1
    clear hb2 k1 k2 hB
    go_wp2_with (go_at_call 29; (with_reducible refine (HF.out _ (below_two' HW.out (HB.out.alloc (Nat.le_trans (Nat.le_succ _) (Nat.le_of_lt hz)) _))).mono ?_))
    rintro e x4 ⟨A', n', cp', rfl, hT4, hb4⟩
    have k4 := block_on ((heap_alloc_old _ _ hz).trans HK2.out) hb4
    have HB4 := Lib.hid (below_two' (HB.out.alloc (Nat.le_trans (Nat.le_succ _) (Nat.le_of_lt hz)) _) hb4)
    have HT4 := Lib.hid hT4
    have HK4 := Lib.hid (blk_of k4 (n := 6) rfl)
    obtain ⟨d0, d1, d2, d3, d4, d5⟩ := cells_6 k4
    obtain ⟨g0, g1, g2, g3, g4, g5⟩ := free_6 k4
    clear hT4 hb4 k4 c0 c1 c2 c3 c4 c5
    go_wp2_with fail
    obtain ⟨q0, q1, q2, q3, q4, q5⟩ := store_six HK4.out (.slice A' n' cp') (.int .i64 d.w1) (.int .i64 d.w2) (.int .i64 d.a1) (.int .i64 d.a2) (.int .i64 d.bad)
    refine bodyPost_ret (v := .tuple #[.agg #[.slice A' n' cp', .int .i64 d.w1, .int .i64 d.w2, .int .i64 d.a1, .int .i64 d.a2, .int .i64 d.bad], .int .i64 0]) (by simp [results, Tryd.results73, go_sem, q0, q1, q2, q3, q4, q5]) rfl ?_
    rw [HS.out]
    exact ⟨A', n', cp', rfl, HT4.out, below_six HB4.out (by omega) _ _ _ _ _ _⟩
end Go.Proofs.YtffdfajlfgeicaaDoor
