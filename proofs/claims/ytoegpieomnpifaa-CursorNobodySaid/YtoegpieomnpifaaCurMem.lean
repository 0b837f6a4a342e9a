/- How cursors and tokens lie in memory. No condition. -/
import Derived.Test.YtoegpieomnpifaaRows
import Derived.Test.YtoegpieomnpifaaKitB
import Derived.Test.YtoegpieomnpifaaCurSpec
namespace Go.Proofs.Ytoegpieomnpifaa
open Go.RowKit CurSpec

def tkV (t : Tk) : List Value := [.int .i64 t.k, .string t.t, .int .i64 t.l, .int .i64 t.c]
def tksV (l : List Tk) : List Value := l.flatMap tkV
theorem tkV_length (t : Tk) : (tkV t).length = 4 := rfl
theorem tksV_length (l : List Tk) : (tksV l).length = l.length * 4 := flat_length tkV_length l
theorem tkV_one (t : Tk) : ∀ u ∈ tkV t, u.oneCell' = true := by simp [tkV, Value.oneCell']
theorem tksV_one (l : List Tk) : ∀ u ∈ tksV l, u.oneCell' = true := by
  intro u hu
  obtain ⟨t, _, h⟩ := List.mem_flatMap.1 hu
  exact tkV_one t u h
theorem tksV_cons (t : Tk) (l : List Tk) : tksV (t :: l) = tkV t ++ tksV l := by simp [tksV]
theorem tksV_get {l : List Tk} {i : Nat} {t : Tk} (h : l[i]? = some t) : (tksV l)[i * 4]? = some (.int .i64 t.k) ∧ (tksV l)[i * 4 + 1]? = some (.string t.t) ∧ (tksV l)[i * 4 + 2]? = some (.int .i64 t.l) ∧ (tksV l)[i * 4 + 3]? = some (.int .i64 t.c) :=
  ⟨flat_get (j := 0) tkV_length h (by omega), flat_get (j := 1) tkV_length h (by omega), flat_get (j := 2) tkV_length h (by omega), flat_get (j := 3) tkV_length h (by omega)⟩
/-- A token by value. -/
def tkA (t : Tk) : Value := .agg #[.int .i64 t.k, .string t.t, .int .i64 t.l, .int .i64 t.c]

/-- The value is a slice of these tokens. -/
def Toks (w : World) (v : Value) (l : List Tk) : Prop := ∃ n, n = l.length ∧ Rdk 4 w v n (tksV l)
theorem Toks.keep {w w' : World} {v : Value} {l : List Tk} (h : Toks w v l) (hb : Below w.heap.size w w') : Toks w' v l := by
  obtain ⟨n, hn, h⟩ := h
  exact ⟨n, hn, h.keep hb⟩
theorem Toks.alloc {w : World} {v : Value} {l : List Tk} (h : Toks w v l) (o : Obj) : Toks (w.alloc o) v l := h.keep ((Below.refl _ _).alloc (Nat.le_refl _) _)
/-- Opened: the first token's cells, and the slice behind it. -/
theorem Toks.cons {w : World} {v : Value} {t : Tk} {l : List Tk} (h : Toks w v (t :: l)) :
    ∃ b off n c, v = .slice (some ⟨b, off, none⟩) (n + 1) c ∧ n = l.length ∧ n + 1 ≤ c ∧ b < w.heap.size ∧ w.cell? ⟨b, off, none⟩ = some (.int .i64 t.k) ∧ w.cell? ⟨b, off + 1, none⟩ = some (.string t.t) ∧ w.cell? ⟨b, off + 2, none⟩ = some (.int .i64 t.l) ∧ w.cell? ⟨b, off + 3, none⟩ = some (.int .i64 t.c) ∧
      Toks w (.slice (some ⟨b, if c = 1 then off else off + 4, none⟩) n (c - 1)) l := by
  obtain ⟨n, rfl, A, c, rfl, hc, hl, hA⟩ := h
  obtain ⟨b, off, rfl, hb, hcell⟩ := hA (by simp)
  have g := tksV_get (l := t :: l) (i := 0) rfl
  simp only [List.length_cons] at hc
  refine ⟨b, off, l.length, c, rfl, rfl, hc, hb, hcell 0 _ g.1, hcell 1 _ g.2.1, hcell 2 _ g.2.2.1, hcell 3 _ g.2.2.2, l.length, rfl, _, _, rfl, by omega, tksV_length l, fun h0 => ⟨b, off + 4, ?_, hb, fun j u hj => ?_⟩⟩
  · rw [if_neg (by omega)]
  · rw [show off + 4 + j = off + (4 + j) by omega]
    refine hcell _ _ ?_
    rw [tksV_cons, List.getElem?_append_right (by rw [tkV_length]; omega), tkV_length, Nat.add_sub_cancel_left, hj]
theorem Toks.shape {w : World} {v : Value} {l : List Tk} (h : Toks w v l) : ∃ A n c, v = .slice A n c ∧ n = l.length := by
  obtain ⟨n, hn, A, c, hv, _⟩ := h
  exact ⟨A, n, c, hv, hn⟩
theorem Toks.nil0 {w : World} {A : Option Addr} {n cp : Nat} (h : Toks w (.slice A n cp) []) : n = 0 := by
  obtain ⟨m, hm, A', c', heq, _⟩ := h
  cases heq
  exact hm
theorem Toks.cons' {w : World} {A : Option Addr} {n cp : Nat} {t : Tk} {l : List Tk} (h : Toks w (.slice A n cp) (t :: l)) :
    ∃ b off m, A = some ⟨b, off, none⟩ ∧ n = m + 1 ∧ m + 1 ≤ cp ∧ b < w.heap.size ∧ w.cell? ⟨b, off, none⟩ = some (.int .i64 t.k) ∧ w.cell? ⟨b, off + 1, none⟩ = some (.string t.t) ∧ w.cell? ⟨b, off + 2, none⟩ = some (.int .i64 t.l) ∧ w.cell? ⟨b, off + 3, none⟩ = some (.int .i64 t.c) ∧
      Toks w (.slice (some ⟨b, if cp = 1 then off else off + 4, none⟩) m (cp - 1)) l := by
  obtain ⟨b, off, m, c, heq, _, hc, hb, h0, h1, h2, h3, ht⟩ := h.cons
  cases heq
  exact ⟨b, off, m, rfl, rfl, hc, hb, h0, h1, h2, h3, ht⟩

/-- A cursor by value, whose tokens lie in the memory of an earlier world. -/
def RetCur (W0 W : World) (c : Cur) (e : Ending) (w' : World) : Prop :=
  ∃ A n cp, e = .returned (.agg #[.slice A n cp, .int .i64 c.w1, .int .i64 c.w2, .int .i64 c.a1, .int .i64 c.a2, .int .i64 c.bad]) ∧ Toks W0 (.slice A n cp) c.L ∧ Below W.heap.size W w'
def RetBool (W : World) (b : Bool) (e : Ending) (w' : World) : Prop := e = .returned (.bool b) ∧ Below W.heap.size W w'
def RetTk (W : World) (k : Int) (s : ByteArray) (l c : Int) (e : Ending) (w' : World) : Prop := e = .returned (.agg #[.int .i64 k, .string s, .int .i64 l, .int .i64 c]) ∧ Below W.heap.size W w'

/-- A block of so many cells. -/
def Blk (w : World) (b n : Nat) : Prop := ∃ cs T, w.heap[b]? = some (.cells cs T (0, 0)) ∧ cs.size = n
theorem Blk.of {w : World} {b : Nat} {cs : Array Value} {T : TypeId} (h : w.heap[b]? = some (.cells cs T (0, 0))) : Blk w b cs.size := ⟨cs, T, h, rfl⟩
theorem Blk.set {w : World} {b n : Nat} (h : Blk w b n) (i : Nat) (u : Value) : Blk (w.setCell ⟨b, i, none⟩ u) b n := by
  obtain ⟨cs, T, h, hn⟩ := h
  exact ⟨_, T, block_setCell' h i u, by rw [Array.size_setIfInBounds, hn]⟩
theorem Blk.read {w : World} {b n : Nat} (h : Blk w b n) (i : Nat) (hi : i < n) (u : Value) : (w.setCell ⟨b, i, none⟩ u).cell? ⟨b, i, none⟩ = some u := by
  obtain ⟨cs, T, h, hn⟩ := h
  exact cell_of_block' (block_setCell' h i u) (by rw [Array.getElem?_setIfInBounds_self, if_pos (by omega)])
/-- A result of six cells that has just been written. -/
theorem store_six {w : World} {b : Nat} (h : Blk w b 6) (u0 u1 u2 u3 u4 u5 : Value) :
    (w.setCell ⟨b, 0, none⟩ u0).cell? ⟨b, 0, none⟩ = some u0 ∧ ((w.setCell ⟨b, 0, none⟩ u0).setCell ⟨b, 1, none⟩ u1).cell? ⟨b, 1, none⟩ = some u1 ∧
    (((w.setCell ⟨b, 0, none⟩ u0).setCell ⟨b, 1, none⟩ u1).setCell ⟨b, 2, none⟩ u2).cell? ⟨b, 2, none⟩ = some u2 ∧
    ((((w.setCell ⟨b, 0, none⟩ u0).setCell ⟨b, 1, none⟩ u1).setCell ⟨b, 2, none⟩ u2).setCell ⟨b, 3, none⟩ u3).cell? ⟨b, 3, none⟩ = some u3 ∧
    (((((w.setCell ⟨b, 0, none⟩ u0).setCell ⟨b, 1, none⟩ u1).setCell ⟨b, 2, none⟩ u2).setCell ⟨b, 3, none⟩ u3).setCell ⟨b, 4, none⟩ u4).cell? ⟨b, 4, none⟩ = some u4 ∧
    ((((((w.setCell ⟨b, 0, none⟩ u0).setCell ⟨b, 1, none⟩ u1).setCell ⟨b, 2, none⟩ u2).setCell ⟨b, 3, none⟩ u3).setCell ⟨b, 4, none⟩ u4).setCell ⟨b, 5, none⟩ u5).cell? ⟨b, 5, none⟩ = some u5 :=
  ⟨h.read 0 (by omega) _, (h.set _ _).read 1 (by omega) _, ((h.set _ _).set _ _).read 2 (by omega) _, (((h.set _ _).set _ _).set _ _).read 3 (by omega) _, ((((h.set _ _).set _ _).set _ _).set _ _).read 4 (by omega) _, (((((h.set _ _).set _ _).set _ _).set _ _).set _ _).read 5 (by omega) _⟩
theorem store_4 {w : World} {b : Nat} (h : Blk w b 4) (u0 u1 u2 u3 : Value) :
    (w.setCell ⟨b, 0, none⟩ u0).cell? ⟨b, 0, none⟩ = some u0 ∧ ((w.setCell ⟨b, 0, none⟩ u0).setCell ⟨b, 1, none⟩ u1).cell? ⟨b, 1, none⟩ = some u1 ∧
    (((w.setCell ⟨b, 0, none⟩ u0).setCell ⟨b, 1, none⟩ u1).setCell ⟨b, 2, none⟩ u2).cell? ⟨b, 2, none⟩ = some u2 ∧
    ((((w.setCell ⟨b, 0, none⟩ u0).setCell ⟨b, 1, none⟩ u1).setCell ⟨b, 2, none⟩ u2).setCell ⟨b, 3, none⟩ u3).cell? ⟨b, 3, none⟩ = some u3 :=
  ⟨h.read 0 (by omega) _, (h.set _ _).read 1 (by omega) _, ((h.set _ _).set _ _).read 2 (by omega) _, (((h.set _ _).set _ _).set _ _).read 3 (by omega) _⟩
theorem below_4 {B : Nat} {w x : World} {b : Nat} (h : Below B w x) (hb : B ≤ b) (u0 u1 u2 u3 : Value) :
    Below B w ((((x.setCell ⟨b, 0, none⟩ u0).setCell ⟨b, 1, none⟩ u1).setCell ⟨b, 2, none⟩ u2).setCell ⟨b, 3, none⟩ u3) :=
  (((h.setCell hb _).setCell hb _).setCell hb _).setCell hb _
theorem below_six {B : Nat} {w x : World} {b : Nat} (h : Below B w x) (hb : B ≤ b) (u0 u1 u2 u3 u4 u5 : Value) :
    Below B w ((((((x.setCell ⟨b, 0, none⟩ u0).setCell ⟨b, 1, none⟩ u1).setCell ⟨b, 2, none⟩ u2).setCell ⟨b, 3, none⟩ u3).setCell ⟨b, 4, none⟩ u4).setCell ⟨b, 5, none⟩ u5) :=
  (((((h.setCell hb _).setCell hb _).setCell hb _).setCell hb _).setCell hb _).setCell hb _
theorem below_pair (w : World) (o p : Obj) : Below w.heap.size w ((w.alloc o).alloc p) := ((Below.refl _ _).alloc (Nat.le_refl _) _).alloc (by simp) _
/-- Two blocks that were made, behind a call that leaves them. -/
theorem pair_blocks {w w2 : World} {o p : Obj} (hb : Below ((w.alloc o).alloc p).heap.size ((w.alloc o).alloc p) w2) :
    w2.heap[w.heap.size]? = some o ∧ w2.heap[w.heap.size + 1]? = some p ∧ Below w.heap.size w w2 ∧ w.heap.size + 1 < w2.heap.size := by
  have hz := hb.size
  simp only [World.size_alloc] at hz
  refine ⟨(hb.block _ (by simp; omega)).trans ((heap_alloc_old _ _ (by simp)).trans (heap_alloc_new _ _)), (hb.block _ (by simp)).trans ?_, ?_, by omega⟩
  · have := heap_alloc_new (w.alloc o) p
    rwa [World.size_alloc] at this
  · exact (below_pair w o p).trans (hb.mono (by simp; omega))
theorem one_block {w w2 : World} {o : Obj} (hb : Below (w.alloc o).heap.size (w.alloc o) w2) : w2.heap[w.heap.size]? = some o ∧ Below w.heap.size w w2 ∧ w.heap.size < w2.heap.size := by
  have hz := hb.size
  simp only [World.size_alloc] at hz
  exact ⟨(hb.block _ (by simp)).trans (heap_alloc_new _ _), ((Below.refl _ _).alloc (Nat.le_refl _) _).trans (hb.mono (by simp)), by omega⟩
theorem undrew {w w' : World} (h : Below w.drew.heap.size w.drew w') : Below w.heap.size w w' := ⟨h.os, h.tape, h.output, h.size, h.block⟩
/-- A block as it was, behind a call. -/
theorem block_on {w w2 : World} {b : Nat} {o : Obj} (h : w.heap[b]? = some o) (hb : Below w.heap.size w w2) : w2.heap[b]? = some o := (hb.block b (Array.getElem?_eq_some_iff.1 h).1).trans h
theorem blk_of {w : World} {b n : Nat} {cs : Array Value} {T : TypeId} (h : w.heap[b]? = some (.cells cs T (0, 0))) (hn : cs.size = n) : Blk w b n := ⟨cs, T, h, hn⟩
theorem Blk.other {w : World} {b n c : Nat} (h : Blk w b n) (hne : b ≠ c) (i : Nat) (u : Value) : Blk (w.setCell ⟨c, i, none⟩ u) b n := by
  obtain ⟨cs, T, h, hn⟩ := h
  exact ⟨cs, T, (Below.heap_setCell _ _ _ _ hne).trans h, hn⟩
end Go.Proofs.Ytoegpieomnpifaa
