/- How states lie in memory, of which kind and parent count. No condition. -/
import Derived.Test.YtlebgecajlifgaaRows
import Derived.Test.YtlebgecajlifgaaPosts
import Derived.Test.YtlebgecajlifgaaRowI
import Derived.Test.YtlebgecajlifgaaShapeSpec
namespace Go.Proofs.Ytlebgecajlifgaa
open Go.RowKit ShapeSpec

/-- A state's six cells: name, kind, parent, and where its three lists lie. -/
structure StC where
  s : ByteArray
  sh : Sh
  a3 : Option Addr
  n3 : Nat
  c3 : Nat
  a4 : Option Addr
  n4 : Nat
  c4 : Nat
  a5 : Option Addr
  n5 : Nat
  c5 : Nat
def stV (t : StC) : List Value := [.string t.s, .int .i64 t.sh.kind, .int .i64 t.sh.par, .slice t.a3 t.n3 t.c3, .slice t.a4 t.n4 t.c4, .slice t.a5 t.n5 t.c5]
def stsV (l : List StC) : List Value := l.flatMap stV
theorem stV_length (t : StC) : (stV t).length = 6 := rfl
theorem stsV_length (l : List StC) : (stsV l).length = l.length * 6 := flat_length stV_length l

/-- The value is a slice of these states. -/
def Sts (w : World) (v : Value) (l : List Sh) : Prop := ∃ xs : List StC, l = xs.map (·.sh) ∧ Rdk 6 w v l.length (stsV xs)
theorem Sts.keep {w w' : World} {v : Value} {l : List Sh} (h : Sts w v l) (hb : Below w.heap.size w w') : Sts w' v l := by
  obtain ⟨xs, hx, h⟩ := h
  exact ⟨xs, hx, h.keep hb⟩
theorem Sts.alloc {w : World} {v : Value} {l : List Sh} (h : Sts w v l) (o : Obj) : Sts (w.alloc o) v l := h.keep ((Below.refl _ _).alloc (Nat.le_refl _) _)
theorem Sts.shape {w : World} {v : Value} {l : List Sh} (h : Sts w v l) : ∃ A n c, v = .slice A n c ∧ n = l.length ∧ n ≤ c := by
  obtain ⟨xs, hx, A, c, hv, hc, _⟩ := h
  exact ⟨A, _, c, hv, rfl, hc⟩
/-- The cells of the i-th state. -/
theorem Sts.all {w : World} {A : Option Addr} {n c : Nat} {l : List Sh} {i : Nat} {t : Sh} (h : Sts w (.slice A n c) l) (hi : l[i]? = some t) :
    ∃ b off s a3 n3 c3 a4 n4 c4 a5 n5 c5, A = some ⟨b, off, none⟩ ∧ b < w.heap.size ∧ w.cell? ⟨b, off + i * 6, none⟩ = some (.string s) ∧ w.cell? ⟨b, off + i * 6 + 1, none⟩ = some (.int .i64 t.kind) ∧ w.cell? ⟨b, off + i * 6 + 2, none⟩ = some (.int .i64 t.par) ∧
      w.cell? ⟨b, off + i * 6 + 3, none⟩ = some (.slice a3 n3 c3) ∧ w.cell? ⟨b, off + i * 6 + 4, none⟩ = some (.slice a4 n4 c4) ∧ w.cell? ⟨b, off + i * 6 + 5, none⟩ = some (.slice a5 n5 c5) := by
  obtain ⟨xs, rfl, A', c', heq, hc, hl, hA⟩ := h
  cases heq
  have hlt := get_lt hi
  rw [List.getElem?_map] at hi
  obtain ⟨x, hx, rfl⟩ := Option.map_eq_some_iff.1 hi
  obtain ⟨b, off, rfl, hb, hcell⟩ := hA (by omega)
  refine ⟨b, off, x.s, x.a3, x.n3, x.c3, x.a4, x.n4, x.c4, x.a5, x.n5, x.c5, rfl, hb, ?_, ?_, ?_, ?_, ?_, ?_⟩
  · exact hcell _ _ (flat_get (j := 0) stV_length hx (by omega))
  · rw [Nat.add_assoc]; exact hcell _ _ (flat_get (j := 1) stV_length hx (by omega))
  · rw [Nat.add_assoc]; exact hcell _ _ (flat_get (j := 2) stV_length hx (by omega))
  · rw [Nat.add_assoc]; exact hcell _ _ (flat_get (j := 3) stV_length hx (by omega))
  · rw [Nat.add_assoc]; exact hcell _ _ (flat_get (j := 4) stV_length hx (by omega))
  · rw [Nat.add_assoc]; exact hcell _ _ (flat_get (j := 5) stV_length hx (by omega))
theorem Sts.at_ {w : World} {A : Option Addr} {n c : Nat} {l : List Sh} {i : Nat} (h : Sts w (.slice A n c) l) (hi : i < n) :
    ∃ b off, A = some ⟨b, off, none⟩ ∧ b < w.heap.size ∧ w.cell? ⟨b, off + i * 6 + 1, none⟩ = some (.int .i64 (kind l i)) ∧ w.cell? ⟨b, off + i * 6 + 2, none⟩ = some (.int .i64 (par l i)) := by
  obtain ⟨_, m, _, heq, hm, _⟩ := h.shape
  cases heq
  obtain ⟨t, ht⟩ : ∃ t, l[i]? = some t := get_some (by omega)
  obtain ⟨b, off, s, a3, n3, c3, a4, n4, c4, a5, n5, c5, rfl, hb, h0, h1, h2, _⟩ := h.all ht
  rw [kind_at ht, par_at ht]
  exact ⟨b, off, rfl, hb, h1, h2⟩
theorem Sts.len {w : World} {A : Option Addr} {n c : Nat} {l : List Sh} (h : Sts w (.slice A n c) l) : n = l.length := by
  obtain ⟨_, m, _, heq, hm, _⟩ := h.shape
  cases heq
  exact hm
end Go.Proofs.Ytlebgecajlifgaa
