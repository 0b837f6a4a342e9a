/- Arguments that came in, opened: a slice whose elements have several cells reads as a list. No condition. -/
import Derived.Test.YtihgigmncgopjaaDoorKitN
import Derived.ProofKit
import Derived.OpenShut
import Derived.Deep.Slices
namespace Go.Proofs.YtihgigmncgopjaaDoor
open Go.RowKit Go.ChangeShapes Go.WideShapes Go.Deep

theorem cell_there' {w : World} {b o : Nat} {u : Value} (h : w.cell? ⟨b, o, none⟩ = some u) : b < w.heap.size := by
  rcases Nat.lt_or_ge b w.heap.size with hlt | hge
  · exact hlt
  · simp [World.cell?, Array.getElem?_eq_none hge] at h
theorem list_of {α : Type} {R : Nat → α → Prop} : ∀ n, (∀ i, i < n → ∃ a, R i a) → ∃ l : List α, l.length = n ∧ ∀ i a, l[i]? = some a → R i a
  | 0, _ => ⟨[], rfl, fun i a h => by simp at h⟩
  | n + 1, h => by
    obtain ⟨l, hl, hR⟩ := list_of n (fun i hi => h i (by omega))
    obtain ⟨a, ha⟩ := h n (by omega)
    refine ⟨l ++ [a], by simp [hl], fun i b hb => ?_⟩
    rcases Nat.lt_or_ge i l.length with hlt | hge
    · rw [List.getElem?_append_left hlt] at hb
      exact hR i b hb
    · rw [List.getElem?_append_right hge] at hb
      obtain hi : i - l.length = 0 := by
        have := (List.getElem?_eq_some_iff.1 hb).1
        simp at this
        omega
      rw [hi] at hb
      simp at hb
      subst hb
      obtain rfl : i = n := by omega
      exact ha
theorem flat_at {α : Type} {k : Nat} {f : α → List Value} (hf : ∀ a, (f a).length = k) (hk : 0 < k) {l : List α} {q : Nat} {u : Value} (h : (l.flatMap f)[q]? = some u) : ∃ a, l[q / k]? = some a ∧ (f a)[q % k]? = some u := by
  have hq : q < l.length * k := by have := (List.getElem?_eq_some_iff.1 h).1; rwa [flat_length hf] at this
  have hi : q / k < l.length := Nat.div_lt_of_lt_mul (by rwa [Nat.mul_comm] at hq)
  refine ⟨l[q / k], List.getElem?_eq_getElem hi, ?_⟩
  rw [← flat_get hf (List.getElem?_eq_getElem hi) (Nat.mod_lt q hk), Nat.mul_comm (q / k) k, Nat.div_add_mod]
  exact h

theorem open_rows {α : Type} {f : α → List Value} {Good : α → Prop} {k : Nat} {H : Type} {enc : TypeId × Value → H} {P : Program} {W : World} {base b0 : Nat} {spare : Nat → Bool} {held : Bool} {r : Reach} {t e : TypeId} {v : Value} {d : DataW H} {p : List MemPlace}
    (hf : ∀ a, (f a).length = k) (hk0 : 0 < k) (hk : P.cellsOf e = k) (hu : P.underlying t = some (.slice e))
    (hdec : ∀ n cs x, DataW.trod enc P W base spare held n e cs = some x → ∃ a, cs = f a ∧ Good a)
    (hv : Value.okWide P W r b0 t v) (h : DataW.Trod enc P W base spare held t v d p) :
    ∃ (A : Option Addr) (n cp : Nat) (l : List α), v = .slice A n cp ∧ n = l.length ∧ Rdk k W (.slice A n cp) n (l.flatMap f) ∧ (∀ a ∈ l, Good a) ∧ n ≤ 9223372036854775807 := by
  obtain ⟨a0, len, cap, rfl⟩ := okWide_slice hu hv
  obtain ⟨fuel, hx⟩ := h
  rcases open_slice hu hx with ⟨hcs, _⟩ | ⟨a, len', cap', m, n, D, Pl, hcs, hb, hl, hm, hmm, _, hi⟩
  · simp [Value.cells] at hcs
    obtain ⟨rfl, rfl, rfl⟩ := hcs
    exact ⟨none, 0, 0, [], rfl, rfl, Rdk.nil k W, by simp, by omega⟩
  · simp [Value.cells] at hcs
    obtain ⟨rfl, rfl, rfl⟩ := hcs
    rw [hk] at hi
    have hlm : len ≤ m := by rw [hmm]; split <;> omega
    obtain ⟨l, hll, hR⟩ := list_of (R := fun i (x : α) => (∀ j, j < k → W.cell? ((a.add (i * k)).add j) = (f x)[j]?) ∧ Good x) len (fun i hlt => by
      obtain ⟨cs', hc, ht⟩ := hi i (by omega)
      obtain ⟨x, rfl, hg⟩ := hdec _ _ _ ht
      obtain ⟨_, _, hat⟩ := World.cells?_some hc
      exact ⟨x, hat, hg⟩)
    refine ⟨some a, len, cap, l, rfl, hll.symm, ⟨some a, cap, rfl, hl, by rw [flat_length hf, hll], fun h0 => ?_⟩, fun x hx => ?_, by unfold maxLen at hm; omega⟩
    · obtain ⟨x, hx0⟩ : ∃ x, l[0]? = some x := get_some (by omega)
      obtain ⟨u, hu0⟩ : ∃ u, (f x)[0]? = some u := get_some (by rw [hf]; exact hk0)
      obtain ⟨b, off, spot⟩ := a
      have h00 := (hR 0 x hx0).1 0 hk0
      rw [hu0] at h00
      have hspot : spot = none := by simpa [Addr.add] using World.cell?_spot h00
      subst hspot
      rw [addr_add, addr_add] at h00
      refine ⟨b, off, rfl, cell_there' h00, fun q u hq => ?_⟩
      obtain ⟨y, hy, hu⟩ := flat_at hf hk0 hq
      have := (hR _ y hy).1 (q % k) (Nat.mod_lt q hk0)
      rw [addr_add, addr_add, Nat.add_assoc, Nat.mul_comm (q / k) k, Nat.div_add_mod, hu] at this
      exact this
    · obtain ⟨i, hi⟩ := List.mem_iff_getElem?.1 hx
      exact (hR i x hi).2
end Go.Proofs.YtihgigmncgopjaaDoor
