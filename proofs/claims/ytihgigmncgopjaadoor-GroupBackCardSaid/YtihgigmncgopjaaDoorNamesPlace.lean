/- What Place and long, and the plain texts' comparers, answer. Conditions: a slice no longer than memory holds. -/
import Derived.Test.YtihgigmncgopjaaDoorRows
import Derived.Test.YtihgigmncgopjaaDoorNamesSpec
import Derived.BigQuiet
import Derived.Deep.QuietTactic
namespace Go.Proofs.YtihgigmncgopjaaDoor
open Go.RowKit NamesSpec Go.Lib
set_option maxRecDepth 100000

def RetStrs (W : World) (l : List ByteArray) (e : Ending) (w' : World) : Prop := ∃ v, e = .returned v ∧ Rd w' v (strV l) ∧ Below W.heap.size W w'
def RetInts (W : World) (l : List Int) (e : Ending) (w' : World) : Prop := ∃ v, e = .returned v ∧ Rd w' v (intV l) ∧ Below W.heap.size W w'

def PlaceRel (l : List ByteArray) (n : Nat) (s : ByteArray) (i : Value) : Prop := ∃ k : Nat, k ≤ n ∧ i = .int .i64 k ∧ s ∉ l.take k
/-- Is some text longer? -/
def longB (l : List ByteArray) (m : Int) : Bool := l.any fun s => decide (m < (s.size : Int))
def LongRel (l : List ByteArray) (n : Nat) (m : Int) (i : Value) : Prop := ∃ k : Nat, k ≤ n ∧ i = .int .i64 k ∧ longB (l.take k) m = false
/-- Are two lists the same? -/
def sameS (a b : List ByteArray) : Bool := decide (a = b)
def sameI (a b : List Int) : Bool := decide (a = b)
theorem same_step {α : Type} {a b : List α} {k : Nat} {x y : α} (h : a.take k = b.take k) (hx : a[k]? = some x) (hy : b[k]? = some y) : a.take (k + 1) = b.take (k + 1) ↔ x = y := by
  rw [take_next hx, take_next hy, h]; simp
theorem same_ne {α : Type} {a b : List α} {k : Nat} {x y : α} (hx : a[k]? = some x) (hy : b[k]? = some y) (h : x ≠ y) : a ≠ b := by
  rintro rfl
  rw [hx] at hy
  exact h (by injection hy)

def SameRel {α : Type} (W : World) (a b : List α) (n : Nat) (i : Value) (w : World) : Prop := ∃ (k q : Nat), k ≤ n ∧ i = .int .i64 k ∧ a.take k = b.take k ∧ w = W.drewN q
def BoolQuiet (W : World) (b : Bool) (e : Ending) (w' : World) : Prop := e = .returned (.bool b) ∧ ∃ q, w' = W.drewN q
theorem BoolQuiet.below {W : World} {b : Bool} {e : Ending} {w' : World} (h : BoolQuiet W b e w') : e = .returned (.bool b) ∧ Below W.heap.size W w' := by
  obtain ⟨rfl, q, rfl⟩ := h
  exact ⟨rfl, below_drewN (Below.refl _ _) q⟩
set_option maxHeartbeats 800000 in
theorem same_any (v u : Value) (a b : List Int) (w : World) (h : Rd w v (intV a)) (h' : Rd w u (intV b)) (hm : a.length ≤ 9223372036854775807) :
    Calls Tryd.prog 8 #[v, u] w (BoolQuiet w (sameI a b)) := by
  obtain ⟨A, n, c, rfl, hn, hc, hA⟩ := h.ints
  obtain ⟨B, m, d, rfl, hn', hd, hB⟩ := h'.ints
  have HA := Lib.hid hA
  have HB := Lib.hid hB
  have hm' : n ≤ 9223372036854775807 := by omega
  by_cases hnm : n = m
  · subst hnm
    have HN := Lib.hid hn
    have HN' := Lib.hid hn'
    clear hA hn h hc hm hB hn' h' hd
    go_enter Tryd.func8, Tryd.ntmps8
    go_wp2
    go_loopw [5] (fun i wr => SameRel w a b n i wr) (fun i _ => n - (RowKit.intOf i).toNat)
    case atStart => exact ⟨0, 0, Nat.zero_le _, rfl, by simp, rfl⟩
    case round =>
      obtain ⟨k, q, hk, rfl, hsm, rfl⟩ := hrel
      by_cases hlt : k < n
      · obtain ⟨b1, off1, rfl, hb1, hcell1⟩ := HA.out (by omega)
        obtain ⟨b2, off2, rfl, hb2, hcell2⟩ := HB.out (by omega)
        obtain ⟨x, hx⟩ : ∃ x, a[k]? = some x := get_some (by have := HN.out; omega)
        obtain ⟨y, hy⟩ : ∃ y, b[k]? = some y := get_some (by have := HN'.out; omega)
        have hck1 := hcell1 k x hx
        have hck2 := hcell2 k y hy
        have hltI : (k : Int) < (n : Int) := by omega
        have HX := Lib.hid hx
        have HY := Lib.hid hy
        have HS := Lib.hid hsm
        clear hcell1 hcell2 hx hy hsm
        by_cases hxy : x = y
        · subst hxy
          have hxy' : (x != x) = false := by simp
          go_wp2
          go_quiet (fail)
          go_wp2
          go_roundw
          case rel => exact ⟨k + 1, _, by omega, by go_num, (same_step HS.out HX.out HY.out).2 rfl, rfl⟩
          case measure => simp [RowKit.intOf]; omega
        · have HXY := Lib.hid hxy
          have hxy' : (x != y) = true := by simpa using hxy
          clear hxy
          go_wp2
          go_quiet (fail)
          go_wp2
          go_ret
          exact ⟨ret_bool (by unfold sameI; exact (decide_eq_false (same_ne HX.out HY.out HXY.out)).symm), _, World.drewN_drewN _ _ _⟩
      · go_wp2
        go_ret
        have e1 := HN.out
        have e2 := HN'.out
        exact ⟨ret_bool (by rw [List.take_of_length_le (by omega), List.take_of_length_le (by omega)] at hsm; unfold sameI; exact (decide_eq_true hsm).symm), _, rfl⟩
  · have HE : Hid (sameI a b = false) := Lib.hid (decide_eq_false (fun e => hnm (by rw [← hn, ← hn', e])))
    have hne : ¬ (n : Int) = (m : Int) := by omega
    clear hA hn h hc hm hB hn' h' hd HA HB
    go_enter Tryd.func8, Tryd.ntmps8
    go_wp2
    go_ret
    exact ⟨ret_bool HE.out.symm, 0, rfl⟩
end Go.Proofs.YtihgigmncgopjaaDoor
