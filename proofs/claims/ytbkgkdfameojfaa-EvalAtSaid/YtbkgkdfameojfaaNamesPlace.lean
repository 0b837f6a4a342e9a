/- What Place and long, and the plain texts' comparers, answer. Conditions: a slice no longer than memory holds. -/
import Derived.Test.YtbkgkdfameojfaaRows
import Derived.Test.YtbkgkdfameojfaaShelf
import Derived.Test.YtbkgkdfameojfaaNamesSpec
import Derived.BigQuiet
import Derived.Deep.QuietTactic
namespace Go.Proofs.Ytbkgkdfameojfaa
open Go.RowKit NamesSpec Go.Lib
set_option maxRecDepth 100000

def RetStrs (W : World) (l : List ByteArray) (e : Ending) (w' : World) : Prop := ∃ v, e = .returned v ∧ Rd w' v (strV l) ∧ Below W.heap.size W w'
def RetInts (W : World) (l : List Int) (e : Ending) (w' : World) : Prop := ∃ v, e = .returned v ∧ Rd w' v (intV l) ∧ Below W.heap.size W w'

def PlaceRel (l : List ByteArray) (n : Nat) (s : ByteArray) (i : Value) : Prop := ∃ k : Nat, k ≤ n ∧ i = .int .i64 k ∧ s ∉ l.take k
set_option maxHeartbeats 400000 in
theorem rplace_any (v : Value) (l : List ByteArray) (s : ByteArray) (w : World) (h : Rd w v (strV l)) (hm : l.length ≤ 9223372036854775807) :
    Calls Try.prog 28 #[v, .string s] w fun e w' => e = .returned (.int .i64 (idxOfS l s)) ∧ w = w' := by
  obtain ⟨A, n, c, rfl, hn, hc, hA⟩ := h.strs
  have HA := Lib.hid hA
  have HN := Lib.hid hn
  have hm' : n ≤ 9223372036854775807 := by omega
  clear hA hn h hc hm
  go_enter Try.func28, Try.ntmps28
  go_wp2
  go_loop [5] (fun i => PlaceRel l n s i) (fun i => n - (RowKit.intOf i).toNat)
  case atStart => exact ⟨0, Nat.zero_le _, rfl, by simp⟩
  case round =>
    obtain ⟨k, hk, rfl, hno⟩ := hrel
    by_cases hlt : k < n
    · obtain ⟨b, off, rfl, hb, hcell⟩ := HA.out (by omega)
      obtain ⟨x, hx⟩ : ∃ x, l[k]? = some x := get_some (by have := HN.out; omega)
      have hck := hcell k x hx
      have HX := Lib.hid hx
      have HO := Lib.hid hno
      clear hcell hx hno
      rcases hxs : (x.toList == s.toList) with _ | _
      · go_wp2
        go_round
        case rel =>
          refine ⟨k + 1, by omega, by go_num, ?_⟩
          rw [take_next HX.out, List.mem_append, List.mem_singleton]
          rintro (h1 | h1)
          · exact HO.out h1
          · exact bytes_ne hxs h1.symm
        case measure => simp [RowKit.intOf]; omega
      · go_wp2
        go_ret
        exact ⟨ret_int (by rw [← bytes_eq hxs] at HO ⊢; exact (place_hit HX.out HO.out).symm), rfl⟩
    · go_wp2
      go_ret
      have := HN.out
      exact ⟨ret_int (by rw [List.take_of_length_le (by omega)] at hno; exact (place_miss hno).symm), rfl⟩

theorem nplace_any (v : Value) (l : List ByteArray) (s : ByteArray) (w : World) (h : Rd w v (strV l)) (hm : l.length ≤ 9223372036854775807) :
    Calls Try.prog 46 #[v, .string s] w fun e w' => e = .returned (.int .i64 (idxOfS l s)) ∧ w = w' := by
  obtain ⟨A, n, c, rfl, hn, hc, hA⟩ := h.strs
  rcases Nat.eq_zero_or_pos n with h0 | h0
  · subst h0
    obtain rfl : l = [] := List.eq_nil_of_length_eq_zero hn
    clear h hn hc hA hm
    go_enter Try.func46, Try.ntmps46
    go_wp2_with (go_at_call 57; refine (Try.slices_Index_string_empty _ _ _ _).mono ?_; rintro e w' ⟨rfl, rfl⟩)
    go_ret
    exact ⟨rfl, rfl⟩
  · obtain ⟨b, off, rfl, hb, hcell⟩ := hA h0
    have H := Lib.hid (Try.slices_Index_string b off n c l s w (by omega) (by omega) (fun j hj => by
      obtain ⟨x, hx⟩ := get_some hj
      rw [hcell j x hx, getD_of hx]))
    have HN := Lib.hid hn
    clear h hn hc hA hm hcell
    go_enter Try.func46, Try.ntmps46
    go_wp2_with (go_at_call 57; refine H.out.mono ?_; rintro e w' ⟨rfl, rfl⟩)
    go_ret
    exact ⟨ret_int (by rw [← HN.out, List.take_of_length_le (Nat.le_refl _)]), rfl⟩

/-- Is some text longer? -/
def longB (l : List ByteArray) (m : Int) : Bool := l.any fun s => decide (m < (s.size : Int))
def LongRel (l : List ByteArray) (n : Nat) (m : Int) (i : Value) : Prop := ∃ k : Nat, k ≤ n ∧ i = .int .i64 k ∧ longB (l.take k) m = false
/-- Are two lists the same? -/
def sameS (a b : List ByteArray) : Bool := decide (a = b)
def sameI (a b : List Int) : Bool := decide (a = b)
theorem same_step {α : Type} {a b : List α} {k : Nat} {x y : α} (h : a.take k = b.take k) (hx : a[k]? = some x) (hy : b[k]? = some y) : a.take (k + 1) = b.take (k + 1) ↔ x = y := by
  rw [take_next hx, take_next hy, h]; simp
theorem same_ne {α : Type} {a b : List α} {k : Nat} {x y : α} (hx : a[k]? = some x) (hy : b[k]? = some y) (h : x ≠ y) : a ≠ b := by
  rintro rfl
  rw [hx] at hy
  exact h (by injection hy)

def SameRel {α : Type} (W : World) (a b : List α) (n : Nat) (i : Value) (w : World) : Prop := ∃ (k q : Nat), k ≤ n ∧ i = .int .i64 k ∧ a.take k = b.take k ∧ w = W.drewN q
def BoolQuiet (W : World) (b : Bool) (e : Ending) (w' : World) : Prop := e = .returned (.bool b) ∧ ∃ q, w' = W.drewN q
theorem BoolQuiet.below {W : World} {b : Bool} {e : Ending} {w' : World} (h : BoolQuiet W b e w') : e = .returned (.bool b) ∧ Below W.heap.size W w' := by
  obtain ⟨rfl, q, rfl⟩ := h
  exact ⟨rfl, below_drewN (Below.refl _ _) q⟩
end Go.Proofs.Ytbkgkdfameojfaa
