/- The plain example of the layer of names (awake) answers true, and what was in memory stays. No condition. -/
import Derived.Test.YtkbiepcnjieekaaNamesRefIs
import Derived.Test.YtkbiepcnjieekaaNamesRefUnion
namespace Go.Proofs.Ytkbiepcnjieekaa
open Go.RowKit NamesSpec Go.Lib

def exU : List ByteArray := [⟨#[97]⟩, ⟨#[98]⟩, ⟨#[99]⟩]
def exT : List ByteArray := [⟨#[97]⟩, ⟨#[98]⟩, ⟨#[97]⟩]
theorem ex_un : un [⟨#[98]⟩, ⟨#[97]⟩] [⟨#[97]⟩, ⟨#[99]⟩] = exU := un_eq (by unfold Rises; decide) fun s => by
  simp only [exU, List.mem_cons, List.not_mem_nil, or_false]
  constructor
  · rintro (h | h | h) <;> simp [h]
  · rintro ((h | h) | h | h) <;> simp [h]
theorem ex_tw : twins exT = [2] := by decide
theorem ex_is {s : ByteArray} {b : Bool} (h : isName s.data.toList = b) (hs : s.size ≤ 9223372036854775807) (w : World) : Calls Try.prog 9 #[.string s] w fun e w' => e = .returned (.bool b) ∧ Below w.heap.size w w' := by
  subst h; exact is_any s w hs
theorem ex_door (w : World) : Calls Try.prog 9 #[.string ⟨#[100, 111, 111, 114, 95, 50]⟩] w fun e w' => e = .returned (.bool true) ∧ Below w.heap.size w w' := ex_is (by decide) (by decide) w
theorem ex_leaf (w : World) : Calls Try.prog 9 #[.string ⟨#[108, 101, 97, 102]⟩] w fun e w' => e = .returned (.bool false) ∧ Below w.heap.size w w' := ex_is (by decide) (by decide) w
theorem ex_2a (w : World) : Calls Try.prog 9 #[.string ⟨#[50, 97]⟩] w fun e w' => e = .returned (.bool false) ∧ Below w.heap.size w w' := ex_is (by decide) (by decide) w
theorem ex_in (w : World) : Calls Try.prog 11 #[.string ⟨#[105, 110]⟩] w fun e w' => e = .returned (.bool true) ∧ w = w' := by
  have h := keyword_any ⟨#[105, 110]⟩ w
  rw [show isKw (⟨#[105, 110]⟩ : ByteArray).data.toList = true by decide] at h
  exact h
theorem ex_union {v1 v2 : Value} {w : World} (r1 : Rd w v1 (strV [⟨#[98]⟩, ⟨#[97]⟩])) (r2 : Rd w v2 (strV [⟨#[97]⟩, ⟨#[99]⟩])) : Calls Try.prog 16 #[v1, v2] w (RetStrs w exU) := by
  have h := union_any v1 v2 _ _ w r1 r2 (by decide)
  rwa [ex_un] at h
theorem ex_twins {v : Value} {w : World} (r : Rd w v (strV exT)) : Calls Try.prog 15 #[v] w (RetInts w [2]) := by
  have h := twins_any v _ w r (by decide) (by decide)
  rwa [ex_tw] at h
theorem ex_texts {v u : Value} {w : World} (r : Rd w v (strV exU)) (r' : Rd w u (strV exU)) : Calls Try.prog 17 #[v, u] w fun e w' => e = .returned (.bool true) ∧ Below w.heap.size w w' := by
  refine (texts_any v u exU exU w r r' (by decide)).mono fun e w' h => ?_
  have := h.below
  rwa [show sameS exU exU = true from decide_eq_true rfl] at this

theorem lit_at {w : World} {cs : Array Value} {xs : List Value} {e : TypeId} {n k : Nat} (hk : k = w.heap.size) (hn : n = xs.length) (hx : cs.toList = xs) : Rd (w.alloc (.cells cs e)) (.slice (some ⟨k, 0, none⟩) n n) xs := by
  subst hk; subst hx
  exact Rd.lit (by simpa using hn)

set_option maxHeartbeats 1000000 in
theorem awake_any (w : World) : Calls Try.prog 6 #[] w fun e w' => e = .returned (.bool true) ∧ Below w.heap.size w w' := by
  go_enter Try.func6, Try.ntmps6
  go_wp2_with (go_at_call 16; (with_reducible refine (ex_union ?_ ?_).mono ?_); (exact (lit_at rfl rfl rfl).alloc _); (exact lit_at (by simp) rfl rfl))
  rintro e w1 ⟨p, rfl, hp, hb1⟩
  go_wp2_with (go_at_call 15; (with_reducible refine (ex_twins ?_).mono ?_); (exact lit_at rfl rfl rfl))
  rintro e w2 ⟨q, rfl, hq, hb2⟩
  have hB2 : Below w.heap.size w w2 := below_two' (below_two' (((Below.refl _ _).alloc (Nat.le_refl _) _).alloc (by simp) _) hb1) (((Below.refl _ _).alloc (Nat.le_refl _) _).trans (hb2.mono (by simp)))
  have hp2 : Rd w2 p (strV exU) := (hp.alloc _).keep hb2
  have hsz2 : w.heap.size ≤ w2.heap.size := hB2.size
  obtain ⟨A, n, c, rfl, hn, hc, hA⟩ := hq.ints
  obtain rfl : n = 1 := hn.symm
  obtain ⟨b, off, rfl, hbl, hcell⟩ := hA (by omega)
  have hc2 := hcell 0 2 rfl
  clear hcell hA hq hc hp hb1 hb2 hn
  go_wp2_with (go_at_call 9; (with_reducible refine (ex_door _).mono ?_))
  rintro e w3 ⟨rfl, hb3⟩
  have hp3 := hp2.keep hb3
  have hc3 := (hb3.cell (p := ⟨b, off + 0, none⟩) hbl).trans hc2
  have hl3 := Nat.lt_of_lt_of_le hbl hb3.size
  have hB3 := below_two' hB2 hb3
  clear hp2 hc2 hbl hB2 hb3 hsz2
  go_wp2_with (go_at_call 9; (with_reducible refine (ex_leaf _).mono ?_))
  rintro e w4 ⟨rfl, hb4⟩
  have hp4 := hp3.keep hb4
  have hc4 := (hb4.cell (p := ⟨b, off + 0, none⟩) hl3).trans hc3
  have hl4 := Nat.lt_of_lt_of_le hl3 hb4.size
  have hB4 := below_two' hB3 hb4
  clear hp3 hc3 hl3 hB3 hb4
  go_wp2_with (go_at_call 9; (with_reducible refine (ex_2a _).mono ?_))
  rintro e w5 ⟨rfl, hb5⟩
  have hp5 := hp4.keep hb5
  have hc5 := (hb5.cell (p := ⟨b, off + 0, none⟩) hl4).trans hc4
  have hl5 := Nat.lt_of_lt_of_le hl4 hb5.size
  have hB5 := below_two' hB4 hb5
  clear hp4 hc4 hl4 hB4 hb5
  go_wp2_with (first
    | (go_at_call 11; (with_reducible refine (ex_in _).mono ?_); rintro e w' ⟨rfl, rfl⟩)
    | (go_at_call 17; (with_reducible refine (ex_texts ?_ ?_).mono ?_); (exact hp5.alloc _); (exact lit_at rfl rfl rfl)))
  rintro e w6 ⟨rfl, hb6⟩
  have hc6 := (hb6.cell (p := ⟨b, off + 0, none⟩) (by simp; omega)).trans ((World.cell?_alloc_lt w5 _ ⟨b, off + 0, none⟩ hl5).trans hc5)
  have hB6 := below_two' (hB5.alloc hB5.size _) hb6
  have hc7 : w6.cell? ⟨b, off, none⟩ = some (.int .i64 2) := hc6
  clear hp5 hc5 hl5 hB5 hb6 hc6
  go_wp2_with fail
  go_ret
  exact ⟨rfl, hB6⟩
end Go.Proofs.Ytkbiepcnjieekaa
