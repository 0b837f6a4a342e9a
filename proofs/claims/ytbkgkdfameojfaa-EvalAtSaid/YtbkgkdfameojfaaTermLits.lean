/- What the two function literals of the layer of terms answer: a term's depth and type, by those below it. Condition: no wrap of a depth. -/
import Derived.Test.YtbkgkdfameojfaaTermBelow
namespace Go.Proofs.Ytbkgkdfameojfaa
open Go.RowKit TermSpec
set_option maxRecDepth 100000

theorem max_if (a b : Int) : max a b = if a < b then b else a := by split <;> omega
def DeepRel (bs : List Int) (n : Nat) (v i : Value) : Prop := ∃ k : Nat, k ≤ n ∧ i = .int .i64 k ∧ v = .int .i64 (deepest (bs.take k))
set_option maxHeartbeats 1000000 in
theorem deplit_any (o : Int) (v : Value) (bs : List Int) (w : World) (h : Rd w v (intV bs)) (hm : bs.length ≤ 4611686018427387903) (hb : ∀ b ∈ bs, b ≤ 4611686018427387903) :
    Calls Try.prog 52 #[.int .i64 o, v] w (SameI w (depF o bs)) := by
  obtain ⟨A, n, c, rfl, hn, hc, hA⟩ := h.ints
  have HA := Lib.hid hA
  have HN := Lib.hid hn
  have HB := Lib.hid hb
  have hm' : n ≤ 4611686018427387903 := by omega
  clear hA hn h hc hm hb
  go_enter Try.func52, Try.ntmps52
  go_wp2_with fail
  go_loop [5, 7, 10] (fun v _ i => DeepRel bs n v i) (fun _ _ i => n - (intOf i).toNat)
  case atStart => exact ⟨0, Nat.zero_le _, rfl, rfl⟩
  case round =>
    obtain ⟨k, hk, rfl, rfl⟩ := hrel
    obtain ⟨g0, g1⟩ := deepest_bd (B := 4611686018427387903) (by omega) (bs.take k) (fun b h => HB.out b (List.mem_of_mem_take h))
    by_cases hlt : k < n
    · obtain ⟨b, off, rfl, hb, hcell⟩ := HA.out (by omega)
      obtain ⟨x, hx⟩ : ∃ x, bs[k]? = some x := get_some (by have := HN.out; omega)
      have hck := hcell k x hx
      have HS : Hid (deepest (bs.take (k + 1)) = if deepest (bs.take k) < x then x else deepest (bs.take k)) := Lib.hid (by rw [take_next hx, deepest_snoc])
      obtain ⟨d, hd⟩ : ∃ d, d = deepest (bs.take k) := ⟨_, rfl⟩
      rw [← hd] at HS g0 g1 ⊢
      clear hcell hx hd
      go_wp2_with fail
      go_round
      case rel => exact ⟨k + 1, hlt, by simp, by rw [HS.out, ← max_if]⟩
      case measure => simp [intOf]; omega
    · go_wp2_with fail
      go_ret
      exact ⟨ret_int (by rw [List.take_of_length_le (by rw [HN.out]; omega)]; rfl), rfl⟩

def AllRel (bs : List Int) (n : Nat) (q : Int) (i : Value) : Prop := ∃ k : Nat, k ≤ n ∧ i = .int .i64 k ∧ (bs.take k).all (fun b => decide (b = q)) = true
theorem all_no {bs : List Int} {k : Nat} {q x : Int} (hx : bs[k]? = some x) (h : x ≠ q) : bs.all (fun b => decide (b = q)) = false := by
  rw [List.all_eq_false]
  exact ⟨x, List.mem_of_getElem? hx, by simpa using h⟩
theorem typF_of {o : Int} {bs : List Int} {b : Bool} (h : bs.all (fun b => decide (b = askT o)) = b) : typF o bs = if b then ownT o else 0 := by unfold typF; rw [h]
set_option maxHeartbeats 1000000 in
theorem typlit_any (o : Int) (v : Value) (bs : List Int) (w : World) (h : Rd w v (intV bs)) (hm : bs.length ≤ 4611686018427387903) :
    Calls Try.prog 38 #[.int .i64 o, v] w (SameI w (typF o bs)) := by
  obtain ⟨A, n, c, rfl, hn, hc, hA⟩ := h.ints
  have HA := Lib.hid hA
  have HN := Lib.hid hn
  have HT := Lib.hid (fun b h => typF_of (o := o) (bs := bs) (b := b) h)
  have HC := Lib.hid (fun w => types_any o w)
  obtain ⟨q, hq⟩ : ∃ q, q = askT o := ⟨_, rfl⟩
  obtain ⟨z, hz⟩ : ∃ z, z = ownT o := ⟨_, rfl⟩
  rw [← hq, ← hz] at HC HT
  have hm' : n ≤ 4611686018427387903 := by omega
  clear hA hn h hc hm hq hz
  go_enter Try.func38, Try.ntmps38
  go_wp2_with (go_at_call 39; (with_reducible refine (HC.out _).mono ?_); rintro e w' ⟨rfl, rfl⟩)
  go_loop [8, 16] (fun _ i => AllRel bs n q i) (fun _ i => n - (intOf i).toNat)
  case atStart => exact ⟨0, Nat.zero_le _, rfl, rfl⟩
  case round =>
    obtain ⟨k, hk, rfl, hall⟩ := hrel
    have HL := Lib.hid hall
    clear hall
    by_cases hlt : k < n
    · obtain ⟨b, off, rfl, hb, hcell⟩ := HA.out (by omega)
      obtain ⟨x, hx⟩ : ∃ x, bs[k]? = some x := get_some (by have := HN.out; omega)
      have hck := hcell k x hx
      have HX := Lib.hid hx
      clear hcell hx
      by_cases hxq : x = q
      · have g : (x != q) = false := by simp [hxq]
        have HQ := Lib.hid hxq
        clear hxq
        go_wp2_with fail
        go_round
        case rel => exact ⟨k + 1, hlt, by simp, by rw [take_next HX.out, List.all_append, HL.out]; simpa using HQ.out⟩
        case measure => simp [intOf]; omega
      · have g : (x != q) = true := by simp [hxq]
        have HQ := Lib.hid hxq
        clear hxq
        go_wp2_with fail
        go_ret
        exact ⟨ret_int (by rw [HT.out _ (all_no HX.out HQ.out)]; rfl), rfl⟩
    · go_wp2_with fail
      go_ret
      exact ⟨ret_int (by
        have h := HL.out
        rw [List.take_of_length_le (by rw [HN.out]; omega)] at h
        rw [HT.out _ h]; rfl), rfl⟩
end Go.Proofs.Ytbkgkdfameojfaa
