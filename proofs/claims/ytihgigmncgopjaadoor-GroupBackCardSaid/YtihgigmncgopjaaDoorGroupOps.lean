/- What the layer's small calls answer: one bit, who is in, with, without, within; the lowest bit. Conditions: sets are numbers below 2^64. -/
import Derived.Test.YtihgigmncgopjaaDoorGroupBits
import Derived.Test.YtihgigmncgopjaaDoorGroupCount
import Derived.Test.YtihgigmncgopjaaDoorGroupTab
import Derived.Test.YtihgigmncgopjaaDoorPosts
import Derived.Laws.Bits64b
import Derived.Laws.BitsAllLaws
import Derived.Deep.DeepFit
import Derived.Laws.Bits128
import Derived.Test.YtihgigmncgopjaaDoorNamesPlace
import Derived.Shelf.Spec.TrailingZeros
namespace Go.Proofs.YtihgigmncgopjaaDoor
open Go.RowKit GroupSpec
set_option maxRecDepth 100000

/-- A set, the same world. -/
def SameU (w : World) (m : Nat) (e : Ending) (w' : World) : Prop := e = .returned (.int .u64 m) ∧ w = w'
theorem shl_alone {i : Int} (h : 0 ≤ i) : IntKind.u64.wrap (2 ^ min i.toNat 64) = (aloneG i : Int) := by
  rw [IntKind.wrap_u64]
  unfold aloneG
  by_cases h1 : i ≤ 63
  · have hk : i.toNat < 64 := by omega
    rw [if_pos ⟨h, h1⟩, Nat.min_eq_left (by omega)]
    have hp : 2 ^ i.toNat < 2 ^ 64 := Nat.pow_lt_pow_right (by decide) hk
    have e : ((2 : Int) ^ i.toNat) = ((2 ^ i.toNat : Nat) : Int) := by simp
    rw [e]
    generalize (2 : Nat) ^ i.toNat = q at hp ⊢
    omega
  · rw [if_neg (by omega), Nat.min_eq_right (by omega)]
    rfl
set_option maxHeartbeats 1000000 in
theorem alone_any (i : Int) (w : World) : Calls Tryd.prog 20 #[.int .i64 i] w (SameU w (aloneG i)) := by
  by_cases h : i < 0
  · have HE : Hid (aloneG i = 0) := Lib.hid (by unfold aloneG; rw [if_neg (by omega)])
    go_enter Tryd.func20, Tryd.ntmps20
    go_wp2
    go_ret
    exact ⟨by rw [HE.out]; rfl, rfl⟩
  · have hn : 0 ≤ i := by omega
    go_enter Tryd.func20, Tryd.ntmps20
    go_wp2
    go_ret
    exact ⟨by rw [← shl_alone hn]; rfl, rfl⟩
theorem ne_cast (x : Nat) : ((x : Int) != 0) = decide (x ≠ 0) := by
  rw [Bool.eq_iff_iff]; simp
theorem eq_cast (x : Nat) : ((x : Int) == 0) = decide (x = 0) := by
  rw [Bool.eq_iff_iff]; simp
theorem of_same {w : World} {m : Nat} {x : Int} (h : x = (m : Int)) : SameU w m (.returned (.int .u64 x)) w := ⟨by rw [h], rfl⟩
set_option maxHeartbeats 1000000 in
theorem has_any (m : Nat) (i : Int) (hm : m < 18446744073709551616) (w : World) : Calls Tryd.prog 10 #[.int .u64 m, .int .i64 i] w (SameB w (hasG m i)) := by
  have HA := Lib.hid (alone_any i w)
  have hb : bits .and .u64 (m : Int) (aloneG i : Int) = ((m &&& aloneG i : Nat) : Int) := bits_and_u64_nat m _ hm (aloneG_lt i)
  have HE := Lib.hid (has_and (m := m) i)
  go_enter Tryd.func10, Tryd.ntmps10
  go_wp2_with (go_at_call 20; go_fit (HA.out); rintro e w' ⟨rfl, rfl⟩)
  go_ret
  exact ⟨by rw [← HE.out, ← ne_cast]; rfl, rfl⟩
set_option maxHeartbeats 1000000 in
theorem with_any (m : Nat) (i : Int) (hm : m < 18446744073709551616) (w : World) : Calls Tryd.prog 12 #[.int .u64 m, .int .i64 i] w (SameU w (withG m i)) := by
  have HA := Lib.hid (alone_any i w)
  have HB := Lib.hid (bits_or_u64_nat m _ hm (aloneG_lt i))
  have HE := Lib.hid (with_or m i)
  go_enter Tryd.func12, Tryd.ntmps12
  go_wp2_with (go_at_call 20; go_fit (HA.out); rintro e w' ⟨rfl, rfl⟩)
  go_ret
  exact of_same (by rw [← HE.out]; exact HB.out)
set_option maxHeartbeats 1000000 in
theorem without_any (m : Nat) (i : Int) (hm : m < 18446744073709551616) (w : World) : Calls Tryd.prog 14 #[.int .u64 m, .int .i64 i] w (SameU w (withoutG m i)) := by
  have HA := Lib.hid (alone_any i w)
  have HB := Lib.hid (u64_andNot_nat m _ hm (aloneG_lt i))
  have HE := Lib.hid (without_and hm i)
  go_enter Tryd.func14, Tryd.ntmps14
  go_wp2_with (go_at_call 20; go_fit (HA.out); rintro e w' ⟨rfl, rfl⟩)
  go_ret
  exact of_same (by rw [← HE.out]; exact HB.out)
set_option maxHeartbeats 1000000 in
theorem within_any (a b : Nat) (ha : a < 18446744073709551616) (hb : b < 18446744073709551616) (w : World) : Calls Tryd.prog 17 #[.int .u64 a, .int .u64 b] w (SameB w (withinG a b)) := by
  have HB := Lib.hid (u64_andNot_nat a b ha hb)
  have HE := Lib.hid (within_and (a := a) hb)
  go_enter Tryd.func17, Tryd.ntmps17
  go_wp2
  go_ret
  exact ⟨by rw [← HE.out, ← eq_cast, ← HB.out]; rfl, rfl⟩
set_option maxHeartbeats 2000000 in
theorem tz_core (x k idx : Nat) (w : World) (hx0 : ((x : Int) == 0) = false)
    (key : IntKind.u64.wrap (bits BinOp.and IntKind.u64 (x : Int) (IntKind.u64.wrap (-(x : Int))) * 285870213051353865) / 288230376151711744 = (idx : Int))
    (hi : idx < 64) (hk : k < 64) (hcell : w.cell? ⟨0, idx, none⟩ = some (.int .u8 k)) :
    Calls Tryd.prog 19 #[.int .u64 x] w (SameI w k) := by
  go_enter Tryd.func19, Tryd.ntmps19
  go_wp2_with (simp only [key])
  go_ret
  exact ⟨rfl, rfl⟩
theorem tz_zero (w : World) : Calls Tryd.prog 19 #[.int .u64 0] w (SameI w 64) := by
  go_enter Tryd.func19, Tryd.ntmps19
  go_wp2
  go_ret
  exact ⟨rfl, rfl⟩
theorem tz_any (x : Nat) (hx : x < 18446744073709551616) (w : World) (hT : TabIn w) : Calls Tryd.prog 19 #[.int .u64 x] w (SameI w (Lib.ctz 64 x)) := by
  by_cases hx0 : x = 0
  · subst hx0
    exact tz_zero w
  · obtain ⟨hlow, hk⟩ := Lib.lowest_bit 64 x hx0 hx
    obtain ⟨hi, htab⟩ := Lib.deBruijn64_at _ hk
    exact tz_core x _ _ w (by simp; omega) (tz64_key x _ hx hx0 hlow) hi hk (hT.cell htab hi)
theorem wrap_nat {y : Nat} (h : y < 18446744073709551616) : IntKind.u64.wrap (y : Int) = (y : Int) := by
  rw [IntKind.wrap_u64]
  omega
theorem sum_nat {a b c : Nat} {x y : Int} (hx : x = (a : Int)) (hy : y = (b : Int)) (hc : a + b = c) (h : c < 18446744073709551616) : IntKind.u64.wrap (x + y) = (c : Int) := by
  rw [hx, hy, ← wrap_nat h, ← hc, wrap_nat (hc ▸ h)]
  rw [IntKind.wrap_u64]
  omega
theorem div_nat (x d : Nat) : ((x : Int) / (d : Int)) = ((x / d : Nat) : Int) := (Int.natCast_ediv x d).symm
/-- The steps of the count, as machine words. -/
theorem ones_steps (x : Nat) (hx : x < 18446744073709551616) : ∃ a z x0 x1 x2 x3 : Nat,
    IntKind.u64.wrap (bits .and .u64 ((x : Int) / 2) 6148914691236517205 + bits .and .u64 (x : Int) 6148914691236517205) = (a : Int) ∧
    IntKind.u64.wrap (bits .and .u64 ((a : Int) / 4) 3689348814741910323 + bits .and .u64 (a : Int) 3689348814741910323) = (z : Int) ∧
    bits .and .u64 (IntKind.u64.wrap ((z : Int) / 16 + (z : Int))) 1085102592571150095 = (x0 : Int) ∧
    IntKind.u64.wrap ((x0 : Int) + (x0 : Int) / 256) = (x1 : Int) ∧ IntKind.u64.wrap ((x1 : Int) + (x1 : Int) / 65536) = (x2 : Int) ∧ IntKind.u64.wrap ((x2 : Int) + (x2 : Int) / 4294967296) = (x3 : Int) ∧
    x3 < 9223372036854775808 ∧ x3 % 128 = (bitsL x).length := by
  obtain ⟨x0, x1, x2, x3, e0, e1, e2, e3, b0, b1, b2, b3, hl⟩ := fold8 x
  have ha : A1 8 x < 2 ^ 64 := by
    have h1 := Nat.and_lt_two_pow (x / 2) (show maskG 85 8 < 2 ^ 63 by rw [mask85]; decide)
    have h2 := Nat.and_lt_two_pow x (show maskG 85 8 < 2 ^ 63 by rw [mask85]; decide)
    unfold A1
    omega
  have hz : Z 8 x < 2 ^ 63 := by
    have h1 := Nat.and_lt_two_pow (A1 8 x / 4) (show maskG 51 8 < 2 ^ 62 by rw [mask51]; decide)
    have h2 := Nat.and_lt_two_pow (A1 8 x) (show maskG 51 8 < 2 ^ 62 by rw [mask51]; decide)
    unfold Z A2
    omega
  refine ⟨A1 8 x, Z 8 x, x0, x1, x2, x3, ?_, ?_, ?_, ?_, ?_, ?_, b3, hl⟩
  · have h1 := bits_and_u64_nat (x / 2) (maskG 85 8) (by omega) (by rw [mask85]; decide)
    have h2 := bits_and_u64_nat x (maskG 85 8) hx (by rw [mask85]; decide)
    rw [mask85] at h1 h2
    exact sum_nat h1 h2 (by unfold A1; rw [mask85]) (by omega)
  · have h1 := bits_and_u64_nat (A1 8 x / 4) (maskG 51 8) (by omega) (by rw [mask51]; decide)
    have h2 := bits_and_u64_nat (A1 8 x) (maskG 51 8) (by omega) (by rw [mask51]; decide)
    rw [mask51] at h1 h2
    exact sum_nat h1 h2 (by unfold Z A2; rw [mask51]) (by omega)
  · have h3 : IntKind.u64.wrap ((Z 8 x : Int) / 16 + (Z 8 x : Int)) = ((Z 8 x / 16 + Z 8 x : Nat) : Int) := sum_nat (div_nat _ 16) rfl rfl (by omega)
    have h1 := bits_and_u64_nat (Z 8 x / 16 + Z 8 x) (maskG 15 8) (by omega) (by rw [mask15]; decide)
    rw [mask15] at h1
    rw [h3, e0]
    refine h1.trans ?_
    unfold W A3
    rw [mask15]
  · exact sum_nat rfl (div_nat _ 256) e1.symm (by omega)
  · exact sum_nat rfl (div_nat _ 65536) e2.symm (by omega)
  · exact sum_nat rfl (div_nat _ 4294967296) e3.symm (by omega)
set_option maxHeartbeats 2000000 in
theorem ones_any (x : Nat) (hx : x < 18446744073709551616) (w : World) : Calls Tryd.prog 21 #[.int .u64 x] w (SameI w (bitsL x).length) := by
  obtain ⟨a, z, x0, x1, x2, x3, h1, h2, h3, h4, h5, h6, h7, h8⟩ := ones_steps x hx
  have HL := Lib.hid h8
  clear h8
  go_enter Tryd.func21, Tryd.ntmps21
  go_wp2
  go_ret
  have e : bits .and .i64 (x3 : Int) 127 = ((bitsL x).length : Int) := by rw [i64_and127, ← HL.out]; rfl
  exact ⟨by rw [← e]; rfl, rfl⟩
set_option maxHeartbeats 1000000 in
theorem count_any (x : Nat) (hx : x < 18446744073709551616) (w : World) : Calls Tryd.prog 11 #[.int .u64 x] w (SameI w (bitsL x).length) := by
  have HA := Lib.hid (ones_any x hx w)
  go_enter Tryd.func11, Tryd.ntmps11
  go_wp2_with (go_at_call 21; go_fit (HA.out); rintro e w' ⟨rfl, rfl⟩)
  go_ret
  exact ⟨rfl, rfl⟩
theorem take_foldl {l : List Int} {k : Nat} {x : Int} (h : l[k]? = some x) : (l.take (k + 1)).foldl withG 0 = withG ((l.take k).foldl withG 0) x := by
  rw [take_next h, List.foldl_append]
  rfl
set_option maxHeartbeats 1000000 in
theorem of_any (v : Value) (l : List Int) (w : World) (h : Rd w v (intV l)) (hm : l.length ≤ 9223372036854775807) :
    Calls Tryd.prog 16 #[v] w (SameU w (ofG l)) := by
  obtain ⟨A, n, c, rfl, hn, hc, hA⟩ := h.ints
  have HA := Lib.hid hA
  have HN := Lib.hid hn
  have hm' : n ≤ 9223372036854775807 := by omega
  clear hA hn h hc hm
  go_enter Tryd.func16, Tryd.ntmps16
  go_wp2
  go_loop [3, 5, 8] (fun m _ i => ∃ k : Nat, k ≤ n ∧ i = .int .i64 k ∧ m = .int .u64 ((l.take k).foldl withG 0 : Nat)) (fun _ _ i => n - (RowKit.intOf i).toNat)
  case atStart => exact ⟨0, Nat.zero_le _, rfl, rfl⟩
  case round =>
    obtain ⟨k, hk, rfl, rfl⟩ := hrel
    by_cases hlt : k < n
    · obtain ⟨b, off, rfl, hb, hcell⟩ := HA.out (by omega)
      obtain ⟨x, hx⟩ : ∃ x, l[k]? = some x := get_some (by have := HN.out; omega)
      have hck := hcell k x hx
      have HX := Lib.hid hx
      have HW := Lib.hid (with_any ((l.take k).foldl withG 0) x (foldl_lt _ (by decide)) w)
      have hE := take_foldl hx
      obtain ⟨m, hM⟩ : ∃ m, m = (l.take k).foldl withG 0 := ⟨_, rfl⟩
      rw [← hM] at hE HW ⊢
      have HE := Lib.hid hE
      clear hcell hx hE hM
      go_wp2_with (go_at_call 12; go_fit (HW.out); rintro e w' ⟨rfl, rfl⟩)
      go_round
      case rel => exact ⟨k + 1, by omega, by go_num, by rw [HE.out]⟩
      case measure => simp [RowKit.intOf]; omega
    · go_wp2
      go_ret
      have := HN.out
      exact of_same (by rw [List.take_of_length_le (by omega), of_foldl])
end Go.Proofs.YtihgigmncgopjaaDoor
