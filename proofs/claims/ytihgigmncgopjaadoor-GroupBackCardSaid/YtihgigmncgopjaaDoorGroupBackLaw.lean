/- The law of sets and lists walked: any set is that of its list, any list's set has its numbers, and all of one are in another as it is said. Conditions: as the statement's own. -/
import Derived.Test.YtihgigmncgopjaaDoorGroupAwake
namespace Go.Proofs.YtihgigmncgopjaaDoor
open Go.RowKit GroupSpec NamesSpec
set_option maxRecDepth 100000

theorem bounds_u64 {n : Int} (h : (Lit.int .u64 n).wf = true) : 0 ≤ n ∧ n ≤ 18446744073709551615 := by
  simp [Lit.wf, IntKind.min, IntKind.max, IntKind.signed, IntKind.bits] at h
  omega
theorem nat_u64 {n : Int} (h : (Lit.int .u64 n).wf = true) : ∃ m : Nat, n = m ∧ m < 18446744073709551616 := by
  have := bounds_u64 h
  exact ⟨n.toNat, by omega, by omega⟩
theorem all_next {l : List Int} {k : Nat} {x : Int} (p : Int → Bool) (h : l[k]? = some x) : (l.take (k + 1)).all p = ((l.take k).all p && p x) := by
  rw [take_next h, List.all_append]
  simp
set_option maxRecDepth 100000 in
set_option maxHeartbeats 8000000 in
theorem walk_GroupBack (x y : Int) (A : Option Addr) (n c : Nat) (l : List Int) (w : World) (hT : TabIn w) (hx : (Lit.int .u64 x).wf = true) (hy : (Lit.int .u64 y).wf = true) (h : Rd w (.slice A n c) (intV l)) (hl : l.length ≤ 9223372036854775807) :
    Calls Tryd.prog 4 #[.int .u64 x, .int .u64 y, .slice A n c] w fun e w' => e = .returned (.bool true) ∧ Below w.heap.size w w' := by
  obtain ⟨a, rfl, ha⟩ := nat_u64 hx
  obtain ⟨b, rfl, hb⟩ := nat_u64 hy
  clear hx hy
  obtain ⟨A', n', c', heq, hn, hc, -⟩ := h.ints
  cases heq
  have HR := Lib.hid h
  have HN := Lib.hid hn
  have HAW := Lib.hid (fun W (hW : Below w.heap.size w W) => gawake_any W (hT.keep hW))
  by_cases hlong : 100 < n
  · have hl' : (100 : Int) < n := by omega
    clear h hn hc hl hlong
    go_enter Tryd.func4, Tryd.ntmps4
    go_wp2_with (go_at_call 15; go_fit (HAW.out _ (Below.refl _ _)); rintro e w' ⟨rfl, hb⟩; have HB := Lib.hid hb; clear hb)
    go_ret
    exact ⟨rfl, HB.out⟩
  · have hl' : ¬ (100 : Int) < n := by omega
    have HO := Lib.hid (fun W (hW : Below w.heap.size w W) => of_any _ l W (h.keep hW) hl)
    have HRO := Lib.hid (fun W (hW : Below w.heap.size w W) => rof_any16 _ l W (h.keep hW) hl)
    obtain ⟨m, hm⟩ : ∃ m, m = ofG l := ⟨_, rfl⟩
    rw [← hm] at HO HRO
    have HL1 := Lib.hid (list_any a ha w hT)
    have HOB : Hid (∀ (v : Value) (W : World), Rd W v (intV (bitsL a)) → Calls Tryd.prog 16 #[v] W (SameU W a)) := Lib.hid fun v W hW => by
      have := of_any v (bitsL a) W hW (by have := bitsL_length a; omega)
      rwa [ofG_bits ha] at this
    clear h hn hc hl hlong hm
    have q1 : ((a : Int) != (a : Int)) = false := by simp
    have q2 : ((m : Int) != (m : Int)) = false := by simp
    have hba : bits .and .u64 (a : Int) (b : Int) = ((a &&& b : Nat) : Int) := bits_and_u64_nat a b ha hb
    have hbo : bits .or .u64 (a : Int) (b : Int) = ((a ||| b : Nat) : Int) := bits_or_u64_nat a b ha hb
    have HLT : Hid (a &&& b < 18446744073709551616 ∧ a ||| b < 18446744073709551616) := Lib.hid ⟨Nat.lt_of_le_of_lt Nat.and_le_left ha, Nat.or_lt_two_pow (n := 64) ha hb⟩
    go_enter Tryd.func4, Tryd.ntmps4
    go_wp2_with (first
      | (go_at_call 16; go_fit (HO.out _ (Below.refl _ _)); rintro e w' ⟨rfl, rfl⟩)
      | (go_at_call 9; go_fit (HL1.out); rintro e w1 h1; obtain ⟨A1, c1, rfl, hr1, hb1⟩ := retInts_shape h1; have HR1 := Lib.hid hr1; have HB1 := Lib.hid hb1; clear h1 hr1 hb1)
      | (go_at_call 16; go_fit (HOB.out _ _ HR1.out); rintro e w' ⟨rfl, rfl⟩)
      | (go_at_call 13; go_fit (HRO.out _ HB1.out); rintro e w' ⟨rfl, rfl⟩)
      | (go_at_call 5; go_fit (rlist_any a ha _); rintro e w2 h2; obtain ⟨A2, c2, rfl, hr2, hb2⟩ := retInts_shape h2; have HR2 := Lib.hid hr2; have HB2 := Lib.hid (below_two' HB1.out hb2); clear h2 hr2 hb2))
    obtain ⟨N, hN⟩ : ∃ N, (bitsL a).length = N := ⟨_, rfl⟩
    have hN64 : N ≤ 64 := by rw [← hN]; exact bitsL_length a
    rw [hN] at HR2 ⊢
    have HW : Hid (withinG a b = ((bitsL a).take N).all fun x => hasG b x) := Lib.hid (by rw [List.take_of_length_le (by omega)]; rfl)
    have HN2 := Lib.hid hN
    clear hN
    go_loop [8, 10] (fun v i => ∃ k : Nat, k ≤ N ∧ i = .int .i64 k ∧ v = .bool (((bitsL a).take k).all fun x => hasG b x)) (fun _ i => N - (RowKit.intOf i).toNat)
    case atStart => exact ⟨0, Nat.zero_le _, rfl, rfl⟩
    case round =>
      obtain ⟨k, hk, rfl, rfl⟩ := hrel
      by_cases hlt : k < N
      · obtain ⟨A3, n3, c3, heq, hn3, hc3, hA⟩ := HR2.out.ints
        cases heq
        obtain ⟨bb, off, rfl, hbb, hcell⟩ := hA (by omega)
        obtain ⟨x, hx⟩ : ∃ x, (bitsL a)[k]? = some x := get_some (by have := HN2.out; omega)
        have hck := hcell k x hx
        have HS := Lib.hid (all_next (fun x => hasG b x) hx)
        have HH := Lib.hid (rhas_any16 b x hb)
        clear hcell hx hA hn3 hc3
        generalize (((bitsL a).take k).all fun x => hasG b x) = q at HS ⊢
        cases q with
        | false =>
          go_wp2_with fail
          go_round
          case rel => exact ⟨k + 1, by omega, by go_num, by rw [HS.out]; rfl⟩
          case measure => simp [RowKit.intOf]; omega
        | true =>
          go_wp2_with (go_at_call 6; go_fit (HH.out _); rintro e w' ⟨rfl, rfl⟩)
          go_round
          case rel => exact ⟨k + 1, by omega, by go_num, by rw [HS.out]; rfl⟩
          case measure => simp [RowKit.intOf]; omega
      · obtain rfl : k = N := by omega
        rw [← HW.out]
        have q3 : (withinG a b == withinG a b) = true := by simp
        have HI1 := Lib.hid (within_any a b ha hb w2)
        have hi2 := within_any (a &&& b) b HLT.out.1 hb w2
        have hi3 := within_any a (a ||| b) ha HLT.out.2 w2
        rw [within_left] at hi2
        rw [within_right] at hi3
        have HI2 := Lib.hid hi2
        have HI3 := Lib.hid hi3
        clear hi2 hi3
        go_wp2_with (first
          | (go_at_call 17; go_fit (HI1.out); rintro e w' ⟨rfl, rfl⟩)
          | (go_at_call 17; go_fit (HI2.out); rintro e w' ⟨rfl, rfl⟩)
          | (go_at_call 17; go_fit (HI3.out); rintro e w' ⟨rfl, rfl⟩)
          | (go_at_call 15; go_fit (HAW.out _ HB2.out); rintro e w3 ⟨rfl, hb3⟩; have HB3 := Lib.hid (below_two' HB2.out hb3); clear hb3))
        go_ret
        exact ⟨rfl, HB3.out⟩
end Go.Proofs.YtihgigmncgopjaaDoor
