/- What the range over a set hands to a loop's body: its numbers from the lowest on; the body may leave. Conditions: a set is a number below 2^64; the library's table lies below the loop's own blocks. -/
import Derived.RangeFuncBox
import Derived.RangeFuncNested
import Derived.RangeFuncBound
import Derived.RangeFuncCalls
import Derived.RangeFuncLeaves
import Derived.Shelf.Abstract
import Derived.Shelf.RegionOpen
import Derived.WalkKit
import Derived.OwnWalkIn
import Derived.TacticsInMore
import Derived.LoopNIn
import Derived.LoopIn
import Derived.Test.YtihgigmncgopjaaDoorRangeStop
import Derived.Test.YtihgigmncgopjaaDoorGroupOps
namespace Go.Proofs.YtihgigmncgopjaaDoor
open Go.RowKit Go.Shelf GroupSpec
set_option maxRecDepth 100000

attribute [local go_sem] Oper.semAt_some

/-- The k-th that comes. -/
def encE (m k : Nat) : Array Value := #[.int .i64 (Lib.ctz 64 (restG m k) : Int)]
theorem TabIn.mono {w w' : World} {n₀ : Nat} (h : TabIn w) (hg : 0 < n₀) (hb : Below n₀ w w') : TabIn w' := by
  obtain ⟨T, fr, h⟩ := h
  exact ⟨T, fr, (hb.block _ hg).trans h⟩
theorem below_turn {n₀ : Nat} {w : World} (hn : n₀ ≤ w.heap.size) (W : World) (l : Nat) (o o' : Obj) (hl : w.heap.size ≤ l) (h : W.heap[l]? = some o) (_ : o.isCells = false) : Below n₀ W (W.putObj l o') :=
  (Below.refl n₀ W).grown (grownBy_putObj' W l o') (by have := (Array.getElem?_eq_some_iff.1 h).1; omega) (fun k e => by cases e; omega)

set_option maxRecDepth 100000 in
set_option maxHeartbeats 2000000 in
theorem each1_in (n : Nat) (hn : 1 ≤ n) (lp Bs n₀ m M : Nat) (hm : m < 18446744073709551616) (hM : M ≤ (bitsL m).length) (J : Nat → World → Prop) (Jx : World → Prop)
    (hY : ∀ k W, J k W → k < M → YieldAt Fence.wide (n - 1) Tryd.prog lp (encE m k) W fun e W' => e = .returned (.bool true) ∧ J (k + 1) W' ∧ Below n₀ W W')
    (hX : M < (bitsL m).length → ∀ W, J M W → YieldAt Fence.wide (n - 1) Tryd.prog lp (encE m M) W fun e W' => e = .returned (.bool false) ∧ Jx W')
    (W : World) (hBx : Boxed W Bs 22 (.int .u64 m)) (hT : TabIn W) (hg : 0 < n₀) (h0 : J 0 W) :
    CallsIn Fence.wide n Tryd.prog 18 #[.func (.yield lp) #[] #[], .pointer (some ⟨Bs, 0, none⟩)] W fun e W' => (∃ v, e = .returned v) ∧ ((M < (bitsL m).length ∧ Jx W') ∨ (M = (bitsL m).length ∧ J (bitsL m).length W')) := by
  have HT := Lib.hid hT
  have HX := Lib.hid hX
  have HY := Lib.hid hY
  have hBs := hBx.cell
  clear hT hX hY hBx
  refine callsIn_of_wp Tryd.func18 rfl trivial ?_ rfl
  simp only [Tryd.ntmps18, List.size_toArray, List.length_cons, List.length_nil, Nat.reduceAdd, Nat.reduceSub, Array.replicate_succ, Array.replicate_zero, List.push_toArray, List.append_toArray, List.nil_append, List.cons_append]
  gi_wp2
  gi_loopw [3] (fun v wr => ∃ k : Nat, k ≤ M ∧ v = .int .u64 (restG m k : Nat) ∧ J k wr ∧ Below n₀ W wr)
    (fun v _ => (intOf v).toNat)
  case atStart => exact ⟨0, Nat.zero_le _, rfl, h0, Below.refl _ _⟩
  case round =>
    obtain ⟨k, hk, rfl, hJs, hnx⟩ := hrel
    have hr := restG_lt hm k
    have HTZ := Lib.hid (tz_any (restG m k) hr wr (HT.out.mono hg hnx))
    have HNX := Lib.hid hnx
    by_cases hkl : k < (bitsL m).length
    · have h0 := (rest_more hm hkl).1
      have hyk : ∀ u, u = Lib.ctz 64 (restG m k) → encE m k = #[.int .i64 u] := fun u hu => by rw [hu]; rfl
      have HE1 : Hid (restG m (k + 1) = dropG (restG m k)) := Lib.hid rfl
      have hdl : dropG (restG m k) < restG m k := by have : dropG (restG m k) ≤ restG m k - 1 := Nat.and_le_right; omega
      obtain ⟨u, hu⟩ : ∃ u, u = Lib.ctz 64 (restG m k) := ⟨_, rfl⟩
      have hyk2 := hyk u hu
      rw [← hu] at HTZ
      clear hyk hu hnx
      obtain ⟨y, hy⟩ : ∃ y, y = restG m k := ⟨_, rfl⟩
      rw [← hy] at hr h0 HTZ HE1 hdl ⊢
      clear hy
      have hne : ((y : Int) != 0) = true := by rw [ne_cast]; exact decide_eq_true h0
      have hw1 : IntKind.u64.wrap ((y : Int) - 1) = ((y - 1 : Nat) : Int) := by rw [IntKind.wrap_u64]; omega
      have hw2 : bits .and .u64 (y : Int) ((y - 1 : Nat) : Int) = (dropG y : Int) := bits_and_u64_nat y _ hr (by omega)
      have HDL := Lib.hid hdl
      clear hdl
      by_cases hkM : k < M
      · obtain ⟨fn, tmps, assign, body, hyy, hR⟩ := HY.out k wr hJs hkM
        rw [hyk2] at hyy
        clear hyk2 hJs
        gi_wp2_with (refine ⟨trivial, ?_⟩; gi_at_call 19; (with_reducible refine (callsIn_wide.2 HTZ.out).mono ?_); rintro e w' ⟨rfl, rfl⟩)
        refine hR.mono ?_
        rintro e W3 ⟨rfl, hJ3, hk3⟩
        gi_wp2
        go_roundw
        case rel => exact ⟨k + 1, by omega, by rw [HE1.out], hJ3, HNX.out.trans hk3⟩
        case measure => have := HDL.out; simp [intOf] <;> omega
      · obtain rfl : k = M := by omega
        obtain ⟨fn, tmps, assign, body, hyy, hR⟩ := HX.out hkl wr hJs
        rw [hyk2] at hyy
        clear hyk2 hJs
        gi_wp2_with (refine ⟨trivial, ?_⟩; gi_at_call 19; (with_reducible refine (callsIn_wide.2 HTZ.out).mono ?_); rintro e w' ⟨rfl, rfl⟩)
        refine hR.mono ?_
        rintro e W3 ⟨rfl, hJ3⟩
        gi_wp2
        (try simp only [Exit.inBlock, Exit.then])
        refine bodyPost_ret (results_none rfl _ _ _) rfl ?_
        exact ⟨⟨_, rfl⟩, .inl ⟨hkl, hJ3⟩⟩
    · have h0 := rest_none hm (by omega : (bitsL m).length ≤ k)
      have hkM : k = M := by omega
      have hkN : k = (bitsL m).length := by omega
      rw [h0]
      gi_wp2
      go_end0
      exact ⟨⟨_, rfl⟩, .inr ⟨hkM.symm.trans hkN, hkN ▸ hJs⟩⟩

set_option maxHeartbeats 1000000 in
theorem each_in (m : Nat) (n : Nat) (w : World) :
    CallsIn Fence.wide n Tryd.prog 7 #[.int .u64 m] w fun e w' => e = .returned (.func (.func 18) #[] #[.pointer (some ⟨w.heap.size, 0, none⟩)]) ∧ w' = w.alloc (.cells #[.int .u64 m] 22) := by
  refine callsIn_of_wp Tryd.func7 rfl trivial ?_ rfl
  simp only [Tryd.ntmps7, List.size_toArray, List.length_cons, List.length_nil, Nat.reduceAdd, Nat.reduceSub, Array.replicate_succ, Array.replicate_zero, List.push_toArray, List.append_toArray, List.nil_append, List.cons_append]
  gi_wp2
  go_ret
  exact ⟨rfl, rfl⟩
/-- What it hands over: all numbers of the set, rising. -/
theorem each_hands (n : Nat) (hn : 1 ≤ n) (Bs n₀ m : Nat) (hm : m < 18446744073709551616) (w : World) (hc : Boxed w Bs 22 (.int .u64 m)) (hT : TabIn w) (hg : 0 < n₀) :
    HandsS Fence.wide n Tryd.prog 18 #[.pointer (some ⟨Bs, 0, none⟩)] (fun k => encE m k) (Below n₀) (bitsL m).length w := fun lp J Jx M W hW hM hY hX h0 =>
  each1_in n hn lp Bs n₀ m M hm hM J Jx hY hX W ((hW.block Bs hc.lt).trans hc) (hT.keep hW) hg h0
end Go.Proofs.YtihgigmncgopjaaDoor
