/- EvalBack, joined. -/
import Derived.RangeFuncBox
import Derived.RangeFuncNested
import Derived.RangeFuncBound
import Derived.RangeFuncCalls
import Derived.RangeFuncLeaves
import Derived.Shelf.Abstract
import Derived.Shelf.RegionOpen
import Derived.WalkKit
import Derived.OwnWalkIn
import Derived.TacticsInMore
import Derived.LoopNIn
import Derived.LoopIn
import Derived.Test.YtbkgkdfameojfaaMQuietRound
import Derived.Test.YtbkgkdfameojfaaMTermA
namespace Go.Proofs.Ytbkgkdfameojfaa
open Go.RowKit Go.Shelf TermSpec
set_option maxRecDepth 100000

attribute [local go_sem] Oper.semAt_some

abbrev BT : Type := Nat × Tm
def tm0 : Tm := ⟨0, 0, ⟨#[]⟩⟩
def encB (x : BT) : Array Value := #[.int .i64 (x.1 : Int), .agg #[.int .i64 x.2.op, .int .i64 x.2.n, .string x.2.s]]
/-- The j-th that comes. -/
def backAt (l : List Tm) (j : Nat) : BT := (l.length - 1 - j, (l[l.length - 1 - j]?).getD tm0)

/-- What it asks to be kept: what lay below n₀, and the box of the slice. -/
def KpB (n₀ Bs : Nat) (W W' : World) : Prop := Below n₀ W W' ∧ ∀ v, Boxed W Bs 22 v → Boxed W' Bs 22 v
theorem KpB.trans {n₀ Bs : Nat} {A B C : World} (h : KpB n₀ Bs A B) (k : KpB n₀ Bs B C) : KpB n₀ Bs A C := ⟨h.1.trans k.1, fun v hv => k.2 v (h.2 v hv)⟩
theorem KpB.turn {n₀ Bs : Nat} {w : World} (hn : n₀ ≤ w.heap.size) (hB : Bs < w.heap.size) (W : World) (l : Nat) (o o' : Obj) (hl : w.heap.size ≤ l) (h : W.heap[l]? = some o) (_ : o.isCells = false) : KpB n₀ Bs W (W.putObj l o') :=
  ⟨(Below.refl n₀ W).grown (grownBy_putObj' W l o') (by have := (Array.getElem?_eq_some_iff.1 h).1; omega) (fun k e => by cases e; omega), fun v hv => hv.kept (grownBy_putObj' W l o') (fun e => by injection e with e; omega)⟩

set_option maxRecDepth 100000 in
set_option maxHeartbeats 2000000 in
theorem back1_in (F : Fence) (n : Nat) (h7 : F.fn 29) (hro : F.round = none) (hn : 1 ≤ n) (lp Bs n₀ : Nat) (A : Option Addr) (len cap : Nat) (l : List Tm) (hlen : len = l.length) (h63 : len ≤ 9223372036854775807) (J : Nat → World → Prop)
    (hY : ∀ k W, J k W → k < len → YieldAt F (n - 1) Try.prog lp (encB (backAt l k)) W fun e W' => e = .returned (.bool true) ∧ J (k + 1) W' ∧ KpB n₀ Bs W W')
    (W : World) (hBx : Boxed W Bs 22 (.slice A len cap)) (w0 : World) (hT : Tms w0 (.slice A len cap) l) (hw0 : Below w0.heap.size w0 W) (hn0 : w0.heap.size ≤ n₀) (h0 : J 0 W) :
    CallsIn F n Try.prog 29 #[.func (.yield lp) #[] #[], .pointer (some ⟨Bs, 0, none⟩)] W fun e W' => (∃ v, e = .returned v) ∧ J len W' := by
  have HT := Lib.hid hT
  have HL := Lib.hid hlen
  have HW0 := Lib.hid hw0
  have hcap := hT.cap
  have hBs := hBx.cell
  clear hT hlen hw0
  refine callsIn_of_wp Try.func29 rfl h7 ?_ hro
  simp only [Try.ntmps29, List.size_toArray, List.length_cons, List.length_nil, Nat.reduceAdd, Nat.reduceSub, Array.replicate_succ, Array.replicate_zero, List.push_toArray, List.append_toArray, List.nil_append, List.cons_append]
  gi_wp2
  gi_loopw [3] (fun i wr => ∃ k : Nat, k ≤ len ∧ i = .int .i64 ((len : Int) - 1 - k) ∧ J k wr ∧ KpB n₀ Bs W wr)
    (fun i _ => (intOf i + 1).toNat)
  case atStart => exact ⟨0, Nat.zero_le _, by simp, h0, Below.refl _ _, fun _ h => h⟩
  case round =>
    obtain ⟨k, hk, rfl, hJs, hnx⟩ := hrel
    by_cases hlt : k < len
    · obtain ⟨t, ht⟩ : ∃ t, l[len - 1 - k]? = some t := get_some (by have := HL.out; omega)
      have HTR : Tms wr (.slice A len cap) l := HT.out.keep (HW0.out.trans (hnx.1.mono hn0))
      obtain ⟨b, off, rfl, hb, c0, c1, c2⟩ := HTR.at_ ht
      have hy0 := hY k wr hJs hlt
      have hBS : wr.cell? ⟨Bs, 0, none⟩ = some (.slice (some ⟨b, off, none⟩) len cap) := (hnx.2 _ hBx).cell
      have hat : encB (backAt l k) = #[.int .i64 ((len : Int) - 1 - k), .agg #[.int .i64 t.op, .int .i64 t.n, .string t.s]] := by
        have hl := HL.out
        unfold encB backAt
        rw [← hl, ht]
        simp
        omega
      rw [hat] at hy0
      obtain ⟨fn, tmps, assign, body, hy, hR⟩ := hy0
      obtain ⟨q, hq⟩ : ∃ q, q = len - 1 - k := ⟨_, rfl⟩
      have hqi : (len : Int) - 1 - k = (q : Int) := by omega
      rw [← hq] at c0 c1 c2
      rw [hqi] at hy ⊢
      have hql : q < len := by omega
      have HQ := Lib.hid hq
      clear hqi hq ht hat hJs
      gi_wp2
      refine hR.mono ?_
      rintro e W3 ⟨rfl, hJ3, hk3⟩
      gi_wp2
      go_roundw
      case rel => exact ⟨k + 1, by omega, by have := HQ.out; simp; omega, hJ3, hnx.trans hk3⟩
      case measure => simp [intOf] <;> omega
    · obtain rfl : k = len := by omega
      gi_wp2
      go_end0
      exact ⟨⟨_, rfl⟩, hJs⟩

set_option maxHeartbeats 1000000 in
theorem back_in (F : Fence) (n : Nat) (h5 : F.fn 16) (hro : F.round = none) (A : Option Addr) (len cap : Nat) (w : World) :
    CallsIn F n Try.prog 16 #[.slice A len cap] w fun e w' => e = .returned (.func (.func 29) #[] #[.pointer (some ⟨w.heap.size, 0, none⟩)]) ∧ w' = w.alloc (.cells #[.slice A len cap] 22) := by
  refine callsIn_of_wp Try.func16 rfl h5 ?_ hro
  simp only [Try.ntmps16, List.size_toArray, List.length_cons, List.length_nil, Nat.reduceAdd, Nat.reduceSub, Array.replicate_succ, Array.replicate_zero, List.push_toArray, List.append_toArray, List.nil_append, List.cons_append]
  gi_wp2
  go_ret
  exact ⟨rfl, rfl⟩
/-- What it hands over: all terms, from the last one on. -/
theorem back_hands (F : Fence) (n : Nat) (h7 : F.fn 29) (hro : F.round = none) (hn : 1 ≤ n) (Bs n₀ : Nat) (A : Option Addr) (len cap : Nat) (l : List Tm) (hlen : len = l.length) (h63 : len ≤ 9223372036854775807) (w : World)
    (hc : Boxed w Bs 22 (.slice A len cap)) (w0 : World) (hT : Tms w0 (.slice A len cap) l) (hw0 : Below w0.heap.size w0 w) (hn0 : w0.heap.size ≤ n₀) :
    Hands F n Try.prog 29 #[.pointer (some ⟨Bs, 0, none⟩)] (fun k => encB (backAt l k)) (KpB n₀ Bs) len w := fun lp J W hW hY h0 =>
  back1_in F n h7 hro hn lp Bs n₀ A len cap l hlen h63 J hY W ((hW.block Bs hc.lt).trans hc) w0 hT (hw0.trans (hW.mono hw0.size)) hn0 h0
end Go.Proofs.Ytbkgkdfameojfaa
