/- The plain example of the layer of cursors (awake) answers true, and what was in memory stays. No condition. -/
import Derived.Test.YtoegpieomnpifaaCurCalls
import Derived.Test.YtoegpieomnpifaaCurNew
namespace Go.Proofs.Ytoegpieomnpifaa
open Go.RowKit CurSpec

def exL : List Tk := [⟨1, ⟨#[97]⟩, 0, 0⟩, ⟨2, ⟨#[49]⟩, 0, 0⟩, ⟨3, ⟨#[59]⟩, 1, 4⟩]
def exC : Cur := ⟨exL, 0, 0, 0, 0, 0⟩
theorem ex_ok : Ok exC := by
  intro t ht
  simp [exC, exL] at ht
  rcases ht with rfl | rfl | rfl <;> exact (by decide)
theorem ex_1 : nameS exC = ⟨#[97]⟩ := by rfl
theorem ex_2 : numN (nameC exC) 9 = 1 := by rfl
theorem ex_3 : nameS (numC (nameC exC) 9) = ⟨#[]⟩ := by rfl
theorem ex_4 : (nameC (numC (nameC exC) 9)).a1 = 1 ∧ (nameC (numC (nameC exC) 9)).a2 = 4 ∧ (nameC (numC (nameC exC) 9)).bad = 2 := ⟨rfl, rfl, rfl⟩

/-- A literal slice of tokens. -/
theorem toks_lit {w : World} {l : List Tk} {n : Nat} {cs : Array Value} (hn : n = l.length) (hcs : cs.toList = tksV l) : Toks (w.alloc (.cells cs 28)) (.slice (some ⟨w.heap.size, 0, none⟩) n n) l := by
  refine ⟨n, hn, _, n, rfl, Nat.le_refl _, by rw [tksV_length, hn], fun _ => ⟨w.heap.size, 0, rfl, by simp, fun j u hj => ?_⟩⟩
  rw [World.cell?_alloc_at _ _ _ _ rfl]
  rw [← hcs, Array.getElem?_toList] at hj
  simpa using hj

theorem below_but {B : Nat} {a b c : World} (h : Below a.heap.size a b) (k : b.grownBy c (some B)) (hB : a.heap.size ≤ B) : Below a.heap.size a c :=
  ⟨k.os.trans h.os, k.tape.trans h.tape, k.output.trans h.output, Nat.le_trans h.size k.size, fun i hi => (k.block i (Nat.lt_of_lt_of_le hi h.size) (by simp; omega)).trans (h.block i hi)⟩

set_option maxHeartbeats 1000000 in
theorem awake_any (w : World) : Calls Try.prog 5 #[] w (RetBool w true) := by
  have HNew := Lib.hid (fun w => new_any (some ⟨w.heap.size, 0, none⟩) 3 3 exL _ (toks_lit (w := w) (cs := #[.int .i64 1, .string ⟨#[97]⟩, .int .i64 0, .int .i64 0, .int .i64 2, .string ⟨#[49]⟩, .int .i64 0, .int .i64 0, .int .i64 3, .string ⟨#[59]⟩, .int .i64 1, .int .i64 4]) rfl rfl) (by omega))
  go_enter Try.func5, Try.ntmps5
  go_wp2_with (go_at_call 6; (with_reducible refine (HNew.out _).mono ?_))
  rintro e w1 ⟨B, rfl, hge, hC, hb1⟩
  have HB1 := Lib.hid (((Below.refl w.heap.size w).alloc (Nat.le_refl _) (.cells #[.int .i64 1, .string ⟨#[97]⟩, .int .i64 0, .int .i64 0, .int .i64 2, .string ⟨#[49]⟩, .int .i64 0, .int .i64 0, .int .i64 3, .string ⟨#[59]⟩, .int .i64 1, .int .i64 4] 28)).trans (hb1.mono (by simp)))
  have HC := Lib.hid hC
  have hBge : w.heap.size ≤ B := by simp at hge; omega
  clear hge hC hb1
  go_wp2_with (go_at_call 15; (with_reducible refine (name_at B exC ex_ok _ HC.out).mono ?_))
  rintro e w2 ⟨rfl, hC2, hb2⟩
  have H2 := Lib.hid (And.intro hC2 hb2)
  clear hC2 hb2
  rw [ex_1]
  go_wp2_with (go_at_call 17; (with_reducible refine (number_at B _ 9 ex_ok.nameC _ H2.out.1).mono ?_))
  rintro e w3 ⟨rfl, hC3, hb3⟩
  have H3 := Lib.hid (And.intro hC3 (but_trans H2.out.2 hb3))
  clear hC3 hb3
  rw [ex_2]
  go_wp2_with (go_at_call 15; (with_reducible refine (name_at B _ (ex_ok.nameC.numC 9) _ H3.out.1).mono ?_))
  rintro e w4 ⟨rfl, hC4, hb4⟩
  have H4 := Lib.hid (And.intro hC4 (but_trans H3.out.2 hb4))
  clear hC4 hb4
  rw [ex_3]
  go_wp2_with (go_at_call 22; (with_reducible refine (fault_any _ _ _ _ _ (Fl.of H4.out.1)).mono ?_))
  rintro e w5 ⟨rfl, hb5⟩
  have HB5 := Lib.hid hb5
  clear hb5
  rw [ex_4.1, ex_4.2.1, ex_4.2.2]
  go_wp2_with (go_at_call 9; (with_reducible refine (good_dead _ _ _ _ (by decide : (2 : Int) ≠ 0) _ (((by have := Fl.of H4.out.1; rwa [ex_4.2.2] at this : Fl w4 _ _ _ 2).keep HB5.out).keep ((Below.refl _ _).alloc (Nat.le_refl _) _))).mono ?_))
  rintro e w6 ⟨rfl, hb6⟩
  have HB6 := Lib.hid hb6
  clear hb6
  go_wp2_with fail
  go_ret
  exact ⟨rfl, (below_two' (below_but HB1.out H4.out.2 hBge) HB5.out).trans ((((Below.refl _ _).alloc (Nat.le_refl _) _).trans (HB6.out.mono (by simp))).mono (Nat.le_trans (below_but HB1.out H4.out.2 hBge).size HB5.out.size))⟩
end Go.Proofs.Ytoegpieomnpifaa
