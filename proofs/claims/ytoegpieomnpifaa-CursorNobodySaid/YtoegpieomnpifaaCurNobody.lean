/- The walk of CursorNobody: it returns true, and what was in memory stays. No condition. -/
import Derived.Test.YtoegpieomnpifaaCurAwake
namespace Go.Proofs.Ytoegpieomnpifaa
open Go.RowKit CurSpec

def NobRel (W : World) (d k n : Int) (s : ByteArray) (v : Value) (wr : World) : Prop :=
  ∃ j : Nat, j ≤ 2 ∧ v = .int .i64 j ∧ wr.heap[W.heap.size]? = some (.cells #[.int .i64 d, .int .i64 k, .string s, .int .i64 n] 35 (0, 0)) ∧ Below W.heap.size W wr
theorem nob_next {W wr w' : World} {d k n : Int} {s : ByteArray} {j : Nat} (hj : j < 2) (h : wr.heap[W.heap.size]? = some (.cells #[.int .i64 d, .int .i64 k, .string s, .int .i64 n] 35 (0, 0))) (hb : Below W.heap.size W wr) (hb' : Below wr.heap.size wr w') :
    NobRel W d k n s (.int .i64 ((j : Int) + 1)) w' := ⟨j + 1, by omega, by simp, block_on h hb', below_two' hb hb'⟩
abbrev curZ : Obj := .cells #[.slice none 0 0, .int .i64 0, .int .i64 0, .int .i64 0] 56

set_option maxHeartbeats 4000000 in
theorem walk_CursorNobody' (d k : Int) (s : ByteArray) (n : Int) (w : World) :
    Calls Try.prog 4 #[.agg #[.int .i64 d, .int .i64 k, .string s, .int .i64 n]] w (RetBool w true) := by
  have HAw := Lib.hid awake_any
  go_enter Try.func4, Try.ntmps4
  go_wp2_with fail
  go_loopw [3] (fun v wr => NobRel w d k n s v wr) (fun v _ => 2 - (intOf v).toNat)
  case atStart => exact ⟨0, Nat.zero_le _, rfl, heap_alloc_new _ _, (Below.refl _ _).alloc (Nat.le_refl _) _⟩
  case round =>
    obtain ⟨j, hj, rfl, hbl, hbw⟩ := hrel
    have HBl := Lib.hid hbl
    have HBw := Lib.hid hbw
    have hlt := (Array.getElem?_eq_some_iff.1 hbl).1
    by_cases h2 : j < 2
    · obtain ⟨c0, c1, c2, c3⟩ := cells_4 hbl
      clear hbl hbw
      by_cases h1 : j = 1
      · subst h1
        have HF : Hid (∀ W, Below (wr.alloc curZ).heap.size (wr.alloc curZ) W → Fl W (.pointer (some ⟨wr.heap.size, 0, none⟩)) 0 0 10) := Lib.hid (fun W hb => Fl.keep (.inr (.inl ⟨wr.heap.size, rfl, heap_alloc_new _ _, rfl, rfl, rfl⟩)) hb)
        have HB0 : Hid (Below wr.heap.size wr (wr.alloc curZ)) := Lib.hid ((Below.refl wr.heap.size wr).alloc (Nat.le_refl _) curZ)
        have HK0 : Hid ((wr.alloc curZ).heap[w.heap.size]? = some (.cells #[.int .i64 d, .int .i64 k, .string s, .int .i64 n] 35 (0, 0))) := Lib.hid ((heap_alloc_old _ _ hlt).trans HBl.out)
        have HD_Fail := Lib.hid (fun W h => fail_dead' (.pointer (some ⟨wr.heap.size, 0, none⟩)) 0 0 10 (by decide) W h n)
        have HD_Want := Lib.hid (fun W h => want_dead (.pointer (some ⟨wr.heap.size, 0, none⟩)) 0 0 10 (by decide) W h k s)
        have HD_Fault := Lib.hid (fun W h => fault_any (.pointer (some ⟨wr.heap.size, 0, none⟩)) 0 0 10 W h)
        have HD_Next := Lib.hid (fun W h => next_dead' (.pointer (some ⟨wr.heap.size, 0, none⟩)) 0 0 10 (by decide) W h)
        have HD_Is := Lib.hid (fun W h => is_dead (.pointer (some ⟨wr.heap.size, 0, none⟩)) 0 0 10 (by decide) W h 0 ⟨#[]⟩)
        have HD_Take := Lib.hid (fun W h => take_dead (.pointer (some ⟨wr.heap.size, 0, none⟩)) 0 0 10 (by decide) W h k s)
        have HD_Take0 := Lib.hid (fun W h => take_dead (.pointer (some ⟨wr.heap.size, 0, none⟩)) 0 0 10 (by decide) W h 0 ⟨#[]⟩)
        have HD_Name := Lib.hid (fun W h => name_dead (.pointer (some ⟨wr.heap.size, 0, none⟩)) 0 0 10 (by decide) W h)
        have HD_Number := Lib.hid (fun W h => number_dead (.pointer (some ⟨wr.heap.size, 0, none⟩)) 0 0 10 (by decide) W h n)
        have HD_Good := Lib.hid (fun W h => good_dead (.pointer (some ⟨wr.heap.size, 0, none⟩)) 0 0 10 (by decide) W h)
        go_wp2_with (go_at_call 21; (with_reducible refine (HD_Fail.out _ (HF.out _ (Below.refl _ _))).mono ?_))
        rintro e w1 ⟨rfl, hb1⟩
        have HC1 := Lib.hid hb1
        have HK1 := Lib.hid (block_on HK0.out hb1)
        clear hb1 c0 c1 c2 c3
        obtain ⟨c0, c1, c2, c3⟩ := cells_4 HK1.out
        go_wp2_with (go_at_call 13; (with_reducible refine (HD_Want.out _ (HF.out _ HC1.out)).mono ?_))
        rintro e w2 ⟨rfl, hb2⟩
        have HC2 := Lib.hid (below_two' HC1.out hb2)
        have HK2 := Lib.hid (block_on HK1.out hb2)
        clear hb2 c0 c1 c2 c3
        obtain ⟨c0, c1, c2, c3⟩ := cells_4 HK2.out
        go_wp2_with (go_at_call 22; (with_reducible refine (HD_Fault.out _ (HF.out _ HC2.out)).mono ?_))
        rintro e w3 ⟨rfl, hb3⟩
        have HC3 := Lib.hid (below_two' HC2.out hb3)
        have HK3 := Lib.hid (block_on HK2.out hb3)
        clear hb3 c0 c1 c2 c3
        obtain ⟨c0, c1, c2, c3⟩ := cells_4 HK3.out
        go_wp2_with (go_at_call 7; (with_reducible refine (HD_Next.out _ (HF.out _ (HC3.out.alloc HC3.out.size _))).mono ?_))
        rintro e w4 ⟨rfl, hb4⟩
        have HC4 := Lib.hid (below_two' (HC3.out.alloc HC3.out.size _) hb4)
        have HK4 := Lib.hid (block_on ((heap_alloc_old _ _ (Array.getElem?_eq_some_iff.1 HK3.out).1).trans HK3.out) hb4)
        have HP4 := Lib.hid (block_on (heap_alloc_new w3 _) hb4)
        clear hb4 c0 c1 c2 c3
        obtain ⟨c0, c1, c2, c3⟩ := cells_4 HK4.out
        obtain ⟨p0, p1⟩ := cells_2 HP4.out
        go_wp2_with (go_at_call 18; (with_reducible refine (HD_Is.out _ (HF.out _ HC4.out)).mono ?_))
        rintro e w5 ⟨rfl, hb5⟩
        have HC5 := Lib.hid (below_two' HC4.out hb5)
        have HK5 := Lib.hid (block_on HK4.out hb5)
        have HP5 := Lib.hid (block_on HP4.out hb5)
        clear hb5 c0 c1 c2 c3 p0 p1
        obtain ⟨c0, c1, c2, c3⟩ := cells_4 HK5.out
        obtain ⟨p0, p1⟩ := cells_2 HP5.out
        go_wp2_with (go_at_call 11; (with_reducible refine (HD_Take.out _ (HF.out _ HC5.out)).mono ?_))
        rintro e w6 ⟨rfl, hb6⟩
        have HC6 := Lib.hid (below_two' HC5.out hb6)
        have HK6 := Lib.hid (block_on HK5.out hb6)
        have HP6 := Lib.hid (block_on HP5.out hb6)
        clear hb6 c0 c1 c2 c3 p0 p1
        obtain ⟨c0, c1, c2, c3⟩ := cells_4 HK6.out
        obtain ⟨p0, p1⟩ := cells_2 HP6.out
        go_wp2_with (go_at_call 11; (with_reducible refine (HD_Take0.out _ (HF.out _ HC6.out)).mono ?_))
        rintro e w7 ⟨rfl, hb7⟩
        have HC7 := Lib.hid (below_two' HC6.out hb7)
        have HK7 := Lib.hid (block_on HK6.out hb7)
        have HP7 := Lib.hid (block_on HP6.out hb7)
        clear hb7 c0 c1 c2 c3 p0 p1
        obtain ⟨c0, c1, c2, c3⟩ := cells_4 HK7.out
        obtain ⟨p0, p1⟩ := cells_2 HP7.out
        go_wp2_with (go_at_call 15; (with_reducible refine (HD_Name.out _ (HF.out _ HC7.out)).mono ?_))
        rintro e w8 ⟨rfl, hb8⟩
        have HC8 := Lib.hid (below_two' HC7.out hb8)
        have HK8 := Lib.hid (block_on HK7.out hb8)
        have HP8 := Lib.hid (block_on HP7.out hb8)
        clear hb8 c0 c1 c2 c3 p0 p1
        obtain ⟨c0, c1, c2, c3⟩ := cells_4 HK8.out
        obtain ⟨p0, p1⟩ := cells_2 HP8.out
        go_wp2_with (go_at_call 17; (with_reducible refine (HD_Number.out _ (HF.out _ HC8.out)).mono ?_))
        rintro e w9 ⟨rfl, hb9⟩
        have HC9 := Lib.hid (below_two' HC8.out hb9)
        have HK9 := Lib.hid (block_on HK8.out hb9)
        have HP9 := Lib.hid (block_on HP8.out hb9)
        clear hb9 c0 c1 c2 c3 p0 p1
        obtain ⟨c0, c1, c2, c3⟩ := cells_4 HK9.out
        obtain ⟨p0, p1⟩ := cells_2 HP9.out
        go_wp2_with (go_at_call 9; (with_reducible refine (HD_Good.out _ (HF.out _ HC9.out)).mono ?_))
        rintro e w10 ⟨rfl, hb10⟩
        have HC10 := Lib.hid (below_two' HC9.out hb10)
        have HK10 := Lib.hid (block_on HK9.out hb10)
        have HP10 := Lib.hid (block_on HP9.out hb10)
        clear hb10 c0 c1 c2 c3 p0 p1
        obtain ⟨c0, c1, c2, c3⟩ := cells_4 HK10.out
        obtain ⟨p0, p1⟩ := cells_2 HP10.out
        go_wp2_with fail
        go_roundw
        case rel => exact nob_next (j := 1) (by omega) HBl.out HBw.out (below_two' HB0.out HC10.out)
        case measure => simp [intOf]
      · obtain rfl : j = 0 := by omega
        have HF : Hid (∀ W, Below wr.heap.size wr W → Fl W (.pointer none) 0 0 10) := Lib.hid (fun _ _ => .inl ⟨rfl, rfl, rfl, rfl⟩)
        have HB0 : Hid (Below wr.heap.size wr wr) := Lib.hid (Below.refl _ _)
        have HK0 : Hid (wr.heap[w.heap.size]? = some (.cells #[.int .i64 d, .int .i64 k, .string s, .int .i64 n] 35 (0, 0))) := HBl
        have HD_Fail := Lib.hid (fun W h => fail_dead' (.pointer none) 0 0 10 (by decide) W h n)
        have HD_Want := Lib.hid (fun W h => want_dead (.pointer none) 0 0 10 (by decide) W h k s)
        have HD_Fault := Lib.hid (fun W h => fault_any (.pointer none) 0 0 10 W h)
        have HD_Next := Lib.hid (fun W h => next_dead' (.pointer none) 0 0 10 (by decide) W h)
        have HD_Is := Lib.hid (fun W h => is_dead (.pointer none) 0 0 10 (by decide) W h 0 ⟨#[]⟩)
        have HD_Take := Lib.hid (fun W h => take_dead (.pointer none) 0 0 10 (by decide) W h k s)
        have HD_Take0 := Lib.hid (fun W h => take_dead (.pointer none) 0 0 10 (by decide) W h 0 ⟨#[]⟩)
        have HD_Name := Lib.hid (fun W h => name_dead (.pointer none) 0 0 10 (by decide) W h)
        have HD_Number := Lib.hid (fun W h => number_dead (.pointer none) 0 0 10 (by decide) W h n)
        have HD_Good := Lib.hid (fun W h => good_dead (.pointer none) 0 0 10 (by decide) W h)
        go_wp2_with (go_at_call 21; (with_reducible refine (HD_Fail.out _ (HF.out _ (Below.refl _ _))).mono ?_))
        rintro e w1 ⟨rfl, hb1⟩
        have HC1 := Lib.hid hb1
        have HK1 := Lib.hid (block_on HK0.out hb1)
        clear hb1 c0 c1 c2 c3
        obtain ⟨c0, c1, c2, c3⟩ := cells_4 HK1.out
        go_wp2_with (go_at_call 13; (with_reducible refine (HD_Want.out _ (HF.out _ HC1.out)).mono ?_))
        rintro e w2 ⟨rfl, hb2⟩
        have HC2 := Lib.hid (below_two' HC1.out hb2)
        have HK2 := Lib.hid (block_on HK1.out hb2)
        clear hb2 c0 c1 c2 c3
        obtain ⟨c0, c1, c2, c3⟩ := cells_4 HK2.out
        go_wp2_with (go_at_call 22; (with_reducible refine (HD_Fault.out _ (HF.out _ HC2.out)).mono ?_))
        rintro e w3 ⟨rfl, hb3⟩
        have HC3 := Lib.hid (below_two' HC2.out hb3)
        have HK3 := Lib.hid (block_on HK2.out hb3)
        clear hb3 c0 c1 c2 c3
        obtain ⟨c0, c1, c2, c3⟩ := cells_4 HK3.out
        go_wp2_with (go_at_call 7; (with_reducible refine (HD_Next.out _ (HF.out _ (HC3.out.alloc HC3.out.size _))).mono ?_))
        rintro e w4 ⟨rfl, hb4⟩
        have HC4 := Lib.hid (below_two' (HC3.out.alloc HC3.out.size _) hb4)
        have HK4 := Lib.hid (block_on ((heap_alloc_old _ _ (Array.getElem?_eq_some_iff.1 HK3.out).1).trans HK3.out) hb4)
        have HP4 := Lib.hid (block_on (heap_alloc_new w3 _) hb4)
        clear hb4 c0 c1 c2 c3
        obtain ⟨c0, c1, c2, c3⟩ := cells_4 HK4.out
        obtain ⟨p0, p1⟩ := cells_2 HP4.out
        go_wp2_with (go_at_call 18; (with_reducible refine (HD_Is.out _ (HF.out _ HC4.out)).mono ?_))
        rintro e w5 ⟨rfl, hb5⟩
        have HC5 := Lib.hid (below_two' HC4.out hb5)
        have HK5 := Lib.hid (block_on HK4.out hb5)
        have HP5 := Lib.hid (block_on HP4.out hb5)
        clear hb5 c0 c1 c2 c3 p0 p1
        obtain ⟨c0, c1, c2, c3⟩ := cells_4 HK5.out
        obtain ⟨p0, p1⟩ := cells_2 HP5.out
        go_wp2_with (go_at_call 11; (with_reducible refine (HD_Take.out _ (HF.out _ HC5.out)).mono ?_))
        rintro e w6 ⟨rfl, hb6⟩
        have HC6 := Lib.hid (below_two' HC5.out hb6)
        have HK6 := Lib.hid (block_on HK5.out hb6)
        have HP6 := Lib.hid (block_on HP5.out hb6)
        clear hb6 c0 c1 c2 c3 p0 p1
        obtain ⟨c0, c1, c2, c3⟩ := cells_4 HK6.out
        obtain ⟨p0, p1⟩ := cells_2 HP6.out
        go_wp2_with (go_at_call 11; (with_reducible refine (HD_Take0.out _ (HF.out _ HC6.out)).mono ?_))
        rintro e w7 ⟨rfl, hb7⟩
        have HC7 := Lib.hid (below_two' HC6.out hb7)
        have HK7 := Lib.hid (block_on HK6.out hb7)
        have HP7 := Lib.hid (block_on HP6.out hb7)
        clear hb7 c0 c1 c2 c3 p0 p1
        obtain ⟨c0, c1, c2, c3⟩ := cells_4 HK7.out
        obtain ⟨p0, p1⟩ := cells_2 HP7.out
        go_wp2_with (go_at_call 15; (with_reducible refine (HD_Name.out _ (HF.out _ HC7.out)).mono ?_))
        rintro e w8 ⟨rfl, hb8⟩
        have HC8 := Lib.hid (below_two' HC7.out hb8)
        have HK8 := Lib.hid (block_on HK7.out hb8)
        have HP8 := Lib.hid (block_on HP7.out hb8)
        clear hb8 c0 c1 c2 c3 p0 p1
        obtain ⟨c0, c1, c2, c3⟩ := cells_4 HK8.out
        obtain ⟨p0, p1⟩ := cells_2 HP8.out
        go_wp2_with (go_at_call 17; (with_reducible refine (HD_Number.out _ (HF.out _ HC8.out)).mono ?_))
        rintro e w9 ⟨rfl, hb9⟩
        have HC9 := Lib.hid (below_two' HC8.out hb9)
        have HK9 := Lib.hid (block_on HK8.out hb9)
        have HP9 := Lib.hid (block_on HP8.out hb9)
        clear hb9 c0 c1 c2 c3 p0 p1
        obtain ⟨c0, c1, c2, c3⟩ := cells_4 HK9.out
        obtain ⟨p0, p1⟩ := cells_2 HP9.out
        go_wp2_with (go_at_call 9; (with_reducible refine (HD_Good.out _ (HF.out _ HC9.out)).mono ?_))
        rintro e w10 ⟨rfl, hb10⟩
        have HC10 := Lib.hid (below_two' HC9.out hb10)
        have HK10 := Lib.hid (block_on HK9.out hb10)
        have HP10 := Lib.hid (block_on HP9.out hb10)
        clear hb10 c0 c1 c2 c3 p0 p1
        obtain ⟨c0, c1, c2, c3⟩ := cells_4 HK10.out
        obtain ⟨p0, p1⟩ := cells_2 HP10.out
        go_wp2_with fail
        go_roundw
        case rel => exact nob_next (j := 0) (by omega) HBl.out HBw.out (below_two' HB0.out HC10.out)
        case measure => simp [intOf]
    · go_wp2_with (go_at_call 5; (with_reducible refine (HAw.out _).mono ?_))
      rintro e w1 ⟨rfl, hb1⟩
      have HE := Lib.hid (below_two' HBw.out hb1)
      clear hb1 hbl hbw
      go_wp2_with fail
      go_ret
      exact ⟨rfl, HE.out⟩
end Go.Proofs.Ytoegpieomnpifaa
