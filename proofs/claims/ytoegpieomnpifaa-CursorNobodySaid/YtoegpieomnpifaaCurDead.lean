/- What the program's calls on a cursor with a fault answer, one that nobody gave among them: nothing. Condition: the cursor has a fault. -/
import Derived.Test.YtoegpieomnpifaaCurAt
namespace Go.Proofs.Ytoegpieomnpifaa
open Go.RowKit CurSpec

def RetStr (W : World) (s : ByteArray) (e : Ending) (w' : World) : Prop := e = .returned (.string s) ∧ Below W.heap.size W w'
def RetInt (W : World) (n : Int) (e : Ending) (w' : World) : Prop := e = .returned (.int .i64 n) ∧ Below W.heap.size W w'
def RetNone (W : World) (e : Ending) (w' : World) : Prop := e = .returned (.tuple #[]) ∧ Below W.heap.size W w'

section
variable (p : Value) (a1 a2 er : Int) (hne : er ≠ 0) (w : World) (h : Fl w p a1 a2 er)
include hne h
theorem good_dead : Calls Try.prog 9 #[p] w (RetBool w false) := good_any p a1 a2 er w h (by simpa using hne)

set_option maxHeartbeats 1000000 in
theorem next_dead' : Calls Try.prog 7 #[p] w (RetTk w 0 ⟨#[]⟩ 0 0) := by
  have HG := Lib.hid (fun W hW => good_dead p a1 a2 er hne W (h.keep hW))
  clear h hne
  go_enter Try.func7, Try.ntmps7
  go_wp2_with (go_at_call 9; (with_reducible refine (HG.out _ ((Below.refl _ _).alloc (Nat.le_refl _) _)).mono ?_))
  rintro e x2 ⟨rfl, hb2⟩
  obtain ⟨k1, hB, hz⟩ := one_block hb2
  obtain ⟨c0, c1, c2, c3⟩ := cells_4 k1
  obtain ⟨f0, f1, f2, f3⟩ := free_4 k1
  have HK := Lib.hid (blk_of k1 (n := 4) rfl)
  have HB := Lib.hid hB
  clear hb2 hB k1
  go_wp2_with fail
  obtain ⟨q0, q1, q2, q3⟩ := store_4 HK.out (.int .i64 0) (.string ⟨#[]⟩) (.int .i64 0) (.int .i64 0)
  refine bodyPost_ret (v := .agg #[.int .i64 0, .string ⟨#[]⟩, .int .i64 0, .int .i64 0]) (by simp [results, Try.results7, go_sem, q0, q1, q2, q3]) rfl ⟨rfl, below_4 HB.out (Nat.le_refl _) _ _ _ _⟩

set_option maxHeartbeats 1000000 in
theorem is_dead (k : Int) (s : ByteArray) : Calls Try.prog 18 #[p, .int .i64 k, .string s] w (RetBool w false) := by
  have HG := Lib.hid (good_dead p a1 a2 er hne w h)
  clear h hne
  go_enter Try.func18, Try.ntmps18
  go_wp2_with (go_at_call 9; (with_reducible refine HG.out.mono ?_))
  rintro e x2 ⟨rfl, hb2⟩
  have HB := Lib.hid hb2
  clear hb2
  go_wp2_with fail
  go_ret
  exact ⟨rfl, HB.out⟩

set_option maxHeartbeats 1000000 in
theorem take_dead (k : Int) (s : ByteArray) : Calls Try.prog 11 #[p, .int .i64 k, .string s] w (RetBool w false) := by
  have HG := Lib.hid (is_dead p a1 a2 er hne w h k s)
  clear h hne
  go_enter Try.func11, Try.ntmps11
  go_wp2_with (go_at_call 18; (with_reducible refine HG.out.mono ?_))
  rintro e x2 ⟨rfl, hb2⟩
  have HB := Lib.hid hb2
  clear hb2
  go_wp2_with fail
  go_ret
  exact ⟨rfl, HB.out⟩

set_option maxHeartbeats 1000000 in
theorem fail_dead' (n : Int) : Calls Try.prog 21 #[p, .int .i64 n] w (RetNone w) := by
  have HG := Lib.hid (good_dead p a1 a2 er hne w h)
  clear h hne
  go_enter Try.func21, Try.ntmps21
  go_wp2_with (go_at_call 9; (with_reducible refine HG.out.mono ?_))
  rintro e x2 ⟨rfl, hb2⟩
  have HB := Lib.hid hb2
  clear hb2
  go_wp2_with fail
  go_end0
  exact ⟨rfl, HB.out⟩

set_option maxHeartbeats 1000000 in
theorem want_dead (k : Int) (s : ByteArray) : Calls Try.prog 13 #[p, .int .i64 k, .string s] w (RetNone w) := by
  have HG := Lib.hid (take_dead p a1 a2 er hne w h k s)
  have HF := Lib.hid (fun W hW => fail_dead' p a1 a2 er hne W (h.keep hW) 2)
  clear h hne
  go_enter Try.func13, Try.ntmps13
  go_wp2_with (go_at_call 11; (with_reducible refine HG.out.mono ?_))
  rintro e x2 ⟨rfl, hb2⟩
  have HB := Lib.hid hb2
  clear hb2
  go_wp2_with (go_at_call 21; (with_reducible refine (HF.out _ HB.out).mono ?_))
  rintro e x3 ⟨rfl, hb3⟩
  have HB3 := Lib.hid (below_two' HB.out hb3)
  clear hb3
  go_wp2_with fail
  go_end0
  exact ⟨rfl, HB3.out⟩

set_option maxHeartbeats 1000000 in
theorem name_dead : Calls Try.prog 15 #[p] w (RetStr w ⟨#[]⟩) := by
  have HG := Lib.hid (next_dead' p a1 a2 er hne w h)
  have HF := Lib.hid (fun W hW => fail_dead' p a1 a2 er hne W (h.keep hW) 2)
  clear h hne
  go_enter Try.func15, Try.ntmps15
  go_wp2_with (go_at_call 7; (with_reducible refine HG.out.mono ?_))
  rintro e x2 ⟨rfl, hb2⟩
  have HB := Lib.hid hb2
  clear hb2
  go_wp2_with (go_at_call 21; (with_reducible refine (HF.out _ (HB.out.alloc HB.out.size _)).mono ?_))
  rintro e x3 ⟨rfl, hb3⟩
  have HB3 := Lib.hid (below_two' (HB.out.alloc HB.out.size _) hb3)
  clear hb3
  go_wp2_with fail
  go_ret
  exact ⟨rfl, HB3.out⟩
end
end Go.Proofs.Ytoegpieomnpifaa
