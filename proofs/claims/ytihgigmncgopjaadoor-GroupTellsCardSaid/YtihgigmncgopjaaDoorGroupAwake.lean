/- The plain example of sets (awake) answers true, and what was in memory stays. Condition: the library's table is in memory. -/
import Derived.Test.YtihgigmncgopjaaDoorGroupList
import Derived.Test.YtihgigmncgopjaaDoorGroupRef
namespace Go.Proofs.YtihgigmncgopjaaDoor
open Go.RowKit GroupSpec NamesSpec
set_option maxRecDepth 100000

section
variable (w : World)
theorem gc_list (hT : TabIn w) : Calls Tryd.prog 9 #[.int .u64 5] w (RetInts w [0, 2]) := by
  have h := list_any 5 (by decide) w hT
  rwa [show bitsL 5 = [0, 2] by decide +kernel] at h
theorem gc_has : Calls Tryd.prog 10 #[.int .u64 5, .int .i64 2] w (SameB w true) := by
  have h := has_any 5 2 (by decide) w
  rwa [show hasG 5 2 = true by decide +kernel] at h
theorem gc_hasnt : Calls Tryd.prog 10 #[.int .u64 5, .int .i64 64] w (SameB w false) := by
  have h := has_any 5 64 (by decide) w
  rwa [show hasG 5 64 = false by decide +kernel] at h
theorem gc_of (v : Value) (h : Rd w v (intV [0, 2, -1])) : Calls Tryd.prog 16 #[v] w (SameU w 5) := by
  have h := of_any v _ w h (by decide)
  rwa [show ofG [0, 2, -1] = 5 by decide +kernel] at h
theorem gc_count : Calls Tryd.prog 11 #[.int .u64 5] w (SameI w 2) := by
  have h := count_any 5 (by decide) w
  rwa [show (bitsL 5).length = 2 by decide +kernel] at h
theorem gc_within : Calls Tryd.prog 17 #[.int .u64 4, .int .u64 5] w (SameB w true) := by
  have h := within_any 4 5 (by decide) (by decide) w
  rwa [show withinG 4 5 = true by decide +kernel] at h
theorem gc_with : Calls Tryd.prog 12 #[.int .u64 1, .int .i64 2] w (SameU w 5) := by
  have h := with_any 1 2 (by decide) w
  rwa [show withG 1 2 = 5 by decide +kernel] at h
end
set_option maxRecDepth 100000 in
set_option maxHeartbeats 4000000 in
theorem gawake_any (w : World) (hT : TabIn w) : Calls Tryd.prog 15 #[] w (RetB w true) := by
  have HL := Lib.hid (gc_list w hT)
  clear hT
  go_enter Tryd.func15, Tryd.ntmps15
  go_wp2_with (first
    | (go_at_call 9; go_fit (HL.out); rintro e w1 h1; obtain ⟨A1, c1, rfl, hr1, hb1⟩ := retInts_shape h1; have HR1 := Lib.hid hr1; have HB1 := Lib.hid hb1; clear h1 hr1 hb1)
    | (go_at_call 8; go_fit (same_yes _ _ [0, 2] _ (HR1.out.keep (KitC.below_one _ _)) (lit_here rfl rfl rfl) (by decide)); rintro e w2 ⟨rfl, hb2⟩; have HB2 := Lib.hid hb2; clear hb2)
    | (go_at_call 10; go_fit (gc_has _); rintro e w' ⟨rfl, rfl⟩)
    | (go_at_call 10; go_fit (gc_hasnt _); rintro e w' ⟨rfl, rfl⟩)
    | (go_at_call 16; go_fit (gc_of _ _ (lit_here rfl rfl rfl)); rintro e w' ⟨rfl, rfl⟩)
    | (go_at_call 11; go_fit (gc_count _); rintro e w' ⟨rfl, rfl⟩)
    | (go_at_call 17; go_fit (gc_within _); rintro e w' ⟨rfl, rfl⟩)
    | (go_at_call 12; go_fit (gc_with _); rintro e w' ⟨rfl, rfl⟩))
  go_ret
  exact ⟨rfl, below_two' (below_two' (below_two' HB1.out (KitC.below_one _ _)) HB2.out) (KitC.below_one _ _)⟩
end Go.Proofs.YtihgigmncgopjaaDoor
