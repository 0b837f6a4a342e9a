/- EvalAwake, joined. -/
import Derived.Test.YtbkgkdfameojfaaMEvalHolds
import Derived.Laws.Tables
namespace Go.Proofs.Ytbkgkdfameojfaa
open Go.RowKit TermSpec EvalSpec NamesSpec
set_option maxRecDepth 100000

def exL : List Tm := [⟨15, 0, ⟨#[]⟩⟩, ⟨4, 0, ⟨#[]⟩⟩, ⟨2, 0, ⟨#[120]⟩⟩, ⟨1, 1, ⟨#[]⟩⟩, ⟨1, 3, ⟨#[]⟩⟩]
def exL2 : List Tm := [⟨12, 0, ⟨#[]⟩⟩, ⟨1, 0, ⟨#[]⟩⟩]
def exE : Ev := ⟨[⟨⟨#[120]⟩, 0, 0, 0⟩], 1, 0, 0, 0, []⟩
def exE0 : Ev := ⟨[], 0, 0, 0, 0, []⟩
theorem exL_small : Small exL := by
  intro t ht
  simp only [exL, List.mem_cons, List.not_mem_nil, or_false] at ht
  rcases ht with rfl | rfl | rfl | rfl | rfl <;> decide
theorem exL2_small : Small exL2 := by
  intro t ht
  simp only [exL2, List.mem_cons, List.not_mem_nil, or_false] at ht
  rcases ht with rfl | rfl <;> decide
theorem ex_chk1 : chkE exE exL = 0 := by kernel_rfl
theorem ex_at1 : atE exE exL = 1 := by kernel_rfl
theorem ex_chk0 : chkE exE0 exL = 7 := by kernel_rfl
theorem ex_at0 : atE exE0 exL = 0 := by kernel_rfl
theorem ex_chk2 : chkE exE exL2 = 4 := by kernel_rfl
theorem ex_at2 : atE exE exL2 = 0 := by kernel_rfl
theorem ex_holds : holdsE exE exL = true := by kernel_rfl
abbrev exLO : Obj := .cells #[.int .i64 15, .int .i64 0, .string ⟨#[]⟩, .int .i64 4, .int .i64 0, .string ⟨#[]⟩, .int .i64 2, .int .i64 0, .string ⟨#[120]⟩, .int .i64 1, .int .i64 1, .string ⟨#[]⟩, .int .i64 1, .int .i64 3, .string ⟨#[]⟩] 39
abbrev exL2O : Obj := .cells #[.int .i64 12, .int .i64 0, .string ⟨#[]⟩, .int .i64 1, .int .i64 0, .string ⟨#[]⟩] 39
abbrev exVO : Obj := .cells #[.string ⟨#[120]⟩, .int .i64 0, .int .i64 0, .int .i64 0] 42
abbrev exEO (k : Nat) : Obj := .cells #[.slice (some ⟨k, 0, none⟩) 1 1, .int .i64 1, .int .i64 0, .int .i64 0, .int .i64 0, .slice none 0 0] 27
abbrev exEV (k : Nat) : Value := .agg #[.slice (some ⟨k, 0, none⟩) 1 1, .int .i64 1, .int .i64 0, .int .i64 0, .int .i64 0, .slice none 0 0]
abbrev exEV0 : Value := .agg #[.slice none 0 0, .int .i64 0, .int .i64 0, .int .i64 0, .int .i64 0, .slice none 0 0]
abbrev exP (k : Nat) : EP := ⟨some ⟨k, 0, none⟩, 1, 1, none, 0, 0⟩
abbrev exP0 : EP := ⟨none, 0, 0, none, 0, 0⟩
theorem tb_one (a : Int) (w : World) : (Instr.build 39 #[(0, .int .i64 a)]).run Try.prog w = .ok (.agg #[.int .i64 a, .int .i64 0, .string ⟨#[]⟩]) w := run_build w 39 _ _ (by kernel_rfl)
theorem tb_name (a : Int) (s : ByteArray) (w : World) : (Instr.build 39 #[(0, .int .i64 a), (2, .string s)]).run Try.prog w = .ok (.agg #[.int .i64 a, .int .i64 0, .string s]) w := run_build w 39 _ _ (by kernel_rfl)
theorem tb_num (a b : Int) (w : World) : (Instr.build 39 #[(0, .int .i64 a), (1, .int .i64 b)]).run Try.prog w = .ok (.agg #[.int .i64 a, .int .i64 b, .string ⟨#[]⟩]) w := run_build w 39 _ _ (by kernel_rfl)
theorem vb_one (s : ByteArray) (w : World) : (Instr.build 42 #[(0, .string s)]).run Try.prog w = .ok (.agg #[.string s, .int .i64 0, .int .i64 0, .int .i64 0]) w := run_build w 42 _ _ (by kernel_rfl)
theorem ab_one (a : Int) (w : World) : (Instr.build 24 #[(0, .int .i64 a)]).run Try.prog w = .ok (.agg #[.int .i64 a, .int .i64 0, .int .i64 0, .int .i64 0]) w := run_build w 24 _ _ (by kernel_rfl)
theorem eb_two (A : Option Addr) (n c : Nat) (a b x d : Int) (w : World) : (Instr.build 27 #[(0, .slice A n c), (1, .agg #[.int .i64 a, .int .i64 b, .int .i64 x, .int .i64 d])]).run Try.prog w = .ok (.agg #[.slice A n c, .int .i64 a, .int .i64 b, .int .i64 x, .int .i64 d, .slice none 0 0]) w := run_build w 27 _ _ (by kernel_rfl)
theorem eb_none (w : World) : (Instr.build 27 #[]).run Try.prog w = .ok (.agg #[.slice none 0 0, .int .i64 0, .int .i64 0, .int .i64 0, .int .i64 0, .slice none 0 0]) w := run_build w 27 _ _ (by kernel_rfl)
theorem env_none (w : World) : EnvIn w exP0 exE0 := ⟨⟨rfl, Rdk.nil 4 w⟩, Rd.nil w, by decide, by decide⟩
theorem vars_lit {w : World} {k : Nat} (hk : k = w.heap.size) : VarsIn (w.alloc exVO) (some ⟨k, 0, none⟩) 1 1 exE.vars := by
  subst hk
  refine ⟨rfl, _, 1, rfl, Nat.le_refl _, rfl, fun _ => ⟨w.heap.size, 0, rfl, by simp, fun j u hj => ?_⟩⟩
  rw [World.cell?_alloc_at _ _ _ _ rfl]
  rw [Nat.zero_add, ← Array.getElem?_toList]
  exact hj
theorem ex_env {w : World} {k : Nat} (h : VarsIn w (some ⟨k, 0, none⟩) 1 1 exE.vars) : EnvIn w (exP k) exE := ⟨h, Rd.nil w, by decide, by decide⟩
set_option maxHeartbeats 4000000 in
theorem eawake_any (w : World) : Calls Try.prog 6 #[] w (RetB w true) := by
  have b1 := tb_one
  have b2 := tb_name
  have b3 := tb_num
  have b4 := vb_one
  have b5 := ab_one
  have b6 := eb_two
  have b7 := eb_none
  have HT0 : Hid (Tms (((w.alloc exLO).alloc exVO).alloc (exEO (w.heap.size + 1))) (.slice (some ⟨w.heap.size, 0, none⟩) 5 5) exL) := Lib.hid ((tms_lit rfl rfl rfl).keep (KitC.below_pair _ _ _))
  have HE0 : Hid (EnvIn (((w.alloc exLO).alloc exVO).alloc (exEO (w.heap.size + 1))) (exP (w.heap.size + 1)) exE) := Lib.hid (ex_env ((vars_lit (by simp)).keep (KitC.below_one _ _)))
  have HB0 : Hid (Below w.heap.size w (((w.alloc exLO).alloc exVO).alloc (exEO (w.heap.size + 1)))) := Lib.hid (below_two' (KitC.below_one _ _) (KitC.below_pair _ _ _))
  have hsz : (((w.alloc exLO).alloc exVO).alloc (exEO (w.heap.size + 1))).heap.size = w.heap.size + 3 := by simp
  have HK0 : Hid ((((w.alloc exLO).alloc exVO).alloc (exEO (w.heap.size + 1))).heap[w.heap.size + 2]? = some (exEO (w.heap.size + 1))) := Lib.hid (by
    have := heap_alloc_new ((w.alloc exLO).alloc exVO) (exEO (w.heap.size + 1))
    simpa using this)
  have HA1 : Hid (∀ w k n, Tms w (.slice (some ⟨k, 0, none⟩) 5 5) exL → EnvIn w (exP n) exE → Calls Try.prog 7 #[.slice (some ⟨k, 0, none⟩) 5 5, exEV n] w (RetAt w 1 0)) := Lib.hid (fun w k n h h' => by
    have := at_any (exP n) exE (some ⟨k, 0, none⟩) 5 5 exL rfl (by decide) exL_small w h h'
    rw [ex_chk1, ex_at1] at this
    exact this)
  have HA2 : Hid (∀ w k, Tms w (.slice (some ⟨k, 0, none⟩) 5 5) exL → Calls Try.prog 7 #[.slice (some ⟨k, 0, none⟩) 5 5, exEV0] w (RetAt w 0 7)) := Lib.hid (fun w k h => by
    have := at_any exP0 exE0 (some ⟨k, 0, none⟩) 5 5 exL rfl (by decide) exL_small w h (env_none w)
    rw [ex_chk0, ex_at0] at this
    exact this)
  have HA3 : Hid (∀ w k n, Tms w (.slice (some ⟨k, 0, none⟩) 2 2) exL2 → EnvIn w (exP n) exE → Calls Try.prog 7 #[.slice (some ⟨k, 0, none⟩) 2 2, exEV n] w (RetAt w 0 4)) := Lib.hid (fun w k n h h' => by
    have := at_any (exP n) exE (some ⟨k, 0, none⟩) 2 2 exL2 rfl (by decide) exL2_small w h h'
    rw [ex_chk2, ex_at2] at this
    exact this)
  have HH1 : Hid (∀ w k n, Tms w (.slice (some ⟨k, 0, none⟩) 5 5) exL → EnvIn w (exP n) exE → Calls Try.prog 10 #[.slice (some ⟨k, 0, none⟩) 5 5, exEV n] w (RetB w true)) := Lib.hid (fun w k n h h' => by
    have := holds_any (exP n) exE (some ⟨k, 0, none⟩) 5 5 exL rfl (by decide) exL_small w h h'
    rw [ex_holds] at this
    exact this)
  have HH2 : Hid (∀ w n, EnvIn w (exP n) exE → Calls Try.prog 10 #[.slice none 0 0, exEV n] w (RetB w true)) := Lib.hid (fun w n h' => holds_any (exP n) exE none 0 0 [] rfl (by decide) (fun t ht => by simp at ht) w ⟨0, rfl, Rdk.nil 3 w⟩ h')
  go_enter Try.func6, Try.ntmps6
  go_wp2_with (go_at_call 7; (with_reducible refine (HA1.out _ _ _ HT0.out HE0.out).mono ?_))
  rintro e w1 ⟨rfl, hb1⟩
  have HT1 := Lib.hid (HT0.out.keep hb1)
  have HE1 := Lib.hid (HE0.out.keep hb1)
  have HB1 := Lib.hid (below_two' HB0.out hb1)
  have HK1 := Lib.hid (KitC.block_on HK0.out hb1)
  clear hb1
  go_wp2_with (go_at_call 7; (with_reducible refine (HA2.out _ _ HT1.out).mono ?_))
  rintro e w2 ⟨rfl, hb2⟩
  have HT2 := Lib.hid (HT1.out.keep hb2)
  have HE2 := Lib.hid (HE1.out.keep hb2)
  have HB2 := Lib.hid (below_two' HB1.out hb2)
  have HK2 := Lib.hid (KitC.block_on HK1.out hb2)
  obtain ⟨z0, z1, z2, z3, z4, z5⟩ := cells_6 (KitC.block_on HK2.out (KitC.below_one w2 exL2O))
  have HL2 : Hid (Tms (w2.alloc exL2O) (.slice (some ⟨w2.heap.size, 0, none⟩) 2 2) exL2) := Lib.hid (tms_lit rfl rfl rfl)
  have HEN2 := Lib.hid (HE2.out.keep (KitC.below_one w2 exL2O))
  have HHK2 := Lib.hid (KitC.block_on HK2.out (KitC.below_one w2 exL2O))
  clear hb2
  go_wp2_with (go_at_call 7; (with_reducible refine (HA3.out _ _ _ HL2.out HEN2.out).mono ?_))
  rintro e w3 ⟨rfl, hb3⟩
  have HT3 := Lib.hid ((HT2.out.keep (KitC.below_one w2 exL2O)).keep hb3)
  have HE3 := Lib.hid (HEN2.out.keep hb3)
  have HB3 := Lib.hid (below_two' (below_two' HB2.out (KitC.below_one w2 exL2O)) hb3)
  have HK3 := Lib.hid (KitC.block_on HHK2.out hb3)
  clear hb3 z0 z1 z2 z3 z4 z5
  obtain ⟨z0, z1, z2, z3, z4, z5⟩ := cells_6 HK3.out
  go_wp2_with (go_at_call 10; (with_reducible refine (HH1.out _ _ _ HT3.out HE3.out).mono ?_))
  rintro e w4 ⟨rfl, hb4⟩
  have HE4 := Lib.hid (HE3.out.keep hb4)
  have HB4 := Lib.hid (below_two' HB3.out hb4)
  have HK4 := Lib.hid (KitC.block_on HK3.out hb4)
  clear hb4 z0 z1 z2 z3 z4 z5
  obtain ⟨z0, z1, z2, z3, z4, z5⟩ := cells_6 HK4.out
  go_wp2_with (go_at_call 10; (with_reducible refine (HH2.out _ _ HE4.out).mono ?_))
  rintro e w5 ⟨rfl, hb5⟩
  have HB5 := Lib.hid (below_two' HB4.out hb5)
  clear hb5 z0 z1 z2 z3 z4 z5
  go_wp2_with fail
  go_ret
  exact ⟨rfl, HB5.out⟩
end Go.Proofs.Ytbkgkdfameojfaa
