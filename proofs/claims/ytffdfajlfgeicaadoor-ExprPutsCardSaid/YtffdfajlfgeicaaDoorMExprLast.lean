/- ExprLast, joined. -/
import Derived.Test.YtffdfajlfgeicaaDoorMExprMid
namespace Go.Proofs.YtffdfajlfgeicaaDoor
open Go.RowKit CurSpec TermSpec ExprSpec NamesSpec
set_option maxRecDepth 100000

def TwoOk (f : Nat) : Prop := ∀ (R B : Nat) (v : Value) (c : Cur) (l : List Tm) (o : Int) (w : World), SignsIn w → RdAt w R B v c l → Ok c → Fit f c →
  Calls Tryd.prog 90 #[.pointer (some ⟨R, 0, none⟩), .int .i64 o] w (RetPart w R B v l (two (S f) c o))
theorem ok_S (f : Nat) {c : Cur} (k : Int) (h : Ok c) : Ok (S f c k).1 := (inv_ok.all f).1 c k h
theorem fit_want {f : Nat} {c : Cur} (h : Fit f c) (k : Int) (s : ByteArray) : Fit f (want c k s) := fun hb => by
  have := h (isB_next (want_good hb).1).1
  have := want_len c k s
  omega
theorem fit_S {f g : Nat} {c : Cur} (h : Fit f c) (k : Int) : Fit f (S g c k).1 := fun hb => by
  have h1 := S_less g c k
  have := h (h1.2 hb)
  omega
set_option maxHeartbeats 4000000 in
theorem two_step (f : Nat) (hP : PartOk f) : TwoOk f := by
  intro R B v c l o w hs h ok hf
  have HP := Lib.hid hP
  have H0 := Lib.hid (Mid.start hs h)
  have r0 := H0.out.cell
  have HOK := Lib.hid ok
  have HF := Lib.hid hf
  clear hs h ok hf hP
  go_enter Tryd.func90, Tryd.ntmps90
  go_wp2_with (go_at_call 67; (with_reducible refine (add_mid H0.out o 0 ⟨#[]⟩ (by decide)).mono ?_))
  rintro e w1 ⟨v1, l1, rfl, M1⟩
  have H1 := Lib.hid M1
  have r1 := M1.cell
  clear M1 r0
  go_wp2_with (go_at_call 21; (with_reducible refine (want_mid H1.out 3 tOpen).mono ?_))
  rintro e w2 ⟨rfl, M2⟩
  have H2 := Lib.hid M2
  have r2 := M2.cell
  clear M2 r1
  go_wp2_with (go_at_call 24; (with_reducible refine (part_mid HP.out H2.out 1 (HOK.out.want _ _) (fit_want HF.out _ _)).mono ?_))
  rintro e w3 ⟨v3, l3, rfl, M3⟩
  have H3 := Lib.hid M3
  have r3 := M3.cell
  clear M3 r2
  go_wp2_with (go_at_call 21; (with_reducible refine (want_mid H3.out 3 tComma).mono ?_))
  rintro e w4 ⟨rfl, M4⟩
  have H4 := Lib.hid M4
  have r4 := M4.cell
  clear M4 r3
  go_wp2_with (go_at_call 24; (with_reducible refine (part_mid HP.out H4.out 1 ((ok_S f _ (HOK.out.want _ _)).want _ _) (fit_want (fit_S (fit_want HF.out _ _) _) _ _)).mono ?_))
  rintro e w5 ⟨v5, l5, rfl, M5⟩
  have H5 := Lib.hid M5
  have r5 := M5.cell
  clear M5 r4
  go_wp2_with (go_at_call 21; (with_reducible refine (want_mid H5.out 3 tClose).mono ?_))
  rintro e w6 ⟨rfl, M6⟩
  have H6 := Lib.hid M6
  have r6 := M6.cell
  clear M6 r5
  go_wp2_with fail
  go_end0
  exact H6.out.ret (by unfold two opT; simp)

def LastOk (f : Nat) (c : Cur) : Prop := ∀ (R B : Nat) (v : Value) (l : List Tm) (w : World), SignsIn w → RdAt w R B v c l →
  Calls Tryd.prog 68 #[.pointer (some ⟨R, 0, none⟩)] w (RetPart w R B v l (atom (S f) c))
theorem two_mid {f : Nat} (hP : PartOk f) {W : World} {R B : Nat} {v : Value} {pre : List Tm} {c : Cur} {x : List Tm} {v1 : Value} {l1 : List Tm} {w : World} (h : Mid W R B v pre c x v1 l1 w) (o : Int) (ok : Ok c) (hf : Fit f c) :
    Calls Tryd.prog 90 #[.pointer (some ⟨R, 0, none⟩), .int .i64 o] w fun e w' => ∃ v2 l2, e = .returned (.tuple #[]) ∧ Mid W R B v pre (two (S f) c o).1 (x ++ (two (S f) c o).2) v2 l2 w' := by
  refine (two_step f hP R B v1 c l1 o w h.sig h.rd ok hf).mono ?_
  rintro e w' ⟨v2, l2, rfl, hr, hc, hh⟩
  exact ⟨v2, l2, rfl, h.part (two_len (S_less f) c o).2 hr hc hh⟩
theorem isB_not {c : Cur} {k k' : Int} {s s' : ByteArray} (h : isB c k s = true) (hne : k ≠ k' ∨ s ≠ s') : isB c k' s' = false := by
  obtain ⟨h0, h1, h2⟩ := isB_next h
  unfold isB
  rw [h1, h2]
  rcases hne with h | h
  · rw [decide_eq_false h]; simp
  · rw [decide_eq_false h]; simp
theorem isB_num {c : Cur} (h : (next c).k = 2) (s : ByteArray) : isB c 1 s = false ∧ isB c 3 s = false := by
  unfold isB
  rw [h]
  simp
set_option maxHeartbeats 4000000 in
theorem last_step (f : Nat) (c : Cur) (hP : c.bad = 0 → PartOk f) (ok : Ok c) (hf : Fit (f + 1) c) : LastOk f c := by
  intro R B v l w hs h
  have HP := Lib.hid hP
  have H0 := Lib.hid (Mid.start hs h)
  have r0 := H0.out.cell
  have HOK := Lib.hid ok
  have HF := Lib.hid hf
  have HFO : Hid (∀ {k : Int} {s : ByteArray}, isB c k s = true → k ≠ 0 → Fit f (on c)) := Lib.hid (fun hb hk _ => by
    have := isB_real hb hk
    have := hf this.1
    omega)
  clear hs h ok hf hP
  by_cases h2 : (next c).k = 2
  · have e2 : ((next c).k == 2) = true := by simpa using h2
    have HE : Hid (atom (S f) c = (numC c 1000000, [⟨1, numN c 1000000, ⟨#[]⟩⟩])) := Lib.hid (if_pos h2)
    clear h2
    go_enter Tryd.func68, Tryd.ntmps68
    go_wp2_with (go_at_call 15; (with_reducible refine (peek_mid H0.out).mono ?_))
    rintro e w1 ⟨rfl, M1⟩
    have hfld : ∀ w, (Instr.field 33 (.agg #[.int .i64 (next c).k, .string (next c).t, .int .i64 (next c).l, .int .i64 (next c).c]) 0).run Tryd.prog w = .ok (.int .i64 (next c).k) w := fun _ => by kernel_rfl
    have H1 := Lib.hid M1
    have r1 := M1.cell
    clear M1 r0
    go_wp2_with (go_at_call 88; (with_reducible refine (number_mid H1.out 1000000 HOK.out).mono ?_))
    rintro e w2 ⟨rfl, M2⟩
    have H2 := Lib.hid M2
    have r2 := M2.cell
    clear M2 r1
    go_wp2_with (go_at_call 67; (with_reducible refine (add_mid H2.out 1 (numN c 1000000) ⟨#[]⟩ (by decide)).mono ?_))
    rintro e w3 ⟨v3, l3, rfl, M3⟩
    have H3 := Lib.hid M3
    have r3 := M3.cell
    clear M3 r2
    go_wp2_with fail
    go_end0
    exact H3.out.ret HE.out
  have e2 : ((next c).k == 2) = false := by simpa using h2
  by_cases b0 : isB c 1 tTrue = true
  · have HE : Hid (atom (S f) c = (on c, [opT 9])) := Lib.hid (by unfold atom; rw [if_neg h2, if_pos b0])
    have HPG := Lib.hid (HP.out (isB_next b0).1)
    have HFG := Lib.hid (HFO.out b0 (by decide))
    have HB := Lib.hid b0
    clear h2 b0
    go_enter Tryd.func68, Tryd.ntmps68
    go_wp2_with (go_at_call 15; (with_reducible refine (peek_mid H0.out).mono ?_))
    rintro e w1 ⟨rfl, M1⟩
    have hfld : ∀ w, (Instr.field 33 (.agg #[.int .i64 (next c).k, .string (next c).t, .int .i64 (next c).l, .int .i64 (next c).c]) 0).run Tryd.prog w = .ok (.int .i64 (next c).k) w := fun _ => by kernel_rfl
    have H1 := Lib.hid M1
    have r1 := M1.cell
    clear M1 r0
    go_wp2_with (go_at_call 39; (with_reducible refine (take_yes H1.out (k := 1) (s := tTrue) HB.out).mono ?_))
    rintro e w2 ⟨rfl, M2⟩
    have H2 := Lib.hid M2
    have r2 := M2.cell
    clear M2 r1
    go_wp2_with (go_at_call 67; (with_reducible refine (add_mid H2.out 9 0 ⟨#[]⟩ (by decide)).mono ?_))
    rintro e w3 ⟨v3, l3, rfl, M3⟩
    have H3 := Lib.hid M3
    have r3 := M3.cell
    clear M3 r2
    go_wp2_with fail
    go_end0
    exact H3.out.ret (by first | exact HE.out | (rw [HE.out]; simp [opT]))
  have n0 : ¬ isB c 1 tTrue = true := b0
  have N0 : Hid (isB c 1 tTrue = false) := Lib.hid (by simpa using b0)
  clear b0
  by_cases b1 : isB c 1 tFalse = true
  · have HE : Hid (atom (S f) c = (on c, [opT 10])) := Lib.hid (by unfold atom; rw [if_neg h2, if_neg n0, if_pos b1])
    have HPG := Lib.hid (HP.out (isB_next b1).1)
    have HFG := Lib.hid (HFO.out b1 (by decide))
    have HB := Lib.hid b1
    clear h2 b1 n0
    go_enter Tryd.func68, Tryd.ntmps68
    go_wp2_with (go_at_call 15; (with_reducible refine (peek_mid H0.out).mono ?_))
    rintro e w1 ⟨rfl, M1⟩
    have hfld : ∀ w, (Instr.field 33 (.agg #[.int .i64 (next c).k, .string (next c).t, .int .i64 (next c).l, .int .i64 (next c).c]) 0).run Tryd.prog w = .ok (.int .i64 (next c).k) w := fun _ => by kernel_rfl
    have H1 := Lib.hid M1
    have r1 := M1.cell
    clear M1 r0
    go_wp2_with (go_at_call 39; (with_reducible refine (take_no H1.out (k := 1) (s := tTrue) N0.out).mono ?_))
    rintro e w2 ⟨rfl, M2⟩
    have H2 := Lib.hid M2
    have r2 := M2.cell
    clear M2 r1
    go_wp2_with (go_at_call 39; (with_reducible refine (take_yes H2.out (k := 1) (s := tFalse) HB.out).mono ?_))
    rintro e w3 ⟨rfl, M3⟩
    have H3 := Lib.hid M3
    have r3 := M3.cell
    clear M3 r2
    go_wp2_with (go_at_call 67; (with_reducible refine (add_mid H3.out 10 0 ⟨#[]⟩ (by decide)).mono ?_))
    rintro e w4 ⟨v4, l4, rfl, M4⟩
    have H4 := Lib.hid M4
    have r4 := M4.cell
    clear M4 r3
    go_wp2_with fail
    go_end0
    exact H4.out.ret (by first | exact HE.out | (rw [HE.out]; simp [opT]))
  have n1 : ¬ isB c 1 tFalse = true := b1
  have N1 : Hid (isB c 1 tFalse = false) := Lib.hid (by simpa using b1)
  clear b1
  by_cases b2 : isB c 1 tIn = true
  · have HE : Hid (atom (S f) c = (want (nameC (want (on c) 3 tOpen)) 3 tClose, [⟨11, 0, nameS (want (on c) 3 tOpen)⟩])) := Lib.hid (by unfold atom; rw [if_neg h2, if_neg n0, if_neg n1, if_pos b2])
    have HPG := Lib.hid (HP.out (isB_next b2).1)
    have HFG := Lib.hid (HFO.out b2 (by decide))
    have HB := Lib.hid b2
    clear h2 b2 n0 n1
    go_enter Tryd.func68, Tryd.ntmps68
    go_wp2_with (go_at_call 15; (with_reducible refine (peek_mid H0.out).mono ?_))
    rintro e w1 ⟨rfl, M1⟩
    have hfld : ∀ w, (Instr.field 33 (.agg #[.int .i64 (next c).k, .string (next c).t, .int .i64 (next c).l, .int .i64 (next c).c]) 0).run Tryd.prog w = .ok (.int .i64 (next c).k) w := fun _ => by kernel_rfl
    have H1 := Lib.hid M1
    have r1 := M1.cell
    clear M1 r0
    go_wp2_with (go_at_call 39; (with_reducible refine (take_no H1.out (k := 1) (s := tTrue) N0.out).mono ?_))
    rintro e w2 ⟨rfl, M2⟩
    have H2 := Lib.hid M2
    have r2 := M2.cell
    clear M2 r1
    go_wp2_with (go_at_call 39; (with_reducible refine (take_no H2.out (k := 1) (s := tFalse) N1.out).mono ?_))
    rintro e w3 ⟨rfl, M3⟩
    have H3 := Lib.hid M3
    have r3 := M3.cell
    clear M3 r2
    go_wp2_with (go_at_call 39; (with_reducible refine (take_yes H3.out (k := 1) (s := tIn) HB.out).mono ?_))
    rintro e w4 ⟨rfl, M4⟩
    have H4 := Lib.hid M4
    have r4 := M4.cell
    clear M4 r3
    go_wp2_with (go_at_call 21; (with_reducible refine (want_mid H4.out 3 tOpen).mono ?_))
    rintro e w5 ⟨rfl, M5⟩
    have H5 := Lib.hid M5
    have r5 := M5.cell
    clear M5 r4
    go_wp2_with (go_at_call 89; (with_reducible refine (name_mid H5.out (HOK.out.on.want _ _)).mono ?_))
    rintro e w6 ⟨rfl, M6⟩
    have H6 := Lib.hid M6
    have r6 := M6.cell
    clear M6 r5
    go_wp2_with (go_at_call 67; (with_reducible refine (add_mid H6.out 11 0 (nameS (want (on c) 3 tOpen)) (nameS_small _ (HOK.out.on.want _ _))).mono ?_))
    rintro e w7 ⟨v7, l7, rfl, M7⟩
    have H7 := Lib.hid M7
    have r7 := M7.cell
    clear M7 r6
    go_wp2_with (go_at_call 21; (with_reducible refine (want_mid H7.out 3 tClose).mono ?_))
    rintro e w8 ⟨rfl, M8⟩
    have H8 := Lib.hid M8
    have r8 := M8.cell
    clear M8 r7
    go_wp2_with fail
    go_end0
    exact H8.out.ret (by first | exact HE.out | (rw [HE.out]; simp [opT]))
  have n2 : ¬ isB c 1 tIn = true := b2
  have N2 : Hid (isB c 1 tIn = false) := Lib.hid (by simpa using b2)
  clear b2
  by_cases b3 : isB c 1 tMin = true
  · have HE : Hid (atom (S f) c = two (S f) (on c) 7) := Lib.hid (by unfold atom; rw [if_neg h2, if_neg n0, if_neg n1, if_neg n2, if_pos b3])
    have HPG := Lib.hid (HP.out (isB_next b3).1)
    have HFG := Lib.hid (HFO.out b3 (by decide))
    have HB := Lib.hid b3
    clear h2 b3 n0 n1 n2
    go_enter Tryd.func68, Tryd.ntmps68
    go_wp2_with (go_at_call 15; (with_reducible refine (peek_mid H0.out).mono ?_))
    rintro e w1 ⟨rfl, M1⟩
    have hfld : ∀ w, (Instr.field 33 (.agg #[.int .i64 (next c).k, .string (next c).t, .int .i64 (next c).l, .int .i64 (next c).c]) 0).run Tryd.prog w = .ok (.int .i64 (next c).k) w := fun _ => by kernel_rfl
    have H1 := Lib.hid M1
    have r1 := M1.cell
    clear M1 r0
    go_wp2_with (go_at_call 39; (with_reducible refine (take_no H1.out (k := 1) (s := tTrue) N0.out).mono ?_))
    rintro e w2 ⟨rfl, M2⟩
    have H2 := Lib.hid M2
    have r2 := M2.cell
    clear M2 r1
    go_wp2_with (go_at_call 39; (with_reducible refine (take_no H2.out (k := 1) (s := tFalse) N1.out).mono ?_))
    rintro e w3 ⟨rfl, M3⟩
    have H3 := Lib.hid M3
    have r3 := M3.cell
    clear M3 r2
    go_wp2_with (go_at_call 39; (with_reducible refine (take_no H3.out (k := 1) (s := tIn) N2.out).mono ?_))
    rintro e w4 ⟨rfl, M4⟩
    have H4 := Lib.hid M4
    have r4 := M4.cell
    clear M4 r3
    go_wp2_with (go_at_call 39; (with_reducible refine (take_yes H4.out (k := 1) (s := tMin) HB.out).mono ?_))
    rintro e w5 ⟨rfl, M5⟩
    have H5 := Lib.hid M5
    have r5 := M5.cell
    clear M5 r4
    go_wp2_with (go_at_call 90; (with_reducible refine (two_mid HPG.out H5.out 7 HOK.out.on HFG.out).mono ?_))
    rintro e w6 ⟨v6, l6, rfl, M6⟩
    have H6 := Lib.hid M6
    have r6 := M6.cell
    clear M6 r5
    go_wp2_with fail
    go_end0
    exact H6.out.ret (by first | exact HE.out | (rw [HE.out]; simp [opT]))
  have n3 : ¬ isB c 1 tMin = true := b3
  have N3 : Hid (isB c 1 tMin = false) := Lib.hid (by simpa using b3)
  clear b3
  by_cases b4 : isB c 1 tMax = true
  · have HE : Hid (atom (S f) c = two (S f) (on c) 8) := Lib.hid (by unfold atom; rw [if_neg h2, if_neg n0, if_neg n1, if_neg n2, if_neg n3, if_pos b4])
    have HPG := Lib.hid (HP.out (isB_next b4).1)
    have HFG := Lib.hid (HFO.out b4 (by decide))
    have HB := Lib.hid b4
    clear h2 b4 n0 n1 n2 n3
    go_enter Tryd.func68, Tryd.ntmps68
    go_wp2_with (go_at_call 15; (with_reducible refine (peek_mid H0.out).mono ?_))
    rintro e w1 ⟨rfl, M1⟩
    have hfld : ∀ w, (Instr.field 33 (.agg #[.int .i64 (next c).k, .string (next c).t, .int .i64 (next c).l, .int .i64 (next c).c]) 0).run Tryd.prog w = .ok (.int .i64 (next c).k) w := fun _ => by kernel_rfl
    have H1 := Lib.hid M1
    have r1 := M1.cell
    clear M1 r0
    go_wp2_with (go_at_call 39; (with_reducible refine (take_no H1.out (k := 1) (s := tTrue) N0.out).mono ?_))
    rintro e w2 ⟨rfl, M2⟩
    have H2 := Lib.hid M2
    have r2 := M2.cell
    clear M2 r1
    go_wp2_with (go_at_call 39; (with_reducible refine (take_no H2.out (k := 1) (s := tFalse) N1.out).mono ?_))
    rintro e w3 ⟨rfl, M3⟩
    have H3 := Lib.hid M3
    have r3 := M3.cell
    clear M3 r2
    go_wp2_with (go_at_call 39; (with_reducible refine (take_no H3.out (k := 1) (s := tIn) N2.out).mono ?_))
    rintro e w4 ⟨rfl, M4⟩
    have H4 := Lib.hid M4
    have r4 := M4.cell
    clear M4 r3
    go_wp2_with (go_at_call 39; (with_reducible refine (take_no H4.out (k := 1) (s := tMin) N3.out).mono ?_))
    rintro e w5 ⟨rfl, M5⟩
    have H5 := Lib.hid M5
    have r5 := M5.cell
    clear M5 r4
    go_wp2_with (go_at_call 39; (with_reducible refine (take_yes H5.out (k := 1) (s := tMax) HB.out).mono ?_))
    rintro e w6 ⟨rfl, M6⟩
    have H6 := Lib.hid M6
    have r6 := M6.cell
    clear M6 r5
    go_wp2_with (go_at_call 90; (with_reducible refine (two_mid HPG.out H6.out 8 HOK.out.on HFG.out).mono ?_))
    rintro e w7 ⟨v7, l7, rfl, M7⟩
    have H7 := Lib.hid M7
    have r7 := M7.cell
    clear M7 r6
    go_wp2_with fail
    go_end0
    exact H7.out.ret (by first | exact HE.out | (rw [HE.out]; simp [opT]))
  have n4 : ¬ isB c 1 tMax = true := b4
  have N4 : Hid (isB c 1 tMax = false) := Lib.hid (by simpa using b4)
  clear b4
  by_cases b5 : isB c 3 tOpen = true
  · have HE : Hid (atom (S f) c = (want (S f (on c) 1).1 3 tClose, (S f (on c) 1).2)) := Lib.hid (by unfold atom; rw [if_neg h2, if_neg n0, if_neg n1, if_neg n2, if_neg n3, if_neg n4, if_pos b5])
    have HPG := Lib.hid (HP.out (isB_next b5).1)
    have HFG := Lib.hid (HFO.out b5 (by decide))
    have HB := Lib.hid b5
    clear h2 b5 n0 n1 n2 n3 n4
    go_enter Tryd.func68, Tryd.ntmps68
    go_wp2_with (go_at_call 15; (with_reducible refine (peek_mid H0.out).mono ?_))
    rintro e w1 ⟨rfl, M1⟩
    have hfld : ∀ w, (Instr.field 33 (.agg #[.int .i64 (next c).k, .string (next c).t, .int .i64 (next c).l, .int .i64 (next c).c]) 0).run Tryd.prog w = .ok (.int .i64 (next c).k) w := fun _ => by kernel_rfl
    have H1 := Lib.hid M1
    have r1 := M1.cell
    clear M1 r0
    go_wp2_with (go_at_call 39; (with_reducible refine (take_no H1.out (k := 1) (s := tTrue) N0.out).mono ?_))
    rintro e w2 ⟨rfl, M2⟩
    have H2 := Lib.hid M2
    have r2 := M2.cell
    clear M2 r1
    go_wp2_with (go_at_call 39; (with_reducible refine (take_no H2.out (k := 1) (s := tFalse) N1.out).mono ?_))
    rintro e w3 ⟨rfl, M3⟩
    have H3 := Lib.hid M3
    have r3 := M3.cell
    clear M3 r2
    go_wp2_with (go_at_call 39; (with_reducible refine (take_no H3.out (k := 1) (s := tIn) N2.out).mono ?_))
    rintro e w4 ⟨rfl, M4⟩
    have H4 := Lib.hid M4
    have r4 := M4.cell
    clear M4 r3
    go_wp2_with (go_at_call 39; (with_reducible refine (take_no H4.out (k := 1) (s := tMin) N3.out).mono ?_))
    rintro e w5 ⟨rfl, M5⟩
    have H5 := Lib.hid M5
    have r5 := M5.cell
    clear M5 r4
    go_wp2_with (go_at_call 39; (with_reducible refine (take_no H5.out (k := 1) (s := tMax) N4.out).mono ?_))
    rintro e w6 ⟨rfl, M6⟩
    have H6 := Lib.hid M6
    have r6 := M6.cell
    clear M6 r5
    go_wp2_with (go_at_call 39; (with_reducible refine (take_yes H6.out (k := 3) (s := tOpen) HB.out).mono ?_))
    rintro e w7 ⟨rfl, M7⟩
    have H7 := Lib.hid M7
    have r7 := M7.cell
    clear M7 r6
    go_wp2_with (go_at_call 24; (with_reducible refine (part_mid HPG.out H7.out 1 HOK.out.on HFG.out).mono ?_))
    rintro e w8 ⟨v8, l8, rfl, M8⟩
    have H8 := Lib.hid M8
    have r8 := M8.cell
    clear M8 r7
    go_wp2_with (go_at_call 21; (with_reducible refine (want_mid H8.out 3 tClose).mono ?_))
    rintro e w9 ⟨rfl, M9⟩
    have H9 := Lib.hid M9
    have r9 := M9.cell
    clear M9 r8
    go_wp2_with fail
    go_end0
    exact H9.out.ret (by first | exact HE.out | (rw [HE.out]; simp [opT]))
  have n5 : ¬ isB c 3 tOpen = true := b5
  have N5 : Hid (isB c 3 tOpen = false) := Lib.hid (by simpa using b5)
  clear b5
  · have HE : Hid (atom (S f) c = (nameC c, [⟨2, 0, nameS c⟩])) := Lib.hid (by unfold atom; rw [if_neg h2, if_neg n0, if_neg n1, if_neg n2, if_neg n3, if_neg n4, if_neg n5])
    clear h2 n0 n1 n2 n3 n4 n5
    go_enter Tryd.func68, Tryd.ntmps68
    go_wp2_with (go_at_call 15; (with_reducible refine (peek_mid H0.out).mono ?_))
    rintro e w1 ⟨rfl, M1⟩
    have hfld : ∀ w, (Instr.field 33 (.agg #[.int .i64 (next c).k, .string (next c).t, .int .i64 (next c).l, .int .i64 (next c).c]) 0).run Tryd.prog w = .ok (.int .i64 (next c).k) w := fun _ => by kernel_rfl
    have H1 := Lib.hid M1
    have r1 := M1.cell
    clear M1 r0
    go_wp2_with (go_at_call 39; (with_reducible refine (take_no H1.out (k := 1) (s := tTrue) N0.out).mono ?_))
    rintro e w2 ⟨rfl, M2⟩
    have H2 := Lib.hid M2
    have r2 := M2.cell
    clear M2 r1
    go_wp2_with (go_at_call 39; (with_reducible refine (take_no H2.out (k := 1) (s := tFalse) N1.out).mono ?_))
    rintro e w3 ⟨rfl, M3⟩
    have H3 := Lib.hid M3
    have r3 := M3.cell
    clear M3 r2
    go_wp2_with (go_at_call 39; (with_reducible refine (take_no H3.out (k := 1) (s := tIn) N2.out).mono ?_))
    rintro e w4 ⟨rfl, M4⟩
    have H4 := Lib.hid M4
    have r4 := M4.cell
    clear M4 r3
    go_wp2_with (go_at_call 39; (with_reducible refine (take_no H4.out (k := 1) (s := tMin) N3.out).mono ?_))
    rintro e w5 ⟨rfl, M5⟩
    have H5 := Lib.hid M5
    have r5 := M5.cell
    clear M5 r4
    go_wp2_with (go_at_call 39; (with_reducible refine (take_no H5.out (k := 1) (s := tMax) N4.out).mono ?_))
    rintro e w6 ⟨rfl, M6⟩
    have H6 := Lib.hid M6
    have r6 := M6.cell
    clear M6 r5
    go_wp2_with (go_at_call 39; (with_reducible refine (take_no H6.out (k := 3) (s := tOpen) N5.out).mono ?_))
    rintro e w7 ⟨rfl, M7⟩
    have H7 := Lib.hid M7
    have r7 := M7.cell
    clear M7 r6
    go_wp2_with (go_at_call 89; (with_reducible refine (name_mid H7.out HOK.out).mono ?_))
    rintro e w8 ⟨rfl, M8⟩
    have H8 := Lib.hid M8
    have r8 := M8.cell
    clear M8 r7
    go_wp2_with (go_at_call 67; (with_reducible refine (add_mid H8.out 2 0 (nameS c) (nameS_small _ HOK.out)).mono ?_))
    rintro e w9 ⟨v9, l9, rfl, M9⟩
    have H9 := Lib.hid M9
    have r9 := M9.cell
    clear M9 r8
    go_wp2_with fail
    go_end0
    exact H9.out.ret HE.out
end Go.Proofs.YtffdfajlfgeicaaDoor
