/- ExprLast, ActReadSpec, TransSpec, ExprPart, TermLits, TermCome, joined. -/
import Derived.Test.YtobpcpfomdblgaaGreatDoorMTransPuts05
import Derived.Test.YtobpcpfomdblgaaGreatDoorMTransPuts00
import Derived.Deep.LoopGhost
import Derived.Test.YtobpcpfomdblgaaGreatDoorMTransPuts04
namespace Go.Proofs.YtobpcpfomdblgaaGreatDoor
open Go.RowKit CurSpec TermSpec ExprSpec NamesSpec
set_option maxRecDepth 100000

def TwoOk (f : Nat) : Prop := ∀ (R B : Nat) (v : Value) (c : Cur) (l : List Tm) (o : Int) (w : World), SignsIn w → RdAt w R B v c l → Ok c → Fit f c →
  Calls Tryz.prog 110 #[.pointer (some ⟨R, 0, none⟩), .int .i64 o] w (RetPart w R B v l (two (S f) c o))
theorem ok_S (f : Nat) {c : Cur} (k : Int) (h : Ok c) : Ok (S f c k).1 := (inv_ok.all f).1 c k h
theorem fit_want {f : Nat} {c : Cur} (h : Fit f c) (k : Int) (s : ByteArray) : Fit f (want c k s) := fun hb => by
  have := h (isB_next (want_good hb).1).1
  have := want_len c k s
  omega
theorem fit_S {f g : Nat} {c : Cur} (h : Fit f c) (k : Int) : Fit f (S g c k).1 := fun hb => by
  have h1 := S_less g c k
  have := h (h1.2 hb)
  omega
set_option maxHeartbeats 4000000 in
theorem two_step (f : Nat) (hP : PartOk f) : TwoOk f := by
  intro R B v c l o w hs h ok hf
  have HP := Lib.hid hP
  have H0 := Lib.hid (Mid.start hs h)
  have r0 := H0.out.cell
  have HOK := Lib.hid ok
  have HF := Lib.hid hf
  clear hs h ok hf hP
  go_enter Tryz.func110, Tryz.ntmps110
  go_wp2_with (go_at_call 101; (with_reducible refine (add_mid H0.out o 0 ⟨#[]⟩ (by decide)).mono ?_))
  rintro e w1 ⟨v1, l1, rfl, M1⟩
  have H1 := Lib.hid M1
  have r1 := M1.cell
  clear M1 r0
  go_wp2_with (go_at_call 36; (with_reducible refine (want_mid H1.out 3 tOpen).mono ?_))
  rintro e w2 ⟨rfl, M2⟩
  have H2 := Lib.hid M2
  have r2 := M2.cell
  clear M2 r1
  go_wp2_with (go_at_call 62; (with_reducible refine (part_mid HP.out H2.out 1 (HOK.out.want _ _) (fit_want HF.out _ _)).mono ?_))
  rintro e w3 ⟨v3, l3, rfl, M3⟩
  have H3 := Lib.hid M3
  have r3 := M3.cell
  clear M3 r2
  go_wp2_with (go_at_call 36; (with_reducible refine (want_mid H3.out 3 tComma).mono ?_))
  rintro e w4 ⟨rfl, M4⟩
  have H4 := Lib.hid M4
  have r4 := M4.cell
  clear M4 r3
  go_wp2_with (go_at_call 62; (with_reducible refine (part_mid HP.out H4.out 1 ((ok_S f _ (HOK.out.want _ _)).want _ _) (fit_want (fit_S (fit_want HF.out _ _) _) _ _)).mono ?_))
  rintro e w5 ⟨v5, l5, rfl, M5⟩
  have H5 := Lib.hid M5
  have r5 := M5.cell
  clear M5 r4
  go_wp2_with (go_at_call 36; (with_reducible refine (want_mid H5.out 3 tClose).mono ?_))
  rintro e w6 ⟨rfl, M6⟩
  have H6 := Lib.hid M6
  have r6 := M6.cell
  clear M6 r5
  go_wp2_with fail
  go_end0
  exact H6.out.ret (by unfold two opT; simp)

def LastOk (f : Nat) (c : Cur) : Prop := ∀ (R B : Nat) (v : Value) (l : List Tm) (w : World), SignsIn w → RdAt w R B v c l →
  Calls Tryz.prog 102 #[.pointer (some ⟨R, 0, none⟩)] w (RetPart w R B v l (atom (S f) c))
theorem two_mid {f : Nat} (hP : PartOk f) {W : World} {R B : Nat} {v : Value} {pre : List Tm} {c : Cur} {x : List Tm} {v1 : Value} {l1 : List Tm} {w : World} (h : Mid W R B v pre c x v1 l1 w) (o : Int) (ok : Ok c) (hf : Fit f c) :
    Calls Tryz.prog 110 #[.pointer (some ⟨R, 0, none⟩), .int .i64 o] w fun e w' => ∃ v2 l2, e = .returned (.tuple #[]) ∧ Mid W R B v pre (two (S f) c o).1 (x ++ (two (S f) c o).2) v2 l2 w' := by
  refine (two_step f hP R B v1 c l1 o w h.sig h.rd ok hf).mono ?_
  rintro e w' ⟨v2, l2, rfl, hr, hc, hh⟩
  exact ⟨v2, l2, rfl, h.part (two_len (S_less f) c o).2 hr hc hh⟩
set_option maxHeartbeats 4000000 in
theorem last_step (f : Nat) (c : Cur) (hP : c.bad = 0 → PartOk f) (ok : Ok c) (hf : Fit (f + 1) c) : LastOk f c := by
  intro R B v l w hs h
  have HP := Lib.hid hP
  have H0 := Lib.hid (Mid.start hs h)
  have r0 := H0.out.cell
  have HOK := Lib.hid ok
  have HF := Lib.hid hf
  have HFO : Hid (∀ {k : Int} {s : ByteArray}, isB c k s = true → k ≠ 0 → Fit f (on c)) := Lib.hid (fun hb hk _ => by
    have := isB_real hb hk
    have := hf this.1
    omega)
  clear hs h ok hf hP
  by_cases h2 : (next c).k = 2
  · have e2 : ((next c).k == 2) = true := by simpa using h2
    have HE : Hid (atom (S f) c = (numC c 1000000, [⟨1, numN c 1000000, ⟨#[]⟩⟩])) := Lib.hid (if_pos h2)
    clear h2
    go_enter Tryz.func102, Tryz.ntmps102
    go_wp2_with (go_at_call 16; (with_reducible refine (peek_mid H0.out).mono ?_))
    rintro e w1 ⟨rfl, M1⟩
    have hfld : ∀ w, (Instr.field 43 (.agg #[.int .i64 (next c).k, .string (next c).t, .int .i64 (next c).l, .int .i64 (next c).c]) 0).run Tryz.prog w = .ok (.int .i64 (next c).k) w := fun _ => by kernel_rfl
    have H1 := Lib.hid M1
    have r1 := M1.cell
    clear M1 r0
    go_wp2_with (go_at_call 109; (with_reducible refine (number_mid H1.out 1000000 HOK.out).mono ?_))
    rintro e w2 ⟨rfl, M2⟩
    have H2 := Lib.hid M2
    have r2 := M2.cell
    clear M2 r1
    go_wp2_with (go_at_call 101; (with_reducible refine (add_mid H2.out 1 (numN c 1000000) ⟨#[]⟩ (by decide)).mono ?_))
    rintro e w3 ⟨v3, l3, rfl, M3⟩
    have H3 := Lib.hid M3
    have r3 := M3.cell
    clear M3 r2
    go_wp2_with fail
    go_end0
    exact H3.out.ret HE.out
  have e2 : ((next c).k == 2) = false := by simpa using h2
  by_cases b0 : isB c 1 tTrue = true
  · have HE : Hid (atom (S f) c = (on c, [opT 9])) := Lib.hid (by unfold atom; rw [if_neg h2, if_pos b0])
    have HPG := Lib.hid (HP.out (isB_next b0).1)
    have HFG := Lib.hid (HFO.out b0 (by decide))
    have HB := Lib.hid b0
    clear h2 b0
    go_enter Tryz.func102, Tryz.ntmps102
    go_wp2_with (go_at_call 16; (with_reducible refine (peek_mid H0.out).mono ?_))
    rintro e w1 ⟨rfl, M1⟩
    have hfld : ∀ w, (Instr.field 43 (.agg #[.int .i64 (next c).k, .string (next c).t, .int .i64 (next c).l, .int .i64 (next c).c]) 0).run Tryz.prog w = .ok (.int .i64 (next c).k) w := fun _ => by kernel_rfl
    have H1 := Lib.hid M1
    have r1 := M1.cell
    clear M1 r0
    go_wp2_with (go_at_call 34; (with_reducible refine (take_yes H1.out (k := 1) (s := tTrue) HB.out).mono ?_))
    rintro e w2 ⟨rfl, M2⟩
    have H2 := Lib.hid M2
    have r2 := M2.cell
    clear M2 r1
    go_wp2_with (go_at_call 101; (with_reducible refine (add_mid H2.out 9 0 ⟨#[]⟩ (by decide)).mono ?_))
    rintro e w3 ⟨v3, l3, rfl, M3⟩
    have H3 := Lib.hid M3
    have r3 := M3.cell
    clear M3 r2
    go_wp2_with fail
    go_end0
    exact H3.out.ret (by first | exact HE.out | (rw [HE.out]; simp [opT]))
  have n0 : ¬ isB c 1 tTrue = true := b0
  have N0 : Hid (isB c 1 tTrue = false) := Lib.hid (by simpa using b0)
  clear b0
  by_cases b1 : isB c 1 tFalse = true
  · have HE : Hid (atom (S f) c = (on c, [opT 10])) := Lib.hid (by unfold atom; rw [if_neg h2, if_neg n0, if_pos b1])
    have HPG := Lib.hid (HP.out (isB_next b1).1)
    have HFG := Lib.hid (HFO.out b1 (by decide))
    have HB := Lib.hid b1
    clear h2 b1 n0
    go_enter Tryz.func102, Tryz.ntmps102
    go_wp2_with (go_at_call 16; (with_reducible refine (peek_mid H0.out).mono ?_))
    rintro e w1 ⟨rfl, M1⟩
    have hfld : ∀ w, (Instr.field 43 (.agg #[.int .i64 (next c).k, .string (next c).t, .int .i64 (next c).l, .int .i64 (next c).c]) 0).run Tryz.prog w = .ok (.int .i64 (next c).k) w := fun _ => by kernel_rfl
    have H1 := Lib.hid M1
    have r1 := M1.cell
    clear M1 r0
    go_wp2_with (go_at_call 34; (with_reducible refine (take_no H1.out (k := 1) (s := tTrue) N0.out).mono ?_))
    rintro e w2 ⟨rfl, M2⟩
    have H2 := Lib.hid M2
    have r2 := M2.cell
    clear M2 r1
    go_wp2_with (go_at_call 34; (with_reducible refine (take_yes H2.out (k := 1) (s := tFalse) HB.out).mono ?_))
    rintro e w3 ⟨rfl, M3⟩
    have H3 := Lib.hid M3
    have r3 := M3.cell
    clear M3 r2
    go_wp2_with (go_at_call 101; (with_reducible refine (add_mid H3.out 10 0 ⟨#[]⟩ (by decide)).mono ?_))
    rintro e w4 ⟨v4, l4, rfl, M4⟩
    have H4 := Lib.hid M4
    have r4 := M4.cell
    clear M4 r3
    go_wp2_with fail
    go_end0
    exact H4.out.ret (by first | exact HE.out | (rw [HE.out]; simp [opT]))
  have n1 : ¬ isB c 1 tFalse = true := b1
  have N1 : Hid (isB c 1 tFalse = false) := Lib.hid (by simpa using b1)
  clear b1
  by_cases b2 : isB c 1 tIn = true
  · have HE : Hid (atom (S f) c = (want (nameC (want (on c) 3 tOpen)) 3 tClose, [⟨11, 0, nameS (want (on c) 3 tOpen)⟩])) := Lib.hid (by unfold atom; rw [if_neg h2, if_neg n0, if_neg n1, if_pos b2])
    have HPG := Lib.hid (HP.out (isB_next b2).1)
    have HFG := Lib.hid (HFO.out b2 (by decide))
    have HB := Lib.hid b2
    clear h2 b2 n0 n1
    go_enter Tryz.func102, Tryz.ntmps102
    go_wp2_with (go_at_call 16; (with_reducible refine (peek_mid H0.out).mono ?_))
    rintro e w1 ⟨rfl, M1⟩
    have hfld : ∀ w, (Instr.field 43 (.agg #[.int .i64 (next c).k, .string (next c).t, .int .i64 (next c).l, .int .i64 (next c).c]) 0).run Tryz.prog w = .ok (.int .i64 (next c).k) w := fun _ => by kernel_rfl
    have H1 := Lib.hid M1
    have r1 := M1.cell
    clear M1 r0
    go_wp2_with (go_at_call 34; (with_reducible refine (take_no H1.out (k := 1) (s := tTrue) N0.out).mono ?_))
    rintro e w2 ⟨rfl, M2⟩
    have H2 := Lib.hid M2
    have r2 := M2.cell
    clear M2 r1
    go_wp2_with (go_at_call 34; (with_reducible refine (take_no H2.out (k := 1) (s := tFalse) N1.out).mono ?_))
    rintro e w3 ⟨rfl, M3⟩
    have H3 := Lib.hid M3
    have r3 := M3.cell
    clear M3 r2
    go_wp2_with (go_at_call 34; (with_reducible refine (take_yes H3.out (k := 1) (s := tIn) HB.out).mono ?_))
    rintro e w4 ⟨rfl, M4⟩
    have H4 := Lib.hid M4
    have r4 := M4.cell
    clear M4 r3
    go_wp2_with (go_at_call 36; (with_reducible refine (want_mid H4.out 3 tOpen).mono ?_))
    rintro e w5 ⟨rfl, M5⟩
    have H5 := Lib.hid M5
    have r5 := M5.cell
    clear M5 r4
    go_wp2_with (go_at_call 38; (with_reducible refine (name_mid H5.out (HOK.out.on.want _ _)).mono ?_))
    rintro e w6 ⟨rfl, M6⟩
    have H6 := Lib.hid M6
    have r6 := M6.cell
    clear M6 r5
    go_wp2_with (go_at_call 101; (with_reducible refine (add_mid H6.out 11 0 (nameS (want (on c) 3 tOpen)) (nameS_small _ (HOK.out.on.want _ _))).mono ?_))
    rintro e w7 ⟨v7, l7, rfl, M7⟩
    have H7 := Lib.hid M7
    have r7 := M7.cell
    clear M7 r6
    go_wp2_with (go_at_call 36; (with_reducible refine (want_mid H7.out 3 tClose).mono ?_))
    rintro e w8 ⟨rfl, M8⟩
    have H8 := Lib.hid M8
    have r8 := M8.cell
    clear M8 r7
    go_wp2_with fail
    go_end0
    exact H8.out.ret (by first | exact HE.out | (rw [HE.out]; simp [opT]))
  have n2 : ¬ isB c 1 tIn = true := b2
  have N2 : Hid (isB c 1 tIn = false) := Lib.hid (by simpa using b2)
  clear b2
  by_cases b3 : isB c 1 tMin = true
  · have HE : Hid (atom (S f) c = two (S f) (on c) 7) := Lib.hid (by unfold atom; rw [if_neg h2, if_neg n0, if_neg n1, if_neg n2, if_pos b3])
    have HPG := Lib.hid (HP.out (isB_next b3).1)
    have HFG := Lib.hid (HFO.out b3 (by decide))
    have HB := Lib.hid b3
    clear h2 b3 n0 n1 n2
    go_enter Tryz.func102, Tryz.ntmps102
    go_wp2_with (go_at_call 16; (with_reducible refine (peek_mid H0.out).mono ?_))
    rintro e w1 ⟨rfl, M1⟩
    have hfld : ∀ w, (Instr.field 43 (.agg #[.int .i64 (next c).k, .string (next c).t, .int .i64 (next c).l, .int .i64 (next c).c]) 0).run Tryz.prog w = .ok (.int .i64 (next c).k) w := fun _ => by kernel_rfl
    have H1 := Lib.hid M1
    have r1 := M1.cell
    clear M1 r0
    go_wp2_with (go_at_call 34; (with_reducible refine (take_no H1.out (k := 1) (s := tTrue) N0.out).mono ?_))
    rintro e w2 ⟨rfl, M2⟩
    have H2 := Lib.hid M2
    have r2 := M2.cell
    clear M2 r1
    go_wp2_with (go_at_call 34; (with_reducible refine (take_no H2.out (k := 1) (s := tFalse) N1.out).mono ?_))
    rintro e w3 ⟨rfl, M3⟩
    have H3 := Lib.hid M3
    have r3 := M3.cell
    clear M3 r2
    go_wp2_with (go_at_call 34; (with_reducible refine (take_no H3.out (k := 1) (s := tIn) N2.out).mono ?_))
    rintro e w4 ⟨rfl, M4⟩
    have H4 := Lib.hid M4
    have r4 := M4.cell
    clear M4 r3
    go_wp2_with (go_at_call 34; (with_reducible refine (take_yes H4.out (k := 1) (s := tMin) HB.out).mono ?_))
    rintro e w5 ⟨rfl, M5⟩
    have H5 := Lib.hid M5
    have r5 := M5.cell
    clear M5 r4
    go_wp2_with (go_at_call 110; (with_reducible refine (two_mid HPG.out H5.out 7 HOK.out.on HFG.out).mono ?_))
    rintro e w6 ⟨v6, l6, rfl, M6⟩
    have H6 := Lib.hid M6
    have r6 := M6.cell
    clear M6 r5
    go_wp2_with fail
    go_end0
    exact H6.out.ret (by first | exact HE.out | (rw [HE.out]; simp [opT]))
  have n3 : ¬ isB c 1 tMin = true := b3
  have N3 : Hid (isB c 1 tMin = false) := Lib.hid (by simpa using b3)
  clear b3
  by_cases b4 : isB c 1 tMax = true
  · have HE : Hid (atom (S f) c = two (S f) (on c) 8) := Lib.hid (by unfold atom; rw [if_neg h2, if_neg n0, if_neg n1, if_neg n2, if_neg n3, if_pos b4])
    have HPG := Lib.hid (HP.out (isB_next b4).1)
    have HFG := Lib.hid (HFO.out b4 (by decide))
    have HB := Lib.hid b4
    clear h2 b4 n0 n1 n2 n3
    go_enter Tryz.func102, Tryz.ntmps102
    go_wp2_with (go_at_call 16; (with_reducible refine (peek_mid H0.out).mono ?_))
    rintro e w1 ⟨rfl, M1⟩
    have hfld : ∀ w, (Instr.field 43 (.agg #[.int .i64 (next c).k, .string (next c).t, .int .i64 (next c).l, .int .i64 (next c).c]) 0).run Tryz.prog w = .ok (.int .i64 (next c).k) w := fun _ => by kernel_rfl
    have H1 := Lib.hid M1
    have r1 := M1.cell
    clear M1 r0
    go_wp2_with (go_at_call 34; (with_reducible refine (take_no H1.out (k := 1) (s := tTrue) N0.out).mono ?_))
    rintro e w2 ⟨rfl, M2⟩
    have H2 := Lib.hid M2
    have r2 := M2.cell
    clear M2 r1
    go_wp2_with (go_at_call 34; (with_reducible refine (take_no H2.out (k := 1) (s := tFalse) N1.out).mono ?_))
    rintro e w3 ⟨rfl, M3⟩
    have H3 := Lib.hid M3
    have r3 := M3.cell
    clear M3 r2
    go_wp2_with (go_at_call 34; (with_reducible refine (take_no H3.out (k := 1) (s := tIn) N2.out).mono ?_))
    rintro e w4 ⟨rfl, M4⟩
    have H4 := Lib.hid M4
    have r4 := M4.cell
    clear M4 r3
    go_wp2_with (go_at_call 34; (with_reducible refine (take_no H4.out (k := 1) (s := tMin) N3.out).mono ?_))
    rintro e w5 ⟨rfl, M5⟩
    have H5 := Lib.hid M5
    have r5 := M5.cell
    clear M5 r4
    go_wp2_with (go_at_call 34; (with_reducible refine (take_yes H5.out (k := 1) (s := tMax) HB.out).mono ?_))
    rintro e w6 ⟨rfl, M6⟩
    have H6 := Lib.hid M6
    have r6 := M6.cell
    clear M6 r5
    go_wp2_with (go_at_call 110; (with_reducible refine (two_mid HPG.out H6.out 8 HOK.out.on HFG.out).mono ?_))
    rintro e w7 ⟨v7, l7, rfl, M7⟩
    have H7 := Lib.hid M7
    have r7 := M7.cell
    clear M7 r6
    go_wp2_with fail
    go_end0
    exact H7.out.ret (by first | exact HE.out | (rw [HE.out]; simp [opT]))
  have n4 : ¬ isB c 1 tMax = true := b4
  have N4 : Hid (isB c 1 tMax = false) := Lib.hid (by simpa using b4)
  clear b4
  by_cases b5 : isB c 3 tOpen = true
  · have HE : Hid (atom (S f) c = (want (S f (on c) 1).1 3 tClose, (S f (on c) 1).2)) := Lib.hid (by unfold atom; rw [if_neg h2, if_neg n0, if_neg n1, if_neg n2, if_neg n3, if_neg n4, if_pos b5])
    have HPG := Lib.hid (HP.out (isB_next b5).1)
    have HFG := Lib.hid (HFO.out b5 (by decide))
    have HB := Lib.hid b5
    clear h2 b5 n0 n1 n2 n3 n4
    go_enter Tryz.func102, Tryz.ntmps102
    go_wp2_with (go_at_call 16; (with_reducible refine (peek_mid H0.out).mono ?_))
    rintro e w1 ⟨rfl, M1⟩
    have hfld : ∀ w, (Instr.field 43 (.agg #[.int .i64 (next c).k, .string (next c).t, .int .i64 (next c).l, .int .i64 (next c).c]) 0).run Tryz.prog w = .ok (.int .i64 (next c).k) w := fun _ => by kernel_rfl
    have H1 := Lib.hid M1
    have r1 := M1.cell
    clear M1 r0
    go_wp2_with (go_at_call 34; (with_reducible refine (take_no H1.out (k := 1) (s := tTrue) N0.out).mono ?_))
    rintro e w2 ⟨rfl, M2⟩
    have H2 := Lib.hid M2
    have r2 := M2.cell
    clear M2 r1
    go_wp2_with (go_at_call 34; (with_reducible refine (take_no H2.out (k := 1) (s := tFalse) N1.out).mono ?_))
    rintro e w3 ⟨rfl, M3⟩
    have H3 := Lib.hid M3
    have r3 := M3.cell
    clear M3 r2
    go_wp2_with (go_at_call 34; (with_reducible refine (take_no H3.out (k := 1) (s := tIn) N2.out).mono ?_))
    rintro e w4 ⟨rfl, M4⟩
    have H4 := Lib.hid M4
    have r4 := M4.cell
    clear M4 r3
    go_wp2_with (go_at_call 34; (with_reducible refine (take_no H4.out (k := 1) (s := tMin) N3.out).mono ?_))
    rintro e w5 ⟨rfl, M5⟩
    have H5 := Lib.hid M5
    have r5 := M5.cell
    clear M5 r4
    go_wp2_with (go_at_call 34; (with_reducible refine (take_no H5.out (k := 1) (s := tMax) N4.out).mono ?_))
    rintro e w6 ⟨rfl, M6⟩
    have H6 := Lib.hid M6
    have r6 := M6.cell
    clear M6 r5
    go_wp2_with (go_at_call 34; (with_reducible refine (take_yes H6.out (k := 3) (s := tOpen) HB.out).mono ?_))
    rintro e w7 ⟨rfl, M7⟩
    have H7 := Lib.hid M7
    have r7 := M7.cell
    clear M7 r6
    go_wp2_with (go_at_call 62; (with_reducible refine (part_mid HPG.out H7.out 1 HOK.out.on HFG.out).mono ?_))
    rintro e w8 ⟨v8, l8, rfl, M8⟩
    have H8 := Lib.hid M8
    have r8 := M8.cell
    clear M8 r7
    go_wp2_with (go_at_call 36; (with_reducible refine (want_mid H8.out 3 tClose).mono ?_))
    rintro e w9 ⟨rfl, M9⟩
    have H9 := Lib.hid M9
    have r9 := M9.cell
    clear M9 r8
    go_wp2_with fail
    go_end0
    exact H9.out.ret (by first | exact HE.out | (rw [HE.out]; simp [opT]))
  have n5 : ¬ isB c 3 tOpen = true := b5
  have N5 : Hid (isB c 3 tOpen = false) := Lib.hid (by simpa using b5)
  clear b5
  · have HE : Hid (atom (S f) c = (nameC c, [⟨2, 0, nameS c⟩])) := Lib.hid (by unfold atom; rw [if_neg h2, if_neg n0, if_neg n1, if_neg n2, if_neg n3, if_neg n4, if_neg n5])
    clear h2 n0 n1 n2 n3 n4 n5
    go_enter Tryz.func102, Tryz.ntmps102
    go_wp2_with (go_at_call 16; (with_reducible refine (peek_mid H0.out).mono ?_))
    rintro e w1 ⟨rfl, M1⟩
    have hfld : ∀ w, (Instr.field 43 (.agg #[.int .i64 (next c).k, .string (next c).t, .int .i64 (next c).l, .int .i64 (next c).c]) 0).run Tryz.prog w = .ok (.int .i64 (next c).k) w := fun _ => by kernel_rfl
    have H1 := Lib.hid M1
    have r1 := M1.cell
    clear M1 r0
    go_wp2_with (go_at_call 34; (with_reducible refine (take_no H1.out (k := 1) (s := tTrue) N0.out).mono ?_))
    rintro e w2 ⟨rfl, M2⟩
    have H2 := Lib.hid M2
    have r2 := M2.cell
    clear M2 r1
    go_wp2_with (go_at_call 34; (with_reducible refine (take_no H2.out (k := 1) (s := tFalse) N1.out).mono ?_))
    rintro e w3 ⟨rfl, M3⟩
    have H3 := Lib.hid M3
    have r3 := M3.cell
    clear M3 r2
    go_wp2_with (go_at_call 34; (with_reducible refine (take_no H3.out (k := 1) (s := tIn) N2.out).mono ?_))
    rintro e w4 ⟨rfl, M4⟩
    have H4 := Lib.hid M4
    have r4 := M4.cell
    clear M4 r3
    go_wp2_with (go_at_call 34; (with_reducible refine (take_no H4.out (k := 1) (s := tMin) N3.out).mono ?_))
    rintro e w5 ⟨rfl, M5⟩
    have H5 := Lib.hid M5
    have r5 := M5.cell
    clear M5 r4
    go_wp2_with (go_at_call 34; (with_reducible refine (take_no H5.out (k := 1) (s := tMax) N4.out).mono ?_))
    rintro e w6 ⟨rfl, M6⟩
    have H6 := Lib.hid M6
    have r6 := M6.cell
    clear M6 r5
    go_wp2_with (go_at_call 34; (with_reducible refine (take_no H6.out (k := 3) (s := tOpen) N5.out).mono ?_))
    rintro e w7 ⟨rfl, M7⟩
    have H7 := Lib.hid M7
    have r7 := M7.cell
    clear M7 r6
    go_wp2_with (go_at_call 38; (with_reducible refine (name_mid H7.out HOK.out).mono ?_))
    rintro e w8 ⟨rfl, M8⟩
    have H8 := Lib.hid M8
    have r8 := M8.cell
    clear M8 r7
    go_wp2_with (go_at_call 101; (with_reducible refine (add_mid H8.out 2 0 (nameS c) (nameS_small _ HOK.out)).mono ?_))
    rintro e w9 ⟨v9, l9, rfl, M9⟩
    have H9 := Lib.hid M9
    have r9 := M9.cell
    clear M9 r8
    go_wp2_with fail
    go_end0
    exact H9.out.ret HE.out
end Go.Proofs.YtobpcpfomdblgaaGreatDoor

namespace Go.Proofs.YtobpcpfomdblgaaGreatDoor
namespace ActSpec
open CurSpec TermSpec EvalSpec NamesSpec ExprSpec

abbrev wAny : ByteArray := ⟨#[97, 110, 121]⟩
abbrev wSet : ByteArray := ⟨#[58, 61]⟩
abbrev wCom : ByteArray := ⟨#[44]⟩
/-- The expression that is next. -/
def rdE (c : Cur) : Pa := readP (c.L.length + 1) c
theorem fit_self (c : Cur) : Fit (c.L.length + 1) c := fun _ => Nat.lt_succ_self _
/-- The act that is next. -/
def oneR (c : Cur) : Cur × Ac :=
  if isB c 1 wAny = true then (nameC (on c), ⟨nameS (on c), true, []⟩)
  else ((rdE (want (nameC c) 3 wSet)).1, ⟨nameS c, false, (rdE (want (nameC c) 3 wSet)).2⟩)
def fullR (c : Cur) (out : List Ac) : Cur := if out.length = 8 then fail c 8 else c
def stepR (c : Cur) (out : List Ac) : Cur × List Ac := ((oneR (fullR c out)).1, out ++ [(oneR (fullR c out)).2])
def goR : Nat → Cur → List Ac → Cur × List Ac
  | 0, c, out => (c, out)
  | f + 1, c, out => if isB (stepR c out).1 3 wCom = true then goR f (on (stepR c out).1) (stepR c out).2 else stepR c out
def allR (c : Cur) (out : List Ac) : Cur × List Ac := goR (c.L.length + 1) c out
def tailR (c : Cur) (out : List Ac) : Cur × List Ac := if isB c 3 wCom = true then allR (on c) out else (c, out)
/-- The acts that are next; nothing, with a fault. -/
def readA (c : Cur) : Cur × List Ac := if (allR c []).1.bad = 0 then allR c [] else ((allR c []).1, [])

theorem fail_L (c : Cur) (e : Int) : (fail c e).L = c.L ∧ (c.bad ≠ 0 → (fail c e).bad ≠ 0) ∧ (e ≠ 0 → (fail c e).bad ≠ 0) := by
  unfold fail
  split
  · rename_i h
    exact ⟨rfl, fun h' => absurd h.1 h', fun he => he⟩
  · rename_i h
    exact ⟨rfl, id, fun he hb => h ⟨hb, he⟩⟩
theorem on_le (c : Cur) : (on c).L.length ≤ c.L.length := by rw [on_len]; omega
theorem nameC_le (c : Cur) : (nameC c).L.length ≤ c.L.length ∧ (c.bad ≠ 0 → (nameC c).bad ≠ 0) := by
  unfold nameC
  split
  · exact ⟨on_le c, fun h => by rw [(on_bad c).1]; exact h⟩
  · rw [(fail_L c 2).1]; exact ⟨Nat.le_refl _, (fail_L c 2).2.1⟩
theorem want_le (c : Cur) (k : Int) (s : ByteArray) : (want c k s).L.length ≤ c.L.length ∧ (c.bad ≠ 0 → (want c k s).bad ≠ 0) := by
  unfold want
  split
  · exact ⟨on_le c, fun h => by rw [(on_bad c).1]; exact h⟩
  · rw [(fail_L c 2).1]; exact ⟨Nat.le_refl _, (fail_L c 2).2.1⟩
theorem rdE_le (c : Cur) : (rdE c).1.L.length ≤ c.L.length ∧ (c.bad ≠ 0 → (rdE c).1.bad ≠ 0) := by
  unfold rdE readP
  have h := S_less (c.L.length + 1) c 1
  dsimp only
  split
  · rw [(fail_L _ _).1]
    rename_i h0
    exact ⟨h.1, fun hc => absurd (h.2 h0) hc⟩
  · rename_i h0
    exact ⟨h.1, fun _ => h0⟩
theorem oneR_le (c : Cur) : (oneR c).1.L.length ≤ c.L.length ∧ (c.bad ≠ 0 → (oneR c).1.bad ≠ 0) := by
  unfold oneR
  split
  · have h1 := nameC_le (on c)
    exact ⟨Nat.le_trans h1.1 (on_le c), fun h => h1.2 (by rw [(on_bad c).1]; exact h)⟩
  · have h1 := rdE_le (want (nameC c) 3 wSet)
    have h2 := want_le (nameC c) 3 wSet
    have h3 := nameC_le c
    exact ⟨Nat.le_trans h1.1 (Nat.le_trans h2.1 h3.1), fun h => h1.2 (h2.2 (h3.2 h))⟩
theorem fullR_le (c : Cur) (out : List Ac) : (fullR c out).L.length ≤ c.L.length ∧ (c.bad ≠ 0 → (fullR c out).bad ≠ 0) ∧ (out.length = 8 → (fullR c out).bad ≠ 0) := by
  unfold fullR
  split
  · rw [(fail_L c 8).1]
    exact ⟨Nat.le_refl _, (fail_L c 8).2.1, fun _ => (fail_L c 8).2.2 (by decide)⟩
  · rename_i h
    exact ⟨Nat.le_refl _, id, fun h' => absurd h' h⟩
theorem stepR_le (c : Cur) (out : List Ac) : (stepR c out).1.L.length ≤ c.L.length ∧ (c.bad ≠ 0 → (stepR c out).1.bad ≠ 0) ∧ (out.length = 8 → (stepR c out).1.bad ≠ 0) ∧ (stepR c out).2.length = out.length + 1 := by
  have h1 := oneR_le (fullR c out)
  have h2 := fullR_le c out
  exact ⟨Nat.le_trans h1.1 h2.1, fun h => h1.2 (h2.2.1 h), fun h => h1.2 (h2.2.2 h), by simp [stepR]⟩
theorem goR_same : ∀ (f g : Nat) (c : Cur) (out : List Ac), c.L.length < f → c.L.length < g → goR f c out = goR g c out
  | 0, _, _, _, h, _ => absurd h (by omega)
  | _ + 1, 0, _, _, _, h => absurd h (by omega)
  | f + 1, g + 1, c, out, hf, hg => by
    unfold goR
    split
    · rename_i hb
      have h1 := isB_real hb (by decide)
      have h2 := (stepR_le c out).1
      exact goR_same f g _ _ (by omega) (by omega)
    · rfl
theorem allR_step (c : Cur) (out : List Ac) : allR c out = tailR (stepR c out).1 (stepR c out).2 := by
  unfold allR tailR
  rw [goR]
  split
  · rename_i hb
    have h1 := isB_real hb (by decide)
    have h2 := (stepR_le c out).1
    exact goR_same _ _ _ _ (by omega) (by omega)
  · rfl
theorem tailR_yes {c : Cur} {out : List Ac} (h : isB c 3 wCom = true) : tailR c out = tailR (stepR (on c) out).1 (stepR (on c) out).2 := by
  rw [← allR_step]
  unfold tailR
  rw [if_pos h]
theorem tailR_no {c : Cur} {out : List Ac} (h : ¬ isB c 3 wCom = true) : tailR c out = (c, out) := by unfold tailR; rw [if_neg h]
theorem readP_ok (f : Nat) {c : Cur} (h : Ok c) : Ok (readP f c).1 := by
  unfold readP
  have := ok_S f 1 h
  dsimp only
  split
  · exact this.fail _
  · exact this
theorem oneR_ok {c : Cur} (h : Ok c) : Ok (oneR c).1 := by
  unfold oneR
  split
  · exact h.on.nameC
  · exact readP_ok _ (h.nameC.want _ _)
theorem fullR_ok {c : Cur} (out : List Ac) (h : Ok c) : Ok (fullR c out) := by
  unfold fullR
  split
  · exact h.fail _
  · exact h
theorem stepR_ok {c : Cur} (out : List Ac) (h : Ok c) : Ok (stepR c out).1 := oneR_ok (fullR_ok out h)
/-- No more than nine are read; with the ninth there is a fault. -/
def Few9 (c : Cur) (out : List Ac) : Prop := out.length ≤ 9 ∧ (out.length = 9 → c.bad ≠ 0)
theorem few9_step {c : Cur} {out : List Ac} (h : Few9 c out) (hb : isB c 3 wCom = true) : Few9 (stepR (on c) out).1 (stepR (on c) out).2 := by
  have h0 := (isB_real hb (by decide)).1
  have h1 := stepR_le (on c) out
  have h8 : out.length ≤ 8 := by
    rcases Nat.lt_or_ge out.length 9 with h' | h'
    · omega
    · exact absurd h0 (h.2 (by have := h.1; omega))
  exact ⟨by rw [h1.2.2.2]; omega, fun h9 => h1.2.2.1 (by rw [h1.2.2.2] at h9; omega)⟩
end ActSpec
end Go.Proofs.YtobpcpfomdblgaaGreatDoor

namespace Go.Proofs.YtobpcpfomdblgaaGreatDoor
namespace TransSpec
open CurSpec TermSpec EvalSpec NamesSpec ExprSpec ActSpec

/-- A transition. -/
structure Tr where
  ev : ByteArray
  g : List Tm
  acts : List Ac
  tg : ByteArray
abbrev zeroT : Tr := ⟨⟨#[]⟩, [], [], ⟨#[]⟩⟩
/-- Nothing, or a name. -/
def okN (s : ByteArray) : Bool := decide (s.size = 0) || isName s.data.toList
def chkT (t : Tr) : Int := if okN t.ev = false ∨ okN t.tg = false then 1 else if t.g.length ≠ 0 ∧ chk t.g ≠ 0 then chk t.g else chkA t.acts

abbrev wOn : ByteArray := ⟨#[111, 110]⟩
abbrev wAuto : ByteArray := ⟨#[97, 117, 116, 111]⟩
abbrev wBra : ByteArray := ⟨#[91]⟩
abbrev wKet : ByteArray := ⟨#[93]⟩
abbrev wDo : ByteArray := ⟨#[47]⟩
abbrev wTo : ByteArray := ⟨#[45, 62]⟩
abbrev wEnd : ByteArray := ⟨#[59]⟩
/-- The parts that are next. -/
def hdT (c : Cur) : Cur × ByteArray := if isB c 1 wAuto = true then (on c, ⟨#[]⟩) else (nameC (want c 1 wOn), nameS (want c 1 wOn))
def guT (c : Cur) : Cur × List Tm := if isB c 3 wBra = true then (want (rdE (on c)).1 3 wKet, (rdE (on c)).2) else (c, [])
def acT (c : Cur) : Cur × List Ac := if isB c 3 wDo = true then readA (on c) else (c, [])
def tgT (c : Cur) : Cur × ByteArray := if isB c 3 wTo = true then (nameC (on c), nameS (on c)) else (c, ⟨#[]⟩)
def seqT (c : Cur) : Cur × Tr := (want (tgT (acT (guT (hdT c).1).1).1).1 3 wEnd, ⟨(hdT c).2, (guT (hdT c).1).2, (acT (guT (hdT c).1).1).2, (tgT (acT (guT (hdT c).1).1).1).2⟩)
/-- The transition that is next; nothing, with a fault. -/
def readT (c : Cur) : Cur × Tr := ((seqT c).1, if (seqT c).1.bad = 0 then (seqT c).2 else zeroT)

theorem rdE_ok {c : Cur} (h : Ok c) : Ok (rdE c).1 := readP_ok _ h
theorem goR_ok : ∀ (f : Nat) {c : Cur} (out : List Ac), Ok c → Ok (goR f c out).1
  | 0, _, _, h => h
  | f + 1, c, out, h => by
    unfold goR
    split
    · exact goR_ok f _ (stepR_ok out h).on
    · exact stepR_ok out h
theorem readA_ok {c : Cur} (h : Ok c) : Ok (readA c).1 := by
  unfold readA allR
  split <;> exact goR_ok _ _ h
theorem hdT_ok {c : Cur} (h : Ok c) : Ok (hdT c).1 := by
  unfold hdT
  split
  · exact h.on
  · exact (h.want _ _).nameC
theorem guT_ok {c : Cur} (h : Ok c) : Ok (guT c).1 := by
  unfold guT
  split
  · exact (rdE_ok h.on).want _ _
  · exact h
theorem acT_ok {c : Cur} (h : Ok c) : Ok (acT c).1 := by
  unfold acT
  split
  · exact readA_ok h.on
  · exact h
/-- A transition whose expressions are trees. -/
structure Tt where
  ev : ByteArray
  g : Option Ex
  ts : List Ta
  tg : ByteArray
def gFlat : Option Ex → List Tm
  | none => []
  | some e => flat e
def Tt.tr (x : Tt) : Tr := ⟨x.ev, gFlat x.g, x.ts.map Ta.ac, x.tg⟩
structure Tt.Ok (x : Tt) : Prop where
  ev : okN x.ev = true
  tg : okN x.tg = true
  g : ∀ e, x.g = some e → ExprSpec.Good e ∧ chk (flat e) = 0
  ts : ∀ t ∈ x.ts, t.Ok
  few : x.ts.length ≤ 8
theorem chkA_ok {l : List Ac} (h : chkA l = 0) : l.length ≤ 8 ∧ firstA l = 0 := by
  unfold chkA at h
  split at h
  · cases h
  · exact ⟨by omega, h⟩
theorem flat_pos (e : Ex) : (flat e).length ≠ 0 := by
  obtain ⟨t, r, h, -⟩ := flat_first e
  rw [h, List.length_cons]
  omega
theorem ex_chk {x : List Tm} (h : chk x = 0) : ∃ e, flat e = x ∧ ExprSpec.Good e := by
  obtain ⟨hw, hm, -⟩ := chk_ok h
  exact ex_of ⟨(wholeB_iff.1 hw).2, hm⟩
theorem tt_of {t : Tr} (h : chkT t = 0) : ∃ x : Tt, x.tr = t ∧ x.Ok := by
  obtain ⟨ev, g, acts, tg⟩ := t
  unfold chkT at h
  simp only at h
  split at h
  · cases h
  · rename_i hn
    split at h
    · rename_i hg
      exact absurd h hg.2
    · rename_i hg
      obtain ⟨h8, hf⟩ := chkA_ok h
      obtain ⟨ts, hts, hok⟩ := tas_of hf
      have h8' : ts.length ≤ 8 := by rw [← hts, List.length_map] at h8; exact h8
      have he : okN ev = true := by
        rcases h1 : okN ev with _ | _
        · exact absurd (.inl h1) hn
        · rfl
      have ht : okN tg = true := by
        rcases h1 : okN tg with _ | _
        · exact absurd (.inr h1) hn
        · rfl
      by_cases h0 : g.length = 0
      · obtain rfl : g = [] := List.eq_nil_of_length_eq_zero h0
        exact ⟨⟨ev, none, ts, tg⟩, by simp [Tt.tr, gFlat, hts], he, ht, fun e h => (by cases h), hok, h8'⟩
      · have hk : chk g = 0 := by
          rcases Classical.em (chk g = 0) with h1 | h1
          · exact h1
          · exact absurd ⟨h0, h1⟩ hg
        obtain ⟨e, hfe, hge⟩ := ex_chk hk
        refine ⟨⟨ev, some e, ts, tg⟩, by simp [Tt.tr, gFlat, hfe, hts], he, ht, fun e' h' => ?_, hok, h8'⟩
        cases h'
        exact ⟨hge, by rw [hfe]; exact hk⟩
theorem tt_chk {x : Tt} (h : x.Ok) : chkT x.tr = 0 := by
  obtain ⟨ev, g, ts, tg⟩ := x
  obtain ⟨h1, h2, h3, h4, h5⟩ := h
  simp only at h1 h2 h3 h4 h5
  unfold chkT Tt.tr
  simp only
  rw [if_neg (by rw [h1, h2]; simp), if_neg ?_]
  · unfold chkA
    rw [if_neg (by rw [List.length_map]; omega)]
    exact tas_first h4
  · rintro ⟨h0, hg⟩
    cases g with
    | none => exact h0 rfl
    | some e => exact hg (h3 e rfl).2

/-- The parts' texts. -/
def headB (x : Tt) : ByteArray := if x.ev.size = 0 then wAuto else ⟨#[111, 110, 32]⟩ ++ x.ev
def guardB : Option Ex → ByteArray
  | none => ⟨#[]⟩
  | some e => ⟨#[32, 91]⟩ ++ tx e ++ ⟨#[93]⟩
def actsB (ts : List Ta) : ByteArray := if ts = [] then ⟨#[]⟩ else ⟨#[32, 47, 32]⟩ ++ putB ts
def tgB (s : ByteArray) : ByteArray := if s.size = 0 then ⟨#[]⟩ else ⟨#[32, 45, 62, 32]⟩ ++ s
/-- The text of a transition. -/
def txT (x : Tt) : ByteArray := headB x ++ guardB x.g ++ actsB x.ts ++ tgB x.tg ++ ⟨#[59]⟩
theorem okN_size {s : ByteArray} (h : okN s = true) : s.size ≤ 12 := by
  unfold okN at h
  rw [Bool.or_eq_true, decide_eq_true_eq] at h
  rcases h with h | h
  · omega
  · exact name_size h
theorem ex_few {e : Ex} (h : chk (flat e) = 0) : (flat e).length ≤ 40 := (wholeB_iff.1 (chk_ok h).1).1
theorem headB_size {x : Tt} (h : x.Ok) : (headB x).size ≤ 20 := by
  have := okN_size h.ev
  unfold headB
  split
  · show 4 ≤ 20
    omega
  · rw [ByteArray.size_append]
    show 3 + _ ≤ _
    omega
theorem guardB_size {g : Option Ex} (h : ∀ e, g = some e → ExprSpec.Good e ∧ chk (flat e) = 0) : (guardB g).size ≤ 1203 := by
  cases g with
  | none => show 0 ≤ _; omega
  | some e =>
    obtain ⟨h1, h2⟩ := h e rfl
    have h3 := tx_size h1
    have h4 := ex_few h2
    unfold guardB
    rw [ByteArray.size_append, ByteArray.size_append]
    show 2 + _ + 1 ≤ _
    omega
theorem actsB_size {ts : List Ta} (h : ∀ t ∈ ts, t.Ok) (h8 : ts.length ≤ 8) : (actsB ts).size ≤ 10419 := by
  have := putB_size h
  unfold actsB
  split
  · show 0 ≤ _
    omega
  · rw [ByteArray.size_append]
    show 3 + _ ≤ _
    omega
theorem tgB_size {s : ByteArray} (h : okN s = true) : (tgB s).size ≤ 16 := by
  have := okN_size h
  unfold tgB
  split
  · show 0 ≤ _
    omega
  · rw [ByteArray.size_append]
    show 4 + _ ≤ _
    omega
theorem txT_size {x : Tt} (h : x.Ok) : (txT x).size ≤ 11659 := by
  have h1 := headB_size h
  have h2 := guardB_size h.g
  have h3 := actsB_size h.ts h.few
  have h4 := tgB_size h.tg
  unfold txT
  simp only [ByteArray.size_append]
  show _ + _ + _ + _ + 1 ≤ _
  omega
end TransSpec
end Go.Proofs.YtobpcpfomdblgaaGreatDoor

namespace Go.Proofs.YtobpcpfomdblgaaGreatDoor
open Go.RowKit CurSpec TermSpec ExprSpec NamesSpec
set_option maxRecDepth 100000

theorem atom_good {rec : Cur → Int → Pa} {c : Cur} (h : (atom rec c).1.bad = 0) : c.bad = 0 := by
  by_cases h0 : c.bad = 0
  · exact h0
  · have e : atom rec c = (nameC c, [⟨2, 0, nameS c⟩]) := by
      unfold atom
      rw [if_neg (by rw [next_dead h0]; decide), if_neg (by rw [isB_dead _ _ h0]; decide), if_neg (by rw [isB_dead _ _ h0]; decide), if_neg (by rw [isB_dead _ _ h0]; decide), if_neg (by rw [isB_dead _ _ h0]; decide), if_neg (by rw [isB_dead _ _ h0]; decide), if_neg (by rw [isB_dead _ _ h0]; decide)]
    rw [e] at h
    have := (nameC_good h).1
    rw [nameB_dead h0] at this
    cases this
theorem last_mid {f : Nat} {c : Cur} (hP : c.bad = 0 → PartOk f) (ok : Ok c) (hf : Fit (f + 1) c) {W : World} {R B : Nat} {v : Value} {pre : List Tm} {x : List Tm} {v1 : Value} {l1 : List Tm} {w : World} (h : Mid W R B v pre c x v1 l1 w) :
    Calls Tryz.prog 102 #[.pointer (some ⟨R, 0, none⟩)] w fun e w' => ∃ v2 l2, e = .returned (.tuple #[]) ∧ Mid W R B v pre (atom (S f) c).1 (x ++ (atom (S f) c).2) v2 l2 w' := by
  refine (last_step f c hP ok hf R B v1 l1 w h.sig h.rd).mono ?_
  rintro e w' ⟨v2, l2, rfl, hr, hc, hh⟩
  exact ⟨v2, l2, rfl, h.part atom_good hr hc hh⟩

set_option maxHeartbeats 4000000 in
theorem head_step (f : Nat) (c : Cur) (hP : c.bad = 0 → PartOk f) (ok : Ok c) (hf : Fit (f + 1) c) (R B : Nat) (v : Value) (l : List Tm) (k : Int) (w : World) (hs : SignsIn w) (h : RdAt w R B v c l) :
    Calls Tryz.prog 85 #[.pointer (some ⟨R, 0, none⟩), .int .i64 k] w (RetHead w R B v l (hd (S f) c k)) := by
  have HP := Lib.hid hP
  have H0 := Lib.hid (Mid.start hs h)
  have r0 := H0.out.cell
  have HOK := Lib.hid ok
  have HF := Lib.hid hf
  have HFO : Hid (∀ {k : Int} {s : ByteArray}, isB c k s = true → k ≠ 0 → Fit f (on c)) := Lib.hid (fun hb hk _ => by
    have := isB_real hb hk
    have := hf this.1
    omega)
  clear hs h ok hf hP
  by_cases hn : k ≤ 3 ∧ isB c 1 tNot = true
  · have HE : Hid (hd (S f) c k = (((S f (on c) 3).1, opT 12 :: (S f (on c) 3).2), 3)) := Lib.hid (if_pos hn)
    have HPG := Lib.hid (HP.out (isB_next hn.2).1)
    have HFG := Lib.hid (HFO.out hn.2 (by decide))
    have HB := Lib.hid hn.2
    have hk := hn.1
    clear hn
    go_enter Tryz.func85, Tryz.ntmps85
    go_wp2_with (go_at_call 34; (with_reducible refine (take_yes H0.out (k := 1) (s := tNot) HB.out).mono ?_))
    rintro e w1 ⟨rfl, M1⟩
    have H1 := Lib.hid M1
    clear M1 r0
    go_wp2_with (go_at_call 101; (with_reducible refine (add_mid H1.out 12 0 ⟨#[]⟩ (by decide)).mono ?_))
    rintro e w2 ⟨v2, l2, rfl, M2⟩
    have H2 := Lib.hid M2
    clear M2
    go_wp2_with (go_at_call 62; (with_reducible refine (part_mid HPG.out H2.out 3 HOK.out.on HFG.out).mono ?_))
    rintro e w3 ⟨v3, l3, rfl, M3⟩
    have H3 := Lib.hid M3
    clear M3
    go_wp2_with fail
    go_ret
    exact H3.out.head HE.out
  · have hX : ∃ X : Prop, X := ⟨True, trivial⟩
    by_cases hk : k ≤ 3
    · have hnb : isB c 1 tNot = false := by simpa using fun h => hn ⟨hk, h⟩
      have HNB := Lib.hid hnb
      by_cases hg : isB c 3 tNeg = true
      · have HE : Hid (hd (S f) c k = (((S f (on c) 7).1, opT 3 :: (S f (on c) 7).2), 7)) := Lib.hid (by unfold hd; rw [if_neg hn, if_pos hg])
        have HPG := Lib.hid (HP.out (isB_next hg).1)
        have HFG := Lib.hid (HFO.out hg (by decide))
        have HB := Lib.hid hg
        clear hn hnb hg hX
        go_enter Tryz.func85, Tryz.ntmps85
        go_wp2_with (go_at_call 34; (with_reducible refine (take_no H0.out (k := 1) (s := tNot) HNB.out).mono ?_))
        rintro e w1 ⟨rfl, M1⟩
        have H1 := Lib.hid M1
        have r1 := M1.cell
        clear M1 r0
        go_wp2_with (go_at_call 34; (with_reducible refine (take_yes H1.out (k := 3) (s := tNeg) HB.out).mono ?_))
        rintro e w2 ⟨rfl, M2⟩
        have H2 := Lib.hid M2
        clear M2 r1
        go_wp2_with (go_at_call 101; (with_reducible refine (add_mid H2.out 3 0 ⟨#[]⟩ (by decide)).mono ?_))
        rintro e w3 ⟨v3, l3, rfl, M3⟩
        have H3 := Lib.hid M3
        clear M3
        go_wp2_with (go_at_call 62; (with_reducible refine (part_mid HPG.out H3.out 7 HOK.out.on HFG.out).mono ?_))
        rintro e w4 ⟨v4, l4, rfl, M4⟩
        have H4 := Lib.hid M4
        clear M4
        go_wp2_with fail
        go_ret
        exact H4.out.head HE.out
      · have HE : Hid (hd (S f) c k = (atom (S f) c, 8)) := Lib.hid (by unfold hd; rw [if_neg hn, if_neg hg])
        have hgb : isB c 3 tNeg = false := by simpa using hg
        have HGB := Lib.hid hgb
        clear hn hnb hg hgb hX
        go_enter Tryz.func85, Tryz.ntmps85
        go_wp2_with (go_at_call 34; (with_reducible refine (take_no H0.out (k := 1) (s := tNot) HNB.out).mono ?_))
        rintro e w1 ⟨rfl, M1⟩
        have H1 := Lib.hid M1
        have r1 := M1.cell
        clear M1 r0
        go_wp2_with (go_at_call 34; (with_reducible refine (take_no H1.out (k := 3) (s := tNeg) HGB.out).mono ?_))
        rintro e w2 ⟨rfl, M2⟩
        have H2 := Lib.hid M2
        clear M2 r1
        go_wp2_with (go_at_call 102; (with_reducible refine (last_mid HP.out HOK.out HF.out H2.out).mono ?_))
        rintro e w3 ⟨v3, l3, rfl, M3⟩
        have H3 := Lib.hid M3
        clear M3
        go_wp2_with fail
        go_ret
        exact H3.out.head HE.out
    · have hkf : decide (k ≤ 3) = false := decide_eq_false hk
      by_cases hg : isB c 3 tNeg = true
      · have HE : Hid (hd (S f) c k = (((S f (on c) 7).1, opT 3 :: (S f (on c) 7).2), 7)) := Lib.hid (by unfold hd; rw [if_neg hn, if_pos hg])
        have HPG := Lib.hid (HP.out (isB_next hg).1)
        have HFG := Lib.hid (HFO.out hg (by decide))
        have HB := Lib.hid hg
        clear hn hg hX
        go_enter Tryz.func85, Tryz.ntmps85
        go_wp2_with (go_at_call 34; (with_reducible refine (take_yes H0.out (k := 3) (s := tNeg) HB.out).mono ?_))
        (first | rintro e w2 rfl M2 | rintro e w2 ⟨rfl, M2⟩)
        have H2 := Lib.hid M2
        clear M2 r0
        go_wp2_with (go_at_call 101; (with_reducible refine (add_mid H2.out 3 0 ⟨#[]⟩ (by decide)).mono ?_))
        rintro e w3 ⟨v3, l3, rfl, M3⟩
        have H3 := Lib.hid M3
        clear M3
        go_wp2_with (go_at_call 62; (with_reducible refine (part_mid HPG.out H3.out 7 HOK.out.on HFG.out).mono ?_))
        rintro e w4 ⟨v4, l4, rfl, M4⟩
        have H4 := Lib.hid M4
        clear M4
        go_wp2_with fail
        go_ret
        exact H4.out.head HE.out
      · have HE : Hid (hd (S f) c k = (atom (S f) c, 8)) := Lib.hid (by unfold hd; rw [if_neg hn, if_neg hg])
        have hgb : isB c 3 tNeg = false := by simpa using hg
        have HGB := Lib.hid hgb
        clear hn hg hgb hX
        go_enter Tryz.func85, Tryz.ntmps85
        go_wp2_with (go_at_call 34; (with_reducible refine (take_no H0.out (k := 3) (s := tNeg) HGB.out).mono ?_))
        (first | rintro e w2 rfl M2 | rintro e w2 ⟨rfl, M2⟩)
        have H2 := Lib.hid M2
        clear M2 r0
        go_wp2_with (go_at_call 102; (with_reducible refine (last_mid HP.out HOK.out HF.out H2.out).mono ?_))
        rintro e w3 ⟨v3, l3, rfl, M3⟩
        have H3 := Lib.hid M3
        clear M3
        go_wp2_with fail
        go_ret
        exact H3.out.head HE.out

def PtRel (W : World) (R B : Nat) (v : Value) (pre : List Tm) (q : Int) (f : Nat) (G : Prop) (P : Pa) (g : Nat) (i : Value) (wr : World) : Prop :=
  ∃ lev c x v1 l1 k, i = .int .i64 lev ∧ Mid W R B v pre c x v1 l1 wr ∧ Ok c ∧ Fit k c ∧ k ≤ f ∧ (c.bad = 0 → G) ∧ C k lev q c x = P ∧ k = g
theorem hd_good {rec : Cur → Int → Pa} {c : Cur} {q : Int} (hb : (hd rec c q).1.1.bad = 0) : c.bad = 0 := by
  by_cases h0 : c.bad = 0
  · exact h0
  · have e : hd rec c q = (atom rec c, 8) := by
      unfold hd
      rw [if_neg (by rw [isB_dead _ _ h0]; simp), if_neg (by rw [isB_dead _ _ h0]; decide)]
    rw [e] at hb
    exact atom_good hb
/-- Behind the sign, a term put in: the sign's block is as it was. -/
theorem sg_hold {w w' : World} {R B : Nat} {v v' : Value} {i : Nat} {o : Obj} (h : w.heap[i]? = some o) (hne : i ≠ B ∧ i ≠ R ∧ v.ownBlock ≠ some i) (hh : Hold R B v v' w w') : w'.heap[i]? = some o ∧ i ≠ B ∧ i ≠ R ∧ v'.ownBlock ≠ some i := by
  have hi := (Array.getElem?_eq_some_iff.1 h).1
  exact ⟨(hh.block i hi hne.1 hne.2.1 hne.2.2).trans h, hne.1, hne.2.1, hh.apart hi hne.2.2⟩
set_option maxHeartbeats 8000000 in
theorem part_walk (f : Nat) (c : Cur) (hP : c.bad = 0 → ∀ g, g ≤ f → PartOk g) (ok : Ok c) (hf : Fit (f + 1) c) (R B : Nat) (v : Value) (l : List Tm) (q : Int) (w : World) (hs : SignsIn w) (h : RdAt w R B v c l) :
    Calls Tryz.prog 62 #[.pointer (some ⟨R, 0, none⟩), .int .i64 q] w (RetPart w R B v l (C f (hd (S f) c q).2 q (hd (S f) c q).1.1 (hd (S f) c q).1.2)) := by
  obtain ⟨A, cp, rfl⟩ := own_shape h.own
  obtain ⟨r0, r1⟩ := cells_2 h.blk
  obtain ⟨n, hn⟩ : ∃ n, n = l.length := ⟨_, rfl⟩
  have HH := Lib.hid (head_step f c (fun h0 => hP h0 f (Nat.le_refl _)) ok hf R B _ l q w hs h)
  have HD : Hid (Ok (hd (S f) c q).1.1 ∧ Fit f (hd (S f) c q).1.1 ∧ ((hd (S f) c q).1.1.bad = 0 → c.bad = 0)) := Lib.hid (by
    refine ⟨inv_ok.hd (fun c k h => ok_S f k h) ok q, fun hb => ?_, hd_good⟩
    exact (hf.fitHd (hd_good hb) q) hb)
  obtain ⟨D, hD⟩ : ∃ D, D = hd (S f) c q := ⟨_, rfl⟩
  rw [← hD] at HH HD ⊢
  obtain ⟨P, hPp⟩ : ∃ P, P = C f D.2 q D.1.1 D.1.2 := ⟨_, rfl⟩
  have HPP := Lib.hid hPp
  rw [← hPp]
  have HN := Lib.hid hn
  rw [← hn] at HH r1
  have HP := Lib.hid hP
  have HS := Lib.hid hs
  have HR := Lib.hid h
  clear hn hD hPp hP ok hf hs h
  go_enter Tryz.func62, Tryz.ntmps62
  go_wp2_with (go_at_call 85; (with_reducible refine HH.out.mono ?_))
  rintro e w1 ⟨v1, l1, rfl, hr1, hc1, hh1⟩
  have H1 : Hid (Mid w R B (.slice A n cp) l D.1.1 D.1.2 v1 l1 w1) := Lib.hid ⟨hr1, hc1, hh1, HS.out.hold (by rw [HN.out]; exact HR.out) hh1⟩
  clear hr1 hc1 hh1 r0 r1
  go_wp2_with fail
  go_loopg [5] f (fun g i wr => PtRel w R B (.slice A n cp) l q f (c.bad = 0) P g i wr)
  case atStart => exact ⟨D.2, D.1.1, D.1.2, v1, l1, f, rfl, H1.out, HD.out.1, HD.out.2.1, Nat.le_refl _, HD.out.2.2, HPP.out.symm, rfl⟩
  case round =>
    obtain ⟨lev, d, x, v2, l2, k, rfl, M2, okd, fd, hle, hG, hC, hk⟩ := hrel
    have HK := Lib.hid hk
    clear hk
    have HB := Lib.hid (between_at R B v2 d l2 lev q wr M2.sig M2.rd)
    have H2 := Lib.hid M2
    have HOK := Lib.hid okd
    have HC := Lib.hid hC
    cases hs : sgn d lev q with
    | none =>
      rw [hs] at HB
      have HE := Lib.hid (C_stop k x hs)
      clear M2 okd fd hle hC hs hG
      go_wp2_with (go_at_call 86; (with_reducible refine HB.out.mono ?_))
      rintro e x3 ⟨s, b, y, rfl, ⟨rfl, rfl, rfl⟩, hr3, hb3⟩
      have H3 := Lib.hid (H2.out.cur hr3.cur hb3 id)
      clear hr3 hb3
      go_wp2_with fail
      go_end0
      have hnl := HN.out
      subst hnl
      exact (H3.out.alloc _).ret (HC.out.symm.trans HE.out)
    | some s =>
      rw [hs] at HB
      have hd0 := sgn_good hs
      cases k with
      | zero => exact absurd hd0 fd.zero
      | succ g =>
        have HE := Lib.hid (C_step g x hs)
        have HFO := Lib.hid (fd.fitOn hs)
        have HFS := Lib.hid (fd.fitStep hs s.right)
        have HG := Lib.hid (hG hd0)
        have HPG := Lib.hid (HP.out (hG hd0) g (by omega))
        have HLE := Lib.hid hle
        clear M2 okd fd hle hC hs hG hd0
        go_wp2_with (go_at_call 86; (with_reducible refine HB.out.mono ?_))
        rintro e x3 ⟨s', b, y, rfl, ⟨rfl, rfl, rfl⟩, hr3, hb3⟩
        have H3 := Lib.hid (H2.out.cur hr3.cur hb3 (fun h => by rw [(on_bad d).1] at h; exact h))
        have HAP := Lib.hid (H3.out.rd.apart (Nat.le_refl _))
        obtain ⟨s0, s1, s2, s3, s4⟩ := cells_5 (heap_alloc_new x3 (sgO s'))
        have HINS : Hid (Calls Tryz.prog 87 #[.pointer (some ⟨R, 0, none⟩), .int .i64 n, .agg #[.int .i64 s'.op, .int .i64 0, .string ⟨#[]⟩]] (x3.alloc (sgO s')) (RetRd (x3.alloc (sgO s')) R B v2 (on d) (ins l2 l.length (opT s'.op)))) := Lib.hid (by
          rw [HN.out]
          exact insert_at R B v2 (on d) l2 l.length (opT s'.op) _ (H3.out.alloc _).rd H3.out.cap.1 (show (⟨#[]⟩ : ByteArray).size ≤ 9223372036854775807 by decide))
        clear hr3 hb3
        go_wp2_with (go_at_call 87; (with_reducible refine HINS.out.mono ?_))
        rintro e x4 ⟨v4, rfl, hr4, hh4⟩
        have H4 := Lib.hid ((H3.out.alloc (sgO s')).ins (opT s'.op) hr4 hh4)
        have HK4 := Lib.hid (sg_hold (heap_alloc_new x3 (sgO s')) HAP.out hh4)
        obtain ⟨t0, t1, t2, t3, t4⟩ := cells_5 HK4.out.1
        have HPT := Lib.hid (HPG.out R B v4 (on d) (ins l2 l.length (opT s'.op)) s'.right x4 H4.out.sig H4.out.rd HOK.out.on HFO.out)
        clear hr4 hh4 s0 s1 s2 s3 s4
        go_wp2_with (go_at_call 62; (with_reducible refine HPT.out.mono ?_))
        rintro e x5 ⟨v5, l5, rfl, hr5, hc5, hh5⟩
        have H5 := Lib.hid (H4.out.part (S_less g (on d) s'.right).2 hr5 hc5 hh5)
        obtain ⟨u0, u1, u2, u3, u4⟩ := cells_5 (sg_hold HK4.out.1 HK4.out.2 hh5).1
        clear hr5 hc5 hh5 t0 t1 t2 t3 t4
        go_wp2_with fail
        go_roundg g
        case rel => exact ⟨s'.lev, _, _, v5, l5, g, rfl, H5.out, ok_S g _ HOK.out.on, HFS.out, by have := HLE.out; omega, fun _ => HG.out, by rw [← HC.out, HE.out]; rfl, rfl⟩
        case measure => have := HK.out; omega

theorem part_ok : ∀ f, PartOk f := by
  intro f
  induction f using Nat.strongRecOn with
  | ind f ih =>
    intro R B v c l q w hs h ok hf
    by_cases h0 : c.bad = 0
    · cases f with
      | zero => exact absurd h0 hf.zero
      | succ f =>
        rw [S_good f q h0]
        exact part_walk f c (fun _ g hg => ih g (by omega)) ok hf R B v l q w hs h
    · rw [S_dead f q h0]
      refine (part_walk 0 c (fun h => absurd h h0) ok (fun h => absurd h h0) R B v l q w hs h).mono ?_
      rintro e w' ⟨v', l', rfl, hr, hc, hh⟩
      have e1 : (C 0 (hd (S 0) c q).2 q (hd (S 0) c q).1.1 (hd (S 0) c q).1.2).1 = c := by
        show (hd (S 0) c q).1.1 = c
        have e : hd (S 0) c q = (atom (S 0) c, 8) := by
          unfold hd
          rw [if_neg (by rw [isB_dead _ _ h0]; simp), if_neg (by rw [isB_dead _ _ h0]; decide)]
        rw [e]
        show (atom (S 0) c).1 = c
        unfold atom
        rw [if_neg (by rw [next_dead h0]; decide), if_neg (by rw [isB_dead _ _ h0]; decide), if_neg (by rw [isB_dead _ _ h0]; decide), if_neg (by rw [isB_dead _ _ h0]; decide), if_neg (by rw [isB_dead _ _ h0]; decide), if_neg (by rw [isB_dead _ _ h0]; decide), if_neg (by rw [isB_dead _ _ h0]; decide)]
        show nameC c = c
        unfold nameC
        rw [if_neg (by rw [nameB_dead h0]; decide)]
        exact fail_dead _ h0
      rw [e1] at hr hc
      exact ⟨v', l', rfl, hr, hc.dead h0, hh⟩
end Go.Proofs.YtobpcpfomdblgaaGreatDoor

namespace Go.Proofs.YtobpcpfomdblgaaGreatDoor
open Go.RowKit TermSpec
set_option maxRecDepth 100000

theorem max_if (a b : Int) : max a b = if a < b then b else a := by split <;> omega
def DeepRel (bs : List Int) (n : Nat) (v i : Value) : Prop := ∃ k : Nat, k ≤ n ∧ i = .int .i64 k ∧ v = .int .i64 (deepest (bs.take k))
set_option maxHeartbeats 1000000 in
theorem deplit_any (o : Int) (v : Value) (bs : List Int) (w : World) (h : Rd w v (intV bs)) (hm : bs.length ≤ 4611686018427387903) (hb : ∀ b ∈ bs, b ≤ 4611686018427387903) :
    Calls Tryz.prog 78 #[.int .i64 o, v] w (SameI w (depF o bs)) := by
  obtain ⟨A, n, c, rfl, hn, hc, hA⟩ := h.ints
  have HA := Lib.hid hA
  have HN := Lib.hid hn
  have HB := Lib.hid hb
  have hm' : n ≤ 4611686018427387903 := by omega
  clear hA hn h hc hm hb
  go_enter Tryz.func78, Tryz.ntmps78
  go_wp2_with fail
  go_loop [5, 7, 10] (fun v _ i => DeepRel bs n v i) (fun _ _ i => n - (intOf i).toNat)
  case atStart => exact ⟨0, Nat.zero_le _, rfl, rfl⟩
  case round =>
    obtain ⟨k, hk, rfl, rfl⟩ := hrel
    obtain ⟨g0, g1⟩ := deepest_bd (B := 4611686018427387903) (by omega) (bs.take k) (fun b h => HB.out b (List.mem_of_mem_take h))
    by_cases hlt : k < n
    · obtain ⟨b, off, rfl, hb, hcell⟩ := HA.out (by omega)
      obtain ⟨x, hx⟩ : ∃ x, bs[k]? = some x := get_some (by have := HN.out; omega)
      have hck := hcell k x hx
      have HS : Hid (deepest (bs.take (k + 1)) = if deepest (bs.take k) < x then x else deepest (bs.take k)) := Lib.hid (by rw [take_next hx, deepest_snoc])
      obtain ⟨d, hd⟩ : ∃ d, d = deepest (bs.take k) := ⟨_, rfl⟩
      rw [← hd] at HS g0 g1 ⊢
      clear hcell hx hd
      go_wp2_with fail
      go_round
      case rel => exact ⟨k + 1, hlt, by simp, by rw [HS.out, ← max_if]⟩
      case measure => simp [intOf]; omega
    · go_wp2_with fail
      go_ret
      exact ⟨ret_int (by rw [List.take_of_length_le (by rw [HN.out]; omega)]; rfl), rfl⟩

end Go.Proofs.YtobpcpfomdblgaaGreatDoor

namespace Go.Proofs.YtobpcpfomdblgaaGreatDoor
open Go.RowKit TermSpec
set_option maxRecDepth 100000

theorem below_place {l : List Tm} {a q m k : Nat} (h : cnt q (l.drop (a + 1)) = some m) (hk : k < q) :
    ∃ x, (belows l a q)[k]? = some ((a + 1 + x : Nat) : Int) ∧ 0 ≤ endA l ((a + 1 + x : Nat) : Int) ∧ a + 1 + x ≤ max l.length (a + 1) ∧ (∀ f, (stack f (l.drop (a + 1))).take (k + 1) = (stack f (l.drop (a + 1))).take k ++ [come f (l.drop (a + 1 + x))]) := by
  have h' := h
  rw [show q = (k + 1) + (q - (k + 1)) by omega] at h'
  obtain ⟨z, _, hz, _, _⟩ := cnt_split h'
  obtain ⟨x, y, hx, hy, _⟩ := cnt_split hz
  have hle := (cnt_le hx).1
  rw [List.length_drop] at hle
  refine ⟨x, ?_, ?_, by omega, fun f => ?_⟩
  · rw [belows_get hk, hx]; rfl
  · have := (below_next h hk).1
    rw [hx] at this
    simp only [Option.getD_some] at this
    rw [this]; omega
  · have := stack_take_next (f := f) hz hx
    rwa [List.drop_drop] at this
theorem come_at {f : Int → List Int → Int} {l : List Tm} {a : Nat} {t : Tm} (ht : l[a]? = some t) : come f (l.drop a) = f t.op ((stack f (l.drop (a + 1))).take (arN t.op)) := by rw [drop_get ht, come_cons]
def ComeRel (f : Int → List Int → Int) (W : World) (l : List Tm) (a q : Nat) (p i : Value) (wr : World) : Prop :=
  ∃ k : Nat, k ≤ q ∧ i = .int .i64 k ∧ RowI W wr p ((stack f (l.drop (a + 1))).take k)

def IHDep (A : Option Addr) (n c : Nat) (l : List Tm) (K : Nat) : Prop := ∀ (a : Nat) (w : World), n ≤ a + K → Tms w (.slice A n c) l → 0 ≤ endA l a → Calls Tryz.prog 96 #[.slice A n c, .int .i64 a, .func (.func 78) #[] #[]] w (RetI w (come depF (l.drop a)))
set_option maxHeartbeats 2000000 in
theorem comeDep_step (A : Option Addr) (n c : Nat) (l : List Tm) (K : Nat) (hn : n = l.length) (hn62 : n ≤ 70368744177664) (ih : IHDep A n c l K) (a : Nat) (w : World) (hK : n ≤ a + (K + 1)) (h : Tms w (.slice A n c) l) (he : 0 ≤ endA l a) :
    Calls Tryz.prog 96 #[.slice A n c, .int .i64 a, .func (.func 78) #[] #[]] w (RetI w (come depF (l.drop a))) := by
  obtain ⟨k0, m0, hk0, hc0, _, _, _⟩ := endA_nn he
  obtain rfl : k0 = a := by omega
  obtain ⟨t, m, ht, h0, _, hm⟩ := first_of hc0
  have han := get_lt ht
  have HT := Lib.hid h
  have HM := Lib.hid hm
  have HIH := Lib.hid ih
  have HBL := Lib.hid (below_yes A n c l k0 w h hn hn62 t ht he)
  obtain ⟨b, off, rfl, hb, c0, -, -⟩ := h.at_ ht
  have HCELL := Lib.hid c0
  have HCM := Lib.hid (come_at (f := depF) ht)
  have hq := (ar_bd t.op).2
  have e0 := arN_of h0
  have hsl := stack_len (f := depF) hm
  have hdb : ∀ b ∈ (stack depF (l.drop (k0 + 1))).take (arN t.op), b ≤ 4611686018427387903 := fun b hb => by
    have h1 := (stack_depth _ b (List.mem_of_mem_take hb)).2
    rw [List.length_drop] at h1
    omega
  have hdl : ((stack depF (l.drop (k0 + 1))).take (arN t.op)).length ≤ 4611686018427387903 := by rw [List.length_take]; omega
  have HDB := Lib.hid (And.intro hdl hdb)
  clear hdb hdl
  obtain ⟨o, ho⟩ : ∃ o, o = t.op := ⟨_, rfl⟩
  rw [← ho] at HBL HCELL HCM hq e0 HM hsl c0 HDB
  obtain ⟨q, hqe⟩ : ∃ q, q = arN o := ⟨_, rfl⟩
  rw [← hqe] at HBL HCM e0 HM hsl HDB
  have hq2 : q ≤ 2 := by omega
  have hal : k0 < n := by omega
  have hal' : (k0 : Int) < n := by omega
  have hlen : l.length = n := hn.symm
  obtain ⟨i0, hi, hz0, hz1, hz2⟩ := info_parts inf_int
  have HI := Lib.hid (And.intro hi (And.intro hz0 (And.intro hz1 hz2)))
  have HLEN := Lib.hid hlen
  have HSL := Lib.hid hsl
  clear ht ho hqe hn h hc0 hk0 hm he h0 e0 han hi hz0 hz1 hz2 hq c0 ih hlen hsl
  go_enter Tryz.func96, Tryz.ntmps96
  go_wp2_with (go_at_call 91; (with_reducible refine HBL.out.mono ?_))
  rintro e w1 ⟨v2, rfl, hr2, hb1⟩
  obtain ⟨A2, n2, c2, rfl, hn2, hc2, hA2⟩ := hr2.ints
  rw [belows_length] at hn2
  obtain rfl : q = n2 := hn2
  have HA2 := Lib.hid hA2
  have HB1 := Lib.hid hb1
  clear hr2 hc2 hA2 hb1
  go_wp2_with fail
  go_loopw [7, 9, 14] (fun p _ i wr => ComeRel depF w1 l k0 q p i wr) (fun _ _ i _ => 3 - (intOf i).toNat)
  case atStart => exact ⟨0, Nat.zero_le _, rfl, RowI.nil _ _ (Below.refl _ _)⟩
  case round =>
    obtain ⟨k, hk, rfl, hrow⟩ := hrel
    have hbw := below_two' HB1.out hrow.2
    have HR := Lib.hid hrow
    have HBW := Lib.hid hbw
    clear hrow hbw
    by_cases hlt : k < q
    · obtain ⟨b2, off2, rfl, hb2, hcell⟩ := HA2.out (by omega)
      obtain ⟨x, hx, hex, hbx, hst⟩ := below_place HM.out hlt
      have hck := (HR.out.2.cell (p := ⟨b2, off2 + k, none⟩) (by exact hb2)).trans (hcell k _ hx)
      have HST := Lib.hid (hst depF)
      rw [HLEN.out] at hbx
      have HCI := Lib.hid (HIH.out (k0 + 1 + x) wr (by omega) (HT.out.keep HBW.out) hex)
      obtain ⟨y, hy⟩ : ∃ y, y = come depF (l.drop (k0 + 1 + x)) := ⟨_, rfl⟩
      rw [← hy] at HST HCI
      obtain ⟨p, hp⟩ : ∃ p, p = k0 + 1 + x := ⟨_, rfl⟩
      rw [← hp] at HCI hck
      have hl : ((stack depF (l.drop (k0 + 1))).take k).length = k := by rw [List.length_take]; have := HSL.out; omega
      have HL1 : Hid (((stack depF (l.drop (k0 + 1))).take k).length + (intV [(y : Int)]).length ≤ maxLen) := Lib.hid (by rw [hl]; simp [maxLen]; omega)
      have HL2 : Hid ((((stack depF (l.drop (k0 + 1))).take k).length + (intV [(y : Int)]).length) * 8 ≤ 140737488355328) := Lib.hid (by rw [hl]; simp; omega)
      clear hx hex hbx hst hcell hl hy hp
      go_wp2_with (go_at_call 96; (with_reducible refine HCI.out.mono ?_))
      rintro e w3 ⟨rfl, hb3⟩
      have HR3 := Lib.hid (HR.out.keep hb3)
      have HRA := Lib.hid HR3.out.1
      have HSZ : Hid (w1.heap.size ≤ w3.heap.size) := Lib.hid HR3.out.2.size
      clear hb3 hck
      go_wp2_with (at_builtin; refine wpList_append_rd _ rfl (.tmp 18) (.tmp 23) _ rfl w1.heap.size 3 i0 (.int .i64 0) 8 Tryz.underlying109 HI.out.1 HI.out.2.1 HI.out.2.2.1 HI.out.2.2.2 rfl _ _ _ rfl (HRA.out.alloc _) _ (intV [(y : Int)]) rfl (Rd.lit (cs := #[.int .i64 y]) rfl) (intV_one _) HL1.out HL2.out ?_ ?_; (have := HSZ.out; simp; omega); intro p2 w4 hrow2 hg2 _; have HR4 := Lib.hid (RowI.add HR3.out hrow2 hg2); clear hrow2 hg2)
      go_roundw
      case rel => exact ⟨k + 1, hlt, by simp, by rw [HST.out]; exact HR4.out⟩
      case measure => simp [intOf]; omega
    · obtain rfl : k = q := by omega
      obtain ⟨A3, n3, c3, rfl, hn3⟩ : ∃ A n c, u7 = .slice A n c ∧ True := by
        obtain ⟨A, c, h⟩ := own_shape HR.out.1
        exact ⟨A, _, c, h, trivial⟩
      have c0 : wr.cell? ⟨b, off + k0 * 3, none⟩ = some (.int .i64 o) := (HBW.out.cell (by exact hb)).trans HCELL.out
      have HLT := Lib.hid (deplit_any o (.slice A3 n3 c3) _ wr HR.out.read HDB.out.1 HDB.out.2)
      go_wp2_with (go_at_call 78; (with_reducible refine HLT.out.mono ?_); rintro e w' ⟨rfl, rfl⟩)
      go_ret
      exact ⟨ret_int HCM.out.symm, HBW.out⟩
theorem comeDep_all (A : Option Addr) (n c : Nat) (l : List Tm) (hn : n = l.length) (hn62 : n ≤ 70368744177664) (K : Nat) : IHDep A n c l K := by
  induction K with
  | zero =>
    intro a w hK _ he
    obtain ⟨k, m, hk, _, h1, h2, h3⟩ := endA_nn he
    omega
  | succ K ih => exact fun a w hK h he => comeDep_step A n c l K hn hn62 ih a w hK h he
theorem comeDep_any (A : Option Addr) (n c : Nat) (l : List Tm) (hn : n = l.length) (hn62 : n ≤ 70368744177664) (a : Nat) (w : World) (h : Tms w (.slice A n c) l) (he : 0 ≤ endA l a) :
    Calls Tryz.prog 96 #[.slice A n c, .int .i64 a, .func (.func 78) #[] #[]] w (RetI w (come depF (l.drop a))) := comeDep_all A n c l hn hn62 n a w (by omega) h he

end Go.Proofs.YtobpcpfomdblgaaGreatDoor
