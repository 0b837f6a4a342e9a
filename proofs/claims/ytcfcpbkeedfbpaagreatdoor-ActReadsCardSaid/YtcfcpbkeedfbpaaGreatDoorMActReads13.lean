/- ExprLast, ActReadSpec, ExprPart, ExprRead, ExprRef, joined. -/
import Derived.Test.YtcfcpbkeedfbpaaGreatDoorMActReads12
import Derived.Test.YtcfcpbkeedfbpaaGreatDoorMActReads01
import Derived.Deep.LoopGhost
import Derived.Test.YtcfcpbkeedfbpaaGreatDoorMActReads03
import Derived.Test.YtcfcpbkeedfbpaaGreatDoorMActReads10
import Derived.Test.YtcfcpbkeedfbpaaGreatDoorMActReads00
namespace Go.Proofs.YtcfcpbkeedfbpaaGreatDoor
open Go.RowKit CurSpec TermSpec ExprSpec NamesSpec
set_option maxRecDepth 100000

def TwoOk (f : Nat) : Prop := ∀ (R B : Nat) (v : Value) (c : Cur) (l : List Tm) (o : Int) (w : World), SignsIn w → RdAt w R B v c l → Ok c → Fit f c →
  Calls Tryz.prog 172 #[.pointer (some ⟨R, 0, none⟩), .int .i64 o] w (RetPart w R B v l (two (S f) c o))
theorem ok_S (f : Nat) {c : Cur} (k : Int) (h : Ok c) : Ok (S f c k).1 := (inv_ok.all f).1 c k h
theorem fit_want {f : Nat} {c : Cur} (h : Fit f c) (k : Int) (s : ByteArray) : Fit f (want c k s) := fun hb => by
  have := h (isB_next (want_good hb).1).1
  have := want_len c k s
  omega
theorem fit_S {f g : Nat} {c : Cur} (h : Fit f c) (k : Int) : Fit f (S g c k).1 := fun hb => by
  have h1 := S_less g c k
  have := h (h1.2 hb)
  omega
set_option maxHeartbeats 4000000 in
theorem two_step (f : Nat) (hP : PartOk f) : TwoOk f := by
  intro R B v c l o w hs h ok hf
  have HP := Lib.hid hP
  have H0 := Lib.hid (Mid.start hs h)
  have r0 := H0.out.cell
  have HOK := Lib.hid ok
  have HF := Lib.hid hf
  clear hs h ok hf hP
  go_enter Tryz.func172, Tryz.ntmps172
  go_wp2_with (go_at_call 157; (with_reducible refine (add_mid H0.out o 0 ⟨#[]⟩ (by decide)).mono ?_))
  rintro e w1 ⟨v1, l1, rfl, M1⟩
  have H1 := Lib.hid M1
  have r1 := M1.cell
  clear M1 r0
  go_wp2_with (go_at_call 63; (with_reducible refine (want_mid H1.out 3 tOpen).mono ?_))
  rintro e w2 ⟨rfl, M2⟩
  have H2 := Lib.hid M2
  have r2 := M2.cell
  clear M2 r1
  go_wp2_with (go_at_call 106; (with_reducible refine (part_mid HP.out H2.out 1 (HOK.out.want _ _) (fit_want HF.out _ _)).mono ?_))
  rintro e w3 ⟨v3, l3, rfl, M3⟩
  have H3 := Lib.hid M3
  have r3 := M3.cell
  clear M3 r2
  go_wp2_with (go_at_call 63; (with_reducible refine (want_mid H3.out 3 tComma).mono ?_))
  rintro e w4 ⟨rfl, M4⟩
  have H4 := Lib.hid M4
  have r4 := M4.cell
  clear M4 r3
  go_wp2_with (go_at_call 106; (with_reducible refine (part_mid HP.out H4.out 1 ((ok_S f _ (HOK.out.want _ _)).want _ _) (fit_want (fit_S (fit_want HF.out _ _) _) _ _)).mono ?_))
  rintro e w5 ⟨v5, l5, rfl, M5⟩
  have H5 := Lib.hid M5
  have r5 := M5.cell
  clear M5 r4
  go_wp2_with (go_at_call 63; (with_reducible refine (want_mid H5.out 3 tClose).mono ?_))
  rintro e w6 ⟨rfl, M6⟩
  have H6 := Lib.hid M6
  have r6 := M6.cell
  clear M6 r5
  go_wp2_with fail
  go_end0
  exact H6.out.ret (by unfold two opT; simp)

def LastOk (f : Nat) (c : Cur) : Prop := ∀ (R B : Nat) (v : Value) (l : List Tm) (w : World), SignsIn w → RdAt w R B v c l →
  Calls Tryz.prog 158 #[.pointer (some ⟨R, 0, none⟩)] w (RetPart w R B v l (atom (S f) c))
theorem two_mid {f : Nat} (hP : PartOk f) {W : World} {R B : Nat} {v : Value} {pre : List Tm} {c : Cur} {x : List Tm} {v1 : Value} {l1 : List Tm} {w : World} (h : Mid W R B v pre c x v1 l1 w) (o : Int) (ok : Ok c) (hf : Fit f c) :
    Calls Tryz.prog 172 #[.pointer (some ⟨R, 0, none⟩), .int .i64 o] w fun e w' => ∃ v2 l2, e = .returned (.tuple #[]) ∧ Mid W R B v pre (two (S f) c o).1 (x ++ (two (S f) c o).2) v2 l2 w' := by
  refine (two_step f hP R B v1 c l1 o w h.sig h.rd ok hf).mono ?_
  rintro e w' ⟨v2, l2, rfl, hr, hc, hh⟩
  exact ⟨v2, l2, rfl, h.part (two_len (S_less f) c o).2 hr hc hh⟩
theorem isB_not {c : Cur} {k k' : Int} {s s' : ByteArray} (h : isB c k s = true) (hne : k ≠ k' ∨ s ≠ s') : isB c k' s' = false := by
  obtain ⟨h0, h1, h2⟩ := isB_next h
  unfold isB
  rw [h1, h2]
  rcases hne with h | h
  · rw [decide_eq_false h]; simp
  · rw [decide_eq_false h]; simp
set_option maxHeartbeats 4000000 in
theorem last_step (f : Nat) (c : Cur) (hP : c.bad = 0 → PartOk f) (ok : Ok c) (hf : Fit (f + 1) c) : LastOk f c := by
  intro R B v l w hs h
  have HP := Lib.hid hP
  have H0 := Lib.hid (Mid.start hs h)
  have r0 := H0.out.cell
  have HOK := Lib.hid ok
  have HF := Lib.hid hf
  have HFO : Hid (∀ {k : Int} {s : ByteArray}, isB c k s = true → k ≠ 0 → Fit f (on c)) := Lib.hid (fun hb hk _ => by
    have := isB_real hb hk
    have := hf this.1
    omega)
  clear hs h ok hf hP
  by_cases h2 : (next c).k = 2
  · have e2 : ((next c).k == 2) = true := by simpa using h2
    have HE : Hid (atom (S f) c = (numC c 1000000, [⟨1, numN c 1000000, ⟨#[]⟩⟩])) := Lib.hid (if_pos h2)
    clear h2
    go_enter Tryz.func158, Tryz.ntmps158
    go_wp2_with (go_at_call 17; (with_reducible refine (peek_mid H0.out).mono ?_))
    rintro e w1 ⟨rfl, M1⟩
    have hfld : ∀ w, (Instr.field 40 (.agg #[.int .i64 (next c).k, .string (next c).t, .int .i64 (next c).l, .int .i64 (next c).c]) 0).run Tryz.prog w = .ok (.int .i64 (next c).k) w := fun _ => by kernel_rfl
    have H1 := Lib.hid M1
    have r1 := M1.cell
    clear M1 r0
    go_wp2_with (go_at_call 171; (with_reducible refine (number_mid H1.out 1000000 HOK.out).mono ?_))
    rintro e w2 ⟨rfl, M2⟩
    have H2 := Lib.hid M2
    have r2 := M2.cell
    clear M2 r1
    go_wp2_with (go_at_call 157; (with_reducible refine (add_mid H2.out 1 (numN c 1000000) ⟨#[]⟩ (by decide)).mono ?_))
    rintro e w3 ⟨v3, l3, rfl, M3⟩
    have H3 := Lib.hid M3
    have r3 := M3.cell
    clear M3 r2
    go_wp2_with fail
    go_end0
    exact H3.out.ret HE.out
  have e2 : ((next c).k == 2) = false := by simpa using h2
  by_cases b0 : isB c 1 tTrue = true
  · have HE : Hid (atom (S f) c = (on c, [opT 9])) := Lib.hid (by unfold atom; rw [if_neg h2, if_pos b0])
    have HPG := Lib.hid (HP.out (isB_next b0).1)
    have HFG := Lib.hid (HFO.out b0 (by decide))
    have HB := Lib.hid b0
    clear h2 b0
    go_enter Tryz.func158, Tryz.ntmps158
    go_wp2_with (go_at_call 17; (with_reducible refine (peek_mid H0.out).mono ?_))
    rintro e w1 ⟨rfl, M1⟩
    have hfld : ∀ w, (Instr.field 40 (.agg #[.int .i64 (next c).k, .string (next c).t, .int .i64 (next c).l, .int .i64 (next c).c]) 0).run Tryz.prog w = .ok (.int .i64 (next c).k) w := fun _ => by kernel_rfl
    have H1 := Lib.hid M1
    have r1 := M1.cell
    clear M1 r0
    go_wp2_with (go_at_call 34; (with_reducible refine (take_yes H1.out (k := 1) (s := tTrue) HB.out).mono ?_))
    rintro e w2 ⟨rfl, M2⟩
    have H2 := Lib.hid M2
    have r2 := M2.cell
    clear M2 r1
    go_wp2_with (go_at_call 157; (with_reducible refine (add_mid H2.out 9 0 ⟨#[]⟩ (by decide)).mono ?_))
    rintro e w3 ⟨v3, l3, rfl, M3⟩
    have H3 := Lib.hid M3
    have r3 := M3.cell
    clear M3 r2
    go_wp2_with fail
    go_end0
    exact H3.out.ret (by first | exact HE.out | (rw [HE.out]; simp [opT]))
  have n0 : ¬ isB c 1 tTrue = true := b0
  have N0 : Hid (isB c 1 tTrue = false) := Lib.hid (by simpa using b0)
  clear b0
  by_cases b1 : isB c 1 tFalse = true
  · have HE : Hid (atom (S f) c = (on c, [opT 10])) := Lib.hid (by unfold atom; rw [if_neg h2, if_neg n0, if_pos b1])
    have HPG := Lib.hid (HP.out (isB_next b1).1)
    have HFG := Lib.hid (HFO.out b1 (by decide))
    have HB := Lib.hid b1
    clear h2 b1 n0
    go_enter Tryz.func158, Tryz.ntmps158
    go_wp2_with (go_at_call 17; (with_reducible refine (peek_mid H0.out).mono ?_))
    rintro e w1 ⟨rfl, M1⟩
    have hfld : ∀ w, (Instr.field 40 (.agg #[.int .i64 (next c).k, .string (next c).t, .int .i64 (next c).l, .int .i64 (next c).c]) 0).run Tryz.prog w = .ok (.int .i64 (next c).k) w := fun _ => by kernel_rfl
    have H1 := Lib.hid M1
    have r1 := M1.cell
    clear M1 r0
    go_wp2_with (go_at_call 34; (with_reducible refine (take_no H1.out (k := 1) (s := tTrue) N0.out).mono ?_))
    rintro e w2 ⟨rfl, M2⟩
    have H2 := Lib.hid M2
    have r2 := M2.cell
    clear M2 r1
    go_wp2_with (go_at_call 34; (with_reducible refine (take_yes H2.out (k := 1) (s := tFalse) HB.out).mono ?_))
    rintro e w3 ⟨rfl, M3⟩
    have H3 := Lib.hid M3
    have r3 := M3.cell
    clear M3 r2
    go_wp2_with (go_at_call 157; (with_reducible refine (add_mid H3.out 10 0 ⟨#[]⟩ (by decide)).mono ?_))
    rintro e w4 ⟨v4, l4, rfl, M4⟩
    have H4 := Lib.hid M4
    have r4 := M4.cell
    clear M4 r3
    go_wp2_with fail
    go_end0
    exact H4.out.ret (by first | exact HE.out | (rw [HE.out]; simp [opT]))
  have n1 : ¬ isB c 1 tFalse = true := b1
  have N1 : Hid (isB c 1 tFalse = false) := Lib.hid (by simpa using b1)
  clear b1
  by_cases b2 : isB c 1 tIn = true
  · have HE : Hid (atom (S f) c = (want (nameC (want (on c) 3 tOpen)) 3 tClose, [⟨11, 0, nameS (want (on c) 3 tOpen)⟩])) := Lib.hid (by unfold atom; rw [if_neg h2, if_neg n0, if_neg n1, if_pos b2])
    have HPG := Lib.hid (HP.out (isB_next b2).1)
    have HFG := Lib.hid (HFO.out b2 (by decide))
    have HB := Lib.hid b2
    clear h2 b2 n0 n1
    go_enter Tryz.func158, Tryz.ntmps158
    go_wp2_with (go_at_call 17; (with_reducible refine (peek_mid H0.out).mono ?_))
    rintro e w1 ⟨rfl, M1⟩
    have hfld : ∀ w, (Instr.field 40 (.agg #[.int .i64 (next c).k, .string (next c).t, .int .i64 (next c).l, .int .i64 (next c).c]) 0).run Tryz.prog w = .ok (.int .i64 (next c).k) w := fun _ => by kernel_rfl
    have H1 := Lib.hid M1
    have r1 := M1.cell
    clear M1 r0
    go_wp2_with (go_at_call 34; (with_reducible refine (take_no H1.out (k := 1) (s := tTrue) N0.out).mono ?_))
    rintro e w2 ⟨rfl, M2⟩
    have H2 := Lib.hid M2
    have r2 := M2.cell
    clear M2 r1
    go_wp2_with (go_at_call 34; (with_reducible refine (take_no H2.out (k := 1) (s := tFalse) N1.out).mono ?_))
    rintro e w3 ⟨rfl, M3⟩
    have H3 := Lib.hid M3
    have r3 := M3.cell
    clear M3 r2
    go_wp2_with (go_at_call 34; (with_reducible refine (take_yes H3.out (k := 1) (s := tIn) HB.out).mono ?_))
    rintro e w4 ⟨rfl, M4⟩
    have H4 := Lib.hid M4
    have r4 := M4.cell
    clear M4 r3
    go_wp2_with (go_at_call 63; (with_reducible refine (want_mid H4.out 3 tOpen).mono ?_))
    rintro e w5 ⟨rfl, M5⟩
    have H5 := Lib.hid M5
    have r5 := M5.cell
    clear M5 r4
    go_wp2_with (go_at_call 62; (with_reducible refine (name_mid H5.out (HOK.out.on.want _ _)).mono ?_))
    rintro e w6 ⟨rfl, M6⟩
    have H6 := Lib.hid M6
    have r6 := M6.cell
    clear M6 r5
    go_wp2_with (go_at_call 157; (with_reducible refine (add_mid H6.out 11 0 (nameS (want (on c) 3 tOpen)) (nameS_small _ (HOK.out.on.want _ _))).mono ?_))
    rintro e w7 ⟨v7, l7, rfl, M7⟩
    have H7 := Lib.hid M7
    have r7 := M7.cell
    clear M7 r6
    go_wp2_with (go_at_call 63; (with_reducible refine (want_mid H7.out 3 tClose).mono ?_))
    rintro e w8 ⟨rfl, M8⟩
    have H8 := Lib.hid M8
    have r8 := M8.cell
    clear M8 r7
    go_wp2_with fail
    go_end0
    exact H8.out.ret (by first | exact HE.out | (rw [HE.out]; simp [opT]))
  have n2 : ¬ isB c 1 tIn = true := b2
  have N2 : Hid (isB c 1 tIn = false) := Lib.hid (by simpa using b2)
  clear b2
  by_cases b3 : isB c 1 tMin = true
  · have HE : Hid (atom (S f) c = two (S f) (on c) 7) := Lib.hid (by unfold atom; rw [if_neg h2, if_neg n0, if_neg n1, if_neg n2, if_pos b3])
    have HPG := Lib.hid (HP.out (isB_next b3).1)
    have HFG := Lib.hid (HFO.out b3 (by decide))
    have HB := Lib.hid b3
    clear h2 b3 n0 n1 n2
    go_enter Tryz.func158, Tryz.ntmps158
    go_wp2_with (go_at_call 17; (with_reducible refine (peek_mid H0.out).mono ?_))
    rintro e w1 ⟨rfl, M1⟩
    have hfld : ∀ w, (Instr.field 40 (.agg #[.int .i64 (next c).k, .string (next c).t, .int .i64 (next c).l, .int .i64 (next c).c]) 0).run Tryz.prog w = .ok (.int .i64 (next c).k) w := fun _ => by kernel_rfl
    have H1 := Lib.hid M1
    have r1 := M1.cell
    clear M1 r0
    go_wp2_with (go_at_call 34; (with_reducible refine (take_no H1.out (k := 1) (s := tTrue) N0.out).mono ?_))
    rintro e w2 ⟨rfl, M2⟩
    have H2 := Lib.hid M2
    have r2 := M2.cell
    clear M2 r1
    go_wp2_with (go_at_call 34; (with_reducible refine (take_no H2.out (k := 1) (s := tFalse) N1.out).mono ?_))
    rintro e w3 ⟨rfl, M3⟩
    have H3 := Lib.hid M3
    have r3 := M3.cell
    clear M3 r2
    go_wp2_with (go_at_call 34; (with_reducible refine (take_no H3.out (k := 1) (s := tIn) N2.out).mono ?_))
    rintro e w4 ⟨rfl, M4⟩
    have H4 := Lib.hid M4
    have r4 := M4.cell
    clear M4 r3
    go_wp2_with (go_at_call 34; (with_reducible refine (take_yes H4.out (k := 1) (s := tMin) HB.out).mono ?_))
    rintro e w5 ⟨rfl, M5⟩
    have H5 := Lib.hid M5
    have r5 := M5.cell
    clear M5 r4
    go_wp2_with (go_at_call 172; (with_reducible refine (two_mid HPG.out H5.out 7 HOK.out.on HFG.out).mono ?_))
    rintro e w6 ⟨v6, l6, rfl, M6⟩
    have H6 := Lib.hid M6
    have r6 := M6.cell
    clear M6 r5
    go_wp2_with fail
    go_end0
    exact H6.out.ret (by first | exact HE.out | (rw [HE.out]; simp [opT]))
  have n3 : ¬ isB c 1 tMin = true := b3
  have N3 : Hid (isB c 1 tMin = false) := Lib.hid (by simpa using b3)
  clear b3
  by_cases b4 : isB c 1 tMax = true
  · have HE : Hid (atom (S f) c = two (S f) (on c) 8) := Lib.hid (by unfold atom; rw [if_neg h2, if_neg n0, if_neg n1, if_neg n2, if_neg n3, if_pos b4])
    have HPG := Lib.hid (HP.out (isB_next b4).1)
    have HFG := Lib.hid (HFO.out b4 (by decide))
    have HB := Lib.hid b4
    clear h2 b4 n0 n1 n2 n3
    go_enter Tryz.func158, Tryz.ntmps158
    go_wp2_with (go_at_call 17; (with_reducible refine (peek_mid H0.out).mono ?_))
    rintro e w1 ⟨rfl, M1⟩
    have hfld : ∀ w, (Instr.field 40 (.agg #[.int .i64 (next c).k, .string (next c).t, .int .i64 (next c).l, .int .i64 (next c).c]) 0).run Tryz.prog w = .ok (.int .i64 (next c).k) w := fun _ => by kernel_rfl
    have H1 := Lib.hid M1
    have r1 := M1.cell
    clear M1 r0
    go_wp2_with (go_at_call 34; (with_reducible refine (take_no H1.out (k := 1) (s := tTrue) N0.out).mono ?_))
    rintro e w2 ⟨rfl, M2⟩
    have H2 := Lib.hid M2
    have r2 := M2.cell
    clear M2 r1
    go_wp2_with (go_at_call 34; (with_reducible refine (take_no H2.out (k := 1) (s := tFalse) N1.out).mono ?_))
    rintro e w3 ⟨rfl, M3⟩
    have H3 := Lib.hid M3
    have r3 := M3.cell
    clear M3 r2
    go_wp2_with (go_at_call 34; (with_reducible refine (take_no H3.out (k := 1) (s := tIn) N2.out).mono ?_))
    rintro e w4 ⟨rfl, M4⟩
    have H4 := Lib.hid M4
    have r4 := M4.cell
    clear M4 r3
    go_wp2_with (go_at_call 34; (with_reducible refine (take_no H4.out (k := 1) (s := tMin) N3.out).mono ?_))
    rintro e w5 ⟨rfl, M5⟩
    have H5 := Lib.hid M5
    have r5 := M5.cell
    clear M5 r4
    go_wp2_with (go_at_call 34; (with_reducible refine (take_yes H5.out (k := 1) (s := tMax) HB.out).mono ?_))
    rintro e w6 ⟨rfl, M6⟩
    have H6 := Lib.hid M6
    have r6 := M6.cell
    clear M6 r5
    go_wp2_with (go_at_call 172; (with_reducible refine (two_mid HPG.out H6.out 8 HOK.out.on HFG.out).mono ?_))
    rintro e w7 ⟨v7, l7, rfl, M7⟩
    have H7 := Lib.hid M7
    have r7 := M7.cell
    clear M7 r6
    go_wp2_with fail
    go_end0
    exact H7.out.ret (by first | exact HE.out | (rw [HE.out]; simp [opT]))
  have n4 : ¬ isB c 1 tMax = true := b4
  have N4 : Hid (isB c 1 tMax = false) := Lib.hid (by simpa using b4)
  clear b4
  by_cases b5 : isB c 3 tOpen = true
  · have HE : Hid (atom (S f) c = (want (S f (on c) 1).1 3 tClose, (S f (on c) 1).2)) := Lib.hid (by unfold atom; rw [if_neg h2, if_neg n0, if_neg n1, if_neg n2, if_neg n3, if_neg n4, if_pos b5])
    have HPG := Lib.hid (HP.out (isB_next b5).1)
    have HFG := Lib.hid (HFO.out b5 (by decide))
    have HB := Lib.hid b5
    clear h2 b5 n0 n1 n2 n3 n4
    go_enter Tryz.func158, Tryz.ntmps158
    go_wp2_with (go_at_call 17; (with_reducible refine (peek_mid H0.out).mono ?_))
    rintro e w1 ⟨rfl, M1⟩
    have hfld : ∀ w, (Instr.field 40 (.agg #[.int .i64 (next c).k, .string (next c).t, .int .i64 (next c).l, .int .i64 (next c).c]) 0).run Tryz.prog w = .ok (.int .i64 (next c).k) w := fun _ => by kernel_rfl
    have H1 := Lib.hid M1
    have r1 := M1.cell
    clear M1 r0
    go_wp2_with (go_at_call 34; (with_reducible refine (take_no H1.out (k := 1) (s := tTrue) N0.out).mono ?_))
    rintro e w2 ⟨rfl, M2⟩
    have H2 := Lib.hid M2
    have r2 := M2.cell
    clear M2 r1
    go_wp2_with (go_at_call 34; (with_reducible refine (take_no H2.out (k := 1) (s := tFalse) N1.out).mono ?_))
    rintro e w3 ⟨rfl, M3⟩
    have H3 := Lib.hid M3
    have r3 := M3.cell
    clear M3 r2
    go_wp2_with (go_at_call 34; (with_reducible refine (take_no H3.out (k := 1) (s := tIn) N2.out).mono ?_))
    rintro e w4 ⟨rfl, M4⟩
    have H4 := Lib.hid M4
    have r4 := M4.cell
    clear M4 r3
    go_wp2_with (go_at_call 34; (with_reducible refine (take_no H4.out (k := 1) (s := tMin) N3.out).mono ?_))
    rintro e w5 ⟨rfl, M5⟩
    have H5 := Lib.hid M5
    have r5 := M5.cell
    clear M5 r4
    go_wp2_with (go_at_call 34; (with_reducible refine (take_no H5.out (k := 1) (s := tMax) N4.out).mono ?_))
    rintro e w6 ⟨rfl, M6⟩
    have H6 := Lib.hid M6
    have r6 := M6.cell
    clear M6 r5
    go_wp2_with (go_at_call 34; (with_reducible refine (take_yes H6.out (k := 3) (s := tOpen) HB.out).mono ?_))
    rintro e w7 ⟨rfl, M7⟩
    have H7 := Lib.hid M7
    have r7 := M7.cell
    clear M7 r6
    go_wp2_with (go_at_call 106; (with_reducible refine (part_mid HPG.out H7.out 1 HOK.out.on HFG.out).mono ?_))
    rintro e w8 ⟨v8, l8, rfl, M8⟩
    have H8 := Lib.hid M8
    have r8 := M8.cell
    clear M8 r7
    go_wp2_with (go_at_call 63; (with_reducible refine (want_mid H8.out 3 tClose).mono ?_))
    rintro e w9 ⟨rfl, M9⟩
    have H9 := Lib.hid M9
    have r9 := M9.cell
    clear M9 r8
    go_wp2_with fail
    go_end0
    exact H9.out.ret (by first | exact HE.out | (rw [HE.out]; simp [opT]))
  have n5 : ¬ isB c 3 tOpen = true := b5
  have N5 : Hid (isB c 3 tOpen = false) := Lib.hid (by simpa using b5)
  clear b5
  · have HE : Hid (atom (S f) c = (nameC c, [⟨2, 0, nameS c⟩])) := Lib.hid (by unfold atom; rw [if_neg h2, if_neg n0, if_neg n1, if_neg n2, if_neg n3, if_neg n4, if_neg n5])
    clear h2 n0 n1 n2 n3 n4 n5
    go_enter Tryz.func158, Tryz.ntmps158
    go_wp2_with (go_at_call 17; (with_reducible refine (peek_mid H0.out).mono ?_))
    rintro e w1 ⟨rfl, M1⟩
    have hfld : ∀ w, (Instr.field 40 (.agg #[.int .i64 (next c).k, .string (next c).t, .int .i64 (next c).l, .int .i64 (next c).c]) 0).run Tryz.prog w = .ok (.int .i64 (next c).k) w := fun _ => by kernel_rfl
    have H1 := Lib.hid M1
    have r1 := M1.cell
    clear M1 r0
    go_wp2_with (go_at_call 34; (with_reducible refine (take_no H1.out (k := 1) (s := tTrue) N0.out).mono ?_))
    rintro e w2 ⟨rfl, M2⟩
    have H2 := Lib.hid M2
    have r2 := M2.cell
    clear M2 r1
    go_wp2_with (go_at_call 34; (with_reducible refine (take_no H2.out (k := 1) (s := tFalse) N1.out).mono ?_))
    rintro e w3 ⟨rfl, M3⟩
    have H3 := Lib.hid M3
    have r3 := M3.cell
    clear M3 r2
    go_wp2_with (go_at_call 34; (with_reducible refine (take_no H3.out (k := 1) (s := tIn) N2.out).mono ?_))
    rintro e w4 ⟨rfl, M4⟩
    have H4 := Lib.hid M4
    have r4 := M4.cell
    clear M4 r3
    go_wp2_with (go_at_call 34; (with_reducible refine (take_no H4.out (k := 1) (s := tMin) N3.out).mono ?_))
    rintro e w5 ⟨rfl, M5⟩
    have H5 := Lib.hid M5
    have r5 := M5.cell
    clear M5 r4
    go_wp2_with (go_at_call 34; (with_reducible refine (take_no H5.out (k := 1) (s := tMax) N4.out).mono ?_))
    rintro e w6 ⟨rfl, M6⟩
    have H6 := Lib.hid M6
    have r6 := M6.cell
    clear M6 r5
    go_wp2_with (go_at_call 34; (with_reducible refine (take_no H6.out (k := 3) (s := tOpen) N5.out).mono ?_))
    rintro e w7 ⟨rfl, M7⟩
    have H7 := Lib.hid M7
    have r7 := M7.cell
    clear M7 r6
    go_wp2_with (go_at_call 62; (with_reducible refine (name_mid H7.out HOK.out).mono ?_))
    rintro e w8 ⟨rfl, M8⟩
    have H8 := Lib.hid M8
    have r8 := M8.cell
    clear M8 r7
    go_wp2_with (go_at_call 157; (with_reducible refine (add_mid H8.out 2 0 (nameS c) (nameS_small _ HOK.out)).mono ?_))
    rintro e w9 ⟨v9, l9, rfl, M9⟩
    have H9 := Lib.hid M9
    have r9 := M9.cell
    clear M9 r8
    go_wp2_with fail
    go_end0
    exact H9.out.ret HE.out
end Go.Proofs.YtcfcpbkeedfbpaaGreatDoor

namespace Go.Proofs.YtcfcpbkeedfbpaaGreatDoor
namespace ActSpec
open CurSpec TermSpec EvalSpec NamesSpec ExprSpec

abbrev wAny : ByteArray := ⟨#[97, 110, 121]⟩
abbrev wSet : ByteArray := ⟨#[58, 61]⟩
abbrev wCom : ByteArray := ⟨#[44]⟩
/-- The expression that is next. -/
def rdE (c : Cur) : Pa := readP (c.L.length + 1) c
theorem fit_self (c : Cur) : Fit (c.L.length + 1) c := fun _ => Nat.lt_succ_self _
/-- The act that is next. -/
def oneR (c : Cur) : Cur × Ac :=
  if isB c 1 wAny = true then (nameC (on c), ⟨nameS (on c), true, []⟩)
  else ((rdE (want (nameC c) 3 wSet)).1, ⟨nameS c, false, (rdE (want (nameC c) 3 wSet)).2⟩)
def fullR (c : Cur) (out : List Ac) : Cur := if out.length = 8 then fail c 8 else c
def stepR (c : Cur) (out : List Ac) : Cur × List Ac := ((oneR (fullR c out)).1, out ++ [(oneR (fullR c out)).2])
def goR : Nat → Cur → List Ac → Cur × List Ac
  | 0, c, out => (c, out)
  | f + 1, c, out => if isB (stepR c out).1 3 wCom = true then goR f (on (stepR c out).1) (stepR c out).2 else stepR c out
def allR (c : Cur) (out : List Ac) : Cur × List Ac := goR (c.L.length + 1) c out
def tailR (c : Cur) (out : List Ac) : Cur × List Ac := if isB c 3 wCom = true then allR (on c) out else (c, out)
/-- The acts that are next; nothing, with a fault. -/
def readA (c : Cur) : Cur × List Ac := if (allR c []).1.bad = 0 then allR c [] else ((allR c []).1, [])

theorem fail_L (c : Cur) (e : Int) : (fail c e).L = c.L ∧ (c.bad ≠ 0 → (fail c e).bad ≠ 0) ∧ (e ≠ 0 → (fail c e).bad ≠ 0) := by
  unfold fail
  split
  · rename_i h
    exact ⟨rfl, fun h' => absurd h.1 h', fun he => he⟩
  · rename_i h
    exact ⟨rfl, id, fun he hb => h ⟨hb, he⟩⟩
theorem on_le (c : Cur) : (on c).L.length ≤ c.L.length := by rw [on_len]; omega
theorem nameC_le (c : Cur) : (nameC c).L.length ≤ c.L.length ∧ (c.bad ≠ 0 → (nameC c).bad ≠ 0) := by
  unfold nameC
  split
  · exact ⟨on_le c, fun h => by rw [(on_bad c).1]; exact h⟩
  · rw [(fail_L c 2).1]; exact ⟨Nat.le_refl _, (fail_L c 2).2.1⟩
theorem want_le (c : Cur) (k : Int) (s : ByteArray) : (want c k s).L.length ≤ c.L.length ∧ (c.bad ≠ 0 → (want c k s).bad ≠ 0) := by
  unfold want
  split
  · exact ⟨on_le c, fun h => by rw [(on_bad c).1]; exact h⟩
  · rw [(fail_L c 2).1]; exact ⟨Nat.le_refl _, (fail_L c 2).2.1⟩
theorem rdE_le (c : Cur) : (rdE c).1.L.length ≤ c.L.length ∧ (c.bad ≠ 0 → (rdE c).1.bad ≠ 0) := by
  unfold rdE readP
  have h := S_less (c.L.length + 1) c 1
  dsimp only
  split
  · rw [(fail_L _ _).1]
    rename_i h0
    exact ⟨h.1, fun hc => absurd (h.2 h0) hc⟩
  · rename_i h0
    exact ⟨h.1, fun _ => h0⟩
theorem oneR_le (c : Cur) : (oneR c).1.L.length ≤ c.L.length ∧ (c.bad ≠ 0 → (oneR c).1.bad ≠ 0) := by
  unfold oneR
  split
  · have h1 := nameC_le (on c)
    exact ⟨Nat.le_trans h1.1 (on_le c), fun h => h1.2 (by rw [(on_bad c).1]; exact h)⟩
  · have h1 := rdE_le (want (nameC c) 3 wSet)
    have h2 := want_le (nameC c) 3 wSet
    have h3 := nameC_le c
    exact ⟨Nat.le_trans h1.1 (Nat.le_trans h2.1 h3.1), fun h => h1.2 (h2.2 (h3.2 h))⟩
theorem fullR_le (c : Cur) (out : List Ac) : (fullR c out).L.length ≤ c.L.length ∧ (c.bad ≠ 0 → (fullR c out).bad ≠ 0) ∧ (out.length = 8 → (fullR c out).bad ≠ 0) := by
  unfold fullR
  split
  · rw [(fail_L c 8).1]
    exact ⟨Nat.le_refl _, (fail_L c 8).2.1, fun _ => (fail_L c 8).2.2 (by decide)⟩
  · rename_i h
    exact ⟨Nat.le_refl _, id, fun h' => absurd h' h⟩
theorem stepR_le (c : Cur) (out : List Ac) : (stepR c out).1.L.length ≤ c.L.length ∧ (c.bad ≠ 0 → (stepR c out).1.bad ≠ 0) ∧ (out.length = 8 → (stepR c out).1.bad ≠ 0) ∧ (stepR c out).2.length = out.length + 1 := by
  have h1 := oneR_le (fullR c out)
  have h2 := fullR_le c out
  exact ⟨Nat.le_trans h1.1 h2.1, fun h => h1.2 (h2.2.1 h), fun h => h1.2 (h2.2.2 h), by simp [stepR]⟩
theorem goR_same : ∀ (f g : Nat) (c : Cur) (out : List Ac), c.L.length < f → c.L.length < g → goR f c out = goR g c out
  | 0, _, _, _, h, _ => absurd h (by omega)
  | _ + 1, 0, _, _, _, h => absurd h (by omega)
  | f + 1, g + 1, c, out, hf, hg => by
    unfold goR
    split
    · rename_i hb
      have h1 := isB_real hb (by decide)
      have h2 := (stepR_le c out).1
      exact goR_same f g _ _ (by omega) (by omega)
    · rfl
theorem allR_step (c : Cur) (out : List Ac) : allR c out = tailR (stepR c out).1 (stepR c out).2 := by
  unfold allR tailR
  rw [goR]
  split
  · rename_i hb
    have h1 := isB_real hb (by decide)
    have h2 := (stepR_le c out).1
    exact goR_same _ _ _ _ (by omega) (by omega)
  · rfl
theorem tailR_yes {c : Cur} {out : List Ac} (h : isB c 3 wCom = true) : tailR c out = tailR (stepR (on c) out).1 (stepR (on c) out).2 := by
  rw [← allR_step]
  unfold tailR
  rw [if_pos h]
theorem tailR_no {c : Cur} {out : List Ac} (h : ¬ isB c 3 wCom = true) : tailR c out = (c, out) := by unfold tailR; rw [if_neg h]
theorem readP_ok (f : Nat) {c : Cur} (h : Ok c) : Ok (readP f c).1 := by
  unfold readP
  have := ok_S f 1 h
  dsimp only
  split
  · exact this.fail _
  · exact this
theorem oneR_ok {c : Cur} (h : Ok c) : Ok (oneR c).1 := by
  unfold oneR
  split
  · exact h.on.nameC
  · exact readP_ok _ (h.nameC.want _ _)
theorem fullR_ok {c : Cur} (out : List Ac) (h : Ok c) : Ok (fullR c out) := by
  unfold fullR
  split
  · exact h.fail _
  · exact h
theorem stepR_ok {c : Cur} (out : List Ac) (h : Ok c) : Ok (stepR c out).1 := oneR_ok (fullR_ok out h)
/-- No more than nine are read; with the ninth there is a fault. -/
def Few9 (c : Cur) (out : List Ac) : Prop := out.length ≤ 9 ∧ (out.length = 9 → c.bad ≠ 0)
theorem few9_step {c : Cur} {out : List Ac} (h : Few9 c out) (hb : isB c 3 wCom = true) : Few9 (stepR (on c) out).1 (stepR (on c) out).2 := by
  have h0 := (isB_real hb (by decide)).1
  have h1 := stepR_le (on c) out
  have h8 : out.length ≤ 8 := by
    rcases Nat.lt_or_ge out.length 9 with h' | h'
    · omega
    · exact absurd h0 (h.2 (by have := h.1; omega))
  exact ⟨by rw [h1.2.2.2]; omega, fun h9 => h1.2.2.1 (by rw [h1.2.2.2] at h9; omega)⟩
end ActSpec
end Go.Proofs.YtcfcpbkeedfbpaaGreatDoor

namespace Go.Proofs.YtcfcpbkeedfbpaaGreatDoor
open Go.RowKit CurSpec TermSpec ExprSpec NamesSpec
set_option maxRecDepth 100000

theorem atom_good {rec : Cur → Int → Pa} {c : Cur} (h : (atom rec c).1.bad = 0) : c.bad = 0 := by
  by_cases h0 : c.bad = 0
  · exact h0
  · have e : atom rec c = (nameC c, [⟨2, 0, nameS c⟩]) := by
      unfold atom
      rw [if_neg (by rw [next_dead h0]; decide), if_neg (by rw [isB_dead _ _ h0]; decide), if_neg (by rw [isB_dead _ _ h0]; decide), if_neg (by rw [isB_dead _ _ h0]; decide), if_neg (by rw [isB_dead _ _ h0]; decide), if_neg (by rw [isB_dead _ _ h0]; decide), if_neg (by rw [isB_dead _ _ h0]; decide)]
    rw [e] at h
    have := (nameC_good h).1
    rw [nameB_dead h0] at this
    cases this
theorem last_mid {f : Nat} {c : Cur} (hP : c.bad = 0 → PartOk f) (ok : Ok c) (hf : Fit (f + 1) c) {W : World} {R B : Nat} {v : Value} {pre : List Tm} {x : List Tm} {v1 : Value} {l1 : List Tm} {w : World} (h : Mid W R B v pre c x v1 l1 w) :
    Calls Tryz.prog 158 #[.pointer (some ⟨R, 0, none⟩)] w fun e w' => ∃ v2 l2, e = .returned (.tuple #[]) ∧ Mid W R B v pre (atom (S f) c).1 (x ++ (atom (S f) c).2) v2 l2 w' := by
  refine (last_step f c hP ok hf R B v1 l1 w h.sig h.rd).mono ?_
  rintro e w' ⟨v2, l2, rfl, hr, hc, hh⟩
  exact ⟨v2, l2, rfl, h.part atom_good hr hc hh⟩

set_option maxHeartbeats 4000000 in
theorem head_step (f : Nat) (c : Cur) (hP : c.bad = 0 → PartOk f) (ok : Ok c) (hf : Fit (f + 1) c) (R B : Nat) (v : Value) (l : List Tm) (k : Int) (w : World) (hs : SignsIn w) (h : RdAt w R B v c l) :
    Calls Tryz.prog 132 #[.pointer (some ⟨R, 0, none⟩), .int .i64 k] w (RetHead w R B v l (hd (S f) c k)) := by
  have HP := Lib.hid hP
  have H0 := Lib.hid (Mid.start hs h)
  have r0 := H0.out.cell
  have HOK := Lib.hid ok
  have HF := Lib.hid hf
  have HFO : Hid (∀ {k : Int} {s : ByteArray}, isB c k s = true → k ≠ 0 → Fit f (on c)) := Lib.hid (fun hb hk _ => by
    have := isB_real hb hk
    have := hf this.1
    omega)
  clear hs h ok hf hP
  by_cases hn : k ≤ 3 ∧ isB c 1 tNot = true
  · have HE : Hid (hd (S f) c k = (((S f (on c) 3).1, opT 12 :: (S f (on c) 3).2), 3)) := Lib.hid (if_pos hn)
    have HPG := Lib.hid (HP.out (isB_next hn.2).1)
    have HFG := Lib.hid (HFO.out hn.2 (by decide))
    have HB := Lib.hid hn.2
    have hk := hn.1
    clear hn
    go_enter Tryz.func132, Tryz.ntmps132
    go_wp2_with (go_at_call 34; (with_reducible refine (take_yes H0.out (k := 1) (s := tNot) HB.out).mono ?_))
    rintro e w1 ⟨rfl, M1⟩
    have H1 := Lib.hid M1
    clear M1 r0
    go_wp2_with (go_at_call 157; (with_reducible refine (add_mid H1.out 12 0 ⟨#[]⟩ (by decide)).mono ?_))
    rintro e w2 ⟨v2, l2, rfl, M2⟩
    have H2 := Lib.hid M2
    clear M2
    go_wp2_with (go_at_call 106; (with_reducible refine (part_mid HPG.out H2.out 3 HOK.out.on HFG.out).mono ?_))
    rintro e w3 ⟨v3, l3, rfl, M3⟩
    have H3 := Lib.hid M3
    clear M3
    go_wp2_with fail
    go_ret
    exact H3.out.head HE.out
  · have hX : ∃ X : Prop, X := ⟨True, trivial⟩
    by_cases hk : k ≤ 3
    · have hnb : isB c 1 tNot = false := by simpa using fun h => hn ⟨hk, h⟩
      have HNB := Lib.hid hnb
      by_cases hg : isB c 3 tNeg = true
      · have HE : Hid (hd (S f) c k = (((S f (on c) 7).1, opT 3 :: (S f (on c) 7).2), 7)) := Lib.hid (by unfold hd; rw [if_neg hn, if_pos hg])
        have HPG := Lib.hid (HP.out (isB_next hg).1)
        have HFG := Lib.hid (HFO.out hg (by decide))
        have HB := Lib.hid hg
        clear hn hnb hg hX
        go_enter Tryz.func132, Tryz.ntmps132
        go_wp2_with (go_at_call 34; (with_reducible refine (take_no H0.out (k := 1) (s := tNot) HNB.out).mono ?_))
        rintro e w1 ⟨rfl, M1⟩
        have H1 := Lib.hid M1
        have r1 := M1.cell
        clear M1 r0
        go_wp2_with (go_at_call 34; (with_reducible refine (take_yes H1.out (k := 3) (s := tNeg) HB.out).mono ?_))
        rintro e w2 ⟨rfl, M2⟩
        have H2 := Lib.hid M2
        clear M2 r1
        go_wp2_with (go_at_call 157; (with_reducible refine (add_mid H2.out 3 0 ⟨#[]⟩ (by decide)).mono ?_))
        rintro e w3 ⟨v3, l3, rfl, M3⟩
        have H3 := Lib.hid M3
        clear M3
        go_wp2_with (go_at_call 106; (with_reducible refine (part_mid HPG.out H3.out 7 HOK.out.on HFG.out).mono ?_))
        rintro e w4 ⟨v4, l4, rfl, M4⟩
        have H4 := Lib.hid M4
        clear M4
        go_wp2_with fail
        go_ret
        exact H4.out.head HE.out
      · have HE : Hid (hd (S f) c k = (atom (S f) c, 8)) := Lib.hid (by unfold hd; rw [if_neg hn, if_neg hg])
        have hgb : isB c 3 tNeg = false := by simpa using hg
        have HGB := Lib.hid hgb
        clear hn hnb hg hgb hX
        go_enter Tryz.func132, Tryz.ntmps132
        go_wp2_with (go_at_call 34; (with_reducible refine (take_no H0.out (k := 1) (s := tNot) HNB.out).mono ?_))
        rintro e w1 ⟨rfl, M1⟩
        have H1 := Lib.hid M1
        have r1 := M1.cell
        clear M1 r0
        go_wp2_with (go_at_call 34; (with_reducible refine (take_no H1.out (k := 3) (s := tNeg) HGB.out).mono ?_))
        rintro e w2 ⟨rfl, M2⟩
        have H2 := Lib.hid M2
        clear M2 r1
        go_wp2_with (go_at_call 158; (with_reducible refine (last_mid HP.out HOK.out HF.out H2.out).mono ?_))
        rintro e w3 ⟨v3, l3, rfl, M3⟩
        have H3 := Lib.hid M3
        clear M3
        go_wp2_with fail
        go_ret
        exact H3.out.head HE.out
    · have hkf : decide (k ≤ 3) = false := decide_eq_false hk
      by_cases hg : isB c 3 tNeg = true
      · have HE : Hid (hd (S f) c k = (((S f (on c) 7).1, opT 3 :: (S f (on c) 7).2), 7)) := Lib.hid (by unfold hd; rw [if_neg hn, if_pos hg])
        have HPG := Lib.hid (HP.out (isB_next hg).1)
        have HFG := Lib.hid (HFO.out hg (by decide))
        have HB := Lib.hid hg
        clear hn hg hX
        go_enter Tryz.func132, Tryz.ntmps132
        go_wp2_with (go_at_call 34; (with_reducible refine (take_yes H0.out (k := 3) (s := tNeg) HB.out).mono ?_))
        (first | rintro e w2 rfl M2 | rintro e w2 ⟨rfl, M2⟩)
        have H2 := Lib.hid M2
        clear M2 r0
        go_wp2_with (go_at_call 157; (with_reducible refine (add_mid H2.out 3 0 ⟨#[]⟩ (by decide)).mono ?_))
        rintro e w3 ⟨v3, l3, rfl, M3⟩
        have H3 := Lib.hid M3
        clear M3
        go_wp2_with (go_at_call 106; (with_reducible refine (part_mid HPG.out H3.out 7 HOK.out.on HFG.out).mono ?_))
        rintro e w4 ⟨v4, l4, rfl, M4⟩
        have H4 := Lib.hid M4
        clear M4
        go_wp2_with fail
        go_ret
        exact H4.out.head HE.out
      · have HE : Hid (hd (S f) c k = (atom (S f) c, 8)) := Lib.hid (by unfold hd; rw [if_neg hn, if_neg hg])
        have hgb : isB c 3 tNeg = false := by simpa using hg
        have HGB := Lib.hid hgb
        clear hn hg hgb hX
        go_enter Tryz.func132, Tryz.ntmps132
        go_wp2_with (go_at_call 34; (with_reducible refine (take_no H0.out (k := 3) (s := tNeg) HGB.out).mono ?_))
        (first | rintro e w2 rfl M2 | rintro e w2 ⟨rfl, M2⟩)
        have H2 := Lib.hid M2
        clear M2 r0
        go_wp2_with (go_at_call 158; (with_reducible refine (last_mid HP.out HOK.out HF.out H2.out).mono ?_))
        rintro e w3 ⟨v3, l3, rfl, M3⟩
        have H3 := Lib.hid M3
        clear M3
        go_wp2_with fail
        go_ret
        exact H3.out.head HE.out

def PtRel (W : World) (R B : Nat) (v : Value) (pre : List Tm) (q : Int) (f : Nat) (G : Prop) (P : Pa) (g : Nat) (i : Value) (wr : World) : Prop :=
  ∃ lev c x v1 l1 k, i = .int .i64 lev ∧ Mid W R B v pre c x v1 l1 wr ∧ Ok c ∧ Fit k c ∧ k ≤ f ∧ (c.bad = 0 → G) ∧ C k lev q c x = P ∧ k = g
theorem hd_good {rec : Cur → Int → Pa} {c : Cur} {q : Int} (hb : (hd rec c q).1.1.bad = 0) : c.bad = 0 := by
  by_cases h0 : c.bad = 0
  · exact h0
  · have e : hd rec c q = (atom rec c, 8) := by
      unfold hd
      rw [if_neg (by rw [isB_dead _ _ h0]; simp), if_neg (by rw [isB_dead _ _ h0]; decide)]
    rw [e] at hb
    exact atom_good hb
/-- Behind the sign, a term put in: the sign's block is as it was. -/
theorem sg_hold {w w' : World} {R B : Nat} {v v' : Value} {i : Nat} {o : Obj} (h : w.heap[i]? = some o) (hne : i ≠ B ∧ i ≠ R ∧ v.ownBlock ≠ some i) (hh : Hold R B v v' w w') : w'.heap[i]? = some o ∧ i ≠ B ∧ i ≠ R ∧ v'.ownBlock ≠ some i := by
  have hi := (Array.getElem?_eq_some_iff.1 h).1
  exact ⟨(hh.block i hi hne.1 hne.2.1 hne.2.2).trans h, hne.1, hne.2.1, hh.apart hi hne.2.2⟩
set_option maxHeartbeats 8000000 in
theorem part_walk (f : Nat) (c : Cur) (hP : c.bad = 0 → ∀ g, g ≤ f → PartOk g) (ok : Ok c) (hf : Fit (f + 1) c) (R B : Nat) (v : Value) (l : List Tm) (q : Int) (w : World) (hs : SignsIn w) (h : RdAt w R B v c l) :
    Calls Tryz.prog 106 #[.pointer (some ⟨R, 0, none⟩), .int .i64 q] w (RetPart w R B v l (C f (hd (S f) c q).2 q (hd (S f) c q).1.1 (hd (S f) c q).1.2)) := by
  obtain ⟨A, cp, rfl⟩ := own_shape h.own
  obtain ⟨r0, r1⟩ := cells_2 h.blk
  obtain ⟨n, hn⟩ : ∃ n, n = l.length := ⟨_, rfl⟩
  have HH := Lib.hid (head_step f c (fun h0 => hP h0 f (Nat.le_refl _)) ok hf R B _ l q w hs h)
  have HD : Hid (Ok (hd (S f) c q).1.1 ∧ Fit f (hd (S f) c q).1.1 ∧ ((hd (S f) c q).1.1.bad = 0 → c.bad = 0)) := Lib.hid (by
    refine ⟨inv_ok.hd (fun c k h => ok_S f k h) ok q, fun hb => ?_, hd_good⟩
    exact (hf.fitHd (hd_good hb) q) hb)
  obtain ⟨D, hD⟩ : ∃ D, D = hd (S f) c q := ⟨_, rfl⟩
  rw [← hD] at HH HD ⊢
  obtain ⟨P, hPp⟩ : ∃ P, P = C f D.2 q D.1.1 D.1.2 := ⟨_, rfl⟩
  have HPP := Lib.hid hPp
  rw [← hPp]
  have HN := Lib.hid hn
  rw [← hn] at HH r1
  have HP := Lib.hid hP
  have HS := Lib.hid hs
  have HR := Lib.hid h
  clear hn hD hPp hP ok hf hs h
  go_enter Tryz.func106, Tryz.ntmps106
  go_wp2_with (go_at_call 132; (with_reducible refine HH.out.mono ?_))
  rintro e w1 ⟨v1, l1, rfl, hr1, hc1, hh1⟩
  have H1 : Hid (Mid w R B (.slice A n cp) l D.1.1 D.1.2 v1 l1 w1) := Lib.hid ⟨hr1, hc1, hh1, HS.out.hold (by rw [HN.out]; exact HR.out) hh1⟩
  clear hr1 hc1 hh1 r0 r1
  go_wp2_with fail
  go_loopg [5] f (fun g i wr => PtRel w R B (.slice A n cp) l q f (c.bad = 0) P g i wr)
  case atStart => exact ⟨D.2, D.1.1, D.1.2, v1, l1, f, rfl, H1.out, HD.out.1, HD.out.2.1, Nat.le_refl _, HD.out.2.2, HPP.out.symm, rfl⟩
  case round =>
    obtain ⟨lev, d, x, v2, l2, k, rfl, M2, okd, fd, hle, hG, hC, hk⟩ := hrel
    have HK := Lib.hid hk
    clear hk
    have HB := Lib.hid (between_at R B v2 d l2 lev q wr M2.sig M2.rd)
    have H2 := Lib.hid M2
    have HOK := Lib.hid okd
    have HC := Lib.hid hC
    cases hs : sgn d lev q with
    | none =>
      rw [hs] at HB
      have HE := Lib.hid (C_stop k x hs)
      clear M2 okd fd hle hC hs hG
      go_wp2_with (go_at_call 133; (with_reducible refine HB.out.mono ?_))
      rintro e x3 ⟨s, b, y, rfl, ⟨rfl, rfl, rfl⟩, hr3, hb3⟩
      have H3 := Lib.hid (H2.out.cur hr3.cur hb3 id)
      clear hr3 hb3
      go_wp2_with fail
      go_end0
      have hnl := HN.out
      subst hnl
      exact (H3.out.alloc _).ret (HC.out.symm.trans HE.out)
    | some s =>
      rw [hs] at HB
      have hd0 := sgn_good hs
      cases k with
      | zero => exact absurd hd0 fd.zero
      | succ g =>
        have HE := Lib.hid (C_step g x hs)
        have HFO := Lib.hid (fd.fitOn hs)
        have HFS := Lib.hid (fd.fitStep hs s.right)
        have HG := Lib.hid (hG hd0)
        have HPG := Lib.hid (HP.out (hG hd0) g (by omega))
        have HLE := Lib.hid hle
        clear M2 okd fd hle hC hs hG hd0
        go_wp2_with (go_at_call 133; (with_reducible refine HB.out.mono ?_))
        rintro e x3 ⟨s', b, y, rfl, ⟨rfl, rfl, rfl⟩, hr3, hb3⟩
        have H3 := Lib.hid (H2.out.cur hr3.cur hb3 (fun h => by rw [(on_bad d).1] at h; exact h))
        have HAP := Lib.hid (H3.out.rd.apart (Nat.le_refl _))
        obtain ⟨s0, s1, s2, s3, s4⟩ := cells_5 (heap_alloc_new x3 (sgO s'))
        have HINS : Hid (Calls Tryz.prog 134 #[.pointer (some ⟨R, 0, none⟩), .int .i64 n, .agg #[.int .i64 s'.op, .int .i64 0, .string ⟨#[]⟩]] (x3.alloc (sgO s')) (RetRd (x3.alloc (sgO s')) R B v2 (on d) (ins l2 l.length (opT s'.op)))) := Lib.hid (by
          rw [HN.out]
          exact insert_at R B v2 (on d) l2 l.length (opT s'.op) _ (H3.out.alloc _).rd H3.out.cap.1 (show (⟨#[]⟩ : ByteArray).size ≤ 9223372036854775807 by decide))
        clear hr3 hb3
        go_wp2_with (go_at_call 134; (with_reducible refine HINS.out.mono ?_))
        rintro e x4 ⟨v4, rfl, hr4, hh4⟩
        have H4 := Lib.hid ((H3.out.alloc (sgO s')).ins (opT s'.op) hr4 hh4)
        have HK4 := Lib.hid (sg_hold (heap_alloc_new x3 (sgO s')) HAP.out hh4)
        obtain ⟨t0, t1, t2, t3, t4⟩ := cells_5 HK4.out.1
        have HPT := Lib.hid (HPG.out R B v4 (on d) (ins l2 l.length (opT s'.op)) s'.right x4 H4.out.sig H4.out.rd HOK.out.on HFO.out)
        clear hr4 hh4 s0 s1 s2 s3 s4
        go_wp2_with (go_at_call 106; (with_reducible refine HPT.out.mono ?_))
        rintro e x5 ⟨v5, l5, rfl, hr5, hc5, hh5⟩
        have H5 := Lib.hid (H4.out.part (S_less g (on d) s'.right).2 hr5 hc5 hh5)
        obtain ⟨u0, u1, u2, u3, u4⟩ := cells_5 (sg_hold HK4.out.1 HK4.out.2 hh5).1
        clear hr5 hc5 hh5 t0 t1 t2 t3 t4
        go_wp2_with fail
        go_roundg g
        case rel => exact ⟨s'.lev, _, _, v5, l5, g, rfl, H5.out, ok_S g _ HOK.out.on, HFS.out, by have := HLE.out; omega, fun _ => HG.out, by rw [← HC.out, HE.out]; rfl, rfl⟩
        case measure => have := HK.out; omega

theorem part_ok : ∀ f, PartOk f := by
  intro f
  induction f using Nat.strongRecOn with
  | ind f ih =>
    intro R B v c l q w hs h ok hf
    by_cases h0 : c.bad = 0
    · cases f with
      | zero => exact absurd h0 hf.zero
      | succ f =>
        rw [S_good f q h0]
        exact part_walk f c (fun _ g hg => ih g (by omega)) ok hf R B v l q w hs h
    · rw [S_dead f q h0]
      refine (part_walk 0 c (fun h => absurd h h0) ok (fun h => absurd h h0) R B v l q w hs h).mono ?_
      rintro e w' ⟨v', l', rfl, hr, hc, hh⟩
      have e1 : (C 0 (hd (S 0) c q).2 q (hd (S 0) c q).1.1 (hd (S 0) c q).1.2).1 = c := by
        show (hd (S 0) c q).1.1 = c
        have e : hd (S 0) c q = (atom (S 0) c, 8) := by
          unfold hd
          rw [if_neg (by rw [isB_dead _ _ h0]; simp), if_neg (by rw [isB_dead _ _ h0]; decide)]
        rw [e]
        show (atom (S 0) c).1 = c
        unfold atom
        rw [if_neg (by rw [next_dead h0]; decide), if_neg (by rw [isB_dead _ _ h0]; decide), if_neg (by rw [isB_dead _ _ h0]; decide), if_neg (by rw [isB_dead _ _ h0]; decide), if_neg (by rw [isB_dead _ _ h0]; decide), if_neg (by rw [isB_dead _ _ h0]; decide), if_neg (by rw [isB_dead _ _ h0]; decide)]
        show nameC c = c
        unfold nameC
        rw [if_neg (by rw [nameB_dead h0]; decide)]
        exact fail_dead _ h0
      rw [e1] at hr hc
      exact ⟨v', l', rfl, hr, hc.dead h0, hh⟩
end Go.Proofs.YtcfcpbkeedfbpaaGreatDoor

namespace Go.Proofs.YtcfcpbkeedfbpaaGreatDoor
open Go.RowKit CurSpec TermSpec ExprSpec NamesSpec
set_option maxRecDepth 100000

def RetRead (W : World) (B : Nat) (p : Pa) (e : Ending) (w' : World) : Prop := ∃ A n cp, e = .returned (.slice A n cp) ∧ CurAt w' B p.1 ∧ Tms w' (.slice A n cp) p.2 ∧ n = p.2.length ∧ W.grownBy w' (some B) ∧ ∀ b, (Value.slice A n cp).ownBlock = some b → W.heap.size ≤ b
theorem cap_chk {c : Cur} {x l : List Tm} (h : CapD c [] x l) (h0 : c.bad = 0) : chk l = chk x ∧ (chk x = 0 → l = x) := by
  have h2 := h.2 h0
  split at h2
  · rw [List.nil_append] at h2
    rw [h2]
    exact ⟨rfl, fun _ => rfl⟩
  · rename_i h3
    simp only [List.length_nil, Nat.zero_add] at h3
    have e1 : chk l = 8 := chk_full (by omega)
    have e2 : chk x = 8 := chk_full (by omega)
    rw [e1, e2]
    exact ⟨rfl, fun h => absurd h (by decide)⟩
theorem readP_cur {f : Nat} {c : Cur} {l : List Tm} (h : CapD (S f c 1).1 [] (S f c 1).2 l) : fail (S f c 1).1 (chk l) = (readP f c).1 := by
  unfold readP
  by_cases h0 : (S f c 1).1.bad = 0
  · rw [if_pos h0, (cap_chk h h0).1]
  · rw [if_neg h0, fail_dead _ h0]
theorem fail_good {c : Cur} {e : Int} (h : (fail c e).bad = 0) : c.bad = 0 ∧ e = 0 := by
  by_cases h0 : c.bad = 0
  · by_cases he : e = 0
    · exact ⟨h0, he⟩
    · rw [fail_yes h0 he] at h; exact absurd h he
  · rw [fail_dead e h0] at h; exact absurd h h0
theorem readP_list {f : Nat} {c : Cur} {l : List Tm} (h : CapD (S f c 1).1 [] (S f c 1).2 l) :
    ((fail (S f c 1).1 (chk l)).bad = 0 → (readP f c).2 = l) ∧ ((fail (S f c 1).1 (chk l)).bad ≠ 0 → (readP f c).2 = []) := by
  refine ⟨fun hb => ?_, fun hb => ?_⟩
  · obtain ⟨h0, he⟩ := fail_good hb
    have h2 := cap_chk h h0
    unfold readP
    rw [if_pos h0, if_pos (by rw [← h2.1]; exact he), h2.2 (by rw [← h2.1]; exact he)]
  · unfold readP
    by_cases h0 : (S f c 1).1.bad = 0
    · rw [if_pos h0]
      have h2 := cap_chk h h0
      refine if_neg (fun he => hb ?_)
      rw [h2.1, he, fail_zero]
      exact h0
    · rw [if_neg h0]
theorem tms_nil (w : World) : Tms w (.slice none 0 0) [] := ⟨0, rfl, Rdk.nil 3 w⟩
theorem rd_tms {w : World} {R B : Nat} {A : Option Addr} {n cp : Nat} {c : Cur} {l : List Tm} (h : RdAt w R B (.slice A n cp) c l) : Tms w (.slice A n cp) l ∧ n = l.length := by
  have := Rdk.own h.own
  obtain ⟨A', c', heq, _⟩ := this
  cases heq
  exact ⟨⟨_, rfl, Rdk.own h.own⟩, rfl⟩
theorem hold_new {w x : World} {o : Obj} {B : Nat} {v' : Value} (h : Hold w.heap.size B (.slice none 0 0) v' (w.alloc o) x) : w.grownBy x (some B) := by
  have hz := h.size
  rw [World.size_alloc] at hz
  exact ⟨h.os, h.tape, h.output, by omega, fun i hi hn => (h.block i (by rw [World.size_alloc]; omega) (by simpa using hn) (by omega) (by simp [Value.ownBlock])).trans (heap_alloc_old _ _ hi)⟩

set_option maxHeartbeats 4000000 in
theorem read_at (B : Nat) (c : Cur) (f : Nat) (w : World) (hs : SignsIn w) (h : CurAt w B c) (ok : Ok c) (hf : Fit f c) :
    Calls Tryz.prog 64 #[.pointer (some ⟨B, 0, none⟩)] w (RetRead w B (readP f c)) := by
  have hB := h.lt
  have h0 : RdAt (w.alloc (.cells #[.pointer (some ⟨B, 0, none⟩), .slice none 0 0] 147)) w.heap.size B (.slice none 0 0) c [] :=
    ⟨h.alloc _, heap_alloc_new _ _, ⟨rfl, .inl ⟨rfl, rfl⟩⟩, hB, by simp, by intro t ht; cases ht⟩
  have HPT := Lib.hid (part_ok f w.heap.size B (.slice none 0 0) c [] 1 _ (hs.alloc _) h0 ok hf)
  have HRL := Lib.hid (fun (l : List Tm) (hc : CapD (S f c 1).1 [] (S f c 1).2 l) => And.intro (readP_cur hc) (readP_list hc))
  obtain ⟨D, hD⟩ : ∃ D, D = S f c 1 := ⟨_, rfl⟩
  obtain ⟨P, hP⟩ : ∃ P, P = readP f c := ⟨_, rfl⟩
  rw [← hD] at HPT HRL
  rw [← hP] at HRL ⊢
  clear hD hP hs h ok hf h0 hB
  go_enter Tryz.func64, Tryz.ntmps64
  go_wp2_with (go_at_call 106; (with_reducible refine HPT.out.mono ?_))
  rintro e x1 ⟨v, l, rfl, hr, hc, hh⟩
  obtain ⟨A, cp, rfl⟩ := own_shape hr.own
  obtain ⟨n, hn⟩ : ∃ n, n = l.length := ⟨_, rfl⟩
  rw [← hn] at hr hh
  have ht := rd_tms hr
  have HC := Lib.hid (check_any A n cp l hn (by have := hr.few; omega) hr.small x1.drew ht.1)
  have HN := Lib.hid hn
  have HH := Lib.hid hh
  have HR := Lib.hid hr
  have HT := Lib.hid ht.1
  have HL := Lib.hid (HRL.out l hc)
  obtain ⟨r0, r1⟩ := cells_2 hr.blk
  obtain ⟨ck, hck⟩ : ∃ ck, ck = chk l := ⟨_, rfl⟩
  rw [← hck] at HC HL
  have HFL : Hid (∀ W, Below x1.drew.heap.size x1.drew W → Calls Tryz.prog 35 #[.pointer (some ⟨B, 0, none⟩), .int .i64 ck] W (RetAt W B (fail D.1 ck))) := Lib.hid (fun W hW => fail_at B D.1 ck W (hr.drew.cur.keep hW))
  have HCL : Hid (∀ W, Below x1.drew.heap.size x1.drew W → RdAt W w.heap.size B (.slice A n cp) D.1 l) := Lib.hid (fun W hW => hr.drew.keep hW)
  clear hr hc hh hn ht hck
  go_wp2_with fail
  go_region_law (first
    | (go_simp; go_at_call 54; (with_reducible refine HC.out.mono ?_); rintro e x2 ⟨rfl, hb2⟩; have HB2 := Lib.hid hb2; clear hb2; obtain ⟨s0, s1⟩ := cells_2 (HCL.out _ HB2.out).blk)
    | (go_simp; go_at_call 35; (with_reducible refine (HFL.out _ HB2.out).mono ?_); rintro e x3 ⟨rfl, hc3, hb3⟩; have HE3 := Lib.hid (And.intro hc3 hb3); clear hc3 hb3; obtain ⟨t0, t1⟩ := cells_2 ((HCL.out _ HB2.out).but HE3.out.2 HE3.out.1).blk))
  all_goals
    have HR3 := Lib.hid ((HCL.out _ HB2.out).but HE3.out.2 HE3.out.1)
    have HO3 := Lib.hid (((HH.out.trans (Hold.of_below _ (((Below.refl _ _).drew).trans (HB2.out.mono (Nat.le_refl _))))).trans (Hold.of_but _ HE3.out.2)))
    cases hg : (fail D.1 ck).bad == 0 with
    | true =>
      have HG := Lib.hid (fun W hW => good_any _ _ _ _ W ((Fl.of HE3.out.1).keep hW) (b := true) hg)
      have HX := Lib.hid (HL.out.2.1 (by simpa using hg))
      clear hg
      go_wp2_with (go_at_call 16; (with_reducible refine (HG.out _ (Below.refl _ _)).mono ?_))
      rintro e x4 ⟨rfl, hb4⟩
      have HR4 := Lib.hid (HR3.out.keep hb4)
      have HO4 := Lib.hid (HO3.out.trans (Hold.of_below _ hb4))
      obtain ⟨u0, u1⟩ := cells_2 HR4.out.blk
      clear hb4
      go_wp2_with fail
      go_ret
      refine ⟨A, n, cp, rfl, ?_, ?_, ?_, hold_new HO4.out, fun b e => by have := (own_block_bd HR4.out.own b e).1; omega⟩
      · rw [← HL.out.1]; exact HR4.out.cur
      · rw [HX.out]; have hnl := HN.out; subst hnl; exact (rd_tms HR4.out).1
      · rw [HX.out]; exact HN.out
    | false =>
      have HG := Lib.hid (fun W hW => good_any _ _ _ _ W ((Fl.of HE3.out.1).keep hW) (b := false) hg)
      have HX := Lib.hid (HL.out.2.2 (by simpa using hg))
      clear hg
      go_wp2_with (go_at_call 16; (with_reducible refine (HG.out _ (Below.refl _ _)).mono ?_))
      rintro e x4 ⟨rfl, hb4⟩
      have HR4 := Lib.hid (HR3.out.keep hb4)
      have HO4 := Lib.hid (HO3.out.trans (Hold.of_below _ hb4))
      clear hb4
      go_wp2_with fail
      go_ret
      refine ⟨none, 0, 0, rfl, ?_, ?_, ?_, hold_new HO4.out, by simp [Value.ownBlock]⟩
      · rw [← HL.out.1]; exact HR4.out.cur
      · rw [HX.out]; exact tms_nil _
      · rw [HX.out]; rfl
end Go.Proofs.YtcfcpbkeedfbpaaGreatDoor

namespace Go.Proofs.YtcfcpbkeedfbpaaGreatDoor
open Go.RowKit CurSpec TermSpec ExprSpec NamesSpec
set_option maxRecDepth 100000

/-- A level's signs. -/
def lvl (k : Int) : List Sg := sgs.filter fun s => decide (s.lev = k)
def sigT (k : Int) : List ByteArray := (lvl k).map (·.t)
def sigO (k : Int) : List Int := (lvl k).map (·.op)
theorem lvl_none {k : Int} (h : k ≠ 1 ∧ k ≠ 2 ∧ k ≠ 4 ∧ k ≠ 5 ∧ k ≠ 6) : lvl k = [] := by
  unfold lvl
  rw [List.filter_eq_nil_iff]
  intro s hs
  have := (sgs_all s hs).2.2.1
  simp only [decide_eq_true_eq]
  omega
def RetSigns (W : World) (k : Int) (e : Ending) (w' : World) : Prop := ∃ v1 v2, e = .returned (.tuple #[v1, v2]) ∧ Rd w' v1 (strV (sigT k)) ∧ Rd w' v2 (intV (sigO k)) ∧ (∀ b, v1.ownBlock = some b → W.heap.size ≤ b) ∧ (∀ b, v2.ownBlock = some b → W.heap.size ≤ b) ∧ Below W.heap.size W w'
theorem two_lits {w : World} {cs ds : Array Value} {T U : TypeId} {xs ys : List Value} {n m : Nat} (h1 : cs.toList = xs) (h2 : ds.toList = ys) (hn : n = xs.length) (hm : m = ys.length) :
    Rd ((w.alloc (.cells cs T)).alloc (.cells ds U)) (.slice (some ⟨w.heap.size, 0, none⟩) n n) xs ∧ Rd ((w.alloc (.cells cs T)).alloc (.cells ds U)) (.slice (some ⟨w.heap.size + 1, 0, none⟩) m m) ys ∧ (∀ b, (Value.slice (some ⟨w.heap.size, 0, none⟩) n n).ownBlock = some b → w.heap.size ≤ b) ∧ (∀ b, (Value.slice (some ⟨w.heap.size + 1, 0, none⟩) m m).ownBlock = some b → w.heap.size ≤ b) ∧ Below w.heap.size w ((w.alloc (.cells cs T)).alloc (.cells ds U)) :=
  ⟨(lit_here rfl hn h1).alloc _, lit_here (by simp) hm h2, fun b hb => by cases hb; exact Nat.le_refl _, fun b hb => by cases hb; exact Nat.le_succ _, ((Below.refl _ _).alloc (Nat.le_refl _) _).alloc (by simp) _⟩
theorem two_rets {W w' : World} {k : Int} {v1 v2 : Value} {xs ys : List Value} (hx : strV (sigT k) = xs) (hy : intV (sigO k) = ys) (h : Rd w' v1 xs ∧ Rd w' v2 ys ∧ (∀ b, v1.ownBlock = some b → W.heap.size ≤ b) ∧ (∀ b, v2.ownBlock = some b → W.heap.size ≤ b) ∧ Below W.heap.size W w') : RetSigns W k (.returned (.tuple #[v1, v2])) w' :=
  ⟨v1, v2, rfl, by rw [hx]; exact h.1, by rw [hy]; exact h.2.1, h.2.2⟩
set_option maxHeartbeats 2000000 in
theorem signs_say (k : Int) (w : World) : Calls Tryz.prog 58 #[.int .i64 k] w (RetSigns w k) := by
  by_cases h1 : k = 1
  · subst h1
    go_enter Tryz.func58, Tryz.ntmps58
    go_wp2_with fail
    go_ret2
    exact two_rets rfl rfl (two_lits rfl rfl rfl rfl)
  by_cases h2 : k = 2
  · subst h2
    go_enter Tryz.func58, Tryz.ntmps58
    go_wp2_with fail
    go_ret2
    exact two_rets rfl rfl (two_lits rfl rfl rfl rfl)
  by_cases h4 : k = 4
  · subst h4
    go_enter Tryz.func58, Tryz.ntmps58
    go_wp2_with fail
    go_ret2
    exact two_rets rfl rfl (two_lits rfl rfl rfl rfl)
  by_cases h5 : k = 5
  · subst h5
    go_enter Tryz.func58, Tryz.ntmps58
    go_wp2_with fail
    go_ret2
    exact two_rets rfl rfl (two_lits rfl rfl rfl rfl)
  by_cases h6 : k = 6
  · subst h6
    go_enter Tryz.func58, Tryz.ntmps58
    go_wp2_with fail
    go_ret2
    exact two_rets rfl rfl (two_lits rfl rfl rfl rfl)
  have HE : Hid (lvl k = []) := Lib.hid (lvl_none ⟨h1, h2, h4, h5, h6⟩)
  have e1 : (k == 1) = false := by simpa using h1
  have e2 : (k == 2) = false := by simpa using h2
  have e4 : (k == 4) = false := by simpa using h4
  have e5 : (k == 5) = false := by simpa using h5
  have e6 : (k == 6) = false := by simpa using h6
  clear h1 h2 h4 h5 h6
  go_enter Tryz.func58, Tryz.ntmps58
  go_wp2_with fail
  go_ret2
  refine two_rets (xs := []) (ys := []) (by unfold sigT; rw [HE.out]; rfl) (by unfold sigO; rw [HE.out]; rfl) ⟨Rd.nil _, Rd.nil _, (fun b hb => by cases hb), (fun b hb => by cases hb), Below.refl _ _⟩

def RetTms (W : World) (l : List Tm) (e : Ending) (w' : World) : Prop := ∃ A n cp, e = .returned (.slice A n cp) ∧ Tms w' (.slice A n cp) l ∧ (∀ b, (Value.slice A n cp).ownBlock = some b → W.heap.size ≤ b) ∧ Below W.heap.size W w'
theorem lit_own {w : World} {t : Tm} {k : Nat} (hk : k = w.heap.size) : (w.alloc (tmO t)).ownsRow w.heap.size 68 3 (.slice (some ⟨k, 0, none⟩) 1 1) 1 (tmV t) := by
  subst hk
  exact ⟨rfl, .inr ⟨w.heap.size, 1, _, rfl, Nat.le_refl _, heap_alloc_new _ _, Nat.le_refl _, by unfold maxLen; omega, rfl, rfl⟩⟩
theorem below_own {w x y : World} {base : Nat} {v : Value} {n : Nat} {xs : List Value} {e : TypeId} {k : Nat} (hw : base ≤ w.heap.size) (h : x.ownsRow base e k v n xs) (hb : Below base w x) (hg : x.grownBy y v.ownBlock) : Below base w y := by
  have hz1 := hb.size
  refine hb.trans ⟨hg.os, hg.tape, hg.output, hg.size, fun i hi => hg.block i (by omega) (fun e => ?_)⟩
  have := (own_block_bd h i e.symm).1
  omega
theorem Tms.own {w : World} {base n : Nat} {v : Value} {l : List Tm} (hn : n = l.length) (h : w.ownsRow base 68 3 v n (tmsV l)) : Tms w v l := ⟨n, hn, Rdk.own h⟩
set_option maxHeartbeats 4000000 in
theorem over_say (o : Int) (va vb : Value) (a b : List Tm) (w : World) (ha : Tms w va a) (hb : Tms w vb b) (hla : a.length ≤ 1000000) (hlb : b.length ≤ 1000000) :
    Calls Tryz.prog 108 #[.int .i64 o, va, vb] w (RetTms w (opT o :: (a ++ b))) := by
  obtain ⟨i0, hi, hz0, hz1, hz2⟩ := info_parts info_tm
  obtain ⟨na, hna, hra⟩ := ha
  obtain ⟨nb, hnb, hrb⟩ := hb
  obtain ⟨Aa, ca, rfl, hra'⟩ := hra
  obtain ⟨Ab, cb, rfl, hrb'⟩ := hrb
  have HRA : Hid (Rdk 3 w (.slice Aa na ca) na (tmsV a)) := Lib.hid ⟨Aa, ca, rfl, hra'⟩
  have HRB : Hid (Rdk 3 w (.slice Ab nb cb) nb (tmsV b)) := Lib.hid ⟨Ab, cb, rfl, hrb'⟩
  have HNA := Lib.hid hna
  have HNB := Lib.hid hnb
  have hla' : na ≤ 1000000 := by omega
  have hlb' : nb ≤ 1000000 := by omega
  clear hra' hrb' hna hnb hla hlb
  go_enter Tryz.func108, Tryz.ntmps108
  go_wp2_with (at_builtin; refine wpList_append_rdk _ rfl (.tmp 10) (.tmp 11) 64 rfl w.heap.size 68 i0 _ 3 32 Tryz.underlying64 hi hz0 hz1 hz2 rfl (by decide) _ 1 (tmV (opT o)) rfl (lit_own (t := opT o) rfl) _ na (tmsV a) rfl (HRA.out.alloc _) (tmsV_one a) (by unfold maxLen; omega) (by omega) (by simp) ?_)
  intro v1 w1 hown1 hgrow1 _
  obtain ⟨A1, c1, rfl⟩ := own_shape hown1
  have HO1 := Lib.hid hown1
  have HB1 := Lib.hid (below_own (Nat.le_refl _) (lit_own (w := w) (t := opT o) rfl) ((Below.refl _ _).alloc (Nat.le_refl _) _) hgrow1)
  clear hown1 hgrow1
  go_wp2_with (at_builtin; refine wpList_append_rdk _ rfl (.tmp 13) (.tmp 14) 64 rfl w.heap.size 68 i0 _ 3 32 Tryz.underlying64 hi hz0 hz1 hz2 rfl (by decide) _ (1 + na) (tmV (opT o) ++ tmsV a) rfl HO1.out _ nb (tmsV b) rfl (HRB.out.keep HB1.out) (tmsV_one b) (by unfold maxLen; omega) (by omega) HB1.out.size ?_)
  intro v2 w2 hown2 hgrow2 _
  obtain ⟨A2, c2, rfl⟩ := own_shape hown2
  have HO2 := Lib.hid hown2
  have HB2 := Lib.hid (below_own (Nat.le_refl _) HO1.out HB1.out hgrow2)
  clear hown2 hgrow2
  go_wp2_with fail
  go_ret
  refine ⟨A2, _, c2, rfl, Tms.own (base := w.heap.size) (n := 1 + na + nb) ?_ ?_, fun b hb => (own_block_bd HO2.out b hb).1, HB2.out⟩
  · simp only [List.length_cons, List.length_append]; have := HNA.out; have := HNB.out; omega
  · have e : tmsV (opT o :: (a ++ b)) = tmV (opT o) ++ tmsV a ++ tmsV b := by simp [tmsV]
    rw [e]
    exact HO2.out
end Go.Proofs.YtcfcpbkeedfbpaaGreatDoor
