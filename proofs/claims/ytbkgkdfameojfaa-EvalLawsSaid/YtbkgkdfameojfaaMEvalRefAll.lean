/- EvalRefAll, joined. -/
import Derived.Test.YtbkgkdfameojfaaMEvalRefAt2
import Derived.Test.YtbkgkdfameojfaaMEvalRefAt3
import Derived.Test.YtbkgkdfameojfaaMEvalRefAt4
import Derived.Test.YtbkgkdfameojfaaMEvalRefCheck
import Derived.Test.YtbkgkdfameojfaaMEvalHolds
namespace Go.Proofs.Ytbkgkdfameojfaa
open Go.RowKit Go.Sort TermSpec EvalSpec NamesSpec
set_option maxRecDepth 100000

theorem rat_at (p : EP) (e : Ev) (A : Option Addr) (n c : Nat) (l : List Tm) (k0 : Nat) (w : World) (hC : Comes p e A n c l) (h : Tms w (.slice A n c) l) (he : EnvIn w p e) (hend : 0 ≤ endA l k0) (ih : RatIH p e A n c l k0) :
    Calls Try.prog 12 #[.slice A n c, .int .i64 k0, envV p e] w (RetI w (comeE e (l.drop k0))) := by
  obtain ⟨kk, m0, hkk, hc0, _, _, _⟩ := endA_nn hend
  obtain rfl : kk = k0 := by omega
  obtain ⟨t, m, ht, h0, _, _⟩ := first_of hc0
  obtain ⟨h1, h20⟩ := ar_in.1 h0
  obtain ⟨o, tn, s⟩ := t
  simp only at h1 h20
  rcases (show o = 1 ∨ o = 2 ∨ o = 3 ∨ o = 4 ∨ o = 5 ∨ o = 6 ∨ o = 7 ∨ o = 8 ∨ o = 9 ∨ o = 10 ∨ o = 11 ∨ o = 12 ∨ o = 13 ∨ o = 14 ∨ o = 15 ∨ o = 16 ∨ o = 17 ∨ o = 18 ∨ o = 19 ∨ o = 20 by omega) with rfl | rfl | rfl | rfl | rfl | rfl | rfl | rfl | rfl | rfl | rfl | rfl | rfl | rfl | rfl | rfl | rfl | rfl | rfl | rfl
  · exact rat_op1 p e A n c l kk w hC h he tn s ht hend
  · exact rat_op2 p e A n c l kk w hC h he tn s ht hend
  · exact rat_op3 p e A n c l kk w hC h he tn s ht hend ih
  · exact rat_op4 p e A n c l kk w hC h he tn s ht hend ih
  · exact rat_op5 p e A n c l kk w hC h he tn s ht hend ih
  · exact rat_op6 p e A n c l kk w hC h he tn s ht hend ih
  · exact rat_op7 p e A n c l kk w hC h he tn s ht hend ih
  · exact rat_op8 p e A n c l kk w hC h he tn s ht hend ih
  · exact rat_op9 p e A n c l kk w hC h he tn s ht hend
  · exact rat_op10 p e A n c l kk w hC h he tn s ht hend
  · exact rat_op11 p e A n c l kk w hC h he tn s ht hend
  · exact rat_op12 p e A n c l kk w hC h he tn s ht hend ih
  · exact rat_op13 p e A n c l kk w hC h he tn s ht hend ih
  · exact rat_op14 p e A n c l kk w hC h he tn s ht hend ih
  · exact rat_op15 p e A n c l kk w hC h he tn s ht hend ih
  · exact rat_op16 p e A n c l kk w hC h he tn s ht hend ih
  · exact rat_op17 p e A n c l kk w hC h he tn s ht hend ih
  · exact rat_op18 p e A n c l kk w hC h he tn s ht hend ih
  · exact rat_op19 p e A n c l kk w hC h he tn s ht hend ih
  · exact rat_op20 p e A n c l kk w hC h he tn s ht hend ih
theorem rat_all (p : EP) (e : Ev) (A : Option Addr) (n c : Nat) (l : List Tm) (hC : Comes p e A n c l) : ∀ (K : Nat) (a : Nat) (w : World), n ≤ a + K → Tms w (.slice A n c) l → EnvIn w p e → 0 ≤ endA l a → Calls Try.prog 12 #[.slice A n c, .int .i64 a, envV p e] w (RetI w (comeE e (l.drop a)))
  | 0, a, w, hK, _, _, he => by
    obtain ⟨k, m, hk, _, h1, h2, h3⟩ := endA_nn he
    have := hC.hn
    omega
  | K + 1, a, w, hK, h, hE, he => rat_at p e A n c l a w hC h hE he fun a' w' ha h' hE' he' => rat_all p e A n c l hC K a' w' (by omega) h' hE' he'
theorem rat_zero (p : EP) (e : Ev) (A : Option Addr) (n c : Nat) (l : List Tm) (hn : n = l.length) (hn62 : n ≤ 4398046511104) (w : World) (h : Tms w (.slice A n c) l) (he : EnvIn w p e) (hc : chkE e l = 0) :
    Calls Try.prog 12 #[.slice A n c, .int .i64 0, envV p e] w (RetI w (comeE e l)) := by
  obtain ⟨h4, hk, _, hkn⟩ := chkE_ok hc
  obtain ⟨hw, hm, _⟩ := chk_ok hk
  have h0 := (wholeB_iff.1 hw).2
  have := rat_all p e A n c l ⟨hn, hn62, hm, hkn, h4⟩ n 0 w (by omega) h he (by rw [show ((0 : Nat) : Int) = 0 from rfl, endA_nat0, fin_some h0]; omega)
  rwa [List.drop_zero] at this

set_option maxHeartbeats 2000000 in
theorem rholds_any (p : EP) (e : Ev) (A : Option Addr) (n c : Nat) (l : List Tm) (hn : n = l.length) (hn62 : n ≤ 4398046511104) (hs : Small l) (w : World) (h : Tms w (.slice A n c) l) (he : EnvIn w p e) :
    Calls Try.prog 11 #[.slice A n c, envV p e] w (RetB w (holdsE e l)) := by
  have HCK := Lib.hid (fun w h h' => rechk_any p e A n c l hn hn62 hs w h h')
  have HY : Hid (chkE e l = 0 → ∀ w, Tms w (.slice A n c) l → Calls Try.prog 13 #[.slice A n c, .int .i64 0] w (RetI w (typ l))) := Lib.hid (fun hc w h => rtyp_zero A n c l hn (by omega) w h (chk_ok (chkE_ok hc).2.1).1)
  have HA : Hid (chkE e l = 0 → ∀ w, Tms w (.slice A n c) l → EnvIn w p e → Calls Try.prog 12 #[.slice A n c, .int .i64 0, envV p e] w (RetI w (comeE e l))) := Lib.hid (fun hc w h h' => rat_zero p e A n c l hn hn62 w h h' hc)
  have HT := Lib.hid h
  have HEN := Lib.hid he
  have HS := Lib.hid (fun (h0 : 0 < l.length) => (show holdsE e l = (decide (chkE e l = 0) && (decide (typ l = 2) && decide (comeE e l = 1))) by
    unfold holdsE
    cases l with
    | nil => simp at h0
    | cons t r => rw [List.isEmpty_cons, Bool.false_or]))
  have HZ : Hid (n = 0 → holdsE e l = true) := Lib.hid (fun h0 => by
    obtain rfl : l = [] := List.eq_nil_of_length_eq_zero (by omega)
    rfl)
  have HN := Lib.hid hn
  obtain ⟨vA, vn, vc, iA, im, ic⟩ := p
  obtain ⟨r, hr⟩ : ∃ r, r = holdsE e l := ⟨_, rfl⟩
  rw [← hr] at HS HZ ⊢
  obtain ⟨x, hx⟩ : ∃ x, x = comeE e l := ⟨_, rfl⟩
  obtain ⟨q, hq⟩ : ∃ q, q = chkE e l := ⟨_, rfl⟩
  obtain ⟨y, hy⟩ : ∃ y, y = typ l := ⟨_, rfl⟩
  rw [← hq] at HCK
  rw [← hx, ← hq] at HA
  rw [← hq, ← hy] at HY
  rw [← hx, ← hq, ← hy] at HS
  obtain ⟨vars, v0, v1, v2, v3, ins⟩ := e
  change Calls _ _ #[.slice A n c, .agg #[.slice vA vn vc, .int .i64 v0, .int .i64 v1, .int .i64 v2, .int .i64 v3, .slice iA im ic]] _ _
  clear h hn he hr hx hq hy
  rcases Nat.eq_zero_or_pos n with h0 | h0
  · have HR := Lib.hid (HZ.out h0)
    clear HS HZ HN HA HT HCK HY
    subst h0
    go_enter Try.func11, Try.ntmps11
    go_wp2_with fail
    go_ret
    exact ⟨ret_bool HR.out.symm, KitC.below_one _ _⟩
  · have HR := Lib.hid (HS.out (by rw [← HN.out]; exact h0))
    have g0 : ((n : Int) == 0) = false := by simp; omega
    clear HS HZ
    rcases hq : (q == 0) with _ | _
    · have hq' : decide (q = 0) = false := by simpa using hq
      rw [hq'] at HR
      clear hq' HA HY
      go_enter Try.func11, Try.ntmps11
      go_wp2_with (go_at_call 8; (with_reducible refine (HCK.out _ (HT.out.keep (KitC.below_one _ _)) (HEN.out.keep (KitC.below_one _ _))).mono ?_))
      rintro e2 w2 ⟨rfl, hb2⟩
      have HB2 := Lib.hid (below_two' (KitC.below_one _ _) hb2)
      clear hb2
      go_wp2_with fail
      go_ret
      exact ⟨ret_bool (by rw [HR.out]; simp), HB2.out⟩
    · have hq0 : q = 0 := by simpa using hq
      have HA' := Lib.hid (HA.out hq0)
      have HY' := Lib.hid (HY.out hq0)
      rw [hq0] at HR
      clear hq0 HA HY
      rcases hy : (y == 2) with _ | _
      · have hy' : decide (y = 2) = false := by simpa using hy
        rw [hy'] at HR
        clear hy' HA'
        go_enter Try.func11, Try.ntmps11
        go_wp2_with (go_at_call 8; (with_reducible refine (HCK.out _ (HT.out.keep (KitC.below_one _ _)) (HEN.out.keep (KitC.below_one _ _))).mono ?_))
        rintro e2 w2 ⟨rfl, hb2⟩
        have HB2 := Lib.hid (below_two' (KitC.below_one _ _) hb2)
        clear hb2
        go_wp2_with (go_at_call 13; (with_reducible refine (HY'.out _ (HT.out.keep HB2.out)).mono ?_))
        rintro e2 w3 ⟨rfl, hb3⟩
        have HB3 := Lib.hid (below_two' HB2.out hb3)
        clear hb3
        go_wp2_with fail
        go_ret
        exact ⟨ret_bool (by rw [HR.out]; simp), HB3.out⟩
      · have hy' : decide (y = 2) = true := by simpa using hy
        rw [hy'] at HR
        clear hy'
        go_enter Try.func11, Try.ntmps11
        go_wp2_with (go_at_call 8; (with_reducible refine (HCK.out _ (HT.out.keep (KitC.below_one _ _)) (HEN.out.keep (KitC.below_one _ _))).mono ?_))
        rintro e2 w2 ⟨rfl, hb2⟩
        obtain ⟨B2, hbb, _⟩ := KitC.one_block hb2
        have HB2 := Lib.hid hbb
        have HBK2 := Lib.hid B2
        clear hb2 hbb B2
        go_wp2_with (go_at_call 13; (with_reducible refine (HY'.out _ (HT.out.keep HB2.out)).mono ?_))
        rintro e2 w3 ⟨rfl, hb3⟩
        have HB3 := Lib.hid (below_two' HB2.out hb3)
        obtain ⟨z0, z1, z2, z3, z4, z5⟩ := cells_6 (KitC.block_on HBK2.out hb3)
        clear hb3
        go_wp2_with (go_at_call 12; (with_reducible refine (HA'.out _ (HT.out.keep HB3.out) (HEN.out.keep HB3.out)).mono ?_))
        rintro e2 w4 ⟨rfl, hb4⟩
        have HB4 := Lib.hid (below_two' HB3.out hb4)
        clear hb4 z0 z1 z2 z3 z4 z5
        go_wp2_with fail
        go_ret
        exact ⟨ret_bool (by rw [HR.out, Bool.eq_iff_iff]; simp), HB4.out⟩
end Go.Proofs.Ytbkgkdfameojfaa
