/- EvalHolds, joined. -/
import Derived.Test.YtbkgkdfameojfaaMEvalAt
namespace Go.Proofs.Ytbkgkdfameojfaa
open Go.RowKit TermSpec EvalSpec
set_option maxRecDepth 100000

/-- What At answers. -/
def RetAt (W : World) (x e : Int) (e2 : Ending) (w' : World) : Prop := e2 = .returned (.tuple #[.int .i64 x, .int .i64 e]) ∧ Below W.heap.size W w'
def atE (e : Ev) (l : List Tm) : Int := if chkE e l = 0 then comeE e l else 0
set_option maxHeartbeats 1000000 in
theorem at_no (p : EP) (e : Ev) (A : Option Addr) (n c : Nat) (l : List Tm) (hn : n = l.length) (hn62 : n ≤ 4398046511104) (hs : Small l) (w : World) (h : Tms w (.slice A n c) l) (he : EnvIn w p e) (hc : chkE e l ≠ 0) :
    Calls Try.prog 7 #[.slice A n c, envV p e] w (RetAt w 0 (chkE e l)) := by
  have HC := Lib.hid (fun w h h' => echeck_any p e A n c l hn hn62 hs w h h')
  have HT := Lib.hid h
  have HEN := Lib.hid he
  obtain ⟨vA, vn, vc, iA, im, ic⟩ := p
  obtain ⟨q, hq⟩ : ∃ q, q = chkE e l := ⟨_, rfl⟩
  rw [← hq] at HC hc ⊢
  obtain ⟨vars, v0, v1, v2, v3, ins⟩ := e
  change Calls _ _ #[.slice A n c, .agg #[.slice vA vn vc, .int .i64 v0, .int .i64 v1, .int .i64 v2, .int .i64 v3, .slice iA im ic]] _ _
  have g : (q != 0) = true := by simp [hc]
  clear h hn he hc hq
  go_enter Try.func7, Try.ntmps7
  go_wp2_with (go_at_call 9; (with_reducible refine (HC.out _ (HT.out.keep (KitC.below_one _ _)) (HEN.out.keep (KitC.below_one _ _))).mono ?_))
  rintro e2 w2 ⟨rfl, hb2⟩
  have HB2 := Lib.hid (below_two' (KitC.below_one _ _) hb2)
  clear hb2
  go_wp2_with fail
  refine bodyPost_ret (v := .tuple #[.int .i64 0, .int .i64 q]) (by simp [results, Try.results7, go_sem]) rfl ⟨rfl, HB2.out⟩
theorem at_any (p : EP) (e : Ev) (A : Option Addr) (n c : Nat) (l : List Tm) (hn : n = l.length) (hn62 : n ≤ 4398046511104) (hs : Small l) (w : World) (h : Tms w (.slice A n c) l) (he : EnvIn w p e) :
    Calls Try.prog 7 #[.slice A n c, envV p e] w (RetAt w (atE e l) (chkE e l)) := by
  by_cases hc : chkE e l = 0
  · have := at_yes p e A n c l hn hn62 hs w h he hc
    unfold atE
    rw [if_pos hc, hc]
    exact this
  · have := at_no p e A n c l hn hn62 hs w h he hc
    unfold atE
    rw [if_neg hc]
    exact this
theorem holds_nil {e : Ev} : holdsE e [] = true := rfl
theorem holds_some {e : Ev} {l : List Tm} (h : 0 < l.length) : holdsE e l = (decide (chkE e l = 0) && (decide (typ l = 2) && decide (atE e l = 1))) := by
  unfold holdsE atE
  cases l with
  | nil => simp at h
  | cons t r =>
    rw [List.isEmpty_cons, Bool.false_or]
    by_cases hc : chkE e (t :: r) = 0 <;> simp [hc]
set_option maxHeartbeats 2000000 in
theorem holds_any (p : EP) (e : Ev) (A : Option Addr) (n c : Nat) (l : List Tm) (hn : n = l.length) (hn62 : n ≤ 4398046511104) (hs : Small l) (w : World) (h : Tms w (.slice A n c) l) (he : EnvIn w p e) :
    Calls Try.prog 10 #[.slice A n c, envV p e] w (RetB w (holdsE e l)) := by
  have HA := Lib.hid (fun w h h' => at_any p e A n c l hn hn62 hs w h h')
  have HY := Lib.hid (fun w h => typ_any A n c l hn (by omega) w h)
  have HT := Lib.hid h
  have HEN := Lib.hid he
  have HS := Lib.hid (fun h0 => holds_some (e := e) (l := l) h0)
  have HZ : Hid (n = 0 → holdsE e l = true) := Lib.hid (fun h0 => by
    obtain rfl : l = [] := List.eq_nil_of_length_eq_zero (by omega)
    rfl)
  have HN := Lib.hid hn
  obtain ⟨vA, vn, vc, iA, im, ic⟩ := p
  obtain ⟨r, hr⟩ : ∃ r, r = holdsE e l := ⟨_, rfl⟩
  rw [← hr] at HS HZ ⊢
  obtain ⟨x, hx⟩ : ∃ x, x = atE e l := ⟨_, rfl⟩
  obtain ⟨q, hq⟩ : ∃ q, q = chkE e l := ⟨_, rfl⟩
  obtain ⟨y, hy⟩ : ∃ y, y = typ l := ⟨_, rfl⟩
  rw [← hx, ← hq] at HA
  rw [← hx, ← hq, ← hy] at HS
  rw [← hy] at HY
  obtain ⟨vars, v0, v1, v2, v3, ins⟩ := e
  change Calls _ _ #[.slice A n c, .agg #[.slice vA vn vc, .int .i64 v0, .int .i64 v1, .int .i64 v2, .int .i64 v3, .slice iA im ic]] _ _
  clear h hn he hr hx hq hy
  rcases Nat.eq_zero_or_pos n with h0 | h0
  · have HR := Lib.hid (HZ.out h0)
    clear HS HZ HN HA HT
    subst h0
    go_enter Try.func10, Try.ntmps10
    go_wp2_with fail
    go_ret
    exact ⟨ret_bool HR.out.symm, KitC.below_one _ _⟩
  · have HR := Lib.hid (HS.out (by rw [← HN.out]; exact h0))
    have g0 : ((n : Int) == 0) = false := by simp; omega
    clear HS HZ
    rcases hq : (q == 0) with _ | _
    · have hq' : decide (q = 0) = false := by simpa using hq
      rw [hq'] at HR
      clear hq'
      go_enter Try.func10, Try.ntmps10
      go_wp2_with (go_at_call 7; (with_reducible refine (HA.out _ (HT.out.keep (KitC.below_one _ _)) (HEN.out.keep (KitC.below_one _ _))).mono ?_))
      rintro e2 w2 ⟨rfl, hb2⟩
      have HB2 := Lib.hid (below_two' (KitC.below_one _ _) hb2)
      clear hb2
      go_wp2_with fail
      go_ret
      exact ⟨ret_bool (by rw [HR.out]; simp), HB2.out⟩
    · have hq' : decide (q = 0) = true := by simpa using hq
      rw [hq'] at HR
      clear hq'
      rcases hx : (x == 1) with _ | _
      · have hx' : decide (x = 1) = false := by simpa using hx
        rw [hx'] at HR
        clear hx'
        go_enter Try.func10, Try.ntmps10
        go_wp2_with (go_at_call 7; (with_reducible refine (HA.out _ (HT.out.keep (KitC.below_one _ _)) (HEN.out.keep (KitC.below_one _ _))).mono ?_))
        rintro e2 w2 ⟨rfl, hb2⟩
        have HB2 := Lib.hid (below_two' (KitC.below_one _ _) hb2)
        clear hb2
        go_wp2_with fail
        go_ret
        exact ⟨ret_bool (by rw [HR.out]; simp), HB2.out⟩
      · have hx' : decide (x = 1) = true := by simpa using hx
        rw [hx'] at HR
        clear hx'
        go_enter Try.func10, Try.ntmps10
        go_wp2_with (go_at_call 7; (with_reducible refine (HA.out _ (HT.out.keep (KitC.below_one _ _)) (HEN.out.keep (KitC.below_one _ _))).mono ?_))
        rintro e2 w2 ⟨rfl, hb2⟩
        have HB2 := Lib.hid (below_two' (KitC.below_one _ _) hb2)
        clear hb2
        go_wp2_with (go_at_call 22; (with_reducible refine (HY.out _ (HT.out.keep HB2.out)).mono ?_))
        rintro e2 w3 ⟨rfl, hb3⟩
        have HB3 := Lib.hid (below_two' HB2.out hb3)
        clear hb3
        go_wp2_with fail
        go_ret
        exact ⟨ret_bool (by rw [HR.out, Bool.true_and, Bool.and_true, Bool.eq_iff_iff]; simp), HB3.out⟩
end Go.Proofs.Ytbkgkdfameojfaa
