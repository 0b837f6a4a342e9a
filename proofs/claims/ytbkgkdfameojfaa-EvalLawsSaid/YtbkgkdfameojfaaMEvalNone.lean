/- EvalNone, joined. -/
import Derived.Test.YtbkgkdfameojfaaMEvalMem
import Derived.Test.YtbkgkdfameojfaaMEvalOps2
import Derived.Test.YtbkgkdfameojfaaMNames
import Derived.Test.YtbkgkdfameojfaaMTermA
namespace Go.Proofs.Ytbkgkdfameojfaa
open Go.RowKit TermSpec EvalSpec NamesSpec Go.Lib ValSpec
set_option maxRecDepth 100000

theorem known_place {e : Ev} {s : ByteArray} (h : hasS (vnames e) s = true) (h4 : e.vars.length ≤ 4) : ∃ k : Nat, idxOfS (vnames e) s = k ∧ k < 4 := by
  have h1 := place_ge (vnames e) s
  rw [h, decide_eq_true_iff] at h1
  have h2 := hasS_iff.1 h
  obtain ⟨k, hk⟩ := Int.eq_ofNat_of_zero_le h1
  refine ⟨k, hk, ?_⟩
  have h3 := place_bd (vnames e) s
  rw [vnames_length] at h3
  rcases Nat.lt_or_ge k 4 with h | h
  · exact h
  · exfalso
    obtain ⟨i, hi⟩ := List.mem_iff_getElem?.1 h2
    have hi' := (List.getElem?_eq_some_iff.1 hi).1
    rw [vnames_length] at hi'
    have := place_lt hi
    have hn : hasS ((vnames e).take i) s = false := by
      rw [← this]
      simp
      omega
    have := place_hit hi (hasS_no.1 hn)
    omega
set_option maxHeartbeats 1000000 in
theorem ofNone_var (p : EP) (e : Ev) (n : Int) (s : ByteArray) (w : World) (h : EnvIn w p e) (h4 : e.vars.length ≤ 4) (hk : hasS (vnames e) s = true) :
    Calls Try.prog 30 #[.agg #[.int .i64 2, .int .i64 n, .string s], envV p e] w (RetI w (ev0 e ⟨2, n, s⟩)) := by
  obtain ⟨k, hi, hk4⟩ := known_place hk h4
  have HV := Lib.hid (fun w h => variable_any p e s w h)
  rw [hi] at HV
  have HE := Lib.hid (show ev0 e ⟨2, n, s⟩ = near (valAt e k) by unfold ev0; simp [hi])
  have HEN := Lib.hid h
  obtain ⟨vA, vn, vc, iA, im, ic⟩ := p
  obtain ⟨r, hr⟩ : ∃ r, r = ev0 e ⟨2, n, s⟩ := ⟨_, rfl⟩
  rw [← hr] at HE ⊢
  obtain ⟨x, hx⟩ : ∃ x, x = valAt e k := ⟨_, rfl⟩
  rw [← hx] at HE
  have HX := Lib.hid hx
  have HNR := Lib.hid (near_any x)
  obtain ⟨vars, v0, v1, v2, v3, ins⟩ := e
  change Calls _ _ #[.agg #[.int .i64 2, .int .i64 n, .string s], .agg #[.slice vA vn vc, .int .i64 v0, .int .i64 v1, .int .i64 v2, .int .i64 v3, .slice iA im ic]] _ _
  clear h h4 hk hi hr hx
  go_enter Try.func30, Try.ntmps30
  go_wp2_with (go_at_call 24; (with_reducible refine (HV.out _ (HEN.out.keep (KitC.below_pair _ _ _))).mono ?_))
  rintro e2 w3 ⟨rfl, hb3⟩
  obtain ⟨B1, B2, hb, hz⟩ := KitC.pair_blocks hb3
  have HB := Lib.hid hb
  have hcell : w3.cell? ⟨w.heap.size + 1, 1 + k, none⟩ = some (.int .i64 x) := by
    obtain ⟨-, c1, c2, c3, c4, -⟩ := cells_6 B2
    have := HX.out
    rcases (show k = 0 ∨ k = 1 ∨ k = 2 ∨ k = 3 by omega) with rfl | rfl | rfl | rfl
    · rw [this]; exact c1
    · rw [this]; exact c2
    · rw [this]; exact c3
    · rw [this]; exact c4
  clear B1 B2 hb hb3
  go_wp2_with (go_at_call 44; (with_reducible refine (HNR.out _).mono ?_); rintro e w' ⟨rfl, rfl⟩)
  go_ret
  exact ⟨ret_int HE.out.symm, HB.out⟩
set_option maxHeartbeats 1000000 in
theorem ofNone_in (p : EP) (e : Ev) (n : Int) (s : ByteArray) (w : World) (h : EnvIn w p e) :
    Calls Try.prog 30 #[.agg #[.int .i64 11, .int .i64 n, .string s], envV p e] w (RetI w (ev0 e ⟨11, n, s⟩)) := by
  have HP := Lib.hid (fun w h => nplace_any (.slice p.iA p.im p.ic) e.ins s w h (by have := h.strs; exact ‹EnvIn _ p e›.ibd))
  have HE := Lib.hid (show ev0 e ⟨11, n, s⟩ = tru (decide (0 ≤ idxOfS e.ins s)) by unfold ev0; simp)
  have HEN := Lib.hid h.ins
  obtain ⟨vA, vn, vc, iA, im, ic⟩ := p
  obtain ⟨r, hr⟩ : ∃ r, r = ev0 e ⟨11, n, s⟩ := ⟨_, rfl⟩
  rw [← hr] at HE ⊢
  obtain ⟨x, hx⟩ : ∃ x, x = idxOfS e.ins s := ⟨_, rfl⟩
  rw [← hx] at HE HP
  have HT := Lib.hid (fun b => truth_any b)
  obtain ⟨vars, v0, v1, v2, v3, ins⟩ := e
  simp only at HP HEN
  change Calls _ _ #[.agg #[.int .i64 11, .int .i64 n, .string s], .agg #[.slice vA vn vc, .int .i64 v0, .int .i64 v1, .int .i64 v2, .int .i64 v3, .slice iA im ic]] _ _
  clear h hr hx
  go_enter Try.func30, Try.ntmps30
  go_wp2_with (first
    | (go_at_call 46; (with_reducible refine (HP.out _ (HEN.out.keep (KitC.below_pair _ _ _))).mono ?_); rintro e w' ⟨rfl, rfl⟩)
    | (go_at_call 45; (with_reducible refine (HT.out _ _).mono ?_); rintro e w' ⟨rfl, rfl⟩))
  go_ret
  exact ⟨ret_int HE.out.symm, KitC.below_pair _ _ _⟩
set_option maxHeartbeats 1000000 in
theorem ofNone_else (p : EP) (e : Ev) (o n : Int) (s : ByteArray) (w : World) (h2 : ¬ o = 2) (h11 : ¬ o = 11) :
    Calls Try.prog 30 #[.agg #[.int .i64 o, .int .i64 n, .string s], envV p e] w (RetI w (ev0 e ⟨o, n, s⟩)) := by
  have HE := Lib.hid (show ev0 e ⟨o, n, s⟩ = if o = 1 then n else tru (o == 9) by unfold ev0; simp [h2, h11])
  obtain ⟨vA, vn, vc, iA, im, ic⟩ := p
  obtain ⟨r, hr⟩ : ∃ r, r = ev0 e ⟨o, n, s⟩ := ⟨_, rfl⟩
  rw [← hr] at HE ⊢
  have HT := Lib.hid (fun b => truth_any b)
  obtain ⟨vars, v0, v1, v2, v3, ins⟩ := e
  change Calls _ _ #[.agg #[.int .i64 o, .int .i64 n, .string s], .agg #[.slice vA vn vc, .int .i64 v0, .int .i64 v1, .int .i64 v2, .int .i64 v3, .slice iA im ic]] _ _
  have g2 : (o == 2) = false := by simp [h2]
  have g11 : (o == 11) = false := by simp [h11]
  by_cases h1 : o = 1
  · have g1 : (o == 1) = true := by simp [h1]
    have H1 := Lib.hid h1
    clear hr h2 h11 h1
    go_enter Try.func30, Try.ntmps30
    go_wp2_with fail
    go_ret
    exact ⟨ret_int (by rw [HE.out, if_pos H1.out]), KitC.below_pair _ _ _⟩
  · have g1 : (o == 1) = false := by simp [h1]
    have H1 := Lib.hid h1
    clear hr h2 h11 h1
    go_enter Try.func30, Try.ntmps30
    go_wp2_with (go_at_call 45; (with_reducible refine (HT.out _ _).mono ?_); rintro e w' ⟨rfl, rfl⟩)
    go_ret
    exact ⟨ret_int (by rw [HE.out, if_neg H1.out]), KitC.below_pair _ _ _⟩
theorem ofNone_any (p : EP) (e : Ev) (t : Tm) (w : World) (h : EnvIn w p e) (h4 : e.vars.length ≤ 4) (hk : t.op = 2 → hasS (vnames e) t.s = true) :
    Calls Try.prog 30 #[.agg #[.int .i64 t.op, .int .i64 t.n, .string t.s], envV p e] w (RetI w (ev0 e t)) := by
  obtain ⟨o, n, s⟩ := t
  by_cases h2 : o = 2
  · subst h2; exact ofNone_var p e n s w h h4 (hk rfl)
  · by_cases h11 : o = 11
    · subst h11; exact ofNone_in p e n s w h
    · exact ofNone_else p e o n s w h2 h11
end Go.Proofs.Ytbkgkdfameojfaa
