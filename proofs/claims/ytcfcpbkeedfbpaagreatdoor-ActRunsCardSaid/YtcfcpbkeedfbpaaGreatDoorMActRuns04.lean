/- EvalOps2, EvalNone, EvalReckon, TermNames, EvalCheck, ActFits, RangeSeq, QuietRound, joined. -/
import Derived.Test.YtcfcpbkeedfbpaaGreatDoorMActRuns01
import Derived.Test.YtcfcpbkeedfbpaaGreatDoorMActRuns00
import Derived.Test.YtcfcpbkeedfbpaaGreatDoorMActRuns02
import Derived.BigQuiet
import Derived.Deep.QuietTactic
import Derived.Test.YtcfcpbkeedfbpaaGreatDoorMActRuns03
import Derived.Lib.QuietBelow
import Derived.RangeFuncBox
import Derived.RangeFuncNested
import Derived.RangeFuncBound
import Derived.RangeFuncCalls
import Derived.RangeFuncLeaves
import Derived.Shelf.RegionOpen
import Derived.Sort.QuietIn
import Derived.TacticsIn
import Derived.Lib.QuietBelowIn
namespace Go.Proofs.YtcfcpbkeedfbpaaGreatDoor
open Go.RowKit TermSpec EvalSpec ValSpec
set_option maxRecDepth 100000

theorem ofTwo_cmp (o x y : Int) (w : World) (hc1 : 13 ≤ o) (hc2 : o ≤ 18) : Calls Tryz.prog 164 #[.int .i64 o, .int .i64 x, .int .i64 y] w (SameI w (ev2 o x y)) := by
  have HC := Lib.hid (compare_any o x y w hc1 hc2)
  have HE := Lib.hid (show ev2 o x y = tru (cmp o x y) by unfold ev2; rw [if_neg (by omega), if_neg (by omega), if_neg (by omega), if_neg (by omega), if_neg (by omega), if_neg (by omega), if_neg (by omega)])
  obtain ⟨b, hb⟩ : ∃ b, b = cmp o x y := ⟨_, rfl⟩
  rw [← hb] at HC HE
  have HT := Lib.hid (truth_any b w)
  have g4 : (o == 4) = false := by simp; omega
  have g5 : (o == 5) = false := by simp; omega
  have g6 : (o == 6) = false := by simp; omega
  have g7 : (o == 7) = false := by simp; omega
  have g8 : (o == 8) = false := by simp; omega
  have g19 : (o == 19) = false := by simp; omega
  have g20 : (o == 20) = false := by simp; omega
  clear hb hc1 hc2
  go_enter Tryz.func164, Tryz.ntmps164
  go_wp2_with (first
    | (go_at_call 181; (with_reducible refine HC.out.mono ?_); rintro e w' ⟨rfl, rfl⟩)
    | (go_at_call 176; (with_reducible refine HT.out.mono ?_); rintro e w' ⟨rfl, rfl⟩))
  go_ret
  exact same_int HE.out.symm

theorem ofTwo_plus (x y : Int) (w : World) (h1 : -1000000 ≤ x) (h2 : x ≤ 1000000) (h3 : -1000000 ≤ y) (h4 : y ≤ 1000000) : Calls Tryz.prog 164 #[.int .i64 4, .int .i64 x, .int .i64 y] w (SameI w (ev2 4 x y)) := by
  have HX := Lib.hid (plus_any x y w)
  have HE := Lib.hid (show plus x y = ev2 4 x y by unfold plus; rw [near_of h1 h2, near_of h3 h4]; simp [ev2])
  clear h1 h2 h3 h4
  go_enter Tryz.func164, Tryz.ntmps164
  go_wp2_with (go_at_call 179; (with_reducible refine HX.out.mono ?_); rintro e w' ⟨rfl, rfl⟩)
  go_ret
  exact same_int HE.out

theorem ofTwo_minus (x y : Int) (w : World) (h1 : -1000000 ≤ x) (h2 : x ≤ 1000000) (h3 : -1000000 ≤ y) (h4 : y ≤ 1000000) : Calls Tryz.prog 164 #[.int .i64 5, .int .i64 x, .int .i64 y] w (SameI w (ev2 5 x y)) := by
  have HX := Lib.hid (minus_any x y w)
  have HE := Lib.hid (show minus x y = ev2 5 x y by unfold minus; rw [near_of h1 h2, near_of h3 h4]; simp [ev2])
  clear h1 h2 h3 h4
  go_enter Tryz.func164, Tryz.ntmps164
  go_wp2_with (go_at_call 178; (with_reducible refine HX.out.mono ?_); rintro e w' ⟨rfl, rfl⟩)
  go_ret
  exact same_int HE.out

theorem ofTwo_times (x y : Int) (w : World) (h1 : -1000000 ≤ x) (h2 : x ≤ 1000000) (h3 : -1000000 ≤ y) (h4 : y ≤ 1000000) : Calls Tryz.prog 164 #[.int .i64 6, .int .i64 x, .int .i64 y] w (SameI w (ev2 6 x y)) := by
  have HX := Lib.hid (times_any x y w)
  have HE := Lib.hid (show times x y = ev2 6 x y by unfold times; rw [near_of h1 h2, near_of h3 h4]; simp [ev2])
  clear h1 h2 h3 h4
  go_enter Tryz.func164, Tryz.ntmps164
  go_wp2_with (go_at_call 180; (with_reducible refine HX.out.mono ?_); rintro e w' ⟨rfl, rfl⟩)
  go_ret
  exact same_int HE.out

theorem ofTwo_min (x y : Int) (w : World) : Calls Tryz.prog 164 #[.int .i64 7, .int .i64 x, .int .i64 y] w (SameI w (ev2 7 x y)) := by
  have HE := Lib.hid (show ev2 7 x y = if x < y then x else y by simp [ev2])
  by_cases h : x < y
  · have h' : ¬ y < x := by omega
    go_enter Tryz.func164, Tryz.ntmps164
    go_wp2_with fail
    go_ret
    exact same_int (by rw [HE.out]; first | omega | (split <;> omega) | (rw [if_pos h]) | (rw [if_neg h]))
  · go_enter Tryz.func164, Tryz.ntmps164
    go_wp2_with fail
    go_ret
    exact same_int (by rw [HE.out]; first | omega | (split <;> omega) | (rw [if_pos h]) | (rw [if_neg h]))

theorem ofTwo_max (x y : Int) (w : World) : Calls Tryz.prog 164 #[.int .i64 8, .int .i64 x, .int .i64 y] w (SameI w (ev2 8 x y)) := by
  have HE := Lib.hid (show ev2 8 x y = if y < x then x else y by simp [ev2])
  by_cases h : y < x
  · have h' : ¬ x < y := by omega
    go_enter Tryz.func164, Tryz.ntmps164
    go_wp2_with fail
    go_ret
    exact same_int (by rw [HE.out]; first | omega | (split <;> omega) | (rw [if_pos h]) | (rw [if_neg h]))
  · go_enter Tryz.func164, Tryz.ntmps164
    go_wp2_with fail
    go_ret
    exact same_int (by rw [HE.out]; first | omega | (split <;> omega) | (rw [if_pos h]) | (rw [if_neg h]))

theorem ofTwo_and (x y : Int) (w : World) : Calls Tryz.prog 164 #[.int .i64 19, .int .i64 x, .int .i64 y] w (SameI w (ev2 19 x y)) := by
  have HE := Lib.hid (show ev2 19 x y = tru (x == 1 && y == 1) by simp [ev2])
  have HT := Lib.hid (fun b => truth_any b w)
  rcases hx : (x == 1) with _ | _
  all_goals
    rcases hy : (y == 1) with _ | _
    all_goals
      rw [hx, hy] at HE
      go_enter Tryz.func164, Tryz.ntmps164
      go_wp2_with (go_at_call 176; (with_reducible refine (HT.out _).mono ?_); rintro e w' ⟨rfl, rfl⟩)
      go_ret
      exact same_int HE.out.symm

theorem ofTwo_or (x y : Int) (w : World) : Calls Tryz.prog 164 #[.int .i64 20, .int .i64 x, .int .i64 y] w (SameI w (ev2 20 x y)) := by
  have HE := Lib.hid (show ev2 20 x y = tru (x == 1 || y == 1) by simp [ev2])
  have HT := Lib.hid (fun b => truth_any b w)
  rcases hx : (x == 1) with _ | _
  all_goals
    rcases hy : (y == 1) with _ | _
    all_goals
      rw [hx, hy] at HE
      go_enter Tryz.func164, Tryz.ntmps164
      go_wp2_with (go_at_call 176; (with_reducible refine (HT.out _).mono ?_); rintro e w' ⟨rfl, rfl⟩)
      go_ret
      exact same_int HE.out.symm

theorem ofTwo_any (o x y : Int) (w : World) (h0 : 4 ≤ o) (h20 : o ≤ 20) (h9 : o ≤ 8 ∨ 13 ≤ o) (h1 : -1000000 ≤ x) (h2 : x ≤ 1000000) (h3 : -1000000 ≤ y) (h4 : y ≤ 1000000) :
    Calls Tryz.prog 164 #[.int .i64 o, .int .i64 x, .int .i64 y] w (SameI w (ev2 o x y)) := by
  by_cases hc : 13 ≤ o ∧ o ≤ 18
  · exact ofTwo_cmp o x y w hc.1 hc.2
  · rcases (show o = 4 ∨ o = 5 ∨ o = 6 ∨ o = 7 ∨ o = 8 ∨ o = 19 ∨ o = 20 by omega) with rfl | rfl | rfl | rfl | rfl | rfl | rfl
    · exact ofTwo_plus x y w h1 h2 h3 h4
    · exact ofTwo_minus x y w h1 h2 h3 h4
    · exact ofTwo_times x y w h1 h2 h3 h4
    · exact ofTwo_min x y w
    · exact ofTwo_max x y w
    · exact ofTwo_and x y w
    · exact ofTwo_or x y w
end Go.Proofs.YtcfcpbkeedfbpaaGreatDoor

namespace Go.Proofs.YtcfcpbkeedfbpaaGreatDoor
open Go.RowKit TermSpec EvalSpec NamesSpec Go.Lib ValSpec
set_option maxRecDepth 100000

theorem known_place {e : Ev} {s : ByteArray} (h : hasS (vnames e) s = true) (h4 : e.vars.length ≤ 4) : ∃ k : Nat, idxOfS (vnames e) s = k ∧ k < 4 := by
  have h1 := place_ge (vnames e) s
  rw [h, decide_eq_true_iff] at h1
  have h2 := hasS_iff.1 h
  obtain ⟨k, hk⟩ := Int.eq_ofNat_of_zero_le h1
  refine ⟨k, hk, ?_⟩
  have h3 := place_bd (vnames e) s
  rw [vnames_length] at h3
  rcases Nat.lt_or_ge k 4 with h | h
  · exact h
  · exfalso
    obtain ⟨i, hi⟩ := List.mem_iff_getElem?.1 h2
    have hi' := (List.getElem?_eq_some_iff.1 hi).1
    rw [vnames_length] at hi'
    have := place_lt hi
    have hn : hasS ((vnames e).take i) s = false := by
      rw [← this]
      simp
      omega
    have := place_hit hi (hasS_no.1 hn)
    omega
set_option maxHeartbeats 1000000 in
theorem ofNone_var (p : EP) (e : Ev) (n : Int) (s : ByteArray) (w : World) (h : EnvIn w p e) (h4 : e.vars.length ≤ 4) (hk : hasS (vnames e) s = true) :
    Calls Tryz.prog 162 #[.agg #[.int .i64 2, .int .i64 n, .string s], envV p e] w (RetI w (ev0 e ⟨2, n, s⟩)) := by
  obtain ⟨k, hi, hk4⟩ := known_place hk h4
  have HV := Lib.hid (fun w h => variable_any p e s w h)
  rw [hi] at HV
  have HE := Lib.hid (show ev0 e ⟨2, n, s⟩ = near (valAt e k) by unfold ev0; simp [hi])
  have HEN := Lib.hid h
  obtain ⟨vA, vn, vc, iA, im, ic⟩ := p
  obtain ⟨r, hr⟩ : ∃ r, r = ev0 e ⟨2, n, s⟩ := ⟨_, rfl⟩
  rw [← hr] at HE ⊢
  obtain ⟨x, hx⟩ : ∃ x, x = valAt e k := ⟨_, rfl⟩
  rw [← hx] at HE
  have HX := Lib.hid hx
  have HNR := Lib.hid (near_any x)
  obtain ⟨vars, v0, v1, v2, v3, ins⟩ := e
  change Calls _ _ #[.agg #[.int .i64 2, .int .i64 n, .string s], .agg #[.slice vA vn vc, .int .i64 v0, .int .i64 v1, .int .i64 v2, .int .i64 v3, .slice iA im ic]] _ _
  clear h h4 hk hi hr hx
  go_enter Tryz.func162, Tryz.ntmps162
  go_wp2_with (go_at_call 110; (with_reducible refine (HV.out _ (HEN.out.keep (KitC.below_pair _ _ _))).mono ?_))
  rintro e2 w3 ⟨rfl, hb3⟩
  obtain ⟨B1, B2, hb, hz⟩ := KitC.pair_blocks hb3
  have HB := Lib.hid hb
  have hcell : w3.cell? ⟨w.heap.size + 1, 1 + k, none⟩ = some (.int .i64 x) := by
    obtain ⟨-, c1, c2, c3, c4, -⟩ := cells_6 B2
    have := HX.out
    rcases (show k = 0 ∨ k = 1 ∨ k = 2 ∨ k = 3 by omega) with rfl | rfl | rfl | rfl
    · rw [this]; exact c1
    · rw [this]; exact c2
    · rw [this]; exact c3
    · rw [this]; exact c4
  clear B1 B2 hb hb3
  go_wp2_with (go_at_call 175; (with_reducible refine (HNR.out _).mono ?_); rintro e w' ⟨rfl, rfl⟩)
  go_ret
  exact ⟨ret_int HE.out.symm, HB.out⟩
set_option maxHeartbeats 1000000 in
theorem ofNone_in (p : EP) (e : Ev) (n : Int) (s : ByteArray) (w : World) (h : EnvIn w p e) :
    Calls Tryz.prog 162 #[.agg #[.int .i64 11, .int .i64 n, .string s], envV p e] w (RetI w (ev0 e ⟨11, n, s⟩)) := by
  have HP := Lib.hid (fun w h => nplace_any (.slice p.iA p.im p.ic) e.ins s w h (by have := h.strs; exact ‹EnvIn _ p e›.ibd))
  have HE := Lib.hid (show ev0 e ⟨11, n, s⟩ = tru (decide (0 ≤ idxOfS e.ins s)) by unfold ev0; simp)
  have HEN := Lib.hid h.ins
  obtain ⟨vA, vn, vc, iA, im, ic⟩ := p
  obtain ⟨r, hr⟩ : ∃ r, r = ev0 e ⟨11, n, s⟩ := ⟨_, rfl⟩
  rw [← hr] at HE ⊢
  obtain ⟨x, hx⟩ : ∃ x, x = idxOfS e.ins s := ⟨_, rfl⟩
  rw [← hx] at HE HP
  have HT := Lib.hid (fun b => truth_any b)
  obtain ⟨vars, v0, v1, v2, v3, ins⟩ := e
  simp only at HP HEN
  change Calls _ _ #[.agg #[.int .i64 11, .int .i64 n, .string s], .agg #[.slice vA vn vc, .int .i64 v0, .int .i64 v1, .int .i64 v2, .int .i64 v3, .slice iA im ic]] _ _
  clear h hr hx
  go_enter Tryz.func162, Tryz.ntmps162
  go_wp2_with (first
    | (go_at_call 177; (with_reducible refine (HP.out _ (HEN.out.keep (KitC.below_pair _ _ _))).mono ?_); rintro e w' ⟨rfl, rfl⟩)
    | (go_at_call 176; (with_reducible refine (HT.out _ _).mono ?_); rintro e w' ⟨rfl, rfl⟩))
  go_ret
  exact ⟨ret_int HE.out.symm, KitC.below_pair _ _ _⟩
set_option maxHeartbeats 1000000 in
theorem ofNone_else (p : EP) (e : Ev) (o n : Int) (s : ByteArray) (w : World) (h2 : ¬ o = 2) (h11 : ¬ o = 11) :
    Calls Tryz.prog 162 #[.agg #[.int .i64 o, .int .i64 n, .string s], envV p e] w (RetI w (ev0 e ⟨o, n, s⟩)) := by
  have HE := Lib.hid (show ev0 e ⟨o, n, s⟩ = if o = 1 then n else tru (o == 9) by unfold ev0; simp [h2, h11])
  obtain ⟨vA, vn, vc, iA, im, ic⟩ := p
  obtain ⟨r, hr⟩ : ∃ r, r = ev0 e ⟨o, n, s⟩ := ⟨_, rfl⟩
  rw [← hr] at HE ⊢
  have HT := Lib.hid (fun b => truth_any b)
  obtain ⟨vars, v0, v1, v2, v3, ins⟩ := e
  change Calls _ _ #[.agg #[.int .i64 o, .int .i64 n, .string s], .agg #[.slice vA vn vc, .int .i64 v0, .int .i64 v1, .int .i64 v2, .int .i64 v3, .slice iA im ic]] _ _
  have g2 : (o == 2) = false := by simp [h2]
  have g11 : (o == 11) = false := by simp [h11]
  by_cases h1 : o = 1
  · have g1 : (o == 1) = true := by simp [h1]
    have H1 := Lib.hid h1
    clear hr h2 h11 h1
    go_enter Tryz.func162, Tryz.ntmps162
    go_wp2_with fail
    go_ret
    exact ⟨ret_int (by rw [HE.out, if_pos H1.out]), KitC.below_pair _ _ _⟩
  · have g1 : (o == 1) = false := by simp [h1]
    have H1 := Lib.hid h1
    clear hr h2 h11 h1
    go_enter Tryz.func162, Tryz.ntmps162
    go_wp2_with (go_at_call 176; (with_reducible refine (HT.out _ _).mono ?_); rintro e w' ⟨rfl, rfl⟩)
    go_ret
    exact ⟨ret_int (by rw [HE.out, if_neg H1.out]), KitC.below_pair _ _ _⟩
theorem ofNone_any (p : EP) (e : Ev) (t : Tm) (w : World) (h : EnvIn w p e) (h4 : e.vars.length ≤ 4) (hk : t.op = 2 → hasS (vnames e) t.s = true) :
    Calls Tryz.prog 162 #[.agg #[.int .i64 t.op, .int .i64 t.n, .string t.s], envV p e] w (RetI w (ev0 e t)) := by
  obtain ⟨o, n, s⟩ := t
  by_cases h2 : o = 2
  · subst h2; exact ofNone_var p e n s w h h4 (hk rfl)
  · by_cases h11 : o = 11
    · subst h11; exact ofNone_in p e n s w h
    · exact ofNone_else p e o n s w h2 h11
end Go.Proofs.YtcfcpbkeedfbpaaGreatDoor

namespace Go.Proofs.YtcfcpbkeedfbpaaGreatDoor
open Go.RowKit TermSpec EvalSpec NamesSpec Go.Lib ValSpec
set_option maxRecDepth 100000

theorem quiet_sameI {P : Program} {f : FuncId} {args : Array Value} {n : Int} (h : ∀ w, Calls P f args w (SameI w n)) (W : World) (k : Nat) : Calls P f args (W.drewN k) fun e w'' => e = .returned (.int .i64 n) ∧ ∃ m, w'' = W.drewN m :=
  (h _).mono fun _ _ ⟨he, hw⟩ => ⟨he, k, hw.symm⟩
set_option maxHeartbeats 1000000 in
theorem reckon_0 (p : EP) (e : Ev) (t : Tm) (w : World) (A : Option Addr) (c : Nat) (h : EnvIn w p e) (h4 : e.vars.length ≤ 4) (hk : t.op = 2 → hasS (vnames e) t.s = true) :
    Calls Tryz.prog 141 #[.agg #[.int .i64 t.op, .int .i64 t.n, .string t.s], .slice A 0 c, envV p e] w (RetI w (ev0 e t)) := by
  have HN := Lib.hid (fun w h => ofNone_any p e t w h h4 hk)
  have HEN := Lib.hid h
  obtain ⟨vA, vn, vc, iA, im, ic⟩ := p
  obtain ⟨r, hr⟩ : ∃ r, r = ev0 e t := ⟨_, rfl⟩
  rw [← hr] at HN ⊢
  obtain ⟨vars, v0, v1, v2, v3, ins⟩ := e
  obtain ⟨o, n, s⟩ := t
  change Calls _ _ #[.agg #[.int .i64 o, .int .i64 n, .string s], .slice A 0 c, .agg #[.slice vA vn vc, .int .i64 v0, .int .i64 v1, .int .i64 v2, .int .i64 v3, .slice iA im ic]] _ _
  simp only at HN
  clear h h4 hk hr
  go_enter Tryz.func141, Tryz.ntmps141
  go_wp2_with (go_at_call 162; (with_reducible refine (HN.out _ (HEN.out.keep (KitC.below_pair _ _ _))).mono ?_))
  rintro e2 w3 ⟨rfl, hb3⟩
  obtain ⟨-, -, hb, -⟩ := KitC.pair_blocks hb3
  have HB := Lib.hid hb
  clear hb hb3
  go_wp2_with fail
  go_ret
  exact ⟨rfl, HB.out⟩
set_option maxHeartbeats 1000000 in
theorem reckon_1 (p : EP) (e : Ev) (t : Tm) (w : World) (b off c : Nat) (x : Int) (hb : b < w.heap.size) (h0 : w.cell? ⟨b, off, none⟩ = some (.int .i64 x)) (_hc : 1 ≤ c) (h1 : -1000000 ≤ x) (h2 : x ≤ 1000000) :
    Calls Tryz.prog 141 #[.agg #[.int .i64 t.op, .int .i64 t.n, .string t.s], .slice (some ⟨b, off, none⟩) 1 c, envV p e] w (RetI w (ev1 t.op x)) := by
  have HQ := Lib.hid (fun W k => quiet_sameI (fun w => ofOne_any t.op x w h1 h2) W k)
  obtain ⟨vA, vn, vc, iA, im, ic⟩ := p
  obtain ⟨r, hr⟩ : ∃ r, r = ev1 t.op x := ⟨_, rfl⟩
  rw [← hr] at HQ ⊢
  obtain ⟨vars, v0, v1, v2, v3, ins⟩ := e
  obtain ⟨o, n, s⟩ := t
  change Calls _ _ #[.agg #[.int .i64 o, .int .i64 n, .string s], .slice (some ⟨b, off, none⟩) 1 c, .agg #[.slice vA vn vc, .int .i64 v0, .int .i64 v1, .int .i64 v2, .int .i64 v3, .slice iA im ic]] _ _
  simp only at HQ
  have hcell := ((KitC.below_pair w (.cells #[.int .i64 o, .int .i64 n, .string s] 68) (.cells #[.slice vA vn vc, .int .i64 v0, .int .i64 v1, .int .i64 v2, .int .i64 v3, .slice iA im ic] 54)).cell (p := ⟨b, off, none⟩) hb).trans h0
  clear hr h1 h2
  go_enter Tryz.func141, Tryz.ntmps141
  go_wp2_with fail
  go_quiet ((go_at_call 163; exact HQ.out _ _))
  go_wp2_with fail
  go_ret
  exact ⟨rfl, below_drewN (KitC.below_pair _ _ _) _⟩
set_option maxHeartbeats 1000000 in
theorem reckon_2 (p : EP) (e : Ev) (t : Tm) (w : World) (b off c : Nat) (x y : Int) (hb : b < w.heap.size) (h0 : w.cell? ⟨b, off, none⟩ = some (.int .i64 y)) (h00 : w.cell? ⟨b, off + 1, none⟩ = some (.int .i64 x)) (_hc : 2 ≤ c) (g1 : -1000000 ≤ x) (g2 : x ≤ 1000000) (g3 : -1000000 ≤ y) (g4 : y ≤ 1000000)
    (o4 : 4 ≤ t.op) (o20 : t.op ≤ 20) (o9 : t.op ≤ 8 ∨ 13 ≤ t.op) :
    Calls Tryz.prog 141 #[.agg #[.int .i64 t.op, .int .i64 t.n, .string t.s], .slice (some ⟨b, off, none⟩) 2 c, envV p e] w (RetI w (ev2 t.op x y)) := by
  have HQ := Lib.hid (fun W k => quiet_sameI (fun w => ofTwo_any t.op x y w o4 o20 o9 g1 g2 g3 g4) W k)
  obtain ⟨vA, vn, vc, iA, im, ic⟩ := p
  obtain ⟨r, hr⟩ : ∃ r, r = ev2 t.op x y := ⟨_, rfl⟩
  rw [← hr] at HQ ⊢
  obtain ⟨vars, v0, v1, v2, v3, ins⟩ := e
  obtain ⟨o, n, s⟩ := t
  change Calls _ _ #[.agg #[.int .i64 o, .int .i64 n, .string s], .slice (some ⟨b, off, none⟩) 2 c, .agg #[.slice vA vn vc, .int .i64 v0, .int .i64 v1, .int .i64 v2, .int .i64 v3, .slice iA im ic]] _ _
  simp only at HQ
  have hcell := ((KitC.below_pair w (.cells #[.int .i64 o, .int .i64 n, .string s] 68) (.cells #[.slice vA vn vc, .int .i64 v0, .int .i64 v1, .int .i64 v2, .int .i64 v3, .slice iA im ic] 54)).cell (p := ⟨b, off, none⟩) hb).trans h0
  have hcell2 := ((KitC.below_pair w (.cells #[.int .i64 o, .int .i64 n, .string s] 68) (.cells #[.slice vA vn vc, .int .i64 v0, .int .i64 v1, .int .i64 v2, .int .i64 v3, .slice iA im ic] 54)).cell (p := ⟨b, off + 1, none⟩) hb).trans h00
  clear hr g1 g2 g3 g4 o4 o20 o9
  go_enter Tryz.func141, Tryz.ntmps141
  go_wp2_with fail
  go_quiet ((go_at_call 164; exact HQ.out _ _))
  go_wp2_with fail
  go_ret
  exact ⟨rfl, below_drewN (KitC.below_pair _ _ _) _⟩
theorem ar_two {o : Int} (h : ar o = 2) : 4 ≤ o ∧ o ≤ 20 ∧ (o ≤ 8 ∨ 13 ≤ o) := by
  unfold ar at h
  split at h
  · omega
  · split at h
    · omega
    · split at h <;> omega
theorem reckon_any (p : EP) (e : Ev) (t : Tm) (w : World) (v : Value) (bs : List Int) (h : EnvIn w p e) (h4 : e.vars.length ≤ 4) (hk : t.op = 2 → hasS (vnames e) t.s = true) (h0 : 0 ≤ ar t.op) (hl : bs.length = arN t.op) (hv : Rd w v (intV bs.reverse)) (hbd : ∀ x ∈ bs, -1000000 ≤ x ∧ x ≤ 1000000) :
    Calls Tryz.prog 141 #[.agg #[.int .i64 t.op, .int .i64 t.n, .string t.s], v, envV p e] w (RetI w (evF e t bs)) := by
  obtain ⟨A, n, c, rfl, hn, hc, hA⟩ := hv.ints
  rw [List.length_reverse] at hn
  have ha := arN_of h0
  have hb2 := (ar_bd t.op).2
  match bs, hl, hn, hA, hbd with
  | [], hl, hn, hA, hbd =>
    have e0 : ar t.op = 0 := by simp at hl; omega
    have : evF e t [] = ev0 e t := by unfold evF evT; rw [if_pos e0]
    rw [this, ← hn]
    exact reckon_0 p e t w A c h h4 hk
  | [x], hl, hn, hA, hbd =>
    have e1 : ar t.op = 1 := by simp at hl; omega
    have : evF e t [x] = ev1 t.op x := by unfold evF evT; rw [if_neg (by omega), if_pos e1]; rfl
    rw [this, ← hn]
    obtain ⟨b, off, rfl, hb, hcell⟩ := hA (by rw [← hn]; simp)
    have := hbd x (by simp)
    exact reckon_1 p e t w b off c x hb (hcell 0 x rfl) (by simp at hn; omega) this.1 this.2
  | [x, y], hl, hn, hA, hbd =>
    have e2 : ar t.op = 2 := by simp at hl; omega
    have : evF e t [x, y] = ev2 t.op x y := by unfold evF evT; rw [if_neg (by omega), if_neg (by omega)]; rfl
    rw [this, ← hn]
    obtain ⟨b, off, rfl, hb, hcell⟩ := hA (by rw [← hn]; simp)
    have b1 := hbd x (by simp)
    have b2 := hbd y (by simp)
    obtain ⟨o4, o20, o9⟩ := ar_two e2
    exact reckon_2 p e t w b off c x y hb (hcell 0 y rfl) (hcell 1 x rfl) (by simp at hn; omega) b1.1 b1.2 b2.1 b2.2 o4 o20 o9
  | x :: y :: z :: r, hl, hn, hA, hbd => simp at hl; omega
end Go.Proofs.YtcfcpbkeedfbpaaGreatDoor

namespace Go.Proofs.YtcfcpbkeedfbpaaGreatDoor
open Go.RowKit TermSpec
set_option maxRecDepth 100000

theorem inf_str : (Tryz.prog.info? 9).map (fun i => (i.zero, i.size, i.bytes)) = some (some (.string ByteArray.empty), 1, 16) := by kernel_rfl
/-- A list of texts of the call's own. -/
def RowS (W wr : World) (p : Value) (xs : List ByteArray) : Prop := wr.ownsRow W.heap.size 9 1 p xs.length (strV xs) ∧ Below W.heap.size W wr
theorem RowS.nil (W wr : World) (hb : Below W.heap.size W wr) : RowS W wr (.slice none 0 0) [] := ⟨World.ownsRow_nil _ _ _ _, hb⟩
theorem RowS.keep {W w w' : World} {p : Value} {xs : List ByteArray} (h : RowS W w p xs) (hb : Below w.heap.size w w') : RowS W w' p xs := ⟨own_keep h.1 hb, below_two' h.2 hb⟩
theorem RowS.alloc {W w : World} {p : Value} {xs : List ByteArray} (h : RowS W w p xs) (o : Obj) : RowS W (w.alloc o) p xs := h.keep ((Below.refl _ _).alloc (Nat.le_refl _) _)
theorem RowS.add {W wr w2 : World} {p p' : Value} {xs : List ByteArray} {x : ByteArray} {o : Obj} (h : RowS W wr p xs) (hrow : w2.ownsRow W.heap.size 9 1 p' (xs.length + (strV [x]).length) (strV xs ++ strV [x])) (hg : (wr.alloc o).grownBy w2 p.ownBlock) : RowS W w2 p' (xs ++ [x]) := by
  refine ⟨?_, (h.2.alloc h.2.size o).grown hg (by have := h.2.size; simp; omega) (fun j hj => (own_block_bd h.1 j hj).1)⟩
  rw [← strV_append, List.length_append]
  exact hrow
theorem RowS.read {W wr : World} {p : Value} {xs : List ByteArray} (h : RowS W wr p xs) : Rd wr p (strV xs) := Rd.own h.1

def NamRel (W : World) (l : List Tm) (n : Nat) (o : Int) (p i : Value) (wr : World) : Prop := ∃ k : Nat, k ≤ n ∧ i = .int .i64 k ∧ RowS W wr p (namesOf (l.take k) o)
set_option maxHeartbeats 2000000 in
theorem names_any (A : Option Addr) (n c : Nat) (l : List Tm) (o : Int) (hn : n = l.length) (hn62 : n ≤ 4398046511104) (w : World) (h : Tms w (.slice A n c) l) :
    Calls Tryz.prog 109 #[.slice A n c, .int .i64 o] w (RetStrs w (namesOf l o)) := by
  have HT := Lib.hid h
  have HN := Lib.hid hn
  obtain ⟨i0, hi, hz0, hz1, hz2⟩ := info_parts inf_str
  have HI := Lib.hid (And.intro hi (And.intro hz0 (And.intro hz1 hz2)))
  clear h hn hi hz0 hz1 hz2
  go_enter Tryz.func109, Tryz.ntmps109
  go_wp2_with fail
  go_loopw [5, 7, 10] (fun p _ i wr => NamRel w l n o p i wr) (fun _ _ i _ => n - (intOf i).toNat)
  case atStart => exact ⟨0, Nat.zero_le _, rfl, RowS.nil _ _ (Below.refl _ _)⟩
  case round =>
    obtain ⟨k, hk, rfl, hrow⟩ := hrel
    have HR0 := Lib.hid hrow
    clear hrow
    by_cases hlt : k < n
    · obtain ⟨t, ht⟩ : ∃ t, l[k]? = some t := get_some (by rw [← HN.out]; exact hlt)
      obtain ⟨b, off, rfl, hb, c0, c1, c2⟩ := (HT.out.keep HR0.out.2).at_ ht
      by_cases ho : t.op = o
      · have HY := Lib.hid (namesOf_yes ht ho)
        have hl := namesOf_length (l.take k) o
        rw [List.length_take] at hl
        have HR := Lib.hid (HR0.out.alloc (.cells #[.int .i64 t.op, .int .i64 t.n, .string t.s] 68))
        obtain ⟨s, hs⟩ : ∃ s, s = t.s := ⟨_, rfl⟩
        rw [← hs] at HY HR c2
        have HL1 : Hid ((namesOf (l.take k) o).length + (strV [s]).length ≤ maxLen) := Lib.hid (by simp [maxLen]; omega)
        have HL2 : Hid (((namesOf (l.take k) o).length + (strV [s]).length) * 16 ≤ 140737488355328) := Lib.hid (by simp; omega)
        have HSZ : Hid (w.heap.size ≤ wr.heap.size) := Lib.hid HR0.out.2.size
        have HRA := Lib.hid HR.out.1
        have g : (t.op == o) = true := by simp [ho]
        clear ht hl hs ho
        go_wp2_with (at_builtin; refine wpList_append_rd _ rfl (.tmp 18) (.tmp 21) _ rfl w.heap.size 9 i0 (.string ByteArray.empty) 16 Tryz.underlying52 HI.out.1 HI.out.2.1 HI.out.2.2.1 HI.out.2.2.2 rfl _ _ _ rfl (HRA.out.alloc _) _ (strV [s]) rfl (lit_here (World.size_alloc _ _).symm rfl rfl) (strV_one _) HL1.out HL2.out ?_ ?_; (have := HSZ.out; simp; omega); intro p2 w2 hrow2 hg2 _; have HR2 := Lib.hid (RowS.add HR.out hrow2 hg2); clear hrow2 hg2)
        go_roundw
        case rel => exact ⟨k + 1, hlt, by simp, by rw [HY.out]; exact HR2.out⟩
        case measure => simp [intOf]; omega
      · have HY := Lib.hid (namesOf_no ht ho)
        have g : (t.op == o) = false := by simp [ho]
        clear ho
        go_wp2_with fail
        go_roundw
        case rel => exact ⟨k + 1, hlt, by simp, by rw [HY.out]; exact HR0.out.alloc _⟩
        case measure => simp [intOf]; omega
    · obtain rfl : k = n := by omega
      go_wp2_with fail
      go_ret
      have hr := HR0.out
      rw [List.take_of_length_le (by rw [← HN.out]; omega)] at hr
      exact ⟨_, rfl, hr.read, hr.2⟩

end Go.Proofs.YtcfcpbkeedfbpaaGreatDoor

namespace Go.Proofs.YtcfcpbkeedfbpaaGreatDoor
open Go.RowKit TermSpec EvalSpec NamesSpec
set_option maxRecDepth 100000

theorem known_names (e : Ev) (l : List Tm) : knownB e l = (namesOf l 2).all (fun s => hasS (vnames e) s) := by
  unfold knownB namesOf
  rw [List.all_map]
  induction l with
  | nil => rfl
  | cons t r ih =>
    rw [List.all_cons, ih, List.filter_cons]
    by_cases h : t.op = 2
    · simp [h]
    · simp [h]
/-- The cells of an Env by value. -/
abbrev envO (p : EP) (e : Ev) : Obj := .cells #[.slice p.vA p.vn p.vc, .int .i64 e.v0, .int .i64 e.v1, .int .i64 e.v2, .int .i64 e.v3, .slice p.iA p.im p.ic] 54
theorem tru_neg {r : Int} {b : Bool} (h : decide (0 ≤ r) = b) : decide (r < 0) = !b := by
  subst h
  rw [← decide_not]
  exact decide_eq_decide.2 (by omega)

theorem echeck_wide (p : EP) (e : Ev) (A : Option Addr) (n c : Nat) (l : List Tm) (w : World) (he : EnvIn w p e) (h4 : 4 < e.vars.length) :
    Calls Tryz.prog 75 #[.slice A n c, envV p e] w (RetI w (chkE e l)) := by
  have HE := Lib.hid (chkE_wide (l := l) h4)
  have hv := he.vars.1
  obtain ⟨vA, vn, vc, iA, im, ic⟩ := p
  obtain ⟨r, hr⟩ : ∃ r, r = chkE e l := ⟨_, rfl⟩
  rw [← hr] at HE ⊢
  have hvn : 4 < (vn : Int) := by have : vn = e.vars.length := hv; omega
  obtain ⟨vars, v0, v1, v2, v3, ins⟩ := e
  change Calls _ _ #[.slice A n c, .agg #[.slice vA vn vc, .int .i64 v0, .int .i64 v1, .int .i64 v2, .int .i64 v3, .slice iA im ic]] _ _
  clear hr he h4 hv
  go_enter Tryz.func75, Tryz.ntmps75
  go_wp2_with fail
  go_ret
  exact ⟨ret_int HE.out.symm, KitC.below_one _ _⟩
theorem echeck_bad (p : EP) (e : Ev) (A : Option Addr) (n c : Nat) (l : List Tm) (hn : n = l.length) (hn62 : n ≤ 4398046511104) (hs : Small l) (w : World) (h : Tms w (.slice A n c) l) (he : EnvIn w p e) (h4 : ¬ 4 < e.vars.length) (hc : chk l ≠ 0) :
    Calls Tryz.prog 75 #[.slice A n c, envV p e] w (RetI w (chkE e l)) := by
  have HE := Lib.hid (chkE_bad h4 hc)
  have hv := he.vars.1
  have HC := Lib.hid (fun w h => check_any A n c l hn (by omega) hs w h)
  have HT := Lib.hid h
  obtain ⟨vA, vn, vc, iA, im, ic⟩ := p
  obtain ⟨r, hr⟩ : ∃ r, r = chkE e l := ⟨_, rfl⟩
  rw [← hr] at HE ⊢
  obtain ⟨q, hq⟩ : ∃ q, q = chk l := ⟨_, rfl⟩
  rw [← hq] at HE HC hc
  have hvn : ¬ 4 < (vn : Int) := by have : vn = e.vars.length := hv; omega
  have g : (q != 0) = true := by simp [hc]
  obtain ⟨vars, v0, v1, v2, v3, ins⟩ := e
  change Calls _ _ #[.slice A n c, .agg #[.slice vA vn vc, .int .i64 v0, .int .i64 v1, .int .i64 v2, .int .i64 v3, .slice iA im ic]] _ _
  clear hr he h4 hv hq hc h hn hs
  go_enter Tryz.func75, Tryz.ntmps75
  go_wp2_with (go_at_call 54; (with_reducible refine (HC.out _ (HT.out.keep (KitC.below_one _ _))).mono ?_))
  rintro e2 w2 ⟨rfl, hb2⟩
  have HB2 := Lib.hid (below_two' (KitC.below_one _ _) hb2)
  clear hb2
  go_wp2_with fail
  go_ret
  exact ⟨ret_int HE.out.symm, HB2.out⟩
def CkRel (W : World) (e : Ev) (nm : List ByteArray) (i : Value) (wr : World) : Prop := ∃ k : Nat, k ≤ nm.length ∧ i = .int .i64 k ∧ (nm.take k).all (fun s => hasS (vnames e) s) = true ∧ Below W.heap.size W wr
set_option maxHeartbeats 2000000 in
theorem echeck_last (p : EP) (e : Ev) (A : Option Addr) (n c : Nat) (l : List Tm) (hn : n = l.length) (hn62 : n ≤ 4398046511104) (hs : Small l) (w : World) (h : Tms w (.slice A n c) l) (he : EnvIn w p e) (h4 : ¬ 4 < e.vars.length) (hc : chk l = 0) :
    Calls Tryz.prog 75 #[.slice A n c, envV p e] w (RetI w (chkE e l)) := by
  have HE0 := Lib.hid (fun h => chkE_typ (e := e) h4 hc h)
  have HE1 := Lib.hid (fun h => chkE_last (e := e) h4 hc h)
  rw [known_names] at HE1
  have hv := he.vars.1
  have HC := Lib.hid (fun w h => check_any A n c l hn (by omega) hs w h)
  rw [hc] at HC
  have HTY := Lib.hid (fun w h => typ_any A n c l hn (by omega) w h)
  have HNM := Lib.hid (fun w h => names_any A n c l 2 hn hn62 w h)
  have HNL := Lib.hid (namesOf_length l 2)
  have HN := Lib.hid hn
  have HT := Lib.hid h
  have HV := Lib.hid (fun s w h => variable_any p e s w h)
  have HEN := Lib.hid he
  have HPG := Lib.hid (fun s => place_ge (vnames e) s)
  obtain ⟨vA, vn, vc, iA, im, ic⟩ := p
  obtain ⟨r, hr⟩ : ∃ r, r = chkE e l := ⟨_, rfl⟩
  rw [← hr] at HE0 HE1 ⊢
  obtain ⟨q, hq⟩ : ∃ q, q = typ l := ⟨_, rfl⟩
  rw [← hq] at HE0 HE1 HTY
  obtain ⟨nm, hnm⟩ : ∃ nm, nm = namesOf l 2 := ⟨_, rfl⟩
  rw [← hnm] at HE1 HNM HNL
  have hvn : ¬ 4 < (vn : Int) := by have : vn = e.vars.length := hv; omega
  have HVN := Lib.hid (rfl : vnames e = vnames e)
  obtain ⟨f, hf⟩ : ∃ f : ByteArray → Int, f = fun s => Lib.idxOfS (vnames e) s := ⟨_, rfl⟩
  have HF : Hid (∀ s, Lib.idxOfS (vnames e) s = f s) := Lib.hid (fun s => by rw [hf])
  have HV' : Hid (∀ s w, EnvIn w ⟨vA, vn, vc, iA, im, ic⟩ e → Calls Tryz.prog 110 #[envV ⟨vA, vn, vc, iA, im, ic⟩ e, .string s] w (RetI w (f s))) := Lib.hid (fun s w h => by rw [← HF.out]; exact HV.out s w h)
  clear hr he h4 hv hq hc h hn hs hnm hf
  obtain ⟨E, hE⟩ : ∃ E, E = e := ⟨_, rfl⟩
  rw [← hE] at HPG HF HEN HV' HE1
  obtain ⟨vars, v0, v1, v2, v3, ins⟩ := e
  have HV2 : Hid (∀ s w, EnvIn w ⟨vA, vn, vc, iA, im, ic⟩ E → Calls Tryz.prog 110 #[.agg #[.slice vA vn vc, .int .i64 v0, .int .i64 v1, .int .i64 v2, .int .i64 v3, .slice iA im ic], .string s] w (RetI w (f s))) := Lib.hid (fun s w h => by have := HV'.out s w h; rw [hE] at this; exact this)
  change Calls _ _ #[.slice A n c, .agg #[.slice vA vn vc, .int .i64 v0, .int .i64 v1, .int .i64 v2, .int .i64 v3, .slice iA im ic]] _ _
  clear hE HV HV' HVN
  by_cases hq0 : q = 0
  · have g : (q == 0) = true := by simp [hq0]
    have HEE := Lib.hid (HE0.out hq0)
    clear hq0 HE0 HE1
    go_enter Tryz.func75, Tryz.ntmps75
    go_wp2_with (go_at_call 54; (with_reducible refine (HC.out _ (HT.out.keep (KitC.below_one _ _))).mono ?_))
    rintro e2 w2 ⟨rfl, hb2⟩
    have HB2 := Lib.hid (below_two' (KitC.below_one _ _) hb2)
    clear hb2
    go_wp2_with (go_at_call 76; (with_reducible refine (HTY.out _ (HT.out.keep HB2.out)).mono ?_))
    rintro e2 w3 ⟨rfl, hb3⟩
    have HB3 := Lib.hid (below_two' HB2.out hb3)
    clear hb3
    go_wp2_with fail
    go_ret
    exact ⟨ret_int HEE.out.symm, HB3.out⟩
  · have g : (q == 0) = false := by simp [hq0]
    have HEE := Lib.hid (HE1.out hq0)
    clear hq0 HE0 HE1
    go_enter Tryz.func75, Tryz.ntmps75
    go_wp2_with (go_at_call 54; (with_reducible refine (HC.out _ (HT.out.keep (KitC.below_one _ _))).mono ?_))
    rintro e2 w2 ⟨rfl, hb2⟩
    obtain ⟨B2, hbb, _⟩ := KitC.one_block hb2
    have HB2 := Lib.hid hbb
    have HBK2 := Lib.hid B2
    clear hb2 hbb B2
    go_wp2_with (go_at_call 76; (with_reducible refine (HTY.out _ (HT.out.keep HB2.out)).mono ?_))
    rintro e2 w3 ⟨rfl, hb3⟩
    have HB3 := Lib.hid (below_two' HB2.out hb3)
    have HBK3 := Lib.hid (KitC.block_on HBK2.out hb3)
    clear hb3
    go_wp2_with (go_at_call 109; (with_reducible refine (HNM.out _ (HT.out.keep HB3.out)).mono ?_))
    rintro e2 w4 ⟨v4, rfl, hr4, hb4⟩
    have HB4 := Lib.hid (below_two' HB3.out hb4)
    have HBK4 := Lib.hid (KitC.block_on HBK3.out hb4)
    obtain ⟨A4, n4, c4, rfl, hn4, hc4, hA4⟩ := hr4.strs
    have HA4 := Lib.hid hA4
    have HN4 := Lib.hid hn4
    have hn4b : n4 ≤ 4398046511104 := by have := HNL.out; have := HN.out; omega
    clear hb4 hr4 hn4 hA4 hc4
    go_wp2_with fail
    go_loopw [23] (fun i wr => CkRel w4 E nm i wr) (fun i _ => n4 - (intOf i).toNat)
    case atStart => exact ⟨0, Nat.zero_le _, rfl, by simp, Below.refl _ _⟩
    case round =>
      obtain ⟨k, hk, rfl, hall, hbw⟩ := hrel
      have HBW := Lib.hid hbw
      have HALL := Lib.hid hall
      have hk' : k ≤ n4 := by have := HN4.out; omega
      clear hbw hall hk
      by_cases hlt : k < n4
      · obtain ⟨b2, off2, rfl, hb2, hcell⟩ := HA4.out (by omega)
        obtain ⟨x, hx⟩ : ∃ x, nm[k]? = some x := get_some (by have := HN4.out; omega)
        have hck := (HBW.out.cell (p := ⟨b2, off2 + k, none⟩) (by exact hb2)).trans (hcell k _ hx)
        obtain ⟨c0, c1, c2, c3, c4', c5⟩ := cells_6 (KitC.block_on HBK4.out HBW.out)
        have HX := Lib.hid (take_next hx)
        have HXM := Lib.hid (List.mem_of_getElem? hx)
        have HVV := Lib.hid (HV2.out x wr (HEN.out.keep (below_two' HB4.out HBW.out)))
        have hdec := tru_neg (HPG.out x)
        rw [HF.out] at hdec
        clear hcell hx
        rcases hh : hasS (vnames E) x with _ | _
        · rw [hh] at hdec
          have hdec' : decide (f x < 0) = true := hdec
          have HH := Lib.hid hh
          clear hdec hh
          go_wp2_with (go_at_call 110; (with_reducible refine HVV.out.mono ?_))
          rintro e2 w5 ⟨rfl, hb5⟩
          have HB5 := Lib.hid (below_two' (below_two' HB4.out HBW.out) hb5)
          clear hb5 hck c0 c1 c2 c3 c4' c5
          go_wp2_with fail
          go_ret
          refine ⟨ret_int ?_, HB5.out⟩
          rw [HEE.out, if_neg]
          rw [Bool.not_eq_true, List.all_eq_false]
          exact ⟨x, HXM.out, by rw [HH.out]; simp⟩
        · rw [hh] at hdec
          have hdec' : decide (f x < 0) = false := hdec
          have HH := Lib.hid hh
          clear hdec hh
          go_wp2_with (go_at_call 110; (with_reducible refine HVV.out.mono ?_))
          rintro e2 w5 ⟨rfl, hb5⟩
          have HB5 := Lib.hid (below_two' HBW.out hb5)
          clear hb5 hck c0 c1 c2 c3 c4' c5
          go_wp2_with fail
          go_roundw
          case rel => exact ⟨k + 1, by have := HN4.out; omega, by simp, by rw [HX.out, List.all_append, HALL.out]; simp [HH.out], HB5.out⟩
          case measure => simp [intOf]; omega
      · have HAL : Hid (nm.all (fun s => hasS (vnames E) s) = true) := Lib.hid (by
          have := HALL.out
          rwa [List.take_of_length_le (by have := HN4.out; omega)] at this)
        go_wp2_with fail
        go_ret
        exact ⟨ret_int (by rw [HEE.out, if_pos HAL.out]), below_two' HB4.out HBW.out⟩
theorem echeck_any (p : EP) (e : Ev) (A : Option Addr) (n c : Nat) (l : List Tm) (hn : n = l.length) (hn62 : n ≤ 4398046511104) (hs : Small l) (w : World) (h : Tms w (.slice A n c) l) (he : EnvIn w p e) :
    Calls Tryz.prog 75 #[.slice A n c, envV p e] w (RetI w (chkE e l)) := by
  by_cases h4 : 4 < e.vars.length
  · exact echeck_wide p e A n c l w he h4
  · by_cases hc : chk l = 0
    · exact echeck_last p e A n c l hn hn62 hs w h he h4 hc
    · exact echeck_bad p e A n c l hn hn62 hs w h he h4 hc
end Go.Proofs.YtcfcpbkeedfbpaaGreatDoor

namespace Go.Proofs.YtcfcpbkeedfbpaaGreatDoor
open Go.RowKit TermSpec EvalSpec ActSpec NamesSpec Go.Lib
set_option maxRecDepth 100000

set_option maxHeartbeats 400000 in
theorem aisVar_any (B : Nat) (x s : ByteArray) (lo hi ini : Int) (w : World) (hB : B < w.heap.size) (hc : w.cell? ⟨B, 0, none⟩ = some (.string s)) :
    Calls Tryz.prog 73 #[.agg #[.string x, .int .i64 lo, .int .i64 hi, .int .i64 ini], .pointer (some ⟨B, 0, none⟩)] w (RetB w (x.toList == s.toList)) := by
  have hc' : ∀ o, (w.alloc o).cell? ⟨B, 0, none⟩ = some (.string s) := fun o => (((Below.refl _ w).alloc (Nat.le_refl _) o).cell (p := ⟨B, 0, none⟩) hB).trans hc
  go_enter Tryz.func73, Tryz.ntmps73
  go_wp2
  go_ret
  exact ⟨rfl, (Below.refl _ _).alloc (Nat.le_refl _) _⟩

def AVarRel (W : World) (e : Ev) (s : ByteArray) (n : Nat) (i : Value) (wr : World) : Prop := ∃ k : Nat, k ≤ n ∧ i = .int .i64 k ∧ s ∉ (vnames e).take k ∧ Below W.heap.size W wr
set_option maxHeartbeats 1000000 in
theorem aindexFunc_any (B : Nat) (A : Option Addr) (n c : Nat) (e : Ev) (s : ByteArray) (w : World) (h : VarsIn w A n c e.vars) (hn63 : n ≤ 9223372036854775807) (hB : B < w.heap.size) (hc : w.cell? ⟨B, 0, none⟩ = some (.string s)) :
    Calls Tryz.prog 72 #[.slice A n c, .func (.func 73) #[] #[.pointer (some ⟨B, 0, none⟩)]] w (RetI w (idxOfS (vnames e) s)) := by
  have HV := Lib.hid h
  have HN := Lib.hid h.1
  have HC := Lib.hid hc
  have hcap := h.cap
  clear h hc
  go_enter Tryz.func72, Tryz.ntmps72
  go_wp2
  go_loopw [8] (fun i wr => AVarRel w e s n i wr) (fun i _ => n - (RowKit.intOf i).toNat)
  case atStart => exact ⟨0, Nat.zero_le _, rfl, by simp, Below.refl _ _⟩
  case round =>
    obtain ⟨k, hk, rfl, hno, hbw⟩ := hrel
    have HBW := Lib.hid hbw
    have HO := Lib.hid hno
    clear hno
    by_cases hlt : k < n
    · obtain ⟨v, hv⟩ : ∃ v, e.vars[k]? = some v := get_some (by have := HN.out; omega)
      obtain ⟨b, off, rfl, hb, c0, c1, c2, c3⟩ := (HV.out.keep hbw).at_ hv
      have HX := Lib.hid (vnames_get hv)
      have HCALL := Lib.hid (aisVar_any B v.s s v.lo v.hi v.ini wr (Nat.lt_of_lt_of_le hB hbw.size) ((hbw.cell (p := ⟨B, 0, none⟩) hB).trans HC.out))
      clear hv hbw
      obtain ⟨x, lo, hi, ini⟩ := v
      simp only at c0 c1 c2 c3 HX HCALL
      rcases hxs : (x.toList == s.toList) with _ | _
      · rw [hxs] at HCALL
        go_wp2_with (go_at_call 73; (with_reducible refine HCALL.out.mono ?_))
        rintro e2 w3 ⟨rfl, hb3⟩
        have HB3 := Lib.hid (below_two' HBW.out hb3)
        clear hb3
        go_wp2_with fail
        go_roundw
        case rel =>
          refine ⟨k + 1, by omega, by go_num, ?_, HB3.out⟩
          rw [take_next HX.out, List.mem_append, List.mem_singleton]
          rintro (h1 | h1)
          · exact HO.out h1
          · exact bytes_ne hxs h1.symm
        case measure => simp [RowKit.intOf]; omega
      · rw [hxs] at HCALL
        go_wp2_with (go_at_call 73; (with_reducible refine HCALL.out.mono ?_))
        rintro e2 w3 ⟨rfl, hb3⟩
        have HB3 := Lib.hid (below_two' HBW.out hb3)
        clear hb3
        go_wp2_with fail
        go_ret
        exact ⟨ret_int (by rw [← bytes_eq hxs] at HO ⊢; exact (place_hit HX.out HO.out).symm), HB3.out⟩
    · have HE : Hid (idxOfS (vnames e) s = -1) := Lib.hid (by
        have h1 := HN.out
        have h2 := HO.out
        have h3 : (vnames e).length ≤ k := by rw [vnames_length]; omega
        rw [List.take_of_length_le h3] at h2
        exact place_miss h2)
      clear hbw
      go_wp2_with fail
      go_ret
      exact ⟨ret_int HE.out.symm, HBW.out⟩

set_option maxHeartbeats 400000 in
theorem avariable_any (p : EP) (e : Ev) (s : ByteArray) (w : World) (h : EnvIn w p e) : Calls Tryz.prog 42 #[envV p e, .string s] w (RetI w (idxOfS (vnames e) s)) := by
  have hv := h.vars
  have hbd : p.vn ≤ 9223372036854775807 := by have := h.vbd; have := hv.1; omega
  obtain ⟨vA, vn, vc, iA, im, ic⟩ := p
  obtain ⟨r, hr⟩ : ∃ r, r = idxOfS (vnames e) s := ⟨_, rfl⟩
  have HIF := Lib.hid (fun B w h => aindexFunc_any B vA vn vc e s w h hbd)
  rw [← hr] at HIF ⊢
  have HV := Lib.hid hv
  obtain ⟨vars, v0, v1, v2, v3, ins⟩ := e
  change Calls _ _ #[.agg #[.slice vA vn vc, .int .i64 v0, .int .i64 v1, .int .i64 v2, .int .i64 v3, .slice iA im ic], .string s] _ _
  clear h hv hbd hr
  go_enter Tryz.func42, Tryz.ntmps42
  go_wp2_with (go_at_call 72; (with_reducible refine (HIF.out _ _ (HV.out.keep (((Below.refl _ _).alloc (Nat.le_refl _) _).alloc (by simp) _)) ?_ ?_).mono ?_))
  rintro e2 w3 ⟨rfl, hb3⟩
  go_wp2_with fail
  go_ret
  exact ⟨rfl, below_two' (KitC.below_pair _ _ _) hb3⟩


set_option maxHeartbeats 1000000 in
theorem span_any (v : Vr) (hf : VFit v) (w : World) : Calls Tryz.prog 74 #[.agg #[.string v.s, .int .i64 v.lo, .int .i64 v.hi, .int .i64 v.ini]] w (RetI w (if spanB v then 0 else 1)) := by
  obtain ⟨r, hr⟩ : ∃ r : Int, r = if spanB v then 0 else 1 := ⟨_, rfl⟩
  rw [← hr]
  have HR := Lib.hid hr
  obtain ⟨vs, lo, hi, ini⟩ := v
  obtain ⟨f1, f2, f3, f4⟩ := hf
  simp only at f1 f2 f3 f4 ⊢
  clear hr
  by_cases hlo : hi < lo
  · have HE : Hid (r = 1) := Lib.hid (by rw [HR.out, if_neg (by unfold spanB; simp; omega)])
    clear f1 f2 f3 f4
    go_enter Tryz.func74, Tryz.ntmps74
    go_wp2_with fail
    go_ret
    exact ⟨ret_int HE.out.symm, KitC.below_one _ _⟩
  · have hwr := u64_span f1 f4 (by omega : lo ≤ hi)
    by_cases hw : 64 ≤ hi - lo
    · have HE : Hid (r = 1) := Lib.hid (by rw [HR.out, if_neg (by unfold spanB; simp; omega)])
      have g : decide (64 ≤ IntKind.u64.wrap (IntKind.u64.wrap hi - IntKind.u64.wrap lo)) = true := by rw [hwr]; simp; omega
      clear f1 f2 f3 f4 hwr hw
      go_enter Tryz.func74, Tryz.ntmps74
      go_wp2_with fail
      go_ret
      exact ⟨ret_int HE.out.symm, KitC.below_one _ _⟩
    · have HE : Hid (r = 0) := Lib.hid (by rw [HR.out, if_pos (by unfold spanB; simp; omega)])
      have g : decide (64 ≤ IntKind.u64.wrap (IntKind.u64.wrap hi - IntKind.u64.wrap lo)) = false := by rw [hwr]; simp; omega
      clear f1 f2 f3 f4 hwr hw
      go_enter Tryz.func74, Tryz.ntmps74
      go_wp2_with fail
      go_ret
      exact ⟨ret_int HE.out.symm, KitC.below_one _ _⟩
set_option maxHeartbeats 1000000 in
theorem fits_none (p : EP) (e : Ev) (a : Ac) (A : Option Addr) (n c : Nat) (w : World) : Calls Tryz.prog 43 #[.agg #[.string a.s, .bool a.any, .slice A n c], .int .i64 (-1), envV p e] w (RetI w 7) := by
  obtain ⟨s, any, x⟩ := a
  obtain ⟨vA, vn, vc, iA, im, ic⟩ := p
  obtain ⟨vars, v0, v1, v2, v3, ins⟩ := e
  change Calls _ _ #[_, _, .agg #[.slice vA vn vc, .int .i64 v0, .int .i64 v1, .int .i64 v2, .int .i64 v3, .slice iA im ic]] _ _
  simp only
  go_enter Tryz.func43, Tryz.ntmps43
  go_wp2_with fail
  go_ret
  exact ⟨rfl, KitC.below_pair _ _ _⟩
set_option maxHeartbeats 2000000 in
theorem fits_some (p : EP) (e : Ev) (a : Ac) (i : Nat) (v : Vr) (A : Option Addr) (n c : Nat) (w : World) (he : EnvIn w p e) (hv : varOf e a = some (i, v)) (hf : VFit v) (hs : SmallA a) (ht : Tms w (.slice A n c) a.x) :
    Calls Tryz.prog 43 #[.agg #[.string a.s, .bool a.any, .slice A n c], .int .i64 i, envV p e] w (RetI w (badA e a)) := by
  obtain ⟨A', n', c', heq, hn, hnc⟩ := ht.shape
  cases heq
  have HT := Lib.hid ht
  have HCK := Lib.hid (fun w h h' => echeck_any p e A n c a.x hn (by have := hs.2.2; omega) hs.2.1 w h h')
  have HTY := Lib.hid (fun w h => typ_any A n c a.x hn (by have := hs.2.2; omega) w h)
  have HB1 := Lib.hid (fun ha h => badA_chk hv ha h)
  have HB0 := Lib.hid (fun ha h => badA_typ hv ha h)
  have HBA := Lib.hid (fun ha => badA_any hv ha)
  have HSP := Lib.hid (fun w => span_any v hf w)
  obtain ⟨r, hr⟩ : ∃ r, r = badA e a := ⟨_, rfl⟩
  rw [← hr] at HB1 HB0 HBA ⊢
  obtain ⟨q, hq⟩ : ∃ q, q = chkE e a.x := ⟨_, rfl⟩
  rw [← hq] at HCK HB1 HB0
  obtain ⟨t, ht2⟩ : ∃ t, t = typ a.x := ⟨_, rfl⟩
  rw [← ht2] at HTY HB0
  obtain ⟨z, hz⟩ : ∃ z : Int, z = if spanB v then 0 else 1 := ⟨_, rfl⟩
  rw [← hz] at HSP HBA
  have hvi := varOf_lt hv
  have HE := Lib.hid he
  have HVI := Lib.hid hvi
  have hin := get_lt hvi
  obtain ⟨s, any, x⟩ := a
  simp only at HT HCK HTY HB1 HB0 HBA hn ⊢
  obtain ⟨E, hE⟩ : ∃ E, E = e := ⟨_, rfl⟩
  rw [← hE] at HE HVI hin
  obtain ⟨vA, vn, vc, iA, im, ic⟩ := p
  have HVN : Hid (vn = E.vars.length) := Lib.hid (HE.out.vars.1)
  have hcap := HE.out.vars.cap
  simp only at hcap
  obtain ⟨vars, v0, v1, v2, v3, ins⟩ := e
  have HCK' : Hid (∀ w, Tms w (.slice A n c) x → EnvIn w ⟨vA, vn, vc, iA, im, ic⟩ E → Calls Tryz.prog 75 #[.slice A n c, .agg #[.slice vA vn vc, .int .i64 v0, .int .i64 v1, .int .i64 v2, .int .i64 v3, .slice iA im ic]] w (RetI w q)) := Lib.hid (fun w h h' => by rw [hE] at h'; exact HCK.out w h h')
  clear hE HCK hv he hvi hs ht hn hnc ht2 hr hq hz hf
  change Calls _ _ #[_, _, .agg #[.slice vA vn vc, .int .i64 v0, .int .i64 v1, .int .i64 v2, .int .i64 v3, .slice iA im ic]] _ _
  have hiI : ¬ (i : Int) < 0 := by omega
  have hin' : (i : Int) < vn := by have := HVN.out; omega
  have hbp := KitC.below_pair w (.cells #[.string s, .bool any, .slice A n c] 66) (.cells #[.slice vA vn vc, .int .i64 v0, .int .i64 v1, .int .i64 v2, .int .i64 v3, .slice iA im ic] 54)
  have HBP := Lib.hid hbp
  rcases hany : any with _ | _
  · have H1 := Lib.hid (HB1.out hany)
    have H0 := Lib.hid (HB0.out hany)
    subst hany
    clear HBA HSP HB1 HB0
    by_cases hq0 : q = 0
    · have HR0 := Lib.hid (H0.out hq0)
      have g : (q != 0) = false := by simp [hq0]
      clear H1 H0
      by_cases ht1 : t = 1
      · have HR : Hid (r = 0) := Lib.hid (by rw [HR0.out, if_pos ht1])
        have g2 : (t != 1) = false := by simp [ht1]
        clear HR0 ht1 hq0
        go_enter Tryz.func43, Tryz.ntmps43
        go_wp2_with (go_at_call 75; (with_reducible refine (HCK'.out _ (HT.out.keep HBP.out) (HE.out.keep HBP.out)).mono ?_))
        rintro e2 w2 ⟨rfl, hb2⟩
        obtain ⟨B1, B2, hbb, _⟩ := KitC.pair_blocks hb2
        have HB2 := Lib.hid hbb
        obtain ⟨c0, c1, c2⟩ := cells_3 B1
        clear hb2 hbb B2 B1 hbp
        go_wp2_with (go_at_call 76; (with_reducible refine (HTY.out _ (HT.out.keep HB2.out)).mono ?_))
        rintro e2 w3 ⟨rfl, hb3⟩
        have HB3 := Lib.hid (below_two' HB2.out hb3)
        clear hb3
        go_wp2_with fail
        go_ret
        exact ⟨ret_int HR.out.symm, HB3.out⟩
      · have HR : Hid (r = 4) := Lib.hid (by rw [HR0.out, if_neg ht1])
        have g2 : (t != 1) = true := by simp [ht1]
        clear HR0 ht1 hq0
        go_enter Tryz.func43, Tryz.ntmps43
        go_wp2_with (go_at_call 75; (with_reducible refine (HCK'.out _ (HT.out.keep HBP.out) (HE.out.keep HBP.out)).mono ?_))
        rintro e2 w2 ⟨rfl, hb2⟩
        obtain ⟨B1, B2, hbb, _⟩ := KitC.pair_blocks hb2
        have HB2 := Lib.hid hbb
        obtain ⟨c0, c1, c2⟩ := cells_3 B1
        clear hb2 hbb B2 B1 hbp
        go_wp2_with (go_at_call 76; (with_reducible refine (HTY.out _ (HT.out.keep HB2.out)).mono ?_))
        rintro e2 w3 ⟨rfl, hb3⟩
        have HB3 := Lib.hid (below_two' HB2.out hb3)
        clear hb3
        go_wp2_with fail
        go_ret
        exact ⟨ret_int HR.out.symm, HB3.out⟩
    · have HR := Lib.hid (H1.out hq0)
      have g : (q != 0) = true := by simp [hq0]
      clear H1 H0 hq0
      go_enter Tryz.func43, Tryz.ntmps43
      go_wp2_with (go_at_call 75; (with_reducible refine (HCK'.out _ (HT.out.keep HBP.out) (HE.out.keep HBP.out)).mono ?_))
      rintro e2 w2 ⟨rfl, hb2⟩
      have HB2 := Lib.hid (below_two' HBP.out hb2)
      clear hb2 hbp
      go_wp2_with fail
      go_ret
      exact ⟨ret_int HR.out.symm, HB2.out⟩
  · have HR := Lib.hid (HBA.out hany)
    subst hany
    clear HBA HB1 HB0 HCK'
    obtain ⟨b, off, rfl, hb, d0, d1, d2, d3⟩ := (HE.out.vars.keep hbp).at_ HVI.out
    obtain ⟨vs, lo, hi, ini⟩ := v
    simp only at d0 d1 d2 d3 HSP
    go_enter Tryz.func43, Tryz.ntmps43
    go_wp2_with (go_at_call 74; (with_reducible refine (HSP.out _).mono ?_))
    rintro e2 w2 ⟨rfl, hb2⟩
    have HB2 := Lib.hid (below_two' HBP.out hb2)
    clear hb2 hbp
    go_wp2_with fail
    go_ret
    exact ⟨ret_int HR.out.symm, HB2.out⟩
end Go.Proofs.YtcfcpbkeedfbpaaGreatDoor

namespace Go.Proofs.YtcfcpbkeedfbpaaGreatDoor
open Go.RowKit

/-- The k-th of N calls of yield hands over xs k; Kp is what the iterator asks to be kept. -/
def Hands (F : Fence) (n : Nat) (P : Program) (g : Nat) (lb : Array Value) (xs : Nat → Array Value) (Kp : World → World → Prop) (N : Nat) (w : World) : Prop :=
  ∀ (lp : Nat) (J : Nat → World → Prop) (W : World), Below w.heap.size w W →
    (∀ k W1, J k W1 → k < N → YieldAt F (n - 1) P lp (xs k) W1 fun e W' => e = .returned (.bool true) ∧ J (k + 1) W' ∧ Kp W1 W') →
    J 0 W → CallsIn F n P g (#[.func (.yield lp) #[] #[]] ++ lb) W fun e W' => (∃ v, e = .returned v) ∧ J N W'

theorem range_seq {F : Fence} {n : Nat} {P : Program} {g : Operand} {ps : Array Tmp} {assign body : Code} {Q : Exit → Act → World → Prop} {a : Act} {w : World}
    (hro : F.round = none) (h1 : 1 ≤ n) {gf : Nat} {lb : Array Value} (hg : a.eval g = .func (.func gf) #[] lb) (hFg : F.fn gf) (eg : ∀ args w, (callFunc gf args).run P w = .ok (.enter gf args) w)
    {xs : Nat → Array Value} {Kp : World → World → Prop} {N : Nat} (hseq : Hands F (n - 1) P gf lb xs Kp N w)
    (hKt : ∀ {A B C : World}, Kp A B → Kp B C → Kp A C) (hKb : ∀ (W : World) (l : Nat) (o o' : Obj), w.heap.size ≤ l → W.heap[l]? = some o → o.isCells = false → Kp W (W.putObj l o')) (hps : ∀ k, (xs k).size = ps.size)
    (I : Nat → World → Prop) (hI : OwnFrom w.heap.size I) (h0 : I 0 w) (Ax : Nat → Act → World → Prop) (hAx : ∀ a', OwnFrom w.heap.size (fun k W => Ax k a' W))
    (hassign : ∀ (l k : Nat) (W : World) (K : Act → World → Prop), k < N → I k W → (∀ a' W', KeepsFrom w.heap.size W W' → Kp W W' → I k W' → Ax k a' W' → K a' W') →
      assign.wpIn (F.inRound l) (n - 1 - 1) P (Exit.then K (fun _ _ _ => False)) { tmps := (ps.zip (xs k)).foldl (fun t (p, v) => t.setIfInBounds p v) a.tmps, defers := [] } W)
    (hbody : ∀ (l k : Nat) (a' : Act) (W : World), k < N → I k W → Ax k a' W → body.wpIn (F.inRound l) (n - 1 - 1) P (fun e _ W' => e = .normal ∧ KeepsFrom w.heap.size W W' ∧ Kp W W' ∧ I (k + 1) W') a' W)
    (hdone : ∀ (D : Nat) (W : World), w.heap.size ≤ D → I N W → W.heap[D]? = some (.deferred (some [])) → Q .normal { a with defers := { target := .collected D, args := #[] } :: a.defers } W) :
    (Code.rangeFunc g ps assign body).wpIn F n P Q a w := by
  refine wpIn_rangeFunc fun fn hfn => ?_
  rw [hro]
  let rec_ : LoopState → Loop := fun st => { state := st, pending := none, fn, tmps := a.tmps, params := ps, assign, body, defers := w.heap.size }
  let w1 := w.alloc (.deferred (some []))
  let w2 := w1.alloc (.loop (rec_ .ready))
  have s1 : w1.heap.size = w.heap.size + 1 := by simp [w1]
  have hrec : w2.heap[w.heap.size + 1]? = some (.loop (rec_ .ready)) := by have := World.alloc_heap_new w1 (.loop (rec_ .ready)); rwa [s1] at this
  have hdef : w2.heap[w.heap.size]? = some (.deferred (some [])) := (Below.heap_alloc w1 _ _ (by rw [s1]; omega)).trans (World.alloc_heap_new w _)
  have hbel : Below w.heap.size w w2 := KitC.below_pair w _ _
  -- the two blocks of the loop's own
  let Bk : Nat → LoopState → World → Prop := fun _ st W => W.heap[w.heap.size + 1]? = some (.loop (rec_ st)) ∧ W.heap[w.heap.size]? = some (.deferred (some []))
  have turned : ∀ (st st' : LoopState) (W : World), Bk 0 st W → Bk 0 st' (W.putObj (w.heap.size + 1) (.loop (rec_ st'))) := fun st st' W ⟨hl, hd⟩ =>
    ⟨World.putObj_heap_same (Array.getElem?_eq_some_iff.1 hl).1, (World.putObj_heap_other (by omega)).trans hd⟩
  have kept : ∀ (st st' : LoopState) (W : World), Bk 0 st W → Kp W (W.putObj (w.heap.size + 1) (.loop (rec_ st'))) := fun st st' W ⟨hl, _⟩ =>
    hKb W (w.heap.size + 1) _ _ (by omega) hl rfl
  have over : ∀ (k : Nat) (st st' : LoopState) (W : World), Bk 0 st W → I k W → I k (W.putObj (w.heap.size + 1) (.loop (rec_ st'))) := fun k st st' W ⟨hl, _⟩ hi =>
    hI.putObj _ hi (by omega) hl rfl
  refine ⟨w.heap.size + 1, [{ target := .collected w.heap.size, args := #[] }], w2, { target := .fn (.func gf) lb, args := #[.func (.yield (w.heap.size + 1)) #[] #[]] }, w2, gf,
    #[.func (.yield (w.heap.size + 1)) #[] #[]] ++ lb, w2, run_enterLoop_outer _ _ _ _ _, by simp only [resolve, hg]; simp [go_sem], ?_, by simp [invoke, go_sem, eg], fun _ => h1, ?_⟩
  · intro f' hf'
    simp [Target.leads] at hf'
    subst hf'
    exact hFg
  refine (hseq (w.heap.size + 1) (fun k W => I k W ∧ Bk 0 .ready W) w2 hbel ?_ ⟨hI.alloc _ (hI.alloc _ h0), hrec, hdef⟩).mono ?_
  · -- a round
    rintro k W ⟨hi, hb⟩ hk
    refine ⟨fn, _, assign, body, run_yield (P := P) (args := xs k) hb.1 (hps k), roundIn_of_wpIn hfn (hassign _ k W _ hk hi ?_)⟩
    intro a' Wa hkf hbl hia hax
    have hba : Bk 0 .ready Wa := ⟨hkf.same _ _ (by omega) hb.1 rfl, hkf.same _ _ (by omega) hb.2 rfl⟩
    refine ⟨_, run_beginRound hba.1 rfl, ?_⟩
    have hb2 := turned .ready .busy Wa hba
    refine wpIn_mono (hbody _ k a' _ hk (over k _ .busy Wa hba hia) ((hAx a').putObj (s := k) _ hax (by omega) hba.1 rfl)) ?_
    rintro e a3 W3 ⟨rfl, hkf3, hbl3, hi3⟩
    have hb3 : Bk 0 .busy W3 := ⟨hkf3.same _ _ (by omega) hb2.1 rfl, hkf3.same _ _ (by omega) hb2.2 rfl⟩
    exact ⟨_, _, run_endRound (P := P) none hb3.1, rfl, ⟨over (k + 1) _ .ready W3 hb3 hi3, turned .busy .ready W3 hb3⟩, hKt (hKt (hKt hbl (kept _ .busy Wa hba)) hbl3) (kept _ .ready W3 hb3)⟩
  · -- behind the iterator
    rintro e W ⟨⟨v, rfl⟩, hi, hb⟩
    refine ⟨none, _, run_endLoop (P := P) hb.1 (by intro h; cases h), hdone _ _ (Nat.le_refl _) (hI.putObj _ hi (by omega) hb.1 rfl) ?_⟩
    exact (World.putObj_heap_other (by omega)).trans hb.2
end Go.Proofs.YtcfcpbkeedfbpaaGreatDoor

namespace Go.Proofs.YtcfcpbkeedfbpaaGreatDoor
open Go.RowKit Go.Sort

section
variable {F : Fence} {n : Nat} {P : Program} {ops : Array Oper} {Q : Exit → Act → World → Prop} {l0 : Nat}
theorem upon_round {o : Oper} {a : Act} {K : Act → World → Prop} {r : Result Next} (h : o.uponIn F n P a K Q r) : o.uponIn (F.inRound l0) n P a K Q r := by
  cases r with
  | ok x w' => cases x <;> first | exact h | (simp only [Oper.uponIn] at h ⊢; exact h)
  | halt x w' => cases x <;> first | exact h | (simp only [Oper.uponIn] at h ⊢; exact h)
theorem op_round {o : Oper} (hnd : ∀ c, o.op ≠ .defer c) (hro : F.round = none) {a : Act} {w : World} {K : Act → World → Prop} (h : o.wpIn F n P a w K Q) : o.wpIn (F.inRound l0) n P a w K Q := by
  unfold Oper.wpIn at h ⊢
  rw [hro, Oper.semAt_none] at h
  rw [Fence.inRound_round, Oper.semAt_some _ _ _ hnd]
  exact ⟨h.1, upon_round h.2⟩
theorem any_round (hnd : ∀ o ∈ ops.toList, ∀ c, o.op ≠ .defer c) (hro : F.round = none) {md : Region.Mode} : ∀ (fuel : Nat) (listed : Array Bool) (a : Act) (w : World), wpAnyIn F n P md ops Q fuel listed a w → wpAnyIn (F.inRound l0) n P md ops Q fuel listed a w
  | 0, _, _, _, h => h
  | fuel + 1, listed, a, w, h => ⟨h.1, fun i hi => by
    have h2 := h.2 i hi
    unfold wpOpIn at h2 ⊢
    split
    · rename_i ho
      simp only [ho] at h2
      exact any_round hnd hro fuel _ _ _ h2
    · rename_i o ho
      simp only [ho] at h2
      have hno := hnd o (by
        have := (Array.getElem?_eq_some_iff.1 ho)
        obtain ⟨hlt, rfl⟩ := this
        simp)
      split
      · rename_i hw
        simp only [hw, if_true] at h2
        exact Oper.wpIn_mono (fun a w => any_round hnd hro fuel _ a w) (op_round hno hro h2)
      · rename_i hw
        simp only [hw] at h2
        exact ⟨h2.1, any_round hnd hro fuel _ _ _ h2.2⟩⟩
/-- No operation defers a call. -/
def noDefer (l : List Oper) : Bool := l.all fun o => match o.op with | .defer _ => false | _ => true
theorem noDefer_spec {l : List Oper} (h : noDefer l = true) : ∀ o ∈ l, ∀ c, o.op ≠ .defer c := by
  intro o ho c hc
  have := List.all_eq_true.1 h o ho
  rw [hc] at this
  cases this
theorem quiet_round {C : World → Prop} {id : Nat} {a : Act} {w : World} {l : List Oper} (hro : F.round = none) (hnd : noDefer l = true) (hm : P.follows .mixedOrders = true) (hB : Region.lexB .any l.toArray = true) (hC : C { w with drawn := w.drawn + 1 })
    (h : wpQuietIn F n P l.toArray C (fun a' => ∀ w', C w' → Q .normal a' w') l a) : (Code.region id l.toArray true).wpIn (F.inRound l0) n P Q a w := by
  have hB' := hB
  simp only [Region.lexB, Bool.and_eq_true] at hB'
  refine wpIn_region_any hm (any_round (by simpa using noDefer_spec hnd) hro _ _ _ _ (wpAnyIn_of_quiet (C := C) (Q := fun a' => ∀ w', C w' → Q .normal a' w') hro (fun _ w' hw' h => h w' hw') _ _ _ _ hC ?_))
  have := wpAnyQIn_lex (F := F) (n := n) (C := C) (md := .any) hB'.1 l 0 (Array.replicate l.toArray.size false) a (by simp) (by simpa using hB'.2) h
  simpa using this
/-- Callees that make memory and leave what was there. -/
theorem quiet_below_round {id : Nat} {a : Act} {w : World} {l : List Oper} (hro : F.round = none) (hnd : noDefer l = true) (hm : P.follows .mixedOrders = true) (hB : Region.lexB .any l.toArray = true)
    (h : wpQuietIn F n P l.toArray (fun w' => ∃ p : Regrown, w' = grow (redrawn w p.d) p.os) (fun a' => ∀ w', (∃ p : Regrown, w' = grow (redrawn w p.d) p.os) → Q .normal a' w') l a) : (Code.region id l.toArray true).wpIn (F.inRound l0) n P Q a w :=
  quiet_round hro hnd hm hB ⟨⟨w.drawn + 1, #[]⟩, by rw [grow_empty]; rfl⟩ h
end
end Go.Proofs.YtcfcpbkeedfbpaaGreatDoor
