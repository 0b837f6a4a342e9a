/- TermCheck, ActIn, ActMem, ActVar, EvalOps2, EvalNone, EvalReckon, TermNames, EvalCheck, joined. -/
import Derived.Test.YtcfcpbkeedfbpaaGreatDoorMActReads02
import Derived.Test.YtcfcpbkeedfbpaaGreatDoorMActReads01
import Derived.BigQuiet
import Derived.Lib.QuietBelow
import Derived.Test.YtcfcpbkeedfbpaaGreatDoorMActReads00
import Derived.Deep.QuietTactic
namespace Go.Proofs.YtcfcpbkeedfbpaaGreatDoor
open Go.RowKit TermSpec
set_option maxRecDepth 100000

theorem whole_yes {l : List Tm} {n : Nat} (hn : n = l.length) (h40 : n ≤ 40) (h : endA l 0 = n) : wholeB l = true := by
  refine wholeB_iff.2 ⟨by omega, ?_⟩
  obtain ⟨k, m, hk, hc, he, hm, hl⟩ := endA_nn (l := l) (a := 0) (by omega)
  obtain rfl : k = 0 := by omega
  rw [List.drop_zero] at hc
  rw [hc]
  congr 1
  omega
theorem whole_no {l : List Tm} {n : Nat} (hn : n = l.length) (h : ¬ (n ≤ 40 ∧ endA l 0 = n)) : wholeB l = false := by
  rw [Bool.eq_false_iff]
  intro hw
  obtain ⟨h1, h2⟩ := wholeB_iff.1 hw
  refine h ⟨by omega, ?_⟩
  have := endA_some (l := l) (a := 0) (m := l.length) (by simpa using h2)
  rw [show (0 : Int) = ((0 : Nat) : Int) from rfl, this]
  omega
theorem tell_no {f : Int → List Int → Int} {l : List Tm} (h : wholeB l = false) : tell f l = 0 := by unfold tell; rw [h]; rfl
theorem tell_yes {f : Int → List Int → Int} {l : List Tm} (h : wholeB l = true) : tell f l = come f l := by unfold tell; rw [h]; rfl

theorem comeDep_zero (A : Option Addr) (n c : Nat) (l : List Tm) (hn : n = l.length) (hn62 : n ≤ 70368744177664) (w : World) (h : Tms w (.slice A n c) l) (he : 0 ≤ endA l 0) :
    Calls Tryz.prog 138 #[.slice A n c, .int .i64 0, .func (.func 127) #[] #[]] w (RetI w (come depF l)) := by
  have := comeDep_any A n c l hn hn62 0 w h he
  rwa [List.drop_zero] at this
set_option maxHeartbeats 1000000 in
theorem wholeDep_any (A : Option Addr) (n c : Nat) (l : List Tm) (hn : n = l.length) (hn62 : n ≤ 70368744177664) (w : World) (h : Tms w (.slice A n c) l) :
    Calls Tryz.prog 111 #[.slice A n c, .func (.func 127) #[] #[]] w (RetI w (tell depF l)) := by
  by_cases h40 : 40 < n
  · have HE := Lib.hid (tell_no (f := depF) (whole_no hn (by omega)))
    clear hn h
    go_enter Tryz.func111, Tryz.ntmps111
    go_wp2_with fail
    go_ret
    exact ⟨ret_int HE.out.symm, Below.refl _ _⟩
  · have hE := end_any A n c l 0 w h hn (by omega)
    have HY : Hid (endA l 0 = n → Calls Tryz.prog 138 #[.slice A n c, .int .i64 0, .func (.func 127) #[] #[]] w (RetI w (come depF l)) ∧ tell depF l = come depF l) := Lib.hid (fun h0 => ⟨comeDep_zero A n c l hn hn62 w h (by omega), tell_yes (whole_yes hn (by omega) h0)⟩)
    have HN : Hid (endA l 0 ≠ n → tell depF l = 0) := Lib.hid (fun h0 => tell_no (whole_no hn (fun h => h0 h.2)))
    obtain ⟨r, hr⟩ : ∃ r, r = endA l 0 := ⟨_, rfl⟩
    rw [← hr] at hE HY HN
    have HE := Lib.hid hE
    clear hr hE hn h
    by_cases hrn : r = n
    · have g : (r != (n : Int)) = false := by simp [hrn]
      have HC := Lib.hid (HY.out hrn).1
      have HV := Lib.hid (HY.out hrn).2
      clear hrn HN HY
      go_enter Tryz.func111, Tryz.ntmps111
      go_wp2_with (first
        | (go_at_call 137; (with_reducible refine HE.out.mono ?_); rintro e w' ⟨rfl, rfl⟩)
        | (go_at_call 138; (with_reducible refine HC.out.mono ?_)))
      rintro e w1 ⟨rfl, hb1⟩
      go_wp2_with fail
      go_ret
      exact ⟨ret_int HV.out.symm, hb1⟩
    · have g : (r != (n : Int)) = true := by simp [hrn]
      have HV := Lib.hid (HN.out hrn)
      clear hrn HN HY
      go_enter Tryz.func111, Tryz.ntmps111
      go_wp2_with (go_at_call 137; (with_reducible refine HE.out.mono ?_); rintro e w' ⟨rfl, rfl⟩)
      go_ret
      exact ⟨ret_int HV.out.symm, Below.refl _ _⟩
theorem depth_any (A : Option Addr) (n c : Nat) (l : List Tm) (hn : n = l.length) (hn62 : n ≤ 70368744177664) (w : World) (h : Tms w (.slice A n c) l) :
    Calls Tryz.prog 96 #[.slice A n c] w (RetI w (depth l)) := by
  have HC := Lib.hid (wholeDep_any A n c l hn hn62 w h)
  obtain ⟨r, hr⟩ : ∃ r, r = tell depF l := ⟨_, rfl⟩
  have HR : Hid (depth l = r) := Lib.hid hr.symm
  rw [← hr] at HC
  clear hr hn h
  go_enter Tryz.func96, Tryz.ntmps96
  go_wp2_with (go_at_call 111; (with_reducible refine HC.out.mono ?_))
  rintro e w1 ⟨rfl, hb1⟩
  go_wp2_with fail
  go_ret
  exact ⟨ret_int HR.out.symm, hb1⟩

theorem comeTyp_zero (A : Option Addr) (n c : Nat) (l : List Tm) (hn : n = l.length) (hn62 : n ≤ 70368744177664) (w : World) (h : Tms w (.slice A n c) l) (he : 0 ≤ endA l 0) :
    Calls Tryz.prog 138 #[.slice A n c, .int .i64 0, .func (.func 112) #[] #[]] w (RetI w (come typF l)) := by
  have := comeTyp_any A n c l hn hn62 0 w h he
  rwa [List.drop_zero] at this
set_option maxHeartbeats 1000000 in
theorem wholeTyp_any (A : Option Addr) (n c : Nat) (l : List Tm) (hn : n = l.length) (hn62 : n ≤ 70368744177664) (w : World) (h : Tms w (.slice A n c) l) :
    Calls Tryz.prog 111 #[.slice A n c, .func (.func 112) #[] #[]] w (RetI w (tell typF l)) := by
  by_cases h40 : 40 < n
  · have HE := Lib.hid (tell_no (f := typF) (whole_no hn (by omega)))
    clear hn h
    go_enter Tryz.func111, Tryz.ntmps111
    go_wp2_with fail
    go_ret
    exact ⟨ret_int HE.out.symm, Below.refl _ _⟩
  · have hE := end_any A n c l 0 w h hn (by omega)
    have HY : Hid (endA l 0 = n → Calls Tryz.prog 138 #[.slice A n c, .int .i64 0, .func (.func 112) #[] #[]] w (RetI w (come typF l)) ∧ tell typF l = come typF l) := Lib.hid (fun h0 => ⟨comeTyp_zero A n c l hn hn62 w h (by omega), tell_yes (whole_yes hn (by omega) h0)⟩)
    have HN : Hid (endA l 0 ≠ n → tell typF l = 0) := Lib.hid (fun h0 => tell_no (whole_no hn (fun h => h0 h.2)))
    obtain ⟨r, hr⟩ : ∃ r, r = endA l 0 := ⟨_, rfl⟩
    rw [← hr] at hE HY HN
    have HE := Lib.hid hE
    clear hr hE hn h
    by_cases hrn : r = n
    · have g : (r != (n : Int)) = false := by simp [hrn]
      have HC := Lib.hid (HY.out hrn).1
      have HV := Lib.hid (HY.out hrn).2
      clear hrn HN HY
      go_enter Tryz.func111, Tryz.ntmps111
      go_wp2_with (first
        | (go_at_call 137; (with_reducible refine HE.out.mono ?_); rintro e w' ⟨rfl, rfl⟩)
        | (go_at_call 138; (with_reducible refine HC.out.mono ?_)))
      rintro e w1 ⟨rfl, hb1⟩
      go_wp2_with fail
      go_ret
      exact ⟨ret_int HV.out.symm, hb1⟩
    · have g : (r != (n : Int)) = true := by simp [hrn]
      have HV := Lib.hid (HN.out hrn)
      clear hrn HN HY
      go_enter Tryz.func111, Tryz.ntmps111
      go_wp2_with (go_at_call 137; (with_reducible refine HE.out.mono ?_); rintro e w' ⟨rfl, rfl⟩)
      go_ret
      exact ⟨ret_int HV.out.symm, Below.refl _ _⟩
theorem typ_any (A : Option Addr) (n c : Nat) (l : List Tm) (hn : n = l.length) (hn62 : n ≤ 70368744177664) (w : World) (h : Tms w (.slice A n c) l) :
    Calls Tryz.prog 76 #[.slice A n c] w (RetI w (typ l)) := by
  have HC := Lib.hid (wholeTyp_any A n c l hn hn62 w h)
  obtain ⟨r, hr⟩ : ∃ r, r = tell typF l := ⟨_, rfl⟩
  have HR : Hid (typ l = r) := Lib.hid hr.symm
  rw [← hr] at HC
  clear hr hn h
  go_enter Tryz.func76, Tryz.ntmps76
  go_wp2_with (go_at_call 111; (with_reducible refine HC.out.mono ?_))
  rintro e w1 ⟨rfl, hb1⟩
  go_wp2_with fail
  go_ret
  exact ⟨ret_int HR.out.symm, hb1⟩

def AllMay (W : World) (l : List Tm) (n : Nat) (i : Value) (wr : World) : Prop := ∃ k : Nat, k ≤ n ∧ i = .int .i64 k ∧ (l.take k).all mayB = true ∧ Below W.heap.size W wr
theorem may_stop {l : List Tm} {k : Nat} {t : Tm} (ht : l[k]? = some t) (h : mayB t = false) : l.all mayB = false := by
  rw [List.all_eq_false]
  exact ⟨t, List.mem_of_getElem? ht, by simp [h]⟩
theorem may_next {l : List Tm} {k : Nat} {t : Tm} (ht : l[k]? = some t) (h0 : (l.take k).all mayB = true) (h : mayB t = true) : (l.take (k + 1)).all mayB = true := by
  rw [take_next ht, List.all_append, h0]; simpa using h
theorem chk_full {l : List Tm} (h : 40 < l.length) : chk l = 8 := by unfold chk; rw [if_pos h]
theorem chk_none {l : List Tm} (h : ¬ 40 < l.length) (h1 : wholeB l = false) : chk l = 1 := by unfold chk; rw [if_neg h, if_pos h1]
theorem chk_may {l : List Tm} (h : ¬ 40 < l.length) (h1 : wholeB l = true) (h2 : l.all mayB = false) : chk l = 1 := by unfold chk; rw [if_neg h, if_neg (by simp [h1]), if_pos h2]
theorem chk_last {l : List Tm} (h : ¬ 40 < l.length) (h1 : wholeB l = true) (h2 : l.all mayB = true) : chk l = if 12 < depth l then 6 else 0 := by unfold chk; rw [if_neg h, if_neg (by simp [h1]), if_neg (by simp [h2])]

set_option maxHeartbeats 2000000 in
theorem check_any (A : Option Addr) (n c : Nat) (l : List Tm) (hn : n = l.length) (hn62 : n ≤ 70368744177664) (hs : Small l) (w : World) (h : Tms w (.slice A n c) l) :
    Calls Tryz.prog 54 #[.slice A n c] w (RetI w (chk l)) := by
  by_cases h40 : 40 < n
  · have HE := Lib.hid (chk_full (l := l) (by omega))
    clear hn h
    go_enter Tryz.func54, Tryz.ntmps54
    go_wp2_with fail
    go_ret
    exact ⟨ret_int HE.out.symm, Below.refl _ _⟩
  have HD := Lib.hid (depth_any A n c l hn hn62 w h)
  have h40' : ¬ 40 < l.length := by omega
  cases hw : wholeB l with
  | false =>
    have hd : depth l = 0 := depth_zero.2 hw
    rw [hd] at HD
    have HE := Lib.hid (chk_none h40' hw)
    clear hn h hw hd h40'
    go_enter Tryz.func54, Tryz.ntmps54
    go_wp2_with (go_at_call 96; (with_reducible refine HD.out.mono ?_))
    rintro e w1 ⟨rfl, hb1⟩
    go_wp2_with fail
    go_ret
    exact ⟨ret_int HE.out.symm, hb1⟩
  | true =>
    have hd0 : 1 ≤ depth l := by unfold depth; rw [tell_yes hw]; exact (come_depth (wholeB_iff.1 hw).2).1
    have HL := Lib.hid (fun h2 => chk_last h40' hw h2)
    have HM := Lib.hid (fun h2 => chk_may h40' hw h2)
    obtain ⟨d, hd⟩ : ∃ d, d = depth l := ⟨_, rfl⟩
    rw [← hd] at HD HL hd0
    have gd : (d == 0) = false := by simp; omega
    have HT := Lib.hid h
    have HN := Lib.hid hn
    have HS := Lib.hid hs
    clear hn h hw hd h40' hs
    go_enter Tryz.func54, Tryz.ntmps54
    go_wp2_with (go_at_call 96; (with_reducible refine HD.out.mono ?_))
    rintro e w1 ⟨rfl, hb1⟩
    have HB1 := Lib.hid hb1
    clear hb1
    go_wp2_with fail
    go_loopw [5, 15] (fun _ i wr => AllMay w l n i wr) (fun _ i _ => n - (intOf i).toNat)
    case atStart => exact ⟨0, Nat.zero_le _, rfl, rfl, HB1.out⟩
    case round =>
      obtain ⟨k, hk, rfl, hall, hbw⟩ := hrel
      have HA := Lib.hid hall
      have HB := Lib.hid hbw
      clear hall hbw
      by_cases hlt : k < n
      · obtain ⟨t, ht⟩ : ∃ t, l[k]? = some t := get_some (by rw [← HN.out]; exact hlt)
        obtain ⟨b, off, rfl, hb, c0, c1, c2⟩ := (HT.out.keep HB.out).at_ ht
        have HC : Hid (∀ w, Calls Tryz.prog 97 #[.agg #[.int .i64 t.op, .int .i64 t.n, .string t.s]] w (RetB w (mayB t))) := Lib.hid (fun w => may_any t w (HS.out t (List.mem_of_getElem? ht)))
        have HX := Lib.hid ht
        obtain ⟨q, hq⟩ : ∃ q, q = mayB t := ⟨_, rfl⟩
        rw [← hq] at HC
        have HQ := Lib.hid hq.symm
        clear ht hq
        cases q with
        | true =>
          go_wp2_with (go_at_call 97; (with_reducible refine (HC.out _).mono ?_))
          rintro e w2 ⟨rfl, hb2⟩
          have HB2 := Lib.hid (below_two' (HB.out.alloc HB.out.size _) hb2)
          clear hb2 c0 c1 c2
          go_wp2_with fail
          go_roundw
          case rel => exact ⟨k + 1, hlt, by simp, may_next HX.out HA.out HQ.out, HB2.out⟩
          case measure => simp [intOf]; omega
        | false =>
          go_wp2_with (go_at_call 97; (with_reducible refine (HC.out _).mono ?_))
          rintro e w2 ⟨rfl, hb2⟩
          have HB2 := Lib.hid (below_two' (HB.out.alloc HB.out.size _) hb2)
          clear hb2 c0 c1 c2
          go_wp2_with fail
          go_ret
          exact ⟨ret_int (HM.out (may_stop HX.out HQ.out)).symm, HB2.out⟩
      · have HE : Hid (chk l = if 12 < d then 6 else 0) := Lib.hid (HL.out (by have := HA.out; rwa [List.take_of_length_le (by rw [← HN.out]; omega)] at this))
        by_cases h12 : 12 < d
        all_goals
          go_wp2_with fail
          go_ret
          exact ⟨ret_int (by rw [HE.out]; first | rw [if_pos h12] | rw [if_neg (by omega)]), HB.out⟩

theorem rdep_zero (A : Option Addr) (n c : Nat) (l : List Tm) (hn : n = l.length) (hn62 : n ≤ 70368744177664) (w : World) (h : Tms w (.slice A n c) l) (hw : wholeB l = true) :
    Calls Tryz.prog 71 #[.slice A n c, .int .i64 0] w (RetI w (depth l)) := by
  have h2 := (wholeB_iff.1 hw).2
  have := rdep_any A n c l hn hn62 0 w h (by rw [endA_some (m := l.length) (by simpa using h2)]; omega)
  rw [List.drop_zero] at this
  unfold depth
  rwa [tell_yes hw]
end Go.Proofs.YtcfcpbkeedfbpaaGreatDoor

namespace Go.Proofs.YtcfcpbkeedfbpaaGreatDoor
open Go.RowKit TermSpec EvalSpec ActSpec NamesSpec
set_option maxRecDepth 100000

/-- An act, and where its expression lies. -/
structure AP where
  a : Ac
  xA : Option Addr
  xn : Nat
  xc : Nat
def acV (p : AP) : List Value := [.string p.a.s, .bool p.a.any, .slice p.xA p.xn p.xc]
def acsV (l : List AP) : List Value := l.flatMap acV
theorem acV_length (p : AP) : (acV p).length = 3 := rfl
theorem acsV_length (l : List AP) : (acsV l).length = l.length * 3 := flat_length acV_length l
theorem acV_one (p : AP) : ∀ u ∈ acV p, u.oneCell' = true := by simp [acV, Value.oneCell']
theorem acsV_one (l : List AP) : ∀ u ∈ acsV l, u.oneCell' = true := by
  intro u hu
  obtain ⟨t, _, h⟩ := List.mem_flatMap.1 hu
  exact acV_one t u h
theorem acsV_append (a b : List AP) : acsV a ++ acsV b = acsV (a ++ b) := by unfold acsV; rw [List.flatMap_append]
theorem acsV_get {l : List AP} {i : Nat} {p : AP} (h : l[i]? = some p) : (acsV l)[i * 3]? = some (.string p.a.s) ∧ (acsV l)[i * 3 + 1]? = some (.bool p.a.any) ∧ (acsV l)[i * 3 + 2]? = some (.slice p.xA p.xn p.xc) :=
  ⟨flat_get (j := 0) acV_length h (by omega), flat_get (j := 1) acV_length h (by omega), flat_get (j := 2) acV_length h (by omega)⟩
/-- The value is a slice of these acts. -/
def Acs (w : World) (v : Value) (l : List Ac) : Prop := ∃ ps : List AP, ps.map (·.a) = l ∧ Rdk 3 w v l.length (acsV ps) ∧ ∀ p ∈ ps, Tms w (.slice p.xA p.xn p.xc) p.a.x
theorem Acs.keep {w w' : World} {v : Value} {l : List Ac} (h : Acs w v l) (hb : Below w.heap.size w w') : Acs w' v l := by
  obtain ⟨ps, hm, hr, hx⟩ := h
  exact ⟨ps, hm, hr.keep hb, fun p hp => (hx p hp).keep hb⟩
theorem Acs.shape {w : World} {v : Value} {l : List Ac} (h : Acs w v l) : ∃ A n c, v = .slice A n c ∧ n = l.length ∧ n ≤ c := by
  obtain ⟨ps, hm, ⟨A, c, hv, hc, _⟩, _⟩ := h
  exact ⟨A, _, c, hv, rfl, hc⟩
theorem Acs.len {w : World} {A : Option Addr} {n c : Nat} {l : List Ac} (h : Acs w (.slice A n c) l) : n = l.length ∧ n ≤ c := by
  obtain ⟨A', n', c', heq, hn, hc⟩ := h.shape
  cases heq
  exact ⟨hn, hc⟩
theorem Acs.at_ {w : World} {A : Option Addr} {n c : Nat} {l : List Ac} {i : Nat} {a : Ac} (h : Acs w (.slice A n c) l) (hi : l[i]? = some a) :
    ∃ b off xA xn xc, A = some ⟨b, off, none⟩ ∧ b < w.heap.size ∧ Tms w (.slice xA xn xc) a.x ∧ w.cell? ⟨b, off + i * 3, none⟩ = some (.string a.s) ∧ w.cell? ⟨b, off + i * 3 + 1, none⟩ = some (.bool a.any) ∧ w.cell? ⟨b, off + i * 3 + 2, none⟩ = some (.slice xA xn xc) := by
  obtain ⟨ps, hm, ⟨A', c', heq, hc, hl, hA⟩, hx⟩ := h
  cases heq
  subst hm
  have := get_lt hi
  obtain ⟨b, off, rfl, hb, hcell⟩ := hA (by omega)
  rw [List.getElem?_map] at hi
  cases hp : ps[i]? with
  | none => rw [hp] at hi; cases hi
  | some p =>
    rw [hp] at hi
    cases hi
    obtain ⟨g0, g1, g2⟩ := acsV_get hp
    exact ⟨b, off, p.xA, p.xn, p.xc, rfl, hb, hx p (List.mem_of_getElem? hp), hcell _ _ g0, by rw [Nat.add_assoc]; exact hcell _ _ g1, by rw [Nat.add_assoc]; exact hcell _ _ g2⟩
/-- Texts that fit. -/
def SmallA (a : Ac) : Prop := a.s.size ≤ 9223372036854775807 ∧ Small a.x ∧ a.x.length ≤ 4398046511104

theorem oneA_name {a : Ac} (h : isName a.s.data.toList = false) : oneA a = 1 := by unfold oneA; rw [if_pos h]
theorem oneA_expr {a : Ac} (h : isName a.s.data.toList = true) (h2 : a.any = false) : oneA a = chk a.x := by unfold oneA; rw [if_neg (by simp [h]), if_pos h2]
theorem oneA_any {a : Ac} (h : isName a.s.data.toList = true) (h2 : a.any = true) : oneA a = if a.x.length = 0 then 0 else 1 := by unfold oneA; rw [if_neg (by simp [h]), if_neg (by simp [h2])]

end Go.Proofs.YtcfcpbkeedfbpaaGreatDoor

namespace Go.Proofs.YtcfcpbkeedfbpaaGreatDoor
open Go.RowKit Go.Sort TermSpec EvalSpec ActSpec
set_option maxRecDepth 100000

def v4V (x : V4) : List Value := [.int .i64 x.a, .int .i64 x.b, .int .i64 x.c, .int .i64 x.d]
def v4sV (l : List V4) : List Value := l.flatMap v4V
theorem v4V_length (x : V4) : (v4V x).length = 4 := rfl
theorem v4sV_length (l : List V4) : (v4sV l).length = l.length * 4 := flat_length v4V_length l
theorem v4V_one (x : V4) : ∀ u ∈ v4V x, u.oneCell' = true := by simp [v4V, Value.oneCell']
theorem v4sV_one (l : List V4) : ∀ u ∈ v4sV l, u.oneCell' = true := by
  intro u hu
  obtain ⟨t, _, h⟩ := List.mem_flatMap.1 hu
  exact v4V_one t u h
theorem v4sV_append (a b : List V4) : v4sV a ++ v4sV b = v4sV (a ++ b) := by unfold v4sV; rw [List.flatMap_append]
theorem v4sV_get {l : List V4} {i : Nat} {x : V4} (h : l[i]? = some x) : (v4sV l)[i * 4]? = some (.int .i64 x.a) ∧ (v4sV l)[i * 4 + 1]? = some (.int .i64 x.b) ∧ (v4sV l)[i * 4 + 2]? = some (.int .i64 x.c) ∧ (v4sV l)[i * 4 + 3]? = some (.int .i64 x.d) :=
  ⟨flat_get (j := 0) v4V_length h (by omega), flat_get (j := 1) v4V_length h (by omega), flat_get (j := 2) v4V_length h (by omega), flat_get (j := 3) v4V_length h (by omega)⟩
abbrev v4A (x : V4) : Value := .agg #[.int .i64 x.a, .int .i64 x.b, .int .i64 x.c, .int .i64 x.d]
/-- The value is a slice of these lists of values. -/
def V4s (w : World) (v : Value) (l : List V4) : Prop := ∃ n, n = l.length ∧ Rdk 4 w v n (v4sV l)
theorem V4s.keep {w w' : World} {v : Value} {l : List V4} (h : V4s w v l) (hb : Below w.heap.size w w') : V4s w' v l := by
  obtain ⟨n, hn, h⟩ := h
  exact ⟨n, hn, h.keep hb⟩
theorem V4s.shape {w : World} {v : Value} {l : List V4} (h : V4s w v l) : ∃ A n c, v = .slice A n c ∧ n = l.length ∧ n ≤ c := by
  obtain ⟨n, hn, A, c, hv, hc, _⟩ := h
  exact ⟨A, n, c, hv, hn, hc⟩
theorem V4s.rdk {w : World} {A : Option Addr} {n c : Nat} {l : List V4} (h : V4s w (.slice A n c) l) : Rdk 4 w (.slice A n c) l.length (v4sV l) := by
  obtain ⟨m, hm, hR⟩ := h
  rw [← hm]; exact hR
theorem V4s.at_ {w : World} {A : Option Addr} {n c : Nat} {l : List V4} {i : Nat} {x : V4} (h : V4s w (.slice A n c) l) (hi : l[i]? = some x) :
    ∃ b off, A = some ⟨b, off, none⟩ ∧ b < w.heap.size ∧ w.cell? ⟨b, off + i * 4, none⟩ = some (.int .i64 x.a) ∧ w.cell? ⟨b, off + i * 4 + 1, none⟩ = some (.int .i64 x.b) ∧ w.cell? ⟨b, off + i * 4 + 2, none⟩ = some (.int .i64 x.c) ∧ w.cell? ⟨b, off + i * 4 + 3, none⟩ = some (.int .i64 x.d) := by
  obtain ⟨m, hm, A', c', heq, hc, hl, hA⟩ := h
  cases heq
  have := get_lt hi
  obtain ⟨b, off, rfl, hb, hcell⟩ := hA (by omega)
  obtain ⟨g0, g1, g2, g3⟩ := v4sV_get hi
  exact ⟨b, off, rfl, hb, hcell _ _ g0, by rw [Nat.add_assoc]; exact hcell _ _ g1, by rw [Nat.add_assoc]; exact hcell _ _ g2, by rw [Nat.add_assoc]; exact hcell _ _ g3⟩

theorem v4_cell {w : World} {b : Nat} {T : TypeId} {x : V4} (h : w.heap[b]? = some (.cells #[.int .i64 x.a, .int .i64 x.b, .int .i64 x.c, .int .i64 x.d] T (0, 0))) {k : Nat} (hk : k < 4) : w.cell? ⟨b, 0 + k, none⟩ = some (.int .i64 (x.get k)) := by
  obtain ⟨h0, h1, h2, h3⟩ := cells_4 h
  rcases (show k = 0 ∨ k = 1 ∨ k = 2 ∨ k = 3 by omega) with rfl | rfl | rfl | rfl
  · exact h0
  · exact h1
  · exact h2
  · exact h3
end Go.Proofs.YtcfcpbkeedfbpaaGreatDoor

namespace Go.Proofs.YtcfcpbkeedfbpaaGreatDoor
open Go.RowKit TermSpec EvalSpec ActSpec NamesSpec Go.Lib

theorem varOf_none {e : Ev} {a : Ac} (h : varOf e a = none) : idxOfS (vnames e) a.s = -1 := by
  by_cases hm : a.s ∈ vnames e
  · obtain ⟨k, h1, h2⟩ := first_at hm
    unfold varOf at h
    have hk := get_lt h1
    rw [vnames_length] at hk
    simp only [place_hit h1 h2] at h
    rw [if_neg (by omega), Int.toNat_natCast, List.getElem?_eq_getElem hk] at h
    cases h
  · exact place_miss hm
theorem varOf_some {e : Ev} {a : Ac} {i : Nat} {v : Vr} (h : varOf e a = some (i, v)) : idxOfS (vnames e) a.s = i ∧ e.vars[i]? = some v := by
  refine ⟨?_, varOf_lt h⟩
  unfold varOf at h
  simp only at h
  split at h
  · cases h
  · rename_i hp
    cases hv : e.vars[(idxOfS (vnames e) a.s).toNat]? with
    | none => rw [hv] at h; cases h
    | some u => rw [hv] at h; cases h; omega
theorem badA_none {e : Ev} {a : Ac} (h : varOf e a = none) : badA e a = 7 := by unfold badA; rw [h]
theorem badA_any {e : Ev} {a : Ac} {i : Nat} {v : Vr} (h : varOf e a = some (i, v)) (ha : a.any = true) : badA e a = if spanB v then 0 else 1 := by unfold badA; rw [h]; simp only; rw [if_pos ha]
theorem badA_chk {e : Ev} {a : Ac} {i : Nat} {v : Vr} (h : varOf e a = some (i, v)) (ha : a.any = false) (hc : chkE e a.x ≠ 0) : badA e a = chkE e a.x := by unfold badA; rw [h]; simp only; rw [if_neg (by simp [ha]), if_pos hc]
theorem badA_typ {e : Ev} {a : Ac} {i : Nat} {v : Vr} (h : varOf e a = some (i, v)) (ha : a.any = false) (hc : chkE e a.x = 0) : badA e a = if typ a.x = 1 then 0 else 4 := by unfold badA; rw [h]; simp only; rw [if_neg (by simp [ha]), if_neg (by simp [hc])]
/-- What an act answers: lists, and what is told. -/
def RetVE (W : World) (p : Int × List V4) (e : Ending) (w' : World) : Prop := ∃ v, e = .returned (.tuple #[v, .int .i64 p.1]) ∧ V4s w' v p.2 ∧ Below W.heap.size W w'
theorem v4s_nil (w : World) : V4s w (.slice none 0 0) [] := ⟨0, rfl, Rdk.nil 4 w⟩

/-- Bounds that are ints. -/
def VFit (v : Vr) : Prop := -9223372036854775808 ≤ v.lo ∧ v.lo ≤ 9223372036854775807 ∧ -9223372036854775808 ≤ v.hi ∧ v.hi ≤ 9223372036854775807
theorem u64_span {lo hi : Int} (h1 : -9223372036854775808 ≤ lo) (h2 : hi ≤ 9223372036854775807) (h : lo ≤ hi) : IntKind.u64.wrap (IntKind.u64.wrap hi - IntKind.u64.wrap lo) = hi - lo := by
  simp only [IntKind.wrap_u64]
  omega
end Go.Proofs.YtcfcpbkeedfbpaaGreatDoor

namespace Go.Proofs.YtcfcpbkeedfbpaaGreatDoor
open Go.RowKit TermSpec EvalSpec ValSpec
set_option maxRecDepth 100000

theorem ofTwo_cmp (o x y : Int) (w : World) (hc1 : 13 ≤ o) (hc2 : o ≤ 18) : Calls Tryz.prog 164 #[.int .i64 o, .int .i64 x, .int .i64 y] w (SameI w (ev2 o x y)) := by
  have HC := Lib.hid (compare_any o x y w hc1 hc2)
  have HE := Lib.hid (show ev2 o x y = tru (cmp o x y) by unfold ev2; rw [if_neg (by omega), if_neg (by omega), if_neg (by omega), if_neg (by omega), if_neg (by omega), if_neg (by omega), if_neg (by omega)])
  obtain ⟨b, hb⟩ : ∃ b, b = cmp o x y := ⟨_, rfl⟩
  rw [← hb] at HC HE
  have HT := Lib.hid (truth_any b w)
  have g4 : (o == 4) = false := by simp; omega
  have g5 : (o == 5) = false := by simp; omega
  have g6 : (o == 6) = false := by simp; omega
  have g7 : (o == 7) = false := by simp; omega
  have g8 : (o == 8) = false := by simp; omega
  have g19 : (o == 19) = false := by simp; omega
  have g20 : (o == 20) = false := by simp; omega
  clear hb hc1 hc2
  go_enter Tryz.func164, Tryz.ntmps164
  go_wp2_with (first
    | (go_at_call 181; (with_reducible refine HC.out.mono ?_); rintro e w' ⟨rfl, rfl⟩)
    | (go_at_call 176; (with_reducible refine HT.out.mono ?_); rintro e w' ⟨rfl, rfl⟩))
  go_ret
  exact same_int HE.out.symm

theorem ofTwo_plus (x y : Int) (w : World) (h1 : -1000000 ≤ x) (h2 : x ≤ 1000000) (h3 : -1000000 ≤ y) (h4 : y ≤ 1000000) : Calls Tryz.prog 164 #[.int .i64 4, .int .i64 x, .int .i64 y] w (SameI w (ev2 4 x y)) := by
  have HX := Lib.hid (plus_any x y w)
  have HE := Lib.hid (show plus x y = ev2 4 x y by unfold plus; rw [near_of h1 h2, near_of h3 h4]; simp [ev2])
  clear h1 h2 h3 h4
  go_enter Tryz.func164, Tryz.ntmps164
  go_wp2_with (go_at_call 179; (with_reducible refine HX.out.mono ?_); rintro e w' ⟨rfl, rfl⟩)
  go_ret
  exact same_int HE.out

theorem ofTwo_minus (x y : Int) (w : World) (h1 : -1000000 ≤ x) (h2 : x ≤ 1000000) (h3 : -1000000 ≤ y) (h4 : y ≤ 1000000) : Calls Tryz.prog 164 #[.int .i64 5, .int .i64 x, .int .i64 y] w (SameI w (ev2 5 x y)) := by
  have HX := Lib.hid (minus_any x y w)
  have HE := Lib.hid (show minus x y = ev2 5 x y by unfold minus; rw [near_of h1 h2, near_of h3 h4]; simp [ev2])
  clear h1 h2 h3 h4
  go_enter Tryz.func164, Tryz.ntmps164
  go_wp2_with (go_at_call 178; (with_reducible refine HX.out.mono ?_); rintro e w' ⟨rfl, rfl⟩)
  go_ret
  exact same_int HE.out

theorem ofTwo_times (x y : Int) (w : World) (h1 : -1000000 ≤ x) (h2 : x ≤ 1000000) (h3 : -1000000 ≤ y) (h4 : y ≤ 1000000) : Calls Tryz.prog 164 #[.int .i64 6, .int .i64 x, .int .i64 y] w (SameI w (ev2 6 x y)) := by
  have HX := Lib.hid (times_any x y w)
  have HE := Lib.hid (show times x y = ev2 6 x y by unfold times; rw [near_of h1 h2, near_of h3 h4]; simp [ev2])
  clear h1 h2 h3 h4
  go_enter Tryz.func164, Tryz.ntmps164
  go_wp2_with (go_at_call 180; (with_reducible refine HX.out.mono ?_); rintro e w' ⟨rfl, rfl⟩)
  go_ret
  exact same_int HE.out

theorem ofTwo_min (x y : Int) (w : World) : Calls Tryz.prog 164 #[.int .i64 7, .int .i64 x, .int .i64 y] w (SameI w (ev2 7 x y)) := by
  have HE := Lib.hid (show ev2 7 x y = if x < y then x else y by simp [ev2])
  by_cases h : x < y
  · have h' : ¬ y < x := by omega
    go_enter Tryz.func164, Tryz.ntmps164
    go_wp2_with fail
    go_ret
    exact same_int (by rw [HE.out]; first | omega | (split <;> omega) | (rw [if_pos h]) | (rw [if_neg h]))
  · go_enter Tryz.func164, Tryz.ntmps164
    go_wp2_with fail
    go_ret
    exact same_int (by rw [HE.out]; first | omega | (split <;> omega) | (rw [if_pos h]) | (rw [if_neg h]))

theorem ofTwo_max (x y : Int) (w : World) : Calls Tryz.prog 164 #[.int .i64 8, .int .i64 x, .int .i64 y] w (SameI w (ev2 8 x y)) := by
  have HE := Lib.hid (show ev2 8 x y = if y < x then x else y by simp [ev2])
  by_cases h : y < x
  · have h' : ¬ x < y := by omega
    go_enter Tryz.func164, Tryz.ntmps164
    go_wp2_with fail
    go_ret
    exact same_int (by rw [HE.out]; first | omega | (split <;> omega) | (rw [if_pos h]) | (rw [if_neg h]))
  · go_enter Tryz.func164, Tryz.ntmps164
    go_wp2_with fail
    go_ret
    exact same_int (by rw [HE.out]; first | omega | (split <;> omega) | (rw [if_pos h]) | (rw [if_neg h]))

theorem ofTwo_and (x y : Int) (w : World) : Calls Tryz.prog 164 #[.int .i64 19, .int .i64 x, .int .i64 y] w (SameI w (ev2 19 x y)) := by
  have HE := Lib.hid (show ev2 19 x y = tru (x == 1 && y == 1) by simp [ev2])
  have HT := Lib.hid (fun b => truth_any b w)
  rcases hx : (x == 1) with _ | _
  all_goals
    rcases hy : (y == 1) with _ | _
    all_goals
      rw [hx, hy] at HE
      go_enter Tryz.func164, Tryz.ntmps164
      go_wp2_with (go_at_call 176; (with_reducible refine (HT.out _).mono ?_); rintro e w' ⟨rfl, rfl⟩)
      go_ret
      exact same_int HE.out.symm

theorem ofTwo_or (x y : Int) (w : World) : Calls Tryz.prog 164 #[.int .i64 20, .int .i64 x, .int .i64 y] w (SameI w (ev2 20 x y)) := by
  have HE := Lib.hid (show ev2 20 x y = tru (x == 1 || y == 1) by simp [ev2])
  have HT := Lib.hid (fun b => truth_any b w)
  rcases hx : (x == 1) with _ | _
  all_goals
    rcases hy : (y == 1) with _ | _
    all_goals
      rw [hx, hy] at HE
      go_enter Tryz.func164, Tryz.ntmps164
      go_wp2_with (go_at_call 176; (with_reducible refine (HT.out _).mono ?_); rintro e w' ⟨rfl, rfl⟩)
      go_ret
      exact same_int HE.out.symm

theorem ofTwo_any (o x y : Int) (w : World) (h0 : 4 ≤ o) (h20 : o ≤ 20) (h9 : o ≤ 8 ∨ 13 ≤ o) (h1 : -1000000 ≤ x) (h2 : x ≤ 1000000) (h3 : -1000000 ≤ y) (h4 : y ≤ 1000000) :
    Calls Tryz.prog 164 #[.int .i64 o, .int .i64 x, .int .i64 y] w (SameI w (ev2 o x y)) := by
  by_cases hc : 13 ≤ o ∧ o ≤ 18
  · exact ofTwo_cmp o x y w hc.1 hc.2
  · rcases (show o = 4 ∨ o = 5 ∨ o = 6 ∨ o = 7 ∨ o = 8 ∨ o = 19 ∨ o = 20 by omega) with rfl | rfl | rfl | rfl | rfl | rfl | rfl
    · exact ofTwo_plus x y w h1 h2 h3 h4
    · exact ofTwo_minus x y w h1 h2 h3 h4
    · exact ofTwo_times x y w h1 h2 h3 h4
    · exact ofTwo_min x y w
    · exact ofTwo_max x y w
    · exact ofTwo_and x y w
    · exact ofTwo_or x y w
end Go.Proofs.YtcfcpbkeedfbpaaGreatDoor

namespace Go.Proofs.YtcfcpbkeedfbpaaGreatDoor
open Go.RowKit TermSpec EvalSpec NamesSpec Go.Lib ValSpec
set_option maxRecDepth 100000

theorem known_place {e : Ev} {s : ByteArray} (h : hasS (vnames e) s = true) (h4 : e.vars.length ≤ 4) : ∃ k : Nat, idxOfS (vnames e) s = k ∧ k < 4 := by
  have h1 := place_ge (vnames e) s
  rw [h, decide_eq_true_iff] at h1
  have h2 := hasS_iff.1 h
  obtain ⟨k, hk⟩ := Int.eq_ofNat_of_zero_le h1
  refine ⟨k, hk, ?_⟩
  have h3 := place_bd (vnames e) s
  rw [vnames_length] at h3
  rcases Nat.lt_or_ge k 4 with h | h
  · exact h
  · exfalso
    obtain ⟨i, hi⟩ := List.mem_iff_getElem?.1 h2
    have hi' := (List.getElem?_eq_some_iff.1 hi).1
    rw [vnames_length] at hi'
    have := place_lt hi
    have hn : hasS ((vnames e).take i) s = false := by
      rw [← this]
      simp
      omega
    have := place_hit hi (hasS_no.1 hn)
    omega
set_option maxHeartbeats 1000000 in
theorem ofNone_var (p : EP) (e : Ev) (n : Int) (s : ByteArray) (w : World) (h : EnvIn w p e) (h4 : e.vars.length ≤ 4) (hk : hasS (vnames e) s = true) :
    Calls Tryz.prog 162 #[.agg #[.int .i64 2, .int .i64 n, .string s], envV p e] w (RetI w (ev0 e ⟨2, n, s⟩)) := by
  obtain ⟨k, hi, hk4⟩ := known_place hk h4
  have HV := Lib.hid (fun w h => variable_any p e s w h)
  rw [hi] at HV
  have HE := Lib.hid (show ev0 e ⟨2, n, s⟩ = near (valAt e k) by unfold ev0; simp [hi])
  have HEN := Lib.hid h
  obtain ⟨vA, vn, vc, iA, im, ic⟩ := p
  obtain ⟨r, hr⟩ : ∃ r, r = ev0 e ⟨2, n, s⟩ := ⟨_, rfl⟩
  rw [← hr] at HE ⊢
  obtain ⟨x, hx⟩ : ∃ x, x = valAt e k := ⟨_, rfl⟩
  rw [← hx] at HE
  have HX := Lib.hid hx
  have HNR := Lib.hid (near_any x)
  obtain ⟨vars, v0, v1, v2, v3, ins⟩ := e
  change Calls _ _ #[.agg #[.int .i64 2, .int .i64 n, .string s], .agg #[.slice vA vn vc, .int .i64 v0, .int .i64 v1, .int .i64 v2, .int .i64 v3, .slice iA im ic]] _ _
  clear h h4 hk hi hr hx
  go_enter Tryz.func162, Tryz.ntmps162
  go_wp2_with (go_at_call 110; (with_reducible refine (HV.out _ (HEN.out.keep (KitC.below_pair _ _ _))).mono ?_))
  rintro e2 w3 ⟨rfl, hb3⟩
  obtain ⟨B1, B2, hb, hz⟩ := KitC.pair_blocks hb3
  have HB := Lib.hid hb
  have hcell : w3.cell? ⟨w.heap.size + 1, 1 + k, none⟩ = some (.int .i64 x) := by
    obtain ⟨-, c1, c2, c3, c4, -⟩ := cells_6 B2
    have := HX.out
    rcases (show k = 0 ∨ k = 1 ∨ k = 2 ∨ k = 3 by omega) with rfl | rfl | rfl | rfl
    · rw [this]; exact c1
    · rw [this]; exact c2
    · rw [this]; exact c3
    · rw [this]; exact c4
  clear B1 B2 hb hb3
  go_wp2_with (go_at_call 175; (with_reducible refine (HNR.out _).mono ?_); rintro e w' ⟨rfl, rfl⟩)
  go_ret
  exact ⟨ret_int HE.out.symm, HB.out⟩
set_option maxHeartbeats 1000000 in
theorem ofNone_in (p : EP) (e : Ev) (n : Int) (s : ByteArray) (w : World) (h : EnvIn w p e) :
    Calls Tryz.prog 162 #[.agg #[.int .i64 11, .int .i64 n, .string s], envV p e] w (RetI w (ev0 e ⟨11, n, s⟩)) := by
  have HP := Lib.hid (fun w h => nplace_any (.slice p.iA p.im p.ic) e.ins s w h (by have := h.strs; exact ‹EnvIn _ p e›.ibd))
  have HE := Lib.hid (show ev0 e ⟨11, n, s⟩ = tru (decide (0 ≤ idxOfS e.ins s)) by unfold ev0; simp)
  have HEN := Lib.hid h.ins
  obtain ⟨vA, vn, vc, iA, im, ic⟩ := p
  obtain ⟨r, hr⟩ : ∃ r, r = ev0 e ⟨11, n, s⟩ := ⟨_, rfl⟩
  rw [← hr] at HE ⊢
  obtain ⟨x, hx⟩ : ∃ x, x = idxOfS e.ins s := ⟨_, rfl⟩
  rw [← hx] at HE HP
  have HT := Lib.hid (fun b => truth_any b)
  obtain ⟨vars, v0, v1, v2, v3, ins⟩ := e
  simp only at HP HEN
  change Calls _ _ #[.agg #[.int .i64 11, .int .i64 n, .string s], .agg #[.slice vA vn vc, .int .i64 v0, .int .i64 v1, .int .i64 v2, .int .i64 v3, .slice iA im ic]] _ _
  clear h hr hx
  go_enter Tryz.func162, Tryz.ntmps162
  go_wp2_with (first
    | (go_at_call 177; (with_reducible refine (HP.out _ (HEN.out.keep (KitC.below_pair _ _ _))).mono ?_); rintro e w' ⟨rfl, rfl⟩)
    | (go_at_call 176; (with_reducible refine (HT.out _ _).mono ?_); rintro e w' ⟨rfl, rfl⟩))
  go_ret
  exact ⟨ret_int HE.out.symm, KitC.below_pair _ _ _⟩
set_option maxHeartbeats 1000000 in
theorem ofNone_else (p : EP) (e : Ev) (o n : Int) (s : ByteArray) (w : World) (h2 : ¬ o = 2) (h11 : ¬ o = 11) :
    Calls Tryz.prog 162 #[.agg #[.int .i64 o, .int .i64 n, .string s], envV p e] w (RetI w (ev0 e ⟨o, n, s⟩)) := by
  have HE := Lib.hid (show ev0 e ⟨o, n, s⟩ = if o = 1 then n else tru (o == 9) by unfold ev0; simp [h2, h11])
  obtain ⟨vA, vn, vc, iA, im, ic⟩ := p
  obtain ⟨r, hr⟩ : ∃ r, r = ev0 e ⟨o, n, s⟩ := ⟨_, rfl⟩
  rw [← hr] at HE ⊢
  have HT := Lib.hid (fun b => truth_any b)
  obtain ⟨vars, v0, v1, v2, v3, ins⟩ := e
  change Calls _ _ #[.agg #[.int .i64 o, .int .i64 n, .string s], .agg #[.slice vA vn vc, .int .i64 v0, .int .i64 v1, .int .i64 v2, .int .i64 v3, .slice iA im ic]] _ _
  have g2 : (o == 2) = false := by simp [h2]
  have g11 : (o == 11) = false := by simp [h11]
  by_cases h1 : o = 1
  · have g1 : (o == 1) = true := by simp [h1]
    have H1 := Lib.hid h1
    clear hr h2 h11 h1
    go_enter Tryz.func162, Tryz.ntmps162
    go_wp2_with fail
    go_ret
    exact ⟨ret_int (by rw [HE.out, if_pos H1.out]), KitC.below_pair _ _ _⟩
  · have g1 : (o == 1) = false := by simp [h1]
    have H1 := Lib.hid h1
    clear hr h2 h11 h1
    go_enter Tryz.func162, Tryz.ntmps162
    go_wp2_with (go_at_call 176; (with_reducible refine (HT.out _ _).mono ?_); rintro e w' ⟨rfl, rfl⟩)
    go_ret
    exact ⟨ret_int (by rw [HE.out, if_neg H1.out]), KitC.below_pair _ _ _⟩
theorem ofNone_any (p : EP) (e : Ev) (t : Tm) (w : World) (h : EnvIn w p e) (h4 : e.vars.length ≤ 4) (hk : t.op = 2 → hasS (vnames e) t.s = true) :
    Calls Tryz.prog 162 #[.agg #[.int .i64 t.op, .int .i64 t.n, .string t.s], envV p e] w (RetI w (ev0 e t)) := by
  obtain ⟨o, n, s⟩ := t
  by_cases h2 : o = 2
  · subst h2; exact ofNone_var p e n s w h h4 (hk rfl)
  · by_cases h11 : o = 11
    · subst h11; exact ofNone_in p e n s w h
    · exact ofNone_else p e o n s w h2 h11
end Go.Proofs.YtcfcpbkeedfbpaaGreatDoor

namespace Go.Proofs.YtcfcpbkeedfbpaaGreatDoor
open Go.RowKit TermSpec EvalSpec NamesSpec Go.Lib ValSpec
set_option maxRecDepth 100000

theorem quiet_sameI {P : Program} {f : FuncId} {args : Array Value} {n : Int} (h : ∀ w, Calls P f args w (SameI w n)) (W : World) (k : Nat) : Calls P f args (W.drewN k) fun e w'' => e = .returned (.int .i64 n) ∧ ∃ m, w'' = W.drewN m :=
  (h _).mono fun _ _ ⟨he, hw⟩ => ⟨he, k, hw.symm⟩
set_option maxHeartbeats 1000000 in
theorem reckon_0 (p : EP) (e : Ev) (t : Tm) (w : World) (A : Option Addr) (c : Nat) (h : EnvIn w p e) (h4 : e.vars.length ≤ 4) (hk : t.op = 2 → hasS (vnames e) t.s = true) :
    Calls Tryz.prog 141 #[.agg #[.int .i64 t.op, .int .i64 t.n, .string t.s], .slice A 0 c, envV p e] w (RetI w (ev0 e t)) := by
  have HN := Lib.hid (fun w h => ofNone_any p e t w h h4 hk)
  have HEN := Lib.hid h
  obtain ⟨vA, vn, vc, iA, im, ic⟩ := p
  obtain ⟨r, hr⟩ : ∃ r, r = ev0 e t := ⟨_, rfl⟩
  rw [← hr] at HN ⊢
  obtain ⟨vars, v0, v1, v2, v3, ins⟩ := e
  obtain ⟨o, n, s⟩ := t
  change Calls _ _ #[.agg #[.int .i64 o, .int .i64 n, .string s], .slice A 0 c, .agg #[.slice vA vn vc, .int .i64 v0, .int .i64 v1, .int .i64 v2, .int .i64 v3, .slice iA im ic]] _ _
  simp only at HN
  clear h h4 hk hr
  go_enter Tryz.func141, Tryz.ntmps141
  go_wp2_with (go_at_call 162; (with_reducible refine (HN.out _ (HEN.out.keep (KitC.below_pair _ _ _))).mono ?_))
  rintro e2 w3 ⟨rfl, hb3⟩
  obtain ⟨-, -, hb, -⟩ := KitC.pair_blocks hb3
  have HB := Lib.hid hb
  clear hb hb3
  go_wp2_with fail
  go_ret
  exact ⟨rfl, HB.out⟩
set_option maxHeartbeats 1000000 in
theorem reckon_1 (p : EP) (e : Ev) (t : Tm) (w : World) (b off c : Nat) (x : Int) (hb : b < w.heap.size) (h0 : w.cell? ⟨b, off, none⟩ = some (.int .i64 x)) (_hc : 1 ≤ c) (h1 : -1000000 ≤ x) (h2 : x ≤ 1000000) :
    Calls Tryz.prog 141 #[.agg #[.int .i64 t.op, .int .i64 t.n, .string t.s], .slice (some ⟨b, off, none⟩) 1 c, envV p e] w (RetI w (ev1 t.op x)) := by
  have HQ := Lib.hid (fun W k => quiet_sameI (fun w => ofOne_any t.op x w h1 h2) W k)
  obtain ⟨vA, vn, vc, iA, im, ic⟩ := p
  obtain ⟨r, hr⟩ : ∃ r, r = ev1 t.op x := ⟨_, rfl⟩
  rw [← hr] at HQ ⊢
  obtain ⟨vars, v0, v1, v2, v3, ins⟩ := e
  obtain ⟨o, n, s⟩ := t
  change Calls _ _ #[.agg #[.int .i64 o, .int .i64 n, .string s], .slice (some ⟨b, off, none⟩) 1 c, .agg #[.slice vA vn vc, .int .i64 v0, .int .i64 v1, .int .i64 v2, .int .i64 v3, .slice iA im ic]] _ _
  simp only at HQ
  have hcell := ((KitC.below_pair w (.cells #[.int .i64 o, .int .i64 n, .string s] 68) (.cells #[.slice vA vn vc, .int .i64 v0, .int .i64 v1, .int .i64 v2, .int .i64 v3, .slice iA im ic] 54)).cell (p := ⟨b, off, none⟩) hb).trans h0
  clear hr h1 h2
  go_enter Tryz.func141, Tryz.ntmps141
  go_wp2_with fail
  go_quiet ((go_at_call 163; exact HQ.out _ _))
  go_wp2_with fail
  go_ret
  exact ⟨rfl, below_drewN (KitC.below_pair _ _ _) _⟩
set_option maxHeartbeats 1000000 in
theorem reckon_2 (p : EP) (e : Ev) (t : Tm) (w : World) (b off c : Nat) (x y : Int) (hb : b < w.heap.size) (h0 : w.cell? ⟨b, off, none⟩ = some (.int .i64 y)) (h00 : w.cell? ⟨b, off + 1, none⟩ = some (.int .i64 x)) (_hc : 2 ≤ c) (g1 : -1000000 ≤ x) (g2 : x ≤ 1000000) (g3 : -1000000 ≤ y) (g4 : y ≤ 1000000)
    (o4 : 4 ≤ t.op) (o20 : t.op ≤ 20) (o9 : t.op ≤ 8 ∨ 13 ≤ t.op) :
    Calls Tryz.prog 141 #[.agg #[.int .i64 t.op, .int .i64 t.n, .string t.s], .slice (some ⟨b, off, none⟩) 2 c, envV p e] w (RetI w (ev2 t.op x y)) := by
  have HQ := Lib.hid (fun W k => quiet_sameI (fun w => ofTwo_any t.op x y w o4 o20 o9 g1 g2 g3 g4) W k)
  obtain ⟨vA, vn, vc, iA, im, ic⟩ := p
  obtain ⟨r, hr⟩ : ∃ r, r = ev2 t.op x y := ⟨_, rfl⟩
  rw [← hr] at HQ ⊢
  obtain ⟨vars, v0, v1, v2, v3, ins⟩ := e
  obtain ⟨o, n, s⟩ := t
  change Calls _ _ #[.agg #[.int .i64 o, .int .i64 n, .string s], .slice (some ⟨b, off, none⟩) 2 c, .agg #[.slice vA vn vc, .int .i64 v0, .int .i64 v1, .int .i64 v2, .int .i64 v3, .slice iA im ic]] _ _
  simp only at HQ
  have hcell := ((KitC.below_pair w (.cells #[.int .i64 o, .int .i64 n, .string s] 68) (.cells #[.slice vA vn vc, .int .i64 v0, .int .i64 v1, .int .i64 v2, .int .i64 v3, .slice iA im ic] 54)).cell (p := ⟨b, off, none⟩) hb).trans h0
  have hcell2 := ((KitC.below_pair w (.cells #[.int .i64 o, .int .i64 n, .string s] 68) (.cells #[.slice vA vn vc, .int .i64 v0, .int .i64 v1, .int .i64 v2, .int .i64 v3, .slice iA im ic] 54)).cell (p := ⟨b, off + 1, none⟩) hb).trans h00
  clear hr g1 g2 g3 g4 o4 o20 o9
  go_enter Tryz.func141, Tryz.ntmps141
  go_wp2_with fail
  go_quiet ((go_at_call 164; exact HQ.out _ _))
  go_wp2_with fail
  go_ret
  exact ⟨rfl, below_drewN (KitC.below_pair _ _ _) _⟩
theorem ar_two {o : Int} (h : ar o = 2) : 4 ≤ o ∧ o ≤ 20 ∧ (o ≤ 8 ∨ 13 ≤ o) := by
  unfold ar at h
  split at h
  · omega
  · split at h
    · omega
    · split at h <;> omega
theorem reckon_any (p : EP) (e : Ev) (t : Tm) (w : World) (v : Value) (bs : List Int) (h : EnvIn w p e) (h4 : e.vars.length ≤ 4) (hk : t.op = 2 → hasS (vnames e) t.s = true) (h0 : 0 ≤ ar t.op) (hl : bs.length = arN t.op) (hv : Rd w v (intV bs.reverse)) (hbd : ∀ x ∈ bs, -1000000 ≤ x ∧ x ≤ 1000000) :
    Calls Tryz.prog 141 #[.agg #[.int .i64 t.op, .int .i64 t.n, .string t.s], v, envV p e] w (RetI w (evF e t bs)) := by
  obtain ⟨A, n, c, rfl, hn, hc, hA⟩ := hv.ints
  rw [List.length_reverse] at hn
  have ha := arN_of h0
  have hb2 := (ar_bd t.op).2
  match bs, hl, hn, hA, hbd with
  | [], hl, hn, hA, hbd =>
    have e0 : ar t.op = 0 := by simp at hl; omega
    have : evF e t [] = ev0 e t := by unfold evF evT; rw [if_pos e0]
    rw [this, ← hn]
    exact reckon_0 p e t w A c h h4 hk
  | [x], hl, hn, hA, hbd =>
    have e1 : ar t.op = 1 := by simp at hl; omega
    have : evF e t [x] = ev1 t.op x := by unfold evF evT; rw [if_neg (by omega), if_pos e1]; rfl
    rw [this, ← hn]
    obtain ⟨b, off, rfl, hb, hcell⟩ := hA (by rw [← hn]; simp)
    have := hbd x (by simp)
    exact reckon_1 p e t w b off c x hb (hcell 0 x rfl) (by simp at hn; omega) this.1 this.2
  | [x, y], hl, hn, hA, hbd =>
    have e2 : ar t.op = 2 := by simp at hl; omega
    have : evF e t [x, y] = ev2 t.op x y := by unfold evF evT; rw [if_neg (by omega), if_neg (by omega)]; rfl
    rw [this, ← hn]
    obtain ⟨b, off, rfl, hb, hcell⟩ := hA (by rw [← hn]; simp)
    have b1 := hbd x (by simp)
    have b2 := hbd y (by simp)
    obtain ⟨o4, o20, o9⟩ := ar_two e2
    exact reckon_2 p e t w b off c x y hb (hcell 0 y rfl) (hcell 1 x rfl) (by simp at hn; omega) b1.1 b1.2 b2.1 b2.2 o4 o20 o9
  | x :: y :: z :: r, hl, hn, hA, hbd => simp at hl; omega
end Go.Proofs.YtcfcpbkeedfbpaaGreatDoor

namespace Go.Proofs.YtcfcpbkeedfbpaaGreatDoor
open Go.RowKit TermSpec
set_option maxRecDepth 100000

theorem inf_str : (Tryz.prog.info? 9).map (fun i => (i.zero, i.size, i.bytes)) = some (some (.string ByteArray.empty), 1, 16) := by kernel_rfl
/-- A list of texts of the call's own. -/
def RowS (W wr : World) (p : Value) (xs : List ByteArray) : Prop := wr.ownsRow W.heap.size 9 1 p xs.length (strV xs) ∧ Below W.heap.size W wr
theorem RowS.nil (W wr : World) (hb : Below W.heap.size W wr) : RowS W wr (.slice none 0 0) [] := ⟨World.ownsRow_nil _ _ _ _, hb⟩
theorem RowS.keep {W w w' : World} {p : Value} {xs : List ByteArray} (h : RowS W w p xs) (hb : Below w.heap.size w w') : RowS W w' p xs := ⟨own_keep h.1 hb, below_two' h.2 hb⟩
theorem RowS.alloc {W w : World} {p : Value} {xs : List ByteArray} (h : RowS W w p xs) (o : Obj) : RowS W (w.alloc o) p xs := h.keep ((Below.refl _ _).alloc (Nat.le_refl _) _)
theorem RowS.add {W wr w2 : World} {p p' : Value} {xs : List ByteArray} {x : ByteArray} {o : Obj} (h : RowS W wr p xs) (hrow : w2.ownsRow W.heap.size 9 1 p' (xs.length + (strV [x]).length) (strV xs ++ strV [x])) (hg : (wr.alloc o).grownBy w2 p.ownBlock) : RowS W w2 p' (xs ++ [x]) := by
  refine ⟨?_, (h.2.alloc h.2.size o).grown hg (by have := h.2.size; simp; omega) (fun j hj => (own_block_bd h.1 j hj).1)⟩
  rw [← strV_append, List.length_append]
  exact hrow
theorem RowS.read {W wr : World} {p : Value} {xs : List ByteArray} (h : RowS W wr p xs) : Rd wr p (strV xs) := Rd.own h.1

def NamRel (W : World) (l : List Tm) (n : Nat) (o : Int) (p i : Value) (wr : World) : Prop := ∃ k : Nat, k ≤ n ∧ i = .int .i64 k ∧ RowS W wr p (namesOf (l.take k) o)
set_option maxHeartbeats 2000000 in
theorem names_any (A : Option Addr) (n c : Nat) (l : List Tm) (o : Int) (hn : n = l.length) (hn62 : n ≤ 4398046511104) (w : World) (h : Tms w (.slice A n c) l) :
    Calls Tryz.prog 109 #[.slice A n c, .int .i64 o] w (RetStrs w (namesOf l o)) := by
  have HT := Lib.hid h
  have HN := Lib.hid hn
  obtain ⟨i0, hi, hz0, hz1, hz2⟩ := info_parts inf_str
  have HI := Lib.hid (And.intro hi (And.intro hz0 (And.intro hz1 hz2)))
  clear h hn hi hz0 hz1 hz2
  go_enter Tryz.func109, Tryz.ntmps109
  go_wp2_with fail
  go_loopw [5, 7, 10] (fun p _ i wr => NamRel w l n o p i wr) (fun _ _ i _ => n - (intOf i).toNat)
  case atStart => exact ⟨0, Nat.zero_le _, rfl, RowS.nil _ _ (Below.refl _ _)⟩
  case round =>
    obtain ⟨k, hk, rfl, hrow⟩ := hrel
    have HR0 := Lib.hid hrow
    clear hrow
    by_cases hlt : k < n
    · obtain ⟨t, ht⟩ : ∃ t, l[k]? = some t := get_some (by rw [← HN.out]; exact hlt)
      obtain ⟨b, off, rfl, hb, c0, c1, c2⟩ := (HT.out.keep HR0.out.2).at_ ht
      by_cases ho : t.op = o
      · have HY := Lib.hid (namesOf_yes ht ho)
        have hl := namesOf_length (l.take k) o
        rw [List.length_take] at hl
        have HR := Lib.hid (HR0.out.alloc (.cells #[.int .i64 t.op, .int .i64 t.n, .string t.s] 68))
        obtain ⟨s, hs⟩ : ∃ s, s = t.s := ⟨_, rfl⟩
        rw [← hs] at HY HR c2
        have HL1 : Hid ((namesOf (l.take k) o).length + (strV [s]).length ≤ maxLen) := Lib.hid (by simp [maxLen]; omega)
        have HL2 : Hid (((namesOf (l.take k) o).length + (strV [s]).length) * 16 ≤ 140737488355328) := Lib.hid (by simp; omega)
        have HSZ : Hid (w.heap.size ≤ wr.heap.size) := Lib.hid HR0.out.2.size
        have HRA := Lib.hid HR.out.1
        have g : (t.op == o) = true := by simp [ho]
        clear ht hl hs ho
        go_wp2_with (at_builtin; refine wpList_append_rd _ rfl (.tmp 18) (.tmp 21) _ rfl w.heap.size 9 i0 (.string ByteArray.empty) 16 Tryz.underlying52 HI.out.1 HI.out.2.1 HI.out.2.2.1 HI.out.2.2.2 rfl _ _ _ rfl (HRA.out.alloc _) _ (strV [s]) rfl (lit_here (World.size_alloc _ _).symm rfl rfl) (strV_one _) HL1.out HL2.out ?_ ?_; (have := HSZ.out; simp; omega); intro p2 w2 hrow2 hg2 _; have HR2 := Lib.hid (RowS.add HR.out hrow2 hg2); clear hrow2 hg2)
        go_roundw
        case rel => exact ⟨k + 1, hlt, by simp, by rw [HY.out]; exact HR2.out⟩
        case measure => simp [intOf]; omega
      · have HY := Lib.hid (namesOf_no ht ho)
        have g : (t.op == o) = false := by simp [ho]
        clear ho
        go_wp2_with fail
        go_roundw
        case rel => exact ⟨k + 1, hlt, by simp, by rw [HY.out]; exact HR0.out.alloc _⟩
        case measure => simp [intOf]; omega
    · obtain rfl : k = n := by omega
      go_wp2_with fail
      go_ret
      have hr := HR0.out
      rw [List.take_of_length_le (by rw [← HN.out]; omega)] at hr
      exact ⟨_, rfl, hr.read, hr.2⟩

end Go.Proofs.YtcfcpbkeedfbpaaGreatDoor

namespace Go.Proofs.YtcfcpbkeedfbpaaGreatDoor
open Go.RowKit TermSpec EvalSpec NamesSpec
set_option maxRecDepth 100000

theorem known_names (e : Ev) (l : List Tm) : knownB e l = (namesOf l 2).all (fun s => hasS (vnames e) s) := by
  unfold knownB namesOf
  rw [List.all_map]
  induction l with
  | nil => rfl
  | cons t r ih =>
    rw [List.all_cons, ih, List.filter_cons]
    by_cases h : t.op = 2
    · simp [h]
    · simp [h]
theorem tru_neg {r : Int} {b : Bool} (h : decide (0 ≤ r) = b) : decide (r < 0) = !b := by
  subst h
  rw [← decide_not]
  exact decide_eq_decide.2 (by omega)

theorem echeck_wide (p : EP) (e : Ev) (A : Option Addr) (n c : Nat) (l : List Tm) (w : World) (he : EnvIn w p e) (h4 : 4 < e.vars.length) :
    Calls Tryz.prog 75 #[.slice A n c, envV p e] w (RetI w (chkE e l)) := by
  have HE := Lib.hid (chkE_wide (l := l) h4)
  have hv := he.vars.1
  obtain ⟨vA, vn, vc, iA, im, ic⟩ := p
  obtain ⟨r, hr⟩ : ∃ r, r = chkE e l := ⟨_, rfl⟩
  rw [← hr] at HE ⊢
  have hvn : 4 < (vn : Int) := by have : vn = e.vars.length := hv; omega
  obtain ⟨vars, v0, v1, v2, v3, ins⟩ := e
  change Calls _ _ #[.slice A n c, .agg #[.slice vA vn vc, .int .i64 v0, .int .i64 v1, .int .i64 v2, .int .i64 v3, .slice iA im ic]] _ _
  clear hr he h4 hv
  go_enter Tryz.func75, Tryz.ntmps75
  go_wp2_with fail
  go_ret
  exact ⟨ret_int HE.out.symm, KitC.below_one _ _⟩
theorem echeck_bad (p : EP) (e : Ev) (A : Option Addr) (n c : Nat) (l : List Tm) (hn : n = l.length) (hn62 : n ≤ 4398046511104) (hs : Small l) (w : World) (h : Tms w (.slice A n c) l) (he : EnvIn w p e) (h4 : ¬ 4 < e.vars.length) (hc : chk l ≠ 0) :
    Calls Tryz.prog 75 #[.slice A n c, envV p e] w (RetI w (chkE e l)) := by
  have HE := Lib.hid (chkE_bad h4 hc)
  have hv := he.vars.1
  have HC := Lib.hid (fun w h => check_any A n c l hn (by omega) hs w h)
  have HT := Lib.hid h
  obtain ⟨vA, vn, vc, iA, im, ic⟩ := p
  obtain ⟨r, hr⟩ : ∃ r, r = chkE e l := ⟨_, rfl⟩
  rw [← hr] at HE ⊢
  obtain ⟨q, hq⟩ : ∃ q, q = chk l := ⟨_, rfl⟩
  rw [← hq] at HE HC hc
  have hvn : ¬ 4 < (vn : Int) := by have : vn = e.vars.length := hv; omega
  have g : (q != 0) = true := by simp [hc]
  obtain ⟨vars, v0, v1, v2, v3, ins⟩ := e
  change Calls _ _ #[.slice A n c, .agg #[.slice vA vn vc, .int .i64 v0, .int .i64 v1, .int .i64 v2, .int .i64 v3, .slice iA im ic]] _ _
  clear hr he h4 hv hq hc h hn hs
  go_enter Tryz.func75, Tryz.ntmps75
  go_wp2_with (go_at_call 54; (with_reducible refine (HC.out _ (HT.out.keep (KitC.below_one _ _))).mono ?_))
  rintro e2 w2 ⟨rfl, hb2⟩
  have HB2 := Lib.hid (below_two' (KitC.below_one _ _) hb2)
  clear hb2
  go_wp2_with fail
  go_ret
  exact ⟨ret_int HE.out.symm, HB2.out⟩
def CkRel (W : World) (e : Ev) (nm : List ByteArray) (i : Value) (wr : World) : Prop := ∃ k : Nat, k ≤ nm.length ∧ i = .int .i64 k ∧ (nm.take k).all (fun s => hasS (vnames e) s) = true ∧ Below W.heap.size W wr
set_option maxHeartbeats 2000000 in
theorem echeck_last (p : EP) (e : Ev) (A : Option Addr) (n c : Nat) (l : List Tm) (hn : n = l.length) (hn62 : n ≤ 4398046511104) (hs : Small l) (w : World) (h : Tms w (.slice A n c) l) (he : EnvIn w p e) (h4 : ¬ 4 < e.vars.length) (hc : chk l = 0) :
    Calls Tryz.prog 75 #[.slice A n c, envV p e] w (RetI w (chkE e l)) := by
  have HE0 := Lib.hid (fun h => chkE_typ (e := e) h4 hc h)
  have HE1 := Lib.hid (fun h => chkE_last (e := e) h4 hc h)
  rw [known_names] at HE1
  have hv := he.vars.1
  have HC := Lib.hid (fun w h => check_any A n c l hn (by omega) hs w h)
  rw [hc] at HC
  have HTY := Lib.hid (fun w h => typ_any A n c l hn (by omega) w h)
  have HNM := Lib.hid (fun w h => names_any A n c l 2 hn hn62 w h)
  have HNL := Lib.hid (namesOf_length l 2)
  have HN := Lib.hid hn
  have HT := Lib.hid h
  have HV := Lib.hid (fun s w h => variable_any p e s w h)
  have HEN := Lib.hid he
  have HPG := Lib.hid (fun s => place_ge (vnames e) s)
  obtain ⟨vA, vn, vc, iA, im, ic⟩ := p
  obtain ⟨r, hr⟩ : ∃ r, r = chkE e l := ⟨_, rfl⟩
  rw [← hr] at HE0 HE1 ⊢
  obtain ⟨q, hq⟩ : ∃ q, q = typ l := ⟨_, rfl⟩
  rw [← hq] at HE0 HE1 HTY
  obtain ⟨nm, hnm⟩ : ∃ nm, nm = namesOf l 2 := ⟨_, rfl⟩
  rw [← hnm] at HE1 HNM HNL
  have hvn : ¬ 4 < (vn : Int) := by have : vn = e.vars.length := hv; omega
  have HVN := Lib.hid (rfl : vnames e = vnames e)
  obtain ⟨f, hf⟩ : ∃ f : ByteArray → Int, f = fun s => Lib.idxOfS (vnames e) s := ⟨_, rfl⟩
  have HF : Hid (∀ s, Lib.idxOfS (vnames e) s = f s) := Lib.hid (fun s => by rw [hf])
  have HV' : Hid (∀ s w, EnvIn w ⟨vA, vn, vc, iA, im, ic⟩ e → Calls Tryz.prog 110 #[envV ⟨vA, vn, vc, iA, im, ic⟩ e, .string s] w (RetI w (f s))) := Lib.hid (fun s w h => by rw [← HF.out]; exact HV.out s w h)
  clear hr he h4 hv hq hc h hn hs hnm hf
  obtain ⟨E, hE⟩ : ∃ E, E = e := ⟨_, rfl⟩
  rw [← hE] at HPG HF HEN HV' HE1
  obtain ⟨vars, v0, v1, v2, v3, ins⟩ := e
  have HV2 : Hid (∀ s w, EnvIn w ⟨vA, vn, vc, iA, im, ic⟩ E → Calls Tryz.prog 110 #[.agg #[.slice vA vn vc, .int .i64 v0, .int .i64 v1, .int .i64 v2, .int .i64 v3, .slice iA im ic], .string s] w (RetI w (f s))) := Lib.hid (fun s w h => by have := HV'.out s w h; rw [hE] at this; exact this)
  change Calls _ _ #[.slice A n c, .agg #[.slice vA vn vc, .int .i64 v0, .int .i64 v1, .int .i64 v2, .int .i64 v3, .slice iA im ic]] _ _
  clear hE HV HV' HVN
  by_cases hq0 : q = 0
  · have g : (q == 0) = true := by simp [hq0]
    have HEE := Lib.hid (HE0.out hq0)
    clear hq0 HE0 HE1
    go_enter Tryz.func75, Tryz.ntmps75
    go_wp2_with (go_at_call 54; (with_reducible refine (HC.out _ (HT.out.keep (KitC.below_one _ _))).mono ?_))
    rintro e2 w2 ⟨rfl, hb2⟩
    have HB2 := Lib.hid (below_two' (KitC.below_one _ _) hb2)
    clear hb2
    go_wp2_with (go_at_call 76; (with_reducible refine (HTY.out _ (HT.out.keep HB2.out)).mono ?_))
    rintro e2 w3 ⟨rfl, hb3⟩
    have HB3 := Lib.hid (below_two' HB2.out hb3)
    clear hb3
    go_wp2_with fail
    go_ret
    exact ⟨ret_int HEE.out.symm, HB3.out⟩
  · have g : (q == 0) = false := by simp [hq0]
    have HEE := Lib.hid (HE1.out hq0)
    clear hq0 HE0 HE1
    go_enter Tryz.func75, Tryz.ntmps75
    go_wp2_with (go_at_call 54; (with_reducible refine (HC.out _ (HT.out.keep (KitC.below_one _ _))).mono ?_))
    rintro e2 w2 ⟨rfl, hb2⟩
    obtain ⟨B2, hbb, _⟩ := KitC.one_block hb2
    have HB2 := Lib.hid hbb
    have HBK2 := Lib.hid B2
    clear hb2 hbb B2
    go_wp2_with (go_at_call 76; (with_reducible refine (HTY.out _ (HT.out.keep HB2.out)).mono ?_))
    rintro e2 w3 ⟨rfl, hb3⟩
    have HB3 := Lib.hid (below_two' HB2.out hb3)
    have HBK3 := Lib.hid (KitC.block_on HBK2.out hb3)
    clear hb3
    go_wp2_with (go_at_call 109; (with_reducible refine (HNM.out _ (HT.out.keep HB3.out)).mono ?_))
    rintro e2 w4 ⟨v4, rfl, hr4, hb4⟩
    have HB4 := Lib.hid (below_two' HB3.out hb4)
    have HBK4 := Lib.hid (KitC.block_on HBK3.out hb4)
    obtain ⟨A4, n4, c4, rfl, hn4, hc4, hA4⟩ := hr4.strs
    have HA4 := Lib.hid hA4
    have HN4 := Lib.hid hn4
    have hn4b : n4 ≤ 4398046511104 := by have := HNL.out; have := HN.out; omega
    clear hb4 hr4 hn4 hA4 hc4
    go_wp2_with fail
    go_loopw [23] (fun i wr => CkRel w4 E nm i wr) (fun i _ => n4 - (intOf i).toNat)
    case atStart => exact ⟨0, Nat.zero_le _, rfl, by simp, Below.refl _ _⟩
    case round =>
      obtain ⟨k, hk, rfl, hall, hbw⟩ := hrel
      have HBW := Lib.hid hbw
      have HALL := Lib.hid hall
      have hk' : k ≤ n4 := by have := HN4.out; omega
      clear hbw hall hk
      by_cases hlt : k < n4
      · obtain ⟨b2, off2, rfl, hb2, hcell⟩ := HA4.out (by omega)
        obtain ⟨x, hx⟩ : ∃ x, nm[k]? = some x := get_some (by have := HN4.out; omega)
        have hck := (HBW.out.cell (p := ⟨b2, off2 + k, none⟩) (by exact hb2)).trans (hcell k _ hx)
        obtain ⟨c0, c1, c2, c3, c4', c5⟩ := cells_6 (KitC.block_on HBK4.out HBW.out)
        have HX := Lib.hid (take_next hx)
        have HXM := Lib.hid (List.mem_of_getElem? hx)
        have HVV := Lib.hid (HV2.out x wr (HEN.out.keep (below_two' HB4.out HBW.out)))
        have hdec := tru_neg (HPG.out x)
        rw [HF.out] at hdec
        clear hcell hx
        rcases hh : hasS (vnames E) x with _ | _
        · rw [hh] at hdec
          have hdec' : decide (f x < 0) = true := hdec
          have HH := Lib.hid hh
          clear hdec hh
          go_wp2_with (go_at_call 110; (with_reducible refine HVV.out.mono ?_))
          rintro e2 w5 ⟨rfl, hb5⟩
          have HB5 := Lib.hid (below_two' (below_two' HB4.out HBW.out) hb5)
          clear hb5 hck c0 c1 c2 c3 c4' c5
          go_wp2_with fail
          go_ret
          refine ⟨ret_int ?_, HB5.out⟩
          rw [HEE.out, if_neg]
          rw [Bool.not_eq_true, List.all_eq_false]
          exact ⟨x, HXM.out, by rw [HH.out]; simp⟩
        · rw [hh] at hdec
          have hdec' : decide (f x < 0) = false := hdec
          have HH := Lib.hid hh
          clear hdec hh
          go_wp2_with (go_at_call 110; (with_reducible refine HVV.out.mono ?_))
          rintro e2 w5 ⟨rfl, hb5⟩
          have HB5 := Lib.hid (below_two' HBW.out hb5)
          clear hb5 hck c0 c1 c2 c3 c4' c5
          go_wp2_with fail
          go_roundw
          case rel => exact ⟨k + 1, by have := HN4.out; omega, by simp, by rw [HX.out, List.all_append, HALL.out]; simp [HH.out], HB5.out⟩
          case measure => simp [intOf]; omega
      · have HAL : Hid (nm.all (fun s => hasS (vnames E) s) = true) := Lib.hid (by
          have := HALL.out
          rwa [List.take_of_length_le (by have := HN4.out; omega)] at this)
        go_wp2_with fail
        go_ret
        exact ⟨ret_int (by rw [HEE.out, if_pos HAL.out]), below_two' HB4.out HBW.out⟩
theorem echeck_any (p : EP) (e : Ev) (A : Option Addr) (n c : Nat) (l : List Tm) (hn : n = l.length) (hn62 : n ≤ 4398046511104) (hs : Small l) (w : World) (h : Tms w (.slice A n c) l) (he : EnvIn w p e) :
    Calls Tryz.prog 75 #[.slice A n c, envV p e] w (RetI w (chkE e l)) := by
  by_cases h4 : 4 < e.vars.length
  · exact echeck_wide p e A n c l w he h4
  · by_cases hc : chk l = 0
    · exact echeck_last p e A n c l hn hn62 hs w h he h4 hc
    · exact echeck_bad p e A n c l hn hn62 hs w h he h4 hc
end Go.Proofs.YtcfcpbkeedfbpaaGreatDoor
