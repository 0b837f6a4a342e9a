/- What whole, Depth, Type, Check of the layer of terms answer, the reference's Whole and Check too. Condition: fewer terms than 2^46, names no longer than memory holds. -/
import Derived.Test.YtbkgkdfameojfaaTermRefDeep
import Derived.Test.YtbkgkdfameojfaaTermMay
namespace Go.Proofs.Ytbkgkdfameojfaa
open Go.RowKit TermSpec
set_option maxRecDepth 100000

theorem endA_nat0 (l : List Tm) : endA l 0 = fin 1 l 0 := endA_nat l 0
theorem whole_yes {l : List Tm} {n : Nat} (hn : n = l.length) (h40 : n ≤ 40) (h : endA l 0 = n) : wholeB l = true := by
  refine wholeB_iff.2 ⟨by omega, ?_⟩
  obtain ⟨k, m, hk, hc, he, hm, hl⟩ := endA_nn (l := l) (a := 0) (by omega)
  obtain rfl : k = 0 := by omega
  rw [List.drop_zero] at hc
  rw [hc]
  congr 1
  omega
theorem whole_no {l : List Tm} {n : Nat} (hn : n = l.length) (h : ¬ (n ≤ 40 ∧ endA l 0 = n)) : wholeB l = false := by
  rw [Bool.eq_false_iff]
  intro hw
  obtain ⟨h1, h2⟩ := wholeB_iff.1 hw
  refine h ⟨by omega, ?_⟩
  have := endA_some (l := l) (a := 0) (m := l.length) (by simpa using h2)
  rw [show (0 : Int) = ((0 : Nat) : Int) from rfl, this]
  omega
theorem tell_no {f : Int → List Int → Int} {l : List Tm} (h : wholeB l = false) : tell f l = 0 := by unfold tell; rw [h]; rfl
theorem tell_yes {f : Int → List Int → Int} {l : List Tm} (h : wholeB l = true) : tell f l = come f l := by unfold tell; rw [h]; rfl

theorem comeDep_zero (A : Option Addr) (n c : Nat) (l : List Tm) (hn : n = l.length) (hn62 : n ≤ 70368744177664) (w : World) (h : Tms w (.slice A n c) l) (he : 0 ≤ endA l 0) :
    Calls Try.prog 55 #[.slice A n c, .int .i64 0, .func (.func 52) #[] #[]] w (RetI w (come depF l)) := by
  have := comeDep_any A n c l hn hn62 0 w h he
  rwa [List.drop_zero] at this
set_option maxHeartbeats 1000000 in
theorem wholeDep_any (A : Option Addr) (n c : Nat) (l : List Tm) (hn : n = l.length) (hn62 : n ≤ 70368744177664) (w : World) (h : Tms w (.slice A n c) l) :
    Calls Try.prog 37 #[.slice A n c, .func (.func 52) #[] #[]] w (RetI w (tell depF l)) := by
  by_cases h40 : 40 < n
  · have HE := Lib.hid (tell_no (f := depF) (whole_no hn (by omega)))
    clear hn h
    go_enter Try.func37, Try.ntmps37
    go_wp2_with fail
    go_ret
    exact ⟨ret_int HE.out.symm, Below.refl _ _⟩
  · have hE := end_any A n c l 0 w h hn (by omega)
    have HY : Hid (endA l 0 = n → Calls Try.prog 55 #[.slice A n c, .int .i64 0, .func (.func 52) #[] #[]] w (RetI w (come depF l)) ∧ tell depF l = come depF l) := Lib.hid (fun h0 => ⟨comeDep_zero A n c l hn hn62 w h (by omega), tell_yes (whole_yes hn (by omega) h0)⟩)
    have HN : Hid (endA l 0 ≠ n → tell depF l = 0) := Lib.hid (fun h0 => tell_no (whole_no hn (fun h => h0 h.2)))
    obtain ⟨r, hr⟩ : ∃ r, r = endA l 0 := ⟨_, rfl⟩
    rw [← hr] at hE HY HN
    have HE := Lib.hid hE
    clear hr hE hn h
    by_cases hrn : r = n
    · have g : (r != (n : Int)) = false := by simp [hrn]
      have HC := Lib.hid (HY.out hrn).1
      have HV := Lib.hid (HY.out hrn).2
      clear hrn HN HY
      go_enter Try.func37, Try.ntmps37
      go_wp2_with (first
        | (go_at_call 54; (with_reducible refine HE.out.mono ?_); rintro e w' ⟨rfl, rfl⟩)
        | (go_at_call 55; (with_reducible refine HC.out.mono ?_)))
      rintro e w1 ⟨rfl, hb1⟩
      go_wp2_with fail
      go_ret
      exact ⟨ret_int HV.out.symm, hb1⟩
    · have g : (r != (n : Int)) = true := by simp [hrn]
      have HV := Lib.hid (HN.out hrn)
      clear hrn HN HY
      go_enter Try.func37, Try.ntmps37
      go_wp2_with (go_at_call 54; (with_reducible refine HE.out.mono ?_); rintro e w' ⟨rfl, rfl⟩)
      go_ret
      exact ⟨ret_int HV.out.symm, Below.refl _ _⟩
theorem depth_any (A : Option Addr) (n c : Nat) (l : List Tm) (hn : n = l.length) (hn62 : n ≤ 70368744177664) (w : World) (h : Tms w (.slice A n c) l) :
    Calls Try.prog 35 #[.slice A n c] w (RetI w (depth l)) := by
  have HC := Lib.hid (wholeDep_any A n c l hn hn62 w h)
  obtain ⟨r, hr⟩ : ∃ r, r = tell depF l := ⟨_, rfl⟩
  have HR : Hid (depth l = r) := Lib.hid hr.symm
  rw [← hr] at HC
  clear hr hn h
  go_enter Try.func35, Try.ntmps35
  go_wp2_with (go_at_call 37; (with_reducible refine HC.out.mono ?_))
  rintro e w1 ⟨rfl, hb1⟩
  go_wp2_with fail
  go_ret
  exact ⟨ret_int HR.out.symm, hb1⟩

theorem comeTyp_zero (A : Option Addr) (n c : Nat) (l : List Tm) (hn : n = l.length) (hn62 : n ≤ 70368744177664) (w : World) (h : Tms w (.slice A n c) l) (he : 0 ≤ endA l 0) :
    Calls Try.prog 55 #[.slice A n c, .int .i64 0, .func (.func 38) #[] #[]] w (RetI w (come typF l)) := by
  have := comeTyp_any A n c l hn hn62 0 w h he
  rwa [List.drop_zero] at this
set_option maxHeartbeats 1000000 in
theorem wholeTyp_any (A : Option Addr) (n c : Nat) (l : List Tm) (hn : n = l.length) (hn62 : n ≤ 70368744177664) (w : World) (h : Tms w (.slice A n c) l) :
    Calls Try.prog 37 #[.slice A n c, .func (.func 38) #[] #[]] w (RetI w (tell typF l)) := by
  by_cases h40 : 40 < n
  · have HE := Lib.hid (tell_no (f := typF) (whole_no hn (by omega)))
    clear hn h
    go_enter Try.func37, Try.ntmps37
    go_wp2_with fail
    go_ret
    exact ⟨ret_int HE.out.symm, Below.refl _ _⟩
  · have hE := end_any A n c l 0 w h hn (by omega)
    have HY : Hid (endA l 0 = n → Calls Try.prog 55 #[.slice A n c, .int .i64 0, .func (.func 38) #[] #[]] w (RetI w (come typF l)) ∧ tell typF l = come typF l) := Lib.hid (fun h0 => ⟨comeTyp_zero A n c l hn hn62 w h (by omega), tell_yes (whole_yes hn (by omega) h0)⟩)
    have HN : Hid (endA l 0 ≠ n → tell typF l = 0) := Lib.hid (fun h0 => tell_no (whole_no hn (fun h => h0 h.2)))
    obtain ⟨r, hr⟩ : ∃ r, r = endA l 0 := ⟨_, rfl⟩
    rw [← hr] at hE HY HN
    have HE := Lib.hid hE
    clear hr hE hn h
    by_cases hrn : r = n
    · have g : (r != (n : Int)) = false := by simp [hrn]
      have HC := Lib.hid (HY.out hrn).1
      have HV := Lib.hid (HY.out hrn).2
      clear hrn HN HY
      go_enter Try.func37, Try.ntmps37
      go_wp2_with (first
        | (go_at_call 54; (with_reducible refine HE.out.mono ?_); rintro e w' ⟨rfl, rfl⟩)
        | (go_at_call 55; (with_reducible refine HC.out.mono ?_)))
      rintro e w1 ⟨rfl, hb1⟩
      go_wp2_with fail
      go_ret
      exact ⟨ret_int HV.out.symm, hb1⟩
    · have g : (r != (n : Int)) = true := by simp [hrn]
      have HV := Lib.hid (HN.out hrn)
      clear hrn HN HY
      go_enter Try.func37, Try.ntmps37
      go_wp2_with (go_at_call 54; (with_reducible refine HE.out.mono ?_); rintro e w' ⟨rfl, rfl⟩)
      go_ret
      exact ⟨ret_int HV.out.symm, Below.refl _ _⟩
theorem typ_any (A : Option Addr) (n c : Nat) (l : List Tm) (hn : n = l.length) (hn62 : n ≤ 70368744177664) (w : World) (h : Tms w (.slice A n c) l) :
    Calls Try.prog 22 #[.slice A n c] w (RetI w (typ l)) := by
  have HC := Lib.hid (wholeTyp_any A n c l hn hn62 w h)
  obtain ⟨r, hr⟩ : ∃ r, r = tell typF l := ⟨_, rfl⟩
  have HR : Hid (typ l = r) := Lib.hid hr.symm
  rw [← hr] at HC
  clear hr hn h
  go_enter Try.func22, Try.ntmps22
  go_wp2_with (go_at_call 37; (with_reducible refine HC.out.mono ?_))
  rintro e w1 ⟨rfl, hb1⟩
  go_wp2_with fail
  go_ret
  exact ⟨ret_int HR.out.symm, hb1⟩

theorem rwhole_any (A : Option Addr) (n c : Nat) (l : List Tm) (hn : n = l.length) (hn62 : n ≤ 70368744177664) (w : World) (h : Tms w (.slice A n c) l) :
    Calls Try.prog 33 #[.slice A n c] w (RetB w (wholeB l)) := by
  by_cases h40 : 40 < n
  · have HE := Lib.hid (whole_no hn (by omega))
    have g : ¬ (n : Int) ≤ 40 := by omega
    clear hn h
    go_enter Try.func33, Try.ntmps33
    go_wp2_with fail
    go_ret
    exact ⟨ret_bool HE.out.symm, Below.refl _ _⟩
  · have hE := rend_any A n c l 0 w h hn (by omega)
    have h40' : (n : Int) ≤ 40 := by omega
    have HV : Hid (wholeB l = (endA l 0 == (n : Int))) := Lib.hid (by
      by_cases h0 : endA l 0 = n
      · rw [whole_yes hn (by omega) h0, h0]; simp
      · rw [whole_no hn (fun h => h0 h.2)]; symm; simpa using h0)
    obtain ⟨r, hr⟩ : ∃ r, r = endA l 0 := ⟨_, rfl⟩
    rw [← hr] at hE HV
    have HE := Lib.hid hE
    clear hr hE hn h
    go_enter Try.func33, Try.ntmps33
    go_wp2_with (go_at_call 43; (with_reducible refine HE.out.mono ?_))
    rintro e w1 ⟨rfl, hb1⟩
    go_wp2_with fail
    go_ret
    exact ⟨ret_bool HV.out.symm, hb1⟩

def AllMay (W : World) (l : List Tm) (n : Nat) (i : Value) (wr : World) : Prop := ∃ k : Nat, k ≤ n ∧ i = .int .i64 k ∧ (l.take k).all mayB = true ∧ Below W.heap.size W wr
theorem may_stop {l : List Tm} {k : Nat} {t : Tm} (ht : l[k]? = some t) (h : mayB t = false) : l.all mayB = false := by
  rw [List.all_eq_false]
  exact ⟨t, List.mem_of_getElem? ht, by simp [h]⟩
theorem may_next {l : List Tm} {k : Nat} {t : Tm} (ht : l[k]? = some t) (h0 : (l.take k).all mayB = true) (h : mayB t = true) : (l.take (k + 1)).all mayB = true := by
  rw [take_next ht, List.all_append, h0]; simpa using h
theorem chk_full {l : List Tm} (h : 40 < l.length) : chk l = 8 := by unfold chk; rw [if_pos h]
theorem chk_none {l : List Tm} (h : ¬ 40 < l.length) (h1 : wholeB l = false) : chk l = 1 := by unfold chk; rw [if_neg h, if_pos h1]
theorem chk_may {l : List Tm} (h : ¬ 40 < l.length) (h1 : wholeB l = true) (h2 : l.all mayB = false) : chk l = 1 := by unfold chk; rw [if_neg h, if_neg (by simp [h1]), if_pos h2]
theorem chk_last {l : List Tm} (h : ¬ 40 < l.length) (h1 : wholeB l = true) (h2 : l.all mayB = true) : chk l = if 12 < depth l then 6 else 0 := by unfold chk; rw [if_neg h, if_neg (by simp [h1]), if_neg (by simp [h2])]

set_option maxHeartbeats 2000000 in
theorem check_any (A : Option Addr) (n c : Nat) (l : List Tm) (hn : n = l.length) (hn62 : n ≤ 70368744177664) (hs : Small l) (w : World) (h : Tms w (.slice A n c) l) :
    Calls Try.prog 21 #[.slice A n c] w (RetI w (chk l)) := by
  by_cases h40 : 40 < n
  · have HE := Lib.hid (chk_full (l := l) (by omega))
    clear hn h
    go_enter Try.func21, Try.ntmps21
    go_wp2_with fail
    go_ret
    exact ⟨ret_int HE.out.symm, Below.refl _ _⟩
  have HD := Lib.hid (depth_any A n c l hn hn62 w h)
  have h40' : ¬ 40 < l.length := by omega
  cases hw : wholeB l with
  | false =>
    have hd : depth l = 0 := depth_zero.2 hw
    rw [hd] at HD
    have HE := Lib.hid (chk_none h40' hw)
    clear hn h hw hd h40'
    go_enter Try.func21, Try.ntmps21
    go_wp2_with (go_at_call 35; (with_reducible refine HD.out.mono ?_))
    rintro e w1 ⟨rfl, hb1⟩
    go_wp2_with fail
    go_ret
    exact ⟨ret_int HE.out.symm, hb1⟩
  | true =>
    have hd0 : 1 ≤ depth l := by unfold depth; rw [tell_yes hw]; exact (come_depth (wholeB_iff.1 hw).2).1
    have HL := Lib.hid (fun h2 => chk_last h40' hw h2)
    have HM := Lib.hid (fun h2 => chk_may h40' hw h2)
    obtain ⟨d, hd⟩ : ∃ d, d = depth l := ⟨_, rfl⟩
    rw [← hd] at HD HL hd0
    have gd : (d == 0) = false := by simp; omega
    have HT := Lib.hid h
    have HN := Lib.hid hn
    have HS := Lib.hid hs
    clear hn h hw hd h40' hs
    go_enter Try.func21, Try.ntmps21
    go_wp2_with (go_at_call 35; (with_reducible refine HD.out.mono ?_))
    rintro e w1 ⟨rfl, hb1⟩
    have HB1 := Lib.hid hb1
    clear hb1
    go_wp2_with fail
    go_loopw [5, 15] (fun _ i wr => AllMay w l n i wr) (fun _ i _ => n - (intOf i).toNat)
    case atStart => exact ⟨0, Nat.zero_le _, rfl, rfl, HB1.out⟩
    case round =>
      obtain ⟨k, hk, rfl, hall, hbw⟩ := hrel
      have HA := Lib.hid hall
      have HB := Lib.hid hbw
      clear hall hbw
      by_cases hlt : k < n
      · obtain ⟨t, ht⟩ : ∃ t, l[k]? = some t := get_some (by rw [← HN.out]; exact hlt)
        obtain ⟨b, off, rfl, hb, c0, c1, c2⟩ := (HT.out.keep HB.out).at_ ht
        have HC : Hid (∀ w, Calls Try.prog 36 #[.agg #[.int .i64 t.op, .int .i64 t.n, .string t.s]] w (RetB w (mayB t))) := Lib.hid (fun w => may_any t w (HS.out t (List.mem_of_getElem? ht)))
        have HX := Lib.hid ht
        obtain ⟨q, hq⟩ : ∃ q, q = mayB t := ⟨_, rfl⟩
        rw [← hq] at HC
        have HQ := Lib.hid hq.symm
        clear ht hq
        cases q with
        | true =>
          go_wp2_with (go_at_call 36; (with_reducible refine (HC.out _).mono ?_))
          rintro e w2 ⟨rfl, hb2⟩
          have HB2 := Lib.hid (below_two' (HB.out.alloc HB.out.size _) hb2)
          clear hb2 c0 c1 c2
          go_wp2_with fail
          go_roundw
          case rel => exact ⟨k + 1, hlt, by simp, may_next HX.out HA.out HQ.out, HB2.out⟩
          case measure => simp [intOf]; omega
        | false =>
          go_wp2_with (go_at_call 36; (with_reducible refine (HC.out _).mono ?_))
          rintro e w2 ⟨rfl, hb2⟩
          have HB2 := Lib.hid (below_two' (HB.out.alloc HB.out.size _) hb2)
          clear hb2 c0 c1 c2
          go_wp2_with fail
          go_ret
          exact ⟨ret_int (HM.out (may_stop HX.out HQ.out)).symm, HB2.out⟩
      · have HE : Hid (chk l = if 12 < d then 6 else 0) := Lib.hid (HL.out (by have := HA.out; rwa [List.take_of_length_le (by rw [← HN.out]; omega)] at this))
        by_cases h12 : 12 < d
        all_goals
          go_wp2_with fail
          go_ret
          exact ⟨ret_int (by rw [HE.out]; first | rw [if_pos h12] | rw [if_neg (by omega)]), HB.out⟩

theorem rdep_zero (A : Option Addr) (n c : Nat) (l : List Tm) (hn : n = l.length) (hn62 : n ≤ 70368744177664) (w : World) (h : Tms w (.slice A n c) l) (hw : wholeB l = true) :
    Calls Try.prog 14 #[.slice A n c, .int .i64 0] w (RetI w (depth l)) := by
  have h2 := (wholeB_iff.1 hw).2
  have := rdep_any A n c l hn hn62 0 w h (by rw [endA_some (m := l.length) (by simpa using h2)]; omega)
  rw [List.drop_zero] at this
  unfold depth
  rwa [tell_yes hw]
theorem rtyp_zero (A : Option Addr) (n c : Nat) (l : List Tm) (hn : n = l.length) (hn62 : n ≤ 70368744177664) (w : World) (h : Tms w (.slice A n c) l) (hw : wholeB l = true) :
    Calls Try.prog 13 #[.slice A n c, .int .i64 0] w (RetI w (typ l)) := by
  have h2 := (wholeB_iff.1 hw).2
  have := rtyp_any A n c l hn hn62 0 w h (by rw [endA_some (m := l.length) (by simpa using h2)]; omega)
  rw [List.drop_zero] at this
  unfold typ
  rwa [tell_yes hw]
set_option maxHeartbeats 2000000 in
theorem rcheck_any (A : Option Addr) (n c : Nat) (l : List Tm) (hn : n = l.length) (hn62 : n ≤ 70368744177664) (hs : Small l) (w : World) (h : Tms w (.slice A n c) l) :
    Calls Try.prog 19 #[.slice A n c] w (RetI w (chk l)) := by
  by_cases h40 : 40 < n
  · have HE := Lib.hid (chk_full (l := l) (by omega))
    clear hn h
    go_enter Try.func19, Try.ntmps19
    go_wp2_with fail
    go_ret
    exact ⟨ret_int HE.out.symm, Below.refl _ _⟩
  have HD := Lib.hid (rwhole_any A n c l hn hn62 w h)
  have h40' : ¬ 40 < l.length := by omega
  cases hw : wholeB l with
  | false =>
    rw [hw] at HD
    have HE := Lib.hid (chk_none h40' hw)
    clear hn h hw h40'
    go_enter Try.func19, Try.ntmps19
    go_wp2_with (go_at_call 33; (with_reducible refine HD.out.mono ?_))
    rintro e w1 ⟨rfl, hb1⟩
    go_wp2_with fail
    go_ret
    exact ⟨ret_int HE.out.symm, hb1⟩
  | true =>
    rw [hw] at HD
    have HL := Lib.hid (fun h2 => chk_last h40' hw h2)
    have HM := Lib.hid (fun h2 => chk_may h40' hw h2)
    have HDD := Lib.hid (fun w h => rdep_zero A n c l hn hn62 w h hw)
    have HVAL : Hid (∀ t ∈ l, 0 ≤ ar t.op) := Lib.hid (by have := cnt_valid (wholeB_iff.1 hw).2; rwa [List.take_of_length_le (Nat.le_refl _)] at this)
    obtain ⟨d, hd⟩ : ∃ d, d = depth l := ⟨_, rfl⟩
    rw [← hd] at HL HDD
    have HT := Lib.hid h
    have HN := Lib.hid hn
    have HS := Lib.hid hs
    clear hn h hw hd h40' hs
    go_enter Try.func19, Try.ntmps19
    go_wp2_with (go_at_call 33; (with_reducible refine HD.out.mono ?_))
    rintro e w1 ⟨rfl, hb1⟩
    have HB1 := Lib.hid hb1
    clear hb1
    go_wp2_with fail
    go_loopw [3] (fun i wr => AllMay w l n i wr) (fun i _ => n - (intOf i).toNat)
    case atStart => exact ⟨0, Nat.zero_le _, rfl, rfl, HB1.out⟩
    case round =>
      obtain ⟨k, hk, rfl, hall, hbw⟩ := hrel
      have HA := Lib.hid hall
      have HB := Lib.hid hbw
      clear hall hbw
      by_cases hlt : k < n
      · obtain ⟨t, ht⟩ : ∃ t, l[k]? = some t := get_some (by rw [← HN.out]; exact hlt)
        obtain ⟨b, off, rfl, hb, c0, c1, c2⟩ := (HT.out.keep HB.out).at_ ht
        have HC : Hid (∀ w, Calls Try.prog 34 #[.agg #[.int .i64 t.op, .int .i64 t.n, .string t.s]] w (RetB w (mayB t))) := Lib.hid (fun w => rmay_any t w (HS.out t (List.mem_of_getElem? ht)) (HVAL.out t (List.mem_of_getElem? ht)))
        have HX := Lib.hid ht
        obtain ⟨q, hq⟩ : ∃ q, q = mayB t := ⟨_, rfl⟩
        rw [← hq] at HC
        have HQ := Lib.hid hq.symm
        clear ht hq
        cases q with
        | true =>
          go_wp2_with (go_at_call 34; (with_reducible refine (HC.out _).mono ?_))
          rintro e w2 ⟨rfl, hb2⟩
          have HB2 := Lib.hid (below_two' HB.out hb2)
          clear hb2 c0 c1 c2
          go_wp2_with fail
          go_roundw
          case rel => exact ⟨k + 1, hlt, by simp, may_next HX.out HA.out HQ.out, HB2.out⟩
          case measure => simp [intOf]; omega
        | false =>
          go_wp2_with (go_at_call 34; (with_reducible refine (HC.out _).mono ?_))
          rintro e w2 ⟨rfl, hb2⟩
          have HB2 := Lib.hid (below_two' HB.out hb2)
          clear hb2 c0 c1 c2
          go_wp2_with fail
          go_ret
          exact ⟨ret_int (HM.out (may_stop HX.out HQ.out)).symm, HB2.out⟩
      · have HE : Hid (chk l = if 12 < d then 6 else 0) := Lib.hid (HL.out (by have := HA.out; rwa [List.take_of_length_le (by rw [← HN.out]; omega)] at this))
        have HDW := Lib.hid (HDD.out wr (HT.out.keep HB.out))
        by_cases h12 : 12 < d
        all_goals
          go_wp2_with (go_at_call 14; (with_reducible refine HDW.out.mono ?_))
          rintro e w2 ⟨rfl, hb2⟩
          go_wp2_with fail
          go_ret
          exact ⟨ret_int (by rw [HE.out]; first | rw [if_pos h12] | rw [if_neg (by omega)]), below_two' HB.out hb2⟩
end Go.Proofs.Ytbkgkdfameojfaa
