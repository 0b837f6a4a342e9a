/- TermRefDeep, TermCheck, ActIn, ActMem, ActVar, joined. -/
import Derived.Test.YtcfcpbkeedfbpaaGreatDoorMActRuns02
import Derived.Test.YtcfcpbkeedfbpaaGreatDoorMActRuns01
import Derived.BigQuiet
import Derived.Lib.QuietBelow
namespace Go.Proofs.YtcfcpbkeedfbpaaGreatDoor
open Go.RowKit TermSpec
set_option maxRecDepth 100000

def RDeepRel (W : World) (l : List Tm) (a q : Nat) (v i : Value) (wr : World) : Prop :=
  ∃ k : Nat, k ≤ q ∧ i = .int .i64 k ∧ v = .int .i64 (deepest ((stack depF (l.drop (a + 1))).take k)) ∧ Below W.heap.size W wr
def RDIH (A : Option Addr) (n c : Nat) (l : List Tm) (K : Nat) : Prop := ∀ (a : Nat) (w : World), n ≤ a + K → Tms w (.slice A n c) l → 0 ≤ endA l a → Calls Tryz.prog 71 #[.slice A n c, .int .i64 a] w (RetI w (come depF (l.drop a)))
set_option maxHeartbeats 2000000 in
theorem rdep_step (A : Option Addr) (n c : Nat) (l : List Tm) (K : Nat) (hn : n = l.length) (hn62 : n ≤ 70368744177664) (ih : RDIH A n c l K) (a : Nat) (w : World) (hK : n ≤ a + (K + 1)) (h : Tms w (.slice A n c) l) (he : 0 ≤ endA l a) :
    Calls Tryz.prog 71 #[.slice A n c, .int .i64 a] w (RetI w (come depF (l.drop a))) := by
  obtain ⟨k0, m0, hk0, hc0, _, _, _⟩ := endA_nn he
  obtain rfl : k0 = a := by omega
  obtain ⟨t, m, ht, h0, _, hm⟩ := first_of hc0
  have han := get_lt ht
  have HT := Lib.hid h
  have HM := Lib.hid hm
  have HIH := Lib.hid ih
  have HBL := Lib.hid (rbelow_any A n c l k0 w h hn hn62 t ht he)
  have HCM := Lib.hid (come_at (f := depF) ht)
  have hq := (ar_bd t.op).2
  have e0 := arN_of h0
  have HDB : Hid (∀ k, 0 ≤ deepest ((stack depF (l.drop (k0 + 1))).take k) ∧ deepest ((stack depF (l.drop (k0 + 1))).take k) ≤ 4611686018427387903) := Lib.hid (fun k => deepest_bd (by omega) _ (fun b hb => by
    have h1 := (stack_depth _ b (List.mem_of_mem_take hb)).2
    rw [List.length_drop] at h1
    omega))
  obtain ⟨q, hqe⟩ : ∃ q, q = arN t.op := ⟨_, rfl⟩
  rw [← hqe] at HBL HCM e0 HM
  have hq2 : q ≤ 2 := by omega
  have hal : k0 < n := by omega
  have HLEN := Lib.hid hn
  clear ht hqe hn h hc0 hk0 hm he h0 e0 han hq ih
  go_enter Tryz.func71, Tryz.ntmps71
  go_wp2_with (go_at_call 56; (with_reducible refine HBL.out.mono ?_))
  rintro e w1 ⟨v2, rfl, hr2, hb1⟩
  obtain ⟨A2, n2, c2, rfl, hn2, hc2, hA2⟩ := hr2.ints
  rw [belows_length] at hn2
  obtain rfl : q = n2 := hn2
  have HA2 := Lib.hid hA2
  have HB1 := Lib.hid hb1
  clear hr2 hc2 hA2 hb1
  go_wp2_with fail
  go_loopw [5, 7, 8] (fun v i _ wr => RDeepRel w1 l k0 q v i wr) (fun _ i _ _ => 3 - (intOf i).toNat)
  case atStart => exact ⟨0, Nat.zero_le _, rfl, rfl, Below.refl _ _⟩
  case round =>
    obtain ⟨k, hk, rfl, rfl, hbw⟩ := hrel
    have HBW := Lib.hid hbw
    obtain ⟨g0, g1⟩ := HDB.out k
    clear hbw
    by_cases hlt : k < q
    · obtain ⟨b2, off2, rfl, hb2, hcell⟩ := HA2.out (by omega)
      obtain ⟨x, hx, hex, hbx, hst⟩ := below_place HM.out hlt
      have hck := (HBW.out.cell (p := ⟨b2, off2 + k, none⟩) (by exact hb2)).trans (hcell k _ hx)
      have HS : Hid (deepest ((stack depF (l.drop (k0 + 1))).take (k + 1)) = if deepest ((stack depF (l.drop (k0 + 1))).take k) < come depF (l.drop (k0 + 1 + x)) then come depF (l.drop (k0 + 1 + x)) else deepest ((stack depF (l.drop (k0 + 1))).take k)) := Lib.hid (by rw [hst depF, deepest_snoc])
      rw [← HLEN.out] at hbx
      have HCI := Lib.hid (HIH.out (k0 + 1 + x) wr (by omega) (HT.out.keep (below_two' HB1.out HBW.out)) hex)
      obtain ⟨y, hy⟩ : ∃ y, y = come depF (l.drop (k0 + 1 + x)) := ⟨_, rfl⟩
      rw [← hy] at HS HCI
      obtain ⟨d, hd⟩ : ∃ d, d = deepest ((stack depF (l.drop (k0 + 1))).take k) := ⟨_, rfl⟩
      rw [← hd] at HS g0 g1 ⊢
      obtain ⟨p, hp⟩ : ∃ p, p = k0 + 1 + x := ⟨_, rfl⟩
      rw [← hp] at HCI hck
      clear hx hex hbx hst hcell hy hp hd
      by_cases hyd : d < y
      all_goals
        go_wp2_with (go_at_call 71; (with_reducible refine HCI.out.mono ?_))
        rintro e w3 ⟨rfl, hb3⟩
        have HB3 := Lib.hid (below_two' HBW.out hb3)
        clear hb3 hck
        go_wp2_with fail
        go_roundw
        case rel => exact ⟨k + 1, hlt, by simp, by rw [HS.out]; first | rw [if_pos hyd] | rw [if_neg (by omega)], HB3.out⟩
        case measure => simp [intOf]; omega
    · obtain rfl : k = q := by omega
      go_wp2_with fail
      go_ret
      exact ⟨ret_int HCM.out.symm, below_two' HB1.out HBW.out⟩
theorem rdep_all (A : Option Addr) (n c : Nat) (l : List Tm) (hn : n = l.length) (hn62 : n ≤ 70368744177664) (K : Nat) : RDIH A n c l K := by
  induction K with
  | zero =>
    intro a w hK _ he
    obtain ⟨k, m, hk, _, h1, h2, h3⟩ := endA_nn he
    omega
  | succ K ih => exact fun a w hK h he => rdep_step A n c l K hn hn62 ih a w hK h he
theorem rdep_any (A : Option Addr) (n c : Nat) (l : List Tm) (hn : n = l.length) (hn62 : n ≤ 70368744177664) (a : Nat) (w : World) (h : Tms w (.slice A n c) l) (he : 0 ≤ endA l a) :
    Calls Tryz.prog 71 #[.slice A n c, .int .i64 a] w (RetI w (come depF (l.drop a))) := rdep_all A n c l hn hn62 n a w (by omega) h he

def takesT (o : Int) : Int := if o = 12 ∨ 19 ≤ o then 2 else 1
theorem typR {o : Int} {bs : List Int} {b : Bool} (h0 : 0 ≤ ar o) (hl : bs.length ≤ arN o) (h : bs.all (fun b => decide (b = takesT o)) = b) : typF o bs = if b then (if o ≤ 8 then 1 else 2) else 0 := by
  obtain ⟨h1, h20⟩ := ar_in.1 h0
  have hown : ownT o = if o ≤ 8 then 1 else 2 := by
    unfold ownT
    by_cases h8 : o ≤ 8
    · rw [if_pos (by omega), if_pos h8]
    · rw [if_neg (by omega), if_neg h8]
  by_cases h9 : o = 9 ∨ o = 10 ∨ o = 11
  · have : arN o = 0 := by rcases h9 with rfl | rfl | rfl <;> rfl
    obtain rfl : bs = [] := List.eq_nil_of_length_eq_zero (by omega)
    cases h
    unfold typF
    rw [← hown]; rfl
  · have e : takesT o = askT o := by
      unfold takesT askT
      by_cases h2 : o = 12 ∨ 19 ≤ o
      · rw [if_pos h2, if_neg (by omega)]
      · rw [if_neg h2, if_pos (by omega)]
    rw [e] at h
    rw [typF_of h, hown]
def RTypRel (W : World) (l : List Tm) (a q : Nat) (tk : Int) (i : Value) (wr : World) : Prop :=
  ∃ k : Nat, k ≤ q ∧ i = .int .i64 k ∧ ((stack typF (l.drop (a + 1))).take k).all (fun b => decide (b = tk)) = true ∧ Below W.heap.size W wr
theorem all_stop {S : List Int} {k q : Nat} {y tk : Int} (hk : k < q) (h : S.take (k + 1) = S.take k ++ [y]) (hy : y ≠ tk) : (S.take q).all (fun b => decide (b = tk)) = false := by
  rw [List.all_eq_false]
  refine ⟨y, ?_, by simpa using hy⟩
  have : y ∈ S.take (k + 1) := by rw [h]; simp
  rw [show k + 1 = min (k + 1) q by omega, ← List.take_take] at this
  exact List.mem_of_mem_take this
def RTIH (A : Option Addr) (n c : Nat) (l : List Tm) (K : Nat) : Prop := ∀ (a : Nat) (w : World), n ≤ a + K → Tms w (.slice A n c) l → 0 ≤ endA l a → Calls Tryz.prog 82 #[.slice A n c, .int .i64 a] w (RetI w (come typF (l.drop a)))
set_option maxHeartbeats 3000000 in
theorem rtyp_stepA (A : Option Addr) (n c : Nat) (l : List Tm) (K : Nat) (hn : n = l.length) (hn62 : n ≤ 70368744177664) (ih : RTIH A n c l K) (k0 : Nat) (w : World) (hK : n ≤ k0 + (K + 1)) (h : Tms w (.slice A n c) l) (he : 0 ≤ endA l k0) (t : Tm) (m : Nat) (ht : l[k0]? = some t) (h0 : 0 ≤ ar t.op) (hm : cnt (arN t.op) (l.drop (k0 + 1)) = some m) (h12 : t.op = 12) :
    Calls Tryz.prog 82 #[.slice A n c, .int .i64 k0] w (RetI w (come typF (l.drop k0))) := by
  have han := get_lt ht
  have HT := Lib.hid h
  have HM := Lib.hid hm
  have HIH := Lib.hid ih
  have HBL := Lib.hid (rbelow_any A n c l k0 w h hn hn62 t ht he)
  obtain ⟨b, off, rfl, hb, c0, -, -⟩ := h.at_ ht
  have hq := (ar_bd t.op).2
  have e0 := arN_of h0
  have hcm := come_at (f := typF) ht
  have HTR : Hid (∀ b, ((stack typF (l.drop (k0 + 1))).take (arN t.op)).all (fun b => decide (b = 2)) = b → come typF (l.drop k0) = if b then (if t.op ≤ 8 then 1 else 2) else 0) := Lib.hid (fun b hb => by
    rw [hcm]
    refine typR h0 (by rw [List.length_take]; omega) ?_
    rw [show takesT t.op = 2 by unfold takesT; rw [if_pos (by omega)]]
    exact hb)
  obtain ⟨r, hr⟩ : ∃ r, r = come typF (l.drop k0) := ⟨_, rfl⟩
  rw [← hr] at HTR ⊢
  obtain ⟨o, ho⟩ : ∃ o, o = t.op := ⟨_, rfl⟩
  rw [← ho] at HBL HTR hq e0 HM c0 h12
  obtain ⟨q, hqe⟩ : ∃ q, q = arN o := ⟨_, rfl⟩
  rw [← hqe] at HBL HTR e0 HM
  have hq2 : q ≤ 2 := by omega
  have hal : k0 < n := by omega
  have hal' : (k0 : Int) < n := by omega
  have HLEN := Lib.hid hn
  clear ht ho hqe hn h hm he h0 e0 han hq ih hcm hr
  have g12 : (o == 12) = true := by simp [h12]
  have d8 : ¬ o ≤ 8 := by omega
  clear h12 d8
  go_enter Tryz.func82, Tryz.ntmps82
  go_wp2_with (go_at_call 56; (with_reducible refine HBL.out.mono ?_))
  rintro e w1 ⟨v2, rfl, hr2, hb1⟩
  obtain ⟨A2, n2, c2, rfl, hn2, hc2, hA2⟩ := hr2.ints
  rw [belows_length] at hn2
  obtain rfl : q = n2 := hn2
  have HA2 := Lib.hid hA2
  have HB1 := Lib.hid hb1
  clear hr2 hc2 hA2 hb1 c0
  go_wp2_with fail
  go_loopw [8] (fun i wr => RTypRel w1 l k0 q 2 i wr) (fun i _ => 3 - (intOf i).toNat)
  case atStart => exact ⟨0, Nat.zero_le _, rfl, rfl, Below.refl _ _⟩
  case round =>
    obtain ⟨k, hk, rfl, hall, hbw⟩ := hrel
    have HBW := Lib.hid hbw
    have HALL := Lib.hid hall
    clear hbw hall
    by_cases hlt : k < q
    · obtain ⟨b2, off2, rfl, hb2, hcell⟩ := HA2.out (by omega)
      obtain ⟨x, hx, hex, hbx, hst⟩ := below_place HM.out hlt
      have hck := (HBW.out.cell (p := ⟨b2, off2 + k, none⟩) (by exact hb2)).trans (hcell k _ hx)
      have HS := Lib.hid (hst typF)
      rw [← HLEN.out] at hbx
      have HCI := Lib.hid (HIH.out (k0 + 1 + x) wr (by omega) (HT.out.keep (below_two' HB1.out HBW.out)) hex)
      obtain ⟨y, hy⟩ : ∃ y, y = come typF (l.drop (k0 + 1 + x)) := ⟨_, rfl⟩
      rw [← hy] at HS HCI
      obtain ⟨p, hp⟩ : ∃ p, p = k0 + 1 + x := ⟨_, rfl⟩
      rw [← hp] at HCI hck
      clear hx hex hbx hst hcell hy hp
      by_cases hyd : y = 2
      · have g : (y != 2) = false := by simp [hyd]
        have HQ := Lib.hid hyd
        clear hyd
        go_wp2_with (go_at_call 82; (with_reducible refine HCI.out.mono ?_))
        rintro e w3 ⟨rfl, hb3⟩
        have HB3 := Lib.hid (below_two' HBW.out hb3)
        clear hb3 hck
        go_wp2_with fail
        go_roundw
        case rel => exact ⟨k + 1, hlt, by simp, by rw [HS.out, List.all_append, HALL.out]; simpa using HQ.out, HB3.out⟩
        case measure => simp [intOf]; omega
      · have g : (y != 2) = true := by simp [hyd]
        have HQ := Lib.hid hyd
        clear hyd
        go_wp2_with (go_at_call 82; (with_reducible refine HCI.out.mono ?_))
        rintro e w3 ⟨rfl, hb3⟩
        have HB3 := Lib.hid (below_two' HBW.out hb3)
        clear hb3 hck
        go_wp2_with fail
        go_ret
        exact ⟨ret_int (HTR.out false (all_stop hlt HS.out HQ.out)).symm, below_two' HB1.out HB3.out⟩
    · obtain rfl : k = q := by omega
      by_cases h8 : o ≤ 8
      all_goals
        go_wp2_with fail
        go_ret
        exact ⟨ret_int (by rw [HTR.out true HALL.out]; first | (rw [if_pos rfl, if_pos h8]) | (rw [if_pos rfl, if_neg (by omega)])), below_two' HB1.out HBW.out⟩
set_option maxHeartbeats 3000000 in
theorem rtyp_stepB (A : Option Addr) (n c : Nat) (l : List Tm) (K : Nat) (hn : n = l.length) (hn62 : n ≤ 70368744177664) (ih : RTIH A n c l K) (k0 : Nat) (w : World) (hK : n ≤ k0 + (K + 1)) (h : Tms w (.slice A n c) l) (he : 0 ≤ endA l k0) (t : Tm) (m : Nat) (ht : l[k0]? = some t) (h0 : 0 ≤ ar t.op) (hm : cnt (arN t.op) (l.drop (k0 + 1)) = some m) (h19 : 19 ≤ t.op) :
    Calls Tryz.prog 82 #[.slice A n c, .int .i64 k0] w (RetI w (come typF (l.drop k0))) := by
  have han := get_lt ht
  have HT := Lib.hid h
  have HM := Lib.hid hm
  have HIH := Lib.hid ih
  have HBL := Lib.hid (rbelow_any A n c l k0 w h hn hn62 t ht he)
  obtain ⟨b, off, rfl, hb, c0, -, -⟩ := h.at_ ht
  have hq := (ar_bd t.op).2
  have e0 := arN_of h0
  have hcm := come_at (f := typF) ht
  have HTR : Hid (∀ b, ((stack typF (l.drop (k0 + 1))).take (arN t.op)).all (fun b => decide (b = 2)) = b → come typF (l.drop k0) = if b then (if t.op ≤ 8 then 1 else 2) else 0) := Lib.hid (fun b hb => by
    rw [hcm]
    refine typR h0 (by rw [List.length_take]; omega) ?_
    rw [show takesT t.op = 2 by unfold takesT; rw [if_pos (by omega)]]
    exact hb)
  obtain ⟨r, hr⟩ : ∃ r, r = come typF (l.drop k0) := ⟨_, rfl⟩
  rw [← hr] at HTR ⊢
  obtain ⟨o, ho⟩ : ∃ o, o = t.op := ⟨_, rfl⟩
  rw [← ho] at HBL HTR hq e0 HM c0 h19
  obtain ⟨q, hqe⟩ : ∃ q, q = arN o := ⟨_, rfl⟩
  rw [← hqe] at HBL HTR e0 HM
  have hq2 : q ≤ 2 := by omega
  have hal : k0 < n := by omega
  have hal' : (k0 : Int) < n := by omega
  have HLEN := Lib.hid hn
  clear ht ho hqe hn h hm he h0 e0 han hq ih hcm hr
  have g12 : (o == 12) = false := by simp; omega
  go_enter Tryz.func82, Tryz.ntmps82
  go_wp2_with (go_at_call 56; (with_reducible refine HBL.out.mono ?_))
  rintro e w1 ⟨v2, rfl, hr2, hb1⟩
  obtain ⟨A2, n2, c2, rfl, hn2, hc2, hA2⟩ := hr2.ints
  rw [belows_length] at hn2
  obtain rfl : q = n2 := hn2
  have HA2 := Lib.hid hA2
  have HB1 := Lib.hid hb1
  clear hr2 hc2 hA2 hb1 c0
  go_wp2_with fail
  go_loopw [8] (fun i wr => RTypRel w1 l k0 q 2 i wr) (fun i _ => 3 - (intOf i).toNat)
  case atStart => exact ⟨0, Nat.zero_le _, rfl, rfl, Below.refl _ _⟩
  case round =>
    obtain ⟨k, hk, rfl, hall, hbw⟩ := hrel
    have HBW := Lib.hid hbw
    have HALL := Lib.hid hall
    clear hbw hall
    by_cases hlt : k < q
    · obtain ⟨b2, off2, rfl, hb2, hcell⟩ := HA2.out (by omega)
      obtain ⟨x, hx, hex, hbx, hst⟩ := below_place HM.out hlt
      have hck := (HBW.out.cell (p := ⟨b2, off2 + k, none⟩) (by exact hb2)).trans (hcell k _ hx)
      have HS := Lib.hid (hst typF)
      rw [← HLEN.out] at hbx
      have HCI := Lib.hid (HIH.out (k0 + 1 + x) wr (by omega) (HT.out.keep (below_two' HB1.out HBW.out)) hex)
      obtain ⟨y, hy⟩ : ∃ y, y = come typF (l.drop (k0 + 1 + x)) := ⟨_, rfl⟩
      rw [← hy] at HS HCI
      obtain ⟨p, hp⟩ : ∃ p, p = k0 + 1 + x := ⟨_, rfl⟩
      rw [← hp] at HCI hck
      clear hx hex hbx hst hcell hy hp
      by_cases hyd : y = 2
      · have g : (y != 2) = false := by simp [hyd]
        have HQ := Lib.hid hyd
        clear hyd
        go_wp2_with (go_at_call 82; (with_reducible refine HCI.out.mono ?_))
        rintro e w3 ⟨rfl, hb3⟩
        have HB3 := Lib.hid (below_two' HBW.out hb3)
        clear hb3 hck
        go_wp2_with fail
        go_roundw
        case rel => exact ⟨k + 1, hlt, by simp, by rw [HS.out, List.all_append, HALL.out]; simpa using HQ.out, HB3.out⟩
        case measure => simp [intOf]; omega
      · have g : (y != 2) = true := by simp [hyd]
        have HQ := Lib.hid hyd
        clear hyd
        go_wp2_with (go_at_call 82; (with_reducible refine HCI.out.mono ?_))
        rintro e w3 ⟨rfl, hb3⟩
        have HB3 := Lib.hid (below_two' HBW.out hb3)
        clear hb3 hck
        go_wp2_with fail
        go_ret
        exact ⟨ret_int (HTR.out false (all_stop hlt HS.out HQ.out)).symm, below_two' HB1.out HB3.out⟩
    · obtain rfl : k = q := by omega
      by_cases h8 : o ≤ 8
      all_goals
        go_wp2_with fail
        go_ret
        exact ⟨ret_int (by rw [HTR.out true HALL.out]; first | (rw [if_pos rfl, if_pos h8]) | (rw [if_pos rfl, if_neg (by omega)])), below_two' HB1.out HBW.out⟩
set_option maxHeartbeats 3000000 in
theorem rtyp_stepC (A : Option Addr) (n c : Nat) (l : List Tm) (K : Nat) (hn : n = l.length) (hn62 : n ≤ 70368744177664) (ih : RTIH A n c l K) (k0 : Nat) (w : World) (hK : n ≤ k0 + (K + 1)) (h : Tms w (.slice A n c) l) (he : 0 ≤ endA l k0) (t : Tm) (m : Nat) (ht : l[k0]? = some t) (h0 : 0 ≤ ar t.op) (hm : cnt (arN t.op) (l.drop (k0 + 1)) = some m) (h12 : ¬ t.op = 12) (h19 : t.op < 19) :
    Calls Tryz.prog 82 #[.slice A n c, .int .i64 k0] w (RetI w (come typF (l.drop k0))) := by
  have han := get_lt ht
  have HT := Lib.hid h
  have HM := Lib.hid hm
  have HIH := Lib.hid ih
  have HBL := Lib.hid (rbelow_any A n c l k0 w h hn hn62 t ht he)
  obtain ⟨b, off, rfl, hb, c0, -, -⟩ := h.at_ ht
  have hq := (ar_bd t.op).2
  have e0 := arN_of h0
  have hcm := come_at (f := typF) ht
  have HTR : Hid (∀ b, ((stack typF (l.drop (k0 + 1))).take (arN t.op)).all (fun b => decide (b = 1)) = b → come typF (l.drop k0) = if b then (if t.op ≤ 8 then 1 else 2) else 0) := Lib.hid (fun b hb => by
    rw [hcm]
    refine typR h0 (by rw [List.length_take]; omega) ?_
    rw [show takesT t.op = 1 by unfold takesT; rw [if_neg (by omega)]]
    exact hb)
  obtain ⟨r, hr⟩ : ∃ r, r = come typF (l.drop k0) := ⟨_, rfl⟩
  rw [← hr] at HTR ⊢
  obtain ⟨o, ho⟩ : ∃ o, o = t.op := ⟨_, rfl⟩
  rw [← ho] at HBL HTR hq e0 HM c0 h12 h19
  obtain ⟨q, hqe⟩ : ∃ q, q = arN o := ⟨_, rfl⟩
  rw [← hqe] at HBL HTR e0 HM
  have hq2 : q ≤ 2 := by omega
  have hal : k0 < n := by omega
  have hal' : (k0 : Int) < n := by omega
  have HLEN := Lib.hid hn
  clear ht ho hqe hn h hm he h0 e0 han hq ih hcm hr
  have g12 : (o == 12) = false := by simp [h12]
  go_enter Tryz.func82, Tryz.ntmps82
  go_wp2_with (go_at_call 56; (with_reducible refine HBL.out.mono ?_))
  rintro e w1 ⟨v2, rfl, hr2, hb1⟩
  obtain ⟨A2, n2, c2, rfl, hn2, hc2, hA2⟩ := hr2.ints
  rw [belows_length] at hn2
  obtain rfl : q = n2 := hn2
  have HA2 := Lib.hid hA2
  have HB1 := Lib.hid hb1
  clear hr2 hc2 hA2 hb1 c0
  go_wp2_with fail
  go_loopw [8] (fun i wr => RTypRel w1 l k0 q 1 i wr) (fun i _ => 3 - (intOf i).toNat)
  case atStart => exact ⟨0, Nat.zero_le _, rfl, rfl, Below.refl _ _⟩
  case round =>
    obtain ⟨k, hk, rfl, hall, hbw⟩ := hrel
    have HBW := Lib.hid hbw
    have HALL := Lib.hid hall
    clear hbw hall
    by_cases hlt : k < q
    · obtain ⟨b2, off2, rfl, hb2, hcell⟩ := HA2.out (by omega)
      obtain ⟨x, hx, hex, hbx, hst⟩ := below_place HM.out hlt
      have hck := (HBW.out.cell (p := ⟨b2, off2 + k, none⟩) (by exact hb2)).trans (hcell k _ hx)
      have HS := Lib.hid (hst typF)
      rw [← HLEN.out] at hbx
      have HCI := Lib.hid (HIH.out (k0 + 1 + x) wr (by omega) (HT.out.keep (below_two' HB1.out HBW.out)) hex)
      obtain ⟨y, hy⟩ : ∃ y, y = come typF (l.drop (k0 + 1 + x)) := ⟨_, rfl⟩
      rw [← hy] at HS HCI
      obtain ⟨p, hp⟩ : ∃ p, p = k0 + 1 + x := ⟨_, rfl⟩
      rw [← hp] at HCI hck
      clear hx hex hbx hst hcell hy hp
      by_cases hyd : y = 1
      · have g : (y != 1) = false := by simp [hyd]
        have HQ := Lib.hid hyd
        clear hyd
        go_wp2_with (go_at_call 82; (with_reducible refine HCI.out.mono ?_))
        rintro e w3 ⟨rfl, hb3⟩
        have HB3 := Lib.hid (below_two' HBW.out hb3)
        clear hb3 hck
        go_wp2_with fail
        go_roundw
        case rel => exact ⟨k + 1, hlt, by simp, by rw [HS.out, List.all_append, HALL.out]; simpa using HQ.out, HB3.out⟩
        case measure => simp [intOf]; omega
      · have g : (y != 1) = true := by simp [hyd]
        have HQ := Lib.hid hyd
        clear hyd
        go_wp2_with (go_at_call 82; (with_reducible refine HCI.out.mono ?_))
        rintro e w3 ⟨rfl, hb3⟩
        have HB3 := Lib.hid (below_two' HBW.out hb3)
        clear hb3 hck
        go_wp2_with fail
        go_ret
        exact ⟨ret_int (HTR.out false (all_stop hlt HS.out HQ.out)).symm, below_two' HB1.out HB3.out⟩
    · obtain rfl : k = q := by omega
      by_cases h8 : o ≤ 8
      all_goals
        go_wp2_with fail
        go_ret
        exact ⟨ret_int (by rw [HTR.out true HALL.out]; first | (rw [if_pos rfl, if_pos h8]) | (rw [if_pos rfl, if_neg (by omega)])), below_two' HB1.out HBW.out⟩
theorem rtyp_all (A : Option Addr) (n c : Nat) (l : List Tm) (hn : n = l.length) (hn62 : n ≤ 70368744177664) (K : Nat) : RTIH A n c l K := by
  induction K with
  | zero =>
    intro a w hK _ he
    obtain ⟨k, m, hk, _, h1, h2, h3⟩ := endA_nn he
    omega
  | succ K ih =>
    intro a w hK h he
    obtain ⟨k0, m0, hk0, hc0, _, _, _⟩ := endA_nn he
    obtain rfl : k0 = a := by omega
    obtain ⟨t, m, ht, h0, _, hm⟩ := first_of hc0
    by_cases h12 : t.op = 12
    · exact rtyp_stepA A n c l K hn hn62 ih k0 w hK h he t m ht h0 hm h12
    · by_cases h19 : 19 ≤ t.op
      · exact rtyp_stepB A n c l K hn hn62 ih k0 w hK h he t m ht h0 hm h19
      · exact rtyp_stepC A n c l K hn hn62 ih k0 w hK h he t m ht h0 hm h12 (by omega)
theorem rtyp_any (A : Option Addr) (n c : Nat) (l : List Tm) (hn : n = l.length) (hn62 : n ≤ 70368744177664) (a : Nat) (w : World) (h : Tms w (.slice A n c) l) (he : 0 ≤ endA l a) :
    Calls Tryz.prog 82 #[.slice A n c, .int .i64 a] w (RetI w (come typF (l.drop a))) := rtyp_all A n c l hn hn62 n a w (by omega) h he
end Go.Proofs.YtcfcpbkeedfbpaaGreatDoor

namespace Go.Proofs.YtcfcpbkeedfbpaaGreatDoor
open Go.RowKit TermSpec
set_option maxRecDepth 100000

theorem endA_nat0 (l : List Tm) : endA l 0 = fin 1 l 0 := endA_nat l 0
theorem whole_yes {l : List Tm} {n : Nat} (hn : n = l.length) (h40 : n ≤ 40) (h : endA l 0 = n) : wholeB l = true := by
  refine wholeB_iff.2 ⟨by omega, ?_⟩
  obtain ⟨k, m, hk, hc, he, hm, hl⟩ := endA_nn (l := l) (a := 0) (by omega)
  obtain rfl : k = 0 := by omega
  rw [List.drop_zero] at hc
  rw [hc]
  congr 1
  omega
theorem whole_no {l : List Tm} {n : Nat} (hn : n = l.length) (h : ¬ (n ≤ 40 ∧ endA l 0 = n)) : wholeB l = false := by
  rw [Bool.eq_false_iff]
  intro hw
  obtain ⟨h1, h2⟩ := wholeB_iff.1 hw
  refine h ⟨by omega, ?_⟩
  have := endA_some (l := l) (a := 0) (m := l.length) (by simpa using h2)
  rw [show (0 : Int) = ((0 : Nat) : Int) from rfl, this]
  omega
theorem tell_no {f : Int → List Int → Int} {l : List Tm} (h : wholeB l = false) : tell f l = 0 := by unfold tell; rw [h]; rfl
theorem tell_yes {f : Int → List Int → Int} {l : List Tm} (h : wholeB l = true) : tell f l = come f l := by unfold tell; rw [h]; rfl

theorem comeDep_zero (A : Option Addr) (n c : Nat) (l : List Tm) (hn : n = l.length) (hn62 : n ≤ 70368744177664) (w : World) (h : Tms w (.slice A n c) l) (he : 0 ≤ endA l 0) :
    Calls Tryz.prog 138 #[.slice A n c, .int .i64 0, .func (.func 127) #[] #[]] w (RetI w (come depF l)) := by
  have := comeDep_any A n c l hn hn62 0 w h he
  rwa [List.drop_zero] at this
set_option maxHeartbeats 1000000 in
theorem wholeDep_any (A : Option Addr) (n c : Nat) (l : List Tm) (hn : n = l.length) (hn62 : n ≤ 70368744177664) (w : World) (h : Tms w (.slice A n c) l) :
    Calls Tryz.prog 111 #[.slice A n c, .func (.func 127) #[] #[]] w (RetI w (tell depF l)) := by
  by_cases h40 : 40 < n
  · have HE := Lib.hid (tell_no (f := depF) (whole_no hn (by omega)))
    clear hn h
    go_enter Tryz.func111, Tryz.ntmps111
    go_wp2_with fail
    go_ret
    exact ⟨ret_int HE.out.symm, Below.refl _ _⟩
  · have hE := end_any A n c l 0 w h hn (by omega)
    have HY : Hid (endA l 0 = n → Calls Tryz.prog 138 #[.slice A n c, .int .i64 0, .func (.func 127) #[] #[]] w (RetI w (come depF l)) ∧ tell depF l = come depF l) := Lib.hid (fun h0 => ⟨comeDep_zero A n c l hn hn62 w h (by omega), tell_yes (whole_yes hn (by omega) h0)⟩)
    have HN : Hid (endA l 0 ≠ n → tell depF l = 0) := Lib.hid (fun h0 => tell_no (whole_no hn (fun h => h0 h.2)))
    obtain ⟨r, hr⟩ : ∃ r, r = endA l 0 := ⟨_, rfl⟩
    rw [← hr] at hE HY HN
    have HE := Lib.hid hE
    clear hr hE hn h
    by_cases hrn : r = n
    · have g : (r != (n : Int)) = false := by simp [hrn]
      have HC := Lib.hid (HY.out hrn).1
      have HV := Lib.hid (HY.out hrn).2
      clear hrn HN HY
      go_enter Tryz.func111, Tryz.ntmps111
      go_wp2_with (first
        | (go_at_call 137; (with_reducible refine HE.out.mono ?_); rintro e w' ⟨rfl, rfl⟩)
        | (go_at_call 138; (with_reducible refine HC.out.mono ?_)))
      rintro e w1 ⟨rfl, hb1⟩
      go_wp2_with fail
      go_ret
      exact ⟨ret_int HV.out.symm, hb1⟩
    · have g : (r != (n : Int)) = true := by simp [hrn]
      have HV := Lib.hid (HN.out hrn)
      clear hrn HN HY
      go_enter Tryz.func111, Tryz.ntmps111
      go_wp2_with (go_at_call 137; (with_reducible refine HE.out.mono ?_); rintro e w' ⟨rfl, rfl⟩)
      go_ret
      exact ⟨ret_int HV.out.symm, Below.refl _ _⟩
theorem depth_any (A : Option Addr) (n c : Nat) (l : List Tm) (hn : n = l.length) (hn62 : n ≤ 70368744177664) (w : World) (h : Tms w (.slice A n c) l) :
    Calls Tryz.prog 96 #[.slice A n c] w (RetI w (depth l)) := by
  have HC := Lib.hid (wholeDep_any A n c l hn hn62 w h)
  obtain ⟨r, hr⟩ : ∃ r, r = tell depF l := ⟨_, rfl⟩
  have HR : Hid (depth l = r) := Lib.hid hr.symm
  rw [← hr] at HC
  clear hr hn h
  go_enter Tryz.func96, Tryz.ntmps96
  go_wp2_with (go_at_call 111; (with_reducible refine HC.out.mono ?_))
  rintro e w1 ⟨rfl, hb1⟩
  go_wp2_with fail
  go_ret
  exact ⟨ret_int HR.out.symm, hb1⟩

theorem comeTyp_zero (A : Option Addr) (n c : Nat) (l : List Tm) (hn : n = l.length) (hn62 : n ≤ 70368744177664) (w : World) (h : Tms w (.slice A n c) l) (he : 0 ≤ endA l 0) :
    Calls Tryz.prog 138 #[.slice A n c, .int .i64 0, .func (.func 112) #[] #[]] w (RetI w (come typF l)) := by
  have := comeTyp_any A n c l hn hn62 0 w h he
  rwa [List.drop_zero] at this
set_option maxHeartbeats 1000000 in
theorem wholeTyp_any (A : Option Addr) (n c : Nat) (l : List Tm) (hn : n = l.length) (hn62 : n ≤ 70368744177664) (w : World) (h : Tms w (.slice A n c) l) :
    Calls Tryz.prog 111 #[.slice A n c, .func (.func 112) #[] #[]] w (RetI w (tell typF l)) := by
  by_cases h40 : 40 < n
  · have HE := Lib.hid (tell_no (f := typF) (whole_no hn (by omega)))
    clear hn h
    go_enter Tryz.func111, Tryz.ntmps111
    go_wp2_with fail
    go_ret
    exact ⟨ret_int HE.out.symm, Below.refl _ _⟩
  · have hE := end_any A n c l 0 w h hn (by omega)
    have HY : Hid (endA l 0 = n → Calls Tryz.prog 138 #[.slice A n c, .int .i64 0, .func (.func 112) #[] #[]] w (RetI w (come typF l)) ∧ tell typF l = come typF l) := Lib.hid (fun h0 => ⟨comeTyp_zero A n c l hn hn62 w h (by omega), tell_yes (whole_yes hn (by omega) h0)⟩)
    have HN : Hid (endA l 0 ≠ n → tell typF l = 0) := Lib.hid (fun h0 => tell_no (whole_no hn (fun h => h0 h.2)))
    obtain ⟨r, hr⟩ : ∃ r, r = endA l 0 := ⟨_, rfl⟩
    rw [← hr] at hE HY HN
    have HE := Lib.hid hE
    clear hr hE hn h
    by_cases hrn : r = n
    · have g : (r != (n : Int)) = false := by simp [hrn]
      have HC := Lib.hid (HY.out hrn).1
      have HV := Lib.hid (HY.out hrn).2
      clear hrn HN HY
      go_enter Tryz.func111, Tryz.ntmps111
      go_wp2_with (first
        | (go_at_call 137; (with_reducible refine HE.out.mono ?_); rintro e w' ⟨rfl, rfl⟩)
        | (go_at_call 138; (with_reducible refine HC.out.mono ?_)))
      rintro e w1 ⟨rfl, hb1⟩
      go_wp2_with fail
      go_ret
      exact ⟨ret_int HV.out.symm, hb1⟩
    · have g : (r != (n : Int)) = true := by simp [hrn]
      have HV := Lib.hid (HN.out hrn)
      clear hrn HN HY
      go_enter Tryz.func111, Tryz.ntmps111
      go_wp2_with (go_at_call 137; (with_reducible refine HE.out.mono ?_); rintro e w' ⟨rfl, rfl⟩)
      go_ret
      exact ⟨ret_int HV.out.symm, Below.refl _ _⟩
theorem typ_any (A : Option Addr) (n c : Nat) (l : List Tm) (hn : n = l.length) (hn62 : n ≤ 70368744177664) (w : World) (h : Tms w (.slice A n c) l) :
    Calls Tryz.prog 76 #[.slice A n c] w (RetI w (typ l)) := by
  have HC := Lib.hid (wholeTyp_any A n c l hn hn62 w h)
  obtain ⟨r, hr⟩ : ∃ r, r = tell typF l := ⟨_, rfl⟩
  have HR : Hid (typ l = r) := Lib.hid hr.symm
  rw [← hr] at HC
  clear hr hn h
  go_enter Tryz.func76, Tryz.ntmps76
  go_wp2_with (go_at_call 111; (with_reducible refine HC.out.mono ?_))
  rintro e w1 ⟨rfl, hb1⟩
  go_wp2_with fail
  go_ret
  exact ⟨ret_int HR.out.symm, hb1⟩

theorem rwhole_any (A : Option Addr) (n c : Nat) (l : List Tm) (hn : n = l.length) (hn62 : n ≤ 70368744177664) (w : World) (h : Tms w (.slice A n c) l) :
    Calls Tryz.prog 91 #[.slice A n c] w (RetB w (wholeB l)) := by
  by_cases h40 : 40 < n
  · have HE := Lib.hid (whole_no hn (by omega))
    have g : ¬ (n : Int) ≤ 40 := by omega
    clear hn h
    go_enter Tryz.func91, Tryz.ntmps91
    go_wp2_with fail
    go_ret
    exact ⟨ret_bool HE.out.symm, Below.refl _ _⟩
  · have hE := rend_any A n c l 0 w h hn (by omega)
    have h40' : (n : Int) ≤ 40 := by omega
    have HV : Hid (wholeB l = (endA l 0 == (n : Int))) := Lib.hid (by
      by_cases h0 : endA l 0 = n
      · rw [whole_yes hn (by omega) h0, h0]; simp
      · rw [whole_no hn (fun h => h0 h.2)]; symm; simpa using h0)
    obtain ⟨r, hr⟩ : ∃ r, r = endA l 0 := ⟨_, rfl⟩
    rw [← hr] at hE HV
    have HE := Lib.hid hE
    clear hr hE hn h
    go_enter Tryz.func91, Tryz.ntmps91
    go_wp2_with (go_at_call 99; (with_reducible refine HE.out.mono ?_))
    rintro e w1 ⟨rfl, hb1⟩
    go_wp2_with fail
    go_ret
    exact ⟨ret_bool HV.out.symm, hb1⟩

def AllMay (W : World) (l : List Tm) (n : Nat) (i : Value) (wr : World) : Prop := ∃ k : Nat, k ≤ n ∧ i = .int .i64 k ∧ (l.take k).all mayB = true ∧ Below W.heap.size W wr
theorem may_stop {l : List Tm} {k : Nat} {t : Tm} (ht : l[k]? = some t) (h : mayB t = false) : l.all mayB = false := by
  rw [List.all_eq_false]
  exact ⟨t, List.mem_of_getElem? ht, by simp [h]⟩
theorem may_next {l : List Tm} {k : Nat} {t : Tm} (ht : l[k]? = some t) (h0 : (l.take k).all mayB = true) (h : mayB t = true) : (l.take (k + 1)).all mayB = true := by
  rw [take_next ht, List.all_append, h0]; simpa using h
theorem chk_full {l : List Tm} (h : 40 < l.length) : chk l = 8 := by unfold chk; rw [if_pos h]
theorem chk_none {l : List Tm} (h : ¬ 40 < l.length) (h1 : wholeB l = false) : chk l = 1 := by unfold chk; rw [if_neg h, if_pos h1]
theorem chk_may {l : List Tm} (h : ¬ 40 < l.length) (h1 : wholeB l = true) (h2 : l.all mayB = false) : chk l = 1 := by unfold chk; rw [if_neg h, if_neg (by simp [h1]), if_pos h2]
theorem chk_last {l : List Tm} (h : ¬ 40 < l.length) (h1 : wholeB l = true) (h2 : l.all mayB = true) : chk l = if 12 < depth l then 6 else 0 := by unfold chk; rw [if_neg h, if_neg (by simp [h1]), if_neg (by simp [h2])]

set_option maxHeartbeats 2000000 in
theorem check_any (A : Option Addr) (n c : Nat) (l : List Tm) (hn : n = l.length) (hn62 : n ≤ 70368744177664) (hs : Small l) (w : World) (h : Tms w (.slice A n c) l) :
    Calls Tryz.prog 54 #[.slice A n c] w (RetI w (chk l)) := by
  by_cases h40 : 40 < n
  · have HE := Lib.hid (chk_full (l := l) (by omega))
    clear hn h
    go_enter Tryz.func54, Tryz.ntmps54
    go_wp2_with fail
    go_ret
    exact ⟨ret_int HE.out.symm, Below.refl _ _⟩
  have HD := Lib.hid (depth_any A n c l hn hn62 w h)
  have h40' : ¬ 40 < l.length := by omega
  cases hw : wholeB l with
  | false =>
    have hd : depth l = 0 := depth_zero.2 hw
    rw [hd] at HD
    have HE := Lib.hid (chk_none h40' hw)
    clear hn h hw hd h40'
    go_enter Tryz.func54, Tryz.ntmps54
    go_wp2_with (go_at_call 96; (with_reducible refine HD.out.mono ?_))
    rintro e w1 ⟨rfl, hb1⟩
    go_wp2_with fail
    go_ret
    exact ⟨ret_int HE.out.symm, hb1⟩
  | true =>
    have hd0 : 1 ≤ depth l := by unfold depth; rw [tell_yes hw]; exact (come_depth (wholeB_iff.1 hw).2).1
    have HL := Lib.hid (fun h2 => chk_last h40' hw h2)
    have HM := Lib.hid (fun h2 => chk_may h40' hw h2)
    obtain ⟨d, hd⟩ : ∃ d, d = depth l := ⟨_, rfl⟩
    rw [← hd] at HD HL hd0
    have gd : (d == 0) = false := by simp; omega
    have HT := Lib.hid h
    have HN := Lib.hid hn
    have HS := Lib.hid hs
    clear hn h hw hd h40' hs
    go_enter Tryz.func54, Tryz.ntmps54
    go_wp2_with (go_at_call 96; (with_reducible refine HD.out.mono ?_))
    rintro e w1 ⟨rfl, hb1⟩
    have HB1 := Lib.hid hb1
    clear hb1
    go_wp2_with fail
    go_loopw [5, 15] (fun _ i wr => AllMay w l n i wr) (fun _ i _ => n - (intOf i).toNat)
    case atStart => exact ⟨0, Nat.zero_le _, rfl, rfl, HB1.out⟩
    case round =>
      obtain ⟨k, hk, rfl, hall, hbw⟩ := hrel
      have HA := Lib.hid hall
      have HB := Lib.hid hbw
      clear hall hbw
      by_cases hlt : k < n
      · obtain ⟨t, ht⟩ : ∃ t, l[k]? = some t := get_some (by rw [← HN.out]; exact hlt)
        obtain ⟨b, off, rfl, hb, c0, c1, c2⟩ := (HT.out.keep HB.out).at_ ht
        have HC : Hid (∀ w, Calls Tryz.prog 97 #[.agg #[.int .i64 t.op, .int .i64 t.n, .string t.s]] w (RetB w (mayB t))) := Lib.hid (fun w => may_any t w (HS.out t (List.mem_of_getElem? ht)))
        have HX := Lib.hid ht
        obtain ⟨q, hq⟩ : ∃ q, q = mayB t := ⟨_, rfl⟩
        rw [← hq] at HC
        have HQ := Lib.hid hq.symm
        clear ht hq
        cases q with
        | true =>
          go_wp2_with (go_at_call 97; (with_reducible refine (HC.out _).mono ?_))
          rintro e w2 ⟨rfl, hb2⟩
          have HB2 := Lib.hid (below_two' (HB.out.alloc HB.out.size _) hb2)
          clear hb2 c0 c1 c2
          go_wp2_with fail
          go_roundw
          case rel => exact ⟨k + 1, hlt, by simp, may_next HX.out HA.out HQ.out, HB2.out⟩
          case measure => simp [intOf]; omega
        | false =>
          go_wp2_with (go_at_call 97; (with_reducible refine (HC.out _).mono ?_))
          rintro e w2 ⟨rfl, hb2⟩
          have HB2 := Lib.hid (below_two' (HB.out.alloc HB.out.size _) hb2)
          clear hb2 c0 c1 c2
          go_wp2_with fail
          go_ret
          exact ⟨ret_int (HM.out (may_stop HX.out HQ.out)).symm, HB2.out⟩
      · have HE : Hid (chk l = if 12 < d then 6 else 0) := Lib.hid (HL.out (by have := HA.out; rwa [List.take_of_length_le (by rw [← HN.out]; omega)] at this))
        by_cases h12 : 12 < d
        all_goals
          go_wp2_with fail
          go_ret
          exact ⟨ret_int (by rw [HE.out]; first | rw [if_pos h12] | rw [if_neg (by omega)]), HB.out⟩

theorem rdep_zero (A : Option Addr) (n c : Nat) (l : List Tm) (hn : n = l.length) (hn62 : n ≤ 70368744177664) (w : World) (h : Tms w (.slice A n c) l) (hw : wholeB l = true) :
    Calls Tryz.prog 71 #[.slice A n c, .int .i64 0] w (RetI w (depth l)) := by
  have h2 := (wholeB_iff.1 hw).2
  have := rdep_any A n c l hn hn62 0 w h (by rw [endA_some (m := l.length) (by simpa using h2)]; omega)
  rw [List.drop_zero] at this
  unfold depth
  rwa [tell_yes hw]
theorem rtyp_zero (A : Option Addr) (n c : Nat) (l : List Tm) (hn : n = l.length) (hn62 : n ≤ 70368744177664) (w : World) (h : Tms w (.slice A n c) l) (hw : wholeB l = true) :
    Calls Tryz.prog 82 #[.slice A n c, .int .i64 0] w (RetI w (typ l)) := by
  have h2 := (wholeB_iff.1 hw).2
  have := rtyp_any A n c l hn hn62 0 w h (by rw [endA_some (m := l.length) (by simpa using h2)]; omega)
  rw [List.drop_zero] at this
  unfold typ
  rwa [tell_yes hw]
set_option maxHeartbeats 2000000 in
theorem rcheck_any (A : Option Addr) (n c : Nat) (l : List Tm) (hn : n = l.length) (hn62 : n ≤ 70368744177664) (hs : Small l) (w : World) (h : Tms w (.slice A n c) l) :
    Calls Tryz.prog 52 #[.slice A n c] w (RetI w (chk l)) := by
  by_cases h40 : 40 < n
  · have HE := Lib.hid (chk_full (l := l) (by omega))
    clear hn h
    go_enter Tryz.func52, Tryz.ntmps52
    go_wp2_with fail
    go_ret
    exact ⟨ret_int HE.out.symm, Below.refl _ _⟩
  have HD := Lib.hid (rwhole_any A n c l hn hn62 w h)
  have h40' : ¬ 40 < l.length := by omega
  cases hw : wholeB l with
  | false =>
    rw [hw] at HD
    have HE := Lib.hid (chk_none h40' hw)
    clear hn h hw h40'
    go_enter Tryz.func52, Tryz.ntmps52
    go_wp2_with (go_at_call 91; (with_reducible refine HD.out.mono ?_))
    rintro e w1 ⟨rfl, hb1⟩
    go_wp2_with fail
    go_ret
    exact ⟨ret_int HE.out.symm, hb1⟩
  | true =>
    rw [hw] at HD
    have HL := Lib.hid (fun h2 => chk_last h40' hw h2)
    have HM := Lib.hid (fun h2 => chk_may h40' hw h2)
    have HDD := Lib.hid (fun w h => rdep_zero A n c l hn hn62 w h hw)
    have HVAL : Hid (∀ t ∈ l, 0 ≤ ar t.op) := Lib.hid (by have := cnt_valid (wholeB_iff.1 hw).2; rwa [List.take_of_length_le (Nat.le_refl _)] at this)
    obtain ⟨d, hd⟩ : ∃ d, d = depth l := ⟨_, rfl⟩
    rw [← hd] at HL HDD
    have HT := Lib.hid h
    have HN := Lib.hid hn
    have HS := Lib.hid hs
    clear hn h hw hd h40' hs
    go_enter Tryz.func52, Tryz.ntmps52
    go_wp2_with (go_at_call 91; (with_reducible refine HD.out.mono ?_))
    rintro e w1 ⟨rfl, hb1⟩
    have HB1 := Lib.hid hb1
    clear hb1
    go_wp2_with fail
    go_loopw [3] (fun i wr => AllMay w l n i wr) (fun i _ => n - (intOf i).toNat)
    case atStart => exact ⟨0, Nat.zero_le _, rfl, rfl, HB1.out⟩
    case round =>
      obtain ⟨k, hk, rfl, hall, hbw⟩ := hrel
      have HA := Lib.hid hall
      have HB := Lib.hid hbw
      clear hall hbw
      by_cases hlt : k < n
      · obtain ⟨t, ht⟩ : ∃ t, l[k]? = some t := get_some (by rw [← HN.out]; exact hlt)
        obtain ⟨b, off, rfl, hb, c0, c1, c2⟩ := (HT.out.keep HB.out).at_ ht
        have HC : Hid (∀ w, Calls Tryz.prog 92 #[.agg #[.int .i64 t.op, .int .i64 t.n, .string t.s]] w (RetB w (mayB t))) := Lib.hid (fun w => rmay_any t w (HS.out t (List.mem_of_getElem? ht)) (HVAL.out t (List.mem_of_getElem? ht)))
        have HX := Lib.hid ht
        obtain ⟨q, hq⟩ : ∃ q, q = mayB t := ⟨_, rfl⟩
        rw [← hq] at HC
        have HQ := Lib.hid hq.symm
        clear ht hq
        cases q with
        | true =>
          go_wp2_with (go_at_call 92; (with_reducible refine (HC.out _).mono ?_))
          rintro e w2 ⟨rfl, hb2⟩
          have HB2 := Lib.hid (below_two' HB.out hb2)
          clear hb2 c0 c1 c2
          go_wp2_with fail
          go_roundw
          case rel => exact ⟨k + 1, hlt, by simp, may_next HX.out HA.out HQ.out, HB2.out⟩
          case measure => simp [intOf]; omega
        | false =>
          go_wp2_with (go_at_call 92; (with_reducible refine (HC.out _).mono ?_))
          rintro e w2 ⟨rfl, hb2⟩
          have HB2 := Lib.hid (below_two' HB.out hb2)
          clear hb2 c0 c1 c2
          go_wp2_with fail
          go_ret
          exact ⟨ret_int (HM.out (may_stop HX.out HQ.out)).symm, HB2.out⟩
      · have HE : Hid (chk l = if 12 < d then 6 else 0) := Lib.hid (HL.out (by have := HA.out; rwa [List.take_of_length_le (by rw [← HN.out]; omega)] at this))
        have HDW := Lib.hid (HDD.out wr (HT.out.keep HB.out))
        by_cases h12 : 12 < d
        all_goals
          go_wp2_with (go_at_call 71; (with_reducible refine HDW.out.mono ?_))
          rintro e w2 ⟨rfl, hb2⟩
          go_wp2_with fail
          go_ret
          exact ⟨ret_int (by rw [HE.out]; first | rw [if_pos h12] | rw [if_neg (by omega)]), below_two' HB.out hb2⟩
end Go.Proofs.YtcfcpbkeedfbpaaGreatDoor

namespace Go.Proofs.YtcfcpbkeedfbpaaGreatDoor
open Go.RowKit TermSpec EvalSpec ActSpec NamesSpec
set_option maxRecDepth 100000

/-- An act, and where its expression lies. -/
structure AP where
  a : Ac
  xA : Option Addr
  xn : Nat
  xc : Nat
def acV (p : AP) : List Value := [.string p.a.s, .bool p.a.any, .slice p.xA p.xn p.xc]
def acsV (l : List AP) : List Value := l.flatMap acV
theorem acV_length (p : AP) : (acV p).length = 3 := rfl
theorem acsV_length (l : List AP) : (acsV l).length = l.length * 3 := flat_length acV_length l
theorem acsV_append (a b : List AP) : acsV a ++ acsV b = acsV (a ++ b) := by unfold acsV; rw [List.flatMap_append]
theorem acsV_get {l : List AP} {i : Nat} {p : AP} (h : l[i]? = some p) : (acsV l)[i * 3]? = some (.string p.a.s) ∧ (acsV l)[i * 3 + 1]? = some (.bool p.a.any) ∧ (acsV l)[i * 3 + 2]? = some (.slice p.xA p.xn p.xc) :=
  ⟨flat_get (j := 0) acV_length h (by omega), flat_get (j := 1) acV_length h (by omega), flat_get (j := 2) acV_length h (by omega)⟩
/-- The value is a slice of these acts. -/
def Acs (w : World) (v : Value) (l : List Ac) : Prop := ∃ ps : List AP, ps.map (·.a) = l ∧ Rdk 3 w v l.length (acsV ps) ∧ ∀ p ∈ ps, Tms w (.slice p.xA p.xn p.xc) p.a.x
theorem Acs.keep {w w' : World} {v : Value} {l : List Ac} (h : Acs w v l) (hb : Below w.heap.size w w') : Acs w' v l := by
  obtain ⟨ps, hm, hr, hx⟩ := h
  exact ⟨ps, hm, hr.keep hb, fun p hp => (hx p hp).keep hb⟩
theorem Acs.shape {w : World} {v : Value} {l : List Ac} (h : Acs w v l) : ∃ A n c, v = .slice A n c ∧ n = l.length ∧ n ≤ c := by
  obtain ⟨ps, hm, ⟨A, c, hv, hc, _⟩, _⟩ := h
  exact ⟨A, _, c, hv, rfl, hc⟩
theorem Acs.len {w : World} {A : Option Addr} {n c : Nat} {l : List Ac} (h : Acs w (.slice A n c) l) : n = l.length ∧ n ≤ c := by
  obtain ⟨A', n', c', heq, hn, hc⟩ := h.shape
  cases heq
  exact ⟨hn, hc⟩
theorem Acs.at_ {w : World} {A : Option Addr} {n c : Nat} {l : List Ac} {i : Nat} {a : Ac} (h : Acs w (.slice A n c) l) (hi : l[i]? = some a) :
    ∃ b off xA xn xc, A = some ⟨b, off, none⟩ ∧ b < w.heap.size ∧ Tms w (.slice xA xn xc) a.x ∧ w.cell? ⟨b, off + i * 3, none⟩ = some (.string a.s) ∧ w.cell? ⟨b, off + i * 3 + 1, none⟩ = some (.bool a.any) ∧ w.cell? ⟨b, off + i * 3 + 2, none⟩ = some (.slice xA xn xc) := by
  obtain ⟨ps, hm, ⟨A', c', heq, hc, hl, hA⟩, hx⟩ := h
  cases heq
  subst hm
  have := get_lt hi
  obtain ⟨b, off, rfl, hb, hcell⟩ := hA (by omega)
  rw [List.getElem?_map] at hi
  cases hp : ps[i]? with
  | none => rw [hp] at hi; cases hi
  | some p =>
    rw [hp] at hi
    cases hi
    obtain ⟨g0, g1, g2⟩ := acsV_get hp
    exact ⟨b, off, p.xA, p.xn, p.xc, rfl, hb, hx p (List.mem_of_getElem? hp), hcell _ _ g0, by rw [Nat.add_assoc]; exact hcell _ _ g1, by rw [Nat.add_assoc]; exact hcell _ _ g2⟩
/-- Texts that fit. -/
def SmallA (a : Ac) : Prop := a.s.size ≤ 9223372036854775807 ∧ Small a.x ∧ a.x.length ≤ 4398046511104

theorem oneA_name {a : Ac} (h : isName a.s.data.toList = false) : oneA a = 1 := by unfold oneA; rw [if_pos h]
theorem oneA_expr {a : Ac} (h : isName a.s.data.toList = true) (h2 : a.any = false) : oneA a = chk a.x := by unfold oneA; rw [if_neg (by simp [h]), if_pos h2]
theorem oneA_any {a : Ac} (h : isName a.s.data.toList = true) (h2 : a.any = true) : oneA a = if a.x.length = 0 then 0 else 1 := by unfold oneA; rw [if_neg (by simp [h]), if_neg (by simp [h2])]

set_option maxHeartbeats 1000000 in
theorem rone_act (a : Ac) (A : Option Addr) (n c : Nat) (hs : SmallA a) (w : World) (h : Tms w (.slice A n c) a.x) :
    Calls Tryz.prog 29 #[.agg #[.string a.s, .bool a.any, .slice A n c]] w (RetI w (oneA a)) := by
  obtain ⟨A', n', c', heq, hn, hnc⟩ := h.shape
  cases heq
  have HIS := Lib.hid (fun w => ris_any a.s w hs.1)
  have HC := Lib.hid (fun w h => rcheck_any A n c a.x hn (by have := hs.2.2; omega) hs.2.1 w h)
  have HT := Lib.hid h
  obtain ⟨q, hq⟩ : ∃ q, q = isName a.s.data.toList := ⟨_, rfl⟩
  rw [← hq] at HIS
  obtain ⟨r, hr⟩ : ∃ r, r = oneA a := ⟨_, rfl⟩
  rw [← hr]
  rcases hb : q with _ | _
  · rw [hb] at HIS hq
    have HR := Lib.hid (hr.trans (oneA_name hq.symm))
    obtain ⟨s, any, x⟩ := a
    simp only at HIS HC HT hn ⊢
    clear hs h hq hr hb hn
    go_enter Tryz.func29, Tryz.ntmps29
    go_wp2_with (go_at_call 51; (with_reducible refine (HIS.out _).mono ?_))
    rintro e2 w2 ⟨rfl, hb2⟩
    have HB2 := Lib.hid (below_two' (KitC.below_one _ _) hb2)
    clear hb2
    go_wp2_with fail
    go_ret
    exact ⟨ret_int HR.out.symm, HB2.out⟩
  · rw [hb] at HIS hq
    rcases ha : a.any with _ | _
    · have HR := Lib.hid (hr.trans (oneA_expr hq.symm ha))
      obtain ⟨s, any, x⟩ := a
      simp only at HIS HC HT HR hn ha ⊢
      subst ha
      obtain ⟨m, hm⟩ : ∃ m, m = chk x := ⟨_, rfl⟩
      rw [← hm] at HR HC
      clear hs h hq hr hb hn hm
      go_enter Tryz.func29, Tryz.ntmps29
      go_wp2_with (go_at_call 51; (with_reducible refine (HIS.out _).mono ?_))
      rintro e2 w2 ⟨rfl, hb2⟩
      obtain ⟨B2, hbb, _⟩ := KitC.one_block hb2
      have HB2 := Lib.hid hbb
      obtain ⟨c0, c1, c2⟩ := cells_3 B2
      clear hb2 hbb B2
      go_wp2_with (go_at_call 52; (with_reducible refine (HC.out _ (HT.out.keep HB2.out)).mono ?_))
      rintro e2 w3 ⟨rfl, hb3⟩
      have HB3 := Lib.hid (below_two' HB2.out hb3)
      clear hb3
      go_wp2_with fail
      go_ret
      exact ⟨ret_int HR.out.symm, HB3.out⟩
    · have HR0 := Lib.hid (hr.trans (oneA_any hq.symm ha))
      rw [← hn] at HR0
      obtain ⟨s, any, x⟩ := a
      simp only at HIS HC HT hn ha ⊢
      subst ha
      by_cases h0 : n = 0
      · have HR : Hid (r = 0) := Lib.hid (by rw [HR0.out, if_pos h0])
        have g : decide (0 < n) = false := by simp; omega
        clear hs h hq hr hb hn h0 HR0
        go_enter Tryz.func29, Tryz.ntmps29
        go_wp2_with (go_at_call 51; (with_reducible refine (HIS.out _).mono ?_))
        rintro e2 w2 ⟨rfl, hb2⟩
        obtain ⟨B2, hbb, _⟩ := KitC.one_block hb2
        have HB2 := Lib.hid hbb
        obtain ⟨c0, c1, c2⟩ := cells_3 B2
        clear hb2 hbb B2
        go_wp2_with fail
        go_ret
        exact ⟨ret_int HR.out.symm, HB2.out⟩
      · have HR : Hid (r = 1) := Lib.hid (by rw [HR0.out, if_neg h0])
        have g : decide (0 < n) = true := by simp; omega
        clear hs h hq hr hb hn h0 HR0
        go_enter Tryz.func29, Tryz.ntmps29
        go_wp2_with (go_at_call 51; (with_reducible refine (HIS.out _).mono ?_))
        rintro e2 w2 ⟨rfl, hb2⟩
        obtain ⟨B2, hbb, _⟩ := KitC.one_block hb2
        have HB2 := Lib.hid hbb
        obtain ⟨c0, c1, c2⟩ := cells_3 B2
        clear hb2 hbb B2
        go_wp2_with fail
        go_ret
        exact ⟨ret_int HR.out.symm, HB2.out⟩
end Go.Proofs.YtcfcpbkeedfbpaaGreatDoor

namespace Go.Proofs.YtcfcpbkeedfbpaaGreatDoor
open Go.RowKit Go.Sort TermSpec EvalSpec ActSpec
set_option maxRecDepth 100000

def v4V (x : V4) : List Value := [.int .i64 x.a, .int .i64 x.b, .int .i64 x.c, .int .i64 x.d]
def v4sV (l : List V4) : List Value := l.flatMap v4V
theorem v4V_length (x : V4) : (v4V x).length = 4 := rfl
theorem v4sV_length (l : List V4) : (v4sV l).length = l.length * 4 := flat_length v4V_length l
theorem v4V_one (x : V4) : ∀ u ∈ v4V x, u.oneCell' = true := by simp [v4V, Value.oneCell']
theorem v4sV_one (l : List V4) : ∀ u ∈ v4sV l, u.oneCell' = true := by
  intro u hu
  obtain ⟨t, _, h⟩ := List.mem_flatMap.1 hu
  exact v4V_one t u h
theorem v4sV_append (a b : List V4) : v4sV a ++ v4sV b = v4sV (a ++ b) := by unfold v4sV; rw [List.flatMap_append]
theorem v4sV_get {l : List V4} {i : Nat} {x : V4} (h : l[i]? = some x) : (v4sV l)[i * 4]? = some (.int .i64 x.a) ∧ (v4sV l)[i * 4 + 1]? = some (.int .i64 x.b) ∧ (v4sV l)[i * 4 + 2]? = some (.int .i64 x.c) ∧ (v4sV l)[i * 4 + 3]? = some (.int .i64 x.d) :=
  ⟨flat_get (j := 0) v4V_length h (by omega), flat_get (j := 1) v4V_length h (by omega), flat_get (j := 2) v4V_length h (by omega), flat_get (j := 3) v4V_length h (by omega)⟩
abbrev v4A (x : V4) : Value := .agg #[.int .i64 x.a, .int .i64 x.b, .int .i64 x.c, .int .i64 x.d]
/-- The value is a slice of these lists of values. -/
def V4s (w : World) (v : Value) (l : List V4) : Prop := ∃ n, n = l.length ∧ Rdk 4 w v n (v4sV l)
theorem V4s.keep {w w' : World} {v : Value} {l : List V4} (h : V4s w v l) (hb : Below w.heap.size w w') : V4s w' v l := by
  obtain ⟨n, hn, h⟩ := h
  exact ⟨n, hn, h.keep hb⟩
theorem V4s.shape {w : World} {v : Value} {l : List V4} (h : V4s w v l) : ∃ A n c, v = .slice A n c ∧ n = l.length ∧ n ≤ c := by
  obtain ⟨n, hn, A, c, hv, hc, _⟩ := h
  exact ⟨A, n, c, hv, hn, hc⟩
theorem V4s.rdk {w : World} {A : Option Addr} {n c : Nat} {l : List V4} (h : V4s w (.slice A n c) l) : Rdk 4 w (.slice A n c) l.length (v4sV l) := by
  obtain ⟨m, hm, hR⟩ := h
  rw [← hm]; exact hR
theorem V4s.rdk' {w : World} {v : Value} {l : List V4} (h : V4s w v l) : Rdk 4 w v l.length (v4sV l) := by
  obtain ⟨m, hm, hR⟩ := h
  rw [← hm]; exact hR
theorem V4s.at_ {w : World} {A : Option Addr} {n c : Nat} {l : List V4} {i : Nat} {x : V4} (h : V4s w (.slice A n c) l) (hi : l[i]? = some x) :
    ∃ b off, A = some ⟨b, off, none⟩ ∧ b < w.heap.size ∧ w.cell? ⟨b, off + i * 4, none⟩ = some (.int .i64 x.a) ∧ w.cell? ⟨b, off + i * 4 + 1, none⟩ = some (.int .i64 x.b) ∧ w.cell? ⟨b, off + i * 4 + 2, none⟩ = some (.int .i64 x.c) ∧ w.cell? ⟨b, off + i * 4 + 3, none⟩ = some (.int .i64 x.d) := by
  obtain ⟨m, hm, A', c', heq, hc, hl, hA⟩ := h
  cases heq
  have := get_lt hi
  obtain ⟨b, off, rfl, hb, hcell⟩ := hA (by omega)
  obtain ⟨g0, g1, g2, g3⟩ := v4sV_get hi
  exact ⟨b, off, rfl, hb, hcell _ _ g0, by rw [Nat.add_assoc]; exact hcell _ _ g1, by rw [Nat.add_assoc]; exact hcell _ _ g2, by rw [Nat.add_assoc]; exact hcell _ _ g3⟩

def LessRel (x y : V4) (i : Value) (W w : World) : Prop := ∃ k : Nat, k ≤ 4 ∧ i = .int .i64 k ∧ (∀ j, j < k → x.get j = y.get j) ∧ Below W.heap.size W w
theorem lessV_at {x y : V4} {k : Nat} (hk : k < 4) (h : ∀ j, j < k → x.get j = y.get j) (hne : x.get k ≠ y.get k) : lessV x y = decide (x.get k < y.get k) := by
  unfold lessV
  rcases (show k = 0 ∨ k = 1 ∨ k = 2 ∨ k = 3 by omega) with rfl | rfl | rfl | rfl
  · rw [if_pos (show x.a ≠ y.a from hne)]; rfl
  · rw [if_neg (by have : x.a = y.a := h 0 (by omega); simp [this]), if_pos (show x.b ≠ y.b from hne)]; rfl
  · rw [if_neg (by have : x.a = y.a := h 0 (by omega); simp [this]), if_neg (by have : x.b = y.b := h 1 (by omega); simp [this]), if_pos (show x.c ≠ y.c from hne)]; rfl
  · rw [if_neg (by have : x.a = y.a := h 0 (by omega); simp [this]), if_neg (by have : x.b = y.b := h 1 (by omega); simp [this]), if_neg (by have : x.c = y.c := h 2 (by omega); simp [this])]; rfl
theorem lessV_same {x y : V4} (h : ∀ j, j < 4 → x.get j = y.get j) : lessV x y = false := by
  have : x = y := by
    obtain ⟨a, b, c, d⟩ := x
    obtain ⟨a', b', c', d'⟩ := y
    have h0 : a = a' := h 0 (by omega)
    have h1 : b = b' := h 1 (by omega)
    have h2 : c = c' := h 2 (by omega)
    have h3 : d = d' := h 3 (by omega)
    rw [h0, h1, h2, h3]
  rw [this]
  exact lessV_irr y
theorem v4_cell {w : World} {b : Nat} {T : TypeId} {x : V4} (h : w.heap[b]? = some (.cells #[.int .i64 x.a, .int .i64 x.b, .int .i64 x.c, .int .i64 x.d] T (0, 0))) {k : Nat} (hk : k < 4) : w.cell? ⟨b, 0 + k, none⟩ = some (.int .i64 (x.get k)) := by
  obtain ⟨h0, h1, h2, h3⟩ := cells_4 h
  rcases (show k = 0 ∨ k = 1 ∨ k = 2 ∨ k = 3 by omega) with rfl | rfl | rfl | rfl
  · exact h0
  · exact h1
  · exact h2
  · exact h3
set_option maxHeartbeats 1000000 in
theorem rless_any (x y : V4) (w : World) : Calls Tryz.prog 25 #[v4A x, v4A y] w (RetB w (lessV x y)) := by
  have HB := Lib.hid (KitC.below_pair w (.cells #[.int .i64 x.a, .int .i64 x.b, .int .i64 x.c, .int .i64 x.d] 51) (.cells #[.int .i64 y.a, .int .i64 y.b, .int .i64 y.c, .int .i64 y.d] 51))
  obtain ⟨B1, B2, _, _⟩ := KitC.pair_blocks (Below.refl ((w.alloc (.cells #[.int .i64 x.a, .int .i64 x.b, .int .i64 x.c, .int .i64 x.d] 51)).alloc (.cells #[.int .i64 y.a, .int .i64 y.b, .int .i64 y.c, .int .i64 y.d] 51)).heap.size ((w.alloc (.cells #[.int .i64 x.a, .int .i64 x.b, .int .i64 x.c, .int .i64 x.d] 51)).alloc (.cells #[.int .i64 y.a, .int .i64 y.b, .int .i64 y.c, .int .i64 y.d] 51)))
  obtain ⟨w1, hw1⟩ : ∃ w1, (w.alloc (.cells #[.int .i64 x.a, .int .i64 x.b, .int .i64 x.c, .int .i64 x.d] 51)).alloc (.cells #[.int .i64 y.a, .int .i64 y.b, .int .i64 y.c, .int .i64 y.d] 51) = w1 := ⟨_, rfl⟩
  rw [hw1] at HB B1 B2
  have HB1 := Lib.hid B1
  have HB2 := Lib.hid B2
  have HW := Lib.hid hw1
  clear hw1 B1 B2
  go_enter Tryz.func25, Tryz.ntmps25
  go_wp2_with fail
  rw [HW.out]
  go_loopw [5] (fun i wr => LessRel x y i w1 wr) (fun i _ => 4 - (intOf i).toNat)
  case atStart => exact ⟨0, Nat.zero_le _, rfl, by simp, Below.refl _ _⟩
  case round =>
    obtain ⟨k, hk, rfl, hsame, hbw⟩ := hrel
    have HSAME := Lib.hid hsame
    have HBW := Lib.hid hbw
    by_cases hlt : k < 4
    · have c1 := v4_cell (KitC.block_on HB1.out hbw) hlt
      have c2 := v4_cell (KitC.block_on HB2.out hbw) hlt
      rw [Nat.zero_add] at c1 c2
      obtain ⟨p, hp⟩ : ∃ p, p = x.get k := ⟨_, rfl⟩
      obtain ⟨q, hq⟩ : ∃ q, q = y.get k := ⟨_, rfl⟩
      rw [← hp] at c1
      rw [← hq] at c2
      have HP := Lib.hid hp
      have HQ := Lib.hid hq
      have hkI : (k : Int) < 4 := by omega
      clear hp hq hsame hbw
      by_cases hpq : p = q
      · have g : (p != q) = false := by simp [hpq]
        have HE := Lib.hid hpq
        clear hpq
        go_wp2_with fail
        go_big_quiet (fail)
        go_wp2_with fail
        go_roundw
        case rel =>
          refine ⟨k + 1, by omega, by go_num, fun j hj => ?_, below_drewN HBW.out _⟩
          rcases Nat.lt_or_ge j k with h | h
          · exact HSAME.out j h
          · rw [show j = k by omega, ← HP.out, ← HQ.out]; exact HE.out
        case measure => simp [intOf]; omega
      · have g : (p != q) = true := by simp [hpq]
        have HL : Hid (lessV x y = decide (p < q)) := Lib.hid (by rw [HP.out, HQ.out]; exact lessV_at hlt HSAME.out (by rw [← HP.out, ← HQ.out]; exact hpq))
        clear hpq
        go_wp2_with fail
        go_big_quiet (fail)
        go_wp2_with fail
        go_big_quiet (fail)
        go_wp2_with fail
        go_ret
        exact ⟨ret_bool HL.out.symm, below_two' HB.out (below_drewN (below_drewN HBW.out _) _)⟩
    · have HL : Hid (lessV x y = false) := Lib.hid (lessV_same fun j hj => HSAME.out j (by omega))
      have hkI : ¬ (k : Int) < 4 := by omega
      clear hsame hbw
      go_wp2_with fail
      go_ret
      exact ⟨ret_bool HL.out.symm, below_two' HB.out HBW.out⟩
end Go.Proofs.YtcfcpbkeedfbpaaGreatDoor

namespace Go.Proofs.YtcfcpbkeedfbpaaGreatDoor
open Go.RowKit TermSpec EvalSpec ActSpec NamesSpec Go.Lib

theorem varOf_none {e : Ev} {a : Ac} (h : varOf e a = none) : idxOfS (vnames e) a.s = -1 := by
  by_cases hm : a.s ∈ vnames e
  · obtain ⟨k, h1, h2⟩ := first_at hm
    unfold varOf at h
    have hk := get_lt h1
    rw [vnames_length] at hk
    simp only [place_hit h1 h2] at h
    rw [if_neg (by omega), Int.toNat_natCast, List.getElem?_eq_getElem hk] at h
    cases h
  · exact place_miss hm
theorem varOf_some {e : Ev} {a : Ac} {i : Nat} {v : Vr} (h : varOf e a = some (i, v)) : idxOfS (vnames e) a.s = i ∧ e.vars[i]? = some v := by
  refine ⟨?_, varOf_lt h⟩
  unfold varOf at h
  simp only at h
  split at h
  · cases h
  · rename_i hp
    cases hv : e.vars[(idxOfS (vnames e) a.s).toNat]? with
    | none => rw [hv] at h; cases h
    | some u => rw [hv] at h; cases h; omega
theorem badA_none {e : Ev} {a : Ac} (h : varOf e a = none) : badA e a = 7 := by unfold badA; rw [h]
theorem badA_any {e : Ev} {a : Ac} {i : Nat} {v : Vr} (h : varOf e a = some (i, v)) (ha : a.any = true) : badA e a = if spanB v then 0 else 1 := by unfold badA; rw [h]; simp only; rw [if_pos ha]
theorem badA_chk {e : Ev} {a : Ac} {i : Nat} {v : Vr} (h : varOf e a = some (i, v)) (ha : a.any = false) (hc : chkE e a.x ≠ 0) : badA e a = chkE e a.x := by unfold badA; rw [h]; simp only; rw [if_neg (by simp [ha]), if_pos hc]
theorem badA_typ {e : Ev} {a : Ac} {i : Nat} {v : Vr} (h : varOf e a = some (i, v)) (ha : a.any = false) (hc : chkE e a.x = 0) : badA e a = if typ a.x = 1 then 0 else 4 := by unfold badA; rw [h]; simp only; rw [if_neg (by simp [ha]), if_neg (by simp [hc])]
/-- What an act answers: lists, and what is told. -/
def RetVE (W : World) (p : Int × List V4) (e : Ending) (w' : World) : Prop := ∃ v, e = .returned (.tuple #[v, .int .i64 p.1]) ∧ V4s w' v p.2 ∧ Below W.heap.size W w'
theorem v4s_nil (w : World) : V4s w (.slice none 0 0) [] := ⟨0, rfl, Rdk.nil 4 w⟩

/-- Bounds that are ints. -/
def VFit (v : Vr) : Prop := -9223372036854775808 ≤ v.lo ∧ v.lo ≤ 9223372036854775807 ∧ -9223372036854775808 ≤ v.hi ∧ v.hi ≤ 9223372036854775807
theorem u64_span {lo hi : Int} (h1 : -9223372036854775808 ≤ lo) (h2 : hi ≤ 9223372036854775807) (h : lo ≤ hi) : IntKind.u64.wrap (IntKind.u64.wrap hi - IntKind.u64.wrap lo) = hi - lo := by
  simp only [IntKind.wrap_u64]
  omega
end Go.Proofs.YtcfcpbkeedfbpaaGreatDoor
