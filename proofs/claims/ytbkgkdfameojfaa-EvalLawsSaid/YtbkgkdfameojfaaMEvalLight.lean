/- EvalLight, joined. -/
import Derived.Test.YtbkgkdfameojfaaMEvalCheck
namespace Go.Proofs.Ytbkgkdfameojfaa
open Go.RowKit TermSpec EvalSpec
set_option maxRecDepth 100000

def shortS (s : ByteArray) : Bool := decide (s.size ≤ 100)
def lightE (e : Ev) (l : List Tm) : Bool := (decide (l.length ≤ 60) && decide (e.vars.length ≤ 20) && decide (e.ins.length ≤ 80)) && (l.all (fun t => shortS t.s) && (e.ins.all shortS && e.vars.all (fun v => shortS v.s)))
theorem all_stop' {α : Type} {f : α → Bool} {l : List α} {k : Nat} {x : α} (h : l[k]? = some x) (hx : f x = false) : l.all f = false := by
  rw [List.all_eq_false]
  exact ⟨x, List.mem_of_getElem? h, by simp [hx]⟩
theorem all_next' {α : Type} {f : α → Bool} {l : List α} {k : Nat} {x : α} (h : l[k]? = some x) (hx : f x = true) (h0 : (l.take k).all f = true) : (l.take (k + 1)).all f = true := by
  rw [take_next h, List.all_append, h0]; simp [hx]
theorem all_end' {α : Type} {f : α → Bool} {l : List α} {k : Nat} (h : l.length ≤ k) (h0 : (l.take k).all f = true) : l.all f = true := by rwa [List.take_of_length_le h] at h0
theorem light_parts {e : Ev} {l : List Tm} (h : lightE e l = true) : l.length ≤ 60 ∧ e.vars.length ≤ 20 ∧ e.ins.length ≤ 80 ∧ (∀ t ∈ l, t.s.size ≤ 100) := by
  unfold lightE at h
  simp only [Bool.and_eq_true, decide_eq_true_eq, List.all_eq_true, shortS] at h
  exact ⟨h.1.1.1, h.1.1.2, h.1.2, h.2.1⟩

theorem light_big (p : EP) (e : Ev) (A : Option Addr) (n c : Nat) (l : List Tm) (hn : n = l.length) (w : World) (he : EnvIn w p e) (hb : 60 < n ∨ 20 < e.vars.length ∨ 80 < e.ins.length) :
    Calls Try.prog 5 #[.slice A n c, envV p e] w (RetB w (lightE e l)) := by
  have HR : Hid (lightE e l = false) := Lib.hid (by
    unfold lightE
    rcases hb with h | h | h
    · rw [show decide (l.length ≤ 60) = false by simp; omega]; simp
    · rw [show decide (e.vars.length ≤ 20) = false by simp; omega]; simp
    · rw [show decide (e.ins.length ≤ 80) = false by simp; omega]; simp)
  have hv := he.vars.1
  have hi := he.ins.strs
  obtain ⟨vA, vn, vc, iA, im, ic⟩ := p
  obtain ⟨A', n', c', heq, hi, _, _⟩ := hi
  cases heq
  simp only at hv hi
  obtain ⟨r, hr⟩ : ∃ r, r = lightE e l := ⟨_, rfl⟩
  rw [← hr] at HR ⊢
  have hb' : 60 < (n : Int) ∨ (¬ 60 < (n : Int) ∧ 20 < (vn : Int)) ∨ (¬ 60 < (n : Int) ∧ ¬ 20 < (vn : Int) ∧ 80 < (im : Int)) := by omega
  obtain ⟨vars, v0, v1, v2, v3, ins⟩ := e
  change Calls _ _ #[.slice A n c, .agg #[.slice vA vn vc, .int .i64 v0, .int .i64 v1, .int .i64 v2, .int .i64 v3, .slice iA im ic]] _ _
  clear hr he hb hv hi hn
  rcases hb' with h | ⟨h, h'⟩ | ⟨h, h', h''⟩
  · have g : decide (60 < (n : Int)) = true := by simp; omega
    go_enter Try.func5, Try.ntmps5
    go_wp2_with fail
    go_ret
    exact ⟨ret_bool HR.out.symm, KitC.below_one _ _⟩
  · have g : decide (60 < (n : Int)) = false := by simp; omega
    have g2 : decide (20 < (vn : Int)) = true := by simp; omega
    go_enter Try.func5, Try.ntmps5
    go_wp2_with fail
    go_ret
    exact ⟨ret_bool HR.out.symm, KitC.below_one _ _⟩
  · have g : decide (60 < (n : Int)) = false := by simp; omega
    have g2 : decide (20 < (vn : Int)) = false := by simp; omega
    have g3 : decide (80 < (im : Int)) = true := by simp; omega
    go_enter Try.func5, Try.ntmps5
    go_wp2_with fail
    go_ret
    exact ⟨ret_bool HR.out.symm, KitC.below_one _ _⟩
set_option maxHeartbeats 4000000 in
theorem light_few' (p : EP) (e : Ev) (A : Option Addr) (n c : Nat) (l : List Tm) (hn : n = l.length) (w : World) (h : Tms w (.slice A n c) l) (he : EnvIn w p e) (hb : n ≤ 60 ∧ e.vars.length ≤ 20 ∧ e.ins.length ≤ 80) :
    Calls Try.prog 5 #[.slice A n c, envV p e] w (RetB w (lightE e l)) := by
  have HR : Hid (lightE e l = (l.all (fun t => shortS t.s) && (e.ins.all shortS && e.vars.all (fun v => shortS v.s)))) := Lib.hid (by
    unfold lightE
    rw [show decide (l.length ≤ 60) = true by simp; omega, show decide (e.vars.length ≤ 20) = true by simp; omega, show decide (e.ins.length ≤ 80) = true by simp; omega]
    simp)
  have hv := he.vars.1
  have hi := he.ins.strs
  have HT := Lib.hid (h.keep (KitC.below_one w (envO p e)))
  have HV := Lib.hid (he.vars.keep (KitC.below_one w (envO p e)))
  have HI := Lib.hid (he.ins.alloc (envO p e)).strs
  obtain ⟨vA, vn, vc, iA, im, ic⟩ := p
  obtain ⟨A', n', c', heq, hi, _, _⟩ := hi
  cases heq
  simp only at hv hi
  obtain ⟨r, hr⟩ : ∃ r, r = lightE e l := ⟨_, rfl⟩
  rw [← hr] at HR ⊢
  have HN := Lib.hid hn
  have HVN := Lib.hid hv
  have HIN := Lib.hid hi
  obtain ⟨hb1, hb2, hb3⟩ := hb
  have hb2' : vn ≤ 20 := by omega
  have hb3' : im ≤ 80 := by omega
  have g : decide (60 < (n : Int)) = false := by simp; omega
  have g2 : decide (20 < (vn : Int)) = false := by simp; omega
  have g3 : decide (80 < (im : Int)) = false := by simp; omega
  have hcap := h.cap
  obtain ⟨vars, v0, v1, v2, v3, ins⟩ := e
  simp only at HVN HIN HT HV HI HR
  change Calls _ _ #[.slice A n c, .agg #[.slice vA vn vc, .int .i64 v0, .int .i64 v1, .int .i64 v2, .int .i64 v3, .slice iA im ic]] _ _
  obtain ⟨W1, hW1⟩ : ∃ W1, w.alloc (.cells #[.slice vA vn vc, .int .i64 v0, .int .i64 v1, .int .i64 v2, .int .i64 v3, .slice iA im ic] 27) = W1 := ⟨_, rfl⟩
  have hBk := heap_alloc_new w (.cells #[.slice vA vn vc, .int .i64 v0, .int .i64 v1, .int .i64 v2, .int .i64 v3, .slice iA im ic] 27)
  have hBl := KitC.below_one w (.cells #[.slice vA vn vc, .int .i64 v0, .int .i64 v1, .int .i64 v2, .int .i64 v3, .slice iA im ic] 27)
  change Hid (Tms (w.alloc (.cells #[.slice vA vn vc, .int .i64 v0, .int .i64 v1, .int .i64 v2, .int .i64 v3, .slice iA im ic] 27)) _ _) at HT
  change Hid (VarsIn (w.alloc (.cells #[.slice vA vn vc, .int .i64 v0, .int .i64 v1, .int .i64 v2, .int .i64 v3, .slice iA im ic] 27)) _ _ _ _) at HV
  rw [hW1] at HT HV hBk hBl
  have HI' : Hid (0 < im → ∃ b off, iA = some ⟨b, off, none⟩ ∧ b < W1.heap.size ∧ ∀ (j : Nat) (s : ByteArray), ins[j]? = some s → W1.cell? ⟨b, off + j, none⟩ = some (.string s)) := Lib.hid (by
    obtain ⟨A', n', c', heq, _, _, hA⟩ := HI.out
    cases heq
    rw [← hW1]
    exact hA)
  obtain ⟨z0, z1, z2, z3, z4, z5⟩ := cells_6 hBk
  have HBL := Lib.hid hBl
  have HW1 := Lib.hid hW1
  clear HI hr he hn hv hi h hb2 hb3 hBk hBl hW1
  go_enter Try.func5, Try.ntmps5
  go_wp2_with fail
  rw [HW1.out]
  go_loop [5] (fun i => ∃ k : Nat, k ≤ n ∧ i = .int .i64 k ∧ Hid ((l.take k).all (fun t => shortS t.s) = true)) (fun i => n - (intOf i).toNat)
  case atStart => exact ⟨0, Nat.zero_le _, rfl, Lib.hid rfl⟩
  case round =>
    obtain ⟨k, hk, rfl, HO⟩ := hrel
    by_cases hlt : k < n
    · obtain ⟨t, ht⟩ : ∃ t, l[k]? = some t := get_some (by have := HN.out; omega)
      obtain ⟨b, off, rfl, hb, c0, c1, c2⟩ := HT.out.at_ ht
      have HX := Lib.hid ht
      have hlt' : (k : Int) < n := by omega
      clear ht c0 c1
      by_cases hs : t.s.size ≤ 100
      · have HS : Hid (shortS t.s = true) := Lib.hid (by simp [shortS, hs])
        have gs : ¬ 100 < (t.s.size : Int) := by omega
        go_wp2_with fail
        go_round
        case rel => exact ⟨k + 1, by omega, by go_num, Lib.hid (all_next' HX.out HS.out HO.out)⟩
        case measure => simp [intOf]; omega
      · have HS : Hid (shortS t.s = false) := Lib.hid (by simp [shortS]; omega)
        have gs : 100 < (t.s.size : Int) := by omega
        clear hs
        go_wp2_with fail
        go_ret
        exact ⟨ret_bool (by rw [HR.out, all_stop' HX.out HS.out]; simp), HBL.out⟩
    · have HL : Hid (l.all (fun t => shortS t.s) = true) := Lib.hid (all_end' (by have := HN.out; omega) HO.out)
      clear HO
      have hge : ¬ (k : Int) < n := by omega
      go_wp2_with fail
      go_loop [6] (fun i => ∃ k : Nat, k ≤ im ∧ i = .int .i64 k ∧ Hid ((ins.take k).all shortS = true)) (fun i => im - (intOf i).toNat)
      case atStart => exact ⟨0, Nat.zero_le _, rfl, Lib.hid rfl⟩
      case round =>
        obtain ⟨j, hj, rfl, HO⟩ := hrel
        by_cases hlt2 : j < im
        · obtain ⟨s, hs0⟩ : ∃ s, ins[j]? = some s := get_some (by have := HIN.out; omega)
          obtain ⟨b, off, rfl, hb, hcell⟩ := HI'.out (by omega)
          have c0 := hcell j s hs0
          have HX := Lib.hid hs0
          have hlt' : (j : Int) < im := by omega
          clear hs0 hcell
          by_cases hs : s.size ≤ 100
          · have HS : Hid (shortS s = true) := Lib.hid (by simp [shortS, hs])
            have gs : ¬ 100 < (s.size : Int) := by omega
            go_wp2_with fail
            go_round
            case rel => exact ⟨j + 1, by omega, by go_num, Lib.hid (all_next' HX.out HS.out HO.out)⟩
            case measure => simp [intOf]; omega
          · have HS : Hid (shortS s = false) := Lib.hid (by simp [shortS]; omega)
            have gs : 100 < (s.size : Int) := by omega
            clear hs
            go_wp2_with fail
            go_ret
            exact ⟨ret_bool (by rw [HR.out, all_stop' HX.out HS.out]; simp), HBL.out⟩
        · have HL2 : Hid (ins.all shortS = true) := Lib.hid (all_end' (by have := HIN.out; omega) HO.out)
          clear HO
          have hge2 : ¬ (j : Int) < im := by omega
          go_wp2_with fail
          go_loop [7] (fun i => ∃ k : Nat, k ≤ vn ∧ i = .int .i64 k ∧ Hid ((vars.take k).all (fun v => shortS v.s) = true)) (fun i => vn - (intOf i).toNat)
          case atStart => exact ⟨0, Nat.zero_le _, rfl, Lib.hid rfl⟩
          case round =>
            obtain ⟨m, hm, rfl, HO⟩ := hrel
            by_cases hlt3 : m < vn
            · obtain ⟨v, hv0⟩ : ∃ v, vars[m]? = some v := get_some (by have := HVN.out; omega)
              obtain ⟨b, off, rfl, hb, c0, -, -, -⟩ := HV.out.at_ hv0
              have HX := Lib.hid hv0
              have hlt' : (m : Int) < vn := by omega
              clear hv0
              by_cases hs : v.s.size ≤ 100
              · have HS : Hid (shortS v.s = true) := Lib.hid (by simp [shortS, hs])
                have gs : ¬ 100 < (v.s.size : Int) := by omega
                go_wp2_with fail
                go_round
                case rel => exact ⟨m + 1, by omega, by go_num, Lib.hid (all_next' (f := fun v : Vr => shortS v.s) HX.out HS.out HO.out)⟩
                case measure => simp [intOf]; omega
              · have HS : Hid (shortS v.s = false) := Lib.hid (by simp [shortS]; omega)
                have gs : 100 < (v.s.size : Int) := by omega
                clear hs
                go_wp2_with fail
                go_ret
                exact ⟨ret_bool (by rw [HR.out, all_stop' (f := fun v : Vr => shortS v.s) HX.out HS.out]; simp), HBL.out⟩
            · have HL3 : Hid (vars.all (fun v => shortS v.s) = true) := Lib.hid (all_end' (by have := HVN.out; omega) HO.out)
              clear HO
              have hge3 : ¬ (m : Int) < vn := by omega
              go_wp2_with fail
              go_ret
              exact ⟨ret_bool (by rw [HR.out, HL.out, HL2.out, HL3.out]; rfl), HBL.out⟩
theorem elight_any (p : EP) (e : Ev) (A : Option Addr) (n c : Nat) (l : List Tm) (hn : n = l.length) (w : World) (h : Tms w (.slice A n c) l) (he : EnvIn w p e) :
    Calls Try.prog 5 #[.slice A n c, envV p e] w (RetB w (lightE e l)) := by
  by_cases hb : n ≤ 60 ∧ e.vars.length ≤ 20 ∧ e.ins.length ≤ 80
  · exact light_few' p e A n c l hn w h he hb
  · exact light_big p e A n c l hn w he (by omega)
end Go.Proofs.Ytbkgkdfameojfaa
