/- EvalMem, joined. -/
import Derived.Test.YtbkgkdfameojfaaMEvalOps
import Derived.Test.YtbkgkdfameojfaaMKitC
namespace Go.Proofs.Ytbkgkdfameojfaa
open Go.RowKit TermSpec EvalSpec NamesSpec Go.Lib
set_option maxRecDepth 100000

/-- Where an Env's lists lie. -/
structure EP where
  vA : Option Addr
  vn : Nat
  vc : Nat
  iA : Option Addr
  im : Nat
  ic : Nat
def vrV (v : Vr) : List Value := [.string v.s, .int .i64 v.lo, .int .i64 v.hi, .int .i64 v.ini]
def vrsV (l : List Vr) : List Value := l.flatMap vrV
theorem vrV_length (v : Vr) : (vrV v).length = 4 := rfl
theorem vrsV_get {l : List Vr} {i : Nat} {v : Vr} (h : l[i]? = some v) : (vrsV l)[i * 4]? = some (.string v.s) ∧ (vrsV l)[i * 4 + 1]? = some (.int .i64 v.lo) ∧ (vrsV l)[i * 4 + 2]? = some (.int .i64 v.hi) ∧ (vrsV l)[i * 4 + 3]? = some (.int .i64 v.ini) :=
  ⟨flat_get (j := 0) vrV_length h (by omega), flat_get (j := 1) vrV_length h (by omega), flat_get (j := 2) vrV_length h (by omega), flat_get (j := 3) vrV_length h (by omega)⟩
abbrev envV (p : EP) (e : Ev) : Value := .agg #[.slice p.vA p.vn p.vc, .int .i64 e.v0, .int .i64 e.v1, .int .i64 e.v2, .int .i64 e.v3, .slice p.iA p.im p.ic]
/-- The variables lie there. -/
def VarsIn (w : World) (A : Option Addr) (n c : Nat) (l : List Vr) : Prop := n = l.length ∧ Rdk 4 w (.slice A n c) n (vrsV l)
theorem VarsIn.keep {w w' : World} {A : Option Addr} {n c : Nat} {l : List Vr} (h : VarsIn w A n c l) (hb : Below w.heap.size w w') : VarsIn w' A n c l := ⟨h.1, h.2.keep hb⟩
theorem VarsIn.at_ {w : World} {A : Option Addr} {n c : Nat} {l : List Vr} {i : Nat} {v : Vr} (h : VarsIn w A n c l) (hi : l[i]? = some v) :
    ∃ b off, A = some ⟨b, off, none⟩ ∧ b < w.heap.size ∧ w.cell? ⟨b, off + i * 4, none⟩ = some (.string v.s) ∧ w.cell? ⟨b, off + i * 4 + 1, none⟩ = some (.int .i64 v.lo) ∧ w.cell? ⟨b, off + i * 4 + 2, none⟩ = some (.int .i64 v.hi) ∧ w.cell? ⟨b, off + i * 4 + 3, none⟩ = some (.int .i64 v.ini) := by
  obtain ⟨hn, A', c', heq, hc, hl, hA⟩ := h
  cases heq
  have := get_lt hi
  obtain ⟨b, off, rfl, hb, hcell⟩ := hA (by omega)
  obtain ⟨g0, g1, g2, g3⟩ := vrsV_get hi
  exact ⟨b, off, rfl, hb, hcell _ _ g0, by rw [Nat.add_assoc]; exact hcell _ _ g1, by rw [Nat.add_assoc]; exact hcell _ _ g2, by rw [Nat.add_assoc]; exact hcell _ _ g3⟩
theorem VarsIn.cap {w : World} {A : Option Addr} {n c : Nat} {l : List Vr} (h : VarsIn w A n c l) : n ≤ c := by
  obtain ⟨hn, A', c', heq, hc, hl, hA⟩ := h
  cases heq
  exact hc
structure EnvIn (w : World) (p : EP) (e : Ev) : Prop where
  vars : VarsIn w p.vA p.vn p.vc e.vars
  ins : Rd w (.slice p.iA p.im p.ic) (strV e.ins)
  vbd : e.vars.length ≤ 9223372036854775807
  ibd : e.ins.length ≤ 9223372036854775807
theorem EnvIn.keep {w w' : World} {p : EP} {e : Ev} (h : EnvIn w p e) (hb : Below w.heap.size w w') : EnvIn w' p e := ⟨h.vars.keep hb, h.ins.keep hb, h.vbd, h.ibd⟩
theorem vnames_get {e : Ev} {k : Nat} {v : Vr} (h : e.vars[k]? = some v) : (vnames e)[k]? = some v.s := by unfold vnames; rw [List.getElem?_map, h]; rfl
theorem vnames_length (e : Ev) : (vnames e).length = e.vars.length := by simp [vnames]

set_option maxHeartbeats 400000 in
theorem isVar_any (B : Nat) (x s : ByteArray) (lo hi ini : Int) (w : World) (hB : B < w.heap.size) (hc : w.cell? ⟨B, 0, none⟩ = some (.string s)) :
    Calls Try.prog 41 #[.agg #[.string x, .int .i64 lo, .int .i64 hi, .int .i64 ini], .pointer (some ⟨B, 0, none⟩)] w (RetB w (x.toList == s.toList)) := by
  have hc' : ∀ o, (w.alloc o).cell? ⟨B, 0, none⟩ = some (.string s) := fun o => (((Below.refl _ w).alloc (Nat.le_refl _) o).cell (p := ⟨B, 0, none⟩) hB).trans hc
  go_enter Try.func41, Try.ntmps41
  go_wp2
  go_ret
  exact ⟨rfl, (Below.refl _ _).alloc (Nat.le_refl _) _⟩

def VarRel (W : World) (e : Ev) (s : ByteArray) (n : Nat) (i : Value) (wr : World) : Prop := ∃ k : Nat, k ≤ n ∧ i = .int .i64 k ∧ s ∉ (vnames e).take k ∧ Below W.heap.size W wr
set_option maxHeartbeats 1000000 in
theorem indexFunc_any (B : Nat) (A : Option Addr) (n c : Nat) (e : Ev) (s : ByteArray) (w : World) (h : VarsIn w A n c e.vars) (hn63 : n ≤ 9223372036854775807) (hB : B < w.heap.size) (hc : w.cell? ⟨B, 0, none⟩ = some (.string s)) :
    Calls Try.prog 40 #[.slice A n c, .func (.func 41) #[] #[.pointer (some ⟨B, 0, none⟩)]] w (RetI w (idxOfS (vnames e) s)) := by
  have HV := Lib.hid h
  have HN := Lib.hid h.1
  have HC := Lib.hid hc
  have hcap := h.cap
  clear h hc
  go_enter Try.func40, Try.ntmps40
  go_wp2
  go_loopw [8] (fun i wr => VarRel w e s n i wr) (fun i _ => n - (RowKit.intOf i).toNat)
  case atStart => exact ⟨0, Nat.zero_le _, rfl, by simp, Below.refl _ _⟩
  case round =>
    obtain ⟨k, hk, rfl, hno, hbw⟩ := hrel
    have HBW := Lib.hid hbw
    have HO := Lib.hid hno
    clear hno
    by_cases hlt : k < n
    · obtain ⟨v, hv⟩ : ∃ v, e.vars[k]? = some v := get_some (by have := HN.out; omega)
      obtain ⟨b, off, rfl, hb, c0, c1, c2, c3⟩ := (HV.out.keep hbw).at_ hv
      have HX := Lib.hid (vnames_get hv)
      have HCALL := Lib.hid (isVar_any B v.s s v.lo v.hi v.ini wr (Nat.lt_of_lt_of_le hB hbw.size) ((hbw.cell (p := ⟨B, 0, none⟩) hB).trans HC.out))
      clear hv hbw
      obtain ⟨x, lo, hi, ini⟩ := v
      simp only at c0 c1 c2 c3 HX HCALL
      rcases hxs : (x.toList == s.toList) with _ | _
      · rw [hxs] at HCALL
        go_wp2_with (go_at_call 41; (with_reducible refine HCALL.out.mono ?_))
        rintro e2 w3 ⟨rfl, hb3⟩
        have HB3 := Lib.hid (below_two' HBW.out hb3)
        clear hb3
        go_wp2_with fail
        go_roundw
        case rel =>
          refine ⟨k + 1, by omega, by go_num, ?_, HB3.out⟩
          rw [take_next HX.out, List.mem_append, List.mem_singleton]
          rintro (h1 | h1)
          · exact HO.out h1
          · exact bytes_ne hxs h1.symm
        case measure => simp [RowKit.intOf]; omega
      · rw [hxs] at HCALL
        go_wp2_with (go_at_call 41; (with_reducible refine HCALL.out.mono ?_))
        rintro e2 w3 ⟨rfl, hb3⟩
        have HB3 := Lib.hid (below_two' HBW.out hb3)
        clear hb3
        go_wp2_with fail
        go_ret
        exact ⟨ret_int (by rw [← bytes_eq hxs] at HO ⊢; exact (place_hit HX.out HO.out).symm), HB3.out⟩
    · have HE : Hid (idxOfS (vnames e) s = -1) := Lib.hid (by
        have h1 := HN.out
        have h2 := HO.out
        have h3 : (vnames e).length ≤ k := by rw [vnames_length]; omega
        rw [List.take_of_length_le h3] at h2
        exact place_miss h2)
      clear hbw
      go_wp2_with fail
      go_ret
      exact ⟨ret_int HE.out.symm, HBW.out⟩

set_option maxHeartbeats 400000 in
theorem variable_any (p : EP) (e : Ev) (s : ByteArray) (w : World) (h : EnvIn w p e) : Calls Try.prog 24 #[envV p e, .string s] w (RetI w (idxOfS (vnames e) s)) := by
  have hv := h.vars
  have hbd : p.vn ≤ 9223372036854775807 := by have := h.vbd; have := hv.1; omega
  obtain ⟨vA, vn, vc, iA, im, ic⟩ := p
  obtain ⟨r, hr⟩ : ∃ r, r = idxOfS (vnames e) s := ⟨_, rfl⟩
  have HIF := Lib.hid (fun B w h => indexFunc_any B vA vn vc e s w h hbd)
  rw [← hr] at HIF ⊢
  have HV := Lib.hid hv
  obtain ⟨vars, v0, v1, v2, v3, ins⟩ := e
  change Calls _ _ #[.agg #[.slice vA vn vc, .int .i64 v0, .int .i64 v1, .int .i64 v2, .int .i64 v3, .slice iA im ic], .string s] _ _
  clear h hv hbd hr
  go_enter Try.func24, Try.ntmps24
  go_wp2_with (go_at_call 40; (with_reducible refine (HIF.out _ _ (HV.out.keep (((Below.refl _ _).alloc (Nat.le_refl _) _).alloc (by simp) _)) ?_ ?_).mono ?_))
  rintro e2 w3 ⟨rfl, hb3⟩
  go_wp2_with fail
  go_ret
  exact ⟨rfl, below_two' (KitC.below_pair _ _ _) hb3⟩

def RPlRel (W : World) (e : Ev) (s : ByteArray) (n : Nat) (i : Value) : Prop := ∃ k : Nat, k ≤ n ∧ i = .int .i64 k ∧ s ∉ (vnames e).take k
set_option maxHeartbeats 1000000 in
theorem rvariable_any (p : EP) (e : Ev) (s : ByteArray) (w : World) (h : EnvIn w p e) : Calls Try.prog 20 #[envV p e, .string s] w (RetI w (idxOfS (vnames e) s)) := by
  have HV := Lib.hid h.vars
  have HN := Lib.hid h.vars.1
  have hcap := h.vars.cap
  have hbd : p.vn ≤ 9223372036854775807 := by have := h.vbd; have := h.vars.1; omega
  obtain ⟨A, n, c, iA, im, ic⟩ := p
  obtain ⟨r, hr⟩ : ∃ r, r = idxOfS (vnames e) s := ⟨_, rfl⟩
  have HR := Lib.hid hr
  have HG : Hid (∀ (k : Nat) (v : Vr), e.vars[k]? = some v → (vnames e)[k]? = some v.s) := Lib.hid fun k v hv => vnames_get hv
  have HL := Lib.hid (vnames_length e)
  rw [← hr]
  obtain ⟨nm, hnm⟩ : ∃ nm, nm = vnames e := ⟨_, rfl⟩
  rw [← hnm] at HR HG HL
  obtain ⟨vars, v0, v1, v2, v3, ins⟩ := e
  simp only at HV HN hcap hbd HG HL
  change Calls _ _ #[.agg #[.slice A n c, .int .i64 v0, .int .i64 v1, .int .i64 v2, .int .i64 v3, .slice iA im ic], .string s] _ _
  clear h hr hnm
  go_enter Try.func20, Try.ntmps20
  go_wp2
  go_loop [5] (fun i => ∃ k : Nat, k ≤ n ∧ i = .int .i64 k ∧ Hid (s ∉ nm.take k)) (fun i => n - (RowKit.intOf i).toNat)
  case atStart => exact ⟨0, Nat.zero_le _, rfl, Lib.hid (by simp)⟩
  case round =>
    obtain ⟨k, hk, rfl, HO⟩ := hrel
    by_cases hlt : k < n
    · obtain ⟨v, hv⟩ : ∃ v, vars[k]? = some v := get_some (by have := HN.out; omega)
      obtain ⟨b, off, rfl, hb, c0, -, -, -⟩ := HV.out.at_ hv
      have HX := Lib.hid (HG.out k v hv)
      have c0' := ((KitC.below_one w (.cells #[.slice (some ⟨b, off, none⟩) n c, .int .i64 v0, .int .i64 v1, .int .i64 v2, .int .i64 v3, .slice iA im ic] 27)).cell (p := ⟨b, off + k * 4, none⟩) hb).trans c0
      clear hv
      obtain ⟨x, lo, hi, ini⟩ := v
      simp only at c0 c0' HX
      rcases hxs : (x.toList == s.toList) with _ | _
      · go_wp2_with fail
        go_round
        case rel =>
          refine ⟨k + 1, by omega, by go_num, Lib.hid ?_⟩
          rw [take_next HX.out, List.mem_append, List.mem_singleton]
          rintro (h1 | h1)
          · exact HO.out h1
          · exact bytes_ne hxs h1.symm
        case measure => simp [RowKit.intOf]; omega
      · go_wp2_with fail
        go_ret
        exact ⟨ret_int (by rw [HR.out]; rw [← bytes_eq hxs] at HO ⊢; exact (place_hit HX.out HO.out).symm), KitC.below_one _ _⟩
    · have HE : Hid (r = -1) := Lib.hid (by
        have h1 := HN.out
        have h2 := HO.out
        have h3 : nm.length ≤ k := by rw [HL.out]; omega
        rw [List.take_of_length_le h3] at h2
        rw [HR.out]
        exact place_miss h2)
      go_wp2_with fail
      go_ret
      exact ⟨ret_int HE.out.symm, KitC.below_one _ _⟩
end Go.Proofs.Ytbkgkdfameojfaa
