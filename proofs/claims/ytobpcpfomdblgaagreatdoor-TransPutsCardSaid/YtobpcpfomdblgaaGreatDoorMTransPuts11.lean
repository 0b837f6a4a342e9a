/- KitC, EvalMem, ActIn, TransMem, ActCheck, TransCheck, TermNames, joined. -/
import Derived.Test.YtobpcpfomdblgaaGreatDoorMTransPuts02
import Derived.Test.YtobpcpfomdblgaaGreatDoorMTransPuts10
import Derived.Test.YtobpcpfomdblgaaGreatDoorMTransPuts00
import Derived.Test.YtobpcpfomdblgaaGreatDoorMTransPuts04
import Derived.Test.YtobpcpfomdblgaaGreatDoorMTransPuts07
import Derived.Test.YtobpcpfomdblgaaGreatDoorMTransPuts03
import Derived.Test.YtobpcpfomdblgaaGreatDoorMTransPuts06
namespace Go.Proofs.YtobpcpfomdblgaaGreatDoor
namespace KitC
open Go.RowKit

theorem below_one (w : World) (o : Obj) : Below w.heap.size w (w.alloc o) := (Below.refl _ _).alloc (Nat.le_refl _) _
theorem below_pair (w : World) (o p : Obj) : Below w.heap.size w ((w.alloc o).alloc p) := ((Below.refl _ _).alloc (Nat.le_refl _) _).alloc (by simp) _
/-- Two blocks that were made, behind a call that leaves them. -/
theorem pair_blocks {w w2 : World} {o p : Obj} (hb : Below ((w.alloc o).alloc p).heap.size ((w.alloc o).alloc p) w2) :
    w2.heap[w.heap.size]? = some o ∧ w2.heap[w.heap.size + 1]? = some p ∧ Below w.heap.size w w2 ∧ w.heap.size + 1 < w2.heap.size := by
  have hz := hb.size
  simp only [World.size_alloc] at hz
  refine ⟨(hb.block _ (by simp; omega)).trans ((heap_alloc_old _ _ (by simp)).trans (heap_alloc_new _ _)), (hb.block _ (by simp)).trans ?_, ?_, by omega⟩
  · have := heap_alloc_new (w.alloc o) p
    rwa [World.size_alloc] at this
  · exact (below_pair w o p).trans (hb.mono (by simp; omega))
theorem one_block {w w2 : World} {o : Obj} (hb : Below (w.alloc o).heap.size (w.alloc o) w2) : w2.heap[w.heap.size]? = some o ∧ Below w.heap.size w w2 ∧ w.heap.size < w2.heap.size := by
  have hz := hb.size
  simp only [World.size_alloc] at hz
  exact ⟨(hb.block _ (by simp)).trans (heap_alloc_new _ _), ((Below.refl _ _).alloc (Nat.le_refl _) _).trans (hb.mono (by simp)), by omega⟩
/-- A block as it was, behind a call. -/
theorem block_on {w w2 : World} {b : Nat} {o : Obj} (h : w.heap[b]? = some o) (hb : Below w.heap.size w w2) : w2.heap[b]? = some o := (hb.block b (Array.getElem?_eq_some_iff.1 h).1).trans h
end KitC
end Go.Proofs.YtobpcpfomdblgaaGreatDoor

namespace Go.Proofs.YtobpcpfomdblgaaGreatDoor
open Go.RowKit TermSpec EvalSpec NamesSpec Go.Lib

/-- Where an Env's lists lie. -/
structure EP where
  vA : Option Addr
  vn : Nat
  vc : Nat
  iA : Option Addr
  im : Nat
  ic : Nat
def vrV (v : Vr) : List Value := [.string v.s, .int .i64 v.lo, .int .i64 v.hi, .int .i64 v.ini]
def vrsV (l : List Vr) : List Value := l.flatMap vrV
theorem vrV_length (v : Vr) : (vrV v).length = 4 := rfl
theorem vrsV_get {l : List Vr} {i : Nat} {v : Vr} (h : l[i]? = some v) : (vrsV l)[i * 4]? = some (.string v.s) ∧ (vrsV l)[i * 4 + 1]? = some (.int .i64 v.lo) ∧ (vrsV l)[i * 4 + 2]? = some (.int .i64 v.hi) ∧ (vrsV l)[i * 4 + 3]? = some (.int .i64 v.ini) :=
  ⟨flat_get (j := 0) vrV_length h (by omega), flat_get (j := 1) vrV_length h (by omega), flat_get (j := 2) vrV_length h (by omega), flat_get (j := 3) vrV_length h (by omega)⟩
abbrev envV (p : EP) (e : Ev) : Value := .agg #[.slice p.vA p.vn p.vc, .int .i64 e.v0, .int .i64 e.v1, .int .i64 e.v2, .int .i64 e.v3, .slice p.iA p.im p.ic]
/-- The variables lie there. -/
def VarsIn (w : World) (A : Option Addr) (n c : Nat) (l : List Vr) : Prop := n = l.length ∧ Rdk 4 w (.slice A n c) n (vrsV l)
theorem VarsIn.keep {w w' : World} {A : Option Addr} {n c : Nat} {l : List Vr} (h : VarsIn w A n c l) (hb : Below w.heap.size w w') : VarsIn w' A n c l := ⟨h.1, h.2.keep hb⟩
theorem VarsIn.at_ {w : World} {A : Option Addr} {n c : Nat} {l : List Vr} {i : Nat} {v : Vr} (h : VarsIn w A n c l) (hi : l[i]? = some v) :
    ∃ b off, A = some ⟨b, off, none⟩ ∧ b < w.heap.size ∧ w.cell? ⟨b, off + i * 4, none⟩ = some (.string v.s) ∧ w.cell? ⟨b, off + i * 4 + 1, none⟩ = some (.int .i64 v.lo) ∧ w.cell? ⟨b, off + i * 4 + 2, none⟩ = some (.int .i64 v.hi) ∧ w.cell? ⟨b, off + i * 4 + 3, none⟩ = some (.int .i64 v.ini) := by
  obtain ⟨hn, A', c', heq, hc, hl, hA⟩ := h
  cases heq
  have := get_lt hi
  obtain ⟨b, off, rfl, hb, hcell⟩ := hA (by omega)
  obtain ⟨g0, g1, g2, g3⟩ := vrsV_get hi
  exact ⟨b, off, rfl, hb, hcell _ _ g0, by rw [Nat.add_assoc]; exact hcell _ _ g1, by rw [Nat.add_assoc]; exact hcell _ _ g2, by rw [Nat.add_assoc]; exact hcell _ _ g3⟩
theorem VarsIn.cap {w : World} {A : Option Addr} {n c : Nat} {l : List Vr} (h : VarsIn w A n c l) : n ≤ c := by
  obtain ⟨hn, A', c', heq, hc, hl, hA⟩ := h
  cases heq
  exact hc
structure EnvIn (w : World) (p : EP) (e : Ev) : Prop where
  vars : VarsIn w p.vA p.vn p.vc e.vars
  ins : Rd w (.slice p.iA p.im p.ic) (strV e.ins)
  vbd : e.vars.length ≤ 9223372036854775807
  ibd : e.ins.length ≤ 9223372036854775807
theorem EnvIn.keep {w w' : World} {p : EP} {e : Ev} (h : EnvIn w p e) (hb : Below w.heap.size w w') : EnvIn w' p e := ⟨h.vars.keep hb, h.ins.keep hb, h.vbd, h.ibd⟩
end Go.Proofs.YtobpcpfomdblgaaGreatDoor

namespace Go.Proofs.YtobpcpfomdblgaaGreatDoor
open Go.RowKit TermSpec EvalSpec ActSpec NamesSpec
set_option maxRecDepth 100000

/-- An act, and where its expression lies. -/
structure AP where
  a : Ac
  xA : Option Addr
  xn : Nat
  xc : Nat
def acV (p : AP) : List Value := [.string p.a.s, .bool p.a.any, .slice p.xA p.xn p.xc]
def acsV (l : List AP) : List Value := l.flatMap acV
theorem acV_length (p : AP) : (acV p).length = 3 := rfl
theorem acV_one (p : AP) : ∀ u ∈ acV p, u.oneCell' = true := by simp [acV, Value.oneCell']
theorem acsV_one (l : List AP) : ∀ u ∈ acsV l, u.oneCell' = true := by
  intro u hu
  obtain ⟨t, _, h⟩ := List.mem_flatMap.1 hu
  exact acV_one t u h
theorem acsV_append (a b : List AP) : acsV a ++ acsV b = acsV (a ++ b) := by unfold acsV; rw [List.flatMap_append]
theorem acsV_get {l : List AP} {i : Nat} {p : AP} (h : l[i]? = some p) : (acsV l)[i * 3]? = some (.string p.a.s) ∧ (acsV l)[i * 3 + 1]? = some (.bool p.a.any) ∧ (acsV l)[i * 3 + 2]? = some (.slice p.xA p.xn p.xc) :=
  ⟨flat_get (j := 0) acV_length h (by omega), flat_get (j := 1) acV_length h (by omega), flat_get (j := 2) acV_length h (by omega)⟩
/-- The value is a slice of these acts. -/
def Acs (w : World) (v : Value) (l : List Ac) : Prop := ∃ ps : List AP, ps.map (·.a) = l ∧ Rdk 3 w v l.length (acsV ps) ∧ ∀ p ∈ ps, Tms w (.slice p.xA p.xn p.xc) p.a.x
theorem Acs.keep {w w' : World} {v : Value} {l : List Ac} (h : Acs w v l) (hb : Below w.heap.size w w') : Acs w' v l := by
  obtain ⟨ps, hm, hr, hx⟩ := h
  exact ⟨ps, hm, hr.keep hb, fun p hp => (hx p hp).keep hb⟩
theorem Acs.shape {w : World} {v : Value} {l : List Ac} (h : Acs w v l) : ∃ A n c, v = .slice A n c ∧ n = l.length ∧ n ≤ c := by
  obtain ⟨ps, hm, ⟨A, c, hv, hc, _⟩, _⟩ := h
  exact ⟨A, _, c, hv, rfl, hc⟩
theorem Acs.len {w : World} {A : Option Addr} {n c : Nat} {l : List Ac} (h : Acs w (.slice A n c) l) : n = l.length ∧ n ≤ c := by
  obtain ⟨A', n', c', heq, hn, hc⟩ := h.shape
  cases heq
  exact ⟨hn, hc⟩
theorem Acs.at_ {w : World} {A : Option Addr} {n c : Nat} {l : List Ac} {i : Nat} {a : Ac} (h : Acs w (.slice A n c) l) (hi : l[i]? = some a) :
    ∃ b off xA xn xc, A = some ⟨b, off, none⟩ ∧ b < w.heap.size ∧ Tms w (.slice xA xn xc) a.x ∧ w.cell? ⟨b, off + i * 3, none⟩ = some (.string a.s) ∧ w.cell? ⟨b, off + i * 3 + 1, none⟩ = some (.bool a.any) ∧ w.cell? ⟨b, off + i * 3 + 2, none⟩ = some (.slice xA xn xc) := by
  obtain ⟨ps, hm, ⟨A', c', heq, hc, hl, hA⟩, hx⟩ := h
  cases heq
  subst hm
  have := get_lt hi
  obtain ⟨b, off, rfl, hb, hcell⟩ := hA (by omega)
  rw [List.getElem?_map] at hi
  cases hp : ps[i]? with
  | none => rw [hp] at hi; cases hi
  | some p =>
    rw [hp] at hi
    cases hi
    obtain ⟨g0, g1, g2⟩ := acsV_get hp
    exact ⟨b, off, p.xA, p.xn, p.xc, rfl, hb, hx p (List.mem_of_getElem? hp), hcell _ _ g0, by rw [Nat.add_assoc]; exact hcell _ _ g1, by rw [Nat.add_assoc]; exact hcell _ _ g2⟩
/-- Texts that fit. -/
def SmallA (a : Ac) : Prop := a.s.size ≤ 9223372036854775807 ∧ Small a.x ∧ a.x.length ≤ 4398046511104

theorem oneA_name {a : Ac} (h : isName a.s.data.toList = false) : oneA a = 1 := by unfold oneA; rw [if_pos h]
theorem oneA_expr {a : Ac} (h : isName a.s.data.toList = true) (h2 : a.any = false) : oneA a = chk a.x := by unfold oneA; rw [if_neg (by simp [h]), if_pos h2]
theorem oneA_any {a : Ac} (h : isName a.s.data.toList = true) (h2 : a.any = true) : oneA a = if a.x.length = 0 then 0 else 1 := by unfold oneA; rw [if_neg (by simp [h]), if_neg (by simp [h2])]

set_option maxHeartbeats 1000000 in
theorem rone_act (a : Ac) (A : Option Addr) (n c : Nat) (hs : SmallA a) (w : World) (h : Tms w (.slice A n c) a.x) :
    Calls Tryz.prog 52 #[.agg #[.string a.s, .bool a.any, .slice A n c]] w (RetI w (oneA a)) := by
  obtain ⟨A', n', c', heq, hn, hnc⟩ := h.shape
  cases heq
  have HIS := Lib.hid (fun w => ris_any a.s w hs.1)
  have HC := Lib.hid (fun w h => rcheck_any A n c a.x hn (by have := hs.2.2; omega) hs.2.1 w h)
  have HT := Lib.hid h
  obtain ⟨q, hq⟩ : ∃ q, q = isName a.s.data.toList := ⟨_, rfl⟩
  rw [← hq] at HIS
  obtain ⟨r, hr⟩ : ∃ r, r = oneA a := ⟨_, rfl⟩
  rw [← hr]
  rcases hb : q with _ | _
  · rw [hb] at HIS hq
    have HR := Lib.hid (hr.trans (oneA_name hq.symm))
    obtain ⟨s, any, x⟩ := a
    simp only at HIS HC HT hn ⊢
    clear hs h hq hr hb hn
    go_enter Tryz.func52, Tryz.ntmps52
    go_wp2_with (go_at_call 21; (with_reducible refine (HIS.out _).mono ?_))
    rintro e2 w2 ⟨rfl, hb2⟩
    have HB2 := Lib.hid (below_two' (KitC.below_one _ _) hb2)
    clear hb2
    go_wp2_with fail
    go_ret
    exact ⟨ret_int HR.out.symm, HB2.out⟩
  · rw [hb] at HIS hq
    rcases ha : a.any with _ | _
    · have HR := Lib.hid (hr.trans (oneA_expr hq.symm ha))
      obtain ⟨s, any, x⟩ := a
      simp only at HIS HC HT HR hn ha ⊢
      subst ha
      obtain ⟨m, hm⟩ : ∃ m, m = chk x := ⟨_, rfl⟩
      rw [← hm] at HR HC
      clear hs h hq hr hb hn hm
      go_enter Tryz.func52, Tryz.ntmps52
      go_wp2_with (go_at_call 21; (with_reducible refine (HIS.out _).mono ?_))
      rintro e2 w2 ⟨rfl, hb2⟩
      obtain ⟨B2, hbb, _⟩ := KitC.one_block hb2
      have HB2 := Lib.hid hbb
      obtain ⟨c0, c1, c2⟩ := cells_3 B2
      clear hb2 hbb B2
      go_wp2_with (go_at_call 22; (with_reducible refine (HC.out _ (HT.out.keep HB2.out)).mono ?_))
      rintro e2 w3 ⟨rfl, hb3⟩
      have HB3 := Lib.hid (below_two' HB2.out hb3)
      clear hb3
      go_wp2_with fail
      go_ret
      exact ⟨ret_int HR.out.symm, HB3.out⟩
    · have HR0 := Lib.hid (hr.trans (oneA_any hq.symm ha))
      rw [← hn] at HR0
      obtain ⟨s, any, x⟩ := a
      simp only at HIS HC HT hn ha ⊢
      subst ha
      by_cases h0 : n = 0
      · have HR : Hid (r = 0) := Lib.hid (by rw [HR0.out, if_pos h0])
        have g : decide (0 < n) = false := by simp; omega
        clear hs h hq hr hb hn h0 HR0
        go_enter Tryz.func52, Tryz.ntmps52
        go_wp2_with (go_at_call 21; (with_reducible refine (HIS.out _).mono ?_))
        rintro e2 w2 ⟨rfl, hb2⟩
        obtain ⟨B2, hbb, _⟩ := KitC.one_block hb2
        have HB2 := Lib.hid hbb
        obtain ⟨c0, c1, c2⟩ := cells_3 B2
        clear hb2 hbb B2
        go_wp2_with fail
        go_ret
        exact ⟨ret_int HR.out.symm, HB2.out⟩
      · have HR : Hid (r = 1) := Lib.hid (by rw [HR0.out, if_neg h0])
        have g : decide (0 < n) = true := by simp; omega
        clear hs h hq hr hb hn h0 HR0
        go_enter Tryz.func52, Tryz.ntmps52
        go_wp2_with (go_at_call 21; (with_reducible refine (HIS.out _).mono ?_))
        rintro e2 w2 ⟨rfl, hb2⟩
        obtain ⟨B2, hbb, _⟩ := KitC.one_block hb2
        have HB2 := Lib.hid hbb
        obtain ⟨c0, c1, c2⟩ := cells_3 B2
        clear hb2 hbb B2
        go_wp2_with fail
        go_ret
        exact ⟨ret_int HR.out.symm, HB2.out⟩
end Go.Proofs.YtobpcpfomdblgaaGreatDoor

namespace Go.Proofs.YtobpcpfomdblgaaGreatDoor
open Go.RowKit TermSpec EvalSpec ActSpec NamesSpec ExprSpec TransSpec

/-- Texts and lists that fit. -/
structure SmallT (t : Tr) : Prop where
  ev : t.ev.size ≤ 9223372036854775807
  tg : t.tg.size ≤ 9223372036854775807
  g : Small t.g
  glen : t.g.length ≤ 4398046511104
  acts : ∀ a ∈ t.acts, SmallA a
  alen : t.acts.length ≤ 9223372036854775807
/-- Where its lists lie. -/
structure TrIn (W : World) (gA : Option Addr) (gn gc : Nat) (aA : Option Addr) (an ac : Nat) (t : Tr) : Prop where
  g : Tms W (.slice gA gn gc) t.g
  a : Acs W (.slice aA an ac) t.acts
section
variable {W W' : World} {gA aA : Option Addr} {gn gc an ac : Nat} {t : Tr}
theorem TrIn.keep (h : TrIn W gA gn gc aA an ac t) (hb : Below W.heap.size W W') : TrIn W' gA gn gc aA an ac t := ⟨h.g.keep hb, h.a.keep hb⟩
theorem TrIn.alloc (h : TrIn W gA gn gc aA an ac t) (o : Obj) : TrIn (W.alloc o) gA gn gc aA an ac t := h.keep (KitC.below_one W o)
theorem TrIn.len (h : TrIn W gA gn gc aA an ac t) : gn = t.g.length ∧ an = t.acts.length := by
  obtain ⟨A', n', c', heq, hn, -⟩ := h.g.shape
  cases heq
  exact ⟨hn, h.a.len.1⟩
theorem TrIn.cap (h : TrIn W gA gn gc aA an ac t) : gn ≤ gc ∧ an ≤ ac := by
  obtain ⟨A', n', c', heq, -, hc⟩ := h.g.shape
  cases heq
  exact ⟨hc, h.a.len.2⟩
end
/-- The block of a transition that came by value. -/
abbrev trO (ev : ByteArray) (gA : Option Addr) (gn gc : Nat) (aA : Option Addr) (an ac : Nat) (tg : ByteArray) : Obj := .cells #[.string ev, .slice gA gn gc, .slice aA an ac, .string tg] 25
theorem okN_nil {s : ByteArray} (h : s.size = 0) : okN s = true := by unfold okN; simp [h]
theorem okN_pos {s : ByteArray} (h : 0 < s.size) : okN s = isName s.data.toList := by
  unfold okN
  rw [decide_eq_false (show ¬ s.size = 0 by omega)]
  rfl
theorem chkT_name {t : Tr} (h : okN t.ev = false ∨ okN t.tg = false) : chkT t = 1 := by unfold chkT; rw [if_pos h]
theorem chkT_nog {t : Tr} (h1 : okN t.ev = true) (h2 : okN t.tg = true) (h : t.g.length = 0) : chkT t = chkA t.acts := by unfold chkT; rw [if_neg (by rw [h1, h2]; simp), if_neg (fun h' => h'.1 h)]
theorem chkT_bad {t : Tr} (h1 : okN t.ev = true) (h2 : okN t.tg = true) (h : t.g.length ≠ 0) (hk : chk t.g ≠ 0) : chkT t = chk t.g := by unfold chkT; rw [if_neg (by rw [h1, h2]; simp), if_pos ⟨h, hk⟩]
theorem chkT_good {t : Tr} (h1 : okN t.ev = true) (h2 : okN t.tg = true) (hk : chk t.g = 0) : chkT t = chkA t.acts := by unfold chkT; rw [if_neg (by rw [h1, h2]; simp), if_neg (fun h' => h'.2 hk)]
end Go.Proofs.YtobpcpfomdblgaaGreatDoor

namespace Go.Proofs.YtobpcpfomdblgaaGreatDoor
open Go.RowKit TermSpec EvalSpec ActSpec NamesSpec
set_option maxRecDepth 100000

set_option maxHeartbeats 1000000 in
theorem may_act (a : Ac) (A : Option Addr) (n c : Nat) (hs : SmallA a) (w : World) (h : Tms w (.slice A n c) a.x) :
    Calls Tryz.prog 56 #[.agg #[.string a.s, .bool a.any, .slice A n c]] w (RetI w (oneA a)) := by
  obtain ⟨A', n', c', heq, hn, hnc⟩ := h.shape
  cases heq
  have HIS := Lib.hid (fun w => is_any a.s w hs.1)
  have HC := Lib.hid (fun w h => check_any A n c a.x hn (by have := hs.2.2; omega) hs.2.1 w h)
  have HT := Lib.hid h
  obtain ⟨q, hq⟩ : ∃ q, q = isName a.s.data.toList := ⟨_, rfl⟩
  rw [← hq] at HIS
  obtain ⟨r, hr⟩ : ∃ r, r = oneA a := ⟨_, rfl⟩
  rw [← hr]
  rcases hb : q with _ | _
  · rw [hb] at HIS hq
    have HR := Lib.hid (hr.trans (oneA_name hq.symm))
    obtain ⟨s, any, x⟩ := a
    simp only at HIS HC HT hn ⊢
    clear hs h hq hr hb hn
    go_enter Tryz.func56, Tryz.ntmps56
    go_wp2_with (go_at_call 53; (with_reducible refine (HIS.out _).mono ?_))
    rintro e2 w2 ⟨rfl, hb2⟩
    obtain ⟨B2, hbb, _⟩ := KitC.one_block hb2
    have HB2 := Lib.hid hbb
    obtain ⟨c0, c1, c2⟩ := cells_3 B2
    clear hb2 hbb B2
    go_wp2_with fail
    go_ret
    exact ⟨ret_int HR.out.symm, HB2.out⟩
  · rw [hb] at HIS hq
    rcases ha : a.any with _ | _
    · have HR := Lib.hid (hr.trans (oneA_expr hq.symm ha))
      obtain ⟨s, any, x⟩ := a
      simp only at HIS HC HT HR hn ha ⊢
      subst ha
      obtain ⟨m, hm⟩ : ∃ m, m = chk x := ⟨_, rfl⟩
      rw [← hm] at HR HC
      clear hs h hq hr hb hn hm
      go_enter Tryz.func56, Tryz.ntmps56
      go_wp2_with (go_at_call 53; (with_reducible refine (HIS.out _).mono ?_))
      rintro e2 w2 ⟨rfl, hb2⟩
      obtain ⟨B2, hbb, _⟩ := KitC.one_block hb2
      have HB2 := Lib.hid hbb
      obtain ⟨c0, c1, c2⟩ := cells_3 B2
      clear hb2 hbb B2
      go_wp2_with (go_at_call 25; (with_reducible refine (HC.out _ (HT.out.keep HB2.out)).mono ?_))
      rintro e2 w3 ⟨rfl, hb3⟩
      have HB3 := Lib.hid (below_two' HB2.out hb3)
      clear hb3
      go_wp2_with fail
      go_ret
      exact ⟨ret_int HR.out.symm, HB3.out⟩
    · have HR0 := Lib.hid (hr.trans (oneA_any hq.symm ha))
      rw [← hn] at HR0
      obtain ⟨s, any, x⟩ := a
      simp only at HIS HC HT hn ha ⊢
      subst ha
      by_cases h0 : n = 0
      · have HR : Hid (r = 0) := Lib.hid (by rw [HR0.out, if_pos h0])
        have g : decide (0 < n) = false := by simp; omega
        have g2 : decide (0 < (n : Int)) = false := by simp; omega
        clear hs h hq hr hb hn h0 HR0
        go_enter Tryz.func56, Tryz.ntmps56
        go_wp2_with (go_at_call 53; (with_reducible refine (HIS.out _).mono ?_))
        rintro e2 w2 ⟨rfl, hb2⟩
        obtain ⟨B2, hbb, _⟩ := KitC.one_block hb2
        have HB2 := Lib.hid hbb
        obtain ⟨c0, c1, c2⟩ := cells_3 B2
        clear hb2 hbb B2
        go_wp2_with fail
        go_ret
        exact ⟨ret_int HR.out.symm, HB2.out⟩
      · have HR : Hid (r = 1) := Lib.hid (by rw [HR0.out, if_neg h0])
        have g : decide (0 < n) = true := by simp; omega
        have g2 : decide (0 < (n : Int)) = true := by simp; omega
        clear hs h hq hr hb hn h0 HR0
        go_enter Tryz.func56, Tryz.ntmps56
        go_wp2_with (go_at_call 53; (with_reducible refine (HIS.out _).mono ?_))
        rintro e2 w2 ⟨rfl, hb2⟩
        obtain ⟨B2, hbb, _⟩ := KitC.one_block hb2
        have HB2 := Lib.hid hbb
        obtain ⟨c0, c1, c2⟩ := cells_3 B2
        clear hb2 hbb B2
        go_wp2_with fail
        go_ret
        exact ⟨ret_int HR.out.symm, HB2.out⟩
def PChkRel (W : World) (l : List Ac) (n : Nat) (i : Value) (wr : World) : Prop := ∃ k : Nat, k ≤ n ∧ i = .int .i64 k ∧ firstA (l.take k) = 0 ∧ Below W.heap.size W wr
abbrev acO (a : Ac) (xA : Option Addr) (xn xc : Nat) : Obj := .cells #[.string a.s, .bool a.any, .slice xA xn xc] 55
set_option maxHeartbeats 1000000 in
theorem check_acts (A : Option Addr) (n c : Nat) (l : List Ac) (hs : ∀ a ∈ l, SmallA a) (hl : l.length ≤ 9223372036854775807) (w : World) (h : Acs w (.slice A n c) l) :
    Calls Tryz.prog 26 #[.slice A n c] w (RetI w (chkA l)) := by
  have hn := h.len.1
  have hcap := h.len.2
  have HN := Lib.hid hn
  have HT := Lib.hid h
  have HS := Lib.hid hs
  obtain ⟨r, hr⟩ : ∃ r, r = chkA l := ⟨_, rfl⟩
  rw [← hr]
  by_cases h8 : 8 < n
  · have HR : Hid (r = 8) := Lib.hid (by rw [hr]; unfold chkA; rw [if_pos (by omega)])
    have g : decide (8 < n) = true := by simp; omega
    have h8' : 8 < (n : Int) := by omega
    clear hn h hs hr hl
    go_enter Tryz.func26, Tryz.ntmps26
    go_wp2_with fail
    go_ret
    exact ⟨ret_int HR.out.symm, Below.refl _ _⟩
  · have HR : Hid (r = firstA l) := Lib.hid (by rw [hr]; unfold chkA; rw [if_neg (by omega)])
    have h8' : ¬ 8 < (n : Int) := by omega
    clear hn h hs hr hl
    go_enter Tryz.func26, Tryz.ntmps26
    go_wp2_with fail
    go_loopw [11] (fun i wr => PChkRel w l n i wr) (fun i _ => n - (intOf i).toNat)
    case atStart => exact ⟨0, Nat.zero_le _, rfl, rfl, Below.refl _ _⟩
    case round =>
      obtain ⟨k, hk, rfl, hall, hbw⟩ := hrel
      have HA := Lib.hid hall
      have HB := Lib.hid hbw
      clear hall hbw
      by_cases hlt : k < n
      · obtain ⟨a, ha⟩ : ∃ a, l[k]? = some a := get_some (by rw [← HN.out]; exact hlt)
        obtain ⟨b, off, xA, xn, xc, rfl, hb, htm, c0, c1, c2⟩ := (HT.out.keep HB.out).at_ ha
        have HC : Hid (Calls Tryz.prog 56 #[.agg #[.string a.s, .bool a.any, .slice xA xn xc]] (wr.alloc (acO a xA xn xc)) (RetI (wr.alloc (acO a xA xn xc)) (oneA a))) := Lib.hid (may_act a xA xn xc (HS.out a (List.mem_of_getElem? ha)) _ (htm.keep (KitC.below_one _ _)))
        have HNX := Lib.hid (fun h1 => firstA_next ha HA.out h1)
        have HST := Lib.hid (fun h1 => firstA_stop ha HA.out h1)
        obtain ⟨q, hq⟩ : ∃ q, q = oneA a := ⟨_, rfl⟩
        rw [← hq] at HC HNX HST
        have hkI : (k : Int) < n := by omega
        clear ha hq htm
        obtain ⟨s, any, x⟩ := a
        simp only at c0 c1 c2 HC
        by_cases hq0 : q = 0
        · have HNX' := Lib.hid (HNX.out hq0)
          have g : (q != 0) = false := by simp [hq0]
          clear HNX HST hq0
          go_wp2_with (go_at_call 56; (with_reducible refine HC.out.mono ?_))
          rintro e2 w2 ⟨rfl, hb2⟩
          have HB2 := Lib.hid (below_two' HB.out (below_two' (KitC.below_one _ _) hb2))
          clear hb2
          go_wp2_with fail
          go_roundw
          case rel => exact ⟨k + 1, by omega, by go_num, HNX'.out, HB2.out⟩
          case measure => simp [intOf]; omega
        · have HST' := Lib.hid (HST.out hq0)
          have g : (q != 0) = true := by simp [hq0]
          clear HNX HST hq0
          go_wp2_with (go_at_call 56; (with_reducible refine HC.out.mono ?_))
          rintro e2 w2 ⟨rfl, hb2⟩
          have HB2 := Lib.hid (below_two' HB.out (below_two' (KitC.below_one _ _) hb2))
          clear hb2
          go_wp2_with fail
          go_ret
          exact ⟨ret_int (by rw [HR.out, HST'.out]), HB2.out⟩
      · have HE : Hid (firstA l = 0) := Lib.hid (by
          have h1 := HN.out
          have h2 := HA.out
          rwa [List.take_of_length_le (by omega)] at h2)
        go_wp2_with fail
        go_ret
        exact ⟨ret_int (by rw [HR.out, HE.out]), HB.out⟩
end Go.Proofs.YtobpcpfomdblgaaGreatDoor

namespace Go.Proofs.YtobpcpfomdblgaaGreatDoor
open Go.RowKit TermSpec EvalSpec ActSpec NamesSpec ExprSpec TransSpec
set_option maxRecDepth 100000

set_option maxHeartbeats 1000000 in
theorem tmay_any (s : ByteArray) (w : World) (hs : s.size ≤ 9223372036854775807) : Calls Tryz.prog 24 #[.string s] w (RetB w (okN s)) := by
  rcases Nat.eq_zero_or_pos s.size with h0 | h0
  · have HE := Lib.hid (okN_nil h0)
    have hnil := str_nil' h0
    clear h0 hs
    go_enter Tryz.func24, Tryz.ntmps24
    go_wp2_with fail
    go_ret
    exact ⟨ret_bool HE.out.symm, Below.refl _ _⟩
  · have hne := str_ne' h0
    have HE := Lib.hid (okN_pos h0)
    have HI := Lib.hid (is_any s w hs)
    clear h0 hs
    go_enter Tryz.func24, Tryz.ntmps24
    go_wp2_with (go_at_call 53; (with_reducible refine HI.out.mono ?_))
    rintro e w2 ⟨rfl, hb⟩
    have HB := Lib.hid hb
    clear hb
    go_wp2_with fail
    go_ret
    exact ⟨ret_bool HE.out.symm, HB.out⟩
set_option maxHeartbeats 4000000 in
theorem tcheck_any (t : Tr) (gA : Option Addr) (gn gc : Nat) (aA : Option Addr) (an ac : Nat) (w : World) (hs : SmallT t) (h : TrIn w gA gn gc aA an ac t) :
    Calls Tryz.prog 8 #[.agg #[.string t.ev, .slice gA gn gc, .slice aA an ac, .string t.tg]] w (RetI w (chkT t)) := by
  have hgn := h.len.1
  have hcap := h.cap.1
  have H1 := Lib.hid (fun W => tmay_any t.ev W hs.ev)
  have H2 := Lib.hid (fun W => tmay_any t.tg W hs.tg)
  have H3 := Lib.hid (fun W (hW : Below w.heap.size w W) => check_any gA gn gc t.g hgn (by have := hs.glen; omega) hs.g W (h.g.keep hW))
  have H4 := Lib.hid (fun W (hW : Below w.heap.size w W) => check_acts aA an ac t.acts hs.acts hs.alen W (h.a.keep hW))
  have HN := Lib.hid (fun h' => chkT_name (t := t) h')
  have HO := Lib.hid (fun a b c => chkT_nog (t := t) a b c)
  have HX := Lib.hid (fun a b c d => chkT_bad (t := t) a b c d)
  have HG := Lib.hid (fun a b c => chkT_good (t := t) a b c)
  have HL := Lib.hid hgn
  have hn62 : (gn : Int) ≤ 4398046511104 := by have := hs.glen; omega
  obtain ⟨r, hr⟩ : ∃ r, r = chkT t := ⟨_, rfl⟩
  rw [← hr] at HN HO HX HG ⊢
  obtain ⟨b1, hb1⟩ : ∃ b, b = okN t.ev := ⟨_, rfl⟩
  obtain ⟨b2, hb2⟩ : ∃ b, b = okN t.tg := ⟨_, rfl⟩
  obtain ⟨k, hk⟩ : ∃ b, b = chk t.g := ⟨_, rfl⟩
  obtain ⟨m, hm⟩ : ∃ b, b = chkA t.acts := ⟨_, rfl⟩
  rw [← hb1] at H1 HN HO HX HG
  rw [← hb2] at H2 HN HO HX HG
  rw [← hk] at H3 HX HG
  rw [← hm] at H4 HO HG
  obtain ⟨ev, g, acts, tg⟩ := t
  simp only at H1 H2 H3 H4 HL HO HX HG ⊢
  clear hr hb1 hb2 hk hm hgn hs h
  rcases b1 with _ | _
  · have HR := Lib.hid (HN.out (.inl rfl))
    clear HN HO HX HG HL
    go_enter Tryz.func8, Tryz.ntmps8
    go_wp2_with (go_at_call 24; (with_reducible refine (H1.out _).mono ?_))
    rintro e w2 ⟨rfl, hb2⟩
    have HB2 := Lib.hid (below_two' (KitC.below_one _ _) hb2)
    clear hb2
    go_wp2_with fail
    go_ret
    exact ⟨ret_int HR.out.symm, HB2.out⟩
  · rcases b2 with _ | _
    · have HR := Lib.hid (HN.out (.inr rfl))
      clear HN HO HX HG HL
      go_enter Tryz.func8, Tryz.ntmps8
      go_wp2_with (go_at_call 24; (with_reducible refine (H1.out _).mono ?_))
      rintro e w2 ⟨rfl, hb2⟩
      have HB2 := Lib.hid (KitC.one_block hb2)
      obtain ⟨c0, c1, c2, c3⟩ := cells_4 HB2.out.1
      clear hb2
      go_wp2_with (go_at_call 24; (with_reducible refine (H2.out _).mono ?_))
      rintro e w3 ⟨rfl, hb3⟩
      have HB3 := Lib.hid (below_two' HB2.out.2.1 hb3)
      clear hb3
      go_wp2_with fail
      go_ret
      exact ⟨ret_int HR.out.symm, HB3.out⟩
    · by_cases h0 : gn = 0
      · have HR := Lib.hid (HO.out rfl rfl (by rw [← HL.out, h0]))
        subst h0
        clear HN HO HX HG HL
        go_enter Tryz.func8, Tryz.ntmps8
        go_wp2_with (go_at_call 24; (with_reducible refine (H1.out _).mono ?_))
        rintro e w2 ⟨rfl, hb2⟩
        have HB2 := Lib.hid (KitC.one_block hb2)
        obtain ⟨c0, c1, c2, c3⟩ := cells_4 HB2.out.1
        clear hb2
        go_wp2_with (go_at_call 24; (with_reducible refine (H2.out _).mono ?_))
        rintro e w3 ⟨rfl, hb3⟩
        have HB3 := Lib.hid (And.intro (KitC.block_on HB2.out.1 hb3) (below_two' HB2.out.2.1 hb3))
        clear hb3 c0 c1 c2 c3
        obtain ⟨c0, c1, c2, c3⟩ := cells_4 HB3.out.1
        go_wp2_with (go_at_call 26; (with_reducible refine (H4.out _ HB3.out.2).mono ?_))
        rintro e w4 ⟨rfl, hb4⟩
        have HB4 := Lib.hid (below_two' HB3.out.2 hb4)
        clear hb4
        go_wp2_with fail
        go_ret
        exact ⟨ret_int HR.out.symm, HB4.out⟩
      · have g0 : decide (0 < gn) = true := by simp; omega
        by_cases hk0 : k = 0
        · have HR := Lib.hid (HG.out rfl rfl hk0)
          subst hk0
          clear HN HO HX HG HL h0
          go_enter Tryz.func8, Tryz.ntmps8
          go_wp2_with (go_at_call 24; (with_reducible refine (H1.out _).mono ?_))
          rintro e w2 ⟨rfl, hb2⟩
          have HB2 := Lib.hid (KitC.one_block hb2)
          obtain ⟨c0, c1, c2, c3⟩ := cells_4 HB2.out.1
          clear hb2
          go_wp2_with (go_at_call 24; (with_reducible refine (H2.out _).mono ?_))
          rintro e w3 ⟨rfl, hb3⟩
          have HB3 := Lib.hid (And.intro (KitC.block_on HB2.out.1 hb3) (below_two' HB2.out.2.1 hb3))
          clear hb3 c0 c1 c2 c3
          obtain ⟨c0, c1, c2, c3⟩ := cells_4 HB3.out.1
          go_wp2_with (go_at_call 25; (with_reducible refine (H3.out _ HB3.out.2).mono ?_))
          rintro e w4 ⟨rfl, hb4⟩
          have HB4 := Lib.hid (And.intro (KitC.block_on HB3.out.1 hb4) (below_two' HB3.out.2 hb4))
          clear hb4 c0 c1 c2 c3
          obtain ⟨c0, c1, c2, c3⟩ := cells_4 HB4.out.1
          go_wp2_with (go_at_call 26; (with_reducible refine (H4.out _ HB4.out.2).mono ?_))
          rintro e w5 ⟨rfl, hb5⟩
          have HB5 := Lib.hid (below_two' HB4.out.2 hb5)
          clear hb5
          go_wp2_with fail
          go_ret
          exact ⟨ret_int HR.out.symm, HB5.out⟩
        · have HR := Lib.hid (HX.out rfl rfl (by rw [← HL.out]; exact h0) hk0)
          have e1 : (k != 0) = true := by simpa using hk0
          clear HN HO HX HG HL h0 hk0
          go_enter Tryz.func8, Tryz.ntmps8
          go_wp2_with (go_at_call 24; (with_reducible refine (H1.out _).mono ?_))
          rintro e w2 ⟨rfl, hb2⟩
          have HB2 := Lib.hid (KitC.one_block hb2)
          obtain ⟨c0, c1, c2, c3⟩ := cells_4 HB2.out.1
          clear hb2
          go_wp2_with (go_at_call 24; (with_reducible refine (H2.out _).mono ?_))
          rintro e w3 ⟨rfl, hb3⟩
          have HB3 := Lib.hid (And.intro (KitC.block_on HB2.out.1 hb3) (below_two' HB2.out.2.1 hb3))
          clear hb3 c0 c1 c2 c3
          obtain ⟨c0, c1, c2, c3⟩ := cells_4 HB3.out.1
          go_wp2_with (go_at_call 25; (with_reducible refine (H3.out _ HB3.out.2).mono ?_))
          rintro e w4 ⟨rfl, hb4⟩
          have HB4 := Lib.hid (below_two' HB3.out.2 hb4)
          clear hb4
          go_wp2_with fail
          go_ret
          exact ⟨ret_int HR.out.symm, HB4.out⟩
end Go.Proofs.YtobpcpfomdblgaaGreatDoor

namespace Go.Proofs.YtobpcpfomdblgaaGreatDoor
open Go.RowKit TermSpec
set_option maxRecDepth 100000

theorem inf_str : (Tryz.prog.info? 9).map (fun i => (i.zero, i.size, i.bytes)) = some (some (.string ByteArray.empty), 1, 16) := by kernel_rfl
/-- A list of texts of the call's own. -/
def RowS (W wr : World) (p : Value) (xs : List ByteArray) : Prop := wr.ownsRow W.heap.size 9 1 p xs.length (strV xs) ∧ Below W.heap.size W wr
theorem RowS.nil (W wr : World) (hb : Below W.heap.size W wr) : RowS W wr (.slice none 0 0) [] := ⟨World.ownsRow_nil _ _ _ _, hb⟩
theorem RowS.keep {W w w' : World} {p : Value} {xs : List ByteArray} (h : RowS W w p xs) (hb : Below w.heap.size w w') : RowS W w' p xs := ⟨own_keep h.1 hb, below_two' h.2 hb⟩
theorem RowS.alloc {W w : World} {p : Value} {xs : List ByteArray} (h : RowS W w p xs) (o : Obj) : RowS W (w.alloc o) p xs := h.keep ((Below.refl _ _).alloc (Nat.le_refl _) _)
theorem RowS.add {W wr w2 : World} {p p' : Value} {xs : List ByteArray} {x : ByteArray} {o : Obj} (h : RowS W wr p xs) (hrow : w2.ownsRow W.heap.size 9 1 p' (xs.length + (strV [x]).length) (strV xs ++ strV [x])) (hg : (wr.alloc o).grownBy w2 p.ownBlock) : RowS W w2 p' (xs ++ [x]) := by
  refine ⟨?_, (h.2.alloc h.2.size o).grown hg (by have := h.2.size; simp; omega) (fun j hj => (own_block_bd h.1 j hj).1)⟩
  rw [← strV_append, List.length_append]
  exact hrow
theorem RowS.read {W wr : World} {p : Value} {xs : List ByteArray} (h : RowS W wr p xs) : Rd wr p (strV xs) := Rd.own h.1

end Go.Proofs.YtobpcpfomdblgaaGreatDoor
