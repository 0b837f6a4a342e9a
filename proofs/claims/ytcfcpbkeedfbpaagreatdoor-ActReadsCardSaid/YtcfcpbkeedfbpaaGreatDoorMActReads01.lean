/- EvalSpec, EvalOps, KitC, EvalMem, ActSpec, TermArity, NamesWords, NamesRefIs, joined. -/
import Derived.Test.YtcfcpbkeedfbpaaGreatDoorMActReads00
import Derived.Lib.OthersKept
namespace Go.Proofs.YtcfcpbkeedfbpaaGreatDoor
namespace EvalSpec
open TermSpec NamesSpec ValSpec Go.Lib

structure Vr where
  s : ByteArray
  lo : Int
  hi : Int
  ini : Int
structure Ev where
  vars : List Vr
  v0 : Int
  v1 : Int
  v2 : Int
  v3 : Int
  ins : List ByteArray

def vnames (e : Ev) : List ByteArray := e.vars.map (·.s)
def valAt (e : Ev) (p : Int) : Int := if p = 0 then e.v0 else if p = 1 then e.v1 else if p = 2 then e.v2 else e.v3
def tru (b : Bool) : Int := if b then 1 else 0
theorem tru_bd (b : Bool) : 0 ≤ tru b ∧ tru b ≤ 1 := by cases b <;> decide
/-- Does the comparison hold? -/
def cmp (o a b : Int) : Bool := if o = 13 then a == b else if o = 14 then a != b else if o = 15 then decide (a < b) else if o = 16 then decide (a ≤ b) else if o = 17 then decide (b < a) else decide (b ≤ a)
/-- What a term comes to that has two below it; one; none. -/
def ev2 (o x y : Int) : Int :=
  if o = 4 then near (x + y) else if o = 5 then near (x - y) else if o = 6 then near (x * y) else if o = 7 then (if x < y then x else y) else if o = 8 then (if y < x then x else y)
  else if o = 19 then tru (x == 1 && y == 1) else if o = 20 then tru (x == 1 || y == 1) else tru (cmp o x y)
def ev1 (o x : Int) : Int := if o = 3 then 0 - x else tru (x == 0)
def ev0 (e : Ev) (t : Tm) : Int := if t.op = 1 then t.n else if t.op = 2 then near (valAt e (idxOfS (vnames e) t.s)) else if t.op = 11 then tru (decide (0 ≤ idxOfS e.ins t.s)) else tru (t.op == 9)
def evT (e : Ev) (t : Tm) (x y : Int) : Int := if ar t.op = 0 then ev0 e t else if ar t.op = 1 then ev1 t.op x else ev2 t.op x y
def evF (e : Ev) (t : Tm) (bs : List Int) : Int := evT e t (bs[0]?.getD 0) (bs[1]?.getD 0)

/-- What each of the expressions that stand one behind the other comes to. -/
def stackE (e : Ev) : List Tm → List Int
  | [] => []
  | t :: r => evF e t ((stackE e r).take (arN t.op)) :: (stackE e r).drop (arN t.op)
section
variable {e : Ev}
theorem stackE_cons (t : Tm) (r : List Tm) : stackE e (t :: r) = evF e t ((stackE e r).take (arN t.op)) :: (stackE e r).drop (arN t.op) := rfl
theorem stackE_drop : ∀ {l : List Tm} {k m : Nat}, cnt k l = some m → stackE e (l.drop m) = (stackE e l).drop k
  | l, 0, m, h => by rw [cnt_zero] at h; cases h; rfl
  | [], k + 1, m, h => by cases h
  | t :: r, k + 1, m, h => by
    obtain ⟨h0, m', rfl, h'⟩ := cnt_step h
    rw [List.drop_succ_cons, stackE_drop h', stackE_cons, List.drop_succ_cons, List.drop_drop, Nat.add_comm]
theorem stackE_len : ∀ {l : List Tm} {k m : Nat}, cnt k l = some m → k ≤ (stackE e l).length
  | l, 0, m, h => Nat.zero_le _
  | [], k + 1, m, h => by cases h
  | t :: r, k + 1, m, h => by
    obtain ⟨h0, m', rfl, h'⟩ := cnt_step h
    have := stackE_len h'
    rw [stackE_cons, List.length_cons, List.length_drop]
    omega
end
theorem stackE_size (e : Ev) : ∀ (l : List Tm), (stackE e l).length ≤ l.length
  | [] => Nat.le_refl _
  | t :: r => by
    have := stackE_size e r
    rw [stackE_cons, List.length_cons, List.length_drop, List.length_cons]
    omega
/-- What the expression that begins here comes to. -/
def comeE (e : Ev) (l : List Tm) : Int := (stackE e l).headD 0
section
variable {e : Ev}
/-- All that terms come to that may be are values. -/
theorem evT_bd {t : Tm} (hm : mayB t = true) {x y : Int} (hx : -1000000 ≤ x ∧ x ≤ 1000000) (hy : -1000000 ≤ y ∧ y ≤ 1000000) : -1000000 ≤ evT e t x y ∧ evT e t x y ≤ 1000000 := by
  have tb : ∀ b, -1000000 ≤ tru b ∧ tru b ≤ 1000000 := fun b => by have := tru_bd b; omega
  have nb : ∀ x, -1000000 ≤ near x ∧ near x ≤ 1000000 := fun x => ⟨near_lo x, near_hi x⟩
  unfold evT
  split
  · unfold ev0
    split
    · rename_i h1
      unfold mayB at hm
      rw [if_pos h1] at hm
      simp only [Bool.and_eq_true, decide_eq_true_eq] at hm
      omega
    · split
      · exact nb _
      · split <;> exact tb _
  · split
    · unfold ev1
      split
      · omega
      · exact tb _
    · unfold ev2
      (repeat' split) <;> first | exact nb _ | exact tb _ | omega
theorem stackE_bd : ∀ {l : List Tm}, l.all mayB = true → ∀ v ∈ stackE e l, -1000000 ≤ v ∧ v ≤ 1000000
  | [], _ => by simp [stackE]
  | t :: r, h => by
    rw [List.all_cons, Bool.and_eq_true] at h
    have ih := stackE_bd h.2
    have hg : ∀ i : Nat, -1000000 ≤ ((stackE e r).take (arN t.op))[i]?.getD 0 ∧ ((stackE e r).take (arN t.op))[i]?.getD 0 ≤ 1000000 := by
      intro i
      cases hi : ((stackE e r).take (arN t.op))[i]? with
      | none => simp
      | some v => exact ih v (List.mem_of_mem_take (List.mem_iff_getElem?.2 ⟨i, hi⟩))
    intro v hv
    rw [stackE_cons, List.mem_cons] at hv
    rcases hv with rfl | hv
    · exact evT_bd h.1 (hg 0) (hg 1)
    · exact ih v (List.mem_of_mem_drop hv)
end

/-- Why an expression comes to nothing. -/
def knownB (e : Ev) (l : List Tm) : Bool := l.all fun t => !(decide (t.op = 2)) || hasS (vnames e) t.s
def chkE (e : Ev) (l : List Tm) : Int := if 4 < e.vars.length then 1 else if chk l ≠ 0 then chk l else if typ l = 0 then 4 else if knownB e l then 0 else 7
theorem chkE_wide {e : Ev} {l : List Tm} (h : 4 < e.vars.length) : chkE e l = 1 := if_pos h
theorem chkE_bad {e : Ev} {l : List Tm} (h : ¬ 4 < e.vars.length) (h1 : chk l ≠ 0) : chkE e l = chk l := by unfold chkE; rw [if_neg h, if_pos h1]
theorem chkE_typ {e : Ev} {l : List Tm} (h : ¬ 4 < e.vars.length) (h1 : chk l = 0) (h2 : typ l = 0) : chkE e l = 4 := by unfold chkE; rw [if_neg h, if_neg (by omega), if_pos h2]
theorem chkE_last {e : Ev} {l : List Tm} (h : ¬ 4 < e.vars.length) (h1 : chk l = 0) (h2 : ¬ typ l = 0) : chkE e l = if knownB e l then 0 else 7 := by unfold chkE; rw [if_neg h, if_neg (by omega), if_neg h2]
theorem chkE_ok {e : Ev} {l : List Tm} (h : chkE e l = 0) : e.vars.length ≤ 4 ∧ chk l = 0 ∧ typ l ≠ 0 ∧ knownB e l = true := by
  unfold chkE at h
  split at h
  · omega
  split at h
  · omega
  split at h
  · omega
  split at h
  · rename_i h1 h2 h3 h4
    exact ⟨by omega, by omega, h3, h4⟩
  · omega
theorem stackE_nil_of {e : Ev} {a : List Tm} (h : cnt 1 a = some a.length) : stackE e a = [comeE e a] := by
  have h1 := stackE_len (e := e) h
  have h2 := stackE_drop (e := e) h
  rw [List.drop_length] at h2
  unfold comeE
  match hs : stackE e a with
  | [] => rw [hs] at h1; simp at h1
  | [x] => rfl
  | x :: y :: r => rw [hs] at h2; cases h2
/-- At a place within a whole expression so many stand one behind the other. -/
theorem cnt_within : ∀ {l : List Tm} {k : Nat}, cnt k l = some l.length → ∀ i, i ≤ l.length → ∃ j, cnt j (l.drop i) = some (l.length - i) ∧ (i < l.length → 0 < j)
  | l, k, h, 0, _ => by
    refine ⟨k, by simpa using h, fun h0 => ?_⟩
    rcases Nat.eq_zero_or_pos k with rfl | hk
    · rw [cnt_zero] at h; injection h with h; omega
    · exact hk
  | [], k, h, i + 1, hi => by simp at hi
  | t :: r, 0, h, i + 1, hi => by rw [cnt_zero] at h; injection h with h; simp at h
  | t :: r, k + 1, h, i + 1, hi => by
    obtain ⟨h0, m', hm, h'⟩ := cnt_step h
    have hm' : m' = r.length := by rw [List.length_cons] at hm; omega
    subst hm'
    obtain ⟨j, hj, hj0⟩ := cnt_within h' i (by simpa using hi)
    exact ⟨j, by simpa using hj, fun h1 => hj0 (by simpa using h1)⟩
/-- The term at a place has as many below it as it wants. -/
theorem stackE_next {e : Ev} {l : List Tm} (h : cnt 1 l = some l.length) {i : Nat} {t : Tm} (ht : l[i]? = some t) : 0 ≤ ar t.op ∧ arN t.op ≤ (stackE e (l.drop (i + 1))).length ∧ stackE e (l.drop i) = evF e t ((stackE e (l.drop (i + 1))).take (arN t.op)) :: (stackE e (l.drop (i + 1))).drop (arN t.op) := by
  have hi := (List.getElem?_eq_some_iff.1 ht).1
  obtain ⟨j, hj, hj0⟩ := cnt_within h i (by omega)
  have hj0 := hj0 hi
  obtain ⟨j', rfl⟩ : ∃ j', j = j' + 1 := ⟨j - 1, by omega⟩
  rw [drop_get ht] at hj
  obtain ⟨h0, m', _, h'⟩ := cnt_step hj
  have := stackE_len (e := e) h'
  exact ⟨h0, by omega, by rw [drop_get ht, stackE_cons]⟩
end EvalSpec
end Go.Proofs.YtcfcpbkeedfbpaaGreatDoor

namespace Go.Proofs.YtcfcpbkeedfbpaaGreatDoor
open Go.RowKit TermSpec EvalSpec ValSpec
set_option maxRecDepth 100000

theorem truth_any (b : Bool) (w : World) : Calls Tryz.prog 176 #[.bool b] w (SameI w (tru b)) := by
  cases b <;>
  · go_enter Tryz.func176, Tryz.ntmps176
    go_wp2
    go_ret
    exact ⟨rfl, rfl⟩
theorem same_bool {w : World} {a b : Bool} (h : a = b) : SameB w b (.returned (.bool a)) w := ⟨by rw [h], rfl⟩
theorem same_int {w : World} {a b : Int} (h : a = b) : SameI w b (.returned (.int .i64 a)) w := ⟨by rw [h], rfl⟩
set_option maxHeartbeats 2000000 in
theorem compare_any (o a b : Int) (w : World) (h : 13 ≤ o) (h' : o ≤ 18) : Calls Tryz.prog 181 #[.int .i64 o, .int .i64 a, .int .i64 b] w (SameB w (cmp o a b)) := by
  rcases (show o = 13 ∨ o = 14 ∨ o = 15 ∨ o = 16 ∨ o = 17 ∨ o = 18 by omega) with rfl | rfl | rfl | rfl | rfl | rfl <;>
  · go_enter Tryz.func181, Tryz.ntmps181
    go_wp2
    go_ret
    exact same_bool (by simp [cmp])
theorem near_of {x : Int} (h1 : -1000000 ≤ x) (h2 : x ≤ 1000000) : near x = x := by unfold near; rw [if_neg (by omega), if_neg (by omega)]
theorem ofOne_any (o x : Int) (w : World) (h1 : -1000000 ≤ x) (h2 : x ≤ 1000000) : Calls Tryz.prog 163 #[.int .i64 o, .int .i64 x] w (SameI w (ev1 o x)) := by
  have HM := Lib.hid (minus_any 0 x w)
  have HT := Lib.hid (truth_any (x == 0) w)
  have e1 : minus 0 x = 0 - x := by unfold minus; rw [near_of (x := 0) (by omega) (by omega), near_of h1 h2, near_of (by omega) (by omega)]
  rw [e1] at HM
  clear e1
  by_cases ho : o = 3
  · subst ho
    go_enter Tryz.func163, Tryz.ntmps163
    go_wp2_with (go_at_call 178; (with_reducible refine HM.out.mono ?_); rintro e w' ⟨rfl, rfl⟩)
    go_ret
    exact same_int (by simp [ev1])
  · have g : (o == 3) = false := by simp [ho]
    go_enter Tryz.func163, Tryz.ntmps163
    go_wp2_with (go_at_call 176; (with_reducible refine HT.out.mono ?_); rintro e w' ⟨rfl, rfl⟩)
    go_ret
    exact same_int (by simp [ev1, ho])
end Go.Proofs.YtcfcpbkeedfbpaaGreatDoor

namespace Go.Proofs.YtcfcpbkeedfbpaaGreatDoor
namespace KitC
open Go.RowKit

theorem below_one (w : World) (o : Obj) : Below w.heap.size w (w.alloc o) := (Below.refl _ _).alloc (Nat.le_refl _) _
theorem below_pair (w : World) (o p : Obj) : Below w.heap.size w ((w.alloc o).alloc p) := ((Below.refl _ _).alloc (Nat.le_refl _) _).alloc (by simp) _
/-- Two blocks that were made, behind a call that leaves them. -/
theorem pair_blocks {w w2 : World} {o p : Obj} (hb : Below ((w.alloc o).alloc p).heap.size ((w.alloc o).alloc p) w2) :
    w2.heap[w.heap.size]? = some o ∧ w2.heap[w.heap.size + 1]? = some p ∧ Below w.heap.size w w2 ∧ w.heap.size + 1 < w2.heap.size := by
  have hz := hb.size
  simp only [World.size_alloc] at hz
  refine ⟨(hb.block _ (by simp; omega)).trans ((heap_alloc_old _ _ (by simp)).trans (heap_alloc_new _ _)), (hb.block _ (by simp)).trans ?_, ?_, by omega⟩
  · have := heap_alloc_new (w.alloc o) p
    rwa [World.size_alloc] at this
  · exact (below_pair w o p).trans (hb.mono (by simp; omega))
theorem one_block {w w2 : World} {o : Obj} (hb : Below (w.alloc o).heap.size (w.alloc o) w2) : w2.heap[w.heap.size]? = some o ∧ Below w.heap.size w w2 ∧ w.heap.size < w2.heap.size := by
  have hz := hb.size
  simp only [World.size_alloc] at hz
  exact ⟨(hb.block _ (by simp)).trans (heap_alloc_new _ _), ((Below.refl _ _).alloc (Nat.le_refl _) _).trans (hb.mono (by simp)), by omega⟩
/-- A block as it was, behind a call. -/
theorem block_on {w w2 : World} {b : Nat} {o : Obj} (h : w.heap[b]? = some o) (hb : Below w.heap.size w w2) : w2.heap[b]? = some o := (hb.block b (Array.getElem?_eq_some_iff.1 h).1).trans h
end KitC
end Go.Proofs.YtcfcpbkeedfbpaaGreatDoor

namespace Go.Proofs.YtcfcpbkeedfbpaaGreatDoor
open Go.RowKit TermSpec EvalSpec NamesSpec Go.Lib
set_option maxRecDepth 100000

/-- Where an Env's lists lie. -/
structure EP where
  vA : Option Addr
  vn : Nat
  vc : Nat
  iA : Option Addr
  im : Nat
  ic : Nat
def vrV (v : Vr) : List Value := [.string v.s, .int .i64 v.lo, .int .i64 v.hi, .int .i64 v.ini]
def vrsV (l : List Vr) : List Value := l.flatMap vrV
theorem vrV_length (v : Vr) : (vrV v).length = 4 := rfl
theorem vrsV_get {l : List Vr} {i : Nat} {v : Vr} (h : l[i]? = some v) : (vrsV l)[i * 4]? = some (.string v.s) ∧ (vrsV l)[i * 4 + 1]? = some (.int .i64 v.lo) ∧ (vrsV l)[i * 4 + 2]? = some (.int .i64 v.hi) ∧ (vrsV l)[i * 4 + 3]? = some (.int .i64 v.ini) :=
  ⟨flat_get (j := 0) vrV_length h (by omega), flat_get (j := 1) vrV_length h (by omega), flat_get (j := 2) vrV_length h (by omega), flat_get (j := 3) vrV_length h (by omega)⟩
abbrev envV (p : EP) (e : Ev) : Value := .agg #[.slice p.vA p.vn p.vc, .int .i64 e.v0, .int .i64 e.v1, .int .i64 e.v2, .int .i64 e.v3, .slice p.iA p.im p.ic]
/-- The variables lie there. -/
def VarsIn (w : World) (A : Option Addr) (n c : Nat) (l : List Vr) : Prop := n = l.length ∧ Rdk 4 w (.slice A n c) n (vrsV l)
theorem VarsIn.keep {w w' : World} {A : Option Addr} {n c : Nat} {l : List Vr} (h : VarsIn w A n c l) (hb : Below w.heap.size w w') : VarsIn w' A n c l := ⟨h.1, h.2.keep hb⟩
theorem VarsIn.at_ {w : World} {A : Option Addr} {n c : Nat} {l : List Vr} {i : Nat} {v : Vr} (h : VarsIn w A n c l) (hi : l[i]? = some v) :
    ∃ b off, A = some ⟨b, off, none⟩ ∧ b < w.heap.size ∧ w.cell? ⟨b, off + i * 4, none⟩ = some (.string v.s) ∧ w.cell? ⟨b, off + i * 4 + 1, none⟩ = some (.int .i64 v.lo) ∧ w.cell? ⟨b, off + i * 4 + 2, none⟩ = some (.int .i64 v.hi) ∧ w.cell? ⟨b, off + i * 4 + 3, none⟩ = some (.int .i64 v.ini) := by
  obtain ⟨hn, A', c', heq, hc, hl, hA⟩ := h
  cases heq
  have := get_lt hi
  obtain ⟨b, off, rfl, hb, hcell⟩ := hA (by omega)
  obtain ⟨g0, g1, g2, g3⟩ := vrsV_get hi
  exact ⟨b, off, rfl, hb, hcell _ _ g0, by rw [Nat.add_assoc]; exact hcell _ _ g1, by rw [Nat.add_assoc]; exact hcell _ _ g2, by rw [Nat.add_assoc]; exact hcell _ _ g3⟩
theorem VarsIn.cap {w : World} {A : Option Addr} {n c : Nat} {l : List Vr} (h : VarsIn w A n c l) : n ≤ c := by
  obtain ⟨hn, A', c', heq, hc, hl, hA⟩ := h
  cases heq
  exact hc
structure EnvIn (w : World) (p : EP) (e : Ev) : Prop where
  vars : VarsIn w p.vA p.vn p.vc e.vars
  ins : Rd w (.slice p.iA p.im p.ic) (strV e.ins)
  vbd : e.vars.length ≤ 9223372036854775807
  ibd : e.ins.length ≤ 9223372036854775807
theorem EnvIn.keep {w w' : World} {p : EP} {e : Ev} (h : EnvIn w p e) (hb : Below w.heap.size w w') : EnvIn w' p e := ⟨h.vars.keep hb, h.ins.keep hb, h.vbd, h.ibd⟩
theorem vnames_get {e : Ev} {k : Nat} {v : Vr} (h : e.vars[k]? = some v) : (vnames e)[k]? = some v.s := by unfold vnames; rw [List.getElem?_map, h]; rfl
theorem vnames_length (e : Ev) : (vnames e).length = e.vars.length := by simp [vnames]

set_option maxHeartbeats 400000 in
theorem isVar_any (B : Nat) (x s : ByteArray) (lo hi ini : Int) (w : World) (hB : B < w.heap.size) (hc : w.cell? ⟨B, 0, none⟩ = some (.string s)) :
    Calls Tryz.prog 136 #[.agg #[.string x, .int .i64 lo, .int .i64 hi, .int .i64 ini], .pointer (some ⟨B, 0, none⟩)] w (RetB w (x.toList == s.toList)) := by
  have hc' : ∀ o, (w.alloc o).cell? ⟨B, 0, none⟩ = some (.string s) := fun o => (((Below.refl _ w).alloc (Nat.le_refl _) o).cell (p := ⟨B, 0, none⟩) hB).trans hc
  go_enter Tryz.func136, Tryz.ntmps136
  go_wp2
  go_ret
  exact ⟨rfl, (Below.refl _ _).alloc (Nat.le_refl _) _⟩

def VarRel (W : World) (e : Ev) (s : ByteArray) (n : Nat) (i : Value) (wr : World) : Prop := ∃ k : Nat, k ≤ n ∧ i = .int .i64 k ∧ s ∉ (vnames e).take k ∧ Below W.heap.size W wr
set_option maxHeartbeats 1000000 in
theorem indexFunc_any (B : Nat) (A : Option Addr) (n c : Nat) (e : Ev) (s : ByteArray) (w : World) (h : VarsIn w A n c e.vars) (hn63 : n ≤ 9223372036854775807) (hB : B < w.heap.size) (hc : w.cell? ⟨B, 0, none⟩ = some (.string s)) :
    Calls Tryz.prog 72 #[.slice A n c, .func (.func 136) #[] #[.pointer (some ⟨B, 0, none⟩)]] w (RetI w (idxOfS (vnames e) s)) := by
  have HV := Lib.hid h
  have HN := Lib.hid h.1
  have HC := Lib.hid hc
  have hcap := h.cap
  clear h hc
  go_enter Tryz.func72, Tryz.ntmps72
  go_wp2
  go_loopw [8] (fun i wr => VarRel w e s n i wr) (fun i _ => n - (RowKit.intOf i).toNat)
  case atStart => exact ⟨0, Nat.zero_le _, rfl, by simp, Below.refl _ _⟩
  case round =>
    obtain ⟨k, hk, rfl, hno, hbw⟩ := hrel
    have HBW := Lib.hid hbw
    have HO := Lib.hid hno
    clear hno
    by_cases hlt : k < n
    · obtain ⟨v, hv⟩ : ∃ v, e.vars[k]? = some v := get_some (by have := HN.out; omega)
      obtain ⟨b, off, rfl, hb, c0, c1, c2, c3⟩ := (HV.out.keep hbw).at_ hv
      have HX := Lib.hid (vnames_get hv)
      have HCALL := Lib.hid (isVar_any B v.s s v.lo v.hi v.ini wr (Nat.lt_of_lt_of_le hB hbw.size) ((hbw.cell (p := ⟨B, 0, none⟩) hB).trans HC.out))
      clear hv hbw
      obtain ⟨x, lo, hi, ini⟩ := v
      simp only at c0 c1 c2 c3 HX HCALL
      rcases hxs : (x.toList == s.toList) with _ | _
      · rw [hxs] at HCALL
        go_wp2_with (go_at_call 136; (with_reducible refine HCALL.out.mono ?_))
        rintro e2 w3 ⟨rfl, hb3⟩
        have HB3 := Lib.hid (below_two' HBW.out hb3)
        clear hb3
        go_wp2_with fail
        go_roundw
        case rel =>
          refine ⟨k + 1, by omega, by go_num, ?_, HB3.out⟩
          rw [take_next HX.out, List.mem_append, List.mem_singleton]
          rintro (h1 | h1)
          · exact HO.out h1
          · exact bytes_ne hxs h1.symm
        case measure => simp [RowKit.intOf]; omega
      · rw [hxs] at HCALL
        go_wp2_with (go_at_call 136; (with_reducible refine HCALL.out.mono ?_))
        rintro e2 w3 ⟨rfl, hb3⟩
        have HB3 := Lib.hid (below_two' HBW.out hb3)
        clear hb3
        go_wp2_with fail
        go_ret
        exact ⟨ret_int (by rw [← bytes_eq hxs] at HO ⊢; exact (place_hit HX.out HO.out).symm), HB3.out⟩
    · have HE : Hid (idxOfS (vnames e) s = -1) := Lib.hid (by
        have h1 := HN.out
        have h2 := HO.out
        have h3 : (vnames e).length ≤ k := by rw [vnames_length]; omega
        rw [List.take_of_length_le h3] at h2
        exact place_miss h2)
      clear hbw
      go_wp2_with fail
      go_ret
      exact ⟨ret_int HE.out.symm, HBW.out⟩

set_option maxHeartbeats 400000 in
theorem variable_any (p : EP) (e : Ev) (s : ByteArray) (w : World) (h : EnvIn w p e) : Calls Tryz.prog 110 #[envV p e, .string s] w (RetI w (idxOfS (vnames e) s)) := by
  have hv := h.vars
  have hbd : p.vn ≤ 9223372036854775807 := by have := h.vbd; have := hv.1; omega
  obtain ⟨vA, vn, vc, iA, im, ic⟩ := p
  obtain ⟨r, hr⟩ : ∃ r, r = idxOfS (vnames e) s := ⟨_, rfl⟩
  have HIF := Lib.hid (fun B w h => indexFunc_any B vA vn vc e s w h hbd)
  rw [← hr] at HIF ⊢
  have HV := Lib.hid hv
  obtain ⟨vars, v0, v1, v2, v3, ins⟩ := e
  change Calls _ _ #[.agg #[.slice vA vn vc, .int .i64 v0, .int .i64 v1, .int .i64 v2, .int .i64 v3, .slice iA im ic], .string s] _ _
  clear h hv hbd hr
  go_enter Tryz.func110, Tryz.ntmps110
  go_wp2_with (go_at_call 72; (with_reducible refine (HIF.out _ _ (HV.out.keep (((Below.refl _ _).alloc (Nat.le_refl _) _).alloc (by simp) _)) ?_ ?_).mono ?_))
  rintro e2 w3 ⟨rfl, hb3⟩
  go_wp2_with fail
  go_ret
  exact ⟨rfl, below_two' (KitC.below_pair _ _ _) hb3⟩

end Go.Proofs.YtcfcpbkeedfbpaaGreatDoor

namespace Go.Proofs.YtcfcpbkeedfbpaaGreatDoor
namespace ActSpec
open TermSpec NamesSpec ValSpec EvalSpec Go.Lib

structure Ac where
  s : ByteArray
  any : Bool
  x : List Tm
/-- Why an act may not be. -/
def oneA (a : Ac) : Int := if isName a.s.data.toList = false then 1 else if a.any = false then chk a.x else if a.x.length = 0 then 0 else 1
def firstA : List Ac → Int
  | [] => 0
  | a :: r => if oneA a = 0 then firstA r else oneA a
def chkA (l : List Ac) : Int := if 8 < l.length then 8 else firstA l
theorem firstA_stop {l : List Ac} {k : Nat} {a : Ac} (h : l[k]? = some a) (h0 : firstA (l.take k) = 0) (h1 : oneA a ≠ 0) : firstA l = oneA a := by
  induction l generalizing k with
  | nil => simp at h
  | cons b r ih =>
    cases k with
    | zero =>
      simp at h
      subst h
      unfold firstA
      rw [if_neg h1]
    | succ k =>
      rw [List.take_succ_cons] at h0
      unfold firstA at h0 ⊢
      split at h0
      · rename_i hb
        rw [if_pos hb]
        exact ih (by simpa using h) h0
      · rename_i hb
        exact absurd h0 hb
theorem firstA_next {l : List Ac} {k : Nat} {a : Ac} (h : l[k]? = some a) (h0 : firstA (l.take k) = 0) (h1 : oneA a = 0) : firstA (l.take (k + 1)) = 0 := by
  induction l generalizing k with
  | nil => simp at h
  | cons b r ih =>
    cases k with
    | zero =>
      simp at h
      subst h
      simp [firstA, h1]
    | succ k =>
      rw [List.take_succ_cons] at h0 ⊢
      unfold firstA at h0 ⊢
      split at h0
      · rename_i hb
        rw [if_pos hb]
        exact ih (by simpa using h) h0
      · rename_i hb
        exact absurd h0 hb
/-- Values of the four variables. -/
structure V4 where
  a : Int
  b : Int
  c : Int
  d : Int
  deriving DecidableEq
def V4.get (x : V4) (i : Nat) : Int := if i = 0 then x.a else if i = 1 then x.b else if i = 2 then x.c else x.d
def V4.set (x : V4) (i : Nat) (n : Int) : V4 := if i = 0 then { x with a := n } else if i = 1 then { x with b := n } else if i = 2 then { x with c := n } else { x with d := n }
def lessV (x y : V4) : Bool := if x.a ≠ y.a then decide (x.a < y.a) else if x.b ≠ y.b then decide (x.b < y.b) else if x.c ≠ y.c then decide (x.c < y.c) else decide (x.d < y.d)
theorem lessV_irr (x : V4) : lessV x x = false := by simp [lessV]
theorem lessV_tri {x y : V4} (h : x ≠ y) : lessV x y = true ∨ lessV y x = true := by
  obtain ⟨a, b, c, d⟩ := x
  obtain ⟨a', b', c', d'⟩ := y
  unfold lessV
  simp only
  by_cases h1 : a = a'
  · by_cases h2 : b = b'
    · by_cases h3 : c = c'
      · have h4 : d ≠ d' := by
          intro h4
          subst h1; subst h2; subst h3; subst h4
          exact h rfl
        simp [h1, h2, h3]
        omega
      · have h3' : ¬ c' = c := fun h => h3 h.symm
        simp [h1, h2, h3, h3']
        omega
    · have h2' : ¬ b' = b := fun h => h2 h.symm
      simp [h1, h2, h2']
      omega
  · have h1' : ¬ a' = a := fun h => h1 h.symm
    simp [h1, h1']
    omega
theorem lessV_iff (x y : V4) : lessV x y = true ↔ x.a < y.a ∨ (x.a = y.a ∧ (x.b < y.b ∨ (x.b = y.b ∧ (x.c < y.c ∨ (x.c = y.c ∧ x.d < y.d))))) := by
  unfold lessV
  split
  · rw [decide_eq_true_iff]; omega
  · split
    · rw [decide_eq_true_iff]; omega
    · split
      · rw [decide_eq_true_iff]; omega
      · rw [decide_eq_true_iff]; omega
theorem lessV_trans {x y z : V4} (h : lessV x y = true) (h' : lessV y z = true) : lessV x z = true := by
  rw [lessV_iff] at *
  omega
theorem lessV_anti {x y : V4} (h : lessV x y = true) : lessV y x = false := by
  cases hc : lessV y x with
  | false => rfl
  | true =>
    have := lessV_trans h hc
    rw [lessV_irr] at this
    cases this
/-- How many stand ahead of values. -/
def ahead (x : V4) : List V4 → Nat
  | [] => 0
  | y :: r => if lessV y x then ahead x r + 1 else 0
theorem ahead_cons (x y : V4) (r : List V4) : ahead x (y :: r) = if lessV y x then ahead x r + 1 else 0 := rfl
/-- Values put where they stand, if they are not there yet. -/
def withV (l : List V4) (x : V4) : List V4 := if l[ahead x l]? = some x then l else l.take (ahead x l) ++ x :: l.drop (ahead x l)
/-- In order, each once. -/
def Up (l : List V4) : Prop := l.Pairwise fun x y => lessV x y = true
theorem withV_cons (y : V4) (r : List V4) (x : V4) : withV (y :: r) x = if lessV y x then y :: withV r x else if y = x then y :: r else x :: y :: r := by
  unfold withV
  rw [ahead_cons]
  by_cases h : lessV y x = true
  · rw [if_pos h, if_pos h]
    simp only [List.getElem?_cons_succ, List.take_succ_cons, List.drop_succ_cons, List.cons_append]
    split <;> rfl
  · rw [if_neg h, if_neg h]
    simp only [List.getElem?_cons_zero, Option.some.injEq, List.take_zero, List.drop_zero, List.nil_append]
theorem withV_mem {l : List V4} {x y : V4} (h : y ∈ withV l x) : y = x ∨ y ∈ l := by
  unfold withV at h
  split at h
  · exact .inr h
  · rcases List.mem_append.1 h with h | h
    · exact .inr (List.mem_of_mem_take h)
    · rcases List.mem_cons.1 h with h | h
      · exact .inl h
      · exact .inr (List.mem_of_mem_drop h)
theorem withV_has (l : List V4) (x : V4) : x ∈ withV l x := by
  unfold withV
  split
  · rename_i h
    exact List.mem_of_getElem? h
  · simp
theorem withV_keeps {l : List V4} {x y : V4} (h : y ∈ l) : y ∈ withV l x := by
  unfold withV
  split
  · exact h
  · rw [← List.take_append_drop (ahead x l) l] at h
    rcases List.mem_append.1 h with h | h
    · exact List.mem_append_left _ h
    · exact List.mem_append_right _ (List.mem_cons_of_mem _ h)
theorem withV_up {l : List V4} {x : V4} (h : Up l) : Up (withV l x) := by
  induction l with
  | nil => exact List.pairwise_singleton _ _
  | cons y r ih =>
    have h' := List.pairwise_cons.1 h
    rw [withV_cons]
    split
    · rename_i hy
      refine List.pairwise_cons.2 ⟨fun z hz => ?_, ih h'.2⟩
      rcases withV_mem hz with rfl | hz
      · exact hy
      · exact h'.1 z hz
    · rename_i hy
      split
      · exact h
      · rename_i hne
        have hxy : lessV x y = true := by
          rcases lessV_tri hne with h | h
          · exact absurd h hy
          · exact h
        refine List.pairwise_cons.2 ⟨fun z hz => ?_, h⟩
        rcases List.mem_cons.1 hz with rfl | hz
        · exact hxy
        · exact lessV_trans hxy (h'.1 z hz)
theorem up_eq {l l' : List V4} (h : Up l) (h' : Up l') (he : ∀ x, x ∈ l ↔ x ∈ l') : l = l' := by
  induction l generalizing l' with
  | nil =>
    cases l' with
    | nil => rfl
    | cons y r => exact absurd ((he y).2 (by simp)) (by simp)
  | cons x r ih =>
    cases l' with
    | nil => exact absurd ((he x).1 (by simp)) (by simp)
    | cons y r' =>
      have hx := List.pairwise_cons.1 h
      have hy := List.pairwise_cons.1 h'
      have hxy : x = y := by
        rcases List.mem_cons.1 ((he x).1 (by simp)) with e | e
        · exact e
        · rcases List.mem_cons.1 ((he y).2 (by simp)) with e' | e'
          · exact e'.symm
          · have h1 := hy.1 x e
            have h2 := hx.1 y e'
            rw [lessV_anti h1] at h2
            cases h2
      subst hxy
      congr 1
      refine ih hx.2 hy.2 fun z => ⟨fun hz => ?_, fun hz => ?_⟩
      · rcases List.mem_cons.1 ((he z).1 (List.mem_cons_of_mem _ hz)) with e | e
        · subst e
          have := hx.1 z hz
          rw [lessV_irr] at this
          cases this
        · exact e
      · rcases List.mem_cons.1 ((he z).2 (List.mem_cons_of_mem _ hz)) with e | e
        · subst e
          have := hy.1 z hz
          rw [lessV_irr] at this
          cases this
        · exact e
def allV (l : List V4) (xs : List V4) : List V4 := xs.foldl withV l
theorem allV_up {l xs : List V4} (h : Up l) : Up (allV l xs) := by
  induction xs generalizing l with
  | nil => exact h
  | cons x r ih => exact ih (withV_up h)
theorem allV_mem {l xs : List V4} {y : V4} : y ∈ allV l xs ↔ y ∈ l ∨ y ∈ xs := by
  induction xs generalizing l with
  | nil => simp [allV]
  | cons x r ih =>
    show y ∈ allV (withV l x) r ↔ _
    rw [ih, List.mem_cons]
    constructor
    · rintro (h | h)
      · rcases withV_mem h with h | h
        · exact .inr (.inl h)
        · exact .inl h
      · exact .inr (.inr h)
    · rintro (h | h | h)
      · exact .inl (withV_keeps h)
      · subst h; exact .inl (withV_has _ _)
      · exact .inr h

/-- The Env with other values. -/
def envAt (e : Ev) (x : V4) : Ev := { e with v0 := x.a, v1 := x.b, v2 := x.c, v3 := x.d }
def vals (e : Ev) : V4 := ⟨e.v0, e.v1, e.v2, e.v3⟩
/-- The variable of an act, if there is one. -/
def varOf (e : Ev) (a : Ac) : Option (Nat × Vr) := let p := idxOfS (vnames e) a.s; if p < 0 then none else (e.vars[p.toNat]?).map fun v => (p.toNat, v)
/-- What one list of values comes to by an act at a place. -/
def stepsA (e : Ev) (a : Ac) (i : Nat) (v : Vr) (x : V4) : List V4 :=
  if a.any then (List.range ((v.hi - v.lo + 1).toNat)).map fun (k : Nat) => x.set i (v.lo + k)
  else [x.set i (let n := comeE (envAt e x) a.x; if n < v.lo then v.lo else if v.hi < n then v.hi else n)]
def spanB (v : Vr) : Bool := decide (v.lo ≤ v.hi) && decide (v.hi - v.lo ≤ 63)
/-- Why an act comes to nothing, ahead of the lists. -/
def badA (e : Ev) (a : Ac) : Int :=
  match varOf e a with
  | none => 7
  | some (_, v) => if a.any then (if spanB v then 0 else 1) else if chkE e a.x ≠ 0 then chkE e a.x else if typ a.x = 1 then 0 else 4
def stepA (e : Ev) (a : Ac) (now : List V4) : Int × List V4 :=
  if badA e a ≠ 0 then (badA e a, []) else
  match varOf e a with
  | none => (7, [])
  | some (i, v) =>
    let out := allV [] (now.flatMap (stepsA e a i v))
    if 64 < out.length then (12, []) else (0, out)
def runA (e : Ev) : List Ac → List V4 → Int × List V4
  | [], now => (0, now)
  | a :: r, now => if (stepA e a now).1 = 0 then runA e r (stepA e a now).2 else ((stepA e a now).1, [])
def runE (e : Ev) (l : List Ac) : Int × List V4 := if 4 < e.vars.length then (1, []) else if chkA l ≠ 0 then (chkA l, []) else runA e l [vals e]
theorem varOf_lt {e : Ev} {a : Ac} {i : Nat} {v : Vr} (h : varOf e a = some (i, v)) : e.vars[i]? = some v := by
  unfold varOf at h
  simp only at h
  split at h
  · cases h
  · cases hv : e.vars[(idxOfS (vnames e) a.s).toNat]? with
    | none => rw [hv] at h; cases h
    | some u => rw [hv] at h; cases h; exact hv
end ActSpec
end Go.Proofs.YtcfcpbkeedfbpaaGreatDoor

namespace Go.Proofs.YtcfcpbkeedfbpaaGreatDoor
open Go.RowKit TermSpec
set_option maxRecDepth 100000

set_option maxHeartbeats 1600000 in
theorem arity_any (o : Int) (w : World) : Calls Tryz.prog 140 #[.int .i64 o] w (SameI w (ar o)) := by
  go_enter Tryz.func140, Tryz.ntmps140
  go_wp2_with fail
  all_goals
    go_ret
    exact ⟨ret_int (by simp_all [ar]), rfl⟩

def RetTwo (W : World) (a b : Int) (e : Ending) (w' : World) : Prop := e = .returned (.tuple #[.int .i64 a, .int .i64 b]) ∧ W = w'
set_option maxHeartbeats 1600000 in
theorem types_any (o : Int) (w : World) : Calls Tryz.prog 113 #[.int .i64 o] w (RetTwo w (ownT o) (askT o)) := by
  go_enter Tryz.func113, Tryz.ntmps113
  go_wp2_with fail
  all_goals
    go_ret2
    exact ⟨by simp_all [ownT, askT], rfl⟩

theorem rarity_out (o : Int) (h : o < 1 ∨ 20 < o) (w : World) : Calls Tryz.prog 98 #[.int .i64 o] w (RetI w (ar o)) := by
  have HE := Lib.hid (ar_out h)
  by_cases h1 : o < 1
  · clear h
    go_enter Tryz.func98, Tryz.ntmps98
    go_wp2_with fail
    go_ret
    exact ⟨ret_int HE.out.symm, Below.refl _ _⟩
  · have h2 : 20 < o := by omega
    clear h
    go_enter Tryz.func98, Tryz.ntmps98
    go_wp2_with fail
    go_ret
    exact ⟨ret_int HE.out.symm, Below.refl _ _⟩
theorem arl_at (n : Nat) (h1 : 1 ≤ n) (h : n < 21) : ([Value.int .i64 0, Value.int .i64 0, Value.int .i64 0, Value.int .i64 1, Value.int .i64 2, Value.int .i64 2, Value.int .i64 2, Value.int .i64 2, Value.int .i64 2, Value.int .i64 0, Value.int .i64 0, Value.int .i64 0, Value.int .i64 1, Value.int .i64 2, Value.int .i64 2, Value.int .i64 2, Value.int .i64 2, Value.int .i64 2, Value.int .i64 2, Value.int .i64 2, Value.int .i64 2])[n] = .int .i64 (ar n) := by
  have : n = 1 ∨ n = 2 ∨ n = 3 ∨ n = 4 ∨ n = 5 ∨ n = 6 ∨ n = 7 ∨ n = 8 ∨ n = 9 ∨ n = 10 ∨ n = 11 ∨ n = 12 ∨ n = 13 ∨ n = 14 ∨ n = 15 ∨ n = 16 ∨ n = 17 ∨ n = 18 ∨ n = 19 ∨ n = 20 := by omega
  rcases this with rfl | rfl | rfl | rfl | rfl | rfl | rfl | rfl | rfl | rfl | rfl | rfl | rfl | rfl | rfl | rfl | rfl | rfl | rfl | rfl <;> rfl
set_option maxHeartbeats 800000 in
theorem rarity_in (n : Nat) (h1 : 1 ≤ n) (h : n ≤ 20) (w : World) : Calls Tryz.prog 98 #[.int .i64 n] w (RetI w (ar n)) := by
  have h21 : n < 21 := by omega
  have h21' : (n : Int) < 21 := by omega
  have h20 : ¬ 20 < (n : Int) := by omega
  have HE := Lib.hid (arl_at n h1 h21)
  go_enter Tryz.func98, Tryz.ntmps98
  go_wp2_with fail
  go_ret
  exact ⟨congrArg Ending.returned HE.out, (Below.refl _ _).alloc (Nat.le_refl _) _⟩
theorem rarity_any (o : Int) (w : World) : Calls Tryz.prog 98 #[.int .i64 o] w (RetI w (ar o)) := by
  by_cases h : o < 1 ∨ 20 < o
  · exact rarity_out o h w
  · obtain ⟨n, rfl⟩ := Int.eq_ofNat_of_zero_le (show 0 ≤ o by omega)
    exact rarity_in n (by omega) (by omega) w
end Go.Proofs.YtcfcpbkeedfbpaaGreatDoor

namespace Go.Proofs.YtcfcpbkeedfbpaaGreatDoor
open Go.RowKit NamesSpec Go.Lib
set_option maxRecDepth 100000

theorem keywords_any (w : World) : Calls Tryz.prog 90 #[] w (RetStrs w kwS) := by
  go_enter Tryz.func90, Tryz.ntmps90
  go_wp2
  go_ret
  exact ⟨_, rfl, Rd.lit (cs := (strV kwS).toArray) rfl, (Below.refl _ _).alloc (Nat.le_refl _) _⟩

theorem toList_of (s : ByteArray) : s.toList = s.data.toList := ByteArray.toList_eq s
theorem kw_yes {s : ByteArray} {x : List UInt8} (h : (s.toList == x) = true) (hx : isKw x = true) : isKw s.data.toList = true := by
  rw [← toList_of, eq_of_beq h]; exact hx
theorem kw_no {s : ByteArray} (h : ∀ x ∈ kw, (s.toList == x) = false) : isKw s.data.toList = false := by
  rw [← toList_of]
  unfold isKw
  rw [Bool.eq_false_iff]
  intro hc
  have hm := List.contains_iff_mem.1 hc
  have := h _ hm
  simp at this

set_option maxHeartbeats 800000 in
theorem keyword_any (s : ByteArray) (w : World) : Calls Tryz.prog 93 #[.string s] w fun e w' => e = .returned (.bool (isKw s.data.toList)) ∧ w = w' := by
  rcases h0 : (s.toList == [99, 104, 97, 114, 116]) with _ | _
  case true =>
    go_enter Tryz.func93, Tryz.ntmps93
    go_wp2
    go_ret
    exact ⟨ret_bool (kw_yes h0 (by decide)).symm, rfl⟩
  rcases h1 : (s.toList == [101, 118, 101, 110, 116]) with _ | _
  case true =>
    go_enter Tryz.func93, Tryz.ntmps93
    go_wp2
    go_ret
    exact ⟨ret_bool (kw_yes h1 (by decide)).symm, rfl⟩
  rcases h2 : (s.toList == [118, 97, 114]) with _ | _
  case true =>
    go_enter Tryz.func93, Tryz.ntmps93
    go_wp2
    go_ret
    exact ⟨ret_bool (kw_yes h2 (by decide)).symm, rfl⟩
  rcases h3 : (s.toList == [108, 101, 97, 102]) with _ | _
  case true =>
    go_enter Tryz.func93, Tryz.ntmps93
    go_wp2
    go_ret
    exact ⟨ret_bool (kw_yes h3 (by decide)).symm, rfl⟩
  rcases h4 : (s.toList == [111, 114]) with _ | _
  case true =>
    go_enter Tryz.func93, Tryz.ntmps93
    go_wp2
    go_ret
    exact ⟨ret_bool (kw_yes h4 (by decide)).symm, rfl⟩
  rcases h5 : (s.toList == [97, 110, 100]) with _ | _
  case true =>
    go_enter Tryz.func93, Tryz.ntmps93
    go_wp2
    go_ret
    exact ⟨ret_bool (kw_yes h5 (by decide)).symm, rfl⟩
  rcases h6 : (s.toList == [101, 110, 116, 101, 114]) with _ | _
  case true =>
    go_enter Tryz.func93, Tryz.ntmps93
    go_wp2
    go_ret
    exact ⟨ret_bool (kw_yes h6 (by decide)).symm, rfl⟩
  rcases h7 : (s.toList == [101, 120, 105, 116]) with _ | _
  case true =>
    go_enter Tryz.func93, Tryz.ntmps93
    go_wp2
    go_ret
    exact ⟨ret_bool (kw_yes h7 (by decide)).symm, rfl⟩
  rcases h8 : (s.toList == [111, 110]) with _ | _
  case true =>
    go_enter Tryz.func93, Tryz.ntmps93
    go_wp2
    go_ret
    exact ⟨ret_bool (kw_yes h8 (by decide)).symm, rfl⟩
  rcases h9 : (s.toList == [97, 117, 116, 111]) with _ | _
  case true =>
    go_enter Tryz.func93, Tryz.ntmps93
    go_wp2
    go_ret
    exact ⟨ret_bool (kw_yes h9 (by decide)).symm, rfl⟩
  rcases h10 : (s.toList == [97, 110, 121]) with _ | _
  case true =>
    go_enter Tryz.func93, Tryz.ntmps93
    go_wp2
    go_ret
    exact ⟨ret_bool (kw_yes h10 (by decide)).symm, rfl⟩
  rcases h11 : (s.toList == [105, 110]) with _ | _
  case true =>
    go_enter Tryz.func93, Tryz.ntmps93
    go_wp2
    go_ret
    exact ⟨ret_bool (kw_yes h11 (by decide)).symm, rfl⟩
  rcases h12 : (s.toList == [109, 105, 110]) with _ | _
  case true =>
    go_enter Tryz.func93, Tryz.ntmps93
    go_wp2
    go_ret
    exact ⟨ret_bool (kw_yes h12 (by decide)).symm, rfl⟩
  rcases h13 : (s.toList == [109, 97, 120]) with _ | _
  case true =>
    go_enter Tryz.func93, Tryz.ntmps93
    go_wp2
    go_ret
    exact ⟨ret_bool (kw_yes h13 (by decide)).symm, rfl⟩
  rcases h14 : (s.toList == [110, 111, 116]) with _ | _
  case true =>
    go_enter Tryz.func93, Tryz.ntmps93
    go_wp2
    go_ret
    exact ⟨ret_bool (kw_yes h14 (by decide)).symm, rfl⟩
  rcases h15 : (s.toList == [116, 114, 117, 101]) with _ | _
  case true =>
    go_enter Tryz.func93, Tryz.ntmps93
    go_wp2
    go_ret
    exact ⟨ret_bool (kw_yes h15 (by decide)).symm, rfl⟩
  rcases h16 : (s.toList == [102, 97, 108, 115, 101]) with _ | _
  case true =>
    go_enter Tryz.func93, Tryz.ntmps93
    go_wp2
    go_ret
    exact ⟨ret_bool (kw_yes h16 (by decide)).symm, rfl⟩
  have HK : Hid (isKw s.data.toList = false) := Lib.hid (kw_no (by
    intro x hx
    simp only [kw, List.mem_cons, List.not_mem_nil, or_false] at hx
    rcases hx with rfl | rfl | rfl | rfl | rfl | rfl | rfl | rfl | rfl | rfl | rfl | rfl | rfl | rfl | rfl | rfl | rfl <;> assumption))
  go_enter Tryz.func93, Tryz.ntmps93
  go_wp2
  go_ret
  exact ⟨ret_bool HK.out.symm, rfl⟩

/-- May a name begin with a rune; may a rune stand in one? -/
def begB (r : Int) : Bool := decide (97 ≤ r) && decide (r ≤ 122)
def goB (r : Int) : Bool := begB r || decide (48 ≤ r) && decide (r ≤ 57) || decide (r = 95)
theorem begins_any (r : Int) (w : World) : Calls Tryz.prog 94 #[.int .i32 r] w fun e w' => e = .returned (.bool (begB r)) ∧ w = w' := by
  by_cases h1 : 97 ≤ r <;> by_cases h2 : r ≤ 122
  all_goals
    go_enter Tryz.func94, Tryz.ntmps94
    go_wp2
    go_ret
    exact ⟨ret_bool (by unfold begB; simp [h1, h2]), rfl⟩
theorem begins_is {r : Int} {b : Bool} (h : begB r = b) (w : World) : Calls Tryz.prog 94 #[.int .i32 r] w fun e w' => e = .returned (.bool b) ∧ w = w' := by
  subst h; exact begins_any r w
theorem goesOn_any (r : Int) (w : World) : Calls Tryz.prog 95 #[.int .i32 r] w fun e w' => e = .returned (.bool (goB r)) ∧ w = w' := by
  rcases hb : begB r with _ | _
  all_goals
    have HB := Lib.hid hb
    clear hb
    by_cases h1 : 48 ≤ r <;> by_cases h2 : r ≤ 57 <;> by_cases h3 : r = 95
    all_goals first
      | (exfalso; omega)
      | (try subst h3
         go_enter Tryz.func95, Tryz.ntmps95
         go_wp2_with (go_at_call 94; refine (begins_is HB.out _).mono ?_; rintro e w' ⟨rfl, rfl⟩)
         go_ret
         exact ⟨ret_bool (by unfold goB; rw [HB.out, Bool.eq_iff_iff]; simp; try omega), rfl⟩)
theorem goesOn_is {r : Int} {b : Bool} (h : goB r = b) (w : World) : Calls Tryz.prog 95 #[.int .i32 r] w fun e w' => e = .returned (.bool b) ∧ w = w' := by
  subst h; exact goesOn_any r w

theorem get_bang (s : ByteArray) (i : Nat) (h : i < s.size) : s.get! i = s[i] := by
  simp [ByteArray.get!, getElem!_pos, h]; rfl
theorem dec_big (s : ByteArray) (i : Nat) (h : i < s.size) (hb : 128 ≤ s[i].toNat) : 128 ≤ (Utf8.decode s i).1 := by
  unfold Utf8.decode
  simp only [Nat.add_zero, get_bang s i h]
  rw [if_neg (by omega)]
  repeat' split
  all_goals (try simp only [Utf8.runeError]) <;> (try simp only [Bool.and_eq_true, decide_eq_true_eq, ge_iff_le] at *) <;> omega
theorem goB_of (c : UInt8) : goB (c.toNat : Int) = later c := by
  rw [Bool.eq_iff_iff]
  simp [goB, begB, later, letter, UInt8.le_iff_toNat_le, ← UInt8.toNat_inj]
  omega
theorem begB_of (c : UInt8) : begB (c.toNat : Int) = letter c := by
  rw [Bool.eq_iff_iff]
  simp [begB, letter, UInt8.le_iff_toNat_le]
  omega
theorem later_small {c : UInt8} (h : later c = true) : c.toNat < 128 := by
  simp [later, letter, UInt8.le_iff_toNat_le, ← UInt8.toNat_inj] at h
  omega
theorem dec_later (s : ByteArray) (i : Nat) (h : i < s.size) : goB ((Utf8.decode s i).1 : Int) = later s[i] := by
  by_cases hb : s[i].toNat < 128
  · rw [decode_ascii s i h hb]; exact goB_of _
  · have h1 := dec_big s i h (by omega)
    have h2 : later s[i] = false := by
      rw [← Bool.not_eq_true]; intro hc; exact hb (later_small hc)
    rw [h2, ← Bool.not_eq_true]
    simp [goB, begB]
    omega
theorem dec_letter (s : ByteArray) (i : Nat) (h : i < s.size) : begB ((Utf8.decode s i).1 : Int) = letter s[i] := by
  by_cases hb : s[i].toNat < 128
  · rw [decode_ascii s i h hb]; exact begB_of _
  · have h1 := dec_big s i h (by omega)
    have h2 : letter s[i] = false := by
      rw [← Bool.not_eq_true]; intro hc; exact hb (later_small (letter_later hc))
    rw [h2, ← Bool.not_eq_true]
    simp [begB]
    omega
theorem dec_one (s : ByteArray) (i : Nat) (h : i < s.size) (hl : later s[i] = true) : (Utf8.decode s i).2 = 1 := by rw [decode_ascii s i h (later_small hl)]
theorem byte_at (s : ByteArray) (i : Nat) (h : i < s.size) : s.data.toList[i]? = some s[i] := by
  rw [List.getElem?_eq_getElem (by simpa using h)]; rfl
theorem str_nil' {s : ByteArray} (h : s.size = 0) : s.toList = [] := by
  rw [ByteArray.toList_eq, ← List.length_eq_zero_iff]; exact h
theorem str_ne' {s : ByteArray} (h : 0 < s.size) : s.toList.isEmpty = false := by
  have e : s.toList.length = s.size := by rw [ByteArray.toList_eq]; rfl
  cases h' : s.toList with
  | nil => rw [h'] at e; simp at e; omega
  | cons a l => rfl
theorem size_list (s : ByteArray) : s.data.toList.length = s.size := rfl

def IsRel (W : World) (s : ByteArray) (wr : World) : Prop := ∃ pos, pos ≤ s.size ∧ wr.heap[W.heap.size]? = some (.stringIter s pos) ∧ Below W.heap.size W wr ∧ (s.data.toList.take pos).all later = true ∧ (0 < pos → ∀ c, s.data.toList[0]? = some c → letter c = true)
theorem isRel_next {W wr : World} {s : ByteArray} {pos : Nat} (hp : pos < s.size) (hit : wr.heap[W.heap.size]? = some (.stringIter s pos)) (hb : Below W.heap.size W wr) (ha : (s.data.toList.take pos).all later = true)
    (h0 : 0 < pos → ∀ c, s.data.toList[0]? = some c → letter c = true) (hl : later s[pos] = true) (hz : pos = 0 → letter s[pos] = true) : IsRel W s (wr.iterAt W.heap.size s (pos + 1)) := by
  refine ⟨pos + 1, by omega, iterAt_heap _ _ _ _ _ hit, below_iterAt hb (Nat.le_refl _) _ _, ?_, fun _ c hc => ?_⟩
  · rw [take_next (byte_at s pos hp), List.all_append, ha]; simpa using hl
  · rcases Nat.eq_zero_or_pos pos with h | h
    · subst h
      rw [byte_at s 0 hp] at hc
      injection hc with hc
      exact hc ▸ hz rfl
    · exact h0 h c hc

set_option maxHeartbeats 1600000 in
theorem is_any (s : ByteArray) (w : World) (hs : s.size ≤ 9223372036854775807) : Calls Tryz.prog 53 #[.string s] w fun e w' => e = .returned (.bool (isName s.data.toList)) ∧ Below w.heap.size w w' := by
  rcases Nat.eq_zero_or_pos s.size with h0 | h0
  · have HE : Hid (isName s.data.toList = false) := Lib.hid (isName_size (.inl h0))
    have hnil := str_nil' h0
    clear h0 hs
    go_enter Tryz.func53, Tryz.ntmps53
    go_wp2
    go_ret
    exact ⟨ret_bool HE.out.symm, Below.refl _ _⟩
  · have hne := str_ne' h0
    by_cases h12 : 12 < s.size
    · have HE : Hid (isName s.data.toList = false) := Lib.hid (isName_size (.inr h12))
      go_enter Tryz.func53, Tryz.ntmps53
      go_wp2
      go_ret
      exact ⟨ret_bool HE.out.symm, Below.refl _ _⟩
    · rcases hk : isKw s.data.toList with _ | _
      case true =>
        have HE : Hid (isName s.data.toList = false) := Lib.hid (isName_kw hk)
        have HC := Lib.hid (hk ▸ keyword_any s w)
        clear hk
        go_enter Tryz.func53, Tryz.ntmps53
        go_wp2_with (go_at_call 93; refine HC.out.mono ?_; rintro e w' ⟨rfl, rfl⟩)
        go_ret
        exact ⟨ret_bool HE.out.symm, Below.refl _ _⟩
      have HC := Lib.hid (hk ▸ keyword_any s w)
      have HK := Lib.hid hk
      clear hk
      go_enter Tryz.func53, Tryz.ntmps53
      go_wp2_with (go_at_call 93; refine HC.out.mono ?_; rintro e w' ⟨rfl, rfl⟩)
      go_loopw [] (fun wr => IsRel w s wr) (fun wr => s.size - wr.iterPos w.heap.size)
      case atStart => exact ⟨0, Nat.zero_le _, World.iter_heap w s 0, (Below.refl _ w).alloc (Nat.le_refl _) _, rfl, fun h => absurd h (by omega)⟩
      case round =>
        obtain ⟨pos, hps, hit, hbw, hall, hhead⟩ := hrel
        by_cases hp : pos < s.size
        · have hnx : ∀ ty, (Instr.next (.pointer (some ⟨w.heap.size, 0, none⟩)) true ty).run Tryz.prog wr = _ := fun ty => Lib.run_next_any_at wr w.heap.size s pos ty hit hp
          have hgo := dec_later s pos hp
          have hbe := dec_letter s pos hp
          have hw1 := dec_one s pos hp
          have hat := byte_at s pos hp
          have hrel := isRel_next hp hit hbw hall hhead
          have HM : Hid (s.size - (wr.iterAt w.heap.size s (pos + 1)).iterPos w.heap.size < s.size - wr.iterPos w.heap.size) := Lib.hid (by
            simp only [World.iterPos, iterAt_heap _ _ _ _ _ hit, hit]; omega)
          obtain ⟨c, hc⟩ : ∃ c, c = s[pos] := ⟨_, rfl⟩
          rw [← hc] at hgo hbe hw1 hat hrel
          clear hc
          obtain ⟨r, hr⟩ : ∃ r, r = (Utf8.decode s pos).1 := ⟨_, rfl⟩
          obtain ⟨wd, hwd⟩ : ∃ wd, wd = (Utf8.decode s pos).2 := ⟨_, rfl⟩
          rw [← hr] at hgo hbe hnx
          rw [← hwd] at hw1 hnx
          clear hr hwd hall hhead
          have HB := Lib.hid hbw
          have HA := Lib.hid hat
          clear hat hit hbw
          rcases Nat.eq_zero_or_pos pos with hz | hz
          · subst hz
            rcases hl : letter c with _ | _
            · have HE : Hid (isName s.data.toList = false) := Lib.hid (isName_head HA.out hl)
              have HBc := Lib.hid (begins_is (hbe.trans hl))
              clear hl hbe hgo hw1 hrel HM
              go_wp2_with (go_at_call 94; refine (HBc.out _).mono ?_; rintro e w' ⟨rfl, rfl⟩)
              go_ret
              exact ⟨ret_bool HE.out.symm, below_iterAt HB.out (Nat.le_refl _) _ _⟩
            · have HBc := Lib.hid (begins_is (hbe.trans hl))
              have HGc := Lib.hid (goesOn_is (hgo.trans (letter_later hl)))
              have HR := Lib.hid (hrel (letter_later hl) (fun _ => hl))
              obtain rfl : wd = 1 := hw1 (letter_later hl)
              clear hl hbe hgo hrel hw1
              go_wp2_with (first | (go_at_call 94; refine (HBc.out _).mono ?_; rintro e w' ⟨rfl, rfl⟩) | (go_at_call 95; refine (HGc.out _).mono ?_; rintro e w' ⟨rfl, rfl⟩))
              go_roundw
              case rel => exact HR.out
              case measure => exact HM.out
          · have hz' : ((pos : Int) == 0) = false := by simp; omega
            rcases hl : later c with _ | _
            · have HE : Hid (isName s.data.toList = false) := Lib.hid (isName_later HA.out hl)
              have HGc := Lib.hid (goesOn_is (hgo.trans hl))
              clear hl hbe hgo hw1 hrel HM
              go_wp2_with (go_at_call 95; refine (HGc.out _).mono ?_; rintro e w' ⟨rfl, rfl⟩)
              go_ret
              exact ⟨ret_bool HE.out.symm, below_iterAt HB.out (Nat.le_refl _) _ _⟩
            · have HGc := Lib.hid (goesOn_is (hgo.trans hl))
              have HR := Lib.hid (hrel hl (fun h => absurd h (by omega)))
              obtain rfl : wd = 1 := hw1 hl
              clear hl hbe hgo hrel hw1
              go_wp2_with (go_at_call 95; refine (HGc.out _).mono ?_; rintro e w' ⟨rfl, rfl⟩)
              go_roundw
              case rel => exact HR.out
              case measure => exact HM.out
        · have hnx : ∀ ty, (Instr.next (.pointer (some ⟨w.heap.size, 0, none⟩)) true ty).run Tryz.prog wr = _ := fun ty => Lib.run_next_end_at wr w.heap.size s pos ty hit hp
          have hall' : s.data.toList.all later = true := by rw [List.take_of_length_le (by rw [size_list]; omega)] at hall; exact hall
          have HE : Hid (isName s.data.toList = true) := Lib.hid (isName_yes (by rw [size_list]; omega) (by rw [size_list]; omega) HK.out hall' (hhead (by omega)))
          clear hall hall' hhead
          go_wp2
          go_ret
          exact ⟨ret_bool HE.out.symm, hbw⟩
end Go.Proofs.YtcfcpbkeedfbpaaGreatDoor

namespace Go.Proofs.YtcfcpbkeedfbpaaGreatDoor
open Go.RowKit NamesSpec Go.Lib
set_option maxRecDepth 100000

theorem letter_iff (c : UInt8) : letter c = true ↔ 97 ≤ (c.toNat : Int) ∧ (c.toNat : Int) ≤ 122 := by
  simp [letter, UInt8.le_iff_toNat_le]; omega
theorem later_iff (c : UInt8) : later c = true ↔ (97 ≤ (c.toNat : Int) ∧ (c.toNat : Int) ≤ 122) ∨ (48 ≤ (c.toNat : Int) ∧ (c.toNat : Int) ≤ 57) ∨ (c.toNat : Int) = 95 := by
  rw [later, Bool.or_eq_true, Bool.or_eq_true, letter_iff]
  simp [UInt8.le_iff_toNat_le, ← UInt8.toNat_inj]; omega
theorem kw_place_is {s : ByteArray} {b : Bool} (h : isKw s.data.toList = b) : decide (0 ≤ idxOfS kwS s) = b := by rw [place_kw, h]

def RIsRel (s : ByteArray) (i : Value) : Prop := ∃ k : Nat, k ≤ s.size ∧ i = .int .i64 k ∧ (s.data.toList.take k).all later = true ∧ (0 < k → ∀ c, s.data.toList[0]? = some c → letter c = true)
theorem risRel_next {s : ByteArray} {k : Nat} (hp : k < s.size) (ha : (s.data.toList.take k).all later = true) (h0 : 0 < k → ∀ c, s.data.toList[0]? = some c → letter c = true) (hl : later s[k] = true) (hz : k = 0 → letter s[k] = true) : RIsRel s (.int .i64 (k + 1 : Nat)) := by
  refine ⟨k + 1, by omega, rfl, ?_, fun _ c hc => ?_⟩
  · rw [take_next (byte_at s k hp), List.all_append, ha]; simpa using hl
  · rcases Nat.eq_zero_or_pos k with h | h
    · subst h
      rw [byte_at s 0 hp] at hc
      injection hc with hc
      exact hc ▸ hz rfl
    · exact h0 h c hc

set_option maxHeartbeats 1600000 in
theorem ris_any (s : ByteArray) (w : World) (hs : s.size ≤ 9223372036854775807) : Calls Tryz.prog 51 #[.string s] w fun e w' => e = .returned (.bool (isName s.data.toList)) ∧ Below w.heap.size w w' := by
  by_cases h0 : s.size < 1
  · have HE : Hid (isName s.data.toList = false) := Lib.hid (isName_size (.inl (by rw [size_list]; omega)))
    go_enter Tryz.func51, Tryz.ntmps51
    go_wp2
    go_ret
    exact ⟨ret_bool HE.out.symm, Below.refl _ _⟩
  by_cases h12 : 12 < s.size
  · have HE : Hid (isName s.data.toList = false) := Lib.hid (isName_size (.inr h12))
    go_enter Tryz.func51, Tryz.ntmps51
    go_wp2
    go_ret
    exact ⟨ret_bool HE.out.symm, Below.refl _ _⟩
  rcases hk : isKw s.data.toList with _ | _
  case true =>
    have HE : Hid (isName s.data.toList = false) := Lib.hid (isName_kw hk)
    have hpl := kw_place_is hk
    clear hk
    go_enter Tryz.func51, Tryz.ntmps51
    go_wp2_with (first
      | (go_at_call 90; refine (keywords_any _).mono ?_; rintro e w' ⟨v, rfl, hrd, hbw⟩)
      | (go_at_call 89; refine (rplace_any _ kwS s _ hrd (by decide)).mono ?_; rintro e w' ⟨rfl, rfl⟩))
    go_ret
    exact ⟨ret_bool HE.out.symm, hbw⟩
  have hpl := kw_place_is hk
  have HK := Lib.hid hk
  clear hk
  go_enter Tryz.func51, Tryz.ntmps51
  go_wp2_with (first
    | (go_at_call 90; refine (keywords_any _).mono ?_; rintro e w' ⟨v, rfl, hrd, hbw⟩)
    | (go_at_call 89; refine (rplace_any _ kwS s _ hrd (by decide)).mono ?_; rintro e w' ⟨rfl, rfl⟩))
  clear hrd hpl
  go_loop [3] (fun i => RIsRel s i) (fun i => s.size - (RowKit.intOf i).toNat)
  case atStart => exact ⟨0, Nat.zero_le _, rfl, rfl, fun h => absurd h (by omega)⟩
  case round =>
    obtain ⟨k, hks, rfl, hall, hhead⟩ := hrel
    by_cases hp : k < s.size
    · have hrel := risRel_next hp hall hhead
      have hat := byte_at s k hp
      have hli := letter_iff s[k]
      have hla := later_iff s[k]
      have hub : (s[k].toNat : Int) ≤ 255 := by have := s[k].toNat_lt; omega
      have hlb : 0 ≤ (s[k].toNat : Int) := by omega
      by_cases hL : letter s[k] = true
      · have HR := Lib.hid (hrel (letter_later hL) (fun _ => hL))
        obtain ⟨g1, g2⟩ := hli.1 hL
        clear hrel hat hli hla hL hall hhead
        go_wp2
        go_round
        case rel => exact HR.out
        case measure => simp [RowKit.intOf]; omega
      · rcases Nat.eq_zero_or_pos k with hz | hz
        · subst hz
          have HE : Hid (isName s.data.toList = false) := Lib.hid (isName_head hat (by simpa using hL))
          have g : ¬ (97 ≤ (s[0].toNat : Int) ∧ (s[0].toNat : Int) ≤ 122) := fun h => hL (hli.2 h)
          clear hrel hat hli hla hL hall hhead
          by_cases g1 : 97 ≤ (s[0].toNat : Int)
          · have g2 : 122 < (s[0].toNat : Int) := by omega
            clear g
            go_wp2
            go_ret
            exact ⟨ret_bool HE.out.symm, hbw⟩
          · clear g
            go_wp2
            go_ret
            exact ⟨ret_bool HE.out.symm, hbw⟩
        · have hz' : ((k : Int) == 0) = false := by simp; omega
          have g : ¬ (97 ≤ (s[k].toNat : Int) ∧ (s[k].toNat : Int) ≤ 122) := fun h => hL (hli.2 h)
          by_cases hla' : later s[k] = true
          · have HR := Lib.hid (hrel hla' (fun h => absurd h (by omega)))
            have g3 := hla.1 hla'
            clear hrel hat hli hla hL hall hhead hla'
            have g4 : (48 ≤ (s[k].toNat : Int) ∧ (s[k].toNat : Int) ≤ 57) ∨ (s[k].toNat : Int) = 95 := by omega
            clear g3
            rcases g4 with ⟨g5, g6⟩ | g5
            · have g1 : ¬ 97 ≤ (s[k].toNat : Int) := by omega
              have g7 : ((s[k].toNat : Int) != 95) = true := by simp; omega
              clear g
              go_wp2
              go_round
              case rel => exact HR.out
              case measure => simp [RowKit.intOf]; omega
            · have g1 : ¬ 97 ≤ (s[k].toNat : Int) := by omega
              have g7 : ((s[k].toNat : Int) != 95) = false := by simp; omega
              clear g g5
              go_wp2
              go_round
              case rel => exact HR.out
              case measure => simp [RowKit.intOf]; omega
          · have HE : Hid (isName s.data.toList = false) := Lib.hid (isName_later hat (by simpa using hla'))
            have g3 : ¬ ((48 ≤ (s[k].toNat : Int) ∧ (s[k].toNat : Int) ≤ 57) ∨ (s[k].toNat : Int) = 95) := fun h => hla' (hla.2 (.inr h))
            have g7 : ((s[k].toNat : Int) != 95) = true := by simp; omega
            clear hrel hat hli hla hL hall hhead hla'
            by_cases g1 : 97 ≤ (s[k].toNat : Int)
            · have g2 : 122 < (s[k].toNat : Int) := by omega
              have g6 : ¬ (s[k].toNat : Int) < 48 := by omega
              have g8 : 57 < (s[k].toNat : Int) := by have : ¬ (s[k].toNat : Int) ≤ 122 := fun h => g ⟨g1, h⟩; omega
              clear g g3
              go_wp2
              go_ret
              exact ⟨ret_bool HE.out.symm, hbw⟩
            · clear g
              by_cases g6 : (s[k].toNat : Int) < 48
              · clear g3
                go_wp2
                go_ret
                exact ⟨ret_bool HE.out.symm, hbw⟩
              · have g8 : 57 < (s[k].toNat : Int) := by omega
                clear g3
                go_wp2
                go_ret
                exact ⟨ret_bool HE.out.symm, hbw⟩
    · have hall' : s.data.toList.all later = true := by rw [List.take_of_length_le (by rw [size_list]; omega)] at hall; exact hall
      have HE : Hid (isName s.data.toList = true) := Lib.hid (isName_yes (by rw [size_list]; omega) (by rw [size_list]; omega) HK.out hall' (hhead (by omega)))
      clear hall hall' hhead
      go_wp2
      go_ret
      exact ⟨ret_bool HE.out.symm, hbw⟩
end Go.Proofs.YtcfcpbkeedfbpaaGreatDoor
