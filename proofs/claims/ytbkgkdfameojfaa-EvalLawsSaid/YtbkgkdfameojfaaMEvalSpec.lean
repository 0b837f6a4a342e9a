/- EvalSpec, joined. -/
import Derived.Test.YtbkgkdfameojfaaMTermA
import Derived.Test.YtbkgkdfameojfaaMVal
namespace Go.Proofs.Ytbkgkdfameojfaa
namespace EvalSpec
open TermSpec NamesSpec ValSpec Go.Lib

structure Vr where
  s : ByteArray
  lo : Int
  hi : Int
  ini : Int
structure Ev where
  vars : List Vr
  v0 : Int
  v1 : Int
  v2 : Int
  v3 : Int
  ins : List ByteArray

def vnames (e : Ev) : List ByteArray := e.vars.map (·.s)
def valAt (e : Ev) (p : Int) : Int := if p = 0 then e.v0 else if p = 1 then e.v1 else if p = 2 then e.v2 else e.v3
def tru (b : Bool) : Int := if b then 1 else 0
theorem tru_bd (b : Bool) : 0 ≤ tru b ∧ tru b ≤ 1 := by cases b <;> decide
/-- Does the comparison hold? -/
def cmp (o a b : Int) : Bool := if o = 13 then a == b else if o = 14 then a != b else if o = 15 then decide (a < b) else if o = 16 then decide (a ≤ b) else if o = 17 then decide (b < a) else decide (b ≤ a)
/-- What a term comes to that has two below it; one; none. -/
def ev2 (o x y : Int) : Int :=
  if o = 4 then near (x + y) else if o = 5 then near (x - y) else if o = 6 then near (x * y) else if o = 7 then (if x < y then x else y) else if o = 8 then (if y < x then x else y)
  else if o = 19 then tru (x == 1 && y == 1) else if o = 20 then tru (x == 1 || y == 1) else tru (cmp o x y)
def ev1 (o x : Int) : Int := if o = 3 then 0 - x else tru (x == 0)
def ev0 (e : Ev) (t : Tm) : Int := if t.op = 1 then t.n else if t.op = 2 then near (valAt e (idxOfS (vnames e) t.s)) else if t.op = 11 then tru (decide (0 ≤ idxOfS e.ins t.s)) else tru (t.op == 9)
def evT (e : Ev) (t : Tm) (x y : Int) : Int := if ar t.op = 0 then ev0 e t else if ar t.op = 1 then ev1 t.op x else ev2 t.op x y
def evF (e : Ev) (t : Tm) (bs : List Int) : Int := evT e t (bs[0]?.getD 0) (bs[1]?.getD 0)

/-- What each of the expressions that stand one behind the other comes to. -/
def stackE (e : Ev) : List Tm → List Int
  | [] => []
  | t :: r => evF e t ((stackE e r).take (arN t.op)) :: (stackE e r).drop (arN t.op)
section
variable {e : Ev}
theorem stackE_cons (t : Tm) (r : List Tm) : stackE e (t :: r) = evF e t ((stackE e r).take (arN t.op)) :: (stackE e r).drop (arN t.op) := rfl
theorem stackE_drop : ∀ {l : List Tm} {k m : Nat}, cnt k l = some m → stackE e (l.drop m) = (stackE e l).drop k
  | l, 0, m, h => by rw [cnt_zero] at h; cases h; rfl
  | [], k + 1, m, h => by cases h
  | t :: r, k + 1, m, h => by
    obtain ⟨h0, m', rfl, h'⟩ := cnt_step h
    rw [List.drop_succ_cons, stackE_drop h', stackE_cons, List.drop_succ_cons, List.drop_drop, Nat.add_comm]
theorem stackE_len : ∀ {l : List Tm} {k m : Nat}, cnt k l = some m → k ≤ (stackE e l).length
  | l, 0, m, h => Nat.zero_le _
  | [], k + 1, m, h => by cases h
  | t :: r, k + 1, m, h => by
    obtain ⟨h0, m', rfl, h'⟩ := cnt_step h
    have := stackE_len h'
    rw [stackE_cons, List.length_cons, List.length_drop]
    omega
theorem stackE_take : ∀ {l : List Tm} {k m : Nat}, cnt k l = some m → stackE e (l.take m) = (stackE e l).take k
  | l, 0, m, h => by rw [cnt_zero] at h; cases h; rfl
  | [], k + 1, m, h => by cases h
  | t :: r, k + 1, m, h => by
    obtain ⟨h0, m', rfl, h'⟩ := cnt_step h
    rw [List.take_succ_cons, stackE_cons, stackE_take h', stackE_cons, List.take_succ_cons, List.take_take, List.drop_take, show min (arN t.op) (k + arN t.op) = arN t.op by omega, Nat.add_sub_cancel]
end
theorem stackE_size (e : Ev) : ∀ (l : List Tm), (stackE e l).length ≤ l.length
  | [] => Nat.le_refl _
  | t :: r => by
    have := stackE_size e r
    rw [stackE_cons, List.length_cons, List.length_drop, List.length_cons]
    omega
/-- What the expression that begins here comes to. -/
def comeE (e : Ev) (l : List Tm) : Int := (stackE e l).headD 0
section
variable {e : Ev}
theorem stackE_get {l : List Tm} {k m : Nat} (h : cnt (k + 1) l = some m) : ∃ x, cnt k l = some x ∧ (stackE e l)[k]? = some (comeE e (l.drop x)) := by
  obtain ⟨x, y, hx, hy, _⟩ := cnt_split h
  refine ⟨x, hx, ?_⟩
  have h1 := stackE_len (e := e) h
  rw [comeE, stackE_drop hx]
  have h2 : k < (stackE e l).length := by omega
  rw [List.getElem?_eq_getElem h2, List.drop_eq_getElem_cons h2]
  rfl
/-- All that terms come to that may be are values. -/
theorem evT_bd {t : Tm} (hm : mayB t = true) {x y : Int} (hx : -1000000 ≤ x ∧ x ≤ 1000000) (hy : -1000000 ≤ y ∧ y ≤ 1000000) : -1000000 ≤ evT e t x y ∧ evT e t x y ≤ 1000000 := by
  have tb : ∀ b, -1000000 ≤ tru b ∧ tru b ≤ 1000000 := fun b => by have := tru_bd b; omega
  have nb : ∀ x, -1000000 ≤ near x ∧ near x ≤ 1000000 := fun x => ⟨near_lo x, near_hi x⟩
  unfold evT
  split
  · unfold ev0
    split
    · rename_i h1
      unfold mayB at hm
      rw [if_pos h1] at hm
      simp only [Bool.and_eq_true, decide_eq_true_eq] at hm
      omega
    · split
      · exact nb _
      · split <;> exact tb _
  · split
    · unfold ev1
      split
      · omega
      · exact tb _
    · unfold ev2
      (repeat' split) <;> first | exact nb _ | exact tb _ | omega
theorem stackE_bd : ∀ {l : List Tm}, l.all mayB = true → ∀ v ∈ stackE e l, -1000000 ≤ v ∧ v ≤ 1000000
  | [], _ => by simp [stackE]
  | t :: r, h => by
    rw [List.all_cons, Bool.and_eq_true] at h
    have ih := stackE_bd h.2
    have hg : ∀ i : Nat, -1000000 ≤ ((stackE e r).take (arN t.op))[i]?.getD 0 ∧ ((stackE e r).take (arN t.op))[i]?.getD 0 ≤ 1000000 := by
      intro i
      cases hi : ((stackE e r).take (arN t.op))[i]? with
      | none => simp
      | some v => exact ih v (List.mem_of_mem_take (List.mem_iff_getElem?.2 ⟨i, hi⟩))
    intro v hv
    rw [stackE_cons, List.mem_cons] at hv
    rcases hv with rfl | hv
    · exact evT_bd h.1 (hg 0) (hg 1)
    · exact ih v (List.mem_of_mem_drop hv)
theorem comeE_bd {l : List Tm} (h : l.all mayB = true) : -1000000 ≤ comeE e l ∧ comeE e l ≤ 1000000 := by
  unfold comeE
  cases hs : stackE e l with
  | nil => simp
  | cons a r => exact stackE_bd h a (by rw [hs]; simp)
theorem comeE_at {l : List Tm} {a : Nat} {t : Tm} (ht : l[a]? = some t) : comeE e (l.drop a) = evF e t ((stackE e (l.drop (a + 1))).take (arN t.op)) := by
  rw [drop_get ht, comeE, stackE_cons]; rfl
end

/-- Why an expression comes to nothing. -/
def knownB (e : Ev) (l : List Tm) : Bool := l.all fun t => !(decide (t.op = 2)) || hasS (vnames e) t.s
def chkE (e : Ev) (l : List Tm) : Int := if 4 < e.vars.length then 1 else if chk l ≠ 0 then chk l else if typ l = 0 then 4 else if knownB e l then 0 else 7
theorem chkE_wide {e : Ev} {l : List Tm} (h : 4 < e.vars.length) : chkE e l = 1 := if_pos h
theorem chkE_bad {e : Ev} {l : List Tm} (h : ¬ 4 < e.vars.length) (h1 : chk l ≠ 0) : chkE e l = chk l := by unfold chkE; rw [if_neg h, if_pos h1]
theorem chkE_typ {e : Ev} {l : List Tm} (h : ¬ 4 < e.vars.length) (h1 : chk l = 0) (h2 : typ l = 0) : chkE e l = 4 := by unfold chkE; rw [if_neg h, if_neg (by omega), if_pos h2]
theorem chkE_last {e : Ev} {l : List Tm} (h : ¬ 4 < e.vars.length) (h1 : chk l = 0) (h2 : ¬ typ l = 0) : chkE e l = if knownB e l then 0 else 7 := by unfold chkE; rw [if_neg h, if_neg (by omega), if_neg h2]
theorem chkE_ok {e : Ev} {l : List Tm} (h : chkE e l = 0) : e.vars.length ≤ 4 ∧ chk l = 0 ∧ typ l ≠ 0 ∧ knownB e l = true := by
  unfold chkE at h
  split at h
  · omega
  split at h
  · omega
  split at h
  · omega
  split at h
  · rename_i h1 h2 h3 h4
    exact ⟨by omega, by omega, h3, h4⟩
  · omega
theorem chkE_mk {e : Ev} {l : List Tm} (h : e.vars.length ≤ 4) (h1 : chk l = 0) (h2 : typ l ≠ 0) (h3 : knownB e l = true) : chkE e l = 0 := by rw [chkE_last (by omega) h1 h2, if_pos h3]
def holdsE (e : Ev) (l : List Tm) : Bool := l.isEmpty || (decide (chkE e l = 0) && (decide (typ l = 2) && decide (comeE e l = 1)))
/-- Of what is true or false it is 0 or 1. -/
theorem comeE_bool {e : Ev} {l : List Tm} (h : chk l = 0) (ht : typ l = 2) : comeE e l = 0 ∨ comeE e l = 1 := by
  obtain ⟨hw, _, _⟩ := chk_ok h
  obtain ⟨_, hc⟩ := wholeB_iff.1 hw
  have htr : ∀ b, tru b = 0 ∨ tru b = 1 := fun b => by cases b <;> simp [tru]
  cases l with
  | nil => cases hc
  | cons t r =>
    obtain ⟨h0, _, _, _⟩ := cnt_step hc
    unfold typ tell at ht
    rw [hw, if_pos rfl, come_cons] at ht
    have ho : ownT t.op = 2 := by
      unfold typF at ht
      split at ht
      · exact ht
      · omega
    have h9 : 9 ≤ t.op := by
      have := (ar_in.1 h0).1
      unfold ownT at ho
      split at ho
      · omega
      · omega
    show evF e t _ = 0 ∨ evF e t _ = 1
    unfold evF evT
    split
    · unfold ev0
      rw [if_neg (by omega), if_neg (by omega)]
      split <;> exact htr _
    · split
      · unfold ev1
        rw [if_neg (by omega)]
        exact htr _
      · unfold ev2
        rw [if_neg (by omega), if_neg (by omega), if_neg (by omega), if_neg (by omega), if_neg (by omega)]
        (repeat' split) <;> exact htr _

/-- Lists one behind the other. -/
theorem cnt_app : ∀ {a : List Tm} {k : Nat}, cnt k a = some a.length → ∀ (j : Nat) (b : List Tm), cnt (k + j) (a ++ b) = (cnt j b).map (a.length + ·)
  | a, 0, h, j, b => by
    rw [cnt_zero] at h
    have : a = [] := List.eq_nil_of_length_eq_zero (by injection h with h; omega)
    subst this
    simp
  | [], k + 1, h, j, b => by cases h
  | t :: r, k + 1, h, j, b => by
    obtain ⟨h0, m', hm, h'⟩ := cnt_step h
    have hm' : m' = r.length := by rw [List.length_cons] at hm; omega
    subst hm'
    rw [show k + 1 + j = (k + j) + 1 by omega, List.cons_append, cnt_cons, if_neg (by omega), show k + j + arN t.op = k + arN t.op + j by omega, cnt_app h' j b]
    cases cnt j b with
    | none => rfl
    | some m => simp; omega
theorem cnt_one_app {a b : List Tm} (h : cnt 1 a = some a.length) (h' : cnt 1 b = some b.length) : cnt 2 (a ++ b) = some (a ++ b).length := by
  rw [show (2 : Nat) = 1 + 1 from rfl, cnt_app h 1 b, h', List.length_append]; rfl
theorem stackE_nil_of {e : Ev} {a : List Tm} (h : cnt 1 a = some a.length) : stackE e a = [comeE e a] := by
  have h1 := stackE_len (e := e) h
  have h2 := stackE_drop (e := e) h
  rw [List.drop_length] at h2
  unfold comeE
  match hs : stackE e a with
  | [] => rw [hs] at h1; simp at h1
  | [x] => rfl
  | x :: y :: r => rw [hs] at h2; cases h2
theorem stackE_app {e : Ev} : ∀ {a : List Tm} {k : Nat}, cnt k a = some a.length → ∀ b, stackE e (a ++ b) = stackE e a ++ stackE e b
  | a, 0, h, b => by
    rw [cnt_zero] at h
    have : a = [] := List.eq_nil_of_length_eq_zero (by injection h with h; omega)
    subst this
    rfl
  | [], k + 1, h, b => by cases h
  | t :: r, k + 1, h, b => by
    obtain ⟨h0, m', hm, h'⟩ := cnt_step h
    have hm' : m' = r.length := by rw [List.length_cons] at hm; omega
    subst hm'
    have hl := stackE_len (e := e) h'
    rw [List.cons_append, stackE_cons, stackE_app h' b, stackE_cons, List.take_append_of_le_length (by omega), List.drop_append_of_le_length (by omega)]
    rfl
theorem stack_app {α : Type} {f : Int → List α → α} : ∀ {a : List Tm} {k : Nat}, cnt k a = some a.length → ∀ b, stack f (a ++ b) = stack f a ++ stack f b
  | a, 0, h, b => by
    rw [cnt_zero] at h
    have : a = [] := List.eq_nil_of_length_eq_zero (by injection h with h; omega)
    subst this
    rfl
  | [], k + 1, h, b => by cases h
  | t :: r, k + 1, h, b => by
    obtain ⟨h0, m', hm, h'⟩ := cnt_step h
    have hm' : m' = r.length := by rw [List.length_cons] at hm; omega
    subst hm'
    have hl := stack_len (f := f) h'
    rw [List.cons_append, stack_cons, stack_app h' b, stack_cons, List.take_append_of_le_length (by omega), List.drop_append_of_le_length (by omega)]
    rfl
theorem stack_one {f : Int → List Int → Int} {a : List Tm} (h : cnt 1 a = some a.length) : stack f a = [come f a] := by
  have h1 := stack_len (f := f) h
  have h2 := stack_drop (f := f) h
  rw [List.drop_length] at h2
  unfold come
  match hs : stack f a with
  | [] => rw [hs] at h1; simp at h1
  | [x] => rfl
  | x :: y :: r => rw [hs] at h2; cases h2
/-- At a place within a whole expression so many stand one behind the other. -/
theorem cnt_within : ∀ {l : List Tm} {k : Nat}, cnt k l = some l.length → ∀ i, i ≤ l.length → ∃ j, cnt j (l.drop i) = some (l.length - i) ∧ (i < l.length → 0 < j)
  | l, k, h, 0, _ => by
    refine ⟨k, by simpa using h, fun h0 => ?_⟩
    rcases Nat.eq_zero_or_pos k with rfl | hk
    · rw [cnt_zero] at h; injection h with h; omega
    · exact hk
  | [], k, h, i + 1, hi => by simp at hi
  | t :: r, 0, h, i + 1, hi => by rw [cnt_zero] at h; injection h with h; simp at h
  | t :: r, k + 1, h, i + 1, hi => by
    obtain ⟨h0, m', hm, h'⟩ := cnt_step h
    have hm' : m' = r.length := by rw [List.length_cons] at hm; omega
    subst hm'
    obtain ⟨j, hj, hj0⟩ := cnt_within h' i (by simpa using hi)
    exact ⟨j, by simpa using hj, fun h1 => hj0 (by simpa using h1)⟩
theorem stackE_within {e : Ev} {l : List Tm} (h : cnt 1 l = some l.length) {i j : Nat} (hi : i ≤ l.length) (hj : cnt j (l.drop i) = some (l.length - i)) : (stackE e (l.drop i)).length = j := by
  have h1 := stackE_len (e := e) hj
  have h2 := stackE_drop (e := e) hj
  rw [List.drop_drop, Nat.add_sub_cancel' hi, List.drop_length] at h2
  have h3 : ((stackE e (l.drop i)).drop j).length = 0 := by rw [← h2]; rfl
  rw [List.length_drop] at h3
  omega
/-- The term at a place has as many below it as it wants. -/
theorem stackE_next {e : Ev} {l : List Tm} (h : cnt 1 l = some l.length) {i : Nat} {t : Tm} (ht : l[i]? = some t) : 0 ≤ ar t.op ∧ arN t.op ≤ (stackE e (l.drop (i + 1))).length ∧ stackE e (l.drop i) = evF e t ((stackE e (l.drop (i + 1))).take (arN t.op)) :: (stackE e (l.drop (i + 1))).drop (arN t.op) := by
  have hi := (List.getElem?_eq_some_iff.1 ht).1
  obtain ⟨j, hj, hj0⟩ := cnt_within h i (by omega)
  have hj0 := hj0 hi
  obtain ⟨j', rfl⟩ : ∃ j', j = j' + 1 := ⟨j - 1, by omega⟩
  rw [drop_get ht] at hj
  obtain ⟨h0, m', _, h'⟩ := cnt_step hj
  have := stackE_len (e := e) h'
  exact ⟨h0, by omega, by rw [drop_get ht, stackE_cons]⟩
end EvalSpec
end Go.Proofs.Ytbkgkdfameojfaa
