/- ActSpec, TermArity, NamesWords, NamesRefIs, TermMay, TermEnd, joined. -/
import Derived.Test.YtcfcpbkeedfbpaaGreatDoorMActReads01
import Derived.Test.YtcfcpbkeedfbpaaGreatDoorMActReads00
import Derived.Lib.OthersKept
import Derived.Laws.StructEq
namespace Go.Proofs.YtcfcpbkeedfbpaaGreatDoor
namespace ActSpec
open TermSpec NamesSpec ValSpec EvalSpec Go.Lib

structure Ac where
  s : ByteArray
  any : Bool
  x : List Tm
/-- Why an act may not be. -/
def oneA (a : Ac) : Int := if isName a.s.data.toList = false then 1 else if a.any = false then chk a.x else if a.x.length = 0 then 0 else 1
def firstA : List Ac → Int
  | [] => 0
  | a :: r => if oneA a = 0 then firstA r else oneA a
def chkA (l : List Ac) : Int := if 8 < l.length then 8 else firstA l
theorem firstA_stop {l : List Ac} {k : Nat} {a : Ac} (h : l[k]? = some a) (h0 : firstA (l.take k) = 0) (h1 : oneA a ≠ 0) : firstA l = oneA a := by
  induction l generalizing k with
  | nil => simp at h
  | cons b r ih =>
    cases k with
    | zero =>
      simp at h
      subst h
      unfold firstA
      rw [if_neg h1]
    | succ k =>
      rw [List.take_succ_cons] at h0
      unfold firstA at h0 ⊢
      split at h0
      · rename_i hb
        rw [if_pos hb]
        exact ih (by simpa using h) h0
      · rename_i hb
        exact absurd h0 hb
theorem firstA_next {l : List Ac} {k : Nat} {a : Ac} (h : l[k]? = some a) (h0 : firstA (l.take k) = 0) (h1 : oneA a = 0) : firstA (l.take (k + 1)) = 0 := by
  induction l generalizing k with
  | nil => simp at h
  | cons b r ih =>
    cases k with
    | zero =>
      simp at h
      subst h
      simp [firstA, h1]
    | succ k =>
      rw [List.take_succ_cons] at h0 ⊢
      unfold firstA at h0 ⊢
      split at h0
      · rename_i hb
        rw [if_pos hb]
        exact ih (by simpa using h) h0
      · rename_i hb
        exact absurd h0 hb
theorem firstA_all {l : List Ac} (h : firstA l = 0) : ∀ a ∈ l, oneA a = 0 := by
  induction l with
  | nil => simp
  | cons b r ih =>
    unfold firstA at h
    split at h
    · rename_i hb
      intro a ha
      rcases List.mem_cons.1 ha with rfl | ha
      · exact hb
      · exact ih h a ha
    · rename_i hb
      exact absurd h hb

/-- Values of the four variables. -/
structure V4 where
  a : Int
  b : Int
  c : Int
  d : Int
  deriving DecidableEq
def V4.get (x : V4) (i : Nat) : Int := if i = 0 then x.a else if i = 1 then x.b else if i = 2 then x.c else x.d
def V4.set (x : V4) (i : Nat) (n : Int) : V4 := if i = 0 then { x with a := n } else if i = 1 then { x with b := n } else if i = 2 then { x with c := n } else { x with d := n }
theorem V4.get_set {x : V4} {i k : Nat} {n : Int} (hi : i < 4) (hk : k < 4) : (x.set i n).get k = if k = i then n else x.get k := by
  rcases (show i = 0 ∨ i = 1 ∨ i = 2 ∨ i = 3 by omega) with rfl | rfl | rfl | rfl <;> rcases (show k = 0 ∨ k = 1 ∨ k = 2 ∨ k = 3 by omega) with rfl | rfl | rfl | rfl <;> rfl
def lessV (x y : V4) : Bool := if x.a ≠ y.a then decide (x.a < y.a) else if x.b ≠ y.b then decide (x.b < y.b) else if x.c ≠ y.c then decide (x.c < y.c) else decide (x.d < y.d)
theorem lessV_irr (x : V4) : lessV x x = false := by simp [lessV]
theorem lessV_tri {x y : V4} (h : x ≠ y) : lessV x y = true ∨ lessV y x = true := by
  obtain ⟨a, b, c, d⟩ := x
  obtain ⟨a', b', c', d'⟩ := y
  unfold lessV
  simp only
  by_cases h1 : a = a'
  · by_cases h2 : b = b'
    · by_cases h3 : c = c'
      · have h4 : d ≠ d' := by
          intro h4
          subst h1; subst h2; subst h3; subst h4
          exact h rfl
        simp [h1, h2, h3]
        omega
      · have h3' : ¬ c' = c := fun h => h3 h.symm
        simp [h1, h2, h3, h3']
        omega
    · have h2' : ¬ b' = b := fun h => h2 h.symm
      simp [h1, h2, h2']
      omega
  · have h1' : ¬ a' = a := fun h => h1 h.symm
    simp [h1, h1']
    omega
theorem lessV_iff (x y : V4) : lessV x y = true ↔ x.a < y.a ∨ (x.a = y.a ∧ (x.b < y.b ∨ (x.b = y.b ∧ (x.c < y.c ∨ (x.c = y.c ∧ x.d < y.d))))) := by
  unfold lessV
  split
  · rw [decide_eq_true_iff]; omega
  · split
    · rw [decide_eq_true_iff]; omega
    · split
      · rw [decide_eq_true_iff]; omega
      · rw [decide_eq_true_iff]; omega
theorem lessV_trans {x y z : V4} (h : lessV x y = true) (h' : lessV y z = true) : lessV x z = true := by
  rw [lessV_iff] at *
  omega
theorem lessV_anti {x y : V4} (h : lessV x y = true) : lessV y x = false := by
  cases hc : lessV y x with
  | false => rfl
  | true =>
    have := lessV_trans h hc
    rw [lessV_irr] at this
    cases this
/-- How many stand ahead of values. -/
def ahead (x : V4) : List V4 → Nat
  | [] => 0
  | y :: r => if lessV y x then ahead x r + 1 else 0
theorem ahead_cons (x y : V4) (r : List V4) : ahead x (y :: r) = if lessV y x then ahead x r + 1 else 0 := rfl
theorem ahead_le (x : V4) (l : List V4) : ahead x l ≤ l.length := by
  induction l with
  | nil => exact Nat.le_refl _
  | cons y r ih =>
    unfold ahead
    split
    · simp; exact ih
    · exact Nat.zero_le _
theorem ahead_step {x y : V4} : ∀ {l : List V4} {k : Nat}, k ≤ ahead x l → l[k]? = some y → lessV y x = true → k + 1 ≤ ahead x l
  | [], _, _, h, _ => by simp at h
  | z :: r, 0, _, h, hy => by
    simp at h
    subst h
    rw [ahead_cons, if_pos hy]
    omega
  | z :: r, k + 1, hk, h, hy => by
    rw [ahead_cons] at hk ⊢
    split at hk
    · rename_i hz
      rw [if_pos hz]
      have := ahead_step (l := r) (k := k) (by omega) (by simpa using h) hy
      omega
    · omega
theorem ahead_stop {x y : V4} : ∀ {l : List V4} {k : Nat}, k ≤ ahead x l → l[k]? = some y → lessV y x = false → k = ahead x l
  | [], _, _, h, _ => by simp at h
  | z :: r, 0, _, h, hy => by
    simp at h
    subst h
    rw [ahead_cons, if_neg (by simp [hy])]
  | z :: r, k + 1, hk, h, hy => by
    rw [ahead_cons] at hk ⊢
    split at hk
    · rename_i hz
      rw [if_pos hz]
      have := ahead_stop (l := r) (k := k) (by omega) (by simpa using h) hy
      omega
    · omega
theorem ahead_end {x : V4} {l : List V4} {k : Nat} (h : k ≤ ahead x l) (hn : l.length ≤ k) : k = ahead x l := by
  have := ahead_le x l
  omega
/-- Values put where they stand, if they are not there yet. -/
def withV (l : List V4) (x : V4) : List V4 := if l[ahead x l]? = some x then l else l.take (ahead x l) ++ x :: l.drop (ahead x l)
/-- In order, each once. -/
def Up (l : List V4) : Prop := l.Pairwise fun x y => lessV x y = true
theorem withV_nil (x : V4) : withV [] x = [x] := rfl
theorem withV_cons (y : V4) (r : List V4) (x : V4) : withV (y :: r) x = if lessV y x then y :: withV r x else if y = x then y :: r else x :: y :: r := by
  unfold withV
  rw [ahead_cons]
  by_cases h : lessV y x = true
  · rw [if_pos h, if_pos h]
    simp only [List.getElem?_cons_succ, List.take_succ_cons, List.drop_succ_cons, List.cons_append]
    split <;> rfl
  · rw [if_neg h, if_neg h]
    simp only [List.getElem?_cons_zero, Option.some.injEq, List.take_zero, List.drop_zero, List.nil_append]
theorem withV_mem {l : List V4} {x y : V4} (h : y ∈ withV l x) : y = x ∨ y ∈ l := by
  unfold withV at h
  split at h
  · exact .inr h
  · rcases List.mem_append.1 h with h | h
    · exact .inr (List.mem_of_mem_take h)
    · rcases List.mem_cons.1 h with h | h
      · exact .inl h
      · exact .inr (List.mem_of_mem_drop h)
theorem withV_has (l : List V4) (x : V4) : x ∈ withV l x := by
  unfold withV
  split
  · rename_i h
    exact List.mem_of_getElem? h
  · simp
theorem withV_keeps {l : List V4} {x y : V4} (h : y ∈ l) : y ∈ withV l x := by
  unfold withV
  split
  · exact h
  · rw [← List.take_append_drop (ahead x l) l] at h
    rcases List.mem_append.1 h with h | h
    · exact List.mem_append_left _ h
    · exact List.mem_append_right _ (List.mem_cons_of_mem _ h)
theorem withV_up {l : List V4} {x : V4} (h : Up l) : Up (withV l x) := by
  induction l with
  | nil => exact List.pairwise_singleton _ _
  | cons y r ih =>
    have h' := List.pairwise_cons.1 h
    rw [withV_cons]
    split
    · rename_i hy
      refine List.pairwise_cons.2 ⟨fun z hz => ?_, ih h'.2⟩
      rcases withV_mem hz with rfl | hz
      · exact hy
      · exact h'.1 z hz
    · rename_i hy
      split
      · exact h
      · rename_i hne
        have hxy : lessV x y = true := by
          rcases lessV_tri hne with h | h
          · exact absurd h hy
          · exact h
        refine List.pairwise_cons.2 ⟨fun z hz => ?_, h⟩
        rcases List.mem_cons.1 hz with rfl | hz
        · exact hxy
        · exact lessV_trans hxy (h'.1 z hz)
theorem up_eq {l l' : List V4} (h : Up l) (h' : Up l') (he : ∀ x, x ∈ l ↔ x ∈ l') : l = l' := by
  induction l generalizing l' with
  | nil =>
    cases l' with
    | nil => rfl
    | cons y r => exact absurd ((he y).2 (by simp)) (by simp)
  | cons x r ih =>
    cases l' with
    | nil => exact absurd ((he x).1 (by simp)) (by simp)
    | cons y r' =>
      have hx := List.pairwise_cons.1 h
      have hy := List.pairwise_cons.1 h'
      have hxy : x = y := by
        rcases List.mem_cons.1 ((he x).1 (by simp)) with e | e
        · exact e
        · rcases List.mem_cons.1 ((he y).2 (by simp)) with e' | e'
          · exact e'.symm
          · have h1 := hy.1 x e
            have h2 := hx.1 y e'
            rw [lessV_anti h1] at h2
            cases h2
      subst hxy
      congr 1
      refine ih hx.2 hy.2 fun z => ⟨fun hz => ?_, fun hz => ?_⟩
      · rcases List.mem_cons.1 ((he z).1 (List.mem_cons_of_mem _ hz)) with e | e
        · subst e
          have := hx.1 z hz
          rw [lessV_irr] at this
          cases this
        · exact e
      · rcases List.mem_cons.1 ((he z).2 (List.mem_cons_of_mem _ hz)) with e | e
        · subst e
          have := hy.1 z hz
          rw [lessV_irr] at this
          cases this
        · exact e
def allV (l : List V4) (xs : List V4) : List V4 := xs.foldl withV l
theorem allV_snoc (l xs : List V4) (x : V4) : allV l (xs ++ [x]) = withV (allV l xs) x := by unfold allV; rw [List.foldl_append]; rfl
theorem allV_up {l xs : List V4} (h : Up l) : Up (allV l xs) := by
  induction xs generalizing l with
  | nil => exact h
  | cons x r ih => exact ih (withV_up h)
theorem allV_mem {l xs : List V4} {y : V4} : y ∈ allV l xs ↔ y ∈ l ∨ y ∈ xs := by
  induction xs generalizing l with
  | nil => simp [allV]
  | cons x r ih =>
    show y ∈ allV (withV l x) r ↔ _
    rw [ih, List.mem_cons]
    constructor
    · rintro (h | h)
      · rcases withV_mem h with h | h
        · exact .inr (.inl h)
        · exact .inl h
      · exact .inr (.inr h)
    · rintro (h | h | h)
      · exact .inl (withV_keeps h)
      · subst h; exact .inl (withV_has _ _)
      · exact .inr h

/-- The Env with other values. -/
def envAt (e : Ev) (x : V4) : Ev := { e with v0 := x.a, v1 := x.b, v2 := x.c, v3 := x.d }
def vals (e : Ev) : V4 := ⟨e.v0, e.v1, e.v2, e.v3⟩
/-- The variable of an act, if there is one. -/
def varOf (e : Ev) (a : Ac) : Option (Nat × Vr) := let p := idxOfS (vnames e) a.s; if p < 0 then none else (e.vars[p.toNat]?).map fun v => (p.toNat, v)
/-- What one list of values comes to by an act at a place. -/
def stepsA (e : Ev) (a : Ac) (i : Nat) (v : Vr) (x : V4) : List V4 :=
  if a.any then (List.range ((v.hi - v.lo + 1).toNat)).map fun (k : Nat) => x.set i (v.lo + k)
  else [x.set i (let n := comeE (envAt e x) a.x; if n < v.lo then v.lo else if v.hi < n then v.hi else n)]
def spanB (v : Vr) : Bool := decide (v.lo ≤ v.hi) && decide (v.hi - v.lo ≤ 63)
/-- Why an act comes to nothing, ahead of the lists. -/
def badA (e : Ev) (a : Ac) : Int :=
  match varOf e a with
  | none => 7
  | some (_, v) => if a.any then (if spanB v then 0 else 1) else if chkE e a.x ≠ 0 then chkE e a.x else if typ a.x = 1 then 0 else 4
def stepA (e : Ev) (a : Ac) (now : List V4) : Int × List V4 :=
  if badA e a ≠ 0 then (badA e a, []) else
  match varOf e a with
  | none => (7, [])
  | some (i, v) =>
    let out := allV [] (now.flatMap (stepsA e a i v))
    if 64 < out.length then (12, []) else (0, out)
def runA (e : Ev) : List Ac → List V4 → Int × List V4
  | [], now => (0, now)
  | a :: r, now => if (stepA e a now).1 = 0 then runA e r (stepA e a now).2 else ((stepA e a now).1, [])
def runE (e : Ev) (l : List Ac) : Int × List V4 := if 4 < e.vars.length then (1, []) else if chkA l ≠ 0 then (chkA l, []) else runA e l [vals e]
theorem stepA_up {e : Ev} {a : Ac} {now : List V4} : Up (stepA e a now).2 := by
  unfold stepA
  split
  · exact List.Pairwise.nil
  · split
    · exact List.Pairwise.nil
    · simp only
      split
      · exact List.Pairwise.nil
      · exact allV_up List.Pairwise.nil
theorem runA_up {e : Ev} : ∀ {l : List Ac} {now : List V4}, Up now → Up (runA e l now).2
  | [], _, h => h
  | a :: r, now, h => by
    unfold runA
    split
    · exact runA_up stepA_up
    · exact List.Pairwise.nil
theorem runE_up (e : Ev) (l : List Ac) : Up (runE e l).2 := by
  unfold runE
  split
  · exact List.Pairwise.nil
  · split
    · exact List.Pairwise.nil
    · exact runA_up (List.pairwise_singleton _ _)
/-- What was in a variable's range stays in it. -/
def InAll (e : Ev) (x : V4) : Prop := ∀ k v, k < 4 → e.vars[k]? = some v → v.lo ≤ (vals e).get k → (vals e).get k ≤ v.hi → v.lo ≤ x.get k ∧ x.get k ≤ v.hi
theorem varOf_lt {e : Ev} {a : Ac} {i : Nat} {v : Vr} (h : varOf e a = some (i, v)) : e.vars[i]? = some v := by
  unfold varOf at h
  simp only at h
  split at h
  · cases h
  · cases hv : e.vars[(idxOfS (vnames e) a.s).toNat]? with
    | none => rw [hv] at h; cases h
    | some u => rw [hv] at h; cases h; exact hv
theorem steps_in {e : Ev} {a : Ac} {i : Nat} {v : Vr} {x y : V4} (h4 : e.vars.length ≤ 4) (hv : e.vars[i]? = some v) (hx : InAll e x) (hy : y ∈ stepsA e a i v x) : InAll e y := by
  have hi := (List.getElem?_eq_some_iff.1 hv).1
  intro k u hk hu hlo hhi
  have hxk := hx k u hk hu hlo hhi
  unfold stepsA at hy
  split at hy
  · obtain ⟨j, hj, rfl⟩ := List.mem_map.1 hy
    rw [List.mem_range] at hj
    rw [V4.get_set (by omega) hk]
    split
    · rename_i hki
      subst hki
      rw [hv] at hu
      cases hu
      omega
    · exact hxk
  · rw [List.mem_singleton] at hy
    subst hy
    rw [V4.get_set (by omega) hk]
    split
    · rename_i hki
      subst hki
      rw [hv] at hu
      cases hu
      simp only
      split
      · omega
      · split <;> omega
    · exact hxk
theorem stepA_in {e : Ev} {a : Ac} {now : List V4} (h4 : e.vars.length ≤ 4) (hx : ∀ x ∈ now, InAll e x) : ∀ y ∈ (stepA e a now).2, InAll e y := by
  unfold stepA
  split
  · simp
  · split
    · simp
    · rename_i i v hv
      simp only
      split
      · simp
      · intro y hy
        rcases allV_mem.1 hy with h | h
        · simp at h
        · obtain ⟨x, hx0, hyx⟩ := List.mem_flatMap.1 h
          exact steps_in h4 (varOf_lt hv) (hx x hx0) hyx
theorem runA_in {e : Ev} (h4 : e.vars.length ≤ 4) : ∀ {l : List Ac} {now : List V4}, (∀ x ∈ now, InAll e x) → ∀ y ∈ (runA e l now).2, InAll e y
  | [], _, h => h
  | a :: r, now, h => by
    unfold runA
    split
    · exact runA_in h4 (stepA_in h4 h)
    · simp
theorem runE_in (e : Ev) (l : List Ac) : ∀ y ∈ (runE e l).2, InAll e y := by
  unfold runE
  split
  · simp
  · split
    · simp
    · rename_i h4 _
      refine runA_in (by omega) fun x hx => ?_
      rw [List.mem_singleton] at hx
      subst hx
      exact fun k v _ _ h1 h2 => ⟨h1, h2⟩
end ActSpec
end Go.Proofs.YtcfcpbkeedfbpaaGreatDoor

namespace Go.Proofs.YtcfcpbkeedfbpaaGreatDoor
open Go.RowKit TermSpec
set_option maxRecDepth 100000

set_option maxHeartbeats 1600000 in
theorem arity_any (o : Int) (w : World) : Calls Tryz.prog 140 #[.int .i64 o] w (SameI w (ar o)) := by
  go_enter Tryz.func140, Tryz.ntmps140
  go_wp2_with fail
  all_goals
    go_ret
    exact ⟨ret_int (by simp_all [ar]), rfl⟩

def RetTwo (W : World) (a b : Int) (e : Ending) (w' : World) : Prop := e = .returned (.tuple #[.int .i64 a, .int .i64 b]) ∧ W = w'
set_option maxHeartbeats 1600000 in
theorem types_any (o : Int) (w : World) : Calls Tryz.prog 113 #[.int .i64 o] w (RetTwo w (ownT o) (askT o)) := by
  go_enter Tryz.func113, Tryz.ntmps113
  go_wp2_with fail
  all_goals
    go_ret2
    exact ⟨by simp_all [ownT, askT], rfl⟩

theorem rarity_out (o : Int) (h : o < 1 ∨ 20 < o) (w : World) : Calls Tryz.prog 98 #[.int .i64 o] w (RetI w (ar o)) := by
  have HE := Lib.hid (ar_out h)
  by_cases h1 : o < 1
  · clear h
    go_enter Tryz.func98, Tryz.ntmps98
    go_wp2_with fail
    go_ret
    exact ⟨ret_int HE.out.symm, Below.refl _ _⟩
  · have h2 : 20 < o := by omega
    clear h
    go_enter Tryz.func98, Tryz.ntmps98
    go_wp2_with fail
    go_ret
    exact ⟨ret_int HE.out.symm, Below.refl _ _⟩
theorem arl_at (n : Nat) (h1 : 1 ≤ n) (h : n < 21) : ([Value.int .i64 0, Value.int .i64 0, Value.int .i64 0, Value.int .i64 1, Value.int .i64 2, Value.int .i64 2, Value.int .i64 2, Value.int .i64 2, Value.int .i64 2, Value.int .i64 0, Value.int .i64 0, Value.int .i64 0, Value.int .i64 1, Value.int .i64 2, Value.int .i64 2, Value.int .i64 2, Value.int .i64 2, Value.int .i64 2, Value.int .i64 2, Value.int .i64 2, Value.int .i64 2])[n] = .int .i64 (ar n) := by
  have : n = 1 ∨ n = 2 ∨ n = 3 ∨ n = 4 ∨ n = 5 ∨ n = 6 ∨ n = 7 ∨ n = 8 ∨ n = 9 ∨ n = 10 ∨ n = 11 ∨ n = 12 ∨ n = 13 ∨ n = 14 ∨ n = 15 ∨ n = 16 ∨ n = 17 ∨ n = 18 ∨ n = 19 ∨ n = 20 := by omega
  rcases this with rfl | rfl | rfl | rfl | rfl | rfl | rfl | rfl | rfl | rfl | rfl | rfl | rfl | rfl | rfl | rfl | rfl | rfl | rfl | rfl <;> rfl
set_option maxHeartbeats 800000 in
theorem rarity_in (n : Nat) (h1 : 1 ≤ n) (h : n ≤ 20) (w : World) : Calls Tryz.prog 98 #[.int .i64 n] w (RetI w (ar n)) := by
  have h21 : n < 21 := by omega
  have h21' : (n : Int) < 21 := by omega
  have h20 : ¬ 20 < (n : Int) := by omega
  have HE := Lib.hid (arl_at n h1 h21)
  go_enter Tryz.func98, Tryz.ntmps98
  go_wp2_with fail
  go_ret
  exact ⟨congrArg Ending.returned HE.out, (Below.refl _ _).alloc (Nat.le_refl _) _⟩
theorem rarity_any (o : Int) (w : World) : Calls Tryz.prog 98 #[.int .i64 o] w (RetI w (ar o)) := by
  by_cases h : o < 1 ∨ 20 < o
  · exact rarity_out o h w
  · obtain ⟨n, rfl⟩ := Int.eq_ofNat_of_zero_le (show 0 ≤ o by omega)
    exact rarity_in n (by omega) (by omega) w
end Go.Proofs.YtcfcpbkeedfbpaaGreatDoor

namespace Go.Proofs.YtcfcpbkeedfbpaaGreatDoor
open Go.RowKit NamesSpec Go.Lib
set_option maxRecDepth 100000

theorem keywords_any (w : World) : Calls Tryz.prog 90 #[] w (RetStrs w kwS) := by
  go_enter Tryz.func90, Tryz.ntmps90
  go_wp2
  go_ret
  exact ⟨_, rfl, Rd.lit (cs := (strV kwS).toArray) rfl, (Below.refl _ _).alloc (Nat.le_refl _) _⟩

theorem toList_of (s : ByteArray) : s.toList = s.data.toList := ByteArray.toList_eq s
theorem kw_yes {s : ByteArray} {x : List UInt8} (h : (s.toList == x) = true) (hx : isKw x = true) : isKw s.data.toList = true := by
  rw [← toList_of, eq_of_beq h]; exact hx
theorem kw_no {s : ByteArray} (h : ∀ x ∈ kw, (s.toList == x) = false) : isKw s.data.toList = false := by
  rw [← toList_of]
  unfold isKw
  rw [Bool.eq_false_iff]
  intro hc
  have hm := List.contains_iff_mem.1 hc
  have := h _ hm
  simp at this

set_option maxHeartbeats 800000 in
theorem keyword_any (s : ByteArray) (w : World) : Calls Tryz.prog 93 #[.string s] w fun e w' => e = .returned (.bool (isKw s.data.toList)) ∧ w = w' := by
  rcases h0 : (s.toList == [99, 104, 97, 114, 116]) with _ | _
  case true =>
    go_enter Tryz.func93, Tryz.ntmps93
    go_wp2
    go_ret
    exact ⟨ret_bool (kw_yes h0 (by decide)).symm, rfl⟩
  rcases h1 : (s.toList == [101, 118, 101, 110, 116]) with _ | _
  case true =>
    go_enter Tryz.func93, Tryz.ntmps93
    go_wp2
    go_ret
    exact ⟨ret_bool (kw_yes h1 (by decide)).symm, rfl⟩
  rcases h2 : (s.toList == [118, 97, 114]) with _ | _
  case true =>
    go_enter Tryz.func93, Tryz.ntmps93
    go_wp2
    go_ret
    exact ⟨ret_bool (kw_yes h2 (by decide)).symm, rfl⟩
  rcases h3 : (s.toList == [108, 101, 97, 102]) with _ | _
  case true =>
    go_enter Tryz.func93, Tryz.ntmps93
    go_wp2
    go_ret
    exact ⟨ret_bool (kw_yes h3 (by decide)).symm, rfl⟩
  rcases h4 : (s.toList == [111, 114]) with _ | _
  case true =>
    go_enter Tryz.func93, Tryz.ntmps93
    go_wp2
    go_ret
    exact ⟨ret_bool (kw_yes h4 (by decide)).symm, rfl⟩
  rcases h5 : (s.toList == [97, 110, 100]) with _ | _
  case true =>
    go_enter Tryz.func93, Tryz.ntmps93
    go_wp2
    go_ret
    exact ⟨ret_bool (kw_yes h5 (by decide)).symm, rfl⟩
  rcases h6 : (s.toList == [101, 110, 116, 101, 114]) with _ | _
  case true =>
    go_enter Tryz.func93, Tryz.ntmps93
    go_wp2
    go_ret
    exact ⟨ret_bool (kw_yes h6 (by decide)).symm, rfl⟩
  rcases h7 : (s.toList == [101, 120, 105, 116]) with _ | _
  case true =>
    go_enter Tryz.func93, Tryz.ntmps93
    go_wp2
    go_ret
    exact ⟨ret_bool (kw_yes h7 (by decide)).symm, rfl⟩
  rcases h8 : (s.toList == [111, 110]) with _ | _
  case true =>
    go_enter Tryz.func93, Tryz.ntmps93
    go_wp2
    go_ret
    exact ⟨ret_bool (kw_yes h8 (by decide)).symm, rfl⟩
  rcases h9 : (s.toList == [97, 117, 116, 111]) with _ | _
  case true =>
    go_enter Tryz.func93, Tryz.ntmps93
    go_wp2
    go_ret
    exact ⟨ret_bool (kw_yes h9 (by decide)).symm, rfl⟩
  rcases h10 : (s.toList == [97, 110, 121]) with _ | _
  case true =>
    go_enter Tryz.func93, Tryz.ntmps93
    go_wp2
    go_ret
    exact ⟨ret_bool (kw_yes h10 (by decide)).symm, rfl⟩
  rcases h11 : (s.toList == [105, 110]) with _ | _
  case true =>
    go_enter Tryz.func93, Tryz.ntmps93
    go_wp2
    go_ret
    exact ⟨ret_bool (kw_yes h11 (by decide)).symm, rfl⟩
  rcases h12 : (s.toList == [109, 105, 110]) with _ | _
  case true =>
    go_enter Tryz.func93, Tryz.ntmps93
    go_wp2
    go_ret
    exact ⟨ret_bool (kw_yes h12 (by decide)).symm, rfl⟩
  rcases h13 : (s.toList == [109, 97, 120]) with _ | _
  case true =>
    go_enter Tryz.func93, Tryz.ntmps93
    go_wp2
    go_ret
    exact ⟨ret_bool (kw_yes h13 (by decide)).symm, rfl⟩
  rcases h14 : (s.toList == [110, 111, 116]) with _ | _
  case true =>
    go_enter Tryz.func93, Tryz.ntmps93
    go_wp2
    go_ret
    exact ⟨ret_bool (kw_yes h14 (by decide)).symm, rfl⟩
  rcases h15 : (s.toList == [116, 114, 117, 101]) with _ | _
  case true =>
    go_enter Tryz.func93, Tryz.ntmps93
    go_wp2
    go_ret
    exact ⟨ret_bool (kw_yes h15 (by decide)).symm, rfl⟩
  rcases h16 : (s.toList == [102, 97, 108, 115, 101]) with _ | _
  case true =>
    go_enter Tryz.func93, Tryz.ntmps93
    go_wp2
    go_ret
    exact ⟨ret_bool (kw_yes h16 (by decide)).symm, rfl⟩
  have HK : Hid (isKw s.data.toList = false) := Lib.hid (kw_no (by
    intro x hx
    simp only [kw, List.mem_cons, List.not_mem_nil, or_false] at hx
    rcases hx with rfl | rfl | rfl | rfl | rfl | rfl | rfl | rfl | rfl | rfl | rfl | rfl | rfl | rfl | rfl | rfl | rfl <;> assumption))
  go_enter Tryz.func93, Tryz.ntmps93
  go_wp2
  go_ret
  exact ⟨ret_bool HK.out.symm, rfl⟩

/-- May a name begin with a rune; may a rune stand in one? -/
def begB (r : Int) : Bool := decide (97 ≤ r) && decide (r ≤ 122)
def goB (r : Int) : Bool := begB r || decide (48 ≤ r) && decide (r ≤ 57) || decide (r = 95)
theorem begins_any (r : Int) (w : World) : Calls Tryz.prog 94 #[.int .i32 r] w fun e w' => e = .returned (.bool (begB r)) ∧ w = w' := by
  by_cases h1 : 97 ≤ r <;> by_cases h2 : r ≤ 122
  all_goals
    go_enter Tryz.func94, Tryz.ntmps94
    go_wp2
    go_ret
    exact ⟨ret_bool (by unfold begB; simp [h1, h2]), rfl⟩
theorem begins_is {r : Int} {b : Bool} (h : begB r = b) (w : World) : Calls Tryz.prog 94 #[.int .i32 r] w fun e w' => e = .returned (.bool b) ∧ w = w' := by
  subst h; exact begins_any r w
theorem goesOn_any (r : Int) (w : World) : Calls Tryz.prog 95 #[.int .i32 r] w fun e w' => e = .returned (.bool (goB r)) ∧ w = w' := by
  rcases hb : begB r with _ | _
  all_goals
    have HB := Lib.hid hb
    clear hb
    by_cases h1 : 48 ≤ r <;> by_cases h2 : r ≤ 57 <;> by_cases h3 : r = 95
    all_goals first
      | (exfalso; omega)
      | (try subst h3
         go_enter Tryz.func95, Tryz.ntmps95
         go_wp2_with (go_at_call 94; refine (begins_is HB.out _).mono ?_; rintro e w' ⟨rfl, rfl⟩)
         go_ret
         exact ⟨ret_bool (by unfold goB; rw [HB.out, Bool.eq_iff_iff]; simp; try omega), rfl⟩)
theorem goesOn_is {r : Int} {b : Bool} (h : goB r = b) (w : World) : Calls Tryz.prog 95 #[.int .i32 r] w fun e w' => e = .returned (.bool b) ∧ w = w' := by
  subst h; exact goesOn_any r w

theorem get_bang (s : ByteArray) (i : Nat) (h : i < s.size) : s.get! i = s[i] := by
  simp [ByteArray.get!, getElem!_pos, h]; rfl
theorem dec_big (s : ByteArray) (i : Nat) (h : i < s.size) (hb : 128 ≤ s[i].toNat) : 128 ≤ (Utf8.decode s i).1 := by
  unfold Utf8.decode
  simp only [Nat.add_zero, get_bang s i h]
  rw [if_neg (by omega)]
  repeat' split
  all_goals (try simp only [Utf8.runeError]) <;> (try simp only [Bool.and_eq_true, decide_eq_true_eq, ge_iff_le] at *) <;> omega
theorem goB_of (c : UInt8) : goB (c.toNat : Int) = later c := by
  rw [Bool.eq_iff_iff]
  simp [goB, begB, later, letter, UInt8.le_iff_toNat_le, ← UInt8.toNat_inj]
  omega
theorem begB_of (c : UInt8) : begB (c.toNat : Int) = letter c := by
  rw [Bool.eq_iff_iff]
  simp [begB, letter, UInt8.le_iff_toNat_le]
  omega
theorem later_small {c : UInt8} (h : later c = true) : c.toNat < 128 := by
  simp [later, letter, UInt8.le_iff_toNat_le, ← UInt8.toNat_inj] at h
  omega
theorem dec_later (s : ByteArray) (i : Nat) (h : i < s.size) : goB ((Utf8.decode s i).1 : Int) = later s[i] := by
  by_cases hb : s[i].toNat < 128
  · rw [decode_ascii s i h hb]; exact goB_of _
  · have h1 := dec_big s i h (by omega)
    have h2 : later s[i] = false := by
      rw [← Bool.not_eq_true]; intro hc; exact hb (later_small hc)
    rw [h2, ← Bool.not_eq_true]
    simp [goB, begB]
    omega
theorem dec_letter (s : ByteArray) (i : Nat) (h : i < s.size) : begB ((Utf8.decode s i).1 : Int) = letter s[i] := by
  by_cases hb : s[i].toNat < 128
  · rw [decode_ascii s i h hb]; exact begB_of _
  · have h1 := dec_big s i h (by omega)
    have h2 : letter s[i] = false := by
      rw [← Bool.not_eq_true]; intro hc; exact hb (later_small (letter_later hc))
    rw [h2, ← Bool.not_eq_true]
    simp [begB]
    omega
theorem dec_one (s : ByteArray) (i : Nat) (h : i < s.size) (hl : later s[i] = true) : (Utf8.decode s i).2 = 1 := by rw [decode_ascii s i h (later_small hl)]
theorem byte_at (s : ByteArray) (i : Nat) (h : i < s.size) : s.data.toList[i]? = some s[i] := by
  rw [List.getElem?_eq_getElem (by simpa using h)]; rfl
theorem str_nil' {s : ByteArray} (h : s.size = 0) : s.toList = [] := by
  rw [ByteArray.toList_eq, ← List.length_eq_zero_iff]; exact h
theorem str_ne' {s : ByteArray} (h : 0 < s.size) : s.toList.isEmpty = false := by
  have e : s.toList.length = s.size := by rw [ByteArray.toList_eq]; rfl
  cases h' : s.toList with
  | nil => rw [h'] at e; simp at e; omega
  | cons a l => rfl
theorem size_list (s : ByteArray) : s.data.toList.length = s.size := rfl

def IsRel (W : World) (s : ByteArray) (wr : World) : Prop := ∃ pos, pos ≤ s.size ∧ wr.heap[W.heap.size]? = some (.stringIter s pos) ∧ Below W.heap.size W wr ∧ (s.data.toList.take pos).all later = true ∧ (0 < pos → ∀ c, s.data.toList[0]? = some c → letter c = true)
theorem isRel_next {W wr : World} {s : ByteArray} {pos : Nat} (hp : pos < s.size) (hit : wr.heap[W.heap.size]? = some (.stringIter s pos)) (hb : Below W.heap.size W wr) (ha : (s.data.toList.take pos).all later = true)
    (h0 : 0 < pos → ∀ c, s.data.toList[0]? = some c → letter c = true) (hl : later s[pos] = true) (hz : pos = 0 → letter s[pos] = true) : IsRel W s (wr.iterAt W.heap.size s (pos + 1)) := by
  refine ⟨pos + 1, by omega, iterAt_heap _ _ _ _ _ hit, below_iterAt hb (Nat.le_refl _) _ _, ?_, fun _ c hc => ?_⟩
  · rw [take_next (byte_at s pos hp), List.all_append, ha]; simpa using hl
  · rcases Nat.eq_zero_or_pos pos with h | h
    · subst h
      rw [byte_at s 0 hp] at hc
      injection hc with hc
      exact hc ▸ hz rfl
    · exact h0 h c hc

set_option maxHeartbeats 1600000 in
theorem is_any (s : ByteArray) (w : World) (hs : s.size ≤ 9223372036854775807) : Calls Tryz.prog 53 #[.string s] w fun e w' => e = .returned (.bool (isName s.data.toList)) ∧ Below w.heap.size w w' := by
  rcases Nat.eq_zero_or_pos s.size with h0 | h0
  · have HE : Hid (isName s.data.toList = false) := Lib.hid (isName_size (.inl h0))
    have hnil := str_nil' h0
    clear h0 hs
    go_enter Tryz.func53, Tryz.ntmps53
    go_wp2
    go_ret
    exact ⟨ret_bool HE.out.symm, Below.refl _ _⟩
  · have hne := str_ne' h0
    by_cases h12 : 12 < s.size
    · have HE : Hid (isName s.data.toList = false) := Lib.hid (isName_size (.inr h12))
      go_enter Tryz.func53, Tryz.ntmps53
      go_wp2
      go_ret
      exact ⟨ret_bool HE.out.symm, Below.refl _ _⟩
    · rcases hk : isKw s.data.toList with _ | _
      case true =>
        have HE : Hid (isName s.data.toList = false) := Lib.hid (isName_kw hk)
        have HC := Lib.hid (hk ▸ keyword_any s w)
        clear hk
        go_enter Tryz.func53, Tryz.ntmps53
        go_wp2_with (go_at_call 93; refine HC.out.mono ?_; rintro e w' ⟨rfl, rfl⟩)
        go_ret
        exact ⟨ret_bool HE.out.symm, Below.refl _ _⟩
      have HC := Lib.hid (hk ▸ keyword_any s w)
      have HK := Lib.hid hk
      clear hk
      go_enter Tryz.func53, Tryz.ntmps53
      go_wp2_with (go_at_call 93; refine HC.out.mono ?_; rintro e w' ⟨rfl, rfl⟩)
      go_loopw [] (fun wr => IsRel w s wr) (fun wr => s.size - wr.iterPos w.heap.size)
      case atStart => exact ⟨0, Nat.zero_le _, World.iter_heap w s 0, (Below.refl _ w).alloc (Nat.le_refl _) _, rfl, fun h => absurd h (by omega)⟩
      case round =>
        obtain ⟨pos, hps, hit, hbw, hall, hhead⟩ := hrel
        by_cases hp : pos < s.size
        · have hnx : ∀ ty, (Instr.next (.pointer (some ⟨w.heap.size, 0, none⟩)) true ty).run Tryz.prog wr = _ := fun ty => Lib.run_next_any_at wr w.heap.size s pos ty hit hp
          have hgo := dec_later s pos hp
          have hbe := dec_letter s pos hp
          have hw1 := dec_one s pos hp
          have hat := byte_at s pos hp
          have hrel := isRel_next hp hit hbw hall hhead
          have HM : Hid (s.size - (wr.iterAt w.heap.size s (pos + 1)).iterPos w.heap.size < s.size - wr.iterPos w.heap.size) := Lib.hid (by
            simp only [World.iterPos, iterAt_heap _ _ _ _ _ hit, hit]; omega)
          obtain ⟨c, hc⟩ : ∃ c, c = s[pos] := ⟨_, rfl⟩
          rw [← hc] at hgo hbe hw1 hat hrel
          clear hc
          obtain ⟨r, hr⟩ : ∃ r, r = (Utf8.decode s pos).1 := ⟨_, rfl⟩
          obtain ⟨wd, hwd⟩ : ∃ wd, wd = (Utf8.decode s pos).2 := ⟨_, rfl⟩
          rw [← hr] at hgo hbe hnx
          rw [← hwd] at hw1 hnx
          clear hr hwd hall hhead
          have HB := Lib.hid hbw
          have HA := Lib.hid hat
          clear hat hit hbw
          rcases Nat.eq_zero_or_pos pos with hz | hz
          · subst hz
            rcases hl : letter c with _ | _
            · have HE : Hid (isName s.data.toList = false) := Lib.hid (isName_head HA.out hl)
              have HBc := Lib.hid (begins_is (hbe.trans hl))
              clear hl hbe hgo hw1 hrel HM
              go_wp2_with (go_at_call 94; refine (HBc.out _).mono ?_; rintro e w' ⟨rfl, rfl⟩)
              go_ret
              exact ⟨ret_bool HE.out.symm, below_iterAt HB.out (Nat.le_refl _) _ _⟩
            · have HBc := Lib.hid (begins_is (hbe.trans hl))
              have HGc := Lib.hid (goesOn_is (hgo.trans (letter_later hl)))
              have HR := Lib.hid (hrel (letter_later hl) (fun _ => hl))
              obtain rfl : wd = 1 := hw1 (letter_later hl)
              clear hl hbe hgo hrel hw1
              go_wp2_with (first | (go_at_call 94; refine (HBc.out _).mono ?_; rintro e w' ⟨rfl, rfl⟩) | (go_at_call 95; refine (HGc.out _).mono ?_; rintro e w' ⟨rfl, rfl⟩))
              go_roundw
              case rel => exact HR.out
              case measure => exact HM.out
          · have hz' : ((pos : Int) == 0) = false := by simp; omega
            rcases hl : later c with _ | _
            · have HE : Hid (isName s.data.toList = false) := Lib.hid (isName_later HA.out hl)
              have HGc := Lib.hid (goesOn_is (hgo.trans hl))
              clear hl hbe hgo hw1 hrel HM
              go_wp2_with (go_at_call 95; refine (HGc.out _).mono ?_; rintro e w' ⟨rfl, rfl⟩)
              go_ret
              exact ⟨ret_bool HE.out.symm, below_iterAt HB.out (Nat.le_refl _) _ _⟩
            · have HGc := Lib.hid (goesOn_is (hgo.trans hl))
              have HR := Lib.hid (hrel hl (fun h => absurd h (by omega)))
              obtain rfl : wd = 1 := hw1 hl
              clear hl hbe hgo hrel hw1
              go_wp2_with (go_at_call 95; refine (HGc.out _).mono ?_; rintro e w' ⟨rfl, rfl⟩)
              go_roundw
              case rel => exact HR.out
              case measure => exact HM.out
        · have hnx : ∀ ty, (Instr.next (.pointer (some ⟨w.heap.size, 0, none⟩)) true ty).run Tryz.prog wr = _ := fun ty => Lib.run_next_end_at wr w.heap.size s pos ty hit hp
          have hall' : s.data.toList.all later = true := by rw [List.take_of_length_le (by rw [size_list]; omega)] at hall; exact hall
          have HE : Hid (isName s.data.toList = true) := Lib.hid (isName_yes (by rw [size_list]; omega) (by rw [size_list]; omega) HK.out hall' (hhead (by omega)))
          clear hall hall' hhead
          go_wp2
          go_ret
          exact ⟨ret_bool HE.out.symm, hbw⟩
end Go.Proofs.YtcfcpbkeedfbpaaGreatDoor

namespace Go.Proofs.YtcfcpbkeedfbpaaGreatDoor
open Go.RowKit NamesSpec Go.Lib
set_option maxRecDepth 100000

theorem letter_iff (c : UInt8) : letter c = true ↔ 97 ≤ (c.toNat : Int) ∧ (c.toNat : Int) ≤ 122 := by
  simp [letter, UInt8.le_iff_toNat_le]; omega
theorem later_iff (c : UInt8) : later c = true ↔ (97 ≤ (c.toNat : Int) ∧ (c.toNat : Int) ≤ 122) ∨ (48 ≤ (c.toNat : Int) ∧ (c.toNat : Int) ≤ 57) ∨ (c.toNat : Int) = 95 := by
  rw [later, Bool.or_eq_true, Bool.or_eq_true, letter_iff]
  simp [UInt8.le_iff_toNat_le, ← UInt8.toNat_inj]; omega
theorem kw_place_is {s : ByteArray} {b : Bool} (h : isKw s.data.toList = b) : decide (0 ≤ idxOfS kwS s) = b := by rw [place_kw, h]

def RIsRel (s : ByteArray) (i : Value) : Prop := ∃ k : Nat, k ≤ s.size ∧ i = .int .i64 k ∧ (s.data.toList.take k).all later = true ∧ (0 < k → ∀ c, s.data.toList[0]? = some c → letter c = true)
theorem risRel_next {s : ByteArray} {k : Nat} (hp : k < s.size) (ha : (s.data.toList.take k).all later = true) (h0 : 0 < k → ∀ c, s.data.toList[0]? = some c → letter c = true) (hl : later s[k] = true) (hz : k = 0 → letter s[k] = true) : RIsRel s (.int .i64 (k + 1 : Nat)) := by
  refine ⟨k + 1, by omega, rfl, ?_, fun _ c hc => ?_⟩
  · rw [take_next (byte_at s k hp), List.all_append, ha]; simpa using hl
  · rcases Nat.eq_zero_or_pos k with h | h
    · subst h
      rw [byte_at s 0 hp] at hc
      injection hc with hc
      exact hc ▸ hz rfl
    · exact h0 h c hc

set_option maxHeartbeats 1600000 in
theorem ris_any (s : ByteArray) (w : World) (hs : s.size ≤ 9223372036854775807) : Calls Tryz.prog 51 #[.string s] w fun e w' => e = .returned (.bool (isName s.data.toList)) ∧ Below w.heap.size w w' := by
  by_cases h0 : s.size < 1
  · have HE : Hid (isName s.data.toList = false) := Lib.hid (isName_size (.inl (by rw [size_list]; omega)))
    go_enter Tryz.func51, Tryz.ntmps51
    go_wp2
    go_ret
    exact ⟨ret_bool HE.out.symm, Below.refl _ _⟩
  by_cases h12 : 12 < s.size
  · have HE : Hid (isName s.data.toList = false) := Lib.hid (isName_size (.inr h12))
    go_enter Tryz.func51, Tryz.ntmps51
    go_wp2
    go_ret
    exact ⟨ret_bool HE.out.symm, Below.refl _ _⟩
  rcases hk : isKw s.data.toList with _ | _
  case true =>
    have HE : Hid (isName s.data.toList = false) := Lib.hid (isName_kw hk)
    have hpl := kw_place_is hk
    clear hk
    go_enter Tryz.func51, Tryz.ntmps51
    go_wp2_with (first
      | (go_at_call 90; refine (keywords_any _).mono ?_; rintro e w' ⟨v, rfl, hrd, hbw⟩)
      | (go_at_call 89; refine (rplace_any _ kwS s _ hrd (by decide)).mono ?_; rintro e w' ⟨rfl, rfl⟩))
    go_ret
    exact ⟨ret_bool HE.out.symm, hbw⟩
  have hpl := kw_place_is hk
  have HK := Lib.hid hk
  clear hk
  go_enter Tryz.func51, Tryz.ntmps51
  go_wp2_with (first
    | (go_at_call 90; refine (keywords_any _).mono ?_; rintro e w' ⟨v, rfl, hrd, hbw⟩)
    | (go_at_call 89; refine (rplace_any _ kwS s _ hrd (by decide)).mono ?_; rintro e w' ⟨rfl, rfl⟩))
  clear hrd hpl
  go_loop [3] (fun i => RIsRel s i) (fun i => s.size - (RowKit.intOf i).toNat)
  case atStart => exact ⟨0, Nat.zero_le _, rfl, rfl, fun h => absurd h (by omega)⟩
  case round =>
    obtain ⟨k, hks, rfl, hall, hhead⟩ := hrel
    by_cases hp : k < s.size
    · have hrel := risRel_next hp hall hhead
      have hat := byte_at s k hp
      have hli := letter_iff s[k]
      have hla := later_iff s[k]
      have hub : (s[k].toNat : Int) ≤ 255 := by have := s[k].toNat_lt; omega
      have hlb : 0 ≤ (s[k].toNat : Int) := by omega
      by_cases hL : letter s[k] = true
      · have HR := Lib.hid (hrel (letter_later hL) (fun _ => hL))
        obtain ⟨g1, g2⟩ := hli.1 hL
        clear hrel hat hli hla hL hall hhead
        go_wp2
        go_round
        case rel => exact HR.out
        case measure => simp [RowKit.intOf]; omega
      · rcases Nat.eq_zero_or_pos k with hz | hz
        · subst hz
          have HE : Hid (isName s.data.toList = false) := Lib.hid (isName_head hat (by simpa using hL))
          have g : ¬ (97 ≤ (s[0].toNat : Int) ∧ (s[0].toNat : Int) ≤ 122) := fun h => hL (hli.2 h)
          clear hrel hat hli hla hL hall hhead
          by_cases g1 : 97 ≤ (s[0].toNat : Int)
          · have g2 : 122 < (s[0].toNat : Int) := by omega
            clear g
            go_wp2
            go_ret
            exact ⟨ret_bool HE.out.symm, hbw⟩
          · clear g
            go_wp2
            go_ret
            exact ⟨ret_bool HE.out.symm, hbw⟩
        · have hz' : ((k : Int) == 0) = false := by simp; omega
          have g : ¬ (97 ≤ (s[k].toNat : Int) ∧ (s[k].toNat : Int) ≤ 122) := fun h => hL (hli.2 h)
          by_cases hla' : later s[k] = true
          · have HR := Lib.hid (hrel hla' (fun h => absurd h (by omega)))
            have g3 := hla.1 hla'
            clear hrel hat hli hla hL hall hhead hla'
            have g4 : (48 ≤ (s[k].toNat : Int) ∧ (s[k].toNat : Int) ≤ 57) ∨ (s[k].toNat : Int) = 95 := by omega
            clear g3
            rcases g4 with ⟨g5, g6⟩ | g5
            · have g1 : ¬ 97 ≤ (s[k].toNat : Int) := by omega
              have g7 : ((s[k].toNat : Int) != 95) = true := by simp; omega
              clear g
              go_wp2
              go_round
              case rel => exact HR.out
              case measure => simp [RowKit.intOf]; omega
            · have g1 : ¬ 97 ≤ (s[k].toNat : Int) := by omega
              have g7 : ((s[k].toNat : Int) != 95) = false := by simp; omega
              clear g g5
              go_wp2
              go_round
              case rel => exact HR.out
              case measure => simp [RowKit.intOf]; omega
          · have HE : Hid (isName s.data.toList = false) := Lib.hid (isName_later hat (by simpa using hla'))
            have g3 : ¬ ((48 ≤ (s[k].toNat : Int) ∧ (s[k].toNat : Int) ≤ 57) ∨ (s[k].toNat : Int) = 95) := fun h => hla' (hla.2 (.inr h))
            have g7 : ((s[k].toNat : Int) != 95) = true := by simp; omega
            clear hrel hat hli hla hL hall hhead hla'
            by_cases g1 : 97 ≤ (s[k].toNat : Int)
            · have g2 : 122 < (s[k].toNat : Int) := by omega
              have g6 : ¬ (s[k].toNat : Int) < 48 := by omega
              have g8 : 57 < (s[k].toNat : Int) := by have : ¬ (s[k].toNat : Int) ≤ 122 := fun h => g ⟨g1, h⟩; omega
              clear g g3
              go_wp2
              go_ret
              exact ⟨ret_bool HE.out.symm, hbw⟩
            · clear g
              by_cases g6 : (s[k].toNat : Int) < 48
              · clear g3
                go_wp2
                go_ret
                exact ⟨ret_bool HE.out.symm, hbw⟩
              · have g8 : 57 < (s[k].toNat : Int) := by omega
                clear g3
                go_wp2
                go_ret
                exact ⟨ret_bool HE.out.symm, hbw⟩
    · have hall' : s.data.toList.all later = true := by rw [List.take_of_length_le (by rw [size_list]; omega)] at hall; exact hall
      have HE : Hid (isName s.data.toList = true) := Lib.hid (isName_yes (by rw [size_list]; omega) (by rw [size_list]; omega) HK.out hall' (hhead (by omega)))
      clear hall hall' hhead
      go_wp2
      go_ret
      exact ⟨ret_bool HE.out.symm, hbw⟩
end Go.Proofs.YtcfcpbkeedfbpaaGreatDoor

namespace Go.Proofs.YtcfcpbkeedfbpaaGreatDoor
open Go.RowKit TermSpec NamesSpec
set_option maxRecDepth 100000

theorem cells_3 {w : World} {b : Nat} {T : TypeId} {x0 x1 x2 : Value} (h : w.heap[b]? = some (.cells #[x0, x1, x2] T (0, 0))) : w.cell? ⟨b, 0, none⟩ = some x0 ∧ w.cell? ⟨b, 1, none⟩ = some x1 ∧ w.cell? ⟨b, 2, none⟩ = some x2 :=
  ⟨cell_of_block' h (i := 0) rfl, cell_of_block' h (i := 1) rfl, cell_of_block' h (i := 2) rfl⟩
theorem free_3 {w : World} {b : Nat} {T : TypeId} {cs : Array Value} (h : w.heap[b]? = some (.cells cs T (0, 0))) : w.frozen? ⟨b, 0, none⟩ = false ∧ w.frozen? ⟨b, 1, none⟩ = false ∧ w.frozen? ⟨b, 2, none⟩ = false :=
  ⟨free_of_block' h 0, free_of_block' h 1, free_of_block' h 2⟩

theorem eq_term (a b c d : Int) (s u : ByteArray) (w : World) : (Op.equalIn 10000 68 (.agg #[.int .i64 a, .int .i64 b, .string s]) (.agg #[.int .i64 c, .int .i64 d, .string u])).run Tryz.prog w = .ok (a == c && (b == d && s.toList == u.toList)) w := by
  have u3 := Tryz.underlying3
  have u9 := Tryz.underlying9
  have hS : Tryz.prog.underlying 68 = some (.struct (Tryz.prog.fieldsOf 68)) := by kernel_rfl
  rw [show (10000 : Nat) = 9999 + 1 from rfl, run_equalIn_agg w 9999 68 _ _ hS (by kernel_rfl)]
  simp only [Program.fieldsOf, Tryz.underlying68]
  go_simp
  by_cases h1 : a = c <;> by_cases h2 : b = d <;> by_cases h3 : s.toList = u.toList <;> simp [h1, h2, h3]
theorem build_term (a : Int) (w : World) : (Instr.build 68 #[(0, .int .i64 a)]).run Tryz.prog w = .ok (.agg #[.int .i64 a, .int .i64 0, .string ⟨#[]⟩]) w := run_build w 68 _ _ (by kernel_rfl)

theorem may_one {o n : Int} {s : ByteArray} (h1 : o = 1) : mayB ⟨o, n, s⟩ = (decide (0 ≤ n) && decide (n ≤ 1000000) && decide (s.size = 0)) := by
  unfold mayB
  rw [if_pos h1, if_neg (by show ¬ (o = 2 ∨ o = 11); omega)]
theorem may_name {o n : Int} {s : ByteArray} (h1 : o = 2 ∨ o = 11) : mayB ⟨o, n, s⟩ = (decide (n = 0) && isName s.data.toList) := by
  unfold mayB
  rw [if_neg (by show ¬ o = 1; omega), if_pos h1]
theorem may_else {o n : Int} {s : ByteArray} (h1 : ¬ o = 1) (h2 : ¬ (o = 2 ∨ o = 11)) : mayB ⟨o, n, s⟩ = (decide (n = 0) && decide (s.size = 0)) := by
  unfold mayB
  rw [if_neg h1, if_neg h2]
theorem int0_dec (n : Int) : (n == 0) = decide (n = 0) := by rw [Bool.eq_iff_iff]; simp
theorem size_dec (s : ByteArray) : ((s.size : Int) == 0) = decide (s.size = 0) := by rw [Bool.eq_iff_iff, decide_eq_true_iff, beq_iff_eq]; omega
theorem nil_iff (s : ByteArray) : (s.toList == []) = decide (s.size = 0) := by
  rw [Bool.eq_iff_iff, decide_eq_true_iff, beq_iff_eq, toList_of]
  exact List.length_eq_zero_iff.symm

set_option maxHeartbeats 1600000 in
theorem may_any1 (o n : Int) (s : ByteArray) (w : World) (h1 : o = 1) : Calls Tryz.prog 97 #[.agg #[.int .i64 o, .int .i64 n, .string s]] w (RetB w (mayB ⟨o, n, s⟩)) := by
  have HE := Lib.hid (may_one (n := n) (s := s) h1)
  have heq := eq_term
  have hbd := build_term
  subst h1
  by_cases hn : n < 0
  · go_enter Tryz.func97, Tryz.ntmps97
    go_wp2_with fail
    go_ret
    exact ⟨ret_bool (by rw [HE.out, decide_eq_false (show ¬ 0 ≤ n by omega)]; rfl), (Below.refl _ _).alloc (Nat.le_refl _) _⟩
  by_cases hn2 : 1000000 < n
  · go_enter Tryz.func97, Tryz.ntmps97
    go_wp2_with fail
    go_ret
    exact ⟨ret_bool (by rw [HE.out, decide_eq_false (show ¬ n ≤ 1000000 by omega)]; simp), (Below.refl _ _).alloc (Nat.le_refl _) _⟩
  · have HS := Lib.hid (nil_iff s)
    go_enter Tryz.func97, Tryz.ntmps97
    go_wp2_with fail
    go_ret
    exact ⟨ret_bool (by rw [HE.out, decide_eq_true (show 0 ≤ n by omega), decide_eq_true (show n ≤ 1000000 by omega), ← HS.out]; simp), ((Below.refl _ _).alloc (Nat.le_refl _) _)⟩
set_option maxHeartbeats 1600000 in
theorem may_any0 (o n : Int) (s : ByteArray) (w : World) (h1 : ¬ o = 1) (h2 : ¬ (o = 2 ∨ o = 11)) : Calls Tryz.prog 97 #[.agg #[.int .i64 o, .int .i64 n, .string s]] w (RetB w (mayB ⟨o, n, s⟩)) := by
  have HE := Lib.hid (may_else (n := n) (s := s) h1 h2)
  have heq := eq_term
  have hbd := build_term
  have g1 : (o == 1) = false := by simp [h1]
  have g2 : (o == 2) = false := by simp; omega
  have g3 : (o == 11) = false := by simp; omega
  have HS := Lib.hid (nil_iff s)
  clear h1 h2
  go_enter Tryz.func97, Tryz.ntmps97
  go_wp2_with fail
  go_ret
  exact ⟨ret_bool (by rw [HE.out, ← HS.out, ← int0_dec]; simp), ((Below.refl _ _).alloc (Nat.le_refl _) _)⟩
set_option maxHeartbeats 1600000 in
theorem may_any2 (o n : Int) (s : ByteArray) (w : World) (hs : s.size ≤ 9223372036854775807) (h2 : o = 2 ∨ o = 11) : Calls Tryz.prog 97 #[.agg #[.int .i64 o, .int .i64 n, .string s]] w (RetB w (mayB ⟨o, n, s⟩)) := by
  have HE := Lib.hid (may_name (n := n) (s := s) h2)
  have heq := eq_term
  have hbd := build_term
  have HC : Hid (∀ w, Calls Tryz.prog 53 #[.string s] w (RetB w (isName s.data.toList))) := Lib.hid (fun w => is_any s w hs)
  obtain ⟨q, hq⟩ : ∃ q, q = isName s.data.toList := ⟨_, rfl⟩
  rw [← hq] at HC HE
  clear hq
  have g1 : (o == 1) = false := by simp; omega
  cases q with
  | false =>
    rcases h2 with rfl | rfl
    all_goals
      go_enter Tryz.func97, Tryz.ntmps97
      go_wp2_with (go_at_call 53; (with_reducible refine (HC.out _).mono ?_))
      rintro e w1 ⟨rfl, hb1⟩
      go_wp2_with fail
      go_ret
      exact ⟨ret_bool (by rw [HE.out]; simp), below_two' ((Below.refl _ _).alloc (Nat.le_refl _) _) (hb1.mono (by simp))⟩
  | true =>
    rcases h2 with rfl | rfl
    all_goals
      go_enter Tryz.func97, Tryz.ntmps97
      go_wp2_with (go_at_call 53; (with_reducible refine (HC.out _).mono ?_))
      rintro e w1 ⟨rfl, hb1⟩
      have hbl := (hb1.block w.heap.size (by simp)).trans (heap_alloc_new w _)
      obtain ⟨c0, c1, c2⟩ := cells_3 hbl
      obtain ⟨f0, f1, f2⟩ := free_3 hbl
      have HB : Hid (Below w.heap.size w w1) := Lib.hid (((Below.refl _ _).alloc (Nat.le_refl _) _).trans (hb1.mono (by simp)))
      have HBL := Lib.hid hbl
      clear hb1 hbl
      go_wp2_with fail
      go_ret
      exact ⟨ret_bool (by rw [HE.out, ← int0_dec]; simp), HB.out.setCell (Nat.le_refl _) _⟩
theorem may_any (t : Tm) (w : World) (hs : t.s.size ≤ 9223372036854775807) : Calls Tryz.prog 97 #[.agg #[.int .i64 t.op, .int .i64 t.n, .string t.s]] w (RetB w (mayB t)) := by
  by_cases h1 : t.op = 1
  · exact may_any1 t.op t.n t.s w h1
  · by_cases h2 : t.op = 2 ∨ t.op = 11
    · exact may_any2 t.op t.n t.s w hs h2
    · exact may_any0 t.op t.n t.s w h1 h2

set_option maxHeartbeats 1600000 in
theorem rmay_any1 (n : Int) (s : ByteArray) (w : World) (_hs : s.size ≤ 9223372036854775807) : Calls Tryz.prog 92 #[.agg #[.int .i64 1, .int .i64 n, .string s]] w (RetB w (mayB ⟨1, n, s⟩)) := by
  have HE := Lib.hid (may_one (n := n) (s := s) (o := 1) rfl)
  by_cases hn : n < 0
  · go_enter Tryz.func92, Tryz.ntmps92
    go_wp2_with fail
    go_ret
    exact ⟨ret_bool (by rw [HE.out, decide_eq_false (show ¬ 0 ≤ n by omega)]; rfl), (Below.refl _ _).alloc (Nat.le_refl _) _⟩
  by_cases hn2 : 1000000 < n
  · go_enter Tryz.func92, Tryz.ntmps92
    go_wp2_with fail
    go_ret
    exact ⟨ret_bool (by rw [HE.out, decide_eq_false (show ¬ n ≤ 1000000 by omega)]; simp), (Below.refl _ _).alloc (Nat.le_refl _) _⟩
  · go_enter Tryz.func92, Tryz.ntmps92
    go_wp2_with fail
    go_ret
    exact ⟨ret_bool (by rw [HE.out, decide_eq_true (show 0 ≤ n by omega), decide_eq_true (show n ≤ 1000000 by omega), ← size_dec]; rfl), ((Below.refl _ _).alloc (Nat.le_refl _) _)⟩
set_option maxHeartbeats 1600000 in
theorem rmay_n (o n : Int) (s : ByteArray) (w : World) (h0 : 1 ≤ o) (h20 : o ≤ 20) (h1 : ¬ o = 1) (hn : ¬ n = 0) : Calls Tryz.prog 92 #[.agg #[.int .i64 o, .int .i64 n, .string s]] w (RetB w (mayB ⟨o, n, s⟩)) := by
  have HE : Hid (mayB ⟨o, n, s⟩ = false) := Lib.hid (by unfold mayB; rw [if_neg h1, decide_eq_false hn]; rfl)
  have g1 : (o != 1) = true := by simp [h1]
  have g2 : (n != 0) = true := by simp [hn]
  go_enter Tryz.func92, Tryz.ntmps92
  go_wp2_with fail
  go_ret
  exact ⟨ret_bool HE.out.symm, (Below.refl _ _).alloc (Nat.le_refl _) _⟩
set_option maxHeartbeats 1600000 in
theorem rmay_0 (o : Int) (s : ByteArray) (w : World) (h0 : 1 ≤ o) (h20 : o ≤ 20) (h1 : ¬ o = 1) (h2 : ¬ (o = 2 ∨ o = 11)) (_hs : s.size ≤ 9223372036854775807) : Calls Tryz.prog 92 #[.agg #[.int .i64 o, .int .i64 0, .string s]] w (RetB w (mayB ⟨o, 0, s⟩)) := by
  have HE := Lib.hid (may_else (n := 0) (s := s) h1 h2)
  have g1 : (o != 1) = true := by simp [h1]
  have g2 : (o == 2) = false := by simp; omega
  have g3 : (o == 11) = false := by simp; omega
  clear h2
  go_enter Tryz.func92, Tryz.ntmps92
  go_wp2_with fail
  go_ret
  exact ⟨ret_bool (by rw [HE.out, ← size_dec]; rfl), (Below.refl _ _).alloc (Nat.le_refl _) _⟩
set_option maxHeartbeats 1600000 in
theorem rmay_2 (o : Int) (s : ByteArray) (w : World) (h2 : o = 2 ∨ o = 11) (hs : s.size ≤ 9223372036854775807) : Calls Tryz.prog 92 #[.agg #[.int .i64 o, .int .i64 0, .string s]] w (RetB w (mayB ⟨o, 0, s⟩)) := by
  have HE := Lib.hid (may_name (n := 0) (s := s) h2)
  have HC : Hid (∀ w, Calls Tryz.prog 51 #[.string s] w (RetB w (isName s.data.toList))) := Lib.hid (fun w => ris_any s w hs)
  rcases h2 with rfl | rfl
  all_goals
    go_enter Tryz.func92, Tryz.ntmps92
    go_wp2_with (go_at_call 51; (with_reducible refine (HC.out _).mono ?_))
    rintro e w1 ⟨rfl, hb1⟩
    go_wp2_with fail
    go_ret
    exact ⟨ret_bool (by rw [HE.out]; simp), below_two' ((Below.refl _ _).alloc (Nat.le_refl _) _) (hb1.mono (by simp))⟩
theorem rmay_any (t : Tm) (w : World) (hs : t.s.size ≤ 9223372036854775807) (h0 : 0 ≤ ar t.op) : Calls Tryz.prog 92 #[.agg #[.int .i64 t.op, .int .i64 t.n, .string t.s]] w (RetB w (mayB t)) := by
  obtain ⟨h1, h20⟩ := ar_in.1 h0
  obtain ⟨o, n, s⟩ := t
  by_cases e1 : o = 1
  · subst e1
    exact rmay_any1 n s w hs
  · by_cases en : n = 0
    · subst en
      by_cases h2 : o = 2 ∨ o = 11
      · exact rmay_2 o s w h2 hs
      · exact rmay_0 o s w h1 h20 e1 h2 hs
    · exact rmay_n o n s w h1 h20 e1 en
end Go.Proofs.YtcfcpbkeedfbpaaGreatDoor

namespace Go.Proofs.YtcfcpbkeedfbpaaGreatDoor
open Go.RowKit TermSpec
set_option maxRecDepth 100000

def EndRel (l : List Tm) (n : Nat) (r : Int) (a o : Value) : Prop := ∃ (j k : Nat), j ≤ n ∧ a = .int .i64 j ∧ o = .int .i64 k ∧ k ≤ j + 1 ∧ fin k (l.drop j) j = r
theorem endRel_next {l : List Tm} {n j k : Nat} {r : Int} {t : Tm} (hj : j < n) (ht : l[j]? = some t) (h0 : 0 ≤ ar t.op) (hk : k + 1 ≤ j + 1) (h : fin (k + 1) (l.drop j) j = r) (o : Int) (ho : o = (k + 1 : Nat) + (ar t.op - 1)) : EndRel l n r (.int .i64 ((j : Int) + 1)) (.int .i64 o) := by
  have h2 := (ar_bd t.op).2
  have e := arN_of h0
  refine ⟨j + 1, k + arN t.op, by omega, by simp, ?_, by omega, ?_⟩
  · congr 1; omega
  · rw [drop_get ht, fin_cons, if_neg (by omega)] at h
    exact h
theorem fin_stop {l : List Tm} {j k : Nat} {r : Int} {t : Tm} (ht : l[j]? = some t) (h0 : ar t.op < 0) (h : fin (k + 1) (l.drop j) j = r) : -1 = r := by
  rw [drop_get ht, fin_cons, if_pos h0] at h
  exact h
theorem fin_out {l : List Tm} {j k : Nat} {r : Int} (hj : l.length ≤ j) (h : fin (k + 1) (l.drop j) j = r) : -1 = r := by
  rw [List.drop_eq_nil_of_le hj] at h
  exact h

set_option maxHeartbeats 1000000 in
theorem end_nat (A : Option Addr) (n c : Nat) (l : List Tm) (a : Nat) (w : World) (h : Tms w (.slice A n c) l) (hn : n = l.length) (hn62 : n ≤ 4611686018427387903) (ha : a ≤ n) :
    Calls Tryz.prog 137 #[.slice A n c, .int .i64 a] w (SameI w (endA l a)) := by
  have HT := Lib.hid h
  have HN := Lib.hid hn
  have HA := Lib.hid (endA_nat l a)
  obtain ⟨r, hr⟩ : ∃ r, r = endA l a := ⟨_, rfl⟩
  rw [← hr] at HA ⊢
  clear h hn hr
  go_enter Tryz.func137, Tryz.ntmps137
  go_wp2_with fail
  go_loop [1, 5] (fun a o => EndRel l n r a o) (fun a _ => n - (intOf a).toNat)
  case atStart => exact ⟨a, 1, ha, rfl, rfl, by omega, HA.out.symm⟩
  case round =>
    obtain ⟨j, k, hj, rfl, rfl, hk, hf⟩ := hrel
    have HF := Lib.hid hf
    clear hf
    rcases Nat.eq_zero_or_pos k with hk0 | hk0
    · subst hk0
      go_wp2_with fail
      go_ret
      exact ⟨ret_int (by rw [← HF.out, fin_zero]), rfl⟩
    · obtain ⟨k, rfl⟩ : ∃ k', k = k' + 1 := ⟨k - 1, by omega⟩
      have hk1 : (0 : Int) < ((k + 1 : Nat) : Int) := by omega
      by_cases hlt : j < n
      · obtain ⟨t, ht⟩ : ∃ t, l[j]? = some t := get_some (by rw [← HN.out]; exact hlt)
        obtain ⟨b, off, rfl, hb, c0, -, -⟩ := HT.out.at_ ht
        have hltI : (j : Int) < (n : Int) := by omega
        have HX := Lib.hid ht
        have HC := Lib.hid (arity_any t.op)
        obtain ⟨h1, h2⟩ := ar_bd t.op
        have HR := Lib.hid (fun h0 => endRel_next (n := n) (r := r) hlt ht h0 hk HF.out)
        have HS := Lib.hid (fun h0 => fin_stop ht h0 HF.out)
        obtain ⟨o, ho⟩ : ∃ o, o = t.op := ⟨_, rfl⟩
        rw [← ho] at HC h1 h2 c0 HR HS
        obtain ⟨q, hq⟩ : ∃ q, q = ar o := ⟨_, rfl⟩
        rw [← hq] at HC h1 h2 HR HS
        clear ht ho hq
        by_cases h0 : q < 0
        · go_wp2_with (go_at_call 140; (with_reducible refine (HC.out _).mono ?_); rintro e w' ⟨rfl, rfl⟩)
          go_ret
          exact ⟨ret_int (HS.out h0), rfl⟩
        · have h0' : 0 ≤ q := by omega
          go_wp2_with (go_at_call 140; (with_reducible refine (HC.out _).mono ?_); rintro e w' ⟨rfl, rfl⟩)
          go_round
          case rel => exact HR.out h0' _ (by simp)
          case measure => simp [intOf]; omega
      · go_wp2_with fail
        go_ret
        exact ⟨ret_int (fin_out (by rw [← HN.out]; omega) HF.out), rfl⟩

theorem end_far (A : Option Addr) (n c : Nat) (l : List Tm) (a : Int) (w : World) (hn : n = l.length) (ha : (n : Int) < a) :
    Calls Tryz.prog 137 #[.slice A n c, .int .i64 a] w (SameI w (endA l a)) := by
  have HE := Lib.hid (endA_out (l := l) (a := a) (by omega))
  have h0 : ¬ a < 0 := by omega
  have h1 : (n : Int) ≤ a := by omega
  clear hn
  go_enter Tryz.func137, Tryz.ntmps137
  go_wp2_with fail
  go_loop [1, 5] (fun v o => v = .int .i64 a ∧ o = .int .i64 1) (fun _ _ => 0)
  case atStart => exact ⟨rfl, rfl⟩
  case round =>
    obtain ⟨rfl, rfl⟩ := hrel
    go_wp2_with fail
    go_ret
    exact ⟨ret_int HE.out.symm, rfl⟩
theorem end_any (A : Option Addr) (n c : Nat) (l : List Tm) (a : Int) (w : World) (h : Tms w (.slice A n c) l) (hn : n = l.length) (hn62 : n ≤ 4611686018427387903) :
    Calls Tryz.prog 137 #[.slice A n c, .int .i64 a] w (SameI w (endA l a)) := by
  by_cases h0 : a < 0
  · have HE := Lib.hid (endA_neg (l := l) h0)
    clear hn h
    go_enter Tryz.func137, Tryz.ntmps137
    go_wp2_with fail
    go_ret
    exact ⟨ret_int HE.out.symm, rfl⟩
  · by_cases h1 : (n : Int) < a
    · exact end_far A n c l a w hn h1
    · obtain ⟨k, rfl⟩ := Int.eq_ofNat_of_zero_le (Int.not_lt.1 h0)
      exact end_nat A n c l k w h hn hn62 (by omega)
end Go.Proofs.YtcfcpbkeedfbpaaGreatDoor
