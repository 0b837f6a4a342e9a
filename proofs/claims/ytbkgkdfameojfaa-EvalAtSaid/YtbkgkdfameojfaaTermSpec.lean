/- Expressions as lists of terms, plainly: how many terms so many expressions take, what is told of an expression from those below it, depth, type, what may be, names. No condition. -/
import Derived.Test.YtbkgkdfameojfaaNamesSpec
namespace Go.Proofs.Ytbkgkdfameojfaa
namespace TermSpec
open NamesSpec

structure Tm where
  op : Int
  n : Int
  s : ByteArray

/-- How many expressions are below a term that does that. -/
def ar (o : Int) : Int :=
  if o = 1 ∨ o = 2 ∨ o = 9 ∨ o = 10 ∨ o = 11 then 0 else if o = 3 ∨ o = 12 then 1 else if o = 4 ∨ o = 5 ∨ o = 6 ∨ o = 7 ∨ o = 8 ∨ o = 13 ∨ o = 14 ∨ o = 15 ∨ o = 16 ∨ o = 17 ∨ o = 18 ∨ o = 19 ∨ o = 20 then 2 else -1
def arN (o : Int) : Nat := (ar o).toNat
theorem ar_bd (o : Int) : -1 ≤ ar o ∧ ar o ≤ 2 := by unfold ar; (repeat' split) <;> omega
theorem arN_of {o : Int} (h : 0 ≤ ar o) : (arN o : Int) = ar o := by unfold arN; omega
theorem ar_out {o : Int} (h : o < 1 ∨ 20 < o) : ar o = -1 := by unfold ar; rw [if_neg (by omega), if_neg (by omega), if_neg (by omega)]
theorem ar_in {o : Int} : 0 ≤ ar o ↔ 1 ≤ o ∧ o ≤ 20 := by unfold ar; (repeat' split) <;> omega

/-- The place behind k expressions that begin here; the place here is p. -/
def fin : Nat → List Tm → Nat → Int
  | 0, _, p => p
  | _ + 1, [], _ => -1
  | k + 1, t :: r, p => if ar t.op < 0 then -1 else fin (k + arN t.op) r (p + 1)
/-- How many terms k expressions take. -/
def cnt : Nat → List Tm → Option Nat
  | 0, _ => some 0
  | _ + 1, [] => none
  | k + 1, t :: r => if ar t.op < 0 then none else (cnt (k + arN t.op) r).map (· + 1)

theorem cnt_zero (l : List Tm) : cnt 0 l = some 0 := by cases l <;> rfl
theorem fin_zero (l : List Tm) (p : Nat) : fin 0 l p = p := by cases l <;> rfl
theorem cnt_cons (k : Nat) (t : Tm) (r : List Tm) : cnt (k + 1) (t :: r) = if ar t.op < 0 then none else (cnt (k + arN t.op) r).map (· + 1) := rfl
theorem fin_cons (k : Nat) (t : Tm) (r : List Tm) (p : Nat) : fin (k + 1) (t :: r) p = if ar t.op < 0 then -1 else fin (k + arN t.op) r (p + 1) := rfl
theorem cnt_step {k m : Nat} {t : Tm} {r : List Tm} (h : cnt (k + 1) (t :: r) = some m) : 0 ≤ ar t.op ∧ ∃ m', m = m' + 1 ∧ cnt (k + arN t.op) r = some m' := by
  rw [cnt_cons] at h
  split at h
  · cases h
  · cases hc : cnt (k + arN t.op) r with
    | none => rw [hc] at h; cases h
    | some m' => rw [hc] at h; cases h; exact ⟨by omega, m', rfl, rfl⟩
theorem cnt_mk {k m : Nat} {t : Tm} {r : List Tm} (h0 : 0 ≤ ar t.op) (h : cnt (k + arN t.op) r = some m) : cnt (k + 1) (t :: r) = some (m + 1) := by
  rw [cnt_cons, if_neg (by omega), h]; rfl
theorem fin_some : ∀ {l : List Tm} {k m p : Nat}, cnt k l = some m → fin k l p = (p + m : Nat)
  | l, 0, m, p, h => by rw [cnt_zero] at h; cases h; rw [fin_zero]; rfl
  | [], k + 1, m, p, h => by cases h
  | t :: r, k + 1, m, p, h => by
    obtain ⟨h0, m', rfl, h'⟩ := cnt_step h
    rw [fin_cons, if_neg (by omega), fin_some h']
    omega
theorem fin_none : ∀ {l : List Tm} {k p : Nat}, cnt k l = none → fin k l p = -1
  | l, 0, p, h => by rw [cnt_zero] at h; cases h
  | [], k + 1, p, h => rfl
  | t :: r, k + 1, p, h => by
    rw [fin_cons]
    split
    · rfl
    · rename_i h0
      refine fin_none ?_
      rw [cnt_cons, if_neg h0] at h
      simpa using h
theorem cnt_le : ∀ {l : List Tm} {k m : Nat}, cnt k l = some m → m ≤ l.length ∧ k ≤ m
  | l, 0, m, h => by rw [cnt_zero] at h; cases h; exact ⟨Nat.zero_le _, Nat.le_refl _⟩
  | [], k + 1, m, h => by cases h
  | t :: r, k + 1, m, h => by
    obtain ⟨h0, m', rfl, h'⟩ := cnt_step h
    have := cnt_le h'
    simp only [List.length_cons]
    omega
theorem cnt_add : ∀ (l : List Tm) (a b : Nat), cnt (a + b) l = (cnt a l).bind fun m => (cnt b (l.drop m)).map (m + ·)
  | l, 0, b => by rw [cnt_zero, Nat.zero_add]; simp
  | [], a + 1, b => by rw [show a + 1 + b = (a + b) + 1 by omega]; rfl
  | t :: r, a + 1, b => by
    rw [show a + 1 + b = (a + b) + 1 by omega, cnt_cons, cnt_cons]
    split
    · rfl
    · rw [show a + b + arN t.op = a + arN t.op + b by omega, cnt_add r (a + arN t.op) b]
      cases cnt (a + arN t.op) r with
      | none => rfl
      | some m =>
        simp only [Option.map_some, Option.bind_some, List.drop_succ_cons, Option.map_map]
        congr 1
        funext x
        simp only [Function.comp]
        omega
theorem cnt_split {l : List Tm} {a b m : Nat} (h : cnt (a + b) l = some m) : ∃ x y, cnt a l = some x ∧ cnt b (l.drop x) = some y ∧ m = x + y := by
  rw [cnt_add] at h
  cases ha : cnt a l with
  | none => rw [ha] at h; cases h
  | some x =>
    rw [ha] at h
    simp only [Option.bind_some] at h
    cases hb : cnt b (l.drop x) with
    | none => rw [hb] at h; cases h
    | some y => rw [hb] at h; cases h; exact ⟨x, y, rfl, hb, rfl⟩
theorem cnt_join {l : List Tm} {a b x y : Nat} (h : cnt a l = some x) (h' : cnt b (l.drop x) = some y) : cnt (a + b) l = some (x + y) := by
  rw [cnt_add, h, Option.bind_some, h']; rfl
theorem cnt_stop {l : List Tm} {a b x : Nat} (h : cnt a l = some x) (h' : cnt b (l.drop x) = none) : cnt (a + b) l = none := by
  rw [cnt_add, h, Option.bind_some, h']; rfl
theorem cnt_none {l : List Tm} {a : Nat} (h : cnt a l = none) (b : Nat) : cnt (a + b) l = none := by rw [cnt_add, h]; rfl
theorem cnt_take : ∀ {l : List Tm} {k m : Nat}, cnt k l = some m → cnt k (l.take m) = some m
  | l, 0, m, h => by rw [cnt_zero] at h; cases h; rw [cnt_zero]
  | [], k + 1, m, h => by cases h
  | t :: r, k + 1, m, h => by
    obtain ⟨h0, m', rfl, h'⟩ := cnt_step h
    rw [List.take_succ_cons]
    exact cnt_mk h0 (cnt_take h')
theorem cnt_valid : ∀ {l : List Tm} {k m : Nat}, cnt k l = some m → ∀ t ∈ l.take m, 0 ≤ ar t.op
  | l, 0, m, h => by rw [cnt_zero] at h; cases h; simp
  | [], k + 1, m, h => by cases h
  | t :: r, k + 1, m, h => by
    obtain ⟨h0, m', rfl, h'⟩ := cnt_step h
    intro u hu
    rw [List.take_succ_cons, List.mem_cons] at hu
    rcases hu with rfl | hu
    · exact h0
    · exact cnt_valid h' u hu

/-- What is told of each of the expressions that stand one behind the other, by what is told of those below. -/
def stack {α : Type} (f : Int → List α → α) : List Tm → List α
  | [] => []
  | t :: r => f t.op ((stack f r).take (arN t.op)) :: (stack f r).drop (arN t.op)
section
variable {α : Type} {f : Int → List α → α}
theorem stack_cons (t : Tm) (r : List Tm) : stack f (t :: r) = f t.op ((stack f r).take (arN t.op)) :: (stack f r).drop (arN t.op) := rfl
theorem stack_drop : ∀ {l : List Tm} {k m : Nat}, cnt k l = some m → stack f (l.drop m) = (stack f l).drop k
  | l, 0, m, h => by rw [cnt_zero] at h; cases h; rfl
  | [], k + 1, m, h => by cases h
  | t :: r, k + 1, m, h => by
    obtain ⟨h0, m', rfl, h'⟩ := cnt_step h
    rw [List.drop_succ_cons, stack_drop h', stack_cons, List.drop_succ_cons, List.drop_drop, Nat.add_comm]
theorem stack_len : ∀ {l : List Tm} {k m : Nat}, cnt k l = some m → k ≤ (stack f l).length
  | l, 0, m, h => Nat.zero_le _
  | [], k + 1, m, h => by cases h
  | t :: r, k + 1, m, h => by
    obtain ⟨h0, m', rfl, h'⟩ := cnt_step h
    have := stack_len h'
    rw [stack_cons, List.length_cons, List.length_drop]
    omega
theorem stack_take : ∀ {l : List Tm} {k m : Nat}, cnt k l = some m → stack f (l.take m) = (stack f l).take k
  | l, 0, m, h => by rw [cnt_zero] at h; cases h; rfl
  | [], k + 1, m, h => by cases h
  | t :: r, k + 1, m, h => by
    obtain ⟨h0, m', rfl, h'⟩ := cnt_step h
    rw [List.take_succ_cons, stack_cons, stack_take h', stack_cons, List.take_succ_cons, List.take_take, List.drop_take, show min (arN t.op) (k + arN t.op) = arN t.op by omega, Nat.add_sub_cancel]
end

/-- What the expression that begins here comes to. -/
def come (f : Int → List Int → Int) (l : List Tm) : Int := (stack f l).headD 0
section
variable {f : Int → List Int → Int}
theorem come_cons (t : Tm) (r : List Tm) : come f (t :: r) = f t.op ((stack f r).take (arN t.op)) := rfl
/-- The k-th of those that stand one behind the other. -/
theorem stack_get {l : List Tm} {k m : Nat} (h : cnt (k + 1) l = some m) : ∃ x, cnt k l = some x ∧ (stack f l)[k]? = some (come f (l.drop x)) := by
  obtain ⟨x, y, hx, hy, _⟩ := cnt_split h
  refine ⟨x, hx, ?_⟩
  have h1 := stack_len (f := f) h
  rw [come, stack_drop hx]
  have h2 : k < (stack f l).length := by omega
  rw [List.getElem?_eq_getElem h2, List.drop_eq_getElem_cons h2]
  rfl
theorem stack_take_next {l : List Tm} {k m x : Nat} (h : cnt (k + 1) l = some m) (hx : cnt k l = some x) : (stack f l).take (k + 1) = (stack f l).take k ++ [come f (l.drop x)] := by
  obtain ⟨x', hx', hg⟩ := stack_get (f := f) h
  rw [hx] at hx'
  cases hx'
  exact take_next hg
theorem come_take {l : List Tm} {m : Nat} (h : cnt 1 l = some m) : come f (l.take m) = come f l := by
  rw [come, come, stack_take h]
  cases stack f l <;> rfl
end

/-- Where those below the term at a place begin. -/
def belows (l : List Tm) (at_ k : Nat) : List Int := (List.range k).map fun i => ((at_ + 1 + (cnt i (l.drop (at_ + 1))).getD 0 : Nat) : Int)
theorem belows_length (l : List Tm) (a k : Nat) : (belows l a k).length = k := by simp [belows]
theorem belows_get {l : List Tm} {a k i : Nat} (h : i < k) : (belows l a k)[i]? = some ((a + 1 + (cnt i (l.drop (a + 1))).getD 0 : Nat) : Int) := by
  simp [belows, h]
theorem belows_zero (l : List Tm) (a : Nat) : belows l a 0 = [] := rfl
theorem belows_next (l : List Tm) (a k : Nat) : belows l a (k + 1) = belows l a k ++ [((a + 1 + (cnt k (l.drop (a + 1))).getD 0 : Nat) : Int)] := by
  unfold belows
  rw [List.range_succ, List.map_append]
  rfl

/-- The place behind the expression at a place. -/
def endA (l : List Tm) (a : Int) : Int := if a < 0 then -1 else fin 1 (l.drop a.toNat) a.toNat
theorem endA_neg {l : List Tm} {a : Int} (h : a < 0) : endA l a = -1 := if_pos h
theorem endA_nat (l : List Tm) (a : Nat) : endA l a = fin 1 (l.drop a) a := by unfold endA; rw [if_neg (by omega)]; rfl
theorem endA_out {l : List Tm} {a : Int} (h : (l.length : Int) ≤ a) : endA l a = -1 := by
  unfold endA
  rw [if_neg (by omega), List.drop_eq_nil_of_le (by omega)]
  rfl
theorem drop_get {l : List Tm} {a : Nat} {t : Tm} (h : l[a]? = some t) : l.drop a = t :: l.drop (a + 1) := by
  obtain ⟨ha, rfl⟩ := List.getElem?_eq_some_iff.1 h
  exact List.drop_eq_getElem_cons ha
theorem endA_bad {l : List Tm} {a : Nat} {t : Tm} (h : l[a]? = some t) (h0 : ar t.op < 0) : endA l a = -1 := by
  rw [endA_nat, drop_get h, fin_cons, if_pos h0]
theorem endA_at {l : List Tm} {a : Nat} {t : Tm} (h : l[a]? = some t) (h0 : 0 ≤ ar t.op) : endA l a = fin (arN t.op) (l.drop (a + 1)) (a + 1) := by
  rw [endA_nat, drop_get h, fin_cons, if_neg (by omega), Nat.zero_add]
theorem endA_some {l : List Tm} {a m : Nat} (h : cnt 1 (l.drop a) = some m) : endA l a = (a + m : Nat) := by rw [endA_nat, fin_some h]
theorem endA_none {l : List Tm} {a : Nat} (h : cnt 1 (l.drop a) = none) : endA l a = -1 := by rw [endA_nat, fin_none h]
theorem endA_bd (l : List Tm) (a : Int) : -1 ≤ endA l a ∧ endA l a ≤ l.length := by
  by_cases h : a < 0
  · rw [endA_neg h]; omega
  · obtain ⟨k, rfl⟩ := Int.eq_ofNat_of_zero_le (Int.not_lt.1 h)
    cases hc : cnt 1 (l.drop k) with
    | none => rw [show ((k : Nat) : Int) = (k : Int) from rfl, endA_none hc]; omega
    | some m =>
      rw [endA_some hc]
      have := cnt_le hc
      rw [List.length_drop] at this
      omega
theorem endA_nn {l : List Tm} {a : Int} (h : 0 ≤ endA l a) : ∃ k m : Nat, a = k ∧ cnt 1 (l.drop k) = some m ∧ endA l a = (k + m : Nat) ∧ 0 < m ∧ k + m ≤ l.length := by
  by_cases h0 : a < 0
  · rw [endA_neg h0] at h; omega
  · obtain ⟨k, rfl⟩ := Int.eq_ofNat_of_zero_le (Int.not_lt.1 h0)
    cases hc : cnt 1 (l.drop k) with
    | none => rw [show ((k : Nat) : Int) = (k : Int) from rfl, endA_none hc] at h; omega
    | some m =>
      have := cnt_le hc
      rw [List.length_drop] at this
      exact ⟨k, m, rfl, hc, endA_some hc, by omega, by omega⟩
theorem first_of {l : List Tm} {a m : Nat} (h : cnt 1 (l.drop a) = some m) : ∃ t m', l[a]? = some t ∧ 0 ≤ ar t.op ∧ m = m' + 1 ∧ cnt (arN t.op) (l.drop (a + 1)) = some m' := by
  cases hd : l.drop a with
  | nil => rw [hd] at h; cases h
  | cons t r =>
    have ha : a < l.length := by
      rcases Nat.lt_or_ge a l.length with h | h
      · exact h
      · rw [List.drop_eq_nil_of_le h] at hd; cases hd
    rw [List.drop_eq_getElem_cons ha] at hd
    injection hd with h1 h2
    subst h1; subst h2
    rw [List.drop_eq_getElem_cons ha] at h
    obtain ⟨h0, m', rfl, h'⟩ := cnt_step h
    exact ⟨_, m', List.getElem?_eq_getElem ha, h0, rfl, by rwa [Nat.zero_add] at h'⟩

/-- The deepest of some; a term's depth. -/
def deepest (bs : List Int) : Int := bs.foldl (fun a b => if a < b then b else a) 0
theorem deepest_snoc (bs : List Int) (d : Int) : deepest (bs ++ [d]) = if deepest bs < d then d else deepest bs := by unfold deepest; rw [List.foldl_append]; rfl
def depF (_ : Int) (bs : List Int) : Int := deepest bs + 1
theorem deepest_bd {B : Int} (hB : 0 ≤ B) (bs : List Int) (h : ∀ b ∈ bs, b ≤ B) : 0 ≤ deepest bs ∧ deepest bs ≤ B := by
  unfold deepest
  have key : ∀ (bs : List Int) (a : Int), 0 ≤ a → a ≤ B → (∀ b ∈ bs, b ≤ B) → 0 ≤ bs.foldl (fun a b => if a < b then b else a) a ∧ bs.foldl (fun a b => if a < b then b else a) a ≤ B := by
    intro bs
    induction bs with
    | nil => intro a h0 h1 _; exact ⟨h0, h1⟩
    | cons b t ih =>
      intro a h0 h1 h2
      have hb := h2 b (by simp)
      rw [List.foldl_cons]
      refine ih _ ?_ ?_ (fun c hc => h2 c (by simp [hc]))
      · split <;> omega
      · split <;> omega
  exact key bs 0 (Int.le_refl 0) hB h
theorem le_deepest {bs : List Int} {b : Int} (h : b ∈ bs) : b ≤ deepest bs := by
  unfold deepest
  have key : ∀ (bs : List Int) (a : Int), a ≤ bs.foldl (fun a b => if a < b then b else a) a ∧ ∀ b ∈ bs, b ≤ bs.foldl (fun a b => if a < b then b else a) a := by
    intro bs
    induction bs with
    | nil => intro a; exact ⟨Int.le_refl _, by simp⟩
    | cons c t ih =>
      intro a
      rw [List.foldl_cons]
      have := ih (if a < c then c else a)
      refine ⟨Int.le_trans (by split <;> omega) this.1, fun b hb => ?_⟩
      rcases List.mem_cons.1 hb with rfl | hb
      · exact Int.le_trans (by split <;> omega) this.1
      · exact this.2 b hb
  exact (key bs 0).2 b h
theorem stack_depth : ∀ (l : List Tm), ∀ d ∈ stack depF l, 1 ≤ d ∧ d ≤ l.length
  | [] => by simp [stack]
  | t :: r => by
    intro d hd
    have ih := stack_depth r
    rw [stack_cons, List.mem_cons] at hd
    rw [List.length_cons]
    rcases hd with rfl | hd
    · have := deepest_bd (B := r.length) (by omega) ((stack depF r).take (arN t.op)) (fun b hb => (ih b (List.mem_of_mem_take hb)).2)
      have e : depF t.op ((stack depF r).take (arN t.op)) = deepest ((stack depF r).take (arN t.op)) + 1 := rfl
      omega
    · have := ih d (List.mem_of_mem_drop hd)
      omega
theorem come_depth {l : List Tm} {m : Nat} (h : cnt 1 l = some m) : 1 ≤ come depF l ∧ come depF l ≤ l.length := by
  have h1 := stack_len (f := depF) h
  cases hs : stack depF l with
  | nil => rw [hs] at h1; simp at h1
  | cons d t =>
    have := stack_depth l d (by rw [hs]; simp)
    rw [come, hs]
    exact this

/-- The type of a term, and the one of which those below it must be. -/
def ownT (o : Int) : Int := if o = 1 ∨ o = 2 ∨ o = 3 ∨ o = 4 ∨ o = 5 ∨ o = 6 ∨ o = 7 ∨ o = 8 then 1 else 2
def askT (o : Int) : Int := if o = 1 ∨ o = 2 ∨ o = 3 ∨ o = 4 ∨ o = 5 ∨ o = 6 ∨ o = 7 ∨ o = 8 ∨ o = 13 ∨ o = 14 ∨ o = 15 ∨ o = 16 ∨ o = 17 ∨ o = 18 then 1 else 2
def typF (o : Int) (bs : List Int) : Int := if bs.all (fun b => decide (b = askT o)) then ownT o else 0

/-- Just one expression, of no more terms than may be. -/
def wholeB (l : List Tm) : Bool := decide (l.length ≤ 40) && decide (cnt 1 l = some l.length)
theorem wholeB_iff {l : List Tm} : wholeB l = true ↔ l.length ≤ 40 ∧ cnt 1 l = some l.length := by simp [wholeB]
def tell (f : Int → List Int → Int) (l : List Tm) : Int := if wholeB l then come f l else 0
def depth (l : List Tm) : Int := tell depF l
def typ (l : List Tm) : Int := tell typF l
theorem depth_zero {l : List Tm} : (depth l = 0) ↔ wholeB l = false := by
  unfold depth tell
  cases h : wholeB l with
  | false => simp
  | true =>
    have := come_depth (wholeB_iff.1 h).2
    simp
    omega

/-- A term of an expression may be. -/
def mayB (t : Tm) : Bool :=
  (if t.op = 1 then decide (0 ≤ t.n) && decide (t.n ≤ 1000000) else decide (t.n = 0)) && (if t.op = 2 ∨ t.op = 11 then isName t.s.data.toList else decide (t.s.size = 0))
/-- Why terms are no expression. -/
def chk (l : List Tm) : Int :=
  if 40 < l.length then 8 else if wholeB l = false then 1 else if l.all mayB = false then 1 else if 12 < depth l then 6 else 0
theorem chk_ok {l : List Tm} (h : chk l = 0) : wholeB l = true ∧ l.all mayB = true ∧ depth l ≤ 12 := by
  unfold chk at h
  split at h
  · omega
  split at h
  · omega
  rename_i h1
  split at h
  · omega
  rename_i h2
  split at h
  · omega
  rename_i h3
  exact ⟨by simpa using h1, by simpa using h2, by omega⟩
theorem chk_mk {l : List Tm} (h1 : wholeB l = true) (h2 : l.all mayB = true) (h3 : depth l ≤ 12) : chk l = 0 := by
  have := (wholeB_iff.1 h1).1
  unfold chk
  rw [if_neg (by omega), if_neg (by simp [h1]), if_neg (by simp [h2]), if_neg (by omega)]

/-- The names of all terms that do that. -/
def namesOf (l : List Tm) (o : Int) : List ByteArray := (l.filter fun t => decide (t.op = o)).map (·.s)
theorem namesOf_yes {l : List Tm} {o : Int} {k : Nat} {t : Tm} (h : l[k]? = some t) (he : t.op = o) : namesOf (l.take (k + 1)) o = namesOf (l.take k) o ++ [t.s] := by
  unfold namesOf; rw [take_next h, List.filter_append, List.map_append]; simp [he]
theorem namesOf_no {l : List Tm} {o : Int} {k : Nat} {t : Tm} (h : l[k]? = some t) (he : t.op ≠ o) : namesOf (l.take (k + 1)) o = namesOf (l.take k) o := by
  unfold namesOf; rw [take_next h, List.filter_append, List.map_append]; simp [he]
theorem namesOf_length (l : List Tm) (o : Int) : (namesOf l o).length ≤ l.length := by
  unfold namesOf; rw [List.length_map]; exact List.length_filter_le _ _

/-- A part of a whole expression: it is one by itself, less deep, and what may be. -/
theorem part_of {l : List Tm} {t : Tm} {i x y : Nat} (hl : chk l = 0) (ht : l[0]? = some t) (hi : i < arN t.op) (hx : cnt i (l.drop 1) = some x) (hy : cnt 1 (l.drop (1 + x)) = some y) :
    chk ((l.drop (1 + x)).take y) = 0 ∧ depth ((l.drop (1 + x)).take y) < depth l := by
  obtain ⟨hw, hm, hd⟩ := chk_ok hl
  obtain ⟨h40, hc⟩ := wholeB_iff.1 hw
  have hle := cnt_le hy
  rw [List.length_drop] at hle
  have hlen : ((l.drop (1 + x)).take y).length = y := by rw [List.length_take, List.length_drop]; omega
  have hw' : wholeB ((l.drop (1 + x)).take y) = true := wholeB_iff.2 ⟨by omega, by rw [hlen]; exact cnt_take hy⟩
  have hdep : depth ((l.drop (1 + x)).take y) < depth l := by
    unfold depth tell
    rw [hw', hw, if_pos rfl, if_pos rfl, come_take hy]
    have hcons : l = t :: l.drop 1 := by have := drop_get ht; simpa using this
    have hc' := hc
    rw [hcons] at hc'
    obtain ⟨h0, m', _, hm'⟩ := cnt_step hc'
    rw [Nat.zero_add] at hm'
    have e : arN t.op = (i + 1) + (arN t.op - (i + 1)) := by omega
    rw [e] at hm'
    obtain ⟨z, _, hz, _, _⟩ := cnt_split hm'
    obtain ⟨x', hx', hg⟩ := stack_get (f := depF) hz
    rw [hx] at hx'
    cases hx'
    rw [List.drop_drop] at hg
    have hmem : come depF (l.drop (1 + x)) ∈ (stack depF (l.drop 1)).take (arN t.op) := by
      rw [List.mem_iff_getElem?]
      exact ⟨i, by rw [List.getElem?_take_of_lt hi, hg]⟩
    have := le_deepest hmem
    have e2 : come depF l = deepest ((stack depF (l.drop 1)).take (arN t.op)) + 1 := by rw [hcons, come_cons]; rfl
    omega
  refine ⟨chk_mk hw' ?_ (by omega), hdep⟩
  rw [List.all_eq_true] at hm ⊢
  intro u hu
  exact hm u (List.mem_of_mem_drop (List.mem_of_mem_take hu))
end TermSpec
end Go.Proofs.Ytbkgkdfameojfaa
