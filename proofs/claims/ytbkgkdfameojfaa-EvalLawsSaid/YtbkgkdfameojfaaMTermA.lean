/- TermSpec, TermMem, TermArity, TermMay, TermEnd, TermRefEnd, TermBelow, TermLits, TermCome, TermRefDeep, TermCheck, joined. -/
import Derived.Test.YtbkgkdfameojfaaMNames
import Derived.Test.YtbkgkdfameojfaaRows
import Derived.Test.YtbkgkdfameojfaaMKits
import Derived.Laws.StructEq
namespace Go.Proofs.Ytbkgkdfameojfaa
namespace TermSpec
open NamesSpec

structure Tm where
  op : Int
  n : Int
  s : ByteArray

/-- How many expressions are below a term that does that. -/
def ar (o : Int) : Int :=
  if o = 1 ∨ o = 2 ∨ o = 9 ∨ o = 10 ∨ o = 11 then 0 else if o = 3 ∨ o = 12 then 1 else if o = 4 ∨ o = 5 ∨ o = 6 ∨ o = 7 ∨ o = 8 ∨ o = 13 ∨ o = 14 ∨ o = 15 ∨ o = 16 ∨ o = 17 ∨ o = 18 ∨ o = 19 ∨ o = 20 then 2 else -1
def arN (o : Int) : Nat := (ar o).toNat
theorem ar_bd (o : Int) : -1 ≤ ar o ∧ ar o ≤ 2 := by unfold ar; (repeat' split) <;> omega
theorem arN_of {o : Int} (h : 0 ≤ ar o) : (arN o : Int) = ar o := by unfold arN; omega
theorem ar_out {o : Int} (h : o < 1 ∨ 20 < o) : ar o = -1 := by unfold ar; rw [if_neg (by omega), if_neg (by omega), if_neg (by omega)]
theorem ar_in {o : Int} : 0 ≤ ar o ↔ 1 ≤ o ∧ o ≤ 20 := by unfold ar; (repeat' split) <;> omega

/-- The place behind k expressions that begin here; the place here is p. -/
def fin : Nat → List Tm → Nat → Int
  | 0, _, p => p
  | _ + 1, [], _ => -1
  | k + 1, t :: r, p => if ar t.op < 0 then -1 else fin (k + arN t.op) r (p + 1)
/-- How many terms k expressions take. -/
def cnt : Nat → List Tm → Option Nat
  | 0, _ => some 0
  | _ + 1, [] => none
  | k + 1, t :: r => if ar t.op < 0 then none else (cnt (k + arN t.op) r).map (· + 1)

theorem cnt_zero (l : List Tm) : cnt 0 l = some 0 := by cases l <;> rfl
theorem fin_zero (l : List Tm) (p : Nat) : fin 0 l p = p := by cases l <;> rfl
theorem cnt_cons (k : Nat) (t : Tm) (r : List Tm) : cnt (k + 1) (t :: r) = if ar t.op < 0 then none else (cnt (k + arN t.op) r).map (· + 1) := rfl
theorem fin_cons (k : Nat) (t : Tm) (r : List Tm) (p : Nat) : fin (k + 1) (t :: r) p = if ar t.op < 0 then -1 else fin (k + arN t.op) r (p + 1) := rfl
theorem cnt_step {k m : Nat} {t : Tm} {r : List Tm} (h : cnt (k + 1) (t :: r) = some m) : 0 ≤ ar t.op ∧ ∃ m', m = m' + 1 ∧ cnt (k + arN t.op) r = some m' := by
  rw [cnt_cons] at h
  split at h
  · cases h
  · cases hc : cnt (k + arN t.op) r with
    | none => rw [hc] at h; cases h
    | some m' => rw [hc] at h; cases h; exact ⟨by omega, m', rfl, rfl⟩
theorem cnt_mk {k m : Nat} {t : Tm} {r : List Tm} (h0 : 0 ≤ ar t.op) (h : cnt (k + arN t.op) r = some m) : cnt (k + 1) (t :: r) = some (m + 1) := by
  rw [cnt_cons, if_neg (by omega), h]; rfl
theorem fin_some : ∀ {l : List Tm} {k m p : Nat}, cnt k l = some m → fin k l p = (p + m : Nat)
  | l, 0, m, p, h => by rw [cnt_zero] at h; cases h; rw [fin_zero]; rfl
  | [], k + 1, m, p, h => by cases h
  | t :: r, k + 1, m, p, h => by
    obtain ⟨h0, m', rfl, h'⟩ := cnt_step h
    rw [fin_cons, if_neg (by omega), fin_some h']
    omega
theorem fin_none : ∀ {l : List Tm} {k p : Nat}, cnt k l = none → fin k l p = -1
  | l, 0, p, h => by rw [cnt_zero] at h; cases h
  | [], k + 1, p, h => rfl
  | t :: r, k + 1, p, h => by
    rw [fin_cons]
    split
    · rfl
    · rename_i h0
      refine fin_none ?_
      rw [cnt_cons, if_neg h0] at h
      simpa using h
theorem cnt_le : ∀ {l : List Tm} {k m : Nat}, cnt k l = some m → m ≤ l.length ∧ k ≤ m
  | l, 0, m, h => by rw [cnt_zero] at h; cases h; exact ⟨Nat.zero_le _, Nat.le_refl _⟩
  | [], k + 1, m, h => by cases h
  | t :: r, k + 1, m, h => by
    obtain ⟨h0, m', rfl, h'⟩ := cnt_step h
    have := cnt_le h'
    simp only [List.length_cons]
    omega
theorem cnt_add : ∀ (l : List Tm) (a b : Nat), cnt (a + b) l = (cnt a l).bind fun m => (cnt b (l.drop m)).map (m + ·)
  | l, 0, b => by rw [cnt_zero, Nat.zero_add]; simp
  | [], a + 1, b => by rw [show a + 1 + b = (a + b) + 1 by omega]; rfl
  | t :: r, a + 1, b => by
    rw [show a + 1 + b = (a + b) + 1 by omega, cnt_cons, cnt_cons]
    split
    · rfl
    · rw [show a + b + arN t.op = a + arN t.op + b by omega, cnt_add r (a + arN t.op) b]
      cases cnt (a + arN t.op) r with
      | none => rfl
      | some m =>
        simp only [Option.map_some, Option.bind_some, List.drop_succ_cons, Option.map_map]
        congr 1
        funext x
        simp only [Function.comp]
        omega
theorem cnt_split {l : List Tm} {a b m : Nat} (h : cnt (a + b) l = some m) : ∃ x y, cnt a l = some x ∧ cnt b (l.drop x) = some y ∧ m = x + y := by
  rw [cnt_add] at h
  cases ha : cnt a l with
  | none => rw [ha] at h; cases h
  | some x =>
    rw [ha] at h
    simp only [Option.bind_some] at h
    cases hb : cnt b (l.drop x) with
    | none => rw [hb] at h; cases h
    | some y => rw [hb] at h; cases h; exact ⟨x, y, rfl, hb, rfl⟩
theorem cnt_join {l : List Tm} {a b x y : Nat} (h : cnt a l = some x) (h' : cnt b (l.drop x) = some y) : cnt (a + b) l = some (x + y) := by
  rw [cnt_add, h, Option.bind_some, h']; rfl
theorem cnt_stop {l : List Tm} {a b x : Nat} (h : cnt a l = some x) (h' : cnt b (l.drop x) = none) : cnt (a + b) l = none := by
  rw [cnt_add, h, Option.bind_some, h']; rfl
theorem cnt_none {l : List Tm} {a : Nat} (h : cnt a l = none) (b : Nat) : cnt (a + b) l = none := by rw [cnt_add, h]; rfl
theorem cnt_take : ∀ {l : List Tm} {k m : Nat}, cnt k l = some m → cnt k (l.take m) = some m
  | l, 0, m, h => by rw [cnt_zero] at h; cases h; rw [cnt_zero]
  | [], k + 1, m, h => by cases h
  | t :: r, k + 1, m, h => by
    obtain ⟨h0, m', rfl, h'⟩ := cnt_step h
    rw [List.take_succ_cons]
    exact cnt_mk h0 (cnt_take h')
theorem cnt_valid : ∀ {l : List Tm} {k m : Nat}, cnt k l = some m → ∀ t ∈ l.take m, 0 ≤ ar t.op
  | l, 0, m, h => by rw [cnt_zero] at h; cases h; simp
  | [], k + 1, m, h => by cases h
  | t :: r, k + 1, m, h => by
    obtain ⟨h0, m', rfl, h'⟩ := cnt_step h
    intro u hu
    rw [List.take_succ_cons, List.mem_cons] at hu
    rcases hu with rfl | hu
    · exact h0
    · exact cnt_valid h' u hu

/-- What is told of each of the expressions that stand one behind the other, by what is told of those below. -/
def stack {α : Type} (f : Int → List α → α) : List Tm → List α
  | [] => []
  | t :: r => f t.op ((stack f r).take (arN t.op)) :: (stack f r).drop (arN t.op)
section
variable {α : Type} {f : Int → List α → α}
theorem stack_cons (t : Tm) (r : List Tm) : stack f (t :: r) = f t.op ((stack f r).take (arN t.op)) :: (stack f r).drop (arN t.op) := rfl
theorem stack_drop : ∀ {l : List Tm} {k m : Nat}, cnt k l = some m → stack f (l.drop m) = (stack f l).drop k
  | l, 0, m, h => by rw [cnt_zero] at h; cases h; rfl
  | [], k + 1, m, h => by cases h
  | t :: r, k + 1, m, h => by
    obtain ⟨h0, m', rfl, h'⟩ := cnt_step h
    rw [List.drop_succ_cons, stack_drop h', stack_cons, List.drop_succ_cons, List.drop_drop, Nat.add_comm]
theorem stack_len : ∀ {l : List Tm} {k m : Nat}, cnt k l = some m → k ≤ (stack f l).length
  | l, 0, m, h => Nat.zero_le _
  | [], k + 1, m, h => by cases h
  | t :: r, k + 1, m, h => by
    obtain ⟨h0, m', rfl, h'⟩ := cnt_step h
    have := stack_len h'
    rw [stack_cons, List.length_cons, List.length_drop]
    omega
theorem stack_take : ∀ {l : List Tm} {k m : Nat}, cnt k l = some m → stack f (l.take m) = (stack f l).take k
  | l, 0, m, h => by rw [cnt_zero] at h; cases h; rfl
  | [], k + 1, m, h => by cases h
  | t :: r, k + 1, m, h => by
    obtain ⟨h0, m', rfl, h'⟩ := cnt_step h
    rw [List.take_succ_cons, stack_cons, stack_take h', stack_cons, List.take_succ_cons, List.take_take, List.drop_take, show min (arN t.op) (k + arN t.op) = arN t.op by omega, Nat.add_sub_cancel]
end

/-- What the expression that begins here comes to. -/
def come (f : Int → List Int → Int) (l : List Tm) : Int := (stack f l).headD 0
section
variable {f : Int → List Int → Int}
theorem come_cons (t : Tm) (r : List Tm) : come f (t :: r) = f t.op ((stack f r).take (arN t.op)) := rfl
/-- The k-th of those that stand one behind the other. -/
theorem stack_get {l : List Tm} {k m : Nat} (h : cnt (k + 1) l = some m) : ∃ x, cnt k l = some x ∧ (stack f l)[k]? = some (come f (l.drop x)) := by
  obtain ⟨x, y, hx, hy, _⟩ := cnt_split h
  refine ⟨x, hx, ?_⟩
  have h1 := stack_len (f := f) h
  rw [come, stack_drop hx]
  have h2 : k < (stack f l).length := by omega
  rw [List.getElem?_eq_getElem h2, List.drop_eq_getElem_cons h2]
  rfl
theorem stack_take_next {l : List Tm} {k m x : Nat} (h : cnt (k + 1) l = some m) (hx : cnt k l = some x) : (stack f l).take (k + 1) = (stack f l).take k ++ [come f (l.drop x)] := by
  obtain ⟨x', hx', hg⟩ := stack_get (f := f) h
  rw [hx] at hx'
  cases hx'
  exact take_next hg
theorem come_take {l : List Tm} {m : Nat} (h : cnt 1 l = some m) : come f (l.take m) = come f l := by
  rw [come, come, stack_take h]
  cases stack f l <;> rfl
end

/-- Where those below the term at a place begin. -/
def belows (l : List Tm) (at_ k : Nat) : List Int := (List.range k).map fun i => ((at_ + 1 + (cnt i (l.drop (at_ + 1))).getD 0 : Nat) : Int)
theorem belows_length (l : List Tm) (a k : Nat) : (belows l a k).length = k := by simp [belows]
theorem belows_get {l : List Tm} {a k i : Nat} (h : i < k) : (belows l a k)[i]? = some ((a + 1 + (cnt i (l.drop (a + 1))).getD 0 : Nat) : Int) := by
  simp [belows, h]
theorem belows_zero (l : List Tm) (a : Nat) : belows l a 0 = [] := rfl
theorem belows_next (l : List Tm) (a k : Nat) : belows l a (k + 1) = belows l a k ++ [((a + 1 + (cnt k (l.drop (a + 1))).getD 0 : Nat) : Int)] := by
  unfold belows
  rw [List.range_succ, List.map_append]
  rfl

/-- The place behind the expression at a place. -/
def endA (l : List Tm) (a : Int) : Int := if a < 0 then -1 else fin 1 (l.drop a.toNat) a.toNat
theorem endA_neg {l : List Tm} {a : Int} (h : a < 0) : endA l a = -1 := if_pos h
theorem endA_nat (l : List Tm) (a : Nat) : endA l a = fin 1 (l.drop a) a := by unfold endA; rw [if_neg (by omega)]; rfl
theorem endA_out {l : List Tm} {a : Int} (h : (l.length : Int) ≤ a) : endA l a = -1 := by
  unfold endA
  rw [if_neg (by omega), List.drop_eq_nil_of_le (by omega)]
  rfl
theorem drop_get {l : List Tm} {a : Nat} {t : Tm} (h : l[a]? = some t) : l.drop a = t :: l.drop (a + 1) := by
  obtain ⟨ha, rfl⟩ := List.getElem?_eq_some_iff.1 h
  exact List.drop_eq_getElem_cons ha
theorem endA_bad {l : List Tm} {a : Nat} {t : Tm} (h : l[a]? = some t) (h0 : ar t.op < 0) : endA l a = -1 := by
  rw [endA_nat, drop_get h, fin_cons, if_pos h0]
theorem endA_at {l : List Tm} {a : Nat} {t : Tm} (h : l[a]? = some t) (h0 : 0 ≤ ar t.op) : endA l a = fin (arN t.op) (l.drop (a + 1)) (a + 1) := by
  rw [endA_nat, drop_get h, fin_cons, if_neg (by omega), Nat.zero_add]
theorem endA_some {l : List Tm} {a m : Nat} (h : cnt 1 (l.drop a) = some m) : endA l a = (a + m : Nat) := by rw [endA_nat, fin_some h]
theorem endA_none {l : List Tm} {a : Nat} (h : cnt 1 (l.drop a) = none) : endA l a = -1 := by rw [endA_nat, fin_none h]
theorem endA_bd (l : List Tm) (a : Int) : -1 ≤ endA l a ∧ endA l a ≤ l.length := by
  by_cases h : a < 0
  · rw [endA_neg h]; omega
  · obtain ⟨k, rfl⟩ := Int.eq_ofNat_of_zero_le (Int.not_lt.1 h)
    cases hc : cnt 1 (l.drop k) with
    | none => rw [show ((k : Nat) : Int) = (k : Int) from rfl, endA_none hc]; omega
    | some m =>
      rw [endA_some hc]
      have := cnt_le hc
      rw [List.length_drop] at this
      omega
theorem endA_nn {l : List Tm} {a : Int} (h : 0 ≤ endA l a) : ∃ k m : Nat, a = k ∧ cnt 1 (l.drop k) = some m ∧ endA l a = (k + m : Nat) ∧ 0 < m ∧ k + m ≤ l.length := by
  by_cases h0 : a < 0
  · rw [endA_neg h0] at h; omega
  · obtain ⟨k, rfl⟩ := Int.eq_ofNat_of_zero_le (Int.not_lt.1 h0)
    cases hc : cnt 1 (l.drop k) with
    | none => rw [show ((k : Nat) : Int) = (k : Int) from rfl, endA_none hc] at h; omega
    | some m =>
      have := cnt_le hc
      rw [List.length_drop] at this
      exact ⟨k, m, rfl, hc, endA_some hc, by omega, by omega⟩
theorem first_of {l : List Tm} {a m : Nat} (h : cnt 1 (l.drop a) = some m) : ∃ t m', l[a]? = some t ∧ 0 ≤ ar t.op ∧ m = m' + 1 ∧ cnt (arN t.op) (l.drop (a + 1)) = some m' := by
  cases hd : l.drop a with
  | nil => rw [hd] at h; cases h
  | cons t r =>
    have ha : a < l.length := by
      rcases Nat.lt_or_ge a l.length with h | h
      · exact h
      · rw [List.drop_eq_nil_of_le h] at hd; cases hd
    rw [List.drop_eq_getElem_cons ha] at hd
    injection hd with h1 h2
    subst h1; subst h2
    rw [List.drop_eq_getElem_cons ha] at h
    obtain ⟨h0, m', rfl, h'⟩ := cnt_step h
    exact ⟨_, m', List.getElem?_eq_getElem ha, h0, rfl, by rwa [Nat.zero_add] at h'⟩

/-- The deepest of some; a term's depth. -/
def deepest (bs : List Int) : Int := bs.foldl (fun a b => if a < b then b else a) 0
theorem deepest_snoc (bs : List Int) (d : Int) : deepest (bs ++ [d]) = if deepest bs < d then d else deepest bs := by unfold deepest; rw [List.foldl_append]; rfl
def depF (_ : Int) (bs : List Int) : Int := deepest bs + 1
theorem deepest_bd {B : Int} (hB : 0 ≤ B) (bs : List Int) (h : ∀ b ∈ bs, b ≤ B) : 0 ≤ deepest bs ∧ deepest bs ≤ B := by
  unfold deepest
  have key : ∀ (bs : List Int) (a : Int), 0 ≤ a → a ≤ B → (∀ b ∈ bs, b ≤ B) → 0 ≤ bs.foldl (fun a b => if a < b then b else a) a ∧ bs.foldl (fun a b => if a < b then b else a) a ≤ B := by
    intro bs
    induction bs with
    | nil => intro a h0 h1 _; exact ⟨h0, h1⟩
    | cons b t ih =>
      intro a h0 h1 h2
      have hb := h2 b (by simp)
      rw [List.foldl_cons]
      refine ih _ ?_ ?_ (fun c hc => h2 c (by simp [hc]))
      · split <;> omega
      · split <;> omega
  exact key bs 0 (Int.le_refl 0) hB h
theorem le_deepest {bs : List Int} {b : Int} (h : b ∈ bs) : b ≤ deepest bs := by
  unfold deepest
  have key : ∀ (bs : List Int) (a : Int), a ≤ bs.foldl (fun a b => if a < b then b else a) a ∧ ∀ b ∈ bs, b ≤ bs.foldl (fun a b => if a < b then b else a) a := by
    intro bs
    induction bs with
    | nil => intro a; exact ⟨Int.le_refl _, by simp⟩
    | cons c t ih =>
      intro a
      rw [List.foldl_cons]
      have := ih (if a < c then c else a)
      refine ⟨Int.le_trans (by split <;> omega) this.1, fun b hb => ?_⟩
      rcases List.mem_cons.1 hb with rfl | hb
      · exact Int.le_trans (by split <;> omega) this.1
      · exact this.2 b hb
  exact (key bs 0).2 b h
theorem stack_depth : ∀ (l : List Tm), ∀ d ∈ stack depF l, 1 ≤ d ∧ d ≤ l.length
  | [] => by simp [stack]
  | t :: r => by
    intro d hd
    have ih := stack_depth r
    rw [stack_cons, List.mem_cons] at hd
    rw [List.length_cons]
    rcases hd with rfl | hd
    · have := deepest_bd (B := r.length) (by omega) ((stack depF r).take (arN t.op)) (fun b hb => (ih b (List.mem_of_mem_take hb)).2)
      have e : depF t.op ((stack depF r).take (arN t.op)) = deepest ((stack depF r).take (arN t.op)) + 1 := rfl
      omega
    · have := ih d (List.mem_of_mem_drop hd)
      omega
theorem come_depth {l : List Tm} {m : Nat} (h : cnt 1 l = some m) : 1 ≤ come depF l ∧ come depF l ≤ l.length := by
  have h1 := stack_len (f := depF) h
  cases hs : stack depF l with
  | nil => rw [hs] at h1; simp at h1
  | cons d t =>
    have := stack_depth l d (by rw [hs]; simp)
    rw [come, hs]
    exact this

/-- The type of a term, and the one of which those below it must be. -/
def ownT (o : Int) : Int := if o = 1 ∨ o = 2 ∨ o = 3 ∨ o = 4 ∨ o = 5 ∨ o = 6 ∨ o = 7 ∨ o = 8 then 1 else 2
def askT (o : Int) : Int := if o = 1 ∨ o = 2 ∨ o = 3 ∨ o = 4 ∨ o = 5 ∨ o = 6 ∨ o = 7 ∨ o = 8 ∨ o = 13 ∨ o = 14 ∨ o = 15 ∨ o = 16 ∨ o = 17 ∨ o = 18 then 1 else 2
def typF (o : Int) (bs : List Int) : Int := if bs.all (fun b => decide (b = askT o)) then ownT o else 0

/-- Just one expression, of no more terms than may be. -/
def wholeB (l : List Tm) : Bool := decide (l.length ≤ 40) && decide (cnt 1 l = some l.length)
theorem wholeB_iff {l : List Tm} : wholeB l = true ↔ l.length ≤ 40 ∧ cnt 1 l = some l.length := by simp [wholeB]
def tell (f : Int → List Int → Int) (l : List Tm) : Int := if wholeB l then come f l else 0
def depth (l : List Tm) : Int := tell depF l
def typ (l : List Tm) : Int := tell typF l
theorem depth_zero {l : List Tm} : (depth l = 0) ↔ wholeB l = false := by
  unfold depth tell
  cases h : wholeB l with
  | false => simp
  | true =>
    have := come_depth (wholeB_iff.1 h).2
    simp
    omega

/-- A term of an expression may be. -/
def mayB (t : Tm) : Bool :=
  (if t.op = 1 then decide (0 ≤ t.n) && decide (t.n ≤ 1000000) else decide (t.n = 0)) && (if t.op = 2 ∨ t.op = 11 then isName t.s.data.toList else decide (t.s.size = 0))
/-- Why terms are no expression. -/
def chk (l : List Tm) : Int :=
  if 40 < l.length then 8 else if wholeB l = false then 1 else if l.all mayB = false then 1 else if 12 < depth l then 6 else 0
theorem chk_ok {l : List Tm} (h : chk l = 0) : wholeB l = true ∧ l.all mayB = true ∧ depth l ≤ 12 := by
  unfold chk at h
  split at h
  · omega
  split at h
  · omega
  rename_i h1
  split at h
  · omega
  rename_i h2
  split at h
  · omega
  rename_i h3
  exact ⟨by simpa using h1, by simpa using h2, by omega⟩
theorem chk_mk {l : List Tm} (h1 : wholeB l = true) (h2 : l.all mayB = true) (h3 : depth l ≤ 12) : chk l = 0 := by
  have := (wholeB_iff.1 h1).1
  unfold chk
  rw [if_neg (by omega), if_neg (by simp [h1]), if_neg (by simp [h2]), if_neg (by omega)]

/-- The names of all terms that do that. -/
def namesOf (l : List Tm) (o : Int) : List ByteArray := (l.filter fun t => decide (t.op = o)).map (·.s)
theorem namesOf_yes {l : List Tm} {o : Int} {k : Nat} {t : Tm} (h : l[k]? = some t) (he : t.op = o) : namesOf (l.take (k + 1)) o = namesOf (l.take k) o ++ [t.s] := by
  unfold namesOf; rw [take_next h, List.filter_append, List.map_append]; simp [he]
theorem namesOf_no {l : List Tm} {o : Int} {k : Nat} {t : Tm} (h : l[k]? = some t) (he : t.op ≠ o) : namesOf (l.take (k + 1)) o = namesOf (l.take k) o := by
  unfold namesOf; rw [take_next h, List.filter_append, List.map_append]; simp [he]
theorem namesOf_length (l : List Tm) (o : Int) : (namesOf l o).length ≤ l.length := by
  unfold namesOf; rw [List.length_map]; exact List.length_filter_le _ _

/-- A part of a whole expression: it is one by itself, less deep, and what may be. -/
theorem part_of {l : List Tm} {t : Tm} {i x y : Nat} (hl : chk l = 0) (ht : l[0]? = some t) (hi : i < arN t.op) (hx : cnt i (l.drop 1) = some x) (hy : cnt 1 (l.drop (1 + x)) = some y) :
    chk ((l.drop (1 + x)).take y) = 0 ∧ depth ((l.drop (1 + x)).take y) < depth l := by
  obtain ⟨hw, hm, hd⟩ := chk_ok hl
  obtain ⟨h40, hc⟩ := wholeB_iff.1 hw
  have hle := cnt_le hy
  rw [List.length_drop] at hle
  have hlen : ((l.drop (1 + x)).take y).length = y := by rw [List.length_take, List.length_drop]; omega
  have hw' : wholeB ((l.drop (1 + x)).take y) = true := wholeB_iff.2 ⟨by omega, by rw [hlen]; exact cnt_take hy⟩
  have hdep : depth ((l.drop (1 + x)).take y) < depth l := by
    unfold depth tell
    rw [hw', hw, if_pos rfl, if_pos rfl, come_take hy]
    have hcons : l = t :: l.drop 1 := by have := drop_get ht; simpa using this
    have hc' := hc
    rw [hcons] at hc'
    obtain ⟨h0, m', _, hm'⟩ := cnt_step hc'
    rw [Nat.zero_add] at hm'
    have e : arN t.op = (i + 1) + (arN t.op - (i + 1)) := by omega
    rw [e] at hm'
    obtain ⟨z, _, hz, _, _⟩ := cnt_split hm'
    obtain ⟨x', hx', hg⟩ := stack_get (f := depF) hz
    rw [hx] at hx'
    cases hx'
    rw [List.drop_drop] at hg
    have hmem : come depF (l.drop (1 + x)) ∈ (stack depF (l.drop 1)).take (arN t.op) := by
      rw [List.mem_iff_getElem?]
      exact ⟨i, by rw [List.getElem?_take_of_lt hi, hg]⟩
    have := le_deepest hmem
    have e2 : come depF l = deepest ((stack depF (l.drop 1)).take (arN t.op)) + 1 := by rw [hcons, come_cons]; rfl
    omega
  refine ⟨chk_mk hw' ?_ (by omega), hdep⟩
  rw [List.all_eq_true] at hm ⊢
  intro u hu
  exact hm u (List.mem_of_mem_drop (List.mem_of_mem_take hu))
end TermSpec
end Go.Proofs.Ytbkgkdfameojfaa

namespace Go.Proofs.Ytbkgkdfameojfaa
open Go.RowKit TermSpec
set_option maxRecDepth 100000

def tmV (t : Tm) : List Value := [.int .i64 t.op, .int .i64 t.n, .string t.s]
def tmsV (l : List Tm) : List Value := l.flatMap tmV
theorem tmV_length (t : Tm) : (tmV t).length = 3 := rfl
theorem tmsV_length (l : List Tm) : (tmsV l).length = l.length * 3 := flat_length tmV_length l
theorem tmV_one (t : Tm) : ∀ u ∈ tmV t, u.oneCell' = true := by simp [tmV, Value.oneCell']
theorem tmsV_one (l : List Tm) : ∀ u ∈ tmsV l, u.oneCell' = true := by
  intro u hu
  obtain ⟨t, _, h⟩ := List.mem_flatMap.1 hu
  exact tmV_one t u h
theorem tmsV_get {l : List Tm} {i : Nat} {t : Tm} (h : l[i]? = some t) : (tmsV l)[i * 3]? = some (.int .i64 t.op) ∧ (tmsV l)[i * 3 + 1]? = some (.int .i64 t.n) ∧ (tmsV l)[i * 3 + 2]? = some (.string t.s) :=
  ⟨flat_get (j := 0) tmV_length h (by omega), flat_get (j := 1) tmV_length h (by omega), flat_get (j := 2) tmV_length h (by omega)⟩

/-- The value is a slice of these terms. -/
def Tms (w : World) (v : Value) (l : List Tm) : Prop := ∃ n, n = l.length ∧ Rdk 3 w v n (tmsV l)
theorem Tms.keep {w w' : World} {v : Value} {l : List Tm} (h : Tms w v l) (hb : Below w.heap.size w w') : Tms w' v l := by
  obtain ⟨n, hn, h⟩ := h
  exact ⟨n, hn, h.keep hb⟩
theorem Tms.alloc {w : World} {v : Value} {l : List Tm} (h : Tms w v l) (o : Obj) : Tms (w.alloc o) v l := h.keep ((Below.refl _ _).alloc (Nat.le_refl _) _)
theorem Tms.shape {w : World} {v : Value} {l : List Tm} (h : Tms w v l) : ∃ A n c, v = .slice A n c ∧ n = l.length ∧ n ≤ c := by
  obtain ⟨n, hn, A, c, hv, hc, _⟩ := h
  exact ⟨A, n, c, hv, hn, hc⟩
theorem Tms.cap {w : World} {A : Option Addr} {n c : Nat} {l : List Tm} (h : Tms w (.slice A n c) l) : n ≤ c := by
  obtain ⟨A', n', c', heq, _, hc⟩ := h.shape
  cases heq
  exact hc
/-- The cells of the i-th term. -/
theorem Tms.at_ {w : World} {A : Option Addr} {n c : Nat} {l : List Tm} {i : Nat} {t : Tm} (h : Tms w (.slice A n c) l) (hi : l[i]? = some t) :
    ∃ b off, A = some ⟨b, off, none⟩ ∧ b < w.heap.size ∧ w.cell? ⟨b, off + i * 3, none⟩ = some (.int .i64 t.op) ∧ w.cell? ⟨b, off + i * 3 + 1, none⟩ = some (.int .i64 t.n) ∧ w.cell? ⟨b, off + i * 3 + 2, none⟩ = some (.string t.s) := by
  obtain ⟨m, hm, A', c', heq, hc, hl, hA⟩ := h
  cases heq
  have := get_lt hi
  obtain ⟨b, off, rfl, hb, hcell⟩ := hA (by omega)
  obtain ⟨g0, g1, g2⟩ := tmsV_get hi
  exact ⟨b, off, rfl, hb, hcell _ _ g0, by rw [Nat.add_assoc]; exact hcell _ _ g1, by rw [Nat.add_assoc]; exact hcell _ _ g2⟩
theorem tms_drop {l : List Tm} {k : Nat} : tmsV (l.drop k) = (tmsV l).drop (k * 3) := by
  induction l generalizing k with
  | nil => simp [tmsV]
  | cons t r ih =>
    cases k with
    | zero => simp
    | succ k =>
      rw [List.drop_succ_cons, ih, show tmsV (t :: r) = tmV t ++ tmsV r from List.flatMap_cons .., show (k + 1) * 3 = 3 + k * 3 by omega, ← List.drop_drop]
      rfl
theorem tms_take {l : List Tm} {k : Nat} : tmsV (l.take k) = (tmsV l).take (k * 3) := by
  induction l generalizing k with
  | nil => simp [tmsV]
  | cons t r ih =>
    cases k with
    | zero => simp [tmsV]
    | succ k =>
      rw [List.take_succ_cons, show tmsV (t :: r.take k) = tmV t ++ tmsV (r.take k) from List.flatMap_cons .., ih, show tmsV (t :: r) = tmV t ++ tmsV r from List.flatMap_cons .., show (k + 1) * 3 = 3 + k * 3 by omega, List.take_append, tmV_length]
      rw [show (tmV t).take (3 + k * 3) = tmV t from List.take_of_length_le (by rw [tmV_length]; omega), Nat.add_sub_cancel_left]

/-- A literal slice just made; its block's number as the walk spells it. -/
theorem lit_here {w : World} {cs : Array Value} {xs : List Value} {e : TypeId} {n k : Nat} (hk : k = w.heap.size) (hn : n = xs.length) (hx : cs.toList = xs) : Rd (w.alloc (.cells cs e)) (.slice (some ⟨k, 0, none⟩) n n) xs := by
  subst hk; subst hx
  exact Rd.lit (by simpa using hn)
theorem tms_lit {w : World} {cs : Array Value} {l : List Tm} {e : TypeId} {n k : Nat} (hk : k = w.heap.size) (hn : n = l.length) (hx : cs.toList = tmsV l) : Tms (w.alloc (.cells cs e)) (.slice (some ⟨k, 0, none⟩) n n) l := by
  subst hk
  refine ⟨n, hn, _, n, rfl, Nat.le_refl _, by rw [tmsV_length, hn], fun _ => ⟨w.heap.size, 0, rfl, by simp, fun j u hj => ?_⟩⟩
  rw [← hx, Array.getElem?_toList] at hj
  rw [World.cell?_alloc_at _ _ _ _ rfl]
  simpa using hj
/-- A part of a slice of terms. -/
theorem Tms.part {w : World} {b off n c c' i j : Nat} {l : List Tm} (h : Tms w (.slice (some ⟨b, off, none⟩) n c) l) (hij : i ≤ j) (hj : j ≤ n) (hc : j - i ≤ c') : Tms w (.slice (some ⟨b, off + i * 3, none⟩) (j - i) c') ((l.drop i).take (j - i)) := by
  obtain ⟨m, hm, A', c2, heq, hcm, hl, hA⟩ := h
  cases heq
  refine ⟨j - i, by rw [List.length_take, List.length_drop]; omega, _, c', rfl, hc, by rw [tmsV_length, List.length_take, List.length_drop]; rw [show min (j - i) (l.length - i) = j - i by omega], fun h0 => ?_⟩
  obtain ⟨b', off', heq, hb, hcell⟩ := hA (by omega)
  cases heq
  refine ⟨b, off + i * 3, rfl, hb, fun q u hq => ?_⟩
  rw [tms_take, tms_drop] at hq
  have hq1 : q < (j - i) * 3 := by have := (List.getElem?_eq_some_iff.1 hq).1; rw [List.length_take] at this; omega
  rw [List.getElem?_take_of_lt hq1, List.getElem?_drop] at hq
  rw [Nat.add_assoc]
  exact hcell _ _ hq

theorem elem_tms : Try.prog.elem 22 = 39 := by kernel_rfl
theorem slice_mid (b off n c p e : Nat) (hp : p < c) (he : p ≤ e) (hc : e ≤ c) :
    ∀ W, (Instr.slice 22 (.slice (some ⟨b, off, none⟩) n c) (some (.int .i64 (p : Int))) (some (.int .i64 (e : Int))) none).run Try.prog W = .ok (.slice (some ⟨b, off + p * 3, none⟩) (e - p) (c - p)) W := by
  intro W
  rw [run_slice_lh (P := Try.prog) W 22 _ n c (by rw [elem_tms]; exact Try.underlying22) .i64 .i64 (p : Int) (e : Int) (by omega) (by omega) (by omega), elem_tms, Try.sizeOf39]
  simp [sliced, Result.andThen, addr_add]
  try omega
/-- Names no longer than memory holds. -/
def Small (l : List Tm) : Prop := ∀ t ∈ l, t.s.size ≤ 9223372036854775807
def RetI (W : World) (n : Int) (e : Ending) (w' : World) : Prop := e = .returned (.int .i64 n) ∧ Below W.heap.size W w'
def RetB (W : World) (b : Bool) (e : Ending) (w' : World) : Prop := e = .returned (.bool b) ∧ Below W.heap.size W w'
def SameI (W : World) (n : Int) (e : Ending) (w' : World) : Prop := e = .returned (.int .i64 n) ∧ W = w'
def SameB (W : World) (b : Bool) (e : Ending) (w' : World) : Prop := e = .returned (.bool b) ∧ W = w'
end Go.Proofs.Ytbkgkdfameojfaa

namespace Go.Proofs.Ytbkgkdfameojfaa
open Go.RowKit TermSpec
set_option maxRecDepth 100000

set_option maxHeartbeats 1600000 in
theorem arity_any (o : Int) (w : World) : Calls Try.prog 17 #[.int .i64 o] w (SameI w (ar o)) := by
  go_enter Try.func17, Try.ntmps17
  go_wp2_with fail
  all_goals
    go_ret
    exact ⟨ret_int (by simp_all [ar]), rfl⟩

def RetTwo (W : World) (a b : Int) (e : Ending) (w' : World) : Prop := e = .returned (.tuple #[.int .i64 a, .int .i64 b]) ∧ W = w'
set_option maxHeartbeats 1600000 in
theorem types_any (o : Int) (w : World) : Calls Try.prog 39 #[.int .i64 o] w (RetTwo w (ownT o) (askT o)) := by
  go_enter Try.func39, Try.ntmps39
  go_wp2_with fail
  all_goals
    go_ret2
    exact ⟨by simp_all [ownT, askT], rfl⟩

theorem rarity_out (o : Int) (h : o < 1 ∨ 20 < o) (w : World) : Calls Try.prog 42 #[.int .i64 o] w (RetI w (ar o)) := by
  have HE := Lib.hid (ar_out h)
  by_cases h1 : o < 1
  · clear h
    go_enter Try.func42, Try.ntmps42
    go_wp2_with fail
    go_ret
    exact ⟨ret_int HE.out.symm, Below.refl _ _⟩
  · have h2 : 20 < o := by omega
    clear h
    go_enter Try.func42, Try.ntmps42
    go_wp2_with fail
    go_ret
    exact ⟨ret_int HE.out.symm, Below.refl _ _⟩
theorem arl_at (n : Nat) (h1 : 1 ≤ n) (h : n < 21) : ([Value.int .i64 0, Value.int .i64 0, Value.int .i64 0, Value.int .i64 1, Value.int .i64 2, Value.int .i64 2, Value.int .i64 2, Value.int .i64 2, Value.int .i64 2, Value.int .i64 0, Value.int .i64 0, Value.int .i64 0, Value.int .i64 1, Value.int .i64 2, Value.int .i64 2, Value.int .i64 2, Value.int .i64 2, Value.int .i64 2, Value.int .i64 2, Value.int .i64 2, Value.int .i64 2])[n] = .int .i64 (ar n) := by
  have : n = 1 ∨ n = 2 ∨ n = 3 ∨ n = 4 ∨ n = 5 ∨ n = 6 ∨ n = 7 ∨ n = 8 ∨ n = 9 ∨ n = 10 ∨ n = 11 ∨ n = 12 ∨ n = 13 ∨ n = 14 ∨ n = 15 ∨ n = 16 ∨ n = 17 ∨ n = 18 ∨ n = 19 ∨ n = 20 := by omega
  rcases this with rfl | rfl | rfl | rfl | rfl | rfl | rfl | rfl | rfl | rfl | rfl | rfl | rfl | rfl | rfl | rfl | rfl | rfl | rfl | rfl <;> rfl
set_option maxHeartbeats 800000 in
theorem rarity_in (n : Nat) (h1 : 1 ≤ n) (h : n ≤ 20) (w : World) : Calls Try.prog 42 #[.int .i64 n] w (RetI w (ar n)) := by
  have h21 : n < 21 := by omega
  have h21' : (n : Int) < 21 := by omega
  have h20 : ¬ 20 < (n : Int) := by omega
  have HE := Lib.hid (arl_at n h1 h21)
  go_enter Try.func42, Try.ntmps42
  go_wp2_with fail
  go_ret
  exact ⟨congrArg Ending.returned HE.out, (Below.refl _ _).alloc (Nat.le_refl _) _⟩
theorem rarity_any (o : Int) (w : World) : Calls Try.prog 42 #[.int .i64 o] w (RetI w (ar o)) := by
  by_cases h : o < 1 ∨ 20 < o
  · exact rarity_out o h w
  · obtain ⟨n, rfl⟩ := Int.eq_ofNat_of_zero_le (show 0 ≤ o by omega)
    exact rarity_in n (by omega) (by omega) w
end Go.Proofs.Ytbkgkdfameojfaa

namespace Go.Proofs.Ytbkgkdfameojfaa
open Go.RowKit TermSpec NamesSpec
set_option maxRecDepth 100000

theorem cells_3 {w : World} {b : Nat} {T : TypeId} {x0 x1 x2 : Value} (h : w.heap[b]? = some (.cells #[x0, x1, x2] T (0, 0))) : w.cell? ⟨b, 0, none⟩ = some x0 ∧ w.cell? ⟨b, 1, none⟩ = some x1 ∧ w.cell? ⟨b, 2, none⟩ = some x2 :=
  ⟨cell_of_block' h (i := 0) rfl, cell_of_block' h (i := 1) rfl, cell_of_block' h (i := 2) rfl⟩
theorem free_3 {w : World} {b : Nat} {T : TypeId} {cs : Array Value} (h : w.heap[b]? = some (.cells cs T (0, 0))) : w.frozen? ⟨b, 0, none⟩ = false ∧ w.frozen? ⟨b, 1, none⟩ = false ∧ w.frozen? ⟨b, 2, none⟩ = false :=
  ⟨free_of_block' h 0, free_of_block' h 1, free_of_block' h 2⟩

theorem eq_term (a b c d : Int) (s u : ByteArray) (w : World) : (Op.equalIn 10000 39 (.agg #[.int .i64 a, .int .i64 b, .string s]) (.agg #[.int .i64 c, .int .i64 d, .string u])).run Try.prog w = .ok (a == c && (b == d && s.toList == u.toList)) w := by
  have u3 := Try.underlying3
  have u9 := Try.underlying9
  have hS : Try.prog.underlying 39 = some (.struct (Try.prog.fieldsOf 39)) := by kernel_rfl
  rw [show (10000 : Nat) = 9999 + 1 from rfl, run_equalIn_agg w 9999 39 _ _ hS (by kernel_rfl)]
  simp only [Program.fieldsOf, Try.underlying39]
  go_simp
  by_cases h1 : a = c <;> by_cases h2 : b = d <;> by_cases h3 : s.toList = u.toList <;> simp [h1, h2, h3]
theorem build_term (a : Int) (w : World) : (Instr.build 39 #[(0, .int .i64 a)]).run Try.prog w = .ok (.agg #[.int .i64 a, .int .i64 0, .string ⟨#[]⟩]) w := run_build w 39 _ _ (by kernel_rfl)

theorem may_one {o n : Int} {s : ByteArray} (h1 : o = 1) : mayB ⟨o, n, s⟩ = (decide (0 ≤ n) && decide (n ≤ 1000000) && decide (s.size = 0)) := by
  unfold mayB
  rw [if_pos h1, if_neg (by show ¬ (o = 2 ∨ o = 11); omega)]
theorem may_name {o n : Int} {s : ByteArray} (h1 : o = 2 ∨ o = 11) : mayB ⟨o, n, s⟩ = (decide (n = 0) && isName s.data.toList) := by
  unfold mayB
  rw [if_neg (by show ¬ o = 1; omega), if_pos h1]
theorem may_else {o n : Int} {s : ByteArray} (h1 : ¬ o = 1) (h2 : ¬ (o = 2 ∨ o = 11)) : mayB ⟨o, n, s⟩ = (decide (n = 0) && decide (s.size = 0)) := by
  unfold mayB
  rw [if_neg h1, if_neg h2]
theorem int0_dec (n : Int) : (n == 0) = decide (n = 0) := by rw [Bool.eq_iff_iff]; simp
theorem size_dec (s : ByteArray) : ((s.size : Int) == 0) = decide (s.size = 0) := by rw [Bool.eq_iff_iff, decide_eq_true_iff, beq_iff_eq]; omega
theorem nil_iff (s : ByteArray) : (s.toList == []) = decide (s.size = 0) := by
  rw [Bool.eq_iff_iff, decide_eq_true_iff, beq_iff_eq, toList_of]
  exact List.length_eq_zero_iff.symm

set_option maxHeartbeats 1600000 in
theorem may_any1 (o n : Int) (s : ByteArray) (w : World) (h1 : o = 1) : Calls Try.prog 36 #[.agg #[.int .i64 o, .int .i64 n, .string s]] w (RetB w (mayB ⟨o, n, s⟩)) := by
  have HE := Lib.hid (may_one (n := n) (s := s) h1)
  have heq := eq_term
  have hbd := build_term
  subst h1
  by_cases hn : n < 0
  · go_enter Try.func36, Try.ntmps36
    go_wp2_with fail
    go_ret
    exact ⟨ret_bool (by rw [HE.out, decide_eq_false (show ¬ 0 ≤ n by omega)]; rfl), (Below.refl _ _).alloc (Nat.le_refl _) _⟩
  by_cases hn2 : 1000000 < n
  · go_enter Try.func36, Try.ntmps36
    go_wp2_with fail
    go_ret
    exact ⟨ret_bool (by rw [HE.out, decide_eq_false (show ¬ n ≤ 1000000 by omega)]; simp), (Below.refl _ _).alloc (Nat.le_refl _) _⟩
  · have HS := Lib.hid (nil_iff s)
    go_enter Try.func36, Try.ntmps36
    go_wp2_with fail
    go_ret
    exact ⟨ret_bool (by rw [HE.out, decide_eq_true (show 0 ≤ n by omega), decide_eq_true (show n ≤ 1000000 by omega), ← HS.out]; simp), ((Below.refl _ _).alloc (Nat.le_refl _) _)⟩
set_option maxHeartbeats 1600000 in
theorem may_any0 (o n : Int) (s : ByteArray) (w : World) (h1 : ¬ o = 1) (h2 : ¬ (o = 2 ∨ o = 11)) : Calls Try.prog 36 #[.agg #[.int .i64 o, .int .i64 n, .string s]] w (RetB w (mayB ⟨o, n, s⟩)) := by
  have HE := Lib.hid (may_else (n := n) (s := s) h1 h2)
  have heq := eq_term
  have hbd := build_term
  have g1 : (o == 1) = false := by simp [h1]
  have g2 : (o == 2) = false := by simp; omega
  have g3 : (o == 11) = false := by simp; omega
  have HS := Lib.hid (nil_iff s)
  clear h1 h2
  go_enter Try.func36, Try.ntmps36
  go_wp2_with fail
  go_ret
  exact ⟨ret_bool (by rw [HE.out, ← HS.out, ← int0_dec]; simp), ((Below.refl _ _).alloc (Nat.le_refl _) _)⟩
set_option maxHeartbeats 1600000 in
theorem may_any2 (o n : Int) (s : ByteArray) (w : World) (hs : s.size ≤ 9223372036854775807) (h2 : o = 2 ∨ o = 11) : Calls Try.prog 36 #[.agg #[.int .i64 o, .int .i64 n, .string s]] w (RetB w (mayB ⟨o, n, s⟩)) := by
  have HE := Lib.hid (may_name (n := n) (s := s) h2)
  have heq := eq_term
  have hbd := build_term
  have HC : Hid (∀ w, Calls Try.prog 53 #[.string s] w (RetB w (isName s.data.toList))) := Lib.hid (fun w => is_any s w hs)
  obtain ⟨q, hq⟩ : ∃ q, q = isName s.data.toList := ⟨_, rfl⟩
  rw [← hq] at HC HE
  clear hq
  have g1 : (o == 1) = false := by simp; omega
  cases q with
  | false =>
    rcases h2 with rfl | rfl
    all_goals
      go_enter Try.func36, Try.ntmps36
      go_wp2_with (go_at_call 53; (with_reducible refine (HC.out _).mono ?_))
      rintro e w1 ⟨rfl, hb1⟩
      go_wp2_with fail
      go_ret
      exact ⟨ret_bool (by rw [HE.out]; simp), below_two' ((Below.refl _ _).alloc (Nat.le_refl _) _) (hb1.mono (by simp))⟩
  | true =>
    rcases h2 with rfl | rfl
    all_goals
      go_enter Try.func36, Try.ntmps36
      go_wp2_with (go_at_call 53; (with_reducible refine (HC.out _).mono ?_))
      rintro e w1 ⟨rfl, hb1⟩
      have hbl := (hb1.block w.heap.size (by simp)).trans (heap_alloc_new w _)
      obtain ⟨c0, c1, c2⟩ := cells_3 hbl
      obtain ⟨f0, f1, f2⟩ := free_3 hbl
      have HB : Hid (Below w.heap.size w w1) := Lib.hid (((Below.refl _ _).alloc (Nat.le_refl _) _).trans (hb1.mono (by simp)))
      have HBL := Lib.hid hbl
      clear hb1 hbl
      go_wp2_with fail
      go_ret
      exact ⟨ret_bool (by rw [HE.out, ← int0_dec]; simp), HB.out.setCell (Nat.le_refl _) _⟩
theorem may_any (t : Tm) (w : World) (hs : t.s.size ≤ 9223372036854775807) : Calls Try.prog 36 #[.agg #[.int .i64 t.op, .int .i64 t.n, .string t.s]] w (RetB w (mayB t)) := by
  by_cases h1 : t.op = 1
  · exact may_any1 t.op t.n t.s w h1
  · by_cases h2 : t.op = 2 ∨ t.op = 11
    · exact may_any2 t.op t.n t.s w hs h2
    · exact may_any0 t.op t.n t.s w h1 h2

set_option maxHeartbeats 1600000 in
theorem rmay_any1 (n : Int) (s : ByteArray) (w : World) (hs : s.size ≤ 9223372036854775807) : Calls Try.prog 34 #[.agg #[.int .i64 1, .int .i64 n, .string s]] w (RetB w (mayB ⟨1, n, s⟩)) := by
  have HE := Lib.hid (may_one (n := n) (s := s) (o := 1) rfl)
  by_cases hn : n < 0
  · go_enter Try.func34, Try.ntmps34
    go_wp2_with fail
    go_ret
    exact ⟨ret_bool (by rw [HE.out, decide_eq_false (show ¬ 0 ≤ n by omega)]; rfl), (Below.refl _ _).alloc (Nat.le_refl _) _⟩
  by_cases hn2 : 1000000 < n
  · go_enter Try.func34, Try.ntmps34
    go_wp2_with fail
    go_ret
    exact ⟨ret_bool (by rw [HE.out, decide_eq_false (show ¬ n ≤ 1000000 by omega)]; simp), (Below.refl _ _).alloc (Nat.le_refl _) _⟩
  · go_enter Try.func34, Try.ntmps34
    go_wp2_with fail
    go_ret
    exact ⟨ret_bool (by rw [HE.out, decide_eq_true (show 0 ≤ n by omega), decide_eq_true (show n ≤ 1000000 by omega), ← size_dec]; rfl), ((Below.refl _ _).alloc (Nat.le_refl _) _)⟩
set_option maxHeartbeats 1600000 in
theorem rmay_n (o n : Int) (s : ByteArray) (w : World) (h0 : 1 ≤ o) (h20 : o ≤ 20) (h1 : ¬ o = 1) (hn : ¬ n = 0) : Calls Try.prog 34 #[.agg #[.int .i64 o, .int .i64 n, .string s]] w (RetB w (mayB ⟨o, n, s⟩)) := by
  have HE : Hid (mayB ⟨o, n, s⟩ = false) := Lib.hid (by unfold mayB; rw [if_neg h1, decide_eq_false hn]; rfl)
  have g1 : (o != 1) = true := by simp [h1]
  have g2 : (n != 0) = true := by simp [hn]
  go_enter Try.func34, Try.ntmps34
  go_wp2_with fail
  go_ret
  exact ⟨ret_bool HE.out.symm, (Below.refl _ _).alloc (Nat.le_refl _) _⟩
set_option maxHeartbeats 1600000 in
theorem rmay_0 (o : Int) (s : ByteArray) (w : World) (h0 : 1 ≤ o) (h20 : o ≤ 20) (h1 : ¬ o = 1) (h2 : ¬ (o = 2 ∨ o = 11)) (hs : s.size ≤ 9223372036854775807) : Calls Try.prog 34 #[.agg #[.int .i64 o, .int .i64 0, .string s]] w (RetB w (mayB ⟨o, 0, s⟩)) := by
  have HE := Lib.hid (may_else (n := 0) (s := s) h1 h2)
  have g1 : (o != 1) = true := by simp [h1]
  have g2 : (o == 2) = false := by simp; omega
  have g3 : (o == 11) = false := by simp; omega
  clear h2
  go_enter Try.func34, Try.ntmps34
  go_wp2_with fail
  go_ret
  exact ⟨ret_bool (by rw [HE.out, ← size_dec]; rfl), (Below.refl _ _).alloc (Nat.le_refl _) _⟩
set_option maxHeartbeats 1600000 in
theorem rmay_2 (o : Int) (s : ByteArray) (w : World) (h2 : o = 2 ∨ o = 11) (hs : s.size ≤ 9223372036854775807) : Calls Try.prog 34 #[.agg #[.int .i64 o, .int .i64 0, .string s]] w (RetB w (mayB ⟨o, 0, s⟩)) := by
  have HE := Lib.hid (may_name (n := 0) (s := s) h2)
  have HC : Hid (∀ w, Calls Try.prog 51 #[.string s] w (RetB w (isName s.data.toList))) := Lib.hid (fun w => ris_any s w hs)
  rcases h2 with rfl | rfl
  all_goals
    go_enter Try.func34, Try.ntmps34
    go_wp2_with (go_at_call 51; (with_reducible refine (HC.out _).mono ?_))
    rintro e w1 ⟨rfl, hb1⟩
    go_wp2_with fail
    go_ret
    exact ⟨ret_bool (by rw [HE.out]; simp), below_two' ((Below.refl _ _).alloc (Nat.le_refl _) _) (hb1.mono (by simp))⟩
theorem rmay_any (t : Tm) (w : World) (hs : t.s.size ≤ 9223372036854775807) (h0 : 0 ≤ ar t.op) : Calls Try.prog 34 #[.agg #[.int .i64 t.op, .int .i64 t.n, .string t.s]] w (RetB w (mayB t)) := by
  obtain ⟨h1, h20⟩ := ar_in.1 h0
  obtain ⟨o, n, s⟩ := t
  by_cases e1 : o = 1
  · subst e1
    exact rmay_any1 n s w hs
  · by_cases en : n = 0
    · subst en
      by_cases h2 : o = 2 ∨ o = 11
      · exact rmay_2 o s w h2 hs
      · exact rmay_0 o s w h1 h20 e1 h2 hs
    · exact rmay_n o n s w h1 h20 e1 en
end Go.Proofs.Ytbkgkdfameojfaa

namespace Go.Proofs.Ytbkgkdfameojfaa
open Go.RowKit TermSpec
set_option maxRecDepth 100000

def EndRel (l : List Tm) (n : Nat) (r : Int) (a o : Value) : Prop := ∃ (j k : Nat), j ≤ n ∧ a = .int .i64 j ∧ o = .int .i64 k ∧ k ≤ j + 1 ∧ fin k (l.drop j) j = r
theorem endRel_next {l : List Tm} {n j k : Nat} {r : Int} {t : Tm} (hj : j < n) (ht : l[j]? = some t) (h0 : 0 ≤ ar t.op) (hk : k + 1 ≤ j + 1) (h : fin (k + 1) (l.drop j) j = r) (o : Int) (ho : o = (k + 1 : Nat) + (ar t.op - 1)) : EndRel l n r (.int .i64 ((j : Int) + 1)) (.int .i64 o) := by
  have h2 := (ar_bd t.op).2
  have e := arN_of h0
  refine ⟨j + 1, k + arN t.op, by omega, by simp, ?_, by omega, ?_⟩
  · congr 1; omega
  · rw [drop_get ht, fin_cons, if_neg (by omega)] at h
    exact h
theorem fin_stop {l : List Tm} {j k : Nat} {r : Int} {t : Tm} (ht : l[j]? = some t) (h0 : ar t.op < 0) (h : fin (k + 1) (l.drop j) j = r) : -1 = r := by
  rw [drop_get ht, fin_cons, if_pos h0] at h
  exact h
theorem fin_out {l : List Tm} {j k : Nat} {r : Int} (hj : l.length ≤ j) (h : fin (k + 1) (l.drop j) j = r) : -1 = r := by
  rw [List.drop_eq_nil_of_le hj] at h
  exact h

set_option maxHeartbeats 1000000 in
theorem end_nat (A : Option Addr) (n c : Nat) (l : List Tm) (a : Nat) (w : World) (h : Tms w (.slice A n c) l) (hn : n = l.length) (hn62 : n ≤ 4611686018427387903) (ha : a ≤ n) :
    Calls Try.prog 54 #[.slice A n c, .int .i64 a] w (SameI w (endA l a)) := by
  have HT := Lib.hid h
  have HN := Lib.hid hn
  have HA := Lib.hid (endA_nat l a)
  obtain ⟨r, hr⟩ : ∃ r, r = endA l a := ⟨_, rfl⟩
  rw [← hr] at HA ⊢
  clear h hn hr
  go_enter Try.func54, Try.ntmps54
  go_wp2_with fail
  go_loop [1, 5] (fun a o => EndRel l n r a o) (fun a _ => n - (intOf a).toNat)
  case atStart => exact ⟨a, 1, ha, rfl, rfl, by omega, HA.out.symm⟩
  case round =>
    obtain ⟨j, k, hj, rfl, rfl, hk, hf⟩ := hrel
    have HF := Lib.hid hf
    clear hf
    rcases Nat.eq_zero_or_pos k with hk0 | hk0
    · subst hk0
      go_wp2_with fail
      go_ret
      exact ⟨ret_int (by rw [← HF.out, fin_zero]), rfl⟩
    · obtain ⟨k, rfl⟩ : ∃ k', k = k' + 1 := ⟨k - 1, by omega⟩
      have hk1 : (0 : Int) < ((k + 1 : Nat) : Int) := by omega
      by_cases hlt : j < n
      · obtain ⟨t, ht⟩ : ∃ t, l[j]? = some t := get_some (by rw [← HN.out]; exact hlt)
        obtain ⟨b, off, rfl, hb, c0, -, -⟩ := HT.out.at_ ht
        have hltI : (j : Int) < (n : Int) := by omega
        have HX := Lib.hid ht
        have HC := Lib.hid (arity_any t.op)
        obtain ⟨h1, h2⟩ := ar_bd t.op
        have HR := Lib.hid (fun h0 => endRel_next (n := n) (r := r) hlt ht h0 hk HF.out)
        have HS := Lib.hid (fun h0 => fin_stop ht h0 HF.out)
        obtain ⟨o, ho⟩ : ∃ o, o = t.op := ⟨_, rfl⟩
        rw [← ho] at HC h1 h2 c0 HR HS
        obtain ⟨q, hq⟩ : ∃ q, q = ar o := ⟨_, rfl⟩
        rw [← hq] at HC h1 h2 HR HS
        clear ht ho hq
        by_cases h0 : q < 0
        · go_wp2_with (go_at_call 17; (with_reducible refine (HC.out _).mono ?_); rintro e w' ⟨rfl, rfl⟩)
          go_ret
          exact ⟨ret_int (HS.out h0), rfl⟩
        · have h0' : 0 ≤ q := by omega
          go_wp2_with (go_at_call 17; (with_reducible refine (HC.out _).mono ?_); rintro e w' ⟨rfl, rfl⟩)
          go_round
          case rel => exact HR.out h0' _ (by simp)
          case measure => simp [intOf]; omega
      · go_wp2_with fail
        go_ret
        exact ⟨ret_int (fin_out (by rw [← HN.out]; omega) HF.out), rfl⟩

theorem end_far (A : Option Addr) (n c : Nat) (l : List Tm) (a : Int) (w : World) (hn : n = l.length) (ha : (n : Int) < a) :
    Calls Try.prog 54 #[.slice A n c, .int .i64 a] w (SameI w (endA l a)) := by
  have HE := Lib.hid (endA_out (l := l) (a := a) (by omega))
  have h0 : ¬ a < 0 := by omega
  have h1 : (n : Int) ≤ a := by omega
  clear hn
  go_enter Try.func54, Try.ntmps54
  go_wp2_with fail
  go_loop [1, 5] (fun v o => v = .int .i64 a ∧ o = .int .i64 1) (fun _ _ => 0)
  case atStart => exact ⟨rfl, rfl⟩
  case round =>
    obtain ⟨rfl, rfl⟩ := hrel
    go_wp2_with fail
    go_ret
    exact ⟨ret_int HE.out.symm, rfl⟩
theorem end_any (A : Option Addr) (n c : Nat) (l : List Tm) (a : Int) (w : World) (h : Tms w (.slice A n c) l) (hn : n = l.length) (hn62 : n ≤ 4611686018427387903) :
    Calls Try.prog 54 #[.slice A n c, .int .i64 a] w (SameI w (endA l a)) := by
  by_cases h0 : a < 0
  · have HE := Lib.hid (endA_neg (l := l) h0)
    clear hn h
    go_enter Try.func54, Try.ntmps54
    go_wp2_with fail
    go_ret
    exact ⟨ret_int HE.out.symm, rfl⟩
  · by_cases h1 : (n : Int) < a
    · exact end_far A n c l a w hn h1
    · obtain ⟨k, rfl⟩ := Int.eq_ofNat_of_zero_le (Int.not_lt.1 h0)
      exact end_nat A n c l k w h hn hn62 (by omega)
end Go.Proofs.Ytbkgkdfameojfaa

namespace Go.Proofs.Ytbkgkdfameojfaa
open Go.RowKit TermSpec
set_option maxRecDepth 100000

theorem rend_out (A : Option Addr) (n c : Nat) (l : List Tm) (a : Int) (w : World) (hn : n = l.length) (ha : a < 0 ∨ (n : Int) ≤ a) :
    Calls Try.prog 43 #[.slice A n c, .int .i64 a] w (RetI w (endA l a)) := by
  have HE : Hid (endA l a = -1) := Lib.hid (by rcases ha with h | h; exact endA_neg h; exact endA_out (by omega))
  clear hn
  by_cases h0 : a < 0
  · clear ha
    go_enter Try.func43, Try.ntmps43
    go_wp2_with fail
    go_ret
    exact ⟨ret_int HE.out.symm, Below.refl _ _⟩
  · have h1 : (n : Int) ≤ a := by omega
    clear ha
    go_enter Try.func43, Try.ntmps43
    go_wp2_with fail
    go_ret
    exact ⟨ret_int HE.out.symm, Below.refl _ _⟩

def REndRel (W : World) (l : List Tm) (a : Nat) (q : Int) (v i : Value) (wr : World) : Prop :=
  ∃ (k x : Nat), (k : Int) ≤ q ∧ i = .int .i64 k ∧ v = .int .i64 (a + 1 + x : Nat) ∧ cnt k (l.drop (a + 1)) = some x ∧ Below W.heap.size W wr
theorem rend_next {l : List Tm} {a k x : Nat} (hx : cnt k (l.drop (a + 1)) = some x) (h : 0 ≤ endA l ((a + 1 + x : Nat) : Int)) : ∃ x', endA l ((a + 1 + x : Nat) : Int) = (a + 1 + x' : Nat) ∧ cnt (k + 1) (l.drop (a + 1)) = some x' := by
  obtain ⟨p, m, hp, hc, he, hm, hl⟩ := endA_nn h
  obtain rfl : p = a + 1 + x := by omega
  refine ⟨x + m, by rw [he]; omega, cnt_join hx (by rw [List.drop_drop]; exact hc)⟩
theorem rend_bad {l : List Tm} {a k x : Nat} {t : Tm} (ht : l[a]? = some t) (h0 : 0 ≤ ar t.op) (hk : (k : Int) < ar t.op) (hx : cnt k (l.drop (a + 1)) = some x) (h : endA l ((a + 1 + x : Nat) : Int) < 0) : endA l a = -1 := by
  have hc : cnt 1 ((l.drop (a + 1)).drop x) = none := by
    rw [List.drop_drop]
    cases hc : cnt 1 (l.drop (a + 1 + x)) with
    | none => rfl
    | some m => rw [endA_some hc] at h; omega
  have e := arN_of h0
  have := cnt_none (cnt_stop hx hc) (arN t.op - (k + 1))
  rw [show k + 1 + (arN t.op - (k + 1)) = arN t.op by omega] at this
  rw [endA_at ht h0, fin_none this]
theorem rend_done {l : List Tm} {a k x : Nat} {t : Tm} (ht : l[a]? = some t) (h0 : 0 ≤ ar t.op) (hk : (k : Int) = ar t.op) (hx : cnt k (l.drop (a + 1)) = some x) : endA l a = (a + 1 + x : Nat) := by
  have e := arN_of h0
  obtain rfl : k = arN t.op := by omega
  rw [endA_at ht h0, fin_some hx]

def RIH (A : Option Addr) (n c : Nat) (l : List Tm) (K : Nat) : Prop := ∀ (a : Nat) (w : World), n ≤ a + K → Tms w (.slice A n c) l → Calls Try.prog 43 #[.slice A n c, .int .i64 a] w (RetI w (endA l a))
set_option maxHeartbeats 2000000 in
theorem rend_step (A : Option Addr) (n c : Nat) (l : List Tm) (K : Nat) (hn : n = l.length) (hn62 : n ≤ 4611686018427387903) (ih : RIH A n c l K) (a : Nat) (w : World) (hK : n ≤ a + (K + 1)) (ha : a < n) (h : Tms w (.slice A n c) l) :
    Calls Try.prog 43 #[.slice A n c, .int .i64 a] w (RetI w (endA l a)) := by
  obtain ⟨t, ht⟩ : ∃ t, l[a]? = some t := get_some (by omega)
  have HT := Lib.hid h
  have HN := Lib.hid hn
  have HIH := Lib.hid ih
  have HX := Lib.hid ht
  have haI : (a : Int) < (n : Int) := by omega
  obtain ⟨b, off, rfl, hb, c0, -, -⟩ := h.at_ ht
  have HCELL := Lib.hid c0
  have HC := Lib.hid (rarity_any t.op)
  obtain ⟨h1, h2⟩ := ar_bd t.op
  have HE : Hid (ar t.op < 0 → endA l a = -1) := Lib.hid (endA_bad ht)
  have HB : Hid (∀ k x : Nat, 0 ≤ ar t.op → (k : Int) < ar t.op → cnt k (l.drop (a + 1)) = some x → endA l ((a + 1 + x : Nat) : Int) < 0 → endA l a = -1) := Lib.hid (fun k x h0 hk hx h => rend_bad ht h0 hk hx h)
  have HD : Hid (∀ k x : Nat, 0 ≤ ar t.op → (k : Int) = ar t.op → cnt k (l.drop (a + 1)) = some x → endA l a = (a + 1 + x : Nat)) := Lib.hid (fun k x h0 hk hx => rend_done ht h0 hk hx)
  obtain ⟨o, ho⟩ : ∃ o, o = t.op := ⟨_, rfl⟩
  rw [← ho] at HC h1 h2 c0 HCELL HE HB HD
  obtain ⟨q, hq⟩ : ∃ q, q = ar o := ⟨_, rfl⟩
  rw [← hq] at HC h1 h2 HE HB HD
  obtain ⟨r, hr⟩ : ∃ r, r = endA l a := ⟨_, rfl⟩
  rw [← hr] at HE HB HD ⊢
  clear ht ho hq hn ih h HX hr
  by_cases h0 : q < 0
  · go_enter Try.func43, Try.ntmps43
    go_wp2_with (go_at_call 42; (with_reducible refine (HC.out _).mono ?_))
    rintro e w1 ⟨rfl, hb1⟩
    go_wp2_with fail
    go_ret
    exact ⟨ret_int (HE.out h0).symm, hb1⟩
  · have h0' : 0 ≤ q := by omega
    clear HE
    have d1 : decide ((a : Int) < 0) = false := decide_eq_false (by omega)
    have d2 : decide (n ≤ a) = false := decide_eq_false (by omega)
    have d3 : decide (q < 0) = false := decide_eq_false h0
    go_enter Try.func43, Try.ntmps43
    go_wp2_with (go_at_call 42; (with_reducible refine (HC.out _).mono ?_))
    rintro e w1 ⟨rfl, hb1⟩
    have HB1 := Lib.hid hb1
    clear c0 hb1
    go_wp2_with fail
    go_loopw [5, 6] (fun v i wr => REndRel w l a q v i wr) (fun _ i _ => 3 - (intOf i).toNat)
    case atStart => exact ⟨0, 0, by simpa using h0', rfl, by simp, cnt_zero _, HB1.out⟩
    case round =>
      obtain ⟨k, x, hk, rfl, rfl, hx, hbw⟩ := hrel
      have HXc := Lib.hid hx
      have HBW := Lib.hid hbw
      have hle := (cnt_le hx).1
      rw [List.length_drop, ← HN.out] at hle
      have c0 : wr.cell? ⟨b, off + a * 3, none⟩ = some (.int .i64 o) := (hbw.cell (by exact hb)).trans HCELL.out
      clear hx hbw
      go_wp2_with (go_at_call 42; (with_reducible refine (HC.out _).mono ?_))
      rintro e w2 ⟨rfl, hb2⟩
      have HB2 := Lib.hid (below_two' HBW.out hb2)
      clear hb2 c0
      by_cases hlt : (k : Int) < q
      · have HI := Lib.hid (HIH.out (a + 1 + x) w2 (by omega) (HT.out.keep HB2.out))
        obtain ⟨z, hz⟩ : ∃ z, z = endA l ((a + 1 + x : Nat) : Int) := ⟨_, rfl⟩
        have HZ := Lib.hid hz
        rw [← hz] at HI
        obtain ⟨p, hp⟩ : ∃ p : Nat, p = a + 1 + x := ⟨_, rfl⟩
        rw [← hp] at HI
        have HP := Lib.hid hp
        obtain ⟨v, hv⟩ : ∃ v, v = Value.int .i64 ((a + 1 + x : Nat) : Int) := ⟨_, rfl⟩
        clear hz
        rw [← HP.out] at hv ⊢
        clear hp hv
        go_wp2_with (go_at_call 43; (with_reducible refine (HI.out).mono ?_))
        rintro e w3 ⟨rfl, hb3⟩
        by_cases hz0 : z < 0
        · go_wp2_with fail
          go_ret
          exact ⟨ret_int (HB.out k x h0' hlt HXc.out (by rw [← HZ.out]; exact hz0)).symm, below_two' HB2.out hb3⟩
        · go_wp2_with fail
          go_roundw
          case rel =>
            obtain ⟨x', hx', hc'⟩ := rend_next HXc.out (by rw [← HZ.out]; omega)
            exact ⟨k + 1, x', by omega, by simp, by rw [HZ.out, hx'], hc', below_two' HB2.out hb3⟩
          case measure => simp [intOf]; omega
      · go_wp2_with fail
        go_ret
        exact ⟨ret_int (HD.out k x h0' (by omega) HXc.out).symm, HB2.out⟩

theorem rend_all (A : Option Addr) (n c : Nat) (l : List Tm) (hn : n = l.length) (hn62 : n ≤ 4611686018427387903) (K : Nat) : RIH A n c l K := by
  induction K with
  | zero => exact fun a w h _ => rend_out A n c l a w hn (.inr (by omega))
  | succ K ih =>
    intro a w hK h
    by_cases ha : a < n
    · exact rend_step A n c l K hn hn62 ih a w hK ha h
    · exact rend_out A n c l a w hn (.inr (by omega))
theorem rend_any (A : Option Addr) (n c : Nat) (l : List Tm) (a : Int) (w : World) (h : Tms w (.slice A n c) l) (hn : n = l.length) (hn62 : n ≤ 4611686018427387903) :
    Calls Try.prog 43 #[.slice A n c, .int .i64 a] w (RetI w (endA l a)) := by
  by_cases h0 : a < 0
  · exact rend_out A n c l a w hn (.inl h0)
  · obtain ⟨k, rfl⟩ := Int.eq_ofNat_of_zero_le (Int.not_lt.1 h0)
    exact rend_all A n c l hn hn62 n k w (by omega) h
end Go.Proofs.Ytbkgkdfameojfaa

namespace Go.Proofs.Ytbkgkdfameojfaa
open Go.RowKit TermSpec
set_option maxRecDepth 100000

theorem inf_int : (Try.prog.info? 3).map (fun i => (i.zero, i.size, i.bytes)) = some (some (.int .i64 0), 1, 8) := by kernel_rfl
/-- A list of numbers of the call's own. -/
def RowI (W wr : World) (p : Value) (xs : List Int) : Prop := wr.ownsRow W.heap.size 3 1 p xs.length (intV xs) ∧ Below W.heap.size W wr
theorem RowI.nil (W wr : World) (hb : Below W.heap.size W wr) : RowI W wr (.slice none 0 0) [] := ⟨World.ownsRow_nil _ _ _ _, hb⟩
theorem RowI.keep {W w w' : World} {p : Value} {xs : List Int} (h : RowI W w p xs) (hb : Below w.heap.size w w') : RowI W w' p xs := ⟨own_keep h.1 hb, below_two' h.2 hb⟩
theorem RowI.add {W wr w2 : World} {p p' : Value} {xs : List Int} {x : Int} {o : Obj} (h : RowI W wr p xs) (hrow : w2.ownsRow W.heap.size 3 1 p' (xs.length + (intV [x]).length) (intV xs ++ intV [x])) (hg : (wr.alloc o).grownBy w2 p.ownBlock) : RowI W w2 p' (xs ++ [x]) := by
  refine ⟨?_, (h.2.alloc h.2.size o).grown hg (by have := h.2.size; simp; omega) (fun j hj => (own_block_bd h.1 j hj).1)⟩
  rw [← intV_append, List.length_append]
  exact hrow
theorem RowI.read {W wr : World} {p : Value} {xs : List Int} (h : RowI W wr p xs) : Rd wr p (intV xs) := Rd.own h.1

/-- Where those below begin, if there is a whole expression. -/
def belowsE (l : List Tm) (a : Int) : List Int := if endA l a < 0 then [] else belows l a.toNat (arN ((l[a.toNat]?).elim 0 (·.op)))
theorem belowsE_no {l : List Tm} {a : Int} (h : endA l a < 0) : belowsE l a = [] := if_pos h
theorem belowsE_yes {l : List Tm} {a : Nat} {t : Tm} (h : 0 ≤ endA l a) (ht : l[a]? = some t) : belowsE l a = belows l a (arN t.op) := by
  unfold belowsE
  rw [if_neg (by omega), show ((a : Nat) : Int).toNat = a from rfl, ht]
  rfl
theorem below_next {l : List Tm} {a k q m : Nat} (h : cnt q (l.drop (a + 1)) = some m) (hk : k < q) :
    endA l ((a + 1 + (cnt k (l.drop (a + 1))).getD 0 : Nat) : Int) = (a + 1 + (cnt (k + 1) (l.drop (a + 1))).getD 0 : Nat) ∧ a + 1 + (cnt (k + 1) (l.drop (a + 1))).getD 0 ≤ max l.length (a + 1) := by
  rw [show q = (k + 1) + (q - (k + 1)) by omega] at h
  obtain ⟨x, _, hx, _, _⟩ := cnt_split h
  obtain ⟨y, z, hy, hz, rfl⟩ := cnt_split hx
  rw [hy, hx]
  rw [List.drop_drop] at hz
  have := (cnt_le hx).1
  rw [List.length_drop] at this
  refine ⟨?_, by simp only [Option.getD_some]; omega⟩
  rw [show (some y).getD 0 = y from rfl, endA_some hz]
  simp only [Option.getD_some]
  omega

def BelRel (W : World) (l : List Tm) (a q : Nat) (p v i : Value) (wr : World) : Prop :=
  ∃ k : Nat, k ≤ q ∧ i = .int .i64 k ∧ v = .int .i64 (a + 1 + (cnt k (l.drop (a + 1))).getD 0 : Nat) ∧ RowI W wr p (belows l a k)

set_option maxHeartbeats 2000000 in
theorem below_yes (A : Option Addr) (n c : Nat) (l : List Tm) (a : Nat) (w : World) (h : Tms w (.slice A n c) l) (hn : n = l.length) (hn62 : n ≤ 70368744177664) (t : Tm) (ht : l[a]? = some t) (he : 0 ≤ endA l a) :
    Calls Try.prog 62 #[.slice A n c, .int .i64 a] w (RetInts w (belows l a (arN t.op))) := by
  obtain ⟨k0, m0, hk0, hc0, _, _, _⟩ := endA_nn he
  obtain rfl : k0 = a := by omega
  obtain ⟨t', m, ht', h0, _, hm⟩ := first_of hc0
  rw [ht] at ht'
  cases ht'
  have han := get_lt ht
  have e0 := arN_of h0
  have HT := Lib.hid h
  have HN := Lib.hid hn
  have HM := Lib.hid hm
  obtain ⟨b, off, rfl, hb, c0, -, -⟩ := h.at_ ht
  have HC := Lib.hid (arity_any t.op)
  have HEE := Lib.hid (fun (a : Int) w h => end_any (some ⟨b, off, none⟩) n c l a w h hn (by omega))
  have hE := HEE.out k0 w h
  obtain ⟨r, hr⟩ : ∃ r, r = endA l k0 := ⟨_, rfl⟩
  rw [← hr] at hE he
  have HE := Lib.hid hE
  obtain ⟨o, ho⟩ : ∃ o, o = t.op := ⟨_, rfl⟩
  rw [← ho] at HC c0 e0 h0 HM ⊢
  have hq := (ar_bd o).2
  obtain ⟨q, hqe⟩ : ∃ q, q = arN o := ⟨_, rfl⟩
  rw [← hqe] at e0 HM ⊢
  rw [← e0] at HC hq
  have hq2 : q ≤ 2 := by omega
  have hal : k0 < n := by omega
  have hal' : (k0 : Int) < n := by omega
  obtain ⟨i0, hi, hz0, hz1, hz2⟩ := info_parts inf_int
  have HI := Lib.hid (And.intro hi (And.intro hz0 (And.intro hz1 hz2)))
  clear ht ho hqe hn h hc0 hk0 hm hr hE h0 e0 han hi hz0 hz1 hz2 hq
  go_enter Try.func62, Try.ntmps62
  go_wp2_with (first
    | (go_at_call 54; (with_reducible refine HE.out.mono ?_); rintro e w' ⟨rfl, rfl⟩)
    | (go_at_call 17; (with_reducible refine (HC.out _).mono ?_); rintro e w' ⟨rfl, rfl⟩))
  go_loopw [5, 6, 19] (fun p v i wr => BelRel w l k0 q p v i wr) (fun _ _ i _ => 3 - (intOf i).toNat)
  case atStart => exact ⟨0, Nat.zero_le _, rfl, by rw [cnt_zero]; simp, RowI.nil _ _ (Below.refl _ _)⟩
  case round =>
    obtain ⟨k, hk, rfl, rfl, hrow⟩ := hrel
    have HR := Lib.hid hrow
    by_cases hlt : k < q
    · obtain ⟨hx, hx2⟩ := below_next HM.out hlt
      obtain ⟨y, hy⟩ : ∃ y, y = k0 + 1 + (cnt k (l.drop (k0 + 1))).getD 0 := ⟨_, rfl⟩
      obtain ⟨z, hz⟩ : ∃ z, z = k0 + 1 + (cnt (k + 1) (l.drop (k0 + 1))).getD 0 := ⟨_, rfl⟩
      have HX := Lib.hid hx
      have HY := Lib.hid hy
      have HZ := Lib.hid hz
      have hl := belows_length l k0 k
      have HL1 : Hid ((belows l k0 k).length + (intV [(y : Int)]).length ≤ maxLen) := Lib.hid (by rw [hl]; simp [maxLen]; omega)
      have HL2 : Hid (((belows l k0 k).length + (intV [(y : Int)]).length) * 8 ≤ 140737488355328) := Lib.hid (by rw [hl]; simp; omega)
      rw [← HY.out]
      have HSZ : Hid (w.heap.size ≤ wr.heap.size) := Lib.hid hrow.2.size
      have HRA := Lib.hid hrow.1
      clear hx hx2 hy hz hl hrow
      go_wp2_with (first
        | (at_builtin; refine wpList_append_rd _ rfl (.tmp 21) (.tmp 23) _ rfl w.heap.size 3 i0 (.int .i64 0) 8 Try.underlying37 HI.out.1 HI.out.2.1 HI.out.2.2.1 HI.out.2.2.2 rfl _ _ _ rfl (HRA.out.alloc _) _ (intV [(y : Int)]) rfl (Rd.lit (cs := #[.int .i64 y]) rfl) (intV_one _) HL1.out HL2.out ?_ ?_; (have := HSZ.out; simp; omega); intro p2 w2 hrow2 hg2 _; have HR2 := Lib.hid (RowI.add HR.out hrow2 hg2); have HT2 := Lib.hid (HT.out.keep HR2.out.2); clear hrow2 hg2)
        | (go_at_call 54; (with_reducible refine (HEE.out _ _ HT2.out).mono ?_); rintro e w' ⟨rfl, rfl⟩))
      go_roundw
      case rel => exact ⟨k + 1, hlt, by simp, by rw [HY.out, HX.out], by rw [belows_next, ← HY.out]; exact HR2.out⟩
      case measure => simp [intOf]; omega
    · obtain rfl : k = q := by omega
      go_wp2_with fail
      go_ret
      exact ⟨_, rfl, HR.out.read, HR.out.2⟩

theorem below_no (A : Option Addr) (n c : Nat) (l : List Tm) (a : Int) (w : World) (h : Tms w (.slice A n c) l) (hn : n = l.length) (hn62 : n ≤ 70368744177664) (he : endA l a < 0) :
    Calls Try.prog 62 #[.slice A n c, .int .i64 a] w (RetInts w []) := by
  have hE := end_any A n c l a w h hn (by omega)
  obtain ⟨r, hr⟩ : ∃ r, r = endA l a := ⟨_, rfl⟩
  rw [← hr] at hE he
  have HE := Lib.hid hE
  clear hr hE hn h
  go_enter Try.func62, Try.ntmps62
  go_wp2_with (go_at_call 54; (with_reducible refine HE.out.mono ?_); rintro e w' ⟨rfl, rfl⟩)
  go_ret
  exact ⟨_, rfl, Rd.nil _, Below.refl _ _⟩
theorem below_any (A : Option Addr) (n c : Nat) (l : List Tm) (a : Int) (w : World) (h : Tms w (.slice A n c) l) (hn : n = l.length) (hn62 : n ≤ 70368744177664) :
    Calls Try.prog 62 #[.slice A n c, .int .i64 a] w (RetInts w (belowsE l a)) := by
  by_cases he : endA l a < 0
  · rw [belowsE_no he]
    exact below_no A n c l a w h hn hn62 he
  · obtain ⟨k, m, rfl, hc, _, _, _⟩ := endA_nn (Int.not_lt.1 he)
    obtain ⟨t, _, ht, _⟩ := first_of hc
    rw [belowsE_yes (Int.not_lt.1 he) ht]
    exact below_yes A n c l k w h hn hn62 t ht (Int.not_lt.1 he)

set_option maxHeartbeats 2000000 in
theorem rbelow_any (A : Option Addr) (n c : Nat) (l : List Tm) (a : Nat) (w : World) (h : Tms w (.slice A n c) l) (hn : n = l.length) (hn62 : n ≤ 70368744177664) (t : Tm) (ht : l[a]? = some t) (he : 0 ≤ endA l a) :
    Calls Try.prog 25 #[.slice A n c, .int .i64 a] w (RetInts w (belows l a (arN t.op))) := by
  obtain ⟨k0, m0, hk0, hc0, _, _, _⟩ := endA_nn he
  obtain rfl : k0 = a := by omega
  obtain ⟨t', m, ht', h0, _, hm⟩ := first_of hc0
  rw [ht] at ht'
  cases ht'
  have han := get_lt ht
  have e0 := arN_of h0
  have HT := Lib.hid h
  have HN := Lib.hid hn
  have HM := Lib.hid hm
  obtain ⟨b, off, rfl, hb, c0, -, -⟩ := h.at_ ht
  have HC := Lib.hid (rarity_any t.op)
  have HEE := Lib.hid (fun (a : Int) w h => rend_any (some ⟨b, off, none⟩) n c l a w h hn (by omega))
  obtain ⟨o, ho⟩ : ∃ o, o = t.op := ⟨_, rfl⟩
  rw [← ho] at HC c0 e0 h0 HM ⊢
  have hq := (ar_bd o).2
  obtain ⟨q, hqe⟩ : ∃ q, q = arN o := ⟨_, rfl⟩
  rw [← hqe] at e0 HM ⊢
  rw [← e0] at HC hq
  have hq2 : q ≤ 2 := by omega
  have hal : k0 < n := by omega
  have hal' : (k0 : Int) < n := by omega
  have HCELL := Lib.hid c0
  obtain ⟨i0, hi, hz0, hz1, hz2⟩ := info_parts inf_int
  have HI := Lib.hid (And.intro hi (And.intro hz0 (And.intro hz1 hz2)))
  clear ht ho hqe hn h hc0 hk0 hm he h0 e0 han hi hz0 hz1 hz2 hq c0
  go_enter Try.func25, Try.ntmps25
  go_wp2_with fail
  go_loopw [5, 6, 7] (fun p v i wr => BelRel w l k0 q p v i wr) (fun _ _ i _ => 3 - (intOf i).toNat)
  case atStart => exact ⟨0, Nat.zero_le _, rfl, by rw [cnt_zero]; simp, World.ownsRow_lit w #[] 0 (Nat.le_refl _) (Nat.zero_le _) rfl, (Below.refl _ _).alloc (Nat.le_refl _) _⟩
  case round =>
    obtain ⟨k, hk, rfl, rfl, hrow⟩ := hrel
    have HR0 := Lib.hid hrow
    have c0 : wr.cell? ⟨b, off + k0 * 3, none⟩ = some (.int .i64 o) := (hrow.2.cell (by exact hb)).trans HCELL.out
    clear hrow
    by_cases hlt : k < q
    · obtain ⟨hx, hx2⟩ := below_next HM.out hlt
      obtain ⟨y, hy⟩ : ∃ y, y = k0 + 1 + (cnt k (l.drop (k0 + 1))).getD 0 := ⟨_, rfl⟩
      have HX := Lib.hid hx
      have HY := Lib.hid hy
      have hl := belows_length l k0 k
      have HL1 : Hid ((belows l k0 k).length + (intV [(y : Int)]).length ≤ maxLen) := Lib.hid (by rw [hl]; simp [maxLen]; omega)
      have HL2 : Hid (((belows l k0 k).length + (intV [(y : Int)]).length) * 8 ≤ 140737488355328) := Lib.hid (by rw [hl]; simp; omega)
      rw [← HY.out]
      clear hx hx2 hy hl
      go_wp2_with (go_at_call 42; (with_reducible refine (HC.out _).mono ?_))
      rintro e w1 ⟨rfl, hb1⟩
      have HR := Lib.hid (HR0.out.keep hb1)
      have HSZ : Hid (w.heap.size ≤ w1.heap.size) := Lib.hid HR.out.2.size
      have HRA := Lib.hid HR.out.1
      clear hb1 c0
      go_wp2_with (at_builtin; refine wpList_append_rd _ rfl (.tmp 21) (.tmp 23) _ rfl w.heap.size 3 i0 (.int .i64 0) 8 Try.underlying37 HI.out.1 HI.out.2.1 HI.out.2.2.1 HI.out.2.2.2 rfl _ _ _ rfl (HRA.out.alloc _) _ (intV [(y : Int)]) rfl (Rd.lit (cs := #[.int .i64 y]) rfl) (intV_one _) HL1.out HL2.out ?_ ?_; (have := HSZ.out; simp; omega); intro p2 w2 hrow2 hg2 _; have HR2 := Lib.hid (RowI.add HR.out hrow2 hg2); have HT2 := Lib.hid (HT.out.keep HR2.out.2); clear hrow2 hg2)
      go_wp2_with (go_at_call 43; (with_reducible refine (HEE.out _ _ HT2.out).mono ?_))
      rintro e w3 ⟨rfl, hb3⟩
      have HR3 := Lib.hid (HR2.out.keep hb3)
      clear hb3
      go_wp2_with fail
      go_roundw
      case rel => exact ⟨k + 1, hlt, by simp, by rw [HY.out, HX.out], by rw [belows_next, ← HY.out]; exact HR3.out⟩
      case measure => simp [intOf]; omega
    · obtain rfl : k = q := by omega
      go_wp2_with (go_at_call 42; (with_reducible refine (HC.out _).mono ?_))
      rintro e w1 ⟨rfl, hb1⟩
      have HR := Lib.hid (HR0.out.keep hb1)
      clear hb1 c0
      go_wp2_with fail
      go_ret
      exact ⟨_, rfl, HR.out.read, HR.out.2⟩
end Go.Proofs.Ytbkgkdfameojfaa

namespace Go.Proofs.Ytbkgkdfameojfaa
open Go.RowKit TermSpec
set_option maxRecDepth 100000

theorem max_if (a b : Int) : max a b = if a < b then b else a := by split <;> omega
def DeepRel (bs : List Int) (n : Nat) (v i : Value) : Prop := ∃ k : Nat, k ≤ n ∧ i = .int .i64 k ∧ v = .int .i64 (deepest (bs.take k))
set_option maxHeartbeats 1000000 in
theorem deplit_any (o : Int) (v : Value) (bs : List Int) (w : World) (h : Rd w v (intV bs)) (hm : bs.length ≤ 4611686018427387903) (hb : ∀ b ∈ bs, b ≤ 4611686018427387903) :
    Calls Try.prog 52 #[.int .i64 o, v] w (SameI w (depF o bs)) := by
  obtain ⟨A, n, c, rfl, hn, hc, hA⟩ := h.ints
  have HA := Lib.hid hA
  have HN := Lib.hid hn
  have HB := Lib.hid hb
  have hm' : n ≤ 4611686018427387903 := by omega
  clear hA hn h hc hm hb
  go_enter Try.func52, Try.ntmps52
  go_wp2_with fail
  go_loop [5, 7, 10] (fun v _ i => DeepRel bs n v i) (fun _ _ i => n - (intOf i).toNat)
  case atStart => exact ⟨0, Nat.zero_le _, rfl, rfl⟩
  case round =>
    obtain ⟨k, hk, rfl, rfl⟩ := hrel
    obtain ⟨g0, g1⟩ := deepest_bd (B := 4611686018427387903) (by omega) (bs.take k) (fun b h => HB.out b (List.mem_of_mem_take h))
    by_cases hlt : k < n
    · obtain ⟨b, off, rfl, hb, hcell⟩ := HA.out (by omega)
      obtain ⟨x, hx⟩ : ∃ x, bs[k]? = some x := get_some (by have := HN.out; omega)
      have hck := hcell k x hx
      have HS : Hid (deepest (bs.take (k + 1)) = if deepest (bs.take k) < x then x else deepest (bs.take k)) := Lib.hid (by rw [take_next hx, deepest_snoc])
      obtain ⟨d, hd⟩ : ∃ d, d = deepest (bs.take k) := ⟨_, rfl⟩
      rw [← hd] at HS g0 g1 ⊢
      clear hcell hx hd
      go_wp2_with fail
      go_round
      case rel => exact ⟨k + 1, hlt, by simp, by rw [HS.out, ← max_if]⟩
      case measure => simp [intOf]; omega
    · go_wp2_with fail
      go_ret
      exact ⟨ret_int (by rw [List.take_of_length_le (by rw [HN.out]; omega)]; rfl), rfl⟩

def AllRel (bs : List Int) (n : Nat) (q : Int) (i : Value) : Prop := ∃ k : Nat, k ≤ n ∧ i = .int .i64 k ∧ (bs.take k).all (fun b => decide (b = q)) = true
theorem all_no {bs : List Int} {k : Nat} {q x : Int} (hx : bs[k]? = some x) (h : x ≠ q) : bs.all (fun b => decide (b = q)) = false := by
  rw [List.all_eq_false]
  exact ⟨x, List.mem_of_getElem? hx, by simpa using h⟩
theorem typF_of {o : Int} {bs : List Int} {b : Bool} (h : bs.all (fun b => decide (b = askT o)) = b) : typF o bs = if b then ownT o else 0 := by unfold typF; rw [h]
set_option maxHeartbeats 1000000 in
theorem typlit_any (o : Int) (v : Value) (bs : List Int) (w : World) (h : Rd w v (intV bs)) (hm : bs.length ≤ 4611686018427387903) :
    Calls Try.prog 38 #[.int .i64 o, v] w (SameI w (typF o bs)) := by
  obtain ⟨A, n, c, rfl, hn, hc, hA⟩ := h.ints
  have HA := Lib.hid hA
  have HN := Lib.hid hn
  have HT := Lib.hid (fun b h => typF_of (o := o) (bs := bs) (b := b) h)
  have HC := Lib.hid (fun w => types_any o w)
  obtain ⟨q, hq⟩ : ∃ q, q = askT o := ⟨_, rfl⟩
  obtain ⟨z, hz⟩ : ∃ z, z = ownT o := ⟨_, rfl⟩
  rw [← hq, ← hz] at HC HT
  have hm' : n ≤ 4611686018427387903 := by omega
  clear hA hn h hc hm hq hz
  go_enter Try.func38, Try.ntmps38
  go_wp2_with (go_at_call 39; (with_reducible refine (HC.out _).mono ?_); rintro e w' ⟨rfl, rfl⟩)
  go_loop [8, 16] (fun _ i => AllRel bs n q i) (fun _ i => n - (intOf i).toNat)
  case atStart => exact ⟨0, Nat.zero_le _, rfl, rfl⟩
  case round =>
    obtain ⟨k, hk, rfl, hall⟩ := hrel
    have HL := Lib.hid hall
    clear hall
    by_cases hlt : k < n
    · obtain ⟨b, off, rfl, hb, hcell⟩ := HA.out (by omega)
      obtain ⟨x, hx⟩ : ∃ x, bs[k]? = some x := get_some (by have := HN.out; omega)
      have hck := hcell k x hx
      have HX := Lib.hid hx
      clear hcell hx
      by_cases hxq : x = q
      · have g : (x != q) = false := by simp [hxq]
        have HQ := Lib.hid hxq
        clear hxq
        go_wp2_with fail
        go_round
        case rel => exact ⟨k + 1, hlt, by simp, by rw [take_next HX.out, List.all_append, HL.out]; simpa using HQ.out⟩
        case measure => simp [intOf]; omega
      · have g : (x != q) = true := by simp [hxq]
        have HQ := Lib.hid hxq
        clear hxq
        go_wp2_with fail
        go_ret
        exact ⟨ret_int (by rw [HT.out _ (all_no HX.out HQ.out)]; rfl), rfl⟩
    · go_wp2_with fail
      go_ret
      exact ⟨ret_int (by
        have h := HL.out
        rw [List.take_of_length_le (by rw [HN.out]; omega)] at h
        rw [HT.out _ h]; rfl), rfl⟩
end Go.Proofs.Ytbkgkdfameojfaa

namespace Go.Proofs.Ytbkgkdfameojfaa
open Go.RowKit TermSpec
set_option maxRecDepth 100000

theorem below_place {l : List Tm} {a q m k : Nat} (h : cnt q (l.drop (a + 1)) = some m) (hk : k < q) :
    ∃ x, (belows l a q)[k]? = some ((a + 1 + x : Nat) : Int) ∧ 0 ≤ endA l ((a + 1 + x : Nat) : Int) ∧ a + 1 + x ≤ max l.length (a + 1) ∧ (∀ f, (stack f (l.drop (a + 1))).take (k + 1) = (stack f (l.drop (a + 1))).take k ++ [come f (l.drop (a + 1 + x))]) := by
  have h' := h
  rw [show q = (k + 1) + (q - (k + 1)) by omega] at h'
  obtain ⟨z, _, hz, _, _⟩ := cnt_split h'
  obtain ⟨x, y, hx, hy, _⟩ := cnt_split hz
  have hle := (cnt_le hx).1
  rw [List.length_drop] at hle
  refine ⟨x, ?_, ?_, by omega, fun f => ?_⟩
  · rw [belows_get hk, hx]; rfl
  · have := (below_next h hk).1
    rw [hx] at this
    simp only [Option.getD_some] at this
    rw [this]; omega
  · have := stack_take_next (f := f) hz hx
    rwa [List.drop_drop] at this
theorem come_at {f : Int → List Int → Int} {l : List Tm} {a : Nat} {t : Tm} (ht : l[a]? = some t) : come f (l.drop a) = f t.op ((stack f (l.drop (a + 1))).take (arN t.op)) := by rw [drop_get ht, come_cons]
def ComeRel (f : Int → List Int → Int) (W : World) (l : List Tm) (a q : Nat) (p i : Value) (wr : World) : Prop :=
  ∃ k : Nat, k ≤ q ∧ i = .int .i64 k ∧ RowI W wr p ((stack f (l.drop (a + 1))).take k)

def IHDep (A : Option Addr) (n c : Nat) (l : List Tm) (K : Nat) : Prop := ∀ (a : Nat) (w : World), n ≤ a + K → Tms w (.slice A n c) l → 0 ≤ endA l a → Calls Try.prog 55 #[.slice A n c, .int .i64 a, .func (.func 52) #[] #[]] w (RetI w (come depF (l.drop a)))
set_option maxHeartbeats 2000000 in
theorem comeDep_step (A : Option Addr) (n c : Nat) (l : List Tm) (K : Nat) (hn : n = l.length) (hn62 : n ≤ 70368744177664) (ih : IHDep A n c l K) (a : Nat) (w : World) (hK : n ≤ a + (K + 1)) (h : Tms w (.slice A n c) l) (he : 0 ≤ endA l a) :
    Calls Try.prog 55 #[.slice A n c, .int .i64 a, .func (.func 52) #[] #[]] w (RetI w (come depF (l.drop a))) := by
  obtain ⟨k0, m0, hk0, hc0, _, _, _⟩ := endA_nn he
  obtain rfl : k0 = a := by omega
  obtain ⟨t, m, ht, h0, _, hm⟩ := first_of hc0
  have han := get_lt ht
  have HT := Lib.hid h
  have HM := Lib.hid hm
  have HIH := Lib.hid ih
  have HBL := Lib.hid (below_yes A n c l k0 w h hn hn62 t ht he)
  obtain ⟨b, off, rfl, hb, c0, -, -⟩ := h.at_ ht
  have HCELL := Lib.hid c0
  have HCM := Lib.hid (come_at (f := depF) ht)
  have hq := (ar_bd t.op).2
  have e0 := arN_of h0
  have hsl := stack_len (f := depF) hm
  have hdb : ∀ b ∈ (stack depF (l.drop (k0 + 1))).take (arN t.op), b ≤ 4611686018427387903 := fun b hb => by
    have h1 := (stack_depth _ b (List.mem_of_mem_take hb)).2
    rw [List.length_drop] at h1
    omega
  have hdl : ((stack depF (l.drop (k0 + 1))).take (arN t.op)).length ≤ 4611686018427387903 := by rw [List.length_take]; omega
  have HDB := Lib.hid (And.intro hdl hdb)
  clear hdb hdl
  obtain ⟨o, ho⟩ : ∃ o, o = t.op := ⟨_, rfl⟩
  rw [← ho] at HBL HCELL HCM hq e0 HM hsl c0 HDB
  obtain ⟨q, hqe⟩ : ∃ q, q = arN o := ⟨_, rfl⟩
  rw [← hqe] at HBL HCM e0 HM hsl HDB
  have hq2 : q ≤ 2 := by omega
  have hal : k0 < n := by omega
  have hal' : (k0 : Int) < n := by omega
  have hlen : l.length = n := hn.symm
  obtain ⟨i0, hi, hz0, hz1, hz2⟩ := info_parts inf_int
  have HI := Lib.hid (And.intro hi (And.intro hz0 (And.intro hz1 hz2)))
  have HLEN := Lib.hid hlen
  have HSL := Lib.hid hsl
  clear ht ho hqe hn h hc0 hk0 hm he h0 e0 han hi hz0 hz1 hz2 hq c0 ih hlen hsl
  go_enter Try.func55, Try.ntmps55
  go_wp2_with (go_at_call 62; (with_reducible refine HBL.out.mono ?_))
  rintro e w1 ⟨v2, rfl, hr2, hb1⟩
  obtain ⟨A2, n2, c2, rfl, hn2, hc2, hA2⟩ := hr2.ints
  rw [belows_length] at hn2
  obtain rfl : q = n2 := hn2
  have HA2 := Lib.hid hA2
  have HB1 := Lib.hid hb1
  clear hr2 hc2 hA2 hb1
  go_wp2_with fail
  go_loopw [7, 9, 14] (fun p _ i wr => ComeRel depF w1 l k0 q p i wr) (fun _ _ i _ => 3 - (intOf i).toNat)
  case atStart => exact ⟨0, Nat.zero_le _, rfl, RowI.nil _ _ (Below.refl _ _)⟩
  case round =>
    obtain ⟨k, hk, rfl, hrow⟩ := hrel
    have hbw := below_two' HB1.out hrow.2
    have HR := Lib.hid hrow
    have HBW := Lib.hid hbw
    clear hrow hbw
    by_cases hlt : k < q
    · obtain ⟨b2, off2, rfl, hb2, hcell⟩ := HA2.out (by omega)
      obtain ⟨x, hx, hex, hbx, hst⟩ := below_place HM.out hlt
      have hck := (HR.out.2.cell (p := ⟨b2, off2 + k, none⟩) (by exact hb2)).trans (hcell k _ hx)
      have HST := Lib.hid (hst depF)
      rw [HLEN.out] at hbx
      have HCI := Lib.hid (HIH.out (k0 + 1 + x) wr (by omega) (HT.out.keep HBW.out) hex)
      obtain ⟨y, hy⟩ : ∃ y, y = come depF (l.drop (k0 + 1 + x)) := ⟨_, rfl⟩
      rw [← hy] at HST HCI
      obtain ⟨p, hp⟩ : ∃ p, p = k0 + 1 + x := ⟨_, rfl⟩
      rw [← hp] at HCI hck
      have hl : ((stack depF (l.drop (k0 + 1))).take k).length = k := by rw [List.length_take]; have := HSL.out; omega
      have HL1 : Hid (((stack depF (l.drop (k0 + 1))).take k).length + (intV [(y : Int)]).length ≤ maxLen) := Lib.hid (by rw [hl]; simp [maxLen]; omega)
      have HL2 : Hid ((((stack depF (l.drop (k0 + 1))).take k).length + (intV [(y : Int)]).length) * 8 ≤ 140737488355328) := Lib.hid (by rw [hl]; simp; omega)
      clear hx hex hbx hst hcell hl hy hp
      go_wp2_with (go_at_call 55; (with_reducible refine HCI.out.mono ?_))
      rintro e w3 ⟨rfl, hb3⟩
      have HR3 := Lib.hid (HR.out.keep hb3)
      have HRA := Lib.hid HR3.out.1
      have HSZ : Hid (w1.heap.size ≤ w3.heap.size) := Lib.hid HR3.out.2.size
      clear hb3 hck
      go_wp2_with (at_builtin; refine wpList_append_rd _ rfl (.tmp 18) (.tmp 23) _ rfl w1.heap.size 3 i0 (.int .i64 0) 8 Try.underlying37 HI.out.1 HI.out.2.1 HI.out.2.2.1 HI.out.2.2.2 rfl _ _ _ rfl (HRA.out.alloc _) _ (intV [(y : Int)]) rfl (Rd.lit (cs := #[.int .i64 y]) rfl) (intV_one _) HL1.out HL2.out ?_ ?_; (have := HSZ.out; simp; omega); intro p2 w4 hrow2 hg2 _; have HR4 := Lib.hid (RowI.add HR3.out hrow2 hg2); clear hrow2 hg2)
      go_roundw
      case rel => exact ⟨k + 1, hlt, by simp, by rw [HST.out]; exact HR4.out⟩
      case measure => simp [intOf]; omega
    · obtain rfl : k = q := by omega
      obtain ⟨A3, n3, c3, rfl, hn3⟩ : ∃ A n c, u7 = .slice A n c ∧ True := by
        obtain ⟨A, c, h⟩ := own_shape HR.out.1
        exact ⟨A, _, c, h, trivial⟩
      have c0 : wr.cell? ⟨b, off + k0 * 3, none⟩ = some (.int .i64 o) := (HBW.out.cell (by exact hb)).trans HCELL.out
      have HLT := Lib.hid (deplit_any o (.slice A3 n3 c3) _ wr HR.out.read HDB.out.1 HDB.out.2)
      go_wp2_with (go_at_call 52; (with_reducible refine HLT.out.mono ?_); rintro e w' ⟨rfl, rfl⟩)
      go_ret
      exact ⟨ret_int HCM.out.symm, HBW.out⟩
theorem comeDep_all (A : Option Addr) (n c : Nat) (l : List Tm) (hn : n = l.length) (hn62 : n ≤ 70368744177664) (K : Nat) : IHDep A n c l K := by
  induction K with
  | zero =>
    intro a w hK _ he
    obtain ⟨k, m, hk, _, h1, h2, h3⟩ := endA_nn he
    omega
  | succ K ih => exact fun a w hK h he => comeDep_step A n c l K hn hn62 ih a w hK h he
theorem comeDep_any (A : Option Addr) (n c : Nat) (l : List Tm) (hn : n = l.length) (hn62 : n ≤ 70368744177664) (a : Nat) (w : World) (h : Tms w (.slice A n c) l) (he : 0 ≤ endA l a) :
    Calls Try.prog 55 #[.slice A n c, .int .i64 a, .func (.func 52) #[] #[]] w (RetI w (come depF (l.drop a))) := comeDep_all A n c l hn hn62 n a w (by omega) h he

def IHTyp (A : Option Addr) (n c : Nat) (l : List Tm) (K : Nat) : Prop := ∀ (a : Nat) (w : World), n ≤ a + K → Tms w (.slice A n c) l → 0 ≤ endA l a → Calls Try.prog 55 #[.slice A n c, .int .i64 a, .func (.func 38) #[] #[]] w (RetI w (come typF (l.drop a)))
set_option maxHeartbeats 2000000 in
theorem comeTyp_step (A : Option Addr) (n c : Nat) (l : List Tm) (K : Nat) (hn : n = l.length) (hn62 : n ≤ 70368744177664) (ih : IHTyp A n c l K) (a : Nat) (w : World) (hK : n ≤ a + (K + 1)) (h : Tms w (.slice A n c) l) (he : 0 ≤ endA l a) :
    Calls Try.prog 55 #[.slice A n c, .int .i64 a, .func (.func 38) #[] #[]] w (RetI w (come typF (l.drop a))) := by
  obtain ⟨k0, m0, hk0, hc0, _, _, _⟩ := endA_nn he
  obtain rfl : k0 = a := by omega
  obtain ⟨t, m, ht, h0, _, hm⟩ := first_of hc0
  have han := get_lt ht
  have HT := Lib.hid h
  have HM := Lib.hid hm
  have HIH := Lib.hid ih
  have HBL := Lib.hid (below_yes A n c l k0 w h hn hn62 t ht he)
  obtain ⟨b, off, rfl, hb, c0, -, -⟩ := h.at_ ht
  have HCELL := Lib.hid c0
  have HCM := Lib.hid (come_at (f := typF) ht)
  have hq := (ar_bd t.op).2
  have e0 := arN_of h0
  have hsl := stack_len (f := typF) hm
  have hdl : ((stack typF (l.drop (k0 + 1))).take (arN t.op)).length ≤ 4611686018427387903 := by rw [List.length_take]; omega
  have HDB := Lib.hid hdl
  clear hdl
  obtain ⟨o, ho⟩ : ∃ o, o = t.op := ⟨_, rfl⟩
  rw [← ho] at HBL HCELL HCM hq e0 HM hsl c0 HDB
  obtain ⟨q, hqe⟩ : ∃ q, q = arN o := ⟨_, rfl⟩
  rw [← hqe] at HBL HCM e0 HM hsl HDB
  have hq2 : q ≤ 2 := by omega
  have hal : k0 < n := by omega
  have hal' : (k0 : Int) < n := by omega
  have hlen : l.length = n := hn.symm
  obtain ⟨i0, hi, hz0, hz1, hz2⟩ := info_parts inf_int
  have HI := Lib.hid (And.intro hi (And.intro hz0 (And.intro hz1 hz2)))
  have HLEN := Lib.hid hlen
  have HSL := Lib.hid hsl
  clear ht ho hqe hn h hc0 hk0 hm he h0 e0 han hi hz0 hz1 hz2 hq c0 ih hlen hsl
  go_enter Try.func55, Try.ntmps55
  go_wp2_with (go_at_call 62; (with_reducible refine HBL.out.mono ?_))
  rintro e w1 ⟨v2, rfl, hr2, hb1⟩
  obtain ⟨A2, n2, c2, rfl, hn2, hc2, hA2⟩ := hr2.ints
  rw [belows_length] at hn2
  obtain rfl : q = n2 := hn2
  have HA2 := Lib.hid hA2
  have HB1 := Lib.hid hb1
  clear hr2 hc2 hA2 hb1
  go_wp2_with fail
  go_loopw [7, 9, 14] (fun p _ i wr => ComeRel typF w1 l k0 q p i wr) (fun _ _ i _ => 3 - (intOf i).toNat)
  case atStart => exact ⟨0, Nat.zero_le _, rfl, RowI.nil _ _ (Below.refl _ _)⟩
  case round =>
    obtain ⟨k, hk, rfl, hrow⟩ := hrel
    have hbw := below_two' HB1.out hrow.2
    have HR := Lib.hid hrow
    have HBW := Lib.hid hbw
    clear hrow hbw
    by_cases hlt : k < q
    · obtain ⟨b2, off2, rfl, hb2, hcell⟩ := HA2.out (by omega)
      obtain ⟨x, hx, hex, hbx, hst⟩ := below_place HM.out hlt
      have hck := (HR.out.2.cell (p := ⟨b2, off2 + k, none⟩) (by exact hb2)).trans (hcell k _ hx)
      have HST := Lib.hid (hst typF)
      rw [HLEN.out] at hbx
      have HCI := Lib.hid (HIH.out (k0 + 1 + x) wr (by omega) (HT.out.keep HBW.out) hex)
      obtain ⟨y, hy⟩ : ∃ y, y = come typF (l.drop (k0 + 1 + x)) := ⟨_, rfl⟩
      rw [← hy] at HST HCI
      obtain ⟨p, hp⟩ : ∃ p, p = k0 + 1 + x := ⟨_, rfl⟩
      rw [← hp] at HCI hck
      have hl : ((stack typF (l.drop (k0 + 1))).take k).length = k := by rw [List.length_take]; have := HSL.out; omega
      have HL1 : Hid (((stack typF (l.drop (k0 + 1))).take k).length + (intV [(y : Int)]).length ≤ maxLen) := Lib.hid (by rw [hl]; simp [maxLen]; omega)
      have HL2 : Hid ((((stack typF (l.drop (k0 + 1))).take k).length + (intV [(y : Int)]).length) * 8 ≤ 140737488355328) := Lib.hid (by rw [hl]; simp; omega)
      clear hx hex hbx hst hcell hl hy hp
      go_wp2_with (go_at_call 55; (with_reducible refine HCI.out.mono ?_))
      rintro e w3 ⟨rfl, hb3⟩
      have HR3 := Lib.hid (HR.out.keep hb3)
      have HRA := Lib.hid HR3.out.1
      have HSZ : Hid (w1.heap.size ≤ w3.heap.size) := Lib.hid HR3.out.2.size
      clear hb3 hck
      go_wp2_with (at_builtin; refine wpList_append_rd _ rfl (.tmp 18) (.tmp 23) _ rfl w1.heap.size 3 i0 (.int .i64 0) 8 Try.underlying37 HI.out.1 HI.out.2.1 HI.out.2.2.1 HI.out.2.2.2 rfl _ _ _ rfl (HRA.out.alloc _) _ (intV [(y : Int)]) rfl (Rd.lit (cs := #[.int .i64 y]) rfl) (intV_one _) HL1.out HL2.out ?_ ?_; (have := HSZ.out; simp; omega); intro p2 w4 hrow2 hg2 _; have HR4 := Lib.hid (RowI.add HR3.out hrow2 hg2); clear hrow2 hg2)
      go_roundw
      case rel => exact ⟨k + 1, hlt, by simp, by rw [HST.out]; exact HR4.out⟩
      case measure => simp [intOf]; omega
    · obtain rfl : k = q := by omega
      obtain ⟨A3, n3, c3, rfl, hn3⟩ : ∃ A n c, u7 = .slice A n c ∧ True := by
        obtain ⟨A, c, h⟩ := own_shape HR.out.1
        exact ⟨A, _, c, h, trivial⟩
      have c0 : wr.cell? ⟨b, off + k0 * 3, none⟩ = some (.int .i64 o) := (HBW.out.cell (by exact hb)).trans HCELL.out
      have HLT := Lib.hid (typlit_any o (.slice A3 n3 c3) _ wr HR.out.read HDB.out)
      go_wp2_with (go_at_call 38; (with_reducible refine HLT.out.mono ?_); rintro e w' ⟨rfl, rfl⟩)
      go_ret
      exact ⟨ret_int HCM.out.symm, HBW.out⟩
theorem comeTyp_all (A : Option Addr) (n c : Nat) (l : List Tm) (hn : n = l.length) (hn62 : n ≤ 70368744177664) (K : Nat) : IHTyp A n c l K := by
  induction K with
  | zero =>
    intro a w hK _ he
    obtain ⟨k, m, hk, _, h1, h2, h3⟩ := endA_nn he
    omega
  | succ K ih => exact fun a w hK h he => comeTyp_step A n c l K hn hn62 ih a w hK h he
theorem comeTyp_any (A : Option Addr) (n c : Nat) (l : List Tm) (hn : n = l.length) (hn62 : n ≤ 70368744177664) (a : Nat) (w : World) (h : Tms w (.slice A n c) l) (he : 0 ≤ endA l a) :
    Calls Try.prog 55 #[.slice A n c, .int .i64 a, .func (.func 38) #[] #[]] w (RetI w (come typF (l.drop a))) := comeTyp_all A n c l hn hn62 n a w (by omega) h he
end Go.Proofs.Ytbkgkdfameojfaa

namespace Go.Proofs.Ytbkgkdfameojfaa
open Go.RowKit TermSpec
set_option maxRecDepth 100000

def RDeepRel (W : World) (l : List Tm) (a q : Nat) (v i : Value) (wr : World) : Prop :=
  ∃ k : Nat, k ≤ q ∧ i = .int .i64 k ∧ v = .int .i64 (deepest ((stack depF (l.drop (a + 1))).take k)) ∧ Below W.heap.size W wr
def RDIH (A : Option Addr) (n c : Nat) (l : List Tm) (K : Nat) : Prop := ∀ (a : Nat) (w : World), n ≤ a + K → Tms w (.slice A n c) l → 0 ≤ endA l a → Calls Try.prog 14 #[.slice A n c, .int .i64 a] w (RetI w (come depF (l.drop a)))
set_option maxHeartbeats 2000000 in
theorem rdep_step (A : Option Addr) (n c : Nat) (l : List Tm) (K : Nat) (hn : n = l.length) (hn62 : n ≤ 70368744177664) (ih : RDIH A n c l K) (a : Nat) (w : World) (hK : n ≤ a + (K + 1)) (h : Tms w (.slice A n c) l) (he : 0 ≤ endA l a) :
    Calls Try.prog 14 #[.slice A n c, .int .i64 a] w (RetI w (come depF (l.drop a))) := by
  obtain ⟨k0, m0, hk0, hc0, _, _, _⟩ := endA_nn he
  obtain rfl : k0 = a := by omega
  obtain ⟨t, m, ht, h0, _, hm⟩ := first_of hc0
  have han := get_lt ht
  have HT := Lib.hid h
  have HM := Lib.hid hm
  have HIH := Lib.hid ih
  have HBL := Lib.hid (rbelow_any A n c l k0 w h hn hn62 t ht he)
  have HCM := Lib.hid (come_at (f := depF) ht)
  have hq := (ar_bd t.op).2
  have e0 := arN_of h0
  have HDB : Hid (∀ k, 0 ≤ deepest ((stack depF (l.drop (k0 + 1))).take k) ∧ deepest ((stack depF (l.drop (k0 + 1))).take k) ≤ 4611686018427387903) := Lib.hid (fun k => deepest_bd (by omega) _ (fun b hb => by
    have h1 := (stack_depth _ b (List.mem_of_mem_take hb)).2
    rw [List.length_drop] at h1
    omega))
  obtain ⟨q, hqe⟩ : ∃ q, q = arN t.op := ⟨_, rfl⟩
  rw [← hqe] at HBL HCM e0 HM
  have hq2 : q ≤ 2 := by omega
  have hal : k0 < n := by omega
  have HLEN := Lib.hid hn
  clear ht hqe hn h hc0 hk0 hm he h0 e0 han hq ih
  go_enter Try.func14, Try.ntmps14
  go_wp2_with (go_at_call 25; (with_reducible refine HBL.out.mono ?_))
  rintro e w1 ⟨v2, rfl, hr2, hb1⟩
  obtain ⟨A2, n2, c2, rfl, hn2, hc2, hA2⟩ := hr2.ints
  rw [belows_length] at hn2
  obtain rfl : q = n2 := hn2
  have HA2 := Lib.hid hA2
  have HB1 := Lib.hid hb1
  clear hr2 hc2 hA2 hb1
  go_wp2_with fail
  go_loopw [5, 7, 8] (fun v i _ wr => RDeepRel w1 l k0 q v i wr) (fun _ i _ _ => 3 - (intOf i).toNat)
  case atStart => exact ⟨0, Nat.zero_le _, rfl, rfl, Below.refl _ _⟩
  case round =>
    obtain ⟨k, hk, rfl, rfl, hbw⟩ := hrel
    have HBW := Lib.hid hbw
    obtain ⟨g0, g1⟩ := HDB.out k
    clear hbw
    by_cases hlt : k < q
    · obtain ⟨b2, off2, rfl, hb2, hcell⟩ := HA2.out (by omega)
      obtain ⟨x, hx, hex, hbx, hst⟩ := below_place HM.out hlt
      have hck := (HBW.out.cell (p := ⟨b2, off2 + k, none⟩) (by exact hb2)).trans (hcell k _ hx)
      have HS : Hid (deepest ((stack depF (l.drop (k0 + 1))).take (k + 1)) = if deepest ((stack depF (l.drop (k0 + 1))).take k) < come depF (l.drop (k0 + 1 + x)) then come depF (l.drop (k0 + 1 + x)) else deepest ((stack depF (l.drop (k0 + 1))).take k)) := Lib.hid (by rw [hst depF, deepest_snoc])
      rw [← HLEN.out] at hbx
      have HCI := Lib.hid (HIH.out (k0 + 1 + x) wr (by omega) (HT.out.keep (below_two' HB1.out HBW.out)) hex)
      obtain ⟨y, hy⟩ : ∃ y, y = come depF (l.drop (k0 + 1 + x)) := ⟨_, rfl⟩
      rw [← hy] at HS HCI
      obtain ⟨d, hd⟩ : ∃ d, d = deepest ((stack depF (l.drop (k0 + 1))).take k) := ⟨_, rfl⟩
      rw [← hd] at HS g0 g1 ⊢
      obtain ⟨p, hp⟩ : ∃ p, p = k0 + 1 + x := ⟨_, rfl⟩
      rw [← hp] at HCI hck
      clear hx hex hbx hst hcell hy hp hd
      by_cases hyd : d < y
      all_goals
        go_wp2_with (go_at_call 14; (with_reducible refine HCI.out.mono ?_))
        rintro e w3 ⟨rfl, hb3⟩
        have HB3 := Lib.hid (below_two' HBW.out hb3)
        clear hb3 hck
        go_wp2_with fail
        go_roundw
        case rel => exact ⟨k + 1, hlt, by simp, by rw [HS.out]; first | rw [if_pos hyd] | rw [if_neg (by omega)], HB3.out⟩
        case measure => simp [intOf]; omega
    · obtain rfl : k = q := by omega
      go_wp2_with fail
      go_ret
      exact ⟨ret_int HCM.out.symm, below_two' HB1.out HBW.out⟩
theorem rdep_all (A : Option Addr) (n c : Nat) (l : List Tm) (hn : n = l.length) (hn62 : n ≤ 70368744177664) (K : Nat) : RDIH A n c l K := by
  induction K with
  | zero =>
    intro a w hK _ he
    obtain ⟨k, m, hk, _, h1, h2, h3⟩ := endA_nn he
    omega
  | succ K ih => exact fun a w hK h he => rdep_step A n c l K hn hn62 ih a w hK h he
theorem rdep_any (A : Option Addr) (n c : Nat) (l : List Tm) (hn : n = l.length) (hn62 : n ≤ 70368744177664) (a : Nat) (w : World) (h : Tms w (.slice A n c) l) (he : 0 ≤ endA l a) :
    Calls Try.prog 14 #[.slice A n c, .int .i64 a] w (RetI w (come depF (l.drop a))) := rdep_all A n c l hn hn62 n a w (by omega) h he

def takesT (o : Int) : Int := if o = 12 ∨ 19 ≤ o then 2 else 1
theorem typR {o : Int} {bs : List Int} {b : Bool} (h0 : 0 ≤ ar o) (hl : bs.length ≤ arN o) (h : bs.all (fun b => decide (b = takesT o)) = b) : typF o bs = if b then (if o ≤ 8 then 1 else 2) else 0 := by
  obtain ⟨h1, h20⟩ := ar_in.1 h0
  have hown : ownT o = if o ≤ 8 then 1 else 2 := by
    unfold ownT
    by_cases h8 : o ≤ 8
    · rw [if_pos (by omega), if_pos h8]
    · rw [if_neg (by omega), if_neg h8]
  by_cases h9 : o = 9 ∨ o = 10 ∨ o = 11
  · have : arN o = 0 := by rcases h9 with rfl | rfl | rfl <;> rfl
    obtain rfl : bs = [] := List.eq_nil_of_length_eq_zero (by omega)
    cases h
    unfold typF
    rw [← hown]; rfl
  · have e : takesT o = askT o := by
      unfold takesT askT
      by_cases h2 : o = 12 ∨ 19 ≤ o
      · rw [if_pos h2, if_neg (by omega)]
      · rw [if_neg h2, if_pos (by omega)]
    rw [e] at h
    rw [typF_of h, hown]
def RTypRel (W : World) (l : List Tm) (a q : Nat) (tk : Int) (i : Value) (wr : World) : Prop :=
  ∃ k : Nat, k ≤ q ∧ i = .int .i64 k ∧ ((stack typF (l.drop (a + 1))).take k).all (fun b => decide (b = tk)) = true ∧ Below W.heap.size W wr
theorem all_stop {S : List Int} {k q : Nat} {y tk : Int} (hk : k < q) (h : S.take (k + 1) = S.take k ++ [y]) (hy : y ≠ tk) : (S.take q).all (fun b => decide (b = tk)) = false := by
  rw [List.all_eq_false]
  refine ⟨y, ?_, by simpa using hy⟩
  have : y ∈ S.take (k + 1) := by rw [h]; simp
  rw [show k + 1 = min (k + 1) q by omega, ← List.take_take] at this
  exact List.mem_of_mem_take this
def RTIH (A : Option Addr) (n c : Nat) (l : List Tm) (K : Nat) : Prop := ∀ (a : Nat) (w : World), n ≤ a + K → Tms w (.slice A n c) l → 0 ≤ endA l a → Calls Try.prog 13 #[.slice A n c, .int .i64 a] w (RetI w (come typF (l.drop a)))
set_option maxHeartbeats 3000000 in
theorem rtyp_stepA (A : Option Addr) (n c : Nat) (l : List Tm) (K : Nat) (hn : n = l.length) (hn62 : n ≤ 70368744177664) (ih : RTIH A n c l K) (k0 : Nat) (w : World) (hK : n ≤ k0 + (K + 1)) (h : Tms w (.slice A n c) l) (he : 0 ≤ endA l k0) (t : Tm) (m : Nat) (ht : l[k0]? = some t) (h0 : 0 ≤ ar t.op) (hm : cnt (arN t.op) (l.drop (k0 + 1)) = some m) (h12 : t.op = 12) :
    Calls Try.prog 13 #[.slice A n c, .int .i64 k0] w (RetI w (come typF (l.drop k0))) := by
  have han := get_lt ht
  have HT := Lib.hid h
  have HM := Lib.hid hm
  have HIH := Lib.hid ih
  have HBL := Lib.hid (rbelow_any A n c l k0 w h hn hn62 t ht he)
  obtain ⟨b, off, rfl, hb, c0, -, -⟩ := h.at_ ht
  have hq := (ar_bd t.op).2
  have e0 := arN_of h0
  have hcm := come_at (f := typF) ht
  have HTR : Hid (∀ b, ((stack typF (l.drop (k0 + 1))).take (arN t.op)).all (fun b => decide (b = 2)) = b → come typF (l.drop k0) = if b then (if t.op ≤ 8 then 1 else 2) else 0) := Lib.hid (fun b hb => by
    rw [hcm]
    refine typR h0 (by rw [List.length_take]; omega) ?_
    rw [show takesT t.op = 2 by unfold takesT; rw [if_pos (by omega)]]
    exact hb)
  obtain ⟨r, hr⟩ : ∃ r, r = come typF (l.drop k0) := ⟨_, rfl⟩
  rw [← hr] at HTR ⊢
  obtain ⟨o, ho⟩ : ∃ o, o = t.op := ⟨_, rfl⟩
  rw [← ho] at HBL HTR hq e0 HM c0 h12
  obtain ⟨q, hqe⟩ : ∃ q, q = arN o := ⟨_, rfl⟩
  rw [← hqe] at HBL HTR e0 HM
  have hq2 : q ≤ 2 := by omega
  have hal : k0 < n := by omega
  have hal' : (k0 : Int) < n := by omega
  have HLEN := Lib.hid hn
  clear ht ho hqe hn h hm he h0 e0 han hq ih hcm hr
  have g12 : (o == 12) = true := by simp [h12]
  have d8 : ¬ o ≤ 8 := by omega
  clear h12 d8
  go_enter Try.func13, Try.ntmps13
  go_wp2_with (go_at_call 25; (with_reducible refine HBL.out.mono ?_))
  rintro e w1 ⟨v2, rfl, hr2, hb1⟩
  obtain ⟨A2, n2, c2, rfl, hn2, hc2, hA2⟩ := hr2.ints
  rw [belows_length] at hn2
  obtain rfl : q = n2 := hn2
  have HA2 := Lib.hid hA2
  have HB1 := Lib.hid hb1
  clear hr2 hc2 hA2 hb1 c0
  go_wp2_with fail
  go_loopw [8] (fun i wr => RTypRel w1 l k0 q 2 i wr) (fun i _ => 3 - (intOf i).toNat)
  case atStart => exact ⟨0, Nat.zero_le _, rfl, rfl, Below.refl _ _⟩
  case round =>
    obtain ⟨k, hk, rfl, hall, hbw⟩ := hrel
    have HBW := Lib.hid hbw
    have HALL := Lib.hid hall
    clear hbw hall
    by_cases hlt : k < q
    · obtain ⟨b2, off2, rfl, hb2, hcell⟩ := HA2.out (by omega)
      obtain ⟨x, hx, hex, hbx, hst⟩ := below_place HM.out hlt
      have hck := (HBW.out.cell (p := ⟨b2, off2 + k, none⟩) (by exact hb2)).trans (hcell k _ hx)
      have HS := Lib.hid (hst typF)
      rw [← HLEN.out] at hbx
      have HCI := Lib.hid (HIH.out (k0 + 1 + x) wr (by omega) (HT.out.keep (below_two' HB1.out HBW.out)) hex)
      obtain ⟨y, hy⟩ : ∃ y, y = come typF (l.drop (k0 + 1 + x)) := ⟨_, rfl⟩
      rw [← hy] at HS HCI
      obtain ⟨p, hp⟩ : ∃ p, p = k0 + 1 + x := ⟨_, rfl⟩
      rw [← hp] at HCI hck
      clear hx hex hbx hst hcell hy hp
      by_cases hyd : y = 2
      · have g : (y != 2) = false := by simp [hyd]
        have HQ := Lib.hid hyd
        clear hyd
        go_wp2_with (go_at_call 13; (with_reducible refine HCI.out.mono ?_))
        rintro e w3 ⟨rfl, hb3⟩
        have HB3 := Lib.hid (below_two' HBW.out hb3)
        clear hb3 hck
        go_wp2_with fail
        go_roundw
        case rel => exact ⟨k + 1, hlt, by simp, by rw [HS.out, List.all_append, HALL.out]; simpa using HQ.out, HB3.out⟩
        case measure => simp [intOf]; omega
      · have g : (y != 2) = true := by simp [hyd]
        have HQ := Lib.hid hyd
        clear hyd
        go_wp2_with (go_at_call 13; (with_reducible refine HCI.out.mono ?_))
        rintro e w3 ⟨rfl, hb3⟩
        have HB3 := Lib.hid (below_two' HBW.out hb3)
        clear hb3 hck
        go_wp2_with fail
        go_ret
        exact ⟨ret_int (HTR.out false (all_stop hlt HS.out HQ.out)).symm, below_two' HB1.out HB3.out⟩
    · obtain rfl : k = q := by omega
      by_cases h8 : o ≤ 8
      all_goals
        go_wp2_with fail
        go_ret
        exact ⟨ret_int (by rw [HTR.out true HALL.out]; first | (rw [if_pos rfl, if_pos h8]) | (rw [if_pos rfl, if_neg (by omega)])), below_two' HB1.out HBW.out⟩
set_option maxHeartbeats 3000000 in
theorem rtyp_stepB (A : Option Addr) (n c : Nat) (l : List Tm) (K : Nat) (hn : n = l.length) (hn62 : n ≤ 70368744177664) (ih : RTIH A n c l K) (k0 : Nat) (w : World) (hK : n ≤ k0 + (K + 1)) (h : Tms w (.slice A n c) l) (he : 0 ≤ endA l k0) (t : Tm) (m : Nat) (ht : l[k0]? = some t) (h0 : 0 ≤ ar t.op) (hm : cnt (arN t.op) (l.drop (k0 + 1)) = some m) (h19 : 19 ≤ t.op) :
    Calls Try.prog 13 #[.slice A n c, .int .i64 k0] w (RetI w (come typF (l.drop k0))) := by
  have han := get_lt ht
  have HT := Lib.hid h
  have HM := Lib.hid hm
  have HIH := Lib.hid ih
  have HBL := Lib.hid (rbelow_any A n c l k0 w h hn hn62 t ht he)
  obtain ⟨b, off, rfl, hb, c0, -, -⟩ := h.at_ ht
  have hq := (ar_bd t.op).2
  have e0 := arN_of h0
  have hcm := come_at (f := typF) ht
  have HTR : Hid (∀ b, ((stack typF (l.drop (k0 + 1))).take (arN t.op)).all (fun b => decide (b = 2)) = b → come typF (l.drop k0) = if b then (if t.op ≤ 8 then 1 else 2) else 0) := Lib.hid (fun b hb => by
    rw [hcm]
    refine typR h0 (by rw [List.length_take]; omega) ?_
    rw [show takesT t.op = 2 by unfold takesT; rw [if_pos (by omega)]]
    exact hb)
  obtain ⟨r, hr⟩ : ∃ r, r = come typF (l.drop k0) := ⟨_, rfl⟩
  rw [← hr] at HTR ⊢
  obtain ⟨o, ho⟩ : ∃ o, o = t.op := ⟨_, rfl⟩
  rw [← ho] at HBL HTR hq e0 HM c0 h19
  obtain ⟨q, hqe⟩ : ∃ q, q = arN o := ⟨_, rfl⟩
  rw [← hqe] at HBL HTR e0 HM
  have hq2 : q ≤ 2 := by omega
  have hal : k0 < n := by omega
  have hal' : (k0 : Int) < n := by omega
  have HLEN := Lib.hid hn
  clear ht ho hqe hn h hm he h0 e0 han hq ih hcm hr
  have g12 : (o == 12) = false := by simp; omega
  go_enter Try.func13, Try.ntmps13
  go_wp2_with (go_at_call 25; (with_reducible refine HBL.out.mono ?_))
  rintro e w1 ⟨v2, rfl, hr2, hb1⟩
  obtain ⟨A2, n2, c2, rfl, hn2, hc2, hA2⟩ := hr2.ints
  rw [belows_length] at hn2
  obtain rfl : q = n2 := hn2
  have HA2 := Lib.hid hA2
  have HB1 := Lib.hid hb1
  clear hr2 hc2 hA2 hb1 c0
  go_wp2_with fail
  go_loopw [8] (fun i wr => RTypRel w1 l k0 q 2 i wr) (fun i _ => 3 - (intOf i).toNat)
  case atStart => exact ⟨0, Nat.zero_le _, rfl, rfl, Below.refl _ _⟩
  case round =>
    obtain ⟨k, hk, rfl, hall, hbw⟩ := hrel
    have HBW := Lib.hid hbw
    have HALL := Lib.hid hall
    clear hbw hall
    by_cases hlt : k < q
    · obtain ⟨b2, off2, rfl, hb2, hcell⟩ := HA2.out (by omega)
      obtain ⟨x, hx, hex, hbx, hst⟩ := below_place HM.out hlt
      have hck := (HBW.out.cell (p := ⟨b2, off2 + k, none⟩) (by exact hb2)).trans (hcell k _ hx)
      have HS := Lib.hid (hst typF)
      rw [← HLEN.out] at hbx
      have HCI := Lib.hid (HIH.out (k0 + 1 + x) wr (by omega) (HT.out.keep (below_two' HB1.out HBW.out)) hex)
      obtain ⟨y, hy⟩ : ∃ y, y = come typF (l.drop (k0 + 1 + x)) := ⟨_, rfl⟩
      rw [← hy] at HS HCI
      obtain ⟨p, hp⟩ : ∃ p, p = k0 + 1 + x := ⟨_, rfl⟩
      rw [← hp] at HCI hck
      clear hx hex hbx hst hcell hy hp
      by_cases hyd : y = 2
      · have g : (y != 2) = false := by simp [hyd]
        have HQ := Lib.hid hyd
        clear hyd
        go_wp2_with (go_at_call 13; (with_reducible refine HCI.out.mono ?_))
        rintro e w3 ⟨rfl, hb3⟩
        have HB3 := Lib.hid (below_two' HBW.out hb3)
        clear hb3 hck
        go_wp2_with fail
        go_roundw
        case rel => exact ⟨k + 1, hlt, by simp, by rw [HS.out, List.all_append, HALL.out]; simpa using HQ.out, HB3.out⟩
        case measure => simp [intOf]; omega
      · have g : (y != 2) = true := by simp [hyd]
        have HQ := Lib.hid hyd
        clear hyd
        go_wp2_with (go_at_call 13; (with_reducible refine HCI.out.mono ?_))
        rintro e w3 ⟨rfl, hb3⟩
        have HB3 := Lib.hid (below_two' HBW.out hb3)
        clear hb3 hck
        go_wp2_with fail
        go_ret
        exact ⟨ret_int (HTR.out false (all_stop hlt HS.out HQ.out)).symm, below_two' HB1.out HB3.out⟩
    · obtain rfl : k = q := by omega
      by_cases h8 : o ≤ 8
      all_goals
        go_wp2_with fail
        go_ret
        exact ⟨ret_int (by rw [HTR.out true HALL.out]; first | (rw [if_pos rfl, if_pos h8]) | (rw [if_pos rfl, if_neg (by omega)])), below_two' HB1.out HBW.out⟩
set_option maxHeartbeats 3000000 in
theorem rtyp_stepC (A : Option Addr) (n c : Nat) (l : List Tm) (K : Nat) (hn : n = l.length) (hn62 : n ≤ 70368744177664) (ih : RTIH A n c l K) (k0 : Nat) (w : World) (hK : n ≤ k0 + (K + 1)) (h : Tms w (.slice A n c) l) (he : 0 ≤ endA l k0) (t : Tm) (m : Nat) (ht : l[k0]? = some t) (h0 : 0 ≤ ar t.op) (hm : cnt (arN t.op) (l.drop (k0 + 1)) = some m) (h12 : ¬ t.op = 12) (h19 : t.op < 19) :
    Calls Try.prog 13 #[.slice A n c, .int .i64 k0] w (RetI w (come typF (l.drop k0))) := by
  have han := get_lt ht
  have HT := Lib.hid h
  have HM := Lib.hid hm
  have HIH := Lib.hid ih
  have HBL := Lib.hid (rbelow_any A n c l k0 w h hn hn62 t ht he)
  obtain ⟨b, off, rfl, hb, c0, -, -⟩ := h.at_ ht
  have hq := (ar_bd t.op).2
  have e0 := arN_of h0
  have hcm := come_at (f := typF) ht
  have HTR : Hid (∀ b, ((stack typF (l.drop (k0 + 1))).take (arN t.op)).all (fun b => decide (b = 1)) = b → come typF (l.drop k0) = if b then (if t.op ≤ 8 then 1 else 2) else 0) := Lib.hid (fun b hb => by
    rw [hcm]
    refine typR h0 (by rw [List.length_take]; omega) ?_
    rw [show takesT t.op = 1 by unfold takesT; rw [if_neg (by omega)]]
    exact hb)
  obtain ⟨r, hr⟩ : ∃ r, r = come typF (l.drop k0) := ⟨_, rfl⟩
  rw [← hr] at HTR ⊢
  obtain ⟨o, ho⟩ : ∃ o, o = t.op := ⟨_, rfl⟩
  rw [← ho] at HBL HTR hq e0 HM c0 h12 h19
  obtain ⟨q, hqe⟩ : ∃ q, q = arN o := ⟨_, rfl⟩
  rw [← hqe] at HBL HTR e0 HM
  have hq2 : q ≤ 2 := by omega
  have hal : k0 < n := by omega
  have hal' : (k0 : Int) < n := by omega
  have HLEN := Lib.hid hn
  clear ht ho hqe hn h hm he h0 e0 han hq ih hcm hr
  have g12 : (o == 12) = false := by simp [h12]
  go_enter Try.func13, Try.ntmps13
  go_wp2_with (go_at_call 25; (with_reducible refine HBL.out.mono ?_))
  rintro e w1 ⟨v2, rfl, hr2, hb1⟩
  obtain ⟨A2, n2, c2, rfl, hn2, hc2, hA2⟩ := hr2.ints
  rw [belows_length] at hn2
  obtain rfl : q = n2 := hn2
  have HA2 := Lib.hid hA2
  have HB1 := Lib.hid hb1
  clear hr2 hc2 hA2 hb1 c0
  go_wp2_with fail
  go_loopw [8] (fun i wr => RTypRel w1 l k0 q 1 i wr) (fun i _ => 3 - (intOf i).toNat)
  case atStart => exact ⟨0, Nat.zero_le _, rfl, rfl, Below.refl _ _⟩
  case round =>
    obtain ⟨k, hk, rfl, hall, hbw⟩ := hrel
    have HBW := Lib.hid hbw
    have HALL := Lib.hid hall
    clear hbw hall
    by_cases hlt : k < q
    · obtain ⟨b2, off2, rfl, hb2, hcell⟩ := HA2.out (by omega)
      obtain ⟨x, hx, hex, hbx, hst⟩ := below_place HM.out hlt
      have hck := (HBW.out.cell (p := ⟨b2, off2 + k, none⟩) (by exact hb2)).trans (hcell k _ hx)
      have HS := Lib.hid (hst typF)
      rw [← HLEN.out] at hbx
      have HCI := Lib.hid (HIH.out (k0 + 1 + x) wr (by omega) (HT.out.keep (below_two' HB1.out HBW.out)) hex)
      obtain ⟨y, hy⟩ : ∃ y, y = come typF (l.drop (k0 + 1 + x)) := ⟨_, rfl⟩
      rw [← hy] at HS HCI
      obtain ⟨p, hp⟩ : ∃ p, p = k0 + 1 + x := ⟨_, rfl⟩
      rw [← hp] at HCI hck
      clear hx hex hbx hst hcell hy hp
      by_cases hyd : y = 1
      · have g : (y != 1) = false := by simp [hyd]
        have HQ := Lib.hid hyd
        clear hyd
        go_wp2_with (go_at_call 13; (with_reducible refine HCI.out.mono ?_))
        rintro e w3 ⟨rfl, hb3⟩
        have HB3 := Lib.hid (below_two' HBW.out hb3)
        clear hb3 hck
        go_wp2_with fail
        go_roundw
        case rel => exact ⟨k + 1, hlt, by simp, by rw [HS.out, List.all_append, HALL.out]; simpa using HQ.out, HB3.out⟩
        case measure => simp [intOf]; omega
      · have g : (y != 1) = true := by simp [hyd]
        have HQ := Lib.hid hyd
        clear hyd
        go_wp2_with (go_at_call 13; (with_reducible refine HCI.out.mono ?_))
        rintro e w3 ⟨rfl, hb3⟩
        have HB3 := Lib.hid (below_two' HBW.out hb3)
        clear hb3 hck
        go_wp2_with fail
        go_ret
        exact ⟨ret_int (HTR.out false (all_stop hlt HS.out HQ.out)).symm, below_two' HB1.out HB3.out⟩
    · obtain rfl : k = q := by omega
      by_cases h8 : o ≤ 8
      all_goals
        go_wp2_with fail
        go_ret
        exact ⟨ret_int (by rw [HTR.out true HALL.out]; first | (rw [if_pos rfl, if_pos h8]) | (rw [if_pos rfl, if_neg (by omega)])), below_two' HB1.out HBW.out⟩
theorem rtyp_all (A : Option Addr) (n c : Nat) (l : List Tm) (hn : n = l.length) (hn62 : n ≤ 70368744177664) (K : Nat) : RTIH A n c l K := by
  induction K with
  | zero =>
    intro a w hK _ he
    obtain ⟨k, m, hk, _, h1, h2, h3⟩ := endA_nn he
    omega
  | succ K ih =>
    intro a w hK h he
    obtain ⟨k0, m0, hk0, hc0, _, _, _⟩ := endA_nn he
    obtain rfl : k0 = a := by omega
    obtain ⟨t, m, ht, h0, _, hm⟩ := first_of hc0
    by_cases h12 : t.op = 12
    · exact rtyp_stepA A n c l K hn hn62 ih k0 w hK h he t m ht h0 hm h12
    · by_cases h19 : 19 ≤ t.op
      · exact rtyp_stepB A n c l K hn hn62 ih k0 w hK h he t m ht h0 hm h19
      · exact rtyp_stepC A n c l K hn hn62 ih k0 w hK h he t m ht h0 hm h12 (by omega)
theorem rtyp_any (A : Option Addr) (n c : Nat) (l : List Tm) (hn : n = l.length) (hn62 : n ≤ 70368744177664) (a : Nat) (w : World) (h : Tms w (.slice A n c) l) (he : 0 ≤ endA l a) :
    Calls Try.prog 13 #[.slice A n c, .int .i64 a] w (RetI w (come typF (l.drop a))) := rtyp_all A n c l hn hn62 n a w (by omega) h he
end Go.Proofs.Ytbkgkdfameojfaa

namespace Go.Proofs.Ytbkgkdfameojfaa
open Go.RowKit TermSpec
set_option maxRecDepth 100000

theorem endA_nat0 (l : List Tm) : endA l 0 = fin 1 l 0 := endA_nat l 0
theorem whole_yes {l : List Tm} {n : Nat} (hn : n = l.length) (h40 : n ≤ 40) (h : endA l 0 = n) : wholeB l = true := by
  refine wholeB_iff.2 ⟨by omega, ?_⟩
  obtain ⟨k, m, hk, hc, he, hm, hl⟩ := endA_nn (l := l) (a := 0) (by omega)
  obtain rfl : k = 0 := by omega
  rw [List.drop_zero] at hc
  rw [hc]
  congr 1
  omega
theorem whole_no {l : List Tm} {n : Nat} (hn : n = l.length) (h : ¬ (n ≤ 40 ∧ endA l 0 = n)) : wholeB l = false := by
  rw [Bool.eq_false_iff]
  intro hw
  obtain ⟨h1, h2⟩ := wholeB_iff.1 hw
  refine h ⟨by omega, ?_⟩
  have := endA_some (l := l) (a := 0) (m := l.length) (by simpa using h2)
  rw [show (0 : Int) = ((0 : Nat) : Int) from rfl, this]
  omega
theorem tell_no {f : Int → List Int → Int} {l : List Tm} (h : wholeB l = false) : tell f l = 0 := by unfold tell; rw [h]; rfl
theorem tell_yes {f : Int → List Int → Int} {l : List Tm} (h : wholeB l = true) : tell f l = come f l := by unfold tell; rw [h]; rfl

theorem comeDep_zero (A : Option Addr) (n c : Nat) (l : List Tm) (hn : n = l.length) (hn62 : n ≤ 70368744177664) (w : World) (h : Tms w (.slice A n c) l) (he : 0 ≤ endA l 0) :
    Calls Try.prog 55 #[.slice A n c, .int .i64 0, .func (.func 52) #[] #[]] w (RetI w (come depF l)) := by
  have := comeDep_any A n c l hn hn62 0 w h he
  rwa [List.drop_zero] at this
set_option maxHeartbeats 1000000 in
theorem wholeDep_any (A : Option Addr) (n c : Nat) (l : List Tm) (hn : n = l.length) (hn62 : n ≤ 70368744177664) (w : World) (h : Tms w (.slice A n c) l) :
    Calls Try.prog 37 #[.slice A n c, .func (.func 52) #[] #[]] w (RetI w (tell depF l)) := by
  by_cases h40 : 40 < n
  · have HE := Lib.hid (tell_no (f := depF) (whole_no hn (by omega)))
    clear hn h
    go_enter Try.func37, Try.ntmps37
    go_wp2_with fail
    go_ret
    exact ⟨ret_int HE.out.symm, Below.refl _ _⟩
  · have hE := end_any A n c l 0 w h hn (by omega)
    have HY : Hid (endA l 0 = n → Calls Try.prog 55 #[.slice A n c, .int .i64 0, .func (.func 52) #[] #[]] w (RetI w (come depF l)) ∧ tell depF l = come depF l) := Lib.hid (fun h0 => ⟨comeDep_zero A n c l hn hn62 w h (by omega), tell_yes (whole_yes hn (by omega) h0)⟩)
    have HN : Hid (endA l 0 ≠ n → tell depF l = 0) := Lib.hid (fun h0 => tell_no (whole_no hn (fun h => h0 h.2)))
    obtain ⟨r, hr⟩ : ∃ r, r = endA l 0 := ⟨_, rfl⟩
    rw [← hr] at hE HY HN
    have HE := Lib.hid hE
    clear hr hE hn h
    by_cases hrn : r = n
    · have g : (r != (n : Int)) = false := by simp [hrn]
      have HC := Lib.hid (HY.out hrn).1
      have HV := Lib.hid (HY.out hrn).2
      clear hrn HN HY
      go_enter Try.func37, Try.ntmps37
      go_wp2_with (first
        | (go_at_call 54; (with_reducible refine HE.out.mono ?_); rintro e w' ⟨rfl, rfl⟩)
        | (go_at_call 55; (with_reducible refine HC.out.mono ?_)))
      rintro e w1 ⟨rfl, hb1⟩
      go_wp2_with fail
      go_ret
      exact ⟨ret_int HV.out.symm, hb1⟩
    · have g : (r != (n : Int)) = true := by simp [hrn]
      have HV := Lib.hid (HN.out hrn)
      clear hrn HN HY
      go_enter Try.func37, Try.ntmps37
      go_wp2_with (go_at_call 54; (with_reducible refine HE.out.mono ?_); rintro e w' ⟨rfl, rfl⟩)
      go_ret
      exact ⟨ret_int HV.out.symm, Below.refl _ _⟩
theorem depth_any (A : Option Addr) (n c : Nat) (l : List Tm) (hn : n = l.length) (hn62 : n ≤ 70368744177664) (w : World) (h : Tms w (.slice A n c) l) :
    Calls Try.prog 35 #[.slice A n c] w (RetI w (depth l)) := by
  have HC := Lib.hid (wholeDep_any A n c l hn hn62 w h)
  obtain ⟨r, hr⟩ : ∃ r, r = tell depF l := ⟨_, rfl⟩
  have HR : Hid (depth l = r) := Lib.hid hr.symm
  rw [← hr] at HC
  clear hr hn h
  go_enter Try.func35, Try.ntmps35
  go_wp2_with (go_at_call 37; (with_reducible refine HC.out.mono ?_))
  rintro e w1 ⟨rfl, hb1⟩
  go_wp2_with fail
  go_ret
  exact ⟨ret_int HR.out.symm, hb1⟩

theorem comeTyp_zero (A : Option Addr) (n c : Nat) (l : List Tm) (hn : n = l.length) (hn62 : n ≤ 70368744177664) (w : World) (h : Tms w (.slice A n c) l) (he : 0 ≤ endA l 0) :
    Calls Try.prog 55 #[.slice A n c, .int .i64 0, .func (.func 38) #[] #[]] w (RetI w (come typF l)) := by
  have := comeTyp_any A n c l hn hn62 0 w h he
  rwa [List.drop_zero] at this
set_option maxHeartbeats 1000000 in
theorem wholeTyp_any (A : Option Addr) (n c : Nat) (l : List Tm) (hn : n = l.length) (hn62 : n ≤ 70368744177664) (w : World) (h : Tms w (.slice A n c) l) :
    Calls Try.prog 37 #[.slice A n c, .func (.func 38) #[] #[]] w (RetI w (tell typF l)) := by
  by_cases h40 : 40 < n
  · have HE := Lib.hid (tell_no (f := typF) (whole_no hn (by omega)))
    clear hn h
    go_enter Try.func37, Try.ntmps37
    go_wp2_with fail
    go_ret
    exact ⟨ret_int HE.out.symm, Below.refl _ _⟩
  · have hE := end_any A n c l 0 w h hn (by omega)
    have HY : Hid (endA l 0 = n → Calls Try.prog 55 #[.slice A n c, .int .i64 0, .func (.func 38) #[] #[]] w (RetI w (come typF l)) ∧ tell typF l = come typF l) := Lib.hid (fun h0 => ⟨comeTyp_zero A n c l hn hn62 w h (by omega), tell_yes (whole_yes hn (by omega) h0)⟩)
    have HN : Hid (endA l 0 ≠ n → tell typF l = 0) := Lib.hid (fun h0 => tell_no (whole_no hn (fun h => h0 h.2)))
    obtain ⟨r, hr⟩ : ∃ r, r = endA l 0 := ⟨_, rfl⟩
    rw [← hr] at hE HY HN
    have HE := Lib.hid hE
    clear hr hE hn h
    by_cases hrn : r = n
    · have g : (r != (n : Int)) = false := by simp [hrn]
      have HC := Lib.hid (HY.out hrn).1
      have HV := Lib.hid (HY.out hrn).2
      clear hrn HN HY
      go_enter Try.func37, Try.ntmps37
      go_wp2_with (first
        | (go_at_call 54; (with_reducible refine HE.out.mono ?_); rintro e w' ⟨rfl, rfl⟩)
        | (go_at_call 55; (with_reducible refine HC.out.mono ?_)))
      rintro e w1 ⟨rfl, hb1⟩
      go_wp2_with fail
      go_ret
      exact ⟨ret_int HV.out.symm, hb1⟩
    · have g : (r != (n : Int)) = true := by simp [hrn]
      have HV := Lib.hid (HN.out hrn)
      clear hrn HN HY
      go_enter Try.func37, Try.ntmps37
      go_wp2_with (go_at_call 54; (with_reducible refine HE.out.mono ?_); rintro e w' ⟨rfl, rfl⟩)
      go_ret
      exact ⟨ret_int HV.out.symm, Below.refl _ _⟩
theorem typ_any (A : Option Addr) (n c : Nat) (l : List Tm) (hn : n = l.length) (hn62 : n ≤ 70368744177664) (w : World) (h : Tms w (.slice A n c) l) :
    Calls Try.prog 22 #[.slice A n c] w (RetI w (typ l)) := by
  have HC := Lib.hid (wholeTyp_any A n c l hn hn62 w h)
  obtain ⟨r, hr⟩ : ∃ r, r = tell typF l := ⟨_, rfl⟩
  have HR : Hid (typ l = r) := Lib.hid hr.symm
  rw [← hr] at HC
  clear hr hn h
  go_enter Try.func22, Try.ntmps22
  go_wp2_with (go_at_call 37; (with_reducible refine HC.out.mono ?_))
  rintro e w1 ⟨rfl, hb1⟩
  go_wp2_with fail
  go_ret
  exact ⟨ret_int HR.out.symm, hb1⟩

theorem rwhole_any (A : Option Addr) (n c : Nat) (l : List Tm) (hn : n = l.length) (hn62 : n ≤ 70368744177664) (w : World) (h : Tms w (.slice A n c) l) :
    Calls Try.prog 33 #[.slice A n c] w (RetB w (wholeB l)) := by
  by_cases h40 : 40 < n
  · have HE := Lib.hid (whole_no hn (by omega))
    have g : ¬ (n : Int) ≤ 40 := by omega
    clear hn h
    go_enter Try.func33, Try.ntmps33
    go_wp2_with fail
    go_ret
    exact ⟨ret_bool HE.out.symm, Below.refl _ _⟩
  · have hE := rend_any A n c l 0 w h hn (by omega)
    have h40' : (n : Int) ≤ 40 := by omega
    have HV : Hid (wholeB l = (endA l 0 == (n : Int))) := Lib.hid (by
      by_cases h0 : endA l 0 = n
      · rw [whole_yes hn (by omega) h0, h0]; simp
      · rw [whole_no hn (fun h => h0 h.2)]; symm; simpa using h0)
    obtain ⟨r, hr⟩ : ∃ r, r = endA l 0 := ⟨_, rfl⟩
    rw [← hr] at hE HV
    have HE := Lib.hid hE
    clear hr hE hn h
    go_enter Try.func33, Try.ntmps33
    go_wp2_with (go_at_call 43; (with_reducible refine HE.out.mono ?_))
    rintro e w1 ⟨rfl, hb1⟩
    go_wp2_with fail
    go_ret
    exact ⟨ret_bool HV.out.symm, hb1⟩

def AllMay (W : World) (l : List Tm) (n : Nat) (i : Value) (wr : World) : Prop := ∃ k : Nat, k ≤ n ∧ i = .int .i64 k ∧ (l.take k).all mayB = true ∧ Below W.heap.size W wr
theorem may_stop {l : List Tm} {k : Nat} {t : Tm} (ht : l[k]? = some t) (h : mayB t = false) : l.all mayB = false := by
  rw [List.all_eq_false]
  exact ⟨t, List.mem_of_getElem? ht, by simp [h]⟩
theorem may_next {l : List Tm} {k : Nat} {t : Tm} (ht : l[k]? = some t) (h0 : (l.take k).all mayB = true) (h : mayB t = true) : (l.take (k + 1)).all mayB = true := by
  rw [take_next ht, List.all_append, h0]; simpa using h
theorem chk_full {l : List Tm} (h : 40 < l.length) : chk l = 8 := by unfold chk; rw [if_pos h]
theorem chk_none {l : List Tm} (h : ¬ 40 < l.length) (h1 : wholeB l = false) : chk l = 1 := by unfold chk; rw [if_neg h, if_pos h1]
theorem chk_may {l : List Tm} (h : ¬ 40 < l.length) (h1 : wholeB l = true) (h2 : l.all mayB = false) : chk l = 1 := by unfold chk; rw [if_neg h, if_neg (by simp [h1]), if_pos h2]
theorem chk_last {l : List Tm} (h : ¬ 40 < l.length) (h1 : wholeB l = true) (h2 : l.all mayB = true) : chk l = if 12 < depth l then 6 else 0 := by unfold chk; rw [if_neg h, if_neg (by simp [h1]), if_neg (by simp [h2])]

set_option maxHeartbeats 2000000 in
theorem check_any (A : Option Addr) (n c : Nat) (l : List Tm) (hn : n = l.length) (hn62 : n ≤ 70368744177664) (hs : Small l) (w : World) (h : Tms w (.slice A n c) l) :
    Calls Try.prog 21 #[.slice A n c] w (RetI w (chk l)) := by
  by_cases h40 : 40 < n
  · have HE := Lib.hid (chk_full (l := l) (by omega))
    clear hn h
    go_enter Try.func21, Try.ntmps21
    go_wp2_with fail
    go_ret
    exact ⟨ret_int HE.out.symm, Below.refl _ _⟩
  have HD := Lib.hid (depth_any A n c l hn hn62 w h)
  have h40' : ¬ 40 < l.length := by omega
  cases hw : wholeB l with
  | false =>
    have hd : depth l = 0 := depth_zero.2 hw
    rw [hd] at HD
    have HE := Lib.hid (chk_none h40' hw)
    clear hn h hw hd h40'
    go_enter Try.func21, Try.ntmps21
    go_wp2_with (go_at_call 35; (with_reducible refine HD.out.mono ?_))
    rintro e w1 ⟨rfl, hb1⟩
    go_wp2_with fail
    go_ret
    exact ⟨ret_int HE.out.symm, hb1⟩
  | true =>
    have hd0 : 1 ≤ depth l := by unfold depth; rw [tell_yes hw]; exact (come_depth (wholeB_iff.1 hw).2).1
    have HL := Lib.hid (fun h2 => chk_last h40' hw h2)
    have HM := Lib.hid (fun h2 => chk_may h40' hw h2)
    obtain ⟨d, hd⟩ : ∃ d, d = depth l := ⟨_, rfl⟩
    rw [← hd] at HD HL hd0
    have gd : (d == 0) = false := by simp; omega
    have HT := Lib.hid h
    have HN := Lib.hid hn
    have HS := Lib.hid hs
    clear hn h hw hd h40' hs
    go_enter Try.func21, Try.ntmps21
    go_wp2_with (go_at_call 35; (with_reducible refine HD.out.mono ?_))
    rintro e w1 ⟨rfl, hb1⟩
    have HB1 := Lib.hid hb1
    clear hb1
    go_wp2_with fail
    go_loopw [5, 15] (fun _ i wr => AllMay w l n i wr) (fun _ i _ => n - (intOf i).toNat)
    case atStart => exact ⟨0, Nat.zero_le _, rfl, rfl, HB1.out⟩
    case round =>
      obtain ⟨k, hk, rfl, hall, hbw⟩ := hrel
      have HA := Lib.hid hall
      have HB := Lib.hid hbw
      clear hall hbw
      by_cases hlt : k < n
      · obtain ⟨t, ht⟩ : ∃ t, l[k]? = some t := get_some (by rw [← HN.out]; exact hlt)
        obtain ⟨b, off, rfl, hb, c0, c1, c2⟩ := (HT.out.keep HB.out).at_ ht
        have HC : Hid (∀ w, Calls Try.prog 36 #[.agg #[.int .i64 t.op, .int .i64 t.n, .string t.s]] w (RetB w (mayB t))) := Lib.hid (fun w => may_any t w (HS.out t (List.mem_of_getElem? ht)))
        have HX := Lib.hid ht
        obtain ⟨q, hq⟩ : ∃ q, q = mayB t := ⟨_, rfl⟩
        rw [← hq] at HC
        have HQ := Lib.hid hq.symm
        clear ht hq
        cases q with
        | true =>
          go_wp2_with (go_at_call 36; (with_reducible refine (HC.out _).mono ?_))
          rintro e w2 ⟨rfl, hb2⟩
          have HB2 := Lib.hid (below_two' (HB.out.alloc HB.out.size _) hb2)
          clear hb2 c0 c1 c2
          go_wp2_with fail
          go_roundw
          case rel => exact ⟨k + 1, hlt, by simp, may_next HX.out HA.out HQ.out, HB2.out⟩
          case measure => simp [intOf]; omega
        | false =>
          go_wp2_with (go_at_call 36; (with_reducible refine (HC.out _).mono ?_))
          rintro e w2 ⟨rfl, hb2⟩
          have HB2 := Lib.hid (below_two' (HB.out.alloc HB.out.size _) hb2)
          clear hb2 c0 c1 c2
          go_wp2_with fail
          go_ret
          exact ⟨ret_int (HM.out (may_stop HX.out HQ.out)).symm, HB2.out⟩
      · have HE : Hid (chk l = if 12 < d then 6 else 0) := Lib.hid (HL.out (by have := HA.out; rwa [List.take_of_length_le (by rw [← HN.out]; omega)] at this))
        by_cases h12 : 12 < d
        all_goals
          go_wp2_with fail
          go_ret
          exact ⟨ret_int (by rw [HE.out]; first | rw [if_pos h12] | rw [if_neg (by omega)]), HB.out⟩

theorem rdep_zero (A : Option Addr) (n c : Nat) (l : List Tm) (hn : n = l.length) (hn62 : n ≤ 70368744177664) (w : World) (h : Tms w (.slice A n c) l) (hw : wholeB l = true) :
    Calls Try.prog 14 #[.slice A n c, .int .i64 0] w (RetI w (depth l)) := by
  have h2 := (wholeB_iff.1 hw).2
  have := rdep_any A n c l hn hn62 0 w h (by rw [endA_some (m := l.length) (by simpa using h2)]; omega)
  rw [List.drop_zero] at this
  unfold depth
  rwa [tell_yes hw]
theorem rtyp_zero (A : Option Addr) (n c : Nat) (l : List Tm) (hn : n = l.length) (hn62 : n ≤ 70368744177664) (w : World) (h : Tms w (.slice A n c) l) (hw : wholeB l = true) :
    Calls Try.prog 13 #[.slice A n c, .int .i64 0] w (RetI w (typ l)) := by
  have h2 := (wholeB_iff.1 hw).2
  have := rtyp_any A n c l hn hn62 0 w h (by rw [endA_some (m := l.length) (by simpa using h2)]; omega)
  rw [List.drop_zero] at this
  unfold typ
  rwa [tell_yes hw]
set_option maxHeartbeats 2000000 in
theorem rcheck_any (A : Option Addr) (n c : Nat) (l : List Tm) (hn : n = l.length) (hn62 : n ≤ 70368744177664) (hs : Small l) (w : World) (h : Tms w (.slice A n c) l) :
    Calls Try.prog 19 #[.slice A n c] w (RetI w (chk l)) := by
  by_cases h40 : 40 < n
  · have HE := Lib.hid (chk_full (l := l) (by omega))
    clear hn h
    go_enter Try.func19, Try.ntmps19
    go_wp2_with fail
    go_ret
    exact ⟨ret_int HE.out.symm, Below.refl _ _⟩
  have HD := Lib.hid (rwhole_any A n c l hn hn62 w h)
  have h40' : ¬ 40 < l.length := by omega
  cases hw : wholeB l with
  | false =>
    rw [hw] at HD
    have HE := Lib.hid (chk_none h40' hw)
    clear hn h hw h40'
    go_enter Try.func19, Try.ntmps19
    go_wp2_with (go_at_call 33; (with_reducible refine HD.out.mono ?_))
    rintro e w1 ⟨rfl, hb1⟩
    go_wp2_with fail
    go_ret
    exact ⟨ret_int HE.out.symm, hb1⟩
  | true =>
    rw [hw] at HD
    have HL := Lib.hid (fun h2 => chk_last h40' hw h2)
    have HM := Lib.hid (fun h2 => chk_may h40' hw h2)
    have HDD := Lib.hid (fun w h => rdep_zero A n c l hn hn62 w h hw)
    have HVAL : Hid (∀ t ∈ l, 0 ≤ ar t.op) := Lib.hid (by have := cnt_valid (wholeB_iff.1 hw).2; rwa [List.take_of_length_le (Nat.le_refl _)] at this)
    obtain ⟨d, hd⟩ : ∃ d, d = depth l := ⟨_, rfl⟩
    rw [← hd] at HL HDD
    have HT := Lib.hid h
    have HN := Lib.hid hn
    have HS := Lib.hid hs
    clear hn h hw hd h40' hs
    go_enter Try.func19, Try.ntmps19
    go_wp2_with (go_at_call 33; (with_reducible refine HD.out.mono ?_))
    rintro e w1 ⟨rfl, hb1⟩
    have HB1 := Lib.hid hb1
    clear hb1
    go_wp2_with fail
    go_loopw [3] (fun i wr => AllMay w l n i wr) (fun i _ => n - (intOf i).toNat)
    case atStart => exact ⟨0, Nat.zero_le _, rfl, rfl, HB1.out⟩
    case round =>
      obtain ⟨k, hk, rfl, hall, hbw⟩ := hrel
      have HA := Lib.hid hall
      have HB := Lib.hid hbw
      clear hall hbw
      by_cases hlt : k < n
      · obtain ⟨t, ht⟩ : ∃ t, l[k]? = some t := get_some (by rw [← HN.out]; exact hlt)
        obtain ⟨b, off, rfl, hb, c0, c1, c2⟩ := (HT.out.keep HB.out).at_ ht
        have HC : Hid (∀ w, Calls Try.prog 34 #[.agg #[.int .i64 t.op, .int .i64 t.n, .string t.s]] w (RetB w (mayB t))) := Lib.hid (fun w => rmay_any t w (HS.out t (List.mem_of_getElem? ht)) (HVAL.out t (List.mem_of_getElem? ht)))
        have HX := Lib.hid ht
        obtain ⟨q, hq⟩ : ∃ q, q = mayB t := ⟨_, rfl⟩
        rw [← hq] at HC
        have HQ := Lib.hid hq.symm
        clear ht hq
        cases q with
        | true =>
          go_wp2_with (go_at_call 34; (with_reducible refine (HC.out _).mono ?_))
          rintro e w2 ⟨rfl, hb2⟩
          have HB2 := Lib.hid (below_two' HB.out hb2)
          clear hb2 c0 c1 c2
          go_wp2_with fail
          go_roundw
          case rel => exact ⟨k + 1, hlt, by simp, may_next HX.out HA.out HQ.out, HB2.out⟩
          case measure => simp [intOf]; omega
        | false =>
          go_wp2_with (go_at_call 34; (with_reducible refine (HC.out _).mono ?_))
          rintro e w2 ⟨rfl, hb2⟩
          have HB2 := Lib.hid (below_two' HB.out hb2)
          clear hb2 c0 c1 c2
          go_wp2_with fail
          go_ret
          exact ⟨ret_int (HM.out (may_stop HX.out HQ.out)).symm, HB2.out⟩
      · have HE : Hid (chk l = if 12 < d then 6 else 0) := Lib.hid (HL.out (by have := HA.out; rwa [List.take_of_length_le (by rw [← HN.out]; omega)] at this))
        have HDW := Lib.hid (HDD.out wr (HT.out.keep HB.out))
        by_cases h12 : 12 < d
        all_goals
          go_wp2_with (go_at_call 14; (with_reducible refine HDW.out.mono ?_))
          rintro e w2 ⟨rfl, hb2⟩
          go_wp2_with fail
          go_ret
          exact ⟨ret_int (by rw [HE.out]; first | rw [if_pos h12] | rw [if_neg (by omega)]), below_two' HB.out hb2⟩
end Go.Proofs.Ytbkgkdfameojfaa
