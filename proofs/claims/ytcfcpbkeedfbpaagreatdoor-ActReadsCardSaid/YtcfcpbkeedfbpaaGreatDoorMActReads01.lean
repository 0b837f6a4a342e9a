/- TermSpec, TermMem, EvalSpec, EvalOps, KitC, EvalMem, joined. -/
import Derived.Test.YtcfcpbkeedfbpaaGreatDoorMActReads00
import Derived.Test.YtcfcpbkeedfbpaaGreatDoorRows
namespace Go.Proofs.YtcfcpbkeedfbpaaGreatDoor
namespace TermSpec
open NamesSpec

structure Tm where
  op : Int
  n : Int
  s : ByteArray

/-- How many expressions are below a term that does that. -/
def ar (o : Int) : Int :=
  if o = 1 ∨ o = 2 ∨ o = 9 ∨ o = 10 ∨ o = 11 then 0 else if o = 3 ∨ o = 12 then 1 else if o = 4 ∨ o = 5 ∨ o = 6 ∨ o = 7 ∨ o = 8 ∨ o = 13 ∨ o = 14 ∨ o = 15 ∨ o = 16 ∨ o = 17 ∨ o = 18 ∨ o = 19 ∨ o = 20 then 2 else -1
def arN (o : Int) : Nat := (ar o).toNat
theorem ar_bd (o : Int) : -1 ≤ ar o ∧ ar o ≤ 2 := by unfold ar; (repeat' split) <;> omega
theorem arN_of {o : Int} (h : 0 ≤ ar o) : (arN o : Int) = ar o := by unfold arN; omega
theorem ar_out {o : Int} (h : o < 1 ∨ 20 < o) : ar o = -1 := by unfold ar; rw [if_neg (by omega), if_neg (by omega), if_neg (by omega)]
theorem ar_in {o : Int} : 0 ≤ ar o ↔ 1 ≤ o ∧ o ≤ 20 := by unfold ar; (repeat' split) <;> omega

/-- The place behind k expressions that begin here; the place here is p. -/
def fin : Nat → List Tm → Nat → Int
  | 0, _, p => p
  | _ + 1, [], _ => -1
  | k + 1, t :: r, p => if ar t.op < 0 then -1 else fin (k + arN t.op) r (p + 1)
/-- How many terms k expressions take. -/
def cnt : Nat → List Tm → Option Nat
  | 0, _ => some 0
  | _ + 1, [] => none
  | k + 1, t :: r => if ar t.op < 0 then none else (cnt (k + arN t.op) r).map (· + 1)

theorem cnt_zero (l : List Tm) : cnt 0 l = some 0 := by cases l <;> rfl
theorem fin_zero (l : List Tm) (p : Nat) : fin 0 l p = p := by cases l <;> rfl
theorem cnt_cons (k : Nat) (t : Tm) (r : List Tm) : cnt (k + 1) (t :: r) = if ar t.op < 0 then none else (cnt (k + arN t.op) r).map (· + 1) := rfl
theorem fin_cons (k : Nat) (t : Tm) (r : List Tm) (p : Nat) : fin (k + 1) (t :: r) p = if ar t.op < 0 then -1 else fin (k + arN t.op) r (p + 1) := rfl
theorem cnt_step {k m : Nat} {t : Tm} {r : List Tm} (h : cnt (k + 1) (t :: r) = some m) : 0 ≤ ar t.op ∧ ∃ m', m = m' + 1 ∧ cnt (k + arN t.op) r = some m' := by
  rw [cnt_cons] at h
  split at h
  · cases h
  · cases hc : cnt (k + arN t.op) r with
    | none => rw [hc] at h; cases h
    | some m' => rw [hc] at h; cases h; exact ⟨by omega, m', rfl, rfl⟩
theorem cnt_mk {k m : Nat} {t : Tm} {r : List Tm} (h0 : 0 ≤ ar t.op) (h : cnt (k + arN t.op) r = some m) : cnt (k + 1) (t :: r) = some (m + 1) := by
  rw [cnt_cons, if_neg (by omega), h]; rfl
theorem fin_some : ∀ {l : List Tm} {k m p : Nat}, cnt k l = some m → fin k l p = (p + m : Nat)
  | l, 0, m, p, h => by rw [cnt_zero] at h; cases h; rw [fin_zero]; rfl
  | [], k + 1, m, p, h => by cases h
  | t :: r, k + 1, m, p, h => by
    obtain ⟨h0, m', rfl, h'⟩ := cnt_step h
    rw [fin_cons, if_neg (by omega), fin_some h']
    omega
theorem fin_none : ∀ {l : List Tm} {k p : Nat}, cnt k l = none → fin k l p = -1
  | l, 0, p, h => by rw [cnt_zero] at h; cases h
  | [], k + 1, p, h => rfl
  | t :: r, k + 1, p, h => by
    rw [fin_cons]
    split
    · rfl
    · rename_i h0
      refine fin_none ?_
      rw [cnt_cons, if_neg h0] at h
      simpa using h
theorem cnt_le : ∀ {l : List Tm} {k m : Nat}, cnt k l = some m → m ≤ l.length ∧ k ≤ m
  | l, 0, m, h => by rw [cnt_zero] at h; cases h; exact ⟨Nat.zero_le _, Nat.le_refl _⟩
  | [], k + 1, m, h => by cases h
  | t :: r, k + 1, m, h => by
    obtain ⟨h0, m', rfl, h'⟩ := cnt_step h
    have := cnt_le h'
    simp only [List.length_cons]
    omega
theorem cnt_add : ∀ (l : List Tm) (a b : Nat), cnt (a + b) l = (cnt a l).bind fun m => (cnt b (l.drop m)).map (m + ·)
  | l, 0, b => by rw [cnt_zero, Nat.zero_add]; simp
  | [], a + 1, b => by rw [show a + 1 + b = (a + b) + 1 by omega]; rfl
  | t :: r, a + 1, b => by
    rw [show a + 1 + b = (a + b) + 1 by omega, cnt_cons, cnt_cons]
    split
    · rfl
    · rw [show a + b + arN t.op = a + arN t.op + b by omega, cnt_add r (a + arN t.op) b]
      cases cnt (a + arN t.op) r with
      | none => rfl
      | some m =>
        simp only [Option.map_some, Option.bind_some, List.drop_succ_cons, Option.map_map]
        congr 1
        funext x
        simp only [Function.comp]
        omega
theorem cnt_split {l : List Tm} {a b m : Nat} (h : cnt (a + b) l = some m) : ∃ x y, cnt a l = some x ∧ cnt b (l.drop x) = some y ∧ m = x + y := by
  rw [cnt_add] at h
  cases ha : cnt a l with
  | none => rw [ha] at h; cases h
  | some x =>
    rw [ha] at h
    simp only [Option.bind_some] at h
    cases hb : cnt b (l.drop x) with
    | none => rw [hb] at h; cases h
    | some y => rw [hb] at h; cases h; exact ⟨x, y, rfl, hb, rfl⟩
theorem cnt_join {l : List Tm} {a b x y : Nat} (h : cnt a l = some x) (h' : cnt b (l.drop x) = some y) : cnt (a + b) l = some (x + y) := by
  rw [cnt_add, h, Option.bind_some, h']; rfl
theorem cnt_stop {l : List Tm} {a b x : Nat} (h : cnt a l = some x) (h' : cnt b (l.drop x) = none) : cnt (a + b) l = none := by
  rw [cnt_add, h, Option.bind_some, h']; rfl
theorem cnt_none {l : List Tm} {a : Nat} (h : cnt a l = none) (b : Nat) : cnt (a + b) l = none := by rw [cnt_add, h]; rfl
theorem cnt_take : ∀ {l : List Tm} {k m : Nat}, cnt k l = some m → cnt k (l.take m) = some m
  | l, 0, m, h => by rw [cnt_zero] at h; cases h; rw [cnt_zero]
  | [], k + 1, m, h => by cases h
  | t :: r, k + 1, m, h => by
    obtain ⟨h0, m', rfl, h'⟩ := cnt_step h
    rw [List.take_succ_cons]
    exact cnt_mk h0 (cnt_take h')
theorem cnt_valid : ∀ {l : List Tm} {k m : Nat}, cnt k l = some m → ∀ t ∈ l.take m, 0 ≤ ar t.op
  | l, 0, m, h => by rw [cnt_zero] at h; cases h; simp
  | [], k + 1, m, h => by cases h
  | t :: r, k + 1, m, h => by
    obtain ⟨h0, m', rfl, h'⟩ := cnt_step h
    intro u hu
    rw [List.take_succ_cons, List.mem_cons] at hu
    rcases hu with rfl | hu
    · exact h0
    · exact cnt_valid h' u hu

/-- What is told of each of the expressions that stand one behind the other, by what is told of those below. -/
def stack {α : Type} (f : Int → List α → α) : List Tm → List α
  | [] => []
  | t :: r => f t.op ((stack f r).take (arN t.op)) :: (stack f r).drop (arN t.op)
section
variable {α : Type} {f : Int → List α → α}
theorem stack_cons (t : Tm) (r : List Tm) : stack f (t :: r) = f t.op ((stack f r).take (arN t.op)) :: (stack f r).drop (arN t.op) := rfl
theorem stack_drop : ∀ {l : List Tm} {k m : Nat}, cnt k l = some m → stack f (l.drop m) = (stack f l).drop k
  | l, 0, m, h => by rw [cnt_zero] at h; cases h; rfl
  | [], k + 1, m, h => by cases h
  | t :: r, k + 1, m, h => by
    obtain ⟨h0, m', rfl, h'⟩ := cnt_step h
    rw [List.drop_succ_cons, stack_drop h', stack_cons, List.drop_succ_cons, List.drop_drop, Nat.add_comm]
theorem stack_len : ∀ {l : List Tm} {k m : Nat}, cnt k l = some m → k ≤ (stack f l).length
  | l, 0, m, h => Nat.zero_le _
  | [], k + 1, m, h => by cases h
  | t :: r, k + 1, m, h => by
    obtain ⟨h0, m', rfl, h'⟩ := cnt_step h
    have := stack_len h'
    rw [stack_cons, List.length_cons, List.length_drop]
    omega
theorem stack_take : ∀ {l : List Tm} {k m : Nat}, cnt k l = some m → stack f (l.take m) = (stack f l).take k
  | l, 0, m, h => by rw [cnt_zero] at h; cases h; rfl
  | [], k + 1, m, h => by cases h
  | t :: r, k + 1, m, h => by
    obtain ⟨h0, m', rfl, h'⟩ := cnt_step h
    rw [List.take_succ_cons, stack_cons, stack_take h', stack_cons, List.take_succ_cons, List.take_take, List.drop_take, show min (arN t.op) (k + arN t.op) = arN t.op by omega, Nat.add_sub_cancel]
end

/-- What the expression that begins here comes to. -/
def come (f : Int → List Int → Int) (l : List Tm) : Int := (stack f l).headD 0
section
variable {f : Int → List Int → Int}
theorem come_cons (t : Tm) (r : List Tm) : come f (t :: r) = f t.op ((stack f r).take (arN t.op)) := rfl
/-- The k-th of those that stand one behind the other. -/
theorem stack_get {l : List Tm} {k m : Nat} (h : cnt (k + 1) l = some m) : ∃ x, cnt k l = some x ∧ (stack f l)[k]? = some (come f (l.drop x)) := by
  obtain ⟨x, y, hx, hy, _⟩ := cnt_split h
  refine ⟨x, hx, ?_⟩
  have h1 := stack_len (f := f) h
  rw [come, stack_drop hx]
  have h2 : k < (stack f l).length := by omega
  rw [List.getElem?_eq_getElem h2, List.drop_eq_getElem_cons h2]
  rfl
theorem stack_take_next {l : List Tm} {k m x : Nat} (h : cnt (k + 1) l = some m) (hx : cnt k l = some x) : (stack f l).take (k + 1) = (stack f l).take k ++ [come f (l.drop x)] := by
  obtain ⟨x', hx', hg⟩ := stack_get (f := f) h
  rw [hx] at hx'
  cases hx'
  exact take_next hg
theorem come_take {l : List Tm} {m : Nat} (h : cnt 1 l = some m) : come f (l.take m) = come f l := by
  rw [come, come, stack_take h]
  cases stack f l <;> rfl
end

/-- Where those below the term at a place begin. -/
def belows (l : List Tm) (at_ k : Nat) : List Int := (List.range k).map fun i => ((at_ + 1 + (cnt i (l.drop (at_ + 1))).getD 0 : Nat) : Int)
theorem belows_length (l : List Tm) (a k : Nat) : (belows l a k).length = k := by simp [belows]
theorem belows_get {l : List Tm} {a k i : Nat} (h : i < k) : (belows l a k)[i]? = some ((a + 1 + (cnt i (l.drop (a + 1))).getD 0 : Nat) : Int) := by
  simp [belows, h]
theorem belows_zero (l : List Tm) (a : Nat) : belows l a 0 = [] := rfl
theorem belows_next (l : List Tm) (a k : Nat) : belows l a (k + 1) = belows l a k ++ [((a + 1 + (cnt k (l.drop (a + 1))).getD 0 : Nat) : Int)] := by
  unfold belows
  rw [List.range_succ, List.map_append]
  rfl

/-- The place behind the expression at a place. -/
def endA (l : List Tm) (a : Int) : Int := if a < 0 then -1 else fin 1 (l.drop a.toNat) a.toNat
theorem endA_neg {l : List Tm} {a : Int} (h : a < 0) : endA l a = -1 := if_pos h
theorem endA_nat (l : List Tm) (a : Nat) : endA l a = fin 1 (l.drop a) a := by unfold endA; rw [if_neg (by omega)]; rfl
theorem endA_out {l : List Tm} {a : Int} (h : (l.length : Int) ≤ a) : endA l a = -1 := by
  unfold endA
  rw [if_neg (by omega), List.drop_eq_nil_of_le (by omega)]
  rfl
theorem drop_get {l : List Tm} {a : Nat} {t : Tm} (h : l[a]? = some t) : l.drop a = t :: l.drop (a + 1) := by
  obtain ⟨ha, rfl⟩ := List.getElem?_eq_some_iff.1 h
  exact List.drop_eq_getElem_cons ha
theorem endA_bad {l : List Tm} {a : Nat} {t : Tm} (h : l[a]? = some t) (h0 : ar t.op < 0) : endA l a = -1 := by
  rw [endA_nat, drop_get h, fin_cons, if_pos h0]
theorem endA_at {l : List Tm} {a : Nat} {t : Tm} (h : l[a]? = some t) (h0 : 0 ≤ ar t.op) : endA l a = fin (arN t.op) (l.drop (a + 1)) (a + 1) := by
  rw [endA_nat, drop_get h, fin_cons, if_neg (by omega), Nat.zero_add]
theorem endA_some {l : List Tm} {a m : Nat} (h : cnt 1 (l.drop a) = some m) : endA l a = (a + m : Nat) := by rw [endA_nat, fin_some h]
theorem endA_none {l : List Tm} {a : Nat} (h : cnt 1 (l.drop a) = none) : endA l a = -1 := by rw [endA_nat, fin_none h]
theorem endA_bd (l : List Tm) (a : Int) : -1 ≤ endA l a ∧ endA l a ≤ l.length := by
  by_cases h : a < 0
  · rw [endA_neg h]; omega
  · obtain ⟨k, rfl⟩ := Int.eq_ofNat_of_zero_le (Int.not_lt.1 h)
    cases hc : cnt 1 (l.drop k) with
    | none => rw [show ((k : Nat) : Int) = (k : Int) from rfl, endA_none hc]; omega
    | some m =>
      rw [endA_some hc]
      have := cnt_le hc
      rw [List.length_drop] at this
      omega
theorem endA_nn {l : List Tm} {a : Int} (h : 0 ≤ endA l a) : ∃ k m : Nat, a = k ∧ cnt 1 (l.drop k) = some m ∧ endA l a = (k + m : Nat) ∧ 0 < m ∧ k + m ≤ l.length := by
  by_cases h0 : a < 0
  · rw [endA_neg h0] at h; omega
  · obtain ⟨k, rfl⟩ := Int.eq_ofNat_of_zero_le (Int.not_lt.1 h0)
    cases hc : cnt 1 (l.drop k) with
    | none => rw [show ((k : Nat) : Int) = (k : Int) from rfl, endA_none hc] at h; omega
    | some m =>
      have := cnt_le hc
      rw [List.length_drop] at this
      exact ⟨k, m, rfl, hc, endA_some hc, by omega, by omega⟩
theorem first_of {l : List Tm} {a m : Nat} (h : cnt 1 (l.drop a) = some m) : ∃ t m', l[a]? = some t ∧ 0 ≤ ar t.op ∧ m = m' + 1 ∧ cnt (arN t.op) (l.drop (a + 1)) = some m' := by
  cases hd : l.drop a with
  | nil => rw [hd] at h; cases h
  | cons t r =>
    have ha : a < l.length := by
      rcases Nat.lt_or_ge a l.length with h | h
      · exact h
      · rw [List.drop_eq_nil_of_le h] at hd; cases hd
    rw [List.drop_eq_getElem_cons ha] at hd
    injection hd with h1 h2
    subst h1; subst h2
    rw [List.drop_eq_getElem_cons ha] at h
    obtain ⟨h0, m', rfl, h'⟩ := cnt_step h
    exact ⟨_, m', List.getElem?_eq_getElem ha, h0, rfl, by rwa [Nat.zero_add] at h'⟩

/-- The deepest of some; a term's depth. -/
def deepest (bs : List Int) : Int := bs.foldl (fun a b => if a < b then b else a) 0
theorem deepest_snoc (bs : List Int) (d : Int) : deepest (bs ++ [d]) = if deepest bs < d then d else deepest bs := by unfold deepest; rw [List.foldl_append]; rfl
def depF (_ : Int) (bs : List Int) : Int := deepest bs + 1
theorem deepest_bd {B : Int} (hB : 0 ≤ B) (bs : List Int) (h : ∀ b ∈ bs, b ≤ B) : 0 ≤ deepest bs ∧ deepest bs ≤ B := by
  unfold deepest
  have key : ∀ (bs : List Int) (a : Int), 0 ≤ a → a ≤ B → (∀ b ∈ bs, b ≤ B) → 0 ≤ bs.foldl (fun a b => if a < b then b else a) a ∧ bs.foldl (fun a b => if a < b then b else a) a ≤ B := by
    intro bs
    induction bs with
    | nil => intro a h0 h1 _; exact ⟨h0, h1⟩
    | cons b t ih =>
      intro a h0 h1 h2
      have hb := h2 b (by simp)
      rw [List.foldl_cons]
      refine ih _ ?_ ?_ (fun c hc => h2 c (by simp [hc]))
      · split <;> omega
      · split <;> omega
  exact key bs 0 (Int.le_refl 0) hB h
theorem le_deepest {bs : List Int} {b : Int} (h : b ∈ bs) : b ≤ deepest bs := by
  unfold deepest
  have key : ∀ (bs : List Int) (a : Int), a ≤ bs.foldl (fun a b => if a < b then b else a) a ∧ ∀ b ∈ bs, b ≤ bs.foldl (fun a b => if a < b then b else a) a := by
    intro bs
    induction bs with
    | nil => intro a; exact ⟨Int.le_refl _, by simp⟩
    | cons c t ih =>
      intro a
      rw [List.foldl_cons]
      have := ih (if a < c then c else a)
      refine ⟨Int.le_trans (by split <;> omega) this.1, fun b hb => ?_⟩
      rcases List.mem_cons.1 hb with rfl | hb
      · exact Int.le_trans (by split <;> omega) this.1
      · exact this.2 b hb
  exact (key bs 0).2 b h
theorem stack_depth : ∀ (l : List Tm), ∀ d ∈ stack depF l, 1 ≤ d ∧ d ≤ l.length
  | [] => by simp [stack]
  | t :: r => by
    intro d hd
    have ih := stack_depth r
    rw [stack_cons, List.mem_cons] at hd
    rw [List.length_cons]
    rcases hd with rfl | hd
    · have := deepest_bd (B := r.length) (by omega) ((stack depF r).take (arN t.op)) (fun b hb => (ih b (List.mem_of_mem_take hb)).2)
      have e : depF t.op ((stack depF r).take (arN t.op)) = deepest ((stack depF r).take (arN t.op)) + 1 := rfl
      omega
    · have := ih d (List.mem_of_mem_drop hd)
      omega
theorem come_depth {l : List Tm} {m : Nat} (h : cnt 1 l = some m) : 1 ≤ come depF l ∧ come depF l ≤ l.length := by
  have h1 := stack_len (f := depF) h
  cases hs : stack depF l with
  | nil => rw [hs] at h1; simp at h1
  | cons d t =>
    have := stack_depth l d (by rw [hs]; simp)
    rw [come, hs]
    exact this

/-- The type of a term, and the one of which those below it must be. -/
def ownT (o : Int) : Int := if o = 1 ∨ o = 2 ∨ o = 3 ∨ o = 4 ∨ o = 5 ∨ o = 6 ∨ o = 7 ∨ o = 8 then 1 else 2
def askT (o : Int) : Int := if o = 1 ∨ o = 2 ∨ o = 3 ∨ o = 4 ∨ o = 5 ∨ o = 6 ∨ o = 7 ∨ o = 8 ∨ o = 13 ∨ o = 14 ∨ o = 15 ∨ o = 16 ∨ o = 17 ∨ o = 18 then 1 else 2
def typF (o : Int) (bs : List Int) : Int := if bs.all (fun b => decide (b = askT o)) then ownT o else 0

/-- Just one expression, of no more terms than may be. -/
def wholeB (l : List Tm) : Bool := decide (l.length ≤ 40) && decide (cnt 1 l = some l.length)
theorem wholeB_iff {l : List Tm} : wholeB l = true ↔ l.length ≤ 40 ∧ cnt 1 l = some l.length := by simp [wholeB]
def tell (f : Int → List Int → Int) (l : List Tm) : Int := if wholeB l then come f l else 0
def depth (l : List Tm) : Int := tell depF l
def typ (l : List Tm) : Int := tell typF l
theorem depth_zero {l : List Tm} : (depth l = 0) ↔ wholeB l = false := by
  unfold depth tell
  cases h : wholeB l with
  | false => simp
  | true =>
    have := come_depth (wholeB_iff.1 h).2
    simp
    omega

/-- A term of an expression may be. -/
def mayB (t : Tm) : Bool :=
  (if t.op = 1 then decide (0 ≤ t.n) && decide (t.n ≤ 1000000) else decide (t.n = 0)) && (if t.op = 2 ∨ t.op = 11 then isName t.s.data.toList else decide (t.s.size = 0))
/-- Why terms are no expression. -/
def chk (l : List Tm) : Int :=
  if 40 < l.length then 8 else if wholeB l = false then 1 else if l.all mayB = false then 1 else if 12 < depth l then 6 else 0
theorem chk_ok {l : List Tm} (h : chk l = 0) : wholeB l = true ∧ l.all mayB = true ∧ depth l ≤ 12 := by
  unfold chk at h
  split at h
  · omega
  split at h
  · omega
  rename_i h1
  split at h
  · omega
  rename_i h2
  split at h
  · omega
  rename_i h3
  exact ⟨by simpa using h1, by simpa using h2, by omega⟩
theorem chk_mk {l : List Tm} (h1 : wholeB l = true) (h2 : l.all mayB = true) (h3 : depth l ≤ 12) : chk l = 0 := by
  have := (wholeB_iff.1 h1).1
  unfold chk
  rw [if_neg (by omega), if_neg (by simp [h1]), if_neg (by simp [h2]), if_neg (by omega)]

/-- The names of all terms that do that. -/
def namesOf (l : List Tm) (o : Int) : List ByteArray := (l.filter fun t => decide (t.op = o)).map (·.s)
theorem namesOf_yes {l : List Tm} {o : Int} {k : Nat} {t : Tm} (h : l[k]? = some t) (he : t.op = o) : namesOf (l.take (k + 1)) o = namesOf (l.take k) o ++ [t.s] := by
  unfold namesOf; rw [take_next h, List.filter_append, List.map_append]; simp [he]
theorem namesOf_no {l : List Tm} {o : Int} {k : Nat} {t : Tm} (h : l[k]? = some t) (he : t.op ≠ o) : namesOf (l.take (k + 1)) o = namesOf (l.take k) o := by
  unfold namesOf; rw [take_next h, List.filter_append, List.map_append]; simp [he]
theorem namesOf_length (l : List Tm) (o : Int) : (namesOf l o).length ≤ l.length := by
  unfold namesOf; rw [List.length_map]; exact List.length_filter_le _ _

/-- A part of a whole expression: it is one by itself, less deep, and what may be. -/
theorem part_of {l : List Tm} {t : Tm} {i x y : Nat} (hl : chk l = 0) (ht : l[0]? = some t) (hi : i < arN t.op) (hx : cnt i (l.drop 1) = some x) (hy : cnt 1 (l.drop (1 + x)) = some y) :
    chk ((l.drop (1 + x)).take y) = 0 ∧ depth ((l.drop (1 + x)).take y) < depth l := by
  obtain ⟨hw, hm, hd⟩ := chk_ok hl
  obtain ⟨h40, hc⟩ := wholeB_iff.1 hw
  have hle := cnt_le hy
  rw [List.length_drop] at hle
  have hlen : ((l.drop (1 + x)).take y).length = y := by rw [List.length_take, List.length_drop]; omega
  have hw' : wholeB ((l.drop (1 + x)).take y) = true := wholeB_iff.2 ⟨by omega, by rw [hlen]; exact cnt_take hy⟩
  have hdep : depth ((l.drop (1 + x)).take y) < depth l := by
    unfold depth tell
    rw [hw', hw, if_pos rfl, if_pos rfl, come_take hy]
    have hcons : l = t :: l.drop 1 := by have := drop_get ht; simpa using this
    have hc' := hc
    rw [hcons] at hc'
    obtain ⟨h0, m', _, hm'⟩ := cnt_step hc'
    rw [Nat.zero_add] at hm'
    have e : arN t.op = (i + 1) + (arN t.op - (i + 1)) := by omega
    rw [e] at hm'
    obtain ⟨z, _, hz, _, _⟩ := cnt_split hm'
    obtain ⟨x', hx', hg⟩ := stack_get (f := depF) hz
    rw [hx] at hx'
    cases hx'
    rw [List.drop_drop] at hg
    have hmem : come depF (l.drop (1 + x)) ∈ (stack depF (l.drop 1)).take (arN t.op) := by
      rw [List.mem_iff_getElem?]
      exact ⟨i, by rw [List.getElem?_take_of_lt hi, hg]⟩
    have := le_deepest hmem
    have e2 : come depF l = deepest ((stack depF (l.drop 1)).take (arN t.op)) + 1 := by rw [hcons, come_cons]; rfl
    omega
  refine ⟨chk_mk hw' ?_ (by omega), hdep⟩
  rw [List.all_eq_true] at hm ⊢
  intro u hu
  exact hm u (List.mem_of_mem_drop (List.mem_of_mem_take hu))
end TermSpec
end Go.Proofs.YtcfcpbkeedfbpaaGreatDoor

namespace Go.Proofs.YtcfcpbkeedfbpaaGreatDoor
open Go.RowKit TermSpec
set_option maxRecDepth 100000

def tmV (t : Tm) : List Value := [.int .i64 t.op, .int .i64 t.n, .string t.s]
def tmsV (l : List Tm) : List Value := l.flatMap tmV
theorem tmV_length (t : Tm) : (tmV t).length = 3 := rfl
theorem tmsV_length (l : List Tm) : (tmsV l).length = l.length * 3 := flat_length tmV_length l
theorem tmV_one (t : Tm) : ∀ u ∈ tmV t, u.oneCell' = true := by simp [tmV, Value.oneCell']
theorem tmsV_one (l : List Tm) : ∀ u ∈ tmsV l, u.oneCell' = true := by
  intro u hu
  obtain ⟨t, _, h⟩ := List.mem_flatMap.1 hu
  exact tmV_one t u h
theorem tmsV_get {l : List Tm} {i : Nat} {t : Tm} (h : l[i]? = some t) : (tmsV l)[i * 3]? = some (.int .i64 t.op) ∧ (tmsV l)[i * 3 + 1]? = some (.int .i64 t.n) ∧ (tmsV l)[i * 3 + 2]? = some (.string t.s) :=
  ⟨flat_get (j := 0) tmV_length h (by omega), flat_get (j := 1) tmV_length h (by omega), flat_get (j := 2) tmV_length h (by omega)⟩

/-- The value is a slice of these terms. -/
def Tms (w : World) (v : Value) (l : List Tm) : Prop := ∃ n, n = l.length ∧ Rdk 3 w v n (tmsV l)
theorem Tms.keep {w w' : World} {v : Value} {l : List Tm} (h : Tms w v l) (hb : Below w.heap.size w w') : Tms w' v l := by
  obtain ⟨n, hn, h⟩ := h
  exact ⟨n, hn, h.keep hb⟩
theorem Tms.alloc {w : World} {v : Value} {l : List Tm} (h : Tms w v l) (o : Obj) : Tms (w.alloc o) v l := h.keep ((Below.refl _ _).alloc (Nat.le_refl _) _)
theorem Tms.shape {w : World} {v : Value} {l : List Tm} (h : Tms w v l) : ∃ A n c, v = .slice A n c ∧ n = l.length ∧ n ≤ c := by
  obtain ⟨n, hn, A, c, hv, hc, _⟩ := h
  exact ⟨A, n, c, hv, hn, hc⟩
theorem Tms.cap {w : World} {A : Option Addr} {n c : Nat} {l : List Tm} (h : Tms w (.slice A n c) l) : n ≤ c := by
  obtain ⟨A', n', c', heq, _, hc⟩ := h.shape
  cases heq
  exact hc
/-- The cells of the i-th term. -/
theorem Tms.at_ {w : World} {A : Option Addr} {n c : Nat} {l : List Tm} {i : Nat} {t : Tm} (h : Tms w (.slice A n c) l) (hi : l[i]? = some t) :
    ∃ b off, A = some ⟨b, off, none⟩ ∧ b < w.heap.size ∧ w.cell? ⟨b, off + i * 3, none⟩ = some (.int .i64 t.op) ∧ w.cell? ⟨b, off + i * 3 + 1, none⟩ = some (.int .i64 t.n) ∧ w.cell? ⟨b, off + i * 3 + 2, none⟩ = some (.string t.s) := by
  obtain ⟨m, hm, A', c', heq, hc, hl, hA⟩ := h
  cases heq
  have := get_lt hi
  obtain ⟨b, off, rfl, hb, hcell⟩ := hA (by omega)
  obtain ⟨g0, g1, g2⟩ := tmsV_get hi
  exact ⟨b, off, rfl, hb, hcell _ _ g0, by rw [Nat.add_assoc]; exact hcell _ _ g1, by rw [Nat.add_assoc]; exact hcell _ _ g2⟩
theorem tms_drop {l : List Tm} {k : Nat} : tmsV (l.drop k) = (tmsV l).drop (k * 3) := by
  induction l generalizing k with
  | nil => simp [tmsV]
  | cons t r ih =>
    cases k with
    | zero => simp
    | succ k =>
      rw [List.drop_succ_cons, ih, show tmsV (t :: r) = tmV t ++ tmsV r from List.flatMap_cons .., show (k + 1) * 3 = 3 + k * 3 by omega, ← List.drop_drop]
      rfl
theorem tms_take {l : List Tm} {k : Nat} : tmsV (l.take k) = (tmsV l).take (k * 3) := by
  induction l generalizing k with
  | nil => simp [tmsV]
  | cons t r ih =>
    cases k with
    | zero => simp [tmsV]
    | succ k =>
      rw [List.take_succ_cons, show tmsV (t :: r.take k) = tmV t ++ tmsV (r.take k) from List.flatMap_cons .., ih, show tmsV (t :: r) = tmV t ++ tmsV r from List.flatMap_cons .., show (k + 1) * 3 = 3 + k * 3 by omega, List.take_append, tmV_length]
      rw [show (tmV t).take (3 + k * 3) = tmV t from List.take_of_length_le (by rw [tmV_length]; omega), Nat.add_sub_cancel_left]

/-- A literal slice just made; its block's number as the walk spells it. -/
theorem lit_here {w : World} {cs : Array Value} {xs : List Value} {e : TypeId} {n k : Nat} (hk : k = w.heap.size) (hn : n = xs.length) (hx : cs.toList = xs) : Rd (w.alloc (.cells cs e)) (.slice (some ⟨k, 0, none⟩) n n) xs := by
  subst hk; subst hx
  exact Rd.lit (by simpa using hn)
theorem tms_lit {w : World} {cs : Array Value} {l : List Tm} {e : TypeId} {n k : Nat} (hk : k = w.heap.size) (hn : n = l.length) (hx : cs.toList = tmsV l) : Tms (w.alloc (.cells cs e)) (.slice (some ⟨k, 0, none⟩) n n) l := by
  subst hk
  refine ⟨n, hn, _, n, rfl, Nat.le_refl _, by rw [tmsV_length, hn], fun _ => ⟨w.heap.size, 0, rfl, by simp, fun j u hj => ?_⟩⟩
  rw [← hx, Array.getElem?_toList] at hj
  rw [World.cell?_alloc_at _ _ _ _ rfl]
  simpa using hj
/-- A part of a slice of terms. -/
theorem Tms.part {w : World} {b off n c c' i j : Nat} {l : List Tm} (h : Tms w (.slice (some ⟨b, off, none⟩) n c) l) (hij : i ≤ j) (hj : j ≤ n) (hc : j - i ≤ c') : Tms w (.slice (some ⟨b, off + i * 3, none⟩) (j - i) c') ((l.drop i).take (j - i)) := by
  obtain ⟨m, hm, A', c2, heq, hcm, hl, hA⟩ := h
  cases heq
  refine ⟨j - i, by rw [List.length_take, List.length_drop]; omega, _, c', rfl, hc, by rw [tmsV_length, List.length_take, List.length_drop]; rw [show min (j - i) (l.length - i) = j - i by omega], fun h0 => ?_⟩
  obtain ⟨b', off', heq, hb, hcell⟩ := hA (by omega)
  cases heq
  refine ⟨b, off + i * 3, rfl, hb, fun q u hq => ?_⟩
  rw [tms_take, tms_drop] at hq
  have hq1 : q < (j - i) * 3 := by have := (List.getElem?_eq_some_iff.1 hq).1; rw [List.length_take] at this; omega
  rw [List.getElem?_take_of_lt hq1, List.getElem?_drop] at hq
  rw [Nat.add_assoc]
  exact hcell _ _ hq

theorem elem_tms : Tryz.prog.elem 64 = 68 := by kernel_rfl
theorem slice_mid (b off n c p e : Nat) (hp : p < c) (he : p ≤ e) (hc : e ≤ c) :
    ∀ W, (Instr.slice 64 (.slice (some ⟨b, off, none⟩) n c) (some (.int .i64 (p : Int))) (some (.int .i64 (e : Int))) none).run Tryz.prog W = .ok (.slice (some ⟨b, off + p * 3, none⟩) (e - p) (c - p)) W := by
  intro W
  rw [run_slice_lh (P := Tryz.prog) W 64 _ n c (by rw [elem_tms]; exact Tryz.underlying64) .i64 .i64 (p : Int) (e : Int) (by omega) (by omega) (by omega), elem_tms, Tryz.sizeOf68]
  simp [sliced, Result.andThen, addr_add]
  try omega
/-- Names no longer than memory holds. -/
def Small (l : List Tm) : Prop := ∀ t ∈ l, t.s.size ≤ 9223372036854775807
def RetI (W : World) (n : Int) (e : Ending) (w' : World) : Prop := e = .returned (.int .i64 n) ∧ Below W.heap.size W w'
def RetB (W : World) (b : Bool) (e : Ending) (w' : World) : Prop := e = .returned (.bool b) ∧ Below W.heap.size W w'
def SameI (W : World) (n : Int) (e : Ending) (w' : World) : Prop := e = .returned (.int .i64 n) ∧ W = w'
def SameB (W : World) (b : Bool) (e : Ending) (w' : World) : Prop := e = .returned (.bool b) ∧ W = w'
end Go.Proofs.YtcfcpbkeedfbpaaGreatDoor

namespace Go.Proofs.YtcfcpbkeedfbpaaGreatDoor
namespace EvalSpec
open TermSpec NamesSpec ValSpec Go.Lib

structure Vr where
  s : ByteArray
  lo : Int
  hi : Int
  ini : Int
structure Ev where
  vars : List Vr
  v0 : Int
  v1 : Int
  v2 : Int
  v3 : Int
  ins : List ByteArray

def vnames (e : Ev) : List ByteArray := e.vars.map (·.s)
def valAt (e : Ev) (p : Int) : Int := if p = 0 then e.v0 else if p = 1 then e.v1 else if p = 2 then e.v2 else e.v3
def tru (b : Bool) : Int := if b then 1 else 0
theorem tru_bd (b : Bool) : 0 ≤ tru b ∧ tru b ≤ 1 := by cases b <;> decide
/-- Does the comparison hold? -/
def cmp (o a b : Int) : Bool := if o = 13 then a == b else if o = 14 then a != b else if o = 15 then decide (a < b) else if o = 16 then decide (a ≤ b) else if o = 17 then decide (b < a) else decide (b ≤ a)
/-- What a term comes to that has two below it; one; none. -/
def ev2 (o x y : Int) : Int :=
  if o = 4 then near (x + y) else if o = 5 then near (x - y) else if o = 6 then near (x * y) else if o = 7 then (if x < y then x else y) else if o = 8 then (if y < x then x else y)
  else if o = 19 then tru (x == 1 && y == 1) else if o = 20 then tru (x == 1 || y == 1) else tru (cmp o x y)
def ev1 (o x : Int) : Int := if o = 3 then 0 - x else tru (x == 0)
def ev0 (e : Ev) (t : Tm) : Int := if t.op = 1 then t.n else if t.op = 2 then near (valAt e (idxOfS (vnames e) t.s)) else if t.op = 11 then tru (decide (0 ≤ idxOfS e.ins t.s)) else tru (t.op == 9)
def evT (e : Ev) (t : Tm) (x y : Int) : Int := if ar t.op = 0 then ev0 e t else if ar t.op = 1 then ev1 t.op x else ev2 t.op x y
def evF (e : Ev) (t : Tm) (bs : List Int) : Int := evT e t (bs[0]?.getD 0) (bs[1]?.getD 0)

/-- What each of the expressions that stand one behind the other comes to. -/
def stackE (e : Ev) : List Tm → List Int
  | [] => []
  | t :: r => evF e t ((stackE e r).take (arN t.op)) :: (stackE e r).drop (arN t.op)
section
variable {e : Ev}
theorem stackE_cons (t : Tm) (r : List Tm) : stackE e (t :: r) = evF e t ((stackE e r).take (arN t.op)) :: (stackE e r).drop (arN t.op) := rfl
theorem stackE_drop : ∀ {l : List Tm} {k m : Nat}, cnt k l = some m → stackE e (l.drop m) = (stackE e l).drop k
  | l, 0, m, h => by rw [cnt_zero] at h; cases h; rfl
  | [], k + 1, m, h => by cases h
  | t :: r, k + 1, m, h => by
    obtain ⟨h0, m', rfl, h'⟩ := cnt_step h
    rw [List.drop_succ_cons, stackE_drop h', stackE_cons, List.drop_succ_cons, List.drop_drop, Nat.add_comm]
theorem stackE_len : ∀ {l : List Tm} {k m : Nat}, cnt k l = some m → k ≤ (stackE e l).length
  | l, 0, m, h => Nat.zero_le _
  | [], k + 1, m, h => by cases h
  | t :: r, k + 1, m, h => by
    obtain ⟨h0, m', rfl, h'⟩ := cnt_step h
    have := stackE_len h'
    rw [stackE_cons, List.length_cons, List.length_drop]
    omega
theorem stackE_take : ∀ {l : List Tm} {k m : Nat}, cnt k l = some m → stackE e (l.take m) = (stackE e l).take k
  | l, 0, m, h => by rw [cnt_zero] at h; cases h; rfl
  | [], k + 1, m, h => by cases h
  | t :: r, k + 1, m, h => by
    obtain ⟨h0, m', rfl, h'⟩ := cnt_step h
    rw [List.take_succ_cons, stackE_cons, stackE_take h', stackE_cons, List.take_succ_cons, List.take_take, List.drop_take, show min (arN t.op) (k + arN t.op) = arN t.op by omega, Nat.add_sub_cancel]
end
theorem stackE_size (e : Ev) : ∀ (l : List Tm), (stackE e l).length ≤ l.length
  | [] => Nat.le_refl _
  | t :: r => by
    have := stackE_size e r
    rw [stackE_cons, List.length_cons, List.length_drop, List.length_cons]
    omega
/-- What the expression that begins here comes to. -/
def comeE (e : Ev) (l : List Tm) : Int := (stackE e l).headD 0
section
variable {e : Ev}
theorem stackE_get {l : List Tm} {k m : Nat} (h : cnt (k + 1) l = some m) : ∃ x, cnt k l = some x ∧ (stackE e l)[k]? = some (comeE e (l.drop x)) := by
  obtain ⟨x, y, hx, hy, _⟩ := cnt_split h
  refine ⟨x, hx, ?_⟩
  have h1 := stackE_len (e := e) h
  rw [comeE, stackE_drop hx]
  have h2 : k < (stackE e l).length := by omega
  rw [List.getElem?_eq_getElem h2, List.drop_eq_getElem_cons h2]
  rfl
/-- All that terms come to that may be are values. -/
theorem evT_bd {t : Tm} (hm : mayB t = true) {x y : Int} (hx : -1000000 ≤ x ∧ x ≤ 1000000) (hy : -1000000 ≤ y ∧ y ≤ 1000000) : -1000000 ≤ evT e t x y ∧ evT e t x y ≤ 1000000 := by
  have tb : ∀ b, -1000000 ≤ tru b ∧ tru b ≤ 1000000 := fun b => by have := tru_bd b; omega
  have nb : ∀ x, -1000000 ≤ near x ∧ near x ≤ 1000000 := fun x => ⟨near_lo x, near_hi x⟩
  unfold evT
  split
  · unfold ev0
    split
    · rename_i h1
      unfold mayB at hm
      rw [if_pos h1] at hm
      simp only [Bool.and_eq_true, decide_eq_true_eq] at hm
      omega
    · split
      · exact nb _
      · split <;> exact tb _
  · split
    · unfold ev1
      split
      · omega
      · exact tb _
    · unfold ev2
      (repeat' split) <;> first | exact nb _ | exact tb _ | omega
theorem stackE_bd : ∀ {l : List Tm}, l.all mayB = true → ∀ v ∈ stackE e l, -1000000 ≤ v ∧ v ≤ 1000000
  | [], _ => by simp [stackE]
  | t :: r, h => by
    rw [List.all_cons, Bool.and_eq_true] at h
    have ih := stackE_bd h.2
    have hg : ∀ i : Nat, -1000000 ≤ ((stackE e r).take (arN t.op))[i]?.getD 0 ∧ ((stackE e r).take (arN t.op))[i]?.getD 0 ≤ 1000000 := by
      intro i
      cases hi : ((stackE e r).take (arN t.op))[i]? with
      | none => simp
      | some v => exact ih v (List.mem_of_mem_take (List.mem_iff_getElem?.2 ⟨i, hi⟩))
    intro v hv
    rw [stackE_cons, List.mem_cons] at hv
    rcases hv with rfl | hv
    · exact evT_bd h.1 (hg 0) (hg 1)
    · exact ih v (List.mem_of_mem_drop hv)
theorem comeE_bd {l : List Tm} (h : l.all mayB = true) : -1000000 ≤ comeE e l ∧ comeE e l ≤ 1000000 := by
  unfold comeE
  cases hs : stackE e l with
  | nil => simp
  | cons a r => exact stackE_bd h a (by rw [hs]; simp)
theorem comeE_at {l : List Tm} {a : Nat} {t : Tm} (ht : l[a]? = some t) : comeE e (l.drop a) = evF e t ((stackE e (l.drop (a + 1))).take (arN t.op)) := by
  rw [drop_get ht, comeE, stackE_cons]; rfl
end

/-- Why an expression comes to nothing. -/
def knownB (e : Ev) (l : List Tm) : Bool := l.all fun t => !(decide (t.op = 2)) || hasS (vnames e) t.s
def chkE (e : Ev) (l : List Tm) : Int := if 4 < e.vars.length then 1 else if chk l ≠ 0 then chk l else if typ l = 0 then 4 else if knownB e l then 0 else 7
theorem chkE_wide {e : Ev} {l : List Tm} (h : 4 < e.vars.length) : chkE e l = 1 := if_pos h
theorem chkE_bad {e : Ev} {l : List Tm} (h : ¬ 4 < e.vars.length) (h1 : chk l ≠ 0) : chkE e l = chk l := by unfold chkE; rw [if_neg h, if_pos h1]
theorem chkE_typ {e : Ev} {l : List Tm} (h : ¬ 4 < e.vars.length) (h1 : chk l = 0) (h2 : typ l = 0) : chkE e l = 4 := by unfold chkE; rw [if_neg h, if_neg (by omega), if_pos h2]
theorem chkE_last {e : Ev} {l : List Tm} (h : ¬ 4 < e.vars.length) (h1 : chk l = 0) (h2 : ¬ typ l = 0) : chkE e l = if knownB e l then 0 else 7 := by unfold chkE; rw [if_neg h, if_neg (by omega), if_neg h2]
theorem chkE_ok {e : Ev} {l : List Tm} (h : chkE e l = 0) : e.vars.length ≤ 4 ∧ chk l = 0 ∧ typ l ≠ 0 ∧ knownB e l = true := by
  unfold chkE at h
  split at h
  · omega
  split at h
  · omega
  split at h
  · omega
  split at h
  · rename_i h1 h2 h3 h4
    exact ⟨by omega, by omega, h3, h4⟩
  · omega
theorem chkE_mk {e : Ev} {l : List Tm} (h : e.vars.length ≤ 4) (h1 : chk l = 0) (h2 : typ l ≠ 0) (h3 : knownB e l = true) : chkE e l = 0 := by rw [chkE_last (by omega) h1 h2, if_pos h3]
def holdsE (e : Ev) (l : List Tm) : Bool := l.isEmpty || (decide (chkE e l = 0) && (decide (typ l = 2) && decide (comeE e l = 1)))
/-- Of what is true or false it is 0 or 1. -/
theorem comeE_bool {e : Ev} {l : List Tm} (h : chk l = 0) (ht : typ l = 2) : comeE e l = 0 ∨ comeE e l = 1 := by
  obtain ⟨hw, _, _⟩ := chk_ok h
  obtain ⟨_, hc⟩ := wholeB_iff.1 hw
  have htr : ∀ b, tru b = 0 ∨ tru b = 1 := fun b => by cases b <;> simp [tru]
  cases l with
  | nil => cases hc
  | cons t r =>
    obtain ⟨h0, _, _, _⟩ := cnt_step hc
    unfold typ tell at ht
    rw [hw, if_pos rfl, come_cons] at ht
    have ho : ownT t.op = 2 := by
      unfold typF at ht
      split at ht
      · exact ht
      · omega
    have h9 : 9 ≤ t.op := by
      have := (ar_in.1 h0).1
      unfold ownT at ho
      split at ho
      · omega
      · omega
    show evF e t _ = 0 ∨ evF e t _ = 1
    unfold evF evT
    split
    · unfold ev0
      rw [if_neg (by omega), if_neg (by omega)]
      split <;> exact htr _
    · split
      · unfold ev1
        rw [if_neg (by omega)]
        exact htr _
      · unfold ev2
        rw [if_neg (by omega), if_neg (by omega), if_neg (by omega), if_neg (by omega), if_neg (by omega)]
        (repeat' split) <;> exact htr _

/-- Lists one behind the other. -/
theorem cnt_app : ∀ {a : List Tm} {k : Nat}, cnt k a = some a.length → ∀ (j : Nat) (b : List Tm), cnt (k + j) (a ++ b) = (cnt j b).map (a.length + ·)
  | a, 0, h, j, b => by
    rw [cnt_zero] at h
    have : a = [] := List.eq_nil_of_length_eq_zero (by injection h with h; omega)
    subst this
    simp
  | [], k + 1, h, j, b => by cases h
  | t :: r, k + 1, h, j, b => by
    obtain ⟨h0, m', hm, h'⟩ := cnt_step h
    have hm' : m' = r.length := by rw [List.length_cons] at hm; omega
    subst hm'
    rw [show k + 1 + j = (k + j) + 1 by omega, List.cons_append, cnt_cons, if_neg (by omega), show k + j + arN t.op = k + arN t.op + j by omega, cnt_app h' j b]
    cases cnt j b with
    | none => rfl
    | some m => simp; omega
theorem cnt_one_app {a b : List Tm} (h : cnt 1 a = some a.length) (h' : cnt 1 b = some b.length) : cnt 2 (a ++ b) = some (a ++ b).length := by
  rw [show (2 : Nat) = 1 + 1 from rfl, cnt_app h 1 b, h', List.length_append]; rfl
theorem stackE_nil_of {e : Ev} {a : List Tm} (h : cnt 1 a = some a.length) : stackE e a = [comeE e a] := by
  have h1 := stackE_len (e := e) h
  have h2 := stackE_drop (e := e) h
  rw [List.drop_length] at h2
  unfold comeE
  match hs : stackE e a with
  | [] => rw [hs] at h1; simp at h1
  | [x] => rfl
  | x :: y :: r => rw [hs] at h2; cases h2
theorem stackE_app {e : Ev} : ∀ {a : List Tm} {k : Nat}, cnt k a = some a.length → ∀ b, stackE e (a ++ b) = stackE e a ++ stackE e b
  | a, 0, h, b => by
    rw [cnt_zero] at h
    have : a = [] := List.eq_nil_of_length_eq_zero (by injection h with h; omega)
    subst this
    rfl
  | [], k + 1, h, b => by cases h
  | t :: r, k + 1, h, b => by
    obtain ⟨h0, m', hm, h'⟩ := cnt_step h
    have hm' : m' = r.length := by rw [List.length_cons] at hm; omega
    subst hm'
    have hl := stackE_len (e := e) h'
    rw [List.cons_append, stackE_cons, stackE_app h' b, stackE_cons, List.take_append_of_le_length (by omega), List.drop_append_of_le_length (by omega)]
    rfl
theorem stack_app {α : Type} {f : Int → List α → α} : ∀ {a : List Tm} {k : Nat}, cnt k a = some a.length → ∀ b, stack f (a ++ b) = stack f a ++ stack f b
  | a, 0, h, b => by
    rw [cnt_zero] at h
    have : a = [] := List.eq_nil_of_length_eq_zero (by injection h with h; omega)
    subst this
    rfl
  | [], k + 1, h, b => by cases h
  | t :: r, k + 1, h, b => by
    obtain ⟨h0, m', hm, h'⟩ := cnt_step h
    have hm' : m' = r.length := by rw [List.length_cons] at hm; omega
    subst hm'
    have hl := stack_len (f := f) h'
    rw [List.cons_append, stack_cons, stack_app h' b, stack_cons, List.take_append_of_le_length (by omega), List.drop_append_of_le_length (by omega)]
    rfl
theorem stack_one {f : Int → List Int → Int} {a : List Tm} (h : cnt 1 a = some a.length) : stack f a = [come f a] := by
  have h1 := stack_len (f := f) h
  have h2 := stack_drop (f := f) h
  rw [List.drop_length] at h2
  unfold come
  match hs : stack f a with
  | [] => rw [hs] at h1; simp at h1
  | [x] => rfl
  | x :: y :: r => rw [hs] at h2; cases h2
/-- At a place within a whole expression so many stand one behind the other. -/
theorem cnt_within : ∀ {l : List Tm} {k : Nat}, cnt k l = some l.length → ∀ i, i ≤ l.length → ∃ j, cnt j (l.drop i) = some (l.length - i) ∧ (i < l.length → 0 < j)
  | l, k, h, 0, _ => by
    refine ⟨k, by simpa using h, fun h0 => ?_⟩
    rcases Nat.eq_zero_or_pos k with rfl | hk
    · rw [cnt_zero] at h; injection h with h; omega
    · exact hk
  | [], k, h, i + 1, hi => by simp at hi
  | t :: r, 0, h, i + 1, hi => by rw [cnt_zero] at h; injection h with h; simp at h
  | t :: r, k + 1, h, i + 1, hi => by
    obtain ⟨h0, m', hm, h'⟩ := cnt_step h
    have hm' : m' = r.length := by rw [List.length_cons] at hm; omega
    subst hm'
    obtain ⟨j, hj, hj0⟩ := cnt_within h' i (by simpa using hi)
    exact ⟨j, by simpa using hj, fun h1 => hj0 (by simpa using h1)⟩
theorem stackE_within {e : Ev} {l : List Tm} (_h : cnt 1 l = some l.length) {i j : Nat} (hi : i ≤ l.length) (hj : cnt j (l.drop i) = some (l.length - i)) : (stackE e (l.drop i)).length = j := by
  have h1 := stackE_len (e := e) hj
  have h2 := stackE_drop (e := e) hj
  rw [List.drop_drop, Nat.add_sub_cancel' hi, List.drop_length] at h2
  have h3 : ((stackE e (l.drop i)).drop j).length = 0 := by rw [← h2]; rfl
  rw [List.length_drop] at h3
  omega
/-- The term at a place has as many below it as it wants. -/
theorem stackE_next {e : Ev} {l : List Tm} (h : cnt 1 l = some l.length) {i : Nat} {t : Tm} (ht : l[i]? = some t) : 0 ≤ ar t.op ∧ arN t.op ≤ (stackE e (l.drop (i + 1))).length ∧ stackE e (l.drop i) = evF e t ((stackE e (l.drop (i + 1))).take (arN t.op)) :: (stackE e (l.drop (i + 1))).drop (arN t.op) := by
  have hi := (List.getElem?_eq_some_iff.1 ht).1
  obtain ⟨j, hj, hj0⟩ := cnt_within h i (by omega)
  have hj0 := hj0 hi
  obtain ⟨j', rfl⟩ : ∃ j', j = j' + 1 := ⟨j - 1, by omega⟩
  rw [drop_get ht] at hj
  obtain ⟨h0, m', _, h'⟩ := cnt_step hj
  have := stackE_len (e := e) h'
  exact ⟨h0, by omega, by rw [drop_get ht, stackE_cons]⟩
end EvalSpec
end Go.Proofs.YtcfcpbkeedfbpaaGreatDoor

namespace Go.Proofs.YtcfcpbkeedfbpaaGreatDoor
open Go.RowKit TermSpec EvalSpec ValSpec
set_option maxRecDepth 100000

theorem truth_any (b : Bool) (w : World) : Calls Tryz.prog 176 #[.bool b] w (SameI w (tru b)) := by
  cases b <;>
  · go_enter Tryz.func176, Tryz.ntmps176
    go_wp2
    go_ret
    exact ⟨rfl, rfl⟩
theorem eis_any (b : Bool) (w : World) : Calls Tryz.prog 119 #[.bool b] w (SameI w (tru b)) := by
  cases b <;>
  · go_enter Tryz.func119, Tryz.ntmps119
    go_wp2
    go_ret
    exact ⟨rfl, rfl⟩
theorem same_bool {w : World} {a b : Bool} (h : a = b) : SameB w b (.returned (.bool a)) w := ⟨by rw [h], rfl⟩
theorem same_int {w : World} {a b : Int} (h : a = b) : SameI w b (.returned (.int .i64 a)) w := ⟨by rw [h], rfl⟩
set_option maxHeartbeats 2000000 in
theorem compare_any (o a b : Int) (w : World) (h : 13 ≤ o) (h' : o ≤ 18) : Calls Tryz.prog 181 #[.int .i64 o, .int .i64 a, .int .i64 b] w (SameB w (cmp o a b)) := by
  rcases (show o = 13 ∨ o = 14 ∨ o = 15 ∨ o = 16 ∨ o = 17 ∨ o = 18 by omega) with rfl | rfl | rfl | rfl | rfl | rfl <;>
  · go_enter Tryz.func181, Tryz.ntmps181
    go_wp2
    go_ret
    exact same_bool (by simp [cmp])
theorem near_of {x : Int} (h1 : -1000000 ≤ x) (h2 : x ≤ 1000000) : near x = x := by unfold near; rw [if_neg (by omega), if_neg (by omega)]
theorem ofOne_any (o x : Int) (w : World) (h1 : -1000000 ≤ x) (h2 : x ≤ 1000000) : Calls Tryz.prog 163 #[.int .i64 o, .int .i64 x] w (SameI w (ev1 o x)) := by
  have HM := Lib.hid (minus_any 0 x w)
  have HT := Lib.hid (truth_any (x == 0) w)
  have e1 : minus 0 x = 0 - x := by unfold minus; rw [near_of (x := 0) (by omega) (by omega), near_of h1 h2, near_of (by omega) (by omega)]
  rw [e1] at HM
  clear e1
  by_cases ho : o = 3
  · subst ho
    go_enter Tryz.func163, Tryz.ntmps163
    go_wp2_with (go_at_call 178; (with_reducible refine HM.out.mono ?_); rintro e w' ⟨rfl, rfl⟩)
    go_ret
    exact same_int (by simp [ev1])
  · have g : (o == 3) = false := by simp [ho]
    go_enter Tryz.func163, Tryz.ntmps163
    go_wp2_with (go_at_call 176; (with_reducible refine HT.out.mono ?_); rintro e w' ⟨rfl, rfl⟩)
    go_ret
    exact same_int (by simp [ev1, ho])
end Go.Proofs.YtcfcpbkeedfbpaaGreatDoor

namespace Go.Proofs.YtcfcpbkeedfbpaaGreatDoor
namespace KitC
open Go.RowKit

theorem below_one (w : World) (o : Obj) : Below w.heap.size w (w.alloc o) := (Below.refl _ _).alloc (Nat.le_refl _) _
theorem below_pair (w : World) (o p : Obj) : Below w.heap.size w ((w.alloc o).alloc p) := ((Below.refl _ _).alloc (Nat.le_refl _) _).alloc (by simp) _
/-- Two blocks that were made, behind a call that leaves them. -/
theorem pair_blocks {w w2 : World} {o p : Obj} (hb : Below ((w.alloc o).alloc p).heap.size ((w.alloc o).alloc p) w2) :
    w2.heap[w.heap.size]? = some o ∧ w2.heap[w.heap.size + 1]? = some p ∧ Below w.heap.size w w2 ∧ w.heap.size + 1 < w2.heap.size := by
  have hz := hb.size
  simp only [World.size_alloc] at hz
  refine ⟨(hb.block _ (by simp; omega)).trans ((heap_alloc_old _ _ (by simp)).trans (heap_alloc_new _ _)), (hb.block _ (by simp)).trans ?_, ?_, by omega⟩
  · have := heap_alloc_new (w.alloc o) p
    rwa [World.size_alloc] at this
  · exact (below_pair w o p).trans (hb.mono (by simp; omega))
theorem one_block {w w2 : World} {o : Obj} (hb : Below (w.alloc o).heap.size (w.alloc o) w2) : w2.heap[w.heap.size]? = some o ∧ Below w.heap.size w w2 ∧ w.heap.size < w2.heap.size := by
  have hz := hb.size
  simp only [World.size_alloc] at hz
  exact ⟨(hb.block _ (by simp)).trans (heap_alloc_new _ _), ((Below.refl _ _).alloc (Nat.le_refl _) _).trans (hb.mono (by simp)), by omega⟩
/-- A block as it was, behind a call. -/
theorem block_on {w w2 : World} {b : Nat} {o : Obj} (h : w.heap[b]? = some o) (hb : Below w.heap.size w w2) : w2.heap[b]? = some o := (hb.block b (Array.getElem?_eq_some_iff.1 h).1).trans h
end KitC
end Go.Proofs.YtcfcpbkeedfbpaaGreatDoor

namespace Go.Proofs.YtcfcpbkeedfbpaaGreatDoor
open Go.RowKit TermSpec EvalSpec NamesSpec Go.Lib
set_option maxRecDepth 100000

/-- Where an Env's lists lie. -/
structure EP where
  vA : Option Addr
  vn : Nat
  vc : Nat
  iA : Option Addr
  im : Nat
  ic : Nat
def vrV (v : Vr) : List Value := [.string v.s, .int .i64 v.lo, .int .i64 v.hi, .int .i64 v.ini]
def vrsV (l : List Vr) : List Value := l.flatMap vrV
theorem vrV_length (v : Vr) : (vrV v).length = 4 := rfl
theorem vrsV_get {l : List Vr} {i : Nat} {v : Vr} (h : l[i]? = some v) : (vrsV l)[i * 4]? = some (.string v.s) ∧ (vrsV l)[i * 4 + 1]? = some (.int .i64 v.lo) ∧ (vrsV l)[i * 4 + 2]? = some (.int .i64 v.hi) ∧ (vrsV l)[i * 4 + 3]? = some (.int .i64 v.ini) :=
  ⟨flat_get (j := 0) vrV_length h (by omega), flat_get (j := 1) vrV_length h (by omega), flat_get (j := 2) vrV_length h (by omega), flat_get (j := 3) vrV_length h (by omega)⟩
abbrev envV (p : EP) (e : Ev) : Value := .agg #[.slice p.vA p.vn p.vc, .int .i64 e.v0, .int .i64 e.v1, .int .i64 e.v2, .int .i64 e.v3, .slice p.iA p.im p.ic]
/-- The variables lie there. -/
def VarsIn (w : World) (A : Option Addr) (n c : Nat) (l : List Vr) : Prop := n = l.length ∧ Rdk 4 w (.slice A n c) n (vrsV l)
theorem VarsIn.keep {w w' : World} {A : Option Addr} {n c : Nat} {l : List Vr} (h : VarsIn w A n c l) (hb : Below w.heap.size w w') : VarsIn w' A n c l := ⟨h.1, h.2.keep hb⟩
theorem VarsIn.at_ {w : World} {A : Option Addr} {n c : Nat} {l : List Vr} {i : Nat} {v : Vr} (h : VarsIn w A n c l) (hi : l[i]? = some v) :
    ∃ b off, A = some ⟨b, off, none⟩ ∧ b < w.heap.size ∧ w.cell? ⟨b, off + i * 4, none⟩ = some (.string v.s) ∧ w.cell? ⟨b, off + i * 4 + 1, none⟩ = some (.int .i64 v.lo) ∧ w.cell? ⟨b, off + i * 4 + 2, none⟩ = some (.int .i64 v.hi) ∧ w.cell? ⟨b, off + i * 4 + 3, none⟩ = some (.int .i64 v.ini) := by
  obtain ⟨hn, A', c', heq, hc, hl, hA⟩ := h
  cases heq
  have := get_lt hi
  obtain ⟨b, off, rfl, hb, hcell⟩ := hA (by omega)
  obtain ⟨g0, g1, g2, g3⟩ := vrsV_get hi
  exact ⟨b, off, rfl, hb, hcell _ _ g0, by rw [Nat.add_assoc]; exact hcell _ _ g1, by rw [Nat.add_assoc]; exact hcell _ _ g2, by rw [Nat.add_assoc]; exact hcell _ _ g3⟩
theorem VarsIn.cap {w : World} {A : Option Addr} {n c : Nat} {l : List Vr} (h : VarsIn w A n c l) : n ≤ c := by
  obtain ⟨hn, A', c', heq, hc, hl, hA⟩ := h
  cases heq
  exact hc
structure EnvIn (w : World) (p : EP) (e : Ev) : Prop where
  vars : VarsIn w p.vA p.vn p.vc e.vars
  ins : Rd w (.slice p.iA p.im p.ic) (strV e.ins)
  vbd : e.vars.length ≤ 9223372036854775807
  ibd : e.ins.length ≤ 9223372036854775807
theorem EnvIn.keep {w w' : World} {p : EP} {e : Ev} (h : EnvIn w p e) (hb : Below w.heap.size w w') : EnvIn w' p e := ⟨h.vars.keep hb, h.ins.keep hb, h.vbd, h.ibd⟩
theorem vnames_get {e : Ev} {k : Nat} {v : Vr} (h : e.vars[k]? = some v) : (vnames e)[k]? = some v.s := by unfold vnames; rw [List.getElem?_map, h]; rfl
theorem vnames_length (e : Ev) : (vnames e).length = e.vars.length := by simp [vnames]

set_option maxHeartbeats 400000 in
theorem isVar_any (B : Nat) (x s : ByteArray) (lo hi ini : Int) (w : World) (hB : B < w.heap.size) (hc : w.cell? ⟨B, 0, none⟩ = some (.string s)) :
    Calls Tryz.prog 136 #[.agg #[.string x, .int .i64 lo, .int .i64 hi, .int .i64 ini], .pointer (some ⟨B, 0, none⟩)] w (RetB w (x.toList == s.toList)) := by
  have hc' : ∀ o, (w.alloc o).cell? ⟨B, 0, none⟩ = some (.string s) := fun o => (((Below.refl _ w).alloc (Nat.le_refl _) o).cell (p := ⟨B, 0, none⟩) hB).trans hc
  go_enter Tryz.func136, Tryz.ntmps136
  go_wp2
  go_ret
  exact ⟨rfl, (Below.refl _ _).alloc (Nat.le_refl _) _⟩

def VarRel (W : World) (e : Ev) (s : ByteArray) (n : Nat) (i : Value) (wr : World) : Prop := ∃ k : Nat, k ≤ n ∧ i = .int .i64 k ∧ s ∉ (vnames e).take k ∧ Below W.heap.size W wr
set_option maxHeartbeats 1000000 in
theorem indexFunc_any (B : Nat) (A : Option Addr) (n c : Nat) (e : Ev) (s : ByteArray) (w : World) (h : VarsIn w A n c e.vars) (hn63 : n ≤ 9223372036854775807) (hB : B < w.heap.size) (hc : w.cell? ⟨B, 0, none⟩ = some (.string s)) :
    Calls Tryz.prog 72 #[.slice A n c, .func (.func 136) #[] #[.pointer (some ⟨B, 0, none⟩)]] w (RetI w (idxOfS (vnames e) s)) := by
  have HV := Lib.hid h
  have HN := Lib.hid h.1
  have HC := Lib.hid hc
  have hcap := h.cap
  clear h hc
  go_enter Tryz.func72, Tryz.ntmps72
  go_wp2
  go_loopw [8] (fun i wr => VarRel w e s n i wr) (fun i _ => n - (RowKit.intOf i).toNat)
  case atStart => exact ⟨0, Nat.zero_le _, rfl, by simp, Below.refl _ _⟩
  case round =>
    obtain ⟨k, hk, rfl, hno, hbw⟩ := hrel
    have HBW := Lib.hid hbw
    have HO := Lib.hid hno
    clear hno
    by_cases hlt : k < n
    · obtain ⟨v, hv⟩ : ∃ v, e.vars[k]? = some v := get_some (by have := HN.out; omega)
      obtain ⟨b, off, rfl, hb, c0, c1, c2, c3⟩ := (HV.out.keep hbw).at_ hv
      have HX := Lib.hid (vnames_get hv)
      have HCALL := Lib.hid (isVar_any B v.s s v.lo v.hi v.ini wr (Nat.lt_of_lt_of_le hB hbw.size) ((hbw.cell (p := ⟨B, 0, none⟩) hB).trans HC.out))
      clear hv hbw
      obtain ⟨x, lo, hi, ini⟩ := v
      simp only at c0 c1 c2 c3 HX HCALL
      rcases hxs : (x.toList == s.toList) with _ | _
      · rw [hxs] at HCALL
        go_wp2_with (go_at_call 136; (with_reducible refine HCALL.out.mono ?_))
        rintro e2 w3 ⟨rfl, hb3⟩
        have HB3 := Lib.hid (below_two' HBW.out hb3)
        clear hb3
        go_wp2_with fail
        go_roundw
        case rel =>
          refine ⟨k + 1, by omega, by go_num, ?_, HB3.out⟩
          rw [take_next HX.out, List.mem_append, List.mem_singleton]
          rintro (h1 | h1)
          · exact HO.out h1
          · exact bytes_ne hxs h1.symm
        case measure => simp [RowKit.intOf]; omega
      · rw [hxs] at HCALL
        go_wp2_with (go_at_call 136; (with_reducible refine HCALL.out.mono ?_))
        rintro e2 w3 ⟨rfl, hb3⟩
        have HB3 := Lib.hid (below_two' HBW.out hb3)
        clear hb3
        go_wp2_with fail
        go_ret
        exact ⟨ret_int (by rw [← bytes_eq hxs] at HO ⊢; exact (place_hit HX.out HO.out).symm), HB3.out⟩
    · have HE : Hid (idxOfS (vnames e) s = -1) := Lib.hid (by
        have h1 := HN.out
        have h2 := HO.out
        have h3 : (vnames e).length ≤ k := by rw [vnames_length]; omega
        rw [List.take_of_length_le h3] at h2
        exact place_miss h2)
      clear hbw
      go_wp2_with fail
      go_ret
      exact ⟨ret_int HE.out.symm, HBW.out⟩

set_option maxHeartbeats 400000 in
theorem variable_any (p : EP) (e : Ev) (s : ByteArray) (w : World) (h : EnvIn w p e) : Calls Tryz.prog 110 #[envV p e, .string s] w (RetI w (idxOfS (vnames e) s)) := by
  have hv := h.vars
  have hbd : p.vn ≤ 9223372036854775807 := by have := h.vbd; have := hv.1; omega
  obtain ⟨vA, vn, vc, iA, im, ic⟩ := p
  obtain ⟨r, hr⟩ : ∃ r, r = idxOfS (vnames e) s := ⟨_, rfl⟩
  have HIF := Lib.hid (fun B w h => indexFunc_any B vA vn vc e s w h hbd)
  rw [← hr] at HIF ⊢
  have HV := Lib.hid hv
  obtain ⟨vars, v0, v1, v2, v3, ins⟩ := e
  change Calls _ _ #[.agg #[.slice vA vn vc, .int .i64 v0, .int .i64 v1, .int .i64 v2, .int .i64 v3, .slice iA im ic], .string s] _ _
  clear h hv hbd hr
  go_enter Tryz.func110, Tryz.ntmps110
  go_wp2_with (go_at_call 72; (with_reducible refine (HIF.out _ _ (HV.out.keep (((Below.refl _ _).alloc (Nat.le_refl _) _).alloc (by simp) _)) ?_ ?_).mono ?_))
  rintro e2 w3 ⟨rfl, hb3⟩
  go_wp2_with fail
  go_ret
  exact ⟨rfl, below_two' (KitC.below_pair _ _ _) hb3⟩

def RPlRel (_W : World) (e : Ev) (s : ByteArray) (n : Nat) (i : Value) : Prop := ∃ k : Nat, k ≤ n ∧ i = .int .i64 k ∧ s ∉ (vnames e).take k
set_option maxHeartbeats 1000000 in
theorem rvariable_any (p : EP) (e : Ev) (s : ByteArray) (w : World) (h : EnvIn w p e) : Calls Tryz.prog 80 #[envV p e, .string s] w (RetI w (idxOfS (vnames e) s)) := by
  have HV := Lib.hid h.vars
  have HN := Lib.hid h.vars.1
  have hcap := h.vars.cap
  have hbd : p.vn ≤ 9223372036854775807 := by have := h.vbd; have := h.vars.1; omega
  obtain ⟨A, n, c, iA, im, ic⟩ := p
  obtain ⟨r, hr⟩ : ∃ r, r = idxOfS (vnames e) s := ⟨_, rfl⟩
  have HR := Lib.hid hr
  have HG : Hid (∀ (k : Nat) (v : Vr), e.vars[k]? = some v → (vnames e)[k]? = some v.s) := Lib.hid fun k v hv => vnames_get hv
  have HL := Lib.hid (vnames_length e)
  rw [← hr]
  obtain ⟨nm, hnm⟩ : ∃ nm, nm = vnames e := ⟨_, rfl⟩
  rw [← hnm] at HR HG HL
  obtain ⟨vars, v0, v1, v2, v3, ins⟩ := e
  simp only at HV HN hcap hbd HG HL
  change Calls _ _ #[.agg #[.slice A n c, .int .i64 v0, .int .i64 v1, .int .i64 v2, .int .i64 v3, .slice iA im ic], .string s] _ _
  clear h hr hnm
  go_enter Tryz.func80, Tryz.ntmps80
  go_wp2
  go_loop [5] (fun i => ∃ k : Nat, k ≤ n ∧ i = .int .i64 k ∧ Hid (s ∉ nm.take k)) (fun i => n - (RowKit.intOf i).toNat)
  case atStart => exact ⟨0, Nat.zero_le _, rfl, Lib.hid (by simp)⟩
  case round =>
    obtain ⟨k, hk, rfl, HO⟩ := hrel
    by_cases hlt : k < n
    · obtain ⟨v, hv⟩ : ∃ v, vars[k]? = some v := get_some (by have := HN.out; omega)
      obtain ⟨b, off, rfl, hb, c0, -, -, -⟩ := HV.out.at_ hv
      have HX := Lib.hid (HG.out k v hv)
      have c0' := ((KitC.below_one w (.cells #[.slice (some ⟨b, off, none⟩) n c, .int .i64 v0, .int .i64 v1, .int .i64 v2, .int .i64 v3, .slice iA im ic] 54)).cell (p := ⟨b, off + k * 4, none⟩) hb).trans c0
      clear hv
      obtain ⟨x, lo, hi, ini⟩ := v
      simp only at c0 c0' HX
      rcases hxs : (x.toList == s.toList) with _ | _
      · go_wp2_with fail
        go_round
        case rel =>
          refine ⟨k + 1, by omega, by go_num, Lib.hid ?_⟩
          rw [take_next HX.out, List.mem_append, List.mem_singleton]
          rintro (h1 | h1)
          · exact HO.out h1
          · exact bytes_ne hxs h1.symm
        case measure => simp [RowKit.intOf]; omega
      · go_wp2_with fail
        go_ret
        exact ⟨ret_int (by rw [HR.out]; rw [← bytes_eq hxs] at HO ⊢; exact (place_hit HX.out HO.out).symm), KitC.below_one _ _⟩
    · have HE : Hid (r = -1) := Lib.hid (by
        have h1 := HN.out
        have h2 := HO.out
        have h3 : nm.length ≤ k := by rw [HL.out]; omega
        rw [List.take_of_length_le h3] at h2
        rw [HR.out]
        exact place_miss h2)
      go_wp2_with fail
      go_ret
      exact ⟨ret_int HE.out.symm, KitC.below_one _ _⟩
end Go.Proofs.YtcfcpbkeedfbpaaGreatDoor
