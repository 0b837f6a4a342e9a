/- States below states, plainly: who is above, what may stand, depth, end, where two meet. No condition. -/
namespace Go.Proofs.Ytlebgecajlifgaa
namespace ShapeSpec

structure Sh where
  kind : Int
  par : Int

def par (l : List Sh) (i : Nat) : Int := (l[i]?).elim (-1) (·.par)
def kind (l : List Sh) (i : Nat) : Int := (l[i]?).elim 0 (·.kind)
theorem par_at {l : List Sh} {i : Nat} {s : Sh} (h : l[i]? = some s) : par l i = s.par := by simp [par, h]
theorem kind_at {l : List Sh} {i : Nat} {s : Sh} (h : l[i]? = some s) : kind l i = s.kind := by simp [kind, h]

/-- Those above a state, the nearest first. -/
def upF (l : List Sh) : Nat → Nat → List Nat
  | 0, _ => []
  | f + 1, i => if 0 ≤ par l i ∧ par l i < i then (par l i).toNat :: upF l f (par l i).toNat else []
theorem upF_fuel (l : List Sh) : ∀ f g i, i ≤ f → i ≤ g → upF l f i = upF l g i
  | 0, 0, _, _, _ => rfl
  | 0, g + 1, i, h, _ => by
    obtain rfl : i = 0 := by omega
    rw [upF, upF, if_neg (by omega)]
  | f + 1, 0, i, _, h => by
    obtain rfl : i = 0 := by omega
    rw [upF, upF, if_neg (by omega)]
  | f + 1, g + 1, i, hf, hg => by
    rw [upF, upF]
    split
    · rw [upF_fuel l f g _ (by omega) (by omega)]
    · rfl
def up (l : List Sh) (i : Nat) : List Nat := upF l i i
theorem up_no {l : List Sh} {i : Nat} (h : ¬ (0 ≤ par l i ∧ par l i < i)) : up l i = [] := by
  unfold up
  cases i with
  | zero => rfl
  | succ i => rw [upF, if_neg h]
theorem up_par {l : List Sh} {i : Nat} (h0 : 0 ≤ par l i) (h1 : par l i < i) : up l i = (par l i).toNat :: up l (par l i).toNat := by
  unfold up
  cases i with
  | zero => omega
  | succ i => rw [upF, if_pos ⟨h0, h1⟩, upF_fuel l i _ _ (by omega) (Nat.le_refl _)]
def sf (l : List Sh) (i : Nat) : List Nat := i :: up l i
theorem up_sf {l : List Sh} {i : Nat} (h0 : 0 ≤ par l i) (h1 : par l i < i) : up l i = sf l (par l i).toNat := up_par h0 h1
theorem up_of {l : List Sh} {i p : Nat} (h : par l i = p) (h1 : p < i) : up l i = sf l p := by
  rw [up_sf (by omega) (by omega), h]
  rfl
theorem up_lt {l : List Sh} : ∀ {i j : Nat}, j ∈ up l i → j < i := by
  intro i
  induction i using Nat.strongRecOn with
  | ind i ih =>
    intro j h
    by_cases hp : 0 ≤ par l i ∧ par l i < i
    · rw [up_par hp.1 hp.2, List.mem_cons] at h
      rcases h with rfl | h
      · omega
      · have := ih _ (by omega) h
        omega
    · rw [up_no hp] at h
      simp at h
theorem sf_le {l : List Sh} {i j : Nat} (h : j ∈ sf l i) : j ≤ i := by
  rcases List.mem_cons.1 h with rfl | h
  · omega
  · exact Nat.le_of_lt (up_lt h)
theorem sf_self (l : List Sh) (i : Nat) : i ∈ sf l i := List.mem_cons_self ..
theorem sf_up {l : List Sh} {i j : Nat} (h : j ∈ sf l i) (hne : j ≠ i) : j ∈ up l i := by
  rcases List.mem_cons.1 h with rfl | h
  · exact absurd rfl hne
  · exact h
theorem up_in {l : List Sh} {i j : Nat} (h : j ∈ up l i) : j ∈ sf l i := List.mem_cons_of_mem _ h
/-- Of two that are each a state or above it, the one ahead is the other, or above it. -/
theorem sf_chain {l : List Sh} : ∀ {i j m : Nat}, j ∈ sf l i → m ∈ sf l i → m ≤ j → m ∈ sf l j := by
  intro i
  induction i using Nat.strongRecOn with
  | ind i ih =>
    intro j m hj hm hle
    by_cases hji : j = i
    · subst hji
      exact hm
    · have hj' := sf_up hj hji
      have hlt := up_lt hj'
      have hm' := sf_up hm (by omega)
      by_cases hp : 0 ≤ par l i ∧ par l i < i
      · rw [up_sf hp.1 hp.2] at hj' hm'
        exact ih _ (by omega) hj' hm' hle
      · rw [up_no hp] at hj'
        simp at hj'
theorem sf_sub {l : List Sh} : ∀ {i j m : Nat}, j ∈ sf l i → m ∈ sf l j → m ∈ sf l i := by
  intro i
  induction i using Nat.strongRecOn with
  | ind i ih =>
    intro j m hj hm
    by_cases hji : j = i
    · subst hji
      exact hm
    · have hj' := sf_up hj hji
      by_cases hp : 0 ≤ par l i ∧ par l i < i
      · rw [up_sf hp.1 hp.2] at hj'
        refine up_in ?_
        rw [up_sf hp.1 hp.2]
        exact ih _ (by omega) hj' hm
      · rw [up_no hp] at hj'
        simp at hj'
theorem up_length_le (l : List Sh) : ∀ i, (up l i).length ≤ i := by
  intro i
  induction i using Nat.strongRecOn with
  | ind i ih =>
    by_cases hp : 0 ≤ par l i ∧ par l i < i
    · rw [up_par hp.1 hp.2, List.length_cons]
      have := ih (par l i).toNat (by omega)
      omega
    · rw [up_no hp]
      simp

/-- What may stand. -/
def hangB (l : List Sh) (i : Nat) : Bool :=
  if i = 0 then decide (par l i = -1) else decide (0 ≤ par l i) && decide (par l i < i) && decide (kind l (par l i).toNat ≠ 1) && decide ((par l i).toNat ∈ sf l (i - 1))
def goodB (l : List Sh) (i : Nat) : Bool := decide (1 ≤ kind l i) && decide (kind l i ≤ 3) && hangB l i
def standB (l : List Sh) : Bool := decide (0 < l.length) && (List.range l.length).all (goodB l)
def deepB (l : List Sh) : Bool := (List.range l.length).any fun i => decide (11 < (up l i).length)
def chk (l : List Sh) : Int := if 60 < l.length then 8 else if standB l = false then 1 else if deepB l = true then 6 else 0

/-- The first n stand. -/
def SU (l : List Sh) (n : Nat) : Prop := ∀ i, i < n → goodB l i = true
theorem SU.zero (l : List Sh) : SU l 0 := fun _ h => absurd h (by omega)
theorem SU.next {l : List Sh} {n : Nat} (h : SU l n) (hg : goodB l n = true) : SU l (n + 1) := fun i hi => by
  by_cases e : i = n
  · rw [e]; exact hg
  · exact h i (by omega)
theorem SU.mono {l : List Sh} {n m : Nat} (h : SU l n) (hm : m ≤ n) : SU l m := fun i hi => h i (by omega)
theorem SU.root {l : List Sh} {n : Nat} (h : SU l n) (hn : 0 < n) : par l 0 = -1 := by
  have := h 0 hn
  simp [goodB, hangB] at this
  exact this.2
theorem SU.par {l : List Sh} {n i : Nat} (h : SU l n) (hi : i < n) (h0 : 0 < i) : 0 ≤ par l i ∧ par l i < i ∧ (par l i).toNat ∈ sf l (i - 1) := by
  have := h i hi
  have e : i ≠ 0 := by omega
  simp [goodB, hangB, e] at this
  exact ⟨this.2.1.1.1, this.2.1.1.2, this.2.2⟩
theorem SU.parn {l : List Sh} {n i : Nat} (h : SU l n) (hi : i < n) (h0 : 0 < i) : ∃ p : Nat, ShapeSpec.par l i = p ∧ p < i ∧ up l i = sf l p ∧ p ∈ sf l (i - 1) := by
  obtain ⟨a, b, c⟩ := h.par hi h0
  exact ⟨(ShapeSpec.par l i).toNat, by omega, by omega, up_sf a b, c⟩
theorem stand_su {l : List Sh} (h : standB l = true) : 0 < l.length ∧ SU l l.length := by
  simp [standB] at h
  refine ⟨?_, fun i hi => h.2 i hi⟩
  cases l with
  | nil => simp at h
  | cons => simp
theorem stand_of {l : List Sh} (h0 : 0 < l.length) (h : SU l l.length) : standB l = true := by
  simp only [standB, Bool.and_eq_true, decide_eq_true_eq, List.all_eq_true, List.mem_range]
  exact ⟨h0, h⟩
theorem stand_not {l : List Sh} {i : Nat} (hi : i < l.length) (h : goodB l i = false) : standB l = false := by
  cases hs : standB l with
  | false => rfl
  | true => rw [(stand_su hs).2 i hi] at h; cases h
theorem chk_ok {l : List Sh} (h : chk l = 0) : l.length ≤ 60 ∧ standB l = true ∧ ∀ i, i < l.length → (up l i).length ≤ 11 := by
  unfold chk at h
  split at h
  · cases h
  · split at h
    · cases h
    · split at h
      · cases h
      · rename_i h1 h2 h3
        refine ⟨by omega, by simpa using h2, fun i hi => ?_⟩
        simp only [deepB, Bool.not_eq_true, List.any_eq_false, List.mem_range, decide_eq_true_eq] at h3
        exact Nat.le_of_not_lt (h3 i hi)
/-- The states stand, if Check takes them. -/
theorem chk_su {l : List Sh} (h : chk l = 0) : SU l l.length := (stand_su (chk_ok h).2.1).2

/-- Those right below. -/
def kidsTo (l : List Sh) (i n : Nat) : List Int := ((List.range n).filter fun k => decide (par l k = i)).map Int.ofNat
def kids (l : List Sh) (i : Nat) : List Int := kidsTo l i l.length
theorem kids_zero (l : List Sh) (i : Nat) : kidsTo l i 0 = [] := rfl
theorem kids_yes {l : List Sh} {i n : Nat} (h : par l n = i) : kidsTo l i (n + 1) = kidsTo l i n ++ [(n : Int)] := by simp [kidsTo, List.range_succ, List.filter_append, h]
theorem kids_no {l : List Sh} {i n : Nat} (h : par l n ≠ i) : kidsTo l i (n + 1) = kidsTo l i n := by simp [kidsTo, List.range_succ, List.filter_append, h]
theorem kids_le (l : List Sh) (i n : Nat) : (kidsTo l i n).length ≤ n := by
  unfold kidsTo
  rw [List.length_map]
  have := List.length_filter_le (fun k => decide (par l k = i)) (List.range n)
  simpa using this
def upI (l : List Sh) (i : Nat) : List Int := (up l i).map Int.ofNat
def sfI (l : List Sh) (i : Nat) : List Int := (sf l i).map Int.ofNat
theorem upI_length (l : List Sh) (i : Nat) : (upI l i).length = (up l i).length := by simp [upI]
theorem sfI_length (l : List Sh) (i : Nat) : (sfI l i).length = (up l i).length + 1 := by simp [sfI, sf]
theorem sfI_cons (l : List Sh) (i : Nat) : sfI l i = [(i : Int)] ++ upI l i := rfl
theorem mem_ints {a : List Nat} {j : Nat} : (j : Int) ∈ a.map Int.ofNat ↔ j ∈ a := by
  rw [List.mem_map]
  constructor
  · rintro ⟨x, hx, e⟩
    obtain rfl : x = j := Int.ofNat.inj e
    exact hx
  · exact fun h => ⟨j, h, rfl⟩
theorem upI_mem {l : List Sh} {i j : Nat} : (j : Int) ∈ upI l i ↔ j ∈ up l i := mem_ints
theorem sfI_mem {l : List Sh} {i j : Nat} : (j : Int) ∈ sfI l i ↔ j ∈ sf l i := mem_ints
theorem sfI_get {l : List Sh} {i k : Nat} {x : Nat} (h : (sf l i)[k]? = some x) : (sfI l i)[k]? = some (x : Int) := by simp [sfI, h]

/-- Where a state ends. -/
def endTo (l : List Sh) (i : Nat) : Nat → Nat
  | 0 => i + 1
  | k + 1 => if i ∈ up l k then k + 1 else endTo l i k
def endOf (l : List Sh) (i : Nat) : Nat := endTo l i l.length
theorem endTo_low {l : List Sh} {i : Nat} : ∀ {n}, n ≤ i + 1 → endTo l i n = i + 1
  | 0, _ => rfl
  | n + 1, h => by
    rw [endTo, if_neg (fun hm => by have := up_lt hm; omega), endTo_low (by omega)]
theorem endTo_skip {l : List Sh} {i e : Nat} : ∀ {n}, e ≤ n → (∀ k, e ≤ k → k < n → i ∉ up l k) → endTo l i n = endTo l i e
  | 0, h, _ => by rw [Nat.le_zero.1 h]
  | n + 1, h, hk => by
    by_cases e1 : e = n + 1
    · rw [e1]
    · rw [endTo, if_neg (hk n (by omega) (by omega)), endTo_skip (by omega) (fun k a b => hk k a (by omega))]
theorem endTo_gt {l : List Sh} {i : Nat} : ∀ n, i < endTo l i n
  | 0 => by rw [endTo]; omega
  | n + 1 => by
    rw [endTo]
    split
    · have := up_lt ‹_›
      omega
    · exact endTo_gt n
theorem endTo_le {l : List Sh} {i : Nat} : ∀ {n}, endTo l i n ≤ max (i + 1) n
  | 0 => by rw [endTo]; omega
  | n + 1 => by
    rw [endTo]
    split
    · omega
    · have := endTo_le (l := l) (i := i) (n := n)
      omega
theorem endTo_mem {l : List Sh} {i k : Nat} (h : i ∈ up l k) : ∀ {n}, k < n → k < endTo l i n
  | 0, hk => absurd hk (by omega)
  | n + 1, hk => by
    rw [endTo]
    split
    · omega
    · rename_i hn
      have : k ≠ n := by rintro rfl; exact hn h
      exact endTo_mem h (by omega)
theorem endTo_last {l : List Sh} {i : Nat} : ∀ {n}, endTo l i n = i + 1 ∨ i ∈ up l (endTo l i n - 1) ∧ endTo l i n ≤ n
  | 0 => .inl rfl
  | n + 1 => by
    rw [endTo]
    split
    · exact .inr ⟨by simpa using ‹i ∈ up l n›, Nat.le_refl _⟩
    · rcases endTo_last (l := l) (i := i) (n := n) with h | ⟨h, h'⟩
      · exact .inl h
      · exact .inr ⟨h, by omega⟩
/-- Behind one that i is not above, none is below i. -/
theorem below_stop {l : List Sh} {n i k : Nat} (h : SU l n) (hk : k < n) (hi : i < k) (hno : i ∉ sf l (k - 1)) : i ∉ up l k := by
  obtain ⟨p, hp, hlt, hup, hin⟩ := h.parn hk (by omega)
  rw [hup]
  exact fun hm => hno (sf_sub hin hm)
theorem below_par {l : List Sh} {n i k : Nat} (h : SU l n) (hk : k < n) (hi : i < k) (hyes : i ∈ sf l (k - 1)) : i ∈ up l k ↔ (i : Int) ≤ par l k := by
  obtain ⟨p, hp, hlt, hup, hin⟩ := h.parn hk (by omega)
  rw [hup, hp]
  constructor
  · intro hm
    have := sf_le hm
    omega
  · intro hle
    exact sf_chain hin hyes (by omega)
theorem below_none {l : List Sh} {n i e : Nat} (h : SU l n) (hi : i < e) (hno : i ∉ up l e) : ∀ k, e ≤ k → k < n → i ∉ up l k := by
  intro k
  induction k with
  | zero => intro h1 _; omega
  | succ k ih =>
    intro h1 h2
    by_cases e1 : e = k + 1
    · rw [← e1]
      exact hno
    · have hk := ih (by omega) (by omega)
      refine below_stop h h2 (by omega) fun hm => hk (sf_up (by simpa using hm) (by omega))
theorem end_found {l : List Sh} {i e : Nat} (h : SU l l.length) (hi : i < e) (he : e ≤ l.length) (hin : i ∈ sf l (e - 1)) (hout : e < l.length → i ∉ up l e) : endOf l i = e := by
  unfold endOf
  rw [endTo_skip he (fun k hk hkl => below_none h hi (hout (by omega)) k hk hkl)]
  by_cases e1 : e = i + 1
  · rw [endTo_low (by omega), e1]
  · obtain ⟨m, rfl⟩ : ∃ m, e = m + 1 := ⟨e - 1, by omega⟩
    rw [endTo, if_pos (sf_up (by simpa using hin) (by omega))]
theorem end_bd {l : List Sh} {i : Nat} (hi : i < l.length) : i < endOf l i ∧ endOf l i ≤ l.length := by
  refine ⟨endTo_gt _, ?_⟩
  have := endTo_le (l := l) (i := i) (n := l.length)
  unfold endOf
  omega
/-- All from a state up to its end are it and those below it. -/
theorem end_iff {l : List Sh} {i k : Nat} (h : SU l l.length) (hi : i < l.length) (hk : k < l.length) : i ∈ sf l k ↔ i ≤ k ∧ k < endOf l i := by
  constructor
  · intro hm
    refine ⟨sf_le hm, ?_⟩
    by_cases e : i = k
    · rw [← e]
      exact (end_bd hi).1
    · exact endTo_mem (sf_up hm e) hk
  · rintro ⟨h1, h2⟩
    rcases Classical.em (i ∈ sf l k) with hm | hm
    · exact hm
    · exfalso
      have hne : i ≠ k := by rintro rfl; exact hm (sf_self _ _)
      have hno : i ∉ up l k := fun hu => hm (up_in hu)
      rcases endTo_last (l := l) (i := i) (n := l.length) with e | ⟨e, e'⟩
      · have : endOf l i = i + 1 := e
        omega
      · have hlt : k < endTo l i l.length := h2
        exact below_none h (by omega) hno (endTo l i l.length - 1) (by omega) (by omega) e

/-- The deepest one that is each of both, or above it. -/
def meet (l : List Sh) (i k : Nat) : Int := ((sf l i).find? fun a => decide (a ∈ sf l k)).elim (-1) Int.ofNat
theorem meet_in {l : List Sh} {i k : Nat} (h : i ∈ sf l k) : meet l i k = i := by
  unfold meet
  rw [show sf l i = i :: up l i from rfl, List.find?_cons_of_pos (by simpa using h)]
  rfl
theorem meet_self (l : List Sh) (i : Nat) : meet l i i = i := meet_in (sf_self _ _)
theorem meet_left {l : List Sh} {i k p : Nat} (hk : k < i) (hup : up l i = sf l p) : meet l i k = meet l p k := by
  have hn : i ∉ sf l k := fun h => by have := sf_le h; omega
  unfold meet
  rw [show sf l i = i :: sf l p by rw [← hup]; rfl, List.find?_cons_of_neg (by simpa using hn)]
theorem find_congr {a : List Nat} {p q : Nat → Bool} (h : ∀ x ∈ a, p x = q x) : a.find? p = a.find? q := by
  induction a with
  | nil => rfl
  | cons x r ih =>
    rw [List.find?_cons, List.find?_cons, h x (List.mem_cons_self ..), ih fun y hy => h y (List.mem_cons_of_mem _ hy)]
theorem meet_right {l : List Sh} {i k p : Nat} (hk : i < k) (hup : up l k = sf l p) : meet l i k = meet l i p := by
  unfold meet
  congr 1
  refine find_congr fun a ha => ?_
  have hle := sf_le ha
  have : a ∈ sf l k ↔ a ∈ sf l p := by
    rw [show sf l k = k :: sf l p by rw [← hup]; rfl, List.mem_cons]
    exact ⟨fun h => h.resolve_left (by omega), .inr⟩
  simp [this]
theorem meet_comm {l : List Sh} (h : SU l l.length) : ∀ (s i k : Nat), i + k ≤ s → i < l.length → k < l.length → meet l i k = meet l k i := by
  intro s
  induction s with
  | zero =>
    intro i k hs _ _
    obtain rfl : i = 0 := by omega
    obtain rfl : k = 0 := by omega
    rfl
  | succ s ih =>
    intro i k hs hi hk
    rcases Nat.lt_trichotomy i k with hlt | heq | hgt
    · obtain ⟨p, hp, hpl, hup, _⟩ := h.parn hk (by omega)
      rw [meet_right hlt hup, meet_left hlt hup]
      exact ih _ _ (by omega) hi (by omega)
    · rw [heq]
    · obtain ⟨p, hp, hpl, hup, _⟩ := h.parn hi (by omega)
      rw [meet_left hgt hup, meet_right hgt hup]
      exact ih _ _ (by omega) (by omega) hk
theorem meet_is {l : List Sh} {i k : Nat} : meet l i k = i ↔ i ∈ sf l k := by
  constructor
  · intro h
    unfold meet at h
    cases hf : (sf l i).find? fun a => decide (a ∈ sf l k) with
    | none => rw [hf] at h; simp at h
    | some a =>
      rw [hf] at h
      obtain rfl : a = i := Int.ofNat.inj h
      simpa using List.find?_some hf
  · exact meet_in
/-- The first of the first k of a list is not in another. -/
theorem meet_hit {l : List Sh} {i k j x : Nat} (hx : (sf l i)[j]? = some x) (hno : ∀ (m y : Nat), m < j → (sf l i)[m]? = some y → y ∉ sf l k) (h : x ∈ sf l k) : meet l i k = x := by
  unfold meet
  have : (sf l i).find? (fun a => decide (a ∈ sf l k)) = some x := by
    rw [List.find?_eq_some_iff_getElem]
    obtain ⟨hj, rfl⟩ := List.getElem?_eq_some_iff.1 hx
    refine ⟨by simpa using h, j, hj, rfl, fun m hm => ?_⟩
    have := hno m _ hm (List.getElem?_eq_getElem (by omega))
    simpa using this
  rw [this]
  rfl
theorem meet_miss {l : List Sh} {i k : Nat} (hno : ∀ (m y : Nat), (sf l i)[m]? = some y → y ∉ sf l k) : meet l i k = -1 := by
  unfold meet
  have : (sf l i).find? (fun a => decide (a ∈ sf l k)) = none := by
    rw [List.find?_eq_none]
    intro a ha
    obtain ⟨m, hm⟩ := List.mem_iff_getElem?.1 ha
    simpa using hno m a hm
  rw [this]
  rfl
end ShapeSpec
end Go.Proofs.Ytlebgecajlifgaa
