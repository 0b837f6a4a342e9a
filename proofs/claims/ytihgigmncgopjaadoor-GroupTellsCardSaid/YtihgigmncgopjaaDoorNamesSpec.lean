/- What the layer of names says, as plain functions of lists: keywords, names, places, twins, unions. No condition. -/
import Derived.Test.YtihgigmncgopjaaDoorKit
import Derived.Lib.SlicesCompact
import Derived.Sort.Walk0
namespace Go.Proofs.YtihgigmncgopjaaDoor
namespace NamesSpec
open Go.Lib

def kw : List (List UInt8) := [[99, 104, 97, 114, 116], [101, 118, 101, 110, 116], [118, 97, 114], [108, 101, 97, 102], [111, 114], [97, 110, 100], [101, 110, 116, 101, 114], [101, 120, 105, 116], [111, 110], [97, 117, 116, 111], [97, 110, 121], [105, 110], [109, 105, 110], [109, 97, 120], [110, 111, 116], [116, 114, 117, 101], [102, 97, 108, 115, 101]]
def kwS : List ByteArray := [⟨#[99, 104, 97, 114, 116]⟩, ⟨#[101, 118, 101, 110, 116]⟩, ⟨#[118, 97, 114]⟩, ⟨#[108, 101, 97, 102]⟩, ⟨#[111, 114]⟩, ⟨#[97, 110, 100]⟩, ⟨#[101, 110, 116, 101, 114]⟩, ⟨#[101, 120, 105, 116]⟩, ⟨#[111, 110]⟩, ⟨#[97, 117, 116, 111]⟩, ⟨#[97, 110, 121]⟩, ⟨#[105, 110]⟩, ⟨#[109, 105, 110]⟩, ⟨#[109, 97, 120]⟩, ⟨#[110, 111, 116]⟩, ⟨#[116, 114, 117, 101]⟩, ⟨#[102, 97, 108, 115, 101]⟩]
def isKw (l : List UInt8) : Bool := kw.contains l
def letter (c : UInt8) : Bool := 97 ≤ c && c ≤ 122
def later (c : UInt8) : Bool := letter c || (48 ≤ c && c ≤ 57) || c == 95
def isName (l : List UInt8) : Bool := decide (0 < l.length) && decide (l.length ≤ 12) && !isKw l && l.all later && l.head?.any letter

theorem isName_size {l : List UInt8} (h : l.length = 0 ∨ 12 < l.length) : isName l = false := by
  unfold isName
  rcases h with h | h
  · rw [h]; rfl
  · rw [decide_eq_false (show ¬ l.length ≤ 12 by omega)]; simp
theorem isName_kw {l : List UInt8} (h : isKw l = true) : isName l = false := by unfold isName; rw [h]; simp
theorem isName_later {l : List UInt8} {k : Nat} {c : UInt8} (hc : l[k]? = some c) (h : later c = false) : isName l = false := by
  have : l.all later = false := by
    rw [List.all_eq_false]
    exact ⟨c, List.mem_of_getElem? hc, by simp [h]⟩
  unfold isName; rw [this]; simp
theorem isName_head {l : List UInt8} {c : UInt8} (hc : l[0]? = some c) (h : letter c = false) : isName l = false := by
  have : l.head?.any letter = false := by rw [List.head?_eq_getElem?, hc]; simpa using h
  unfold isName; rw [this]; simp
theorem isName_yes {l : List UInt8} (h1 : 0 < l.length) (h2 : l.length ≤ 12) (h3 : isKw l = false) (h4 : l.all later = true) (h5 : ∀ c, l[0]? = some c → letter c = true) : isName l = true := by
  have h6 : l.head?.any letter = true := by
    cases l with
    | nil => simp at h1
    | cons c t => simpa using h5 c rfl
  unfold isName; rw [decide_eq_true h1, decide_eq_true h2, h3, h4, h6]; rfl
theorem letter_later {c : UInt8} (h : letter c = true) : later c = true := by unfold later; rw [h]; rfl
theorem isName_not_kw (l : List UInt8) : (isName l && isKw l) = false := by
  cases h : isKw l with
  | false => simp
  | true => rw [isName_kw h]; rfl

theorem kwS_mem (s : ByteArray) : s ∈ kwS ↔ isKw s.data.toList = true := by
  have e : kwS.map (·.data.toList) = kw := by decide
  unfold isKw
  rw [List.contains_iff_mem, ← e, List.mem_map]
  constructor
  · intro h; exact ⟨s, h, rfl⟩
  · rintro ⟨x, hx, he⟩
    have : x = s := ByteArray.ext (Array.toList_inj.mp he)
    exact this ▸ hx

/-- Is a text in a list? -/
def hasS (l : List ByteArray) (s : ByteArray) : Bool := l.any fun x => decide (x = s)
theorem hasS_iff {l : List ByteArray} {s : ByteArray} : hasS l s = true ↔ s ∈ l := by
  unfold hasS
  rw [List.any_eq_true]
  constructor
  · rintro ⟨x, hx, he⟩
    exact of_decide_eq_true he ▸ hx
  · intro h
    exact ⟨s, h, decide_eq_true rfl⟩
theorem hasS_no {l : List ByteArray} {s : ByteArray} : hasS l s = false ↔ s ∉ l := by rw [← hasS_iff, Bool.not_eq_true]
theorem hasS_cases (l : List ByteArray) (s : ByteArray) : hasS l s = true ∨ hasS l s = false := by cases hasS l s <;> simp

/-- The place of a text in a list. -/
theorem place_ge (l : List ByteArray) (s : ByteArray) : decide (0 ≤ idxOfS l s) = hasS l s := by
  rw [Bool.eq_iff_iff, hasS_iff]; simp [idxOfS_nonneg_iff]
theorem place_kw (s : ByteArray) : decide (0 ≤ idxOfS kwS s) = isKw s.data.toList := by
  rw [place_ge, Bool.eq_iff_iff, hasS_iff, kwS_mem]
theorem place_hit {l : List ByteArray} {k : Nat} {s : ByteArray} (h : l[k]? = some s) (hn : s ∉ l.take k) : idxOfS l s = k := by
  have hk := get_lt h
  have := idxOfS_hit l l.length k s hk (Nat.le_refl _) (by rw [List.getD_eq_getElem?_getD, h]; rfl) (fun j hj he => hn (by
    rw [List.mem_iff_getElem?]
    refine ⟨j, ?_⟩
    rw [List.getElem?_take_of_lt hj]
    rw [List.getD_eq_getElem?_getD, List.getElem?_eq_getElem (by omega)] at he
    rw [List.getElem?_eq_getElem (by omega)]
    simpa using he))
  rwa [List.take_of_length_le (Nat.le_refl _)] at this
theorem place_miss {l : List ByteArray} {s : ByteArray} (h : s ∉ l) : idxOfS l s = -1 := by
  have := idxOfS_miss l l.length s (fun j hj he => h (by
    rw [List.mem_iff_getElem?]
    refine ⟨j, ?_⟩
    rw [List.getD_eq_getElem?_getD, List.getElem?_eq_getElem hj] at he
    rw [List.getElem?_eq_getElem hj]
    simpa using he))
  rwa [List.take_of_length_le (Nat.le_refl _)] at this
theorem first_at {l : List ByteArray} {s : ByteArray} (h : s ∈ l) : ∃ k : Nat, l[k]? = some s ∧ s ∉ l.take k := by
  induction l with
  | nil => simp at h
  | cons a t ih =>
    by_cases ha : a = s
    · exact ⟨0, by simp [ha], by simp⟩
    · have ht : s ∈ t := by
        rcases List.mem_cons.1 h with h | h
        · exact absurd h.symm ha
        · exact h
      obtain ⟨k, h1, h2⟩ := ih ht
      refine ⟨k + 1, by simpa using h1, ?_⟩
      rw [List.take_succ_cons, List.mem_cons]
      rintro (h3 | h3)
      · exact ha h3.symm
      · exact h2 h3
theorem place_bd (l : List ByteArray) (s : ByteArray) : -1 ≤ idxOfS l s ∧ idxOfS l s ≤ l.length := by
  by_cases h : s ∈ l
  · obtain ⟨k, h1, h2⟩ := first_at h
    rw [place_hit h1 h2]
    have := get_lt h1
    omega
  · rw [place_miss h]; omega
theorem mem_take_mono {l : List ByteArray} {s : ByteArray} {j k : Nat} (h : s ∈ l.take j) (hj : j ≤ k) : s ∈ l.take k := by
  rw [show j = min j k by omega, ← List.take_take] at h
  exact List.mem_of_mem_take h
theorem place_lt {l : List ByteArray} {i : Nat} {s : ByteArray} (h : l[i]? = some s) : decide (idxOfS l s < (i : Int)) = hasS (l.take i) s := by
  obtain ⟨k, h1, h2⟩ := first_at (List.mem_of_getElem? h)
  rw [place_hit h1 h2, Bool.eq_iff_iff, hasS_iff, decide_eq_true_iff]
  constructor
  · intro hk
    rw [List.mem_iff_getElem?]
    exact ⟨k, by rw [List.getElem?_take_of_lt (by omega)]; exact h1⟩
  · intro hm
    rcases Nat.lt_or_ge k i with hlt | hge
    · omega
    · exact absurd (mem_take_mono hm hge) h2

/-- The places of those that are the same as one ahead, among the first k. -/
def twinsTo (l : List ByteArray) (k : Nat) : List Int := ((List.range k).filter fun i => hasS (l.take i) (l.getD i ByteArray.empty)).map fun (i : Nat) => (i : Int)
def twins (l : List ByteArray) : List Int := twinsTo l l.length
theorem getD_of {l : List ByteArray} {k : Nat} {s : ByteArray} (h : l[k]? = some s) : l.getD k ByteArray.empty = s := by rw [List.getD_eq_getElem?_getD, h]; rfl
theorem twinsTo_yes {l : List ByteArray} {k : Nat} {s : ByteArray} (h : l[k]? = some s) (hm : hasS (l.take k) s = true) : twinsTo l (k + 1) = twinsTo l k ++ [(k : Int)] := by
  unfold twinsTo
  rw [List.range_succ, List.filter_append, List.map_append, List.filter_cons, getD_of h, if_pos hm]
  rfl
theorem twinsTo_no {l : List ByteArray} {k : Nat} {s : ByteArray} (h : l[k]? = some s) (hm : hasS (l.take k) s = false) : twinsTo l (k + 1) = twinsTo l k := by
  unfold twinsTo
  rw [List.range_succ, List.filter_append, List.map_append, List.filter_cons, getD_of h, if_neg (by rw [hm]; simp)]
  simp
theorem twinsTo_length (l : List ByteArray) (k : Nat) : (twinsTo l k).length ≤ k := by
  unfold twinsTo
  rw [List.length_map]
  exact Nat.le_trans (List.length_filter_le _ _) (Nat.le_of_eq List.length_range)

/-- How often a text stands in a list. -/
def times (l : List ByteArray) (s : ByteArray) : Int := ((l.filter fun x => decide (x = s)).length : Nat)
theorem times_snoc (l : List ByteArray) (x s : ByteArray) : times (l ++ [x]) s = times l s + (if x = s then 1 else 0) := by
  unfold times
  rw [List.filter_append, List.length_append]
  by_cases h : x = s <;> simp [h]
theorem times_bd (l : List ByteArray) (s : ByteArray) : 0 ≤ times l s ∧ times l s ≤ l.length := by
  unfold times
  have := List.length_filter_le (fun x => decide (x = s)) l
  omega
theorem times_has (l : List ByteArray) (s : ByteArray) : decide (0 < times l s) = hasS l s := by
  unfold times hasS
  rw [Bool.eq_iff_iff, decide_eq_true_iff, List.any_eq_true, Int.natCast_pos, List.length_pos_iff_exists_mem]
  constructor
  · rintro ⟨x, hx⟩
    exact ⟨x, (List.mem_filter.1 hx).1, (List.mem_filter.1 hx).2⟩
  · rintro ⟨x, hx, he⟩
    exact ⟨x, List.mem_filter.2 ⟨hx, he⟩⟩
end NamesSpec
end Go.Proofs.YtihgigmncgopjaaDoor
