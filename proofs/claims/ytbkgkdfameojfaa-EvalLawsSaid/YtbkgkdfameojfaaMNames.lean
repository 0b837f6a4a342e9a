/- NamesSpec, NamesPlace, NamesWords, NamesRefIs, joined. -/
import Derived.Test.YtbkgkdfameojfaaMKits
import Derived.Lib.SlicesCompact
import Derived.Sort.Walk0
import Derived.Test.YtbkgkdfameojfaaRows
import Derived.Test.YtbkgkdfameojfaaShelf
import Derived.BigQuiet
import Derived.Deep.QuietTactic
import Derived.Lib.OthersKept
namespace Go.Proofs.Ytbkgkdfameojfaa
namespace NamesSpec
open Go.Lib

def kw : List (List UInt8) := [[99, 104, 97, 114, 116], [101, 118, 101, 110, 116], [118, 97, 114], [108, 101, 97, 102], [111, 114], [97, 110, 100], [101, 110, 116, 101, 114], [101, 120, 105, 116], [111, 110], [97, 117, 116, 111], [97, 110, 121], [105, 110], [109, 105, 110], [109, 97, 120], [110, 111, 116], [116, 114, 117, 101], [102, 97, 108, 115, 101]]
def kwS : List ByteArray := [⟨#[99, 104, 97, 114, 116]⟩, ⟨#[101, 118, 101, 110, 116]⟩, ⟨#[118, 97, 114]⟩, ⟨#[108, 101, 97, 102]⟩, ⟨#[111, 114]⟩, ⟨#[97, 110, 100]⟩, ⟨#[101, 110, 116, 101, 114]⟩, ⟨#[101, 120, 105, 116]⟩, ⟨#[111, 110]⟩, ⟨#[97, 117, 116, 111]⟩, ⟨#[97, 110, 121]⟩, ⟨#[105, 110]⟩, ⟨#[109, 105, 110]⟩, ⟨#[109, 97, 120]⟩, ⟨#[110, 111, 116]⟩, ⟨#[116, 114, 117, 101]⟩, ⟨#[102, 97, 108, 115, 101]⟩]
def isKw (l : List UInt8) : Bool := kw.contains l
def letter (c : UInt8) : Bool := 97 ≤ c && c ≤ 122
def later (c : UInt8) : Bool := letter c || (48 ≤ c && c ≤ 57) || c == 95
def isName (l : List UInt8) : Bool := decide (0 < l.length) && decide (l.length ≤ 12) && !isKw l && l.all later && l.head?.any letter

theorem isName_size {l : List UInt8} (h : l.length = 0 ∨ 12 < l.length) : isName l = false := by
  unfold isName
  rcases h with h | h
  · rw [h]; rfl
  · rw [decide_eq_false (show ¬ l.length ≤ 12 by omega)]; simp
theorem isName_kw {l : List UInt8} (h : isKw l = true) : isName l = false := by unfold isName; rw [h]; simp
theorem isName_later {l : List UInt8} {k : Nat} {c : UInt8} (hc : l[k]? = some c) (h : later c = false) : isName l = false := by
  have : l.all later = false := by
    rw [List.all_eq_false]
    exact ⟨c, List.mem_of_getElem? hc, by simp [h]⟩
  unfold isName; rw [this]; simp
theorem isName_head {l : List UInt8} {c : UInt8} (hc : l[0]? = some c) (h : letter c = false) : isName l = false := by
  have : l.head?.any letter = false := by rw [List.head?_eq_getElem?, hc]; simpa using h
  unfold isName; rw [this]; simp
theorem isName_yes {l : List UInt8} (h1 : 0 < l.length) (h2 : l.length ≤ 12) (h3 : isKw l = false) (h4 : l.all later = true) (h5 : ∀ c, l[0]? = some c → letter c = true) : isName l = true := by
  have h6 : l.head?.any letter = true := by
    cases l with
    | nil => simp at h1
    | cons c t => simpa using h5 c rfl
  unfold isName; rw [decide_eq_true h1, decide_eq_true h2, h3, h4, h6]; rfl
theorem letter_later {c : UInt8} (h : letter c = true) : later c = true := by unfold later; rw [h]; rfl
theorem isName_not_kw (l : List UInt8) : (isName l && isKw l) = false := by
  cases h : isKw l with
  | false => simp
  | true => rw [isName_kw h]; rfl

theorem kwS_mem (s : ByteArray) : s ∈ kwS ↔ isKw s.data.toList = true := by
  have e : kwS.map (·.data.toList) = kw := by decide
  unfold isKw
  rw [List.contains_iff_mem, ← e, List.mem_map]
  constructor
  · intro h; exact ⟨s, h, rfl⟩
  · rintro ⟨x, hx, he⟩
    have : x = s := ByteArray.ext (Array.toList_inj.mp he)
    exact this ▸ hx

/-- Is a text in a list? -/
def hasS (l : List ByteArray) (s : ByteArray) : Bool := l.any fun x => decide (x = s)
theorem hasS_iff {l : List ByteArray} {s : ByteArray} : hasS l s = true ↔ s ∈ l := by
  unfold hasS
  rw [List.any_eq_true]
  constructor
  · rintro ⟨x, hx, he⟩
    exact of_decide_eq_true he ▸ hx
  · intro h
    exact ⟨s, h, decide_eq_true rfl⟩
theorem hasS_no {l : List ByteArray} {s : ByteArray} : hasS l s = false ↔ s ∉ l := by rw [← hasS_iff, Bool.not_eq_true]
theorem hasS_cases (l : List ByteArray) (s : ByteArray) : hasS l s = true ∨ hasS l s = false := by cases hasS l s <;> simp

/-- The place of a text in a list. -/
theorem place_ge (l : List ByteArray) (s : ByteArray) : decide (0 ≤ idxOfS l s) = hasS l s := by
  rw [Bool.eq_iff_iff, hasS_iff]; simp [idxOfS_nonneg_iff]
theorem place_kw (s : ByteArray) : decide (0 ≤ idxOfS kwS s) = isKw s.data.toList := by
  rw [place_ge, Bool.eq_iff_iff, hasS_iff, kwS_mem]
theorem place_hit {l : List ByteArray} {k : Nat} {s : ByteArray} (h : l[k]? = some s) (hn : s ∉ l.take k) : idxOfS l s = k := by
  have hk := get_lt h
  have := idxOfS_hit l l.length k s hk (Nat.le_refl _) (by rw [List.getD_eq_getElem?_getD, h]; rfl) (fun j hj he => hn (by
    rw [List.mem_iff_getElem?]
    refine ⟨j, ?_⟩
    rw [List.getElem?_take_of_lt hj]
    rw [List.getD_eq_getElem?_getD, List.getElem?_eq_getElem (by omega)] at he
    rw [List.getElem?_eq_getElem (by omega)]
    simpa using he))
  rwa [List.take_of_length_le (Nat.le_refl _)] at this
theorem place_miss {l : List ByteArray} {s : ByteArray} (h : s ∉ l) : idxOfS l s = -1 := by
  have := idxOfS_miss l l.length s (fun j hj he => h (by
    rw [List.mem_iff_getElem?]
    refine ⟨j, ?_⟩
    rw [List.getD_eq_getElem?_getD, List.getElem?_eq_getElem hj] at he
    rw [List.getElem?_eq_getElem hj]
    simpa using he))
  rwa [List.take_of_length_le (Nat.le_refl _)] at this
theorem first_at {l : List ByteArray} {s : ByteArray} (h : s ∈ l) : ∃ k : Nat, l[k]? = some s ∧ s ∉ l.take k := by
  induction l with
  | nil => simp at h
  | cons a t ih =>
    by_cases ha : a = s
    · exact ⟨0, by simp [ha], by simp⟩
    · have ht : s ∈ t := by
        rcases List.mem_cons.1 h with h | h
        · exact absurd h.symm ha
        · exact h
      obtain ⟨k, h1, h2⟩ := ih ht
      refine ⟨k + 1, by simpa using h1, ?_⟩
      rw [List.take_succ_cons, List.mem_cons]
      rintro (h3 | h3)
      · exact ha h3.symm
      · exact h2 h3
theorem place_bd (l : List ByteArray) (s : ByteArray) : -1 ≤ idxOfS l s ∧ idxOfS l s ≤ l.length := by
  by_cases h : s ∈ l
  · obtain ⟨k, h1, h2⟩ := first_at h
    rw [place_hit h1 h2]
    have := get_lt h1
    omega
  · rw [place_miss h]; omega
theorem mem_take_mono {l : List ByteArray} {s : ByteArray} {j k : Nat} (h : s ∈ l.take j) (hj : j ≤ k) : s ∈ l.take k := by
  rw [show j = min j k by omega, ← List.take_take] at h
  exact List.mem_of_mem_take h
theorem place_lt {l : List ByteArray} {i : Nat} {s : ByteArray} (h : l[i]? = some s) : decide (idxOfS l s < (i : Int)) = hasS (l.take i) s := by
  obtain ⟨k, h1, h2⟩ := first_at (List.mem_of_getElem? h)
  rw [place_hit h1 h2, Bool.eq_iff_iff, hasS_iff, decide_eq_true_iff]
  constructor
  · intro hk
    rw [List.mem_iff_getElem?]
    exact ⟨k, by rw [List.getElem?_take_of_lt (by omega)]; exact h1⟩
  · intro hm
    rcases Nat.lt_or_ge k i with hlt | hge
    · omega
    · exact absurd (mem_take_mono hm hge) h2

/-- The places of those that are the same as one ahead, among the first k. -/
def twinsTo (l : List ByteArray) (k : Nat) : List Int := ((List.range k).filter fun i => hasS (l.take i) (l.getD i ByteArray.empty)).map fun (i : Nat) => (i : Int)
def twins (l : List ByteArray) : List Int := twinsTo l l.length
theorem getD_of {l : List ByteArray} {k : Nat} {s : ByteArray} (h : l[k]? = some s) : l.getD k ByteArray.empty = s := by rw [List.getD_eq_getElem?_getD, h]; rfl
theorem twinsTo_yes {l : List ByteArray} {k : Nat} {s : ByteArray} (h : l[k]? = some s) (hm : hasS (l.take k) s = true) : twinsTo l (k + 1) = twinsTo l k ++ [(k : Int)] := by
  unfold twinsTo
  rw [List.range_succ, List.filter_append, List.map_append, List.filter_cons, getD_of h, if_pos hm]
  rfl
theorem twinsTo_no {l : List ByteArray} {k : Nat} {s : ByteArray} (h : l[k]? = some s) (hm : hasS (l.take k) s = false) : twinsTo l (k + 1) = twinsTo l k := by
  unfold twinsTo
  rw [List.range_succ, List.filter_append, List.map_append, List.filter_cons, getD_of h, if_neg (by rw [hm]; simp)]
  simp
theorem twinsTo_length (l : List ByteArray) (k : Nat) : (twinsTo l k).length ≤ k := by
  unfold twinsTo
  rw [List.length_map]
  exact Nat.le_trans (List.length_filter_le _ _) (Nat.le_of_eq List.length_range)

/-- How often a text stands in a list. -/
def times (l : List ByteArray) (s : ByteArray) : Int := ((l.filter fun x => decide (x = s)).length : Nat)
theorem times_snoc (l : List ByteArray) (x s : ByteArray) : times (l ++ [x]) s = times l s + (if x = s then 1 else 0) := by
  unfold times
  rw [List.filter_append, List.length_append]
  by_cases h : x = s <;> simp [h]
theorem times_bd (l : List ByteArray) (s : ByteArray) : 0 ≤ times l s ∧ times l s ≤ l.length := by
  unfold times
  have := List.length_filter_le (fun x => decide (x = s)) l
  omega
theorem times_has (l : List ByteArray) (s : ByteArray) : decide (0 < times l s) = hasS l s := by
  unfold times hasS
  rw [Bool.eq_iff_iff, decide_eq_true_iff, List.any_eq_true, Int.natCast_pos, List.length_pos_iff_exists_mem]
  constructor
  · rintro ⟨x, hx⟩
    exact ⟨x, (List.mem_filter.1 hx).1, (List.mem_filter.1 hx).2⟩
  · rintro ⟨x, hx, he⟩
    exact ⟨x, List.mem_filter.2 ⟨hx, he⟩⟩
end NamesSpec
end Go.Proofs.Ytbkgkdfameojfaa

namespace Go.Proofs.Ytbkgkdfameojfaa
open Go.RowKit NamesSpec Go.Lib
set_option maxRecDepth 100000

def RetStrs (W : World) (l : List ByteArray) (e : Ending) (w' : World) : Prop := ∃ v, e = .returned v ∧ Rd w' v (strV l) ∧ Below W.heap.size W w'
def RetInts (W : World) (l : List Int) (e : Ending) (w' : World) : Prop := ∃ v, e = .returned v ∧ Rd w' v (intV l) ∧ Below W.heap.size W w'

def PlaceRel (l : List ByteArray) (n : Nat) (s : ByteArray) (i : Value) : Prop := ∃ k : Nat, k ≤ n ∧ i = .int .i64 k ∧ s ∉ l.take k
set_option maxHeartbeats 400000 in
theorem rplace_any (v : Value) (l : List ByteArray) (s : ByteArray) (w : World) (h : Rd w v (strV l)) (hm : l.length ≤ 9223372036854775807) :
    Calls Try.prog 28 #[v, .string s] w fun e w' => e = .returned (.int .i64 (idxOfS l s)) ∧ w = w' := by
  obtain ⟨A, n, c, rfl, hn, hc, hA⟩ := h.strs
  have HA := Lib.hid hA
  have HN := Lib.hid hn
  have hm' : n ≤ 9223372036854775807 := by omega
  clear hA hn h hc hm
  go_enter Try.func28, Try.ntmps28
  go_wp2
  go_loop [5] (fun i => PlaceRel l n s i) (fun i => n - (RowKit.intOf i).toNat)
  case atStart => exact ⟨0, Nat.zero_le _, rfl, by simp⟩
  case round =>
    obtain ⟨k, hk, rfl, hno⟩ := hrel
    by_cases hlt : k < n
    · obtain ⟨b, off, rfl, hb, hcell⟩ := HA.out (by omega)
      obtain ⟨x, hx⟩ : ∃ x, l[k]? = some x := get_some (by have := HN.out; omega)
      have hck := hcell k x hx
      have HX := Lib.hid hx
      have HO := Lib.hid hno
      clear hcell hx hno
      rcases hxs : (x.toList == s.toList) with _ | _
      · go_wp2
        go_round
        case rel =>
          refine ⟨k + 1, by omega, by go_num, ?_⟩
          rw [take_next HX.out, List.mem_append, List.mem_singleton]
          rintro (h1 | h1)
          · exact HO.out h1
          · exact bytes_ne hxs h1.symm
        case measure => simp [RowKit.intOf]; omega
      · go_wp2
        go_ret
        exact ⟨ret_int (by rw [← bytes_eq hxs] at HO ⊢; exact (place_hit HX.out HO.out).symm), rfl⟩
    · go_wp2
      go_ret
      have := HN.out
      exact ⟨ret_int (by rw [List.take_of_length_le (by omega)] at hno; exact (place_miss hno).symm), rfl⟩

theorem nplace_any (v : Value) (l : List ByteArray) (s : ByteArray) (w : World) (h : Rd w v (strV l)) (hm : l.length ≤ 9223372036854775807) :
    Calls Try.prog 46 #[v, .string s] w fun e w' => e = .returned (.int .i64 (idxOfS l s)) ∧ w = w' := by
  obtain ⟨A, n, c, rfl, hn, hc, hA⟩ := h.strs
  rcases Nat.eq_zero_or_pos n with h0 | h0
  · subst h0
    obtain rfl : l = [] := List.eq_nil_of_length_eq_zero hn
    clear h hn hc hA hm
    go_enter Try.func46, Try.ntmps46
    go_wp2_with (go_at_call 57; refine (Try.slices_Index_string_empty _ _ _ _).mono ?_; rintro e w' ⟨rfl, rfl⟩)
    go_ret
    exact ⟨rfl, rfl⟩
  · obtain ⟨b, off, rfl, hb, hcell⟩ := hA h0
    have H := Lib.hid (Try.slices_Index_string b off n c l s w (by omega) (by omega) (fun j hj => by
      obtain ⟨x, hx⟩ := get_some hj
      rw [hcell j x hx, getD_of hx]))
    have HN := Lib.hid hn
    clear h hn hc hA hm hcell
    go_enter Try.func46, Try.ntmps46
    go_wp2_with (go_at_call 57; refine H.out.mono ?_; rintro e w' ⟨rfl, rfl⟩)
    go_ret
    exact ⟨ret_int (by rw [← HN.out, List.take_of_length_le (Nat.le_refl _)]), rfl⟩

/-- Is some text longer? -/
def longB (l : List ByteArray) (m : Int) : Bool := l.any fun s => decide (m < (s.size : Int))
def LongRel (l : List ByteArray) (n : Nat) (m : Int) (i : Value) : Prop := ∃ k : Nat, k ≤ n ∧ i = .int .i64 k ∧ longB (l.take k) m = false
/-- Are two lists the same? -/
def sameS (a b : List ByteArray) : Bool := decide (a = b)
def sameI (a b : List Int) : Bool := decide (a = b)
theorem same_step {α : Type} {a b : List α} {k : Nat} {x y : α} (h : a.take k = b.take k) (hx : a[k]? = some x) (hy : b[k]? = some y) : a.take (k + 1) = b.take (k + 1) ↔ x = y := by
  rw [take_next hx, take_next hy, h]; simp
theorem same_ne {α : Type} {a b : List α} {k : Nat} {x y : α} (hx : a[k]? = some x) (hy : b[k]? = some y) (h : x ≠ y) : a ≠ b := by
  rintro rfl
  rw [hx] at hy
  exact h (by injection hy)

def SameRel {α : Type} (W : World) (a b : List α) (n : Nat) (i : Value) (w : World) : Prop := ∃ (k q : Nat), k ≤ n ∧ i = .int .i64 k ∧ a.take k = b.take k ∧ w = W.drewN q
def BoolQuiet (W : World) (b : Bool) (e : Ending) (w' : World) : Prop := e = .returned (.bool b) ∧ ∃ q, w' = W.drewN q
theorem BoolQuiet.below {W : World} {b : Bool} {e : Ending} {w' : World} (h : BoolQuiet W b e w') : e = .returned (.bool b) ∧ Below W.heap.size W w' := by
  obtain ⟨rfl, q, rfl⟩ := h
  exact ⟨rfl, below_drewN (Below.refl _ _) q⟩
end Go.Proofs.Ytbkgkdfameojfaa

namespace Go.Proofs.Ytbkgkdfameojfaa
open Go.RowKit NamesSpec Go.Lib
set_option maxRecDepth 100000

theorem keywords_any (w : World) : Calls Try.prog 58 #[] w (RetStrs w kwS) := by
  go_enter Try.func58, Try.ntmps58
  go_wp2
  go_ret
  exact ⟨_, rfl, Rd.lit (cs := (strV kwS).toArray) rfl, (Below.refl _ _).alloc (Nat.le_refl _) _⟩

theorem toList_of (s : ByteArray) : s.toList = s.data.toList := ByteArray.toList_eq s
theorem kw_yes {s : ByteArray} {x : List UInt8} (h : (s.toList == x) = true) (hx : isKw x = true) : isKw s.data.toList = true := by
  rw [← toList_of, eq_of_beq h]; exact hx
theorem kw_no {s : ByteArray} (h : ∀ x ∈ kw, (s.toList == x) = false) : isKw s.data.toList = false := by
  rw [← toList_of]
  unfold isKw
  rw [Bool.eq_false_iff]
  intro hc
  have hm := List.contains_iff_mem.1 hc
  have := h _ hm
  simp at this

set_option maxHeartbeats 800000 in
theorem keyword_any (s : ByteArray) (w : World) : Calls Try.prog 59 #[.string s] w fun e w' => e = .returned (.bool (isKw s.data.toList)) ∧ w = w' := by
  rcases h0 : (s.toList == [99, 104, 97, 114, 116]) with _ | _
  case true =>
    go_enter Try.func59, Try.ntmps59
    go_wp2
    go_ret
    exact ⟨ret_bool (kw_yes h0 (by decide)).symm, rfl⟩
  rcases h1 : (s.toList == [101, 118, 101, 110, 116]) with _ | _
  case true =>
    go_enter Try.func59, Try.ntmps59
    go_wp2
    go_ret
    exact ⟨ret_bool (kw_yes h1 (by decide)).symm, rfl⟩
  rcases h2 : (s.toList == [118, 97, 114]) with _ | _
  case true =>
    go_enter Try.func59, Try.ntmps59
    go_wp2
    go_ret
    exact ⟨ret_bool (kw_yes h2 (by decide)).symm, rfl⟩
  rcases h3 : (s.toList == [108, 101, 97, 102]) with _ | _
  case true =>
    go_enter Try.func59, Try.ntmps59
    go_wp2
    go_ret
    exact ⟨ret_bool (kw_yes h3 (by decide)).symm, rfl⟩
  rcases h4 : (s.toList == [111, 114]) with _ | _
  case true =>
    go_enter Try.func59, Try.ntmps59
    go_wp2
    go_ret
    exact ⟨ret_bool (kw_yes h4 (by decide)).symm, rfl⟩
  rcases h5 : (s.toList == [97, 110, 100]) with _ | _
  case true =>
    go_enter Try.func59, Try.ntmps59
    go_wp2
    go_ret
    exact ⟨ret_bool (kw_yes h5 (by decide)).symm, rfl⟩
  rcases h6 : (s.toList == [101, 110, 116, 101, 114]) with _ | _
  case true =>
    go_enter Try.func59, Try.ntmps59
    go_wp2
    go_ret
    exact ⟨ret_bool (kw_yes h6 (by decide)).symm, rfl⟩
  rcases h7 : (s.toList == [101, 120, 105, 116]) with _ | _
  case true =>
    go_enter Try.func59, Try.ntmps59
    go_wp2
    go_ret
    exact ⟨ret_bool (kw_yes h7 (by decide)).symm, rfl⟩
  rcases h8 : (s.toList == [111, 110]) with _ | _
  case true =>
    go_enter Try.func59, Try.ntmps59
    go_wp2
    go_ret
    exact ⟨ret_bool (kw_yes h8 (by decide)).symm, rfl⟩
  rcases h9 : (s.toList == [97, 117, 116, 111]) with _ | _
  case true =>
    go_enter Try.func59, Try.ntmps59
    go_wp2
    go_ret
    exact ⟨ret_bool (kw_yes h9 (by decide)).symm, rfl⟩
  rcases h10 : (s.toList == [97, 110, 121]) with _ | _
  case true =>
    go_enter Try.func59, Try.ntmps59
    go_wp2
    go_ret
    exact ⟨ret_bool (kw_yes h10 (by decide)).symm, rfl⟩
  rcases h11 : (s.toList == [105, 110]) with _ | _
  case true =>
    go_enter Try.func59, Try.ntmps59
    go_wp2
    go_ret
    exact ⟨ret_bool (kw_yes h11 (by decide)).symm, rfl⟩
  rcases h12 : (s.toList == [109, 105, 110]) with _ | _
  case true =>
    go_enter Try.func59, Try.ntmps59
    go_wp2
    go_ret
    exact ⟨ret_bool (kw_yes h12 (by decide)).symm, rfl⟩
  rcases h13 : (s.toList == [109, 97, 120]) with _ | _
  case true =>
    go_enter Try.func59, Try.ntmps59
    go_wp2
    go_ret
    exact ⟨ret_bool (kw_yes h13 (by decide)).symm, rfl⟩
  rcases h14 : (s.toList == [110, 111, 116]) with _ | _
  case true =>
    go_enter Try.func59, Try.ntmps59
    go_wp2
    go_ret
    exact ⟨ret_bool (kw_yes h14 (by decide)).symm, rfl⟩
  rcases h15 : (s.toList == [116, 114, 117, 101]) with _ | _
  case true =>
    go_enter Try.func59, Try.ntmps59
    go_wp2
    go_ret
    exact ⟨ret_bool (kw_yes h15 (by decide)).symm, rfl⟩
  rcases h16 : (s.toList == [102, 97, 108, 115, 101]) with _ | _
  case true =>
    go_enter Try.func59, Try.ntmps59
    go_wp2
    go_ret
    exact ⟨ret_bool (kw_yes h16 (by decide)).symm, rfl⟩
  have HK : Hid (isKw s.data.toList = false) := Lib.hid (kw_no (by
    intro x hx
    simp only [kw, List.mem_cons, List.not_mem_nil, or_false] at hx
    rcases hx with rfl | rfl | rfl | rfl | rfl | rfl | rfl | rfl | rfl | rfl | rfl | rfl | rfl | rfl | rfl | rfl | rfl <;> assumption))
  go_enter Try.func59, Try.ntmps59
  go_wp2
  go_ret
  exact ⟨ret_bool HK.out.symm, rfl⟩

/-- May a name begin with a rune; may a rune stand in one? -/
def begB (r : Int) : Bool := decide (97 ≤ r) && decide (r ≤ 122)
def goB (r : Int) : Bool := begB r || decide (48 ≤ r) && decide (r ≤ 57) || decide (r = 95)
theorem begins_any (r : Int) (w : World) : Calls Try.prog 60 #[.int .i32 r] w fun e w' => e = .returned (.bool (begB r)) ∧ w = w' := by
  by_cases h1 : 97 ≤ r <;> by_cases h2 : r ≤ 122
  all_goals
    go_enter Try.func60, Try.ntmps60
    go_wp2
    go_ret
    exact ⟨ret_bool (by unfold begB; simp [h1, h2]), rfl⟩
theorem begins_is {r : Int} {b : Bool} (h : begB r = b) (w : World) : Calls Try.prog 60 #[.int .i32 r] w fun e w' => e = .returned (.bool b) ∧ w = w' := by
  subst h; exact begins_any r w
theorem goesOn_any (r : Int) (w : World) : Calls Try.prog 61 #[.int .i32 r] w fun e w' => e = .returned (.bool (goB r)) ∧ w = w' := by
  rcases hb : begB r with _ | _
  all_goals
    have HB := Lib.hid hb
    clear hb
    by_cases h1 : 48 ≤ r <;> by_cases h2 : r ≤ 57 <;> by_cases h3 : r = 95
    all_goals first
      | (exfalso; omega)
      | (try subst h3
         go_enter Try.func61, Try.ntmps61
         go_wp2_with (go_at_call 60; refine (begins_is HB.out _).mono ?_; rintro e w' ⟨rfl, rfl⟩)
         go_ret
         exact ⟨ret_bool (by unfold goB; rw [HB.out, Bool.eq_iff_iff]; simp; try omega), rfl⟩)
theorem goesOn_is {r : Int} {b : Bool} (h : goB r = b) (w : World) : Calls Try.prog 61 #[.int .i32 r] w fun e w' => e = .returned (.bool b) ∧ w = w' := by
  subst h; exact goesOn_any r w

theorem get_bang (s : ByteArray) (i : Nat) (h : i < s.size) : s.get! i = s[i] := by
  simp [ByteArray.get!, getElem!_pos, h]; rfl
theorem dec_big (s : ByteArray) (i : Nat) (h : i < s.size) (hb : 128 ≤ s[i].toNat) : 128 ≤ (Utf8.decode s i).1 := by
  unfold Utf8.decode
  simp only [Nat.add_zero, get_bang s i h]
  rw [if_neg (by omega)]
  repeat' split
  all_goals (try simp only [Utf8.runeError]) <;> (try simp only [Bool.and_eq_true, decide_eq_true_eq, ge_iff_le] at *) <;> omega
theorem goB_of (c : UInt8) : goB (c.toNat : Int) = later c := by
  rw [Bool.eq_iff_iff]
  simp [goB, begB, later, letter, UInt8.le_iff_toNat_le, ← UInt8.toNat_inj]
  omega
theorem begB_of (c : UInt8) : begB (c.toNat : Int) = letter c := by
  rw [Bool.eq_iff_iff]
  simp [begB, letter, UInt8.le_iff_toNat_le]
  omega
theorem later_small {c : UInt8} (h : later c = true) : c.toNat < 128 := by
  simp [later, letter, UInt8.le_iff_toNat_le, ← UInt8.toNat_inj] at h
  omega
theorem dec_later (s : ByteArray) (i : Nat) (h : i < s.size) : goB ((Utf8.decode s i).1 : Int) = later s[i] := by
  by_cases hb : s[i].toNat < 128
  · rw [decode_ascii s i h hb]; exact goB_of _
  · have h1 := dec_big s i h (by omega)
    have h2 : later s[i] = false := by
      rw [← Bool.not_eq_true]; intro hc; exact hb (later_small hc)
    rw [h2, ← Bool.not_eq_true]
    simp [goB, begB]
    omega
theorem dec_letter (s : ByteArray) (i : Nat) (h : i < s.size) : begB ((Utf8.decode s i).1 : Int) = letter s[i] := by
  by_cases hb : s[i].toNat < 128
  · rw [decode_ascii s i h hb]; exact begB_of _
  · have h1 := dec_big s i h (by omega)
    have h2 : letter s[i] = false := by
      rw [← Bool.not_eq_true]; intro hc; exact hb (later_small (letter_later hc))
    rw [h2, ← Bool.not_eq_true]
    simp [begB]
    omega
theorem dec_one (s : ByteArray) (i : Nat) (h : i < s.size) (hl : later s[i] = true) : (Utf8.decode s i).2 = 1 := by rw [decode_ascii s i h (later_small hl)]
theorem byte_at (s : ByteArray) (i : Nat) (h : i < s.size) : s.data.toList[i]? = some s[i] := by
  rw [List.getElem?_eq_getElem (by simpa using h)]; rfl
theorem str_nil' {s : ByteArray} (h : s.size = 0) : s.toList = [] := by
  rw [ByteArray.toList_eq, ← List.length_eq_zero_iff]; exact h
theorem str_ne' {s : ByteArray} (h : 0 < s.size) : s.toList.isEmpty = false := by
  have e : s.toList.length = s.size := by rw [ByteArray.toList_eq]; rfl
  cases h' : s.toList with
  | nil => rw [h'] at e; simp at e; omega
  | cons a l => rfl
theorem size_list (s : ByteArray) : s.data.toList.length = s.size := rfl

def IsRel (W : World) (s : ByteArray) (wr : World) : Prop := ∃ pos, pos ≤ s.size ∧ wr.heap[W.heap.size]? = some (.stringIter s pos) ∧ Below W.heap.size W wr ∧ (s.data.toList.take pos).all later = true ∧ (0 < pos → ∀ c, s.data.toList[0]? = some c → letter c = true)
theorem isRel_next {W wr : World} {s : ByteArray} {pos : Nat} (hp : pos < s.size) (hit : wr.heap[W.heap.size]? = some (.stringIter s pos)) (hb : Below W.heap.size W wr) (ha : (s.data.toList.take pos).all later = true)
    (h0 : 0 < pos → ∀ c, s.data.toList[0]? = some c → letter c = true) (hl : later s[pos] = true) (hz : pos = 0 → letter s[pos] = true) : IsRel W s (wr.iterAt W.heap.size s (pos + 1)) := by
  refine ⟨pos + 1, by omega, iterAt_heap _ _ _ _ _ hit, below_iterAt hb (Nat.le_refl _) _ _, ?_, fun _ c hc => ?_⟩
  · rw [take_next (byte_at s pos hp), List.all_append, ha]; simpa using hl
  · rcases Nat.eq_zero_or_pos pos with h | h
    · subst h
      rw [byte_at s 0 hp] at hc
      injection hc with hc
      exact hc ▸ hz rfl
    · exact h0 h c hc

set_option maxHeartbeats 1600000 in
theorem is_any (s : ByteArray) (w : World) (hs : s.size ≤ 9223372036854775807) : Calls Try.prog 53 #[.string s] w fun e w' => e = .returned (.bool (isName s.data.toList)) ∧ Below w.heap.size w w' := by
  rcases Nat.eq_zero_or_pos s.size with h0 | h0
  · have HE : Hid (isName s.data.toList = false) := Lib.hid (isName_size (.inl h0))
    have hnil := str_nil' h0
    clear h0 hs
    go_enter Try.func53, Try.ntmps53
    go_wp2
    go_ret
    exact ⟨ret_bool HE.out.symm, Below.refl _ _⟩
  · have hne := str_ne' h0
    by_cases h12 : 12 < s.size
    · have HE : Hid (isName s.data.toList = false) := Lib.hid (isName_size (.inr h12))
      go_enter Try.func53, Try.ntmps53
      go_wp2
      go_ret
      exact ⟨ret_bool HE.out.symm, Below.refl _ _⟩
    · rcases hk : isKw s.data.toList with _ | _
      case true =>
        have HE : Hid (isName s.data.toList = false) := Lib.hid (isName_kw hk)
        have HC := Lib.hid (hk ▸ keyword_any s w)
        clear hk
        go_enter Try.func53, Try.ntmps53
        go_wp2_with (go_at_call 59; refine HC.out.mono ?_; rintro e w' ⟨rfl, rfl⟩)
        go_ret
        exact ⟨ret_bool HE.out.symm, Below.refl _ _⟩
      have HC := Lib.hid (hk ▸ keyword_any s w)
      have HK := Lib.hid hk
      clear hk
      go_enter Try.func53, Try.ntmps53
      go_wp2_with (go_at_call 59; refine HC.out.mono ?_; rintro e w' ⟨rfl, rfl⟩)
      go_loopw [] (fun wr => IsRel w s wr) (fun wr => s.size - wr.iterPos w.heap.size)
      case atStart => exact ⟨0, Nat.zero_le _, World.iter_heap w s 0, (Below.refl _ w).alloc (Nat.le_refl _) _, rfl, fun h => absurd h (by omega)⟩
      case round =>
        obtain ⟨pos, hps, hit, hbw, hall, hhead⟩ := hrel
        by_cases hp : pos < s.size
        · have hnx : ∀ ty, (Instr.next (.pointer (some ⟨w.heap.size, 0, none⟩)) true ty).run Try.prog wr = _ := fun ty => Lib.run_next_any_at wr w.heap.size s pos ty hit hp
          have hgo := dec_later s pos hp
          have hbe := dec_letter s pos hp
          have hw1 := dec_one s pos hp
          have hat := byte_at s pos hp
          have hrel := isRel_next hp hit hbw hall hhead
          have HM : Hid (s.size - (wr.iterAt w.heap.size s (pos + 1)).iterPos w.heap.size < s.size - wr.iterPos w.heap.size) := Lib.hid (by
            simp only [World.iterPos, iterAt_heap _ _ _ _ _ hit, hit]; omega)
          obtain ⟨c, hc⟩ : ∃ c, c = s[pos] := ⟨_, rfl⟩
          rw [← hc] at hgo hbe hw1 hat hrel
          clear hc
          obtain ⟨r, hr⟩ : ∃ r, r = (Utf8.decode s pos).1 := ⟨_, rfl⟩
          obtain ⟨wd, hwd⟩ : ∃ wd, wd = (Utf8.decode s pos).2 := ⟨_, rfl⟩
          rw [← hr] at hgo hbe hnx
          rw [← hwd] at hw1 hnx
          clear hr hwd hall hhead
          have HB := Lib.hid hbw
          have HA := Lib.hid hat
          clear hat hit hbw
          rcases Nat.eq_zero_or_pos pos with hz | hz
          · subst hz
            rcases hl : letter c with _ | _
            · have HE : Hid (isName s.data.toList = false) := Lib.hid (isName_head HA.out hl)
              have HBc := Lib.hid (begins_is (hbe.trans hl))
              clear hl hbe hgo hw1 hrel HM
              go_wp2_with (go_at_call 60; refine (HBc.out _).mono ?_; rintro e w' ⟨rfl, rfl⟩)
              go_ret
              exact ⟨ret_bool HE.out.symm, below_iterAt HB.out (Nat.le_refl _) _ _⟩
            · have HBc := Lib.hid (begins_is (hbe.trans hl))
              have HGc := Lib.hid (goesOn_is (hgo.trans (letter_later hl)))
              have HR := Lib.hid (hrel (letter_later hl) (fun _ => hl))
              obtain rfl : wd = 1 := hw1 (letter_later hl)
              clear hl hbe hgo hrel hw1
              go_wp2_with (first | (go_at_call 60; refine (HBc.out _).mono ?_; rintro e w' ⟨rfl, rfl⟩) | (go_at_call 61; refine (HGc.out _).mono ?_; rintro e w' ⟨rfl, rfl⟩))
              go_roundw
              case rel => exact HR.out
              case measure => exact HM.out
          · have hz' : ((pos : Int) == 0) = false := by simp; omega
            rcases hl : later c with _ | _
            · have HE : Hid (isName s.data.toList = false) := Lib.hid (isName_later HA.out hl)
              have HGc := Lib.hid (goesOn_is (hgo.trans hl))
              clear hl hbe hgo hw1 hrel HM
              go_wp2_with (go_at_call 61; refine (HGc.out _).mono ?_; rintro e w' ⟨rfl, rfl⟩)
              go_ret
              exact ⟨ret_bool HE.out.symm, below_iterAt HB.out (Nat.le_refl _) _ _⟩
            · have HGc := Lib.hid (goesOn_is (hgo.trans hl))
              have HR := Lib.hid (hrel hl (fun h => absurd h (by omega)))
              obtain rfl : wd = 1 := hw1 hl
              clear hl hbe hgo hrel hw1
              go_wp2_with (go_at_call 61; refine (HGc.out _).mono ?_; rintro e w' ⟨rfl, rfl⟩)
              go_roundw
              case rel => exact HR.out
              case measure => exact HM.out
        · have hnx : ∀ ty, (Instr.next (.pointer (some ⟨w.heap.size, 0, none⟩)) true ty).run Try.prog wr = _ := fun ty => Lib.run_next_end_at wr w.heap.size s pos ty hit hp
          have hall' : s.data.toList.all later = true := by rw [List.take_of_length_le (by rw [size_list]; omega)] at hall; exact hall
          have HE : Hid (isName s.data.toList = true) := Lib.hid (isName_yes (by rw [size_list]; omega) (by rw [size_list]; omega) HK.out hall' (hhead (by omega)))
          clear hall hall' hhead
          go_wp2
          go_ret
          exact ⟨ret_bool HE.out.symm, hbw⟩
end Go.Proofs.Ytbkgkdfameojfaa

namespace Go.Proofs.Ytbkgkdfameojfaa
open Go.RowKit NamesSpec Go.Lib
set_option maxRecDepth 100000

theorem letter_iff (c : UInt8) : letter c = true ↔ 97 ≤ (c.toNat : Int) ∧ (c.toNat : Int) ≤ 122 := by
  simp [letter, UInt8.le_iff_toNat_le]; omega
theorem later_iff (c : UInt8) : later c = true ↔ (97 ≤ (c.toNat : Int) ∧ (c.toNat : Int) ≤ 122) ∨ (48 ≤ (c.toNat : Int) ∧ (c.toNat : Int) ≤ 57) ∨ (c.toNat : Int) = 95 := by
  rw [later, Bool.or_eq_true, Bool.or_eq_true, letter_iff]
  simp [UInt8.le_iff_toNat_le, ← UInt8.toNat_inj]; omega
theorem kw_place_is {s : ByteArray} {b : Bool} (h : isKw s.data.toList = b) : decide (0 ≤ idxOfS kwS s) = b := by rw [place_kw, h]

def RIsRel (s : ByteArray) (i : Value) : Prop := ∃ k : Nat, k ≤ s.size ∧ i = .int .i64 k ∧ (s.data.toList.take k).all later = true ∧ (0 < k → ∀ c, s.data.toList[0]? = some c → letter c = true)
theorem risRel_next {s : ByteArray} {k : Nat} (hp : k < s.size) (ha : (s.data.toList.take k).all later = true) (h0 : 0 < k → ∀ c, s.data.toList[0]? = some c → letter c = true) (hl : later s[k] = true) (hz : k = 0 → letter s[k] = true) : RIsRel s (.int .i64 (k + 1 : Nat)) := by
  refine ⟨k + 1, by omega, rfl, ?_, fun _ c hc => ?_⟩
  · rw [take_next (byte_at s k hp), List.all_append, ha]; simpa using hl
  · rcases Nat.eq_zero_or_pos k with h | h
    · subst h
      rw [byte_at s 0 hp] at hc
      injection hc with hc
      exact hc ▸ hz rfl
    · exact h0 h c hc

set_option maxHeartbeats 1600000 in
theorem ris_any (s : ByteArray) (w : World) (hs : s.size ≤ 9223372036854775807) : Calls Try.prog 51 #[.string s] w fun e w' => e = .returned (.bool (isName s.data.toList)) ∧ Below w.heap.size w w' := by
  by_cases h0 : s.size < 1
  · have HE : Hid (isName s.data.toList = false) := Lib.hid (isName_size (.inl (by rw [size_list]; omega)))
    go_enter Try.func51, Try.ntmps51
    go_wp2
    go_ret
    exact ⟨ret_bool HE.out.symm, Below.refl _ _⟩
  by_cases h12 : 12 < s.size
  · have HE : Hid (isName s.data.toList = false) := Lib.hid (isName_size (.inr h12))
    go_enter Try.func51, Try.ntmps51
    go_wp2
    go_ret
    exact ⟨ret_bool HE.out.symm, Below.refl _ _⟩
  rcases hk : isKw s.data.toList with _ | _
  case true =>
    have HE : Hid (isName s.data.toList = false) := Lib.hid (isName_kw hk)
    have hpl := kw_place_is hk
    clear hk
    go_enter Try.func51, Try.ntmps51
    go_wp2_with (first
      | (go_at_call 58; refine (keywords_any _).mono ?_; rintro e w' ⟨v, rfl, hrd, hbw⟩)
      | (go_at_call 28; refine (rplace_any _ kwS s _ hrd (by decide)).mono ?_; rintro e w' ⟨rfl, rfl⟩))
    go_ret
    exact ⟨ret_bool HE.out.symm, hbw⟩
  have hpl := kw_place_is hk
  have HK := Lib.hid hk
  clear hk
  go_enter Try.func51, Try.ntmps51
  go_wp2_with (first
    | (go_at_call 58; refine (keywords_any _).mono ?_; rintro e w' ⟨v, rfl, hrd, hbw⟩)
    | (go_at_call 28; refine (rplace_any _ kwS s _ hrd (by decide)).mono ?_; rintro e w' ⟨rfl, rfl⟩))
  clear hrd hpl
  go_loop [3] (fun i => RIsRel s i) (fun i => s.size - (RowKit.intOf i).toNat)
  case atStart => exact ⟨0, Nat.zero_le _, rfl, rfl, fun h => absurd h (by omega)⟩
  case round =>
    obtain ⟨k, hks, rfl, hall, hhead⟩ := hrel
    by_cases hp : k < s.size
    · have hrel := risRel_next hp hall hhead
      have hat := byte_at s k hp
      have hli := letter_iff s[k]
      have hla := later_iff s[k]
      have hub : (s[k].toNat : Int) ≤ 255 := by have := s[k].toNat_lt; omega
      have hlb : 0 ≤ (s[k].toNat : Int) := by omega
      by_cases hL : letter s[k] = true
      · have HR := Lib.hid (hrel (letter_later hL) (fun _ => hL))
        obtain ⟨g1, g2⟩ := hli.1 hL
        clear hrel hat hli hla hL hall hhead
        go_wp2
        go_round
        case rel => exact HR.out
        case measure => simp [RowKit.intOf]; omega
      · rcases Nat.eq_zero_or_pos k with hz | hz
        · subst hz
          have HE : Hid (isName s.data.toList = false) := Lib.hid (isName_head hat (by simpa using hL))
          have g : ¬ (97 ≤ (s[0].toNat : Int) ∧ (s[0].toNat : Int) ≤ 122) := fun h => hL (hli.2 h)
          clear hrel hat hli hla hL hall hhead
          by_cases g1 : 97 ≤ (s[0].toNat : Int)
          · have g2 : 122 < (s[0].toNat : Int) := by omega
            clear g
            go_wp2
            go_ret
            exact ⟨ret_bool HE.out.symm, hbw⟩
          · clear g
            go_wp2
            go_ret
            exact ⟨ret_bool HE.out.symm, hbw⟩
        · have hz' : ((k : Int) == 0) = false := by simp; omega
          have g : ¬ (97 ≤ (s[k].toNat : Int) ∧ (s[k].toNat : Int) ≤ 122) := fun h => hL (hli.2 h)
          by_cases hla' : later s[k] = true
          · have HR := Lib.hid (hrel hla' (fun h => absurd h (by omega)))
            have g3 := hla.1 hla'
            clear hrel hat hli hla hL hall hhead hla'
            have g4 : (48 ≤ (s[k].toNat : Int) ∧ (s[k].toNat : Int) ≤ 57) ∨ (s[k].toNat : Int) = 95 := by omega
            clear g3
            rcases g4 with ⟨g5, g6⟩ | g5
            · have g1 : ¬ 97 ≤ (s[k].toNat : Int) := by omega
              have g7 : ((s[k].toNat : Int) != 95) = true := by simp; omega
              clear g
              go_wp2
              go_round
              case rel => exact HR.out
              case measure => simp [RowKit.intOf]; omega
            · have g1 : ¬ 97 ≤ (s[k].toNat : Int) := by omega
              have g7 : ((s[k].toNat : Int) != 95) = false := by simp; omega
              clear g g5
              go_wp2
              go_round
              case rel => exact HR.out
              case measure => simp [RowKit.intOf]; omega
          · have HE : Hid (isName s.data.toList = false) := Lib.hid (isName_later hat (by simpa using hla'))
            have g3 : ¬ ((48 ≤ (s[k].toNat : Int) ∧ (s[k].toNat : Int) ≤ 57) ∨ (s[k].toNat : Int) = 95) := fun h => hla' (hla.2 (.inr h))
            have g7 : ((s[k].toNat : Int) != 95) = true := by simp; omega
            clear hrel hat hli hla hL hall hhead hla'
            by_cases g1 : 97 ≤ (s[k].toNat : Int)
            · have g2 : 122 < (s[k].toNat : Int) := by omega
              have g6 : ¬ (s[k].toNat : Int) < 48 := by omega
              have g8 : 57 < (s[k].toNat : Int) := by have : ¬ (s[k].toNat : Int) ≤ 122 := fun h => g ⟨g1, h⟩; omega
              clear g g3
              go_wp2
              go_ret
              exact ⟨ret_bool HE.out.symm, hbw⟩
            · clear g
              by_cases g6 : (s[k].toNat : Int) < 48
              · clear g3
                go_wp2
                go_ret
                exact ⟨ret_bool HE.out.symm, hbw⟩
              · have g8 : 57 < (s[k].toNat : Int) := by omega
                clear g3
                go_wp2
                go_ret
                exact ⟨ret_bool HE.out.symm, hbw⟩
    · have hall' : s.data.toList.all later = true := by rw [List.take_of_length_le (by rw [size_list]; omega)] at hall; exact hall
      have HE : Hid (isName s.data.toList = true) := Lib.hid (isName_yes (by rw [size_list]; omega) (by rw [size_list]; omega) HK.out hall' (hhead (by omega)))
      clear hall hall' hhead
      go_wp2
      go_ret
      exact ⟨ret_bool HE.out.symm, hbw⟩
end Go.Proofs.Ytbkgkdfameojfaa
