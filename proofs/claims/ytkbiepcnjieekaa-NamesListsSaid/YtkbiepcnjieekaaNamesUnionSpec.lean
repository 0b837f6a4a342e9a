/- The union of two lists of texts: sorted and each once, and the same as putting one behind the other in order. No condition. -/
import Derived.Test.YtkbiepcnjieekaaNamesSpec
namespace Go.Proofs.Ytkbiepcnjieekaa
namespace NamesSpec
open Go.Lib

abbrev Txt := List UInt8
/-- In order, and each once. -/
def Rises (l : List Txt) : Prop := l.Pairwise (fun x y => x < y)
theorem lt_or (x y : Txt) : x < y ∨ x = y ∨ y < x := by
  by_cases h : x < y
  · exact .inl h
  · by_cases k : y < x
    · exact .inr (.inr k)
    · exact .inr (.inl (List.le_antisymm (List.not_lt.1 k) (List.not_lt.1 h)))
theorem le_lt {x y : Txt} (h : x ≤ y) (hne : x ≠ y) : x < y := by
  rcases lt_or x y with k | k | k
  · exact k
  · exact absurd k hne
  · exact absurd k (List.not_lt.2 h)

theorem rises_unique : ∀ (a b : List Txt), Rises a → Rises b → (∀ x, x ∈ a ↔ x ∈ b) → a = b
  | [], [], _, _, _ => rfl
  | [], y :: b, _, _, h => absurd ((h y).2 (List.mem_cons_self)) (by simp)
  | x :: a, [], _, _, h => absurd ((h x).1 (List.mem_cons_self)) (by simp)
  | x :: a, y :: b, ha, hb, h => by
    obtain ⟨ha1, ha2⟩ := List.pairwise_cons.1 ha
    obtain ⟨hb1, hb2⟩ := List.pairwise_cons.1 hb
    have hxy : x = y := by
      rcases List.mem_cons.1 ((h x).1 List.mem_cons_self) with e | e
      · exact e
      · rcases List.mem_cons.1 ((h y).2 List.mem_cons_self) with e' | e'
        · exact e'.symm
        · exact absurd (hb1 x e) (List.lt_asymm (ha1 y e'))
    subst hxy
    rw [rises_unique a b ha2 hb2 fun z => by
      constructor
      · intro hz
        rcases List.mem_cons.1 ((h z).1 (List.mem_cons_of_mem _ hz)) with e | e
        · subst e; exact absurd (ha1 z hz) (List.lt_irrefl z)
        · exact e
      · intro hz
        rcases List.mem_cons.1 ((h z).2 (List.mem_cons_of_mem _ hz)) with e | e
        · subst e; exact absurd (hb1 z hz) (List.lt_irrefl z)
        · exact e]

/-- What compact leaves of a list in order. -/
theorem compact_upto (d : Array Txt) (hs : d.toList.Pairwise (fun x y => x ≤ y)) : ∀ m, m ≤ d.size →
    Rises (compactUpTo d m) ∧ (∀ x, x ∈ compactUpTo d m ↔ x ∈ d.toList.take m) ∧ (0 < m → d[m - 1]! ∈ compactUpTo d m) := by
  have hget : ∀ i, i < d.size → d.toList[i]? = some d[i]! := fun i hi => by
    rw [List.getElem?_eq_getElem (by simpa using hi), getElem!_pos d i hi]; rfl
  have hle : ∀ i j, i < j → j < d.size → d[i]! ≤ d[j]! := fun i j hij hj => by
    have := List.pairwise_iff_getElem.1 hs i j (by simp; omega) (by simpa using hj) hij
    rw [getElem!_pos d i (by omega), getElem!_pos d j hj]
    simpa using this
  intro m
  induction m with
  | zero => intro _; exact ⟨List.Pairwise.nil, by simp [compactUpTo], fun h => absurd h (by omega)⟩
  | succ m ih =>
    intro hm
    obtain ⟨h1, h2, h3⟩ := ih (by omega)
    have htake : d.toList.take (m + 1) = d.toList.take m ++ [d[m]!] := take_next (hget m (by omega))
    rw [compactUpTo_succ, htake]
    by_cases hk : keeps d m = true
    · rw [if_pos hk]
      refine ⟨?_, ?_, fun _ => by simp⟩
      · unfold Rises
        rw [List.pairwise_append]
        refine ⟨h1, by simp, fun x hx y hy => ?_⟩
        rw [List.mem_singleton] at hy
        subst hy
        obtain ⟨i, hi⟩ := List.mem_iff_getElem?.1 ((h2 x).1 hx)
        have hil : i < m := by have := get_lt hi; simp at this; omega
        rw [List.getElem?_take_of_lt hil, hget i (by omega)] at hi
        injection hi with hi
        subst hi
        have hne : d[m]! ≠ d[m - 1]! := by
          unfold keeps at hk
          have hk := of_decide_eq_true hk
          rcases hk with hk | hk
          · omega
          · exact hk
        have hlt : d[m - 1]! < d[m]! := le_lt (hle (m - 1) m (by omega) (by omega)) (fun e => hne e.symm)
        rcases Nat.lt_or_ge i (m - 1) with hc | hc
        · exact List.lt_of_le_of_lt (hle i (m - 1) hc (by omega)) hlt
        · obtain rfl : i = m - 1 := by omega
          exact hlt
      · intro x
        simp only [List.mem_append, h2 x]
    · rw [if_neg hk, List.append_nil]
      have hm0 : m ≠ 0 := by
        rintro rfl
        exact hk (by simp [keeps])
      have he : d[m]! = d[m - 1]! := by
        unfold keeps at hk
        simp only [decide_eq_true_eq] at hk
        by_cases e : d[m]! = d[m - 1]!
        · exact e
        · exact absurd (.inr e) hk
      refine ⟨h1, fun x => ?_, fun _ => ?_⟩
      · rw [h2 x, List.mem_append, List.mem_singleton]
        constructor
        · exact .inl
        · rintro (hx | hx)
          · exact hx
          · rw [hx, he]; exact (h2 _).1 (h3 (by omega))
      · rw [Nat.add_sub_cancel, he]; exact h3 (by omega)

theorem compact_rises {ss : List Txt} (hs : ss.Pairwise (fun x y => x ≤ y)) : Rises (compact ss) ∧ ∀ x, x ∈ compact ss ↔ x ∈ ss := by
  obtain ⟨h1, h2, _⟩ := compact_upto ss.toArray hs ss.length (by simp)
  refine ⟨h1, fun x => (h2 x).trans ?_⟩
  rw [List.take_of_length_le (by simp)]

/-- The union, as bytes. -/
def sortT (l : List Txt) : List Txt := l.mergeSort fun x y => decide (x ≤ y)
theorem sortT_length (l : List Txt) : (sortT l).length = l.length := (List.mergeSort_perm _ _).length_eq
theorem sortT_sorted (l : List Txt) : (sortT l).Pairwise (fun x y => x ≤ y) := by
  have := List.pairwise_mergeSort (le := fun (x y : Txt) => decide (x ≤ y)) (fun a b c h k => decide_eq_true (List.le_trans (of_decide_eq_true h) (of_decide_eq_true k)))
    (fun a b => by rcases List.le_total a b with h | h <;> simp [h]) l
  exact this.imp fun h => of_decide_eq_true h
def unT (l : List Txt) : List Txt := compact (sortT l)
theorem unT_rises (l : List Txt) : Rises (unT l) := (compact_rises (sortT_sorted l)).1
theorem unT_mem (l : List Txt) (x : Txt) : x ∈ unT l ↔ x ∈ l := ((compact_rises (sortT_sorted l)).2 x).trans List.mem_mergeSort
theorem compact_len (zs : List Txt) : (compact zs).length ≤ zs.length := by
  unfold compact compactUpTo
  rw [List.length_map]
  exact Nat.le_trans (List.length_filter_le _ _) (Nat.le_of_eq List.length_range)
theorem unT_length (l : List Txt) : (unT l).length ≤ l.length := by
  unfold unT
  have := compact_len (sortT l)
  rwa [sortT_length] at this

def bytesOf (l : List ByteArray) : List Txt := l.map (·.data.toList)
def textsOf (l : List Txt) : List ByteArray := l.map fun x => ⟨x.toArray⟩
theorem texts_bytes (l : List ByteArray) : textsOf (bytesOf l) = l := by
  unfold textsOf bytesOf
  rw [List.map_map]
  exact List.map_id' l
theorem bytes_texts (l : List Txt) : bytesOf (textsOf l) = l := by
  unfold textsOf bytesOf
  rw [List.map_map]
  exact List.map_id' l
theorem bytesOf_length (l : List ByteArray) : (bytesOf l).length = l.length := by simp [bytesOf]
theorem textsOf_length (l : List Txt) : (textsOf l).length = l.length := by simp [textsOf]
theorem strV_texts (l : List Txt) : strV (textsOf l) = l.map encStr := by
  unfold strV textsOf
  rw [List.map_map]; rfl
/-- The union of two lists. -/
def un (a b : List ByteArray) : List ByteArray := textsOf (unT (bytesOf (a ++ b)))
theorem mem_bytes {l : List ByteArray} {s : ByteArray} : s.data.toList ∈ bytesOf l ↔ s ∈ l := by
  unfold bytesOf
  rw [List.mem_map]
  constructor
  · rintro ⟨x, hx, he⟩
    have : x = s := ByteArray.ext (Array.toList_inj.mp he)
    exact this ▸ hx
  · intro h; exact ⟨s, h, rfl⟩
theorem un_mem {a b : List ByteArray} {s : ByteArray} : s ∈ un a b ↔ s ∈ a ∨ s ∈ b := by
  rw [← mem_bytes, un, bytes_texts, unT_mem, mem_bytes, List.mem_append]
theorem un_rises (a b : List ByteArray) : Rises (bytesOf (un a b)) := by rw [un, bytes_texts]; exact unT_rises _
theorem un_eq {a b : List ByteArray} {l : List ByteArray} (hr : Rises (bytesOf l)) (hm : ∀ s, s ∈ l ↔ s ∈ a ∨ s ∈ b) : un a b = l := by
  rw [← texts_bytes l, un]
  congr 1
  refine rises_unique _ _ (unT_rises _) hr fun x => ?_
  have e : x = (⟨x.toArray⟩ : ByteArray).data.toList := rfl
  rw [unT_mem, e, mem_bytes, mem_bytes, hm, List.mem_append]
theorem un_comm (a b : List ByteArray) : un a b = un b a := un_eq (un_rises b a) fun s => by rw [un_mem, Or.comm]
theorem un_self (a b : List ByteArray) : un (un a b) (un a b) = un a b := un_eq (un_rises a b) fun s => by rw [or_self]
theorem un_length (a b : List ByteArray) : (un a b).length ≤ a.length + b.length := by
  rw [un, textsOf_length]
  have := unT_length (bytesOf (a ++ b))
  rw [bytesOf_length, List.length_append] at this
  exact this
end NamesSpec
end Go.Proofs.Ytkbiepcnjieekaa
