/- What Grow, Concat and Union answer: the union of two lists of texts. Conditions: lists of 2^32 texts at most. -/
import Derived.Test.YtkbiepcnjieekaaNamesTwins
import Derived.Test.YtkbiepcnjieekaaNamesUnionSpec
import Derived.Lib.SliceRun
import Derived.Lib.AppendZerosOnto
namespace Go.Proofs.Ytkbiepcnjieekaa
open Go.RowKit NamesSpec Go.Lib

/-- A slice of the call's own that holds texts. -/
def RetOwn (W : World) (l : List ByteArray) (e : Ending) (w' : World) : Prop := ∃ v, e = .returned v ∧ w'.ownsRow W.heap.size 9 1 v l.length (strV l) ∧ Below W.heap.size W w'

set_option maxHeartbeats 1000000 in
theorem grow_any (n : Nat) (w : World) (hn : n ≤ 4294967296) : Calls Try.prog 25 #[.slice none 0 0, .int .i64 n] w (RetOwn w []) := by
  obtain ⟨i0, hi, hz0, hz1, hz2⟩ := info_parts info_str
  rcases Nat.eq_zero_or_pos n with h0 | h0
  · subst h0
    go_enter Try.func25, Try.ntmps25
    go_wp2
    go_ret
    exact ⟨_, rfl, World.ownsRow_nil _ _ _ _, Below.refl _ _⟩
  · have hrz : ∀ ty, (Builtin.append_ #[24, 3] ty #[.slice none 0 0, .int .i64 (n : Int)]).run Try.prog w =
        .ok (.slice (some ⟨w.heap.size, 0, none⟩) n (grownCap w n 0 9)) (w.drew.alloc (.cells (#[] ++ Builtin.zeroCells (Value.string ByteArray.empty).cells n ++ Builtin.zeroCells (Value.string ByteArray.empty).cells (grownCap w n 0 9 - n)) 9)) := fun ty => by
      have h := Lib.run_append_grow_zeros w 24 3 ty 9 i0 (.string ByteArray.empty) .i64 .i64 Try.underlying24 Try.underlying3 hi hz0 none 0 0 [] (run_firstCells_none w.drew i0.size 0 0 0) n (by omega) (by omega) (by omega) (by omega) (by rw [hz2]; omega)
        (growslice_fits (by omega) (by rw [hz2]; omega))
      simpa using h
    have hG := grownCap_ge w n 0 9
    have hM := grownCap_le_maxLen w n 0 9 (by unfold maxLen; omega)
    obtain ⟨G, hg⟩ : ∃ G, G = grownCap w n 0 9 := ⟨_, rfl⟩
    rw [← hg] at hrz hG hM
    have HR := Lib.hid hrz
    have hM' : G ≤ 9223372036854775807 := hM
    clear hrz hg
    go_enter Try.func25, Try.ntmps25
    go_wp2_with (at_builtin; refine Lib.wpList_append_run _ rfl _ _ _ _ rfl _ _ rfl rfl _ _ (HR.out _) ?_)
    go_ret
    refine ⟨_, rfl, World.ownsRow_made _ _ _ (by simp) hM (by simp [Builtin.zeroCells]; omega), ?_⟩
    exact ((Below.refl _ _).drew).alloc (Nat.le_refl _) _

/-- The value p is a slice of the call's own that holds the texts l. -/
def Own (W : World) (p : Value) (l : List ByteArray) (w : World) : Prop := w.ownsRow W.heap.size 9 1 p l.length (strV l) ∧ Below W.heap.size W w
theorem own_add {W w w' : World} {p p' : Value} {l m : List ByteArray} (h : Own W p l w) (h2 : w'.ownsRow W.heap.size 9 1 p' (l.length + (strV m).length) (strV l ++ strV m)) (hg : w.grownBy w' p.ownBlock) : Own W p' (l ++ m) w' := by
  refine ⟨?_, h.2.grown hg h.2.size fun k hk => (h.1.lt k hk).1⟩
  rw [strV_append, strV_length] at h2
  rw [List.length_append]
  exact h2

def CatRel1 (n1 m : Nat) (sz i : Value) : Prop := (sz = .int .i64 0 ∧ i = .int .i64 0) ∨ (sz = .int .i64 n1 ∧ i = .int .i64 1) ∨ (sz = .int .i64 m ∧ i = .int .i64 2)
def CatRel2 (W : World) (l1 l2 : List ByteArray) (p i : Value) (w : World) : Prop := (i = .int .i64 0 ∧ Own W p [] w) ∨ (i = .int .i64 1 ∧ Own W p l1 w) ∨ (i = .int .i64 2 ∧ Own W p (l1 ++ l2) w)

set_option maxHeartbeats 2000000 in
theorem concat_any (b : Nat) (v1 v2 : Value) (l1 l2 : List ByteArray) (w : World) (hb : b < w.heap.size) (h1 : w.cell? ⟨b, 0, none⟩ = some v1) (h2 : w.cell? ⟨b, 1, none⟩ = some v2) (r1 : Rd w v1 (strV l1)) (r2 : Rd w v2 (strV l2))
    (hl : l1.length + l2.length ≤ 4294967296) : Calls Try.prog 22 #[.slice (some ⟨b, 0, none⟩) 2 2] w (RetOwn w (l1 ++ l2)) := by
  obtain ⟨i0, hi, hz0, hz1, hz2⟩ := info_parts info_str
  have R1 := Lib.hid r1
  have R2 := Lib.hid r2
  obtain ⟨A1, n1, c1, rfl, hn1, hc1, _⟩ := r1.strs
  obtain ⟨A2, n2, c2, rfl, hn2, hc2, _⟩ := r2.strs
  obtain ⟨m, hm⟩ : ∃ m, m = n1 + n2 := ⟨_, rfl⟩
  have hm4 : m ≤ 4294967296 := by omega
  have hn1m : n1 ≤ m := by omega
  have hn2m : n2 ≤ m := by omega
  have hsum : (n1 : Int) + (n2 : Int) = (m : Int) := by omega
  have HL1 : Hid (l1.length = n1) := Lib.hid hn1
  have HL2 : Hid (l2.length = n2) := Lib.hid hn2
  have HM := Lib.hid hm
  clear hn1 hn2 hm r1 r2 hl hc1 hc2
  go_enter Try.func22, Try.ntmps22
  go_wp2_with fail
  go_loop [3, 11] (fun sz i => CatRel1 n1 m sz i) (fun _ i => 2 - (intOf i).toNat)
  case atStart => exact .inl ⟨rfl, rfl⟩
  case round =>
    rcases hrel with ⟨rfl, rfl⟩ | ⟨rfl, rfl⟩ | ⟨rfl, rfl⟩
    · go_wp2_with fail
      go_round
      case rel => exact .inr (.inl ⟨by first | rfl | go_num, rfl⟩)
      case measure => simp [intOf]
    · go_wp2_with fail
      go_round
      case rel => exact .inr (.inr ⟨by first | rfl | go_num, rfl⟩)
      case measure => simp [intOf]
    · clear hsum
      go_wp2_with (go_at_call 25; refine (grow_any m _ hm4).mono ?_; rintro e w' ⟨p0, rfl, hown0, hbw0⟩)
      go_loopw [6, 27] (fun p i wr => CatRel2 w l1 l2 p i wr) (fun _ i _ => 2 - (intOf i).toNat)
      case atStart => exact .inl ⟨rfl, hown0, hbw0⟩
      case round =>
        rcases hrel with ⟨rfl, hO⟩ | ⟨rfl, hO⟩ | ⟨rfl, hO⟩
        · have hc1 := (hO.2.cell (p := ⟨b, 0, none⟩) hb).trans h1
          have HO := Lib.hid hO
          have hown := hO.1
          have hR := R1.out.keep hO.2
          have HS : Hid ([].length (α := ByteArray) + (strV l1).length ≤ maxLen) := Lib.hid (by have := HL1.out; simp [maxLen]; omega)
          have HT : Hid (([].length (α := ByteArray) + (strV l1).length) * 16 ≤ 140737488355328) := Lib.hid (by have := HL1.out; simp; omega)
          have hsz := hO.2.size
          clear hO
          go_wp2_with (at_builtin; refine wpList_append_rd _ rfl (.tmp 31) (.tmp 32) _ rfl w.heap.size 9 i0 (.string ByteArray.empty) 16 Try.underlying24 hi hz0 hz1 hz2 rfl _ _ _ rfl hown _ (strV l1) rfl hR (strV_one _) HS.out HT.out hsz ?_; intro p2 w2 hown2 hg2 _)
          go_roundw
          case rel => exact .inr (.inl ⟨rfl, own_add HO.out hown2 hg2⟩)
          case measure => simp [intOf]
        · have hc1 := (hO.2.cell (p := ⟨b, 1, none⟩) hb).trans h2
          have HO := Lib.hid hO
          have hown := hO.1
          have hR := R2.out.keep hO.2
          have HS : Hid (l1.length + (strV l2).length ≤ maxLen) := Lib.hid (by have := HL1.out; have := HL2.out; have := HM.out; simp [maxLen]; omega)
          have HT : Hid ((l1.length + (strV l2).length) * 16 ≤ 140737488355328) := Lib.hid (by have := HL1.out; have := HL2.out; have := HM.out; simp; omega)
          have hsz := hO.2.size
          clear hO
          go_wp2_with (at_builtin; refine wpList_append_rd _ rfl (.tmp 31) (.tmp 32) _ rfl w.heap.size 9 i0 (.string ByteArray.empty) 16 Try.underlying24 hi hz0 hz1 hz2 rfl _ _ _ rfl hown _ (strV l2) rfl hR (strV_one _) HS.out HT.out hsz ?_; intro p2 w2 hown2 hg2 _)
          go_roundw
          case rel => exact .inr (.inr ⟨rfl, own_add HO.out hown2 hg2⟩)
          case measure => simp [intOf]
        · go_wp2_with fail
          go_ret
          exact ⟨_, rfl, hO.1, hO.2⟩

section
open Go.Sort
variable {base g cap n : Nat} {ss : List Txt} {w : World}
theorem own_head {w : World} {e : TypeId} {xs ys : List Value} (h : w.ownsRow base e 1 (.slice (some ⟨g, 0, none⟩) n cap) n (xs ++ ys)) : w.ownsRow base e 1 (.slice (some ⟨g, 0, none⟩) xs.length cap) xs.length xs := by
  obtain ⟨hl, hv⟩ := h
  rcases hv with ⟨he, _⟩ | ⟨g', cap', cur, he, hb, hh, h1, h2, h3, h4⟩
  · cases he
  · injection he with e1 e2 e3
    injection e1 with e1
    injection e1 with e1
    subst e1; subst e3
    rw [List.length_append, Nat.mul_one] at hl
    refine ⟨by simp, .inr ⟨g, cap, cur, rfl, hb, hh, by omega, h2, h3, ?_⟩⟩
    rw [Nat.mul_one] at h4 ⊢
    have : (cur.toList.take n).take xs.length = xs := by rw [h4, List.take_left]
    rwa [List.take_take, show min xs.length n = xs.length by omega] at this
theorem own_parts {e : TypeId} {xs : List Value} (h : w.ownsRow base e 1 (.slice (some ⟨g, 0, none⟩) n cap) n xs) :
    ∃ cur, base ≤ g ∧ w.heap[g]? = some (.cells cur e (0, 0)) ∧ n ≤ cap ∧ cap ≤ maxLen ∧ cur.size = cap * 1 ∧ cur.toList.take n = xs := by
  obtain ⟨hl, hv⟩ := h
  rcases hv with ⟨he, _⟩ | ⟨g', cap', cur, he, hb, hh, h1, h2, h3, h4⟩
  · cases he
  · injection he with e1 e2 e3
    injection e1 with e1
    injection e1 with e1
    subst e1; subst e3
    exact ⟨cur, hb, hh, h1, h2, h3, by simpa using h4⟩

def SortPost (base g cap n : Nat) (ss : List Txt) (w : World) (e : Ending) (w' : World) : Prop :=
  e = .returned (.tuple #[]) ∧ w'.ownsRow base 9 1 (.slice (some ⟨g, 0, none⟩) n cap) n ((sortT ss).map encStr) ∧ w.grownBy w' (some g)
theorem sort_row (hown : w.ownsRow base 9 1 (.slice (some ⟨g, 0, none⟩) n cap) n (ss.map encStr)) (h62 : n < 4611686018427387904) :
    Calls Try.prog 23 #[.slice (some ⟨g, 0, none⟩) n cap] w (SortPost base g cap n ss w) := by
  have hn : n = ss.length := by have := hown.1; simpa using this.symm
  obtain ⟨cur, hb, hh, h1, h2, h3, h4⟩ := own_parts hown
  rcases Nat.eq_zero_or_pos n with h0 | h0
  · have he : ss = [] := List.eq_nil_of_length_eq_zero (by omega)
    rw [h0] at hown ⊢
    subst he
    exact (Try.slices_Sort_string_none (some ⟨g, 0, none⟩) cap w).mono fun e w' ⟨he, hw⟩ => by
      subst hw
      exact ⟨he, by rw [show sortT [] = [] from List.eq_nil_of_length_eq_zero (sortT_length [])]; exact hown, ⟨rfl, rfl, rfl, Nat.le_refl _, fun _ _ _ => rfl⟩⟩
  · rw [hn]
    refine (Try.slices_Sort_string g 0 cap ss w (holds_of_block hh (by rw [← hn]; exact h4)) (Array.getElem?_eq_some_iff.1 hh).1 (by omega)).mono ?_
    rintro e w' ⟨he, q, os, rfl⟩
    exact ⟨he, ownsRow_sorted (sortT_length ss) hb hh (by omega) h2 h3, grownBy_sorted _⟩
def CompPost (base g cap : Nat) (ss : List Txt) (w : World) (e : Ending) (w' : World) : Prop :=
  e = .returned (.slice (some ⟨g, 0, none⟩) (compact ss).length cap) ∧ w'.ownsRow base 9 1 (.slice (some ⟨g, 0, none⟩) (compact ss).length cap) (compact ss).length ((compact ss).map encStr) ∧ w.grownBy w' (some g)
theorem compact_row (hown : w.ownsRow base 9 1 (.slice (some ⟨g, 0, none⟩) n cap) n (ss.map encStr)) :
    Calls Try.prog 24 #[.slice (some ⟨g, 0, none⟩) n cap] w (CompPost base g cap ss w) := by
  have hn : n = ss.length := by have := hown.1; simpa using this.symm
  obtain ⟨cur, hb, hh, h1, h2, h3, h4⟩ := own_parts hown
  rw [hn]
  have hm : ss.length ≤ 9223372036854775807 := by unfold maxLen at h2; omega
  refine (Try.slices_Compact_string g 0 cap ss w (holds_of_block hh (by rw [← hn]; exact h4)) hm (by omega)).mono ?_
  rintro e w' ⟨he, q, rfl⟩
  have hlen := compact_len ss
  have hl : (compact ss ++ List.replicate (ss.length - (compact ss).length) ([] : Txt)).length = ss.length := by simp; omega
  have h5 := ownsRow_sorted (n := q) (os := #[]) hl hb hh (by omega) h2 h3
  rw [grow_empty, List.map_append] at h5
  have h6 := own_head h5
  rw [List.length_map] at h6
  have h7 := grownBy_sorted (w := w) (g := g) (n := q) (os := #[]) (compact ss ++ List.replicate (ss.length - (compact ss).length) ([] : Txt)).toArray
  rw [grow_empty] at h7
  exact ⟨he, h6, h7⟩
end

theorem strV_bytes (l : List ByteArray) : strV l = (bytesOf l).map encStr := by
  unfold strV bytesOf
  rw [List.map_map]; rfl
theorem un_nil {a b : List ByteArray} (h : (a ++ b).length = 0) : un a b = [] := by
  have := un_length a b
  rw [List.length_append] at h
  exact List.eq_nil_of_length_eq_zero (by omega)
theorem un_done {W w w1 w2 w3 : World} {o : Obj} {a b : List ByteArray} {g cap n : Nat} {e : Ending} (_hw : w = W.alloc o) (hb : Below w.heap.size w w1) (h2 : SortPost w.heap.size g cap n (bytesOf (a ++ b)) w1 e w2)
    (h3 : CompPost w.heap.size g cap (sortT (bytesOf (a ++ b))) w2 (.returned (.slice (some ⟨g, 0, none⟩) (compact (sortT (bytesOf (a ++ b)))).length cap)) w3) :
    RetStrs W (un a b) (.returned (.slice (some ⟨g, 0, none⟩) (compact (sortT (bytesOf (a ++ b)))).length cap)) w3 := by
  obtain ⟨_, h5, h6⟩ := h2
  obtain ⟨_, h7, h8⟩ := h3
  subst _hw
  have hbase := (own_parts h5).choose_spec.1
  refine ⟨_, rfl, ?_, ?_⟩
  · rw [un, strV_texts]; exact Rd.own h7
  · have k1 : Below W.heap.size W w1 := ((Below.refl _ _).alloc (Nat.le_refl _) o).trans (hb.mono (by simp))
    have hg : W.heap.size ≤ g := by simp at hbase; omega
    exact (k1.grown h6 k1.size (fun k hk => by cases hk; exact hg)).grown h8 (Nat.le_trans k1.size h6.size) (fun k hk => by cases hk; exact hg)

set_option maxHeartbeats 1000000 in
theorem union_any (v1 v2 : Value) (a b : List ByteArray) (w : World) (r1 : Rd w v1 (strV a)) (r2 : Rd w v2 (strV b)) (hl : a.length + b.length ≤ 4294967296) :
    Calls Try.prog 16 #[v1, v2] w (RetStrs w (un a b)) := by
  have HL := Lib.hid hl
  have HR1 := Lib.hid r1
  have HR2 := Lib.hid r2
  obtain ⟨A1, n1, c1, rfl, _, _, _⟩ := r1.strs
  obtain ⟨A2, n2, c2, rfl, _, _, _⟩ := r2.strs
  clear r1 r2 hl
  go_enter Try.func16, Try.ntmps16
  go_wp2_with (go_at_call 22; refine (concat_any w.heap.size _ _ a b _ (by simp) (World.cell?_alloc_at _ _ _ _ rfl) (World.cell?_alloc_at _ _ _ _ rfl) (HR1.out.alloc _) (HR2.out.alloc _) HL.out).mono ?_)
  rintro e w1 ⟨p, rfl, hown, hbw⟩
  obtain ⟨n, hn⟩ : ∃ n, n = (a ++ b).length := ⟨_, rfl⟩
  rw [← hn] at hown
  have hown' := hown
  rcases hown.2 with ⟨rfl, h0⟩ | ⟨g, cap, cur, rfl, hbase, hh, _⟩
  · have HU : Hid (un a b = []) := Lib.hid (un_nil (by omega))
    have HB : Hid (Below w.heap.size w w1) := Lib.hid (((Below.refl _ _).alloc (Nat.le_refl _) _).trans (hbw.mono (by simp)))
    clear hn h0 hown hown' hbw
    go_wp2_with (first
      | (go_at_call 23; refine (Try.slices_Sort_string_none none 0 _).mono ?_; rintro e w2 ⟨rfl, rfl⟩)
      | (go_at_call 24; refine (Try.slices_Compact_string_empty none 0 _).mono ?_; rintro e w3 ⟨rfl, rfl⟩))
    go_ret
    exact ⟨_, rfl, by rw [HU.out]; exact Rd.nil _, HB.out⟩
  · rw [strV_bytes] at hown'
    have HS := Lib.hid (sort_row hown' (by have := HL.out; rw [List.length_append] at hn; omega))
    have HB := Lib.hid hbw
    clear hn hown hown' hbase hh hbw
    go_wp2_with (go_at_call 23; refine HS.out.mono ?_)
    rintro e w2 h2
    have H2 := Lib.hid h2
    obtain ⟨rfl, h3, _⟩ := h2
    have HC := Lib.hid (compact_row h3)
    clear h3
    go_wp2_with (go_at_call 24; refine HC.out.mono ?_)
    rintro e w3 h4
    have H4 := Lib.hid h4
    obtain ⟨rfl, _, _⟩ := h4
    go_wp2_with fail
    go_ret
    exact un_done rfl HB.out H2.out H4.out
end Go.Proofs.Ytkbiepcnjieekaa
