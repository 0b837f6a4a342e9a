/- What the reference's functions of the layer of shape answer: Above, In, Self, may, Check. Condition: as many states as memory holds, and where said, states that stand so far. -/
import Derived.Test.YtlebgecajlifgaaShapeTell
namespace Go.Proofs.Ytlebgecajlifgaa
open Go.RowKit ShapeSpec
set_option maxRecDepth 100000

/-- A list of numbers of the call's own, read with the rest that is still to come. -/
def RAbQ (W : World) (l : List Sh) (i m : Nat) (p v : Value) (wr : World) : Prop := ∃ (j : Nat) (xs : List Int), v = .int .i64 j ∧ j < m ∧ RowI W wr p xs ∧ xs.length ≤ i ∧ xs ++ upI l j = upI l i
theorem rab_next {l : List Sh} {m i j : Nat} {xs : List Int} (hs : SU l m) (hj : j < m) (h : xs ++ upI l j = upI l i) : (par l j = -1 ∧ xs = upI l i) ∨ ∃ p : Nat, par l j = p ∧ p < m ∧ p < j ∧ (xs ++ [(p : Int)]).length ≤ i ∧ (xs ++ [(p : Int)]) ++ upI l p = upI l i := by
  rcases Nat.eq_zero_or_pos j with h0 | h0
  · subst h0
    refine .inl ⟨hs.root hj, ?_⟩
    rw [← h]
    exact (List.append_nil xs).symm
  · obtain ⟨p, hp, hlt, hup, _⟩ := hs.parn hj h0
    have e : (xs ++ [(p : Int)]) ++ upI l p = upI l i := by
      rw [← h]
      unfold upI
      rw [hup, List.append_assoc]
      rfl
    refine .inr ⟨p, hp, by omega, hlt, ?_, e⟩
    have h1 := congrArg List.length e
    have h2 := up_length_le l i
    rw [upI_length, List.length_append, upI_length] at h1
    omega
set_option maxHeartbeats 4000000 in
theorem rabove_any (A : Option Addr) (n c m : Nat) (l : List Sh) (a : Nat) (w : World) (h : Sts w (.slice A n c) l) (hs : SU l m) (ha : a < m) (hmn : m ≤ n) (hm : n ≤ 1000000) :
    Calls Try.prog 14 #[.slice A n c, .int .i64 a] w (RetInts w (upI l a)) := by
  have HT := Lib.hid h
  have HS := Lib.hid hs
  obtain ⟨i0, hi, hz0, hz1, hz2⟩ := info_parts inf_int
  have HI := Lib.hid (And.intro hi (And.intro hz0 (And.intro hz1 hz2)))
  clear h hs hi hz0 hz1 hz2
  go_enter Try.func14, Try.ntmps14
  go_wp2_with fail
  go_loopw [1, 5] (fun v p wr => RAbQ w l a m p v wr) (fun v _ _ => (intOf v).toNat)
  case atStart => exact ⟨a, [], rfl, ha, ⟨World.ownsRow_lit w #[] 0 (Nat.le_refl _) (Nat.zero_le _) rfl, (Below.refl _ _).alloc (Nat.le_refl _) _⟩, Nat.zero_le _, rfl⟩
  case round =>
    obtain ⟨j, xs, rfl, hj, hrow, hxl, hq⟩ := hrel
    have HR := Lib.hid hrow
    have HT1 := Lib.hid (HT.out.keep HR.out.2)
    obtain ⟨b, off, rfl, hb, -, c2⟩ := HT1.out.at_ (i := j) (by omega)
    have hjn : (j : Int) < n := by omega
    rcases rab_next HS.out hj hq with ⟨hp, hx⟩ | ⟨p, hp, hpm, hpj, hle, hx⟩
    · rw [hp] at c2
      have HR3 : Hid (RetInts w (upI l a) _ wr) := Lib.hid (by rw [← hx]; exact HR.out.ret)
      clear hq hrow hp hx
      go_wp2_with fail
      go_ret
      exact HR3.out
    · rw [hp] at c2
      have HX := Lib.hid hx
      have HLE := Lib.hid hle
      have hxl' : xs.length < a + 1 := by omega
      have HSZ : Hid (w.heap.size ≤ wr.heap.size) := Lib.hid HR.out.2.size
      have HL1 : Hid (xs.length + (intV [(p : Int)]).length ≤ maxLen) := Lib.hid (by simp [maxLen]; omega)
      have HL2 : Hid ((xs.length + (intV [(p : Int)]).length) * 8 ≤ 140737488355328) := Lib.hid (by simp; omega)
      clear hq hrow hp hx hle
      go_wp2_with (at_builtin; refine wpList_append_rd _ rfl (.tmp 18) (.tmp 20) _ rfl w.heap.size 3 i0 (.int .i64 0) 8 Try.underlying27 HI.out.1 HI.out.2.1 HI.out.2.2.1 HI.out.2.2.2 rfl _ _ _ rfl (HR.out.1.alloc _) _ (intV [(p : Int)]) rfl (lit_here rfl rfl rfl) (intV_one _) HL1.out HL2.out ?_ ?_; (have := HSZ.out; simp; omega); intro p2 w2 hrow2 hg2 _; have HR2 := Lib.hid (RowI.add HR.out hrow2 hg2); clear hrow2 hg2)
      go_roundw
      case rel => exact ⟨p, _, rfl, hpm, HR2.out, HLE.out, HX.out⟩
      case measure => simp [intOf]; omega

def InQ (xs : List Int) (x : Int) (n : Nat) (v : Value) : Prop := ∃ k : Nat, v = .int .i64 k ∧ k ≤ n ∧ x ∉ xs.take k
theorem in_next {xs : List Int} {x y : Int} {k : Nat} (h : xs[k]? = some y) (hne : y ≠ x) (hno : x ∉ xs.take k) : x ∉ xs.take (k + 1) := by
  rw [take_next h, List.mem_append, List.mem_singleton]
  rintro (h1 | h1)
  · exact hno h1
  · exact hne h1.symm
theorem in_hit {xs : List Int} {x : Int} {k : Nat} (h : xs[k]? = some x) : decide (x ∈ xs) = true := decide_eq_true (List.mem_of_getElem? h)
theorem in_miss {xs : List Int} {x : Int} {n : Nat} (hn : xs.length ≤ n) (hno : x ∉ xs.take n) : decide (x ∈ xs) = false := by
  rw [List.take_of_length_le hn] at hno
  exact decide_eq_false hno
set_option maxHeartbeats 1000000 in
theorem rin_any (v : Value) (xs : List Int) (x : Int) (w : World) (h : Rd w v (intV xs)) (hm : xs.length ≤ 9223372036854775807) :
    Calls Try.prog 23 #[v, .int .i64 x] w (SameB w (decide (x ∈ xs))) := by
  obtain ⟨A, n, c, rfl, hn, hc, hA⟩ := h.ints
  have HA := Lib.hid hA
  have HN := Lib.hid hn
  have hm' : n ≤ 9223372036854775807 := by omega
  have HY : Hid (∀ k : Nat, xs[k]? = some x → decide (x ∈ xs) = true) := Lib.hid (fun k h => in_hit h)
  have HM : Hid (x ∉ xs.take n → decide (x ∈ xs) = false) := Lib.hid (in_miss (by omega))
  obtain ⟨r, hr⟩ : ∃ r, r = decide (x ∈ xs) := ⟨_, rfl⟩
  rw [← hr] at HY HM ⊢
  clear hA hn h hc hm hr
  go_enter Try.func23, Try.ntmps23
  go_wp2_with fail
  go_loop [5] (fun v => InQ xs x n v) (fun v => n - (intOf v).toNat)
  case atStart => exact ⟨0, rfl, Nat.zero_le _, by simp⟩
  case round =>
    obtain ⟨k, rfl, hk, hno⟩ := hrel
    have HO := Lib.hid hno
    clear hno
    by_cases hlt : k < n
    · obtain ⟨b, off, rfl, hb, hcell⟩ := HA.out (by omega)
      obtain ⟨y, hy⟩ : ∃ y, xs[k]? = some y := get_some (by have := HN.out; omega)
      have hck := hcell k y hy
      have HX := Lib.hid hy
      have hltI : (k : Int) < n := by omega
      clear hcell hy
      by_cases hyx : y = x
      · have g1 : (y == x) = true := by simpa using hyx
        have HR : Hid (r = true) := Lib.hid (HY.out k (by rw [HX.out, hyx]))
        clear hyx
        go_wp2_with fail
        go_ret
        exact ⟨ret_bool HR.out.symm, rfl⟩
      · have g1 : (y == x) = false := by simpa using hyx
        have HR := Lib.hid (in_next HX.out hyx HO.out)
        clear hyx
        go_wp2_with fail
        go_round
        case rel => exact ⟨k + 1, by simp, by omega, HR.out⟩
        case measure => simp [intOf]; omega
    · obtain rfl : k = n := by omega
      have HR : Hid (r = false) := Lib.hid (HM.out HO.out)
      go_wp2_with fail
      go_ret
      exact ⟨ret_bool HR.out.symm, rfl⟩

set_option maxHeartbeats 2000000 in
theorem rself_any (A : Option Addr) (n c m : Nat) (l : List Sh) (a : Nat) (w : World) (h : Sts w (.slice A n c) l) (hs : SU l m) (ha : a < m) (hmn : m ≤ n) (hm : n ≤ 1000000) :
    Calls Try.prog 24 #[.slice A n c, .int .i64 a] w (RetInts w (sfI l a)) := by
  have HT : Hid (∀ o : Obj, Sts (w.alloc o) (.slice A n c) l) := Lib.hid (fun o => h.alloc o)
  have HAb := Lib.hid (fun w h => rabove_any A n c m l a w h hs ha hmn hm)
  have hul := up_length_le l a
  have HE : Hid (sfI l a = [(a : Int)] ++ upI l a) := Lib.hid (sfI_cons l a)
  rw [HE.out]
  have hull : (upI l a).length ≤ a := by rw [upI_length]; exact hul
  obtain ⟨us, hus⟩ : ∃ us, us = upI l a := ⟨_, rfl⟩
  rw [← hus] at HAb hull ⊢
  have HL1 : Hid ([(a : Int)].length + (intV us).length ≤ maxLen) := Lib.hid (by simp [maxLen]; omega)
  have HL2 : Hid (([(a : Int)].length + (intV us).length) * 8 ≤ 140737488355328) := Lib.hid (by simp; omega)
  have HR0 : Hid (RowI w (w.alloc (.cells #[.int .i64 a] 3)) (.slice (some ⟨w.heap.size, 0, none⟩) 1 1) [(a : Int)]) := Lib.hid ⟨World.ownsRow_lit w #[.int .i64 a] 1 (Nat.le_refl _) (by decide) rfl, (Below.refl _ _).alloc (Nat.le_refl _) _⟩
  obtain ⟨i0, hi, hz0, hz1, hz2⟩ := info_parts inf_int
  have HI := Lib.hid (And.intro hi (And.intro hz0 (And.intro hz1 hz2)))
  clear h hs hul HE hus hi hz0 hz1 hz2
  go_enter Try.func24, Try.ntmps24
  go_wp2_with (go_at_call 14; (with_reducible refine (HAb.out _ (HT.out _)).mono ?_))
  rintro e w1 ⟨v, rfl, hrd, hb⟩
  have HR1 := Lib.hid (HR0.out.keep hb)
  have HRD := Lib.hid hrd
  have HSZ : Hid (w.heap.size ≤ w1.heap.size) := Lib.hid HR1.out.2.size
  clear hrd hb
  go_wp2_with (at_builtin; refine wpList_append_rd _ rfl (.tmp 6) (.tmp 9) _ rfl w.heap.size 3 i0 (.int .i64 0) 8 Try.underlying27 HI.out.1 HI.out.2.1 HI.out.2.2.1 HI.out.2.2.2 rfl _ _ _ rfl HR1.out.1 _ (intV us) rfl HRD.out (intV_one _) HL1.out HL2.out HSZ.out ?_; intro p2 w2 hrow2 hg2 _; have HR2 := Lib.hid (RowI.addB HR1.out hrow2 hg2); clear hrow2 hg2)
  go_ret
  exact HR2.out.ret
end Go.Proofs.Ytlebgecajlifgaa
