/- TermNames, joined. -/
import Derived.Test.YtbkgkdfameojfaaMTermA
namespace Go.Proofs.Ytbkgkdfameojfaa
open Go.RowKit TermSpec
set_option maxRecDepth 100000

theorem inf_str : (Try.prog.info? 9).map (fun i => (i.zero, i.size, i.bytes)) = some (some (.string ByteArray.empty), 1, 16) := by kernel_rfl
/-- A list of texts of the call's own. -/
def RowS (W wr : World) (p : Value) (xs : List ByteArray) : Prop := wr.ownsRow W.heap.size 9 1 p xs.length (strV xs) ∧ Below W.heap.size W wr
theorem RowS.nil (W wr : World) (hb : Below W.heap.size W wr) : RowS W wr (.slice none 0 0) [] := ⟨World.ownsRow_nil _ _ _ _, hb⟩
theorem RowS.keep {W w w' : World} {p : Value} {xs : List ByteArray} (h : RowS W w p xs) (hb : Below w.heap.size w w') : RowS W w' p xs := ⟨own_keep h.1 hb, below_two' h.2 hb⟩
theorem RowS.alloc {W w : World} {p : Value} {xs : List ByteArray} (h : RowS W w p xs) (o : Obj) : RowS W (w.alloc o) p xs := h.keep ((Below.refl _ _).alloc (Nat.le_refl _) _)
theorem RowS.add {W wr w2 : World} {p p' : Value} {xs : List ByteArray} {x : ByteArray} {o : Obj} (h : RowS W wr p xs) (hrow : w2.ownsRow W.heap.size 9 1 p' (xs.length + (strV [x]).length) (strV xs ++ strV [x])) (hg : (wr.alloc o).grownBy w2 p.ownBlock) : RowS W w2 p' (xs ++ [x]) := by
  refine ⟨?_, (h.2.alloc h.2.size o).grown hg (by have := h.2.size; simp; omega) (fun j hj => (own_block_bd h.1 j hj).1)⟩
  rw [← strV_append, List.length_append]
  exact hrow
theorem RowS.read {W wr : World} {p : Value} {xs : List ByteArray} (h : RowS W wr p xs) : Rd wr p (strV xs) := Rd.own h.1

def NamRel (W : World) (l : List Tm) (n : Nat) (o : Int) (p i : Value) (wr : World) : Prop := ∃ k : Nat, k ≤ n ∧ i = .int .i64 k ∧ RowS W wr p (namesOf (l.take k) o)
set_option maxHeartbeats 2000000 in
theorem names_any (A : Option Addr) (n c : Nat) (l : List Tm) (o : Int) (hn : n = l.length) (hn62 : n ≤ 4398046511104) (w : World) (h : Tms w (.slice A n c) l) :
    Calls Try.prog 23 #[.slice A n c, .int .i64 o] w (RetStrs w (namesOf l o)) := by
  have HT := Lib.hid h
  have HN := Lib.hid hn
  obtain ⟨i0, hi, hz0, hz1, hz2⟩ := info_parts inf_str
  have HI := Lib.hid (And.intro hi (And.intro hz0 (And.intro hz1 hz2)))
  clear h hn hi hz0 hz1 hz2
  go_enter Try.func23, Try.ntmps23
  go_wp2_with fail
  go_loopw [5, 7, 10] (fun p _ i wr => NamRel w l n o p i wr) (fun _ _ i _ => n - (intOf i).toNat)
  case atStart => exact ⟨0, Nat.zero_le _, rfl, RowS.nil _ _ (Below.refl _ _)⟩
  case round =>
    obtain ⟨k, hk, rfl, hrow⟩ := hrel
    have HR0 := Lib.hid hrow
    clear hrow
    by_cases hlt : k < n
    · obtain ⟨t, ht⟩ : ∃ t, l[k]? = some t := get_some (by rw [← HN.out]; exact hlt)
      obtain ⟨b, off, rfl, hb, c0, c1, c2⟩ := (HT.out.keep HR0.out.2).at_ ht
      by_cases ho : t.op = o
      · have HY := Lib.hid (namesOf_yes ht ho)
        have hl := namesOf_length (l.take k) o
        rw [List.length_take] at hl
        have HR := Lib.hid (HR0.out.alloc (.cells #[.int .i64 t.op, .int .i64 t.n, .string t.s] 39))
        obtain ⟨s, hs⟩ : ∃ s, s = t.s := ⟨_, rfl⟩
        rw [← hs] at HY HR c2
        have HL1 : Hid ((namesOf (l.take k) o).length + (strV [s]).length ≤ maxLen) := Lib.hid (by simp [maxLen]; omega)
        have HL2 : Hid (((namesOf (l.take k) o).length + (strV [s]).length) * 16 ≤ 140737488355328) := Lib.hid (by simp; omega)
        have HSZ : Hid (w.heap.size ≤ wr.heap.size) := Lib.hid HR0.out.2.size
        have HRA := Lib.hid HR.out.1
        have g : (t.op == o) = true := by simp [ho]
        clear ht hl hs ho
        go_wp2_with (at_builtin; refine wpList_append_rd _ rfl (.tmp 18) (.tmp 21) _ rfl w.heap.size 9 i0 (.string ByteArray.empty) 16 Try.underlying25 HI.out.1 HI.out.2.1 HI.out.2.2.1 HI.out.2.2.2 rfl _ _ _ rfl (HRA.out.alloc _) _ (strV [s]) rfl (lit_here (World.size_alloc _ _).symm rfl rfl) (strV_one _) HL1.out HL2.out ?_ ?_; (have := HSZ.out; simp; omega); intro p2 w2 hrow2 hg2 _; have HR2 := Lib.hid (RowS.add HR.out hrow2 hg2); clear hrow2 hg2)
        go_roundw
        case rel => exact ⟨k + 1, hlt, by simp, by rw [HY.out]; exact HR2.out⟩
        case measure => simp [intOf]; omega
      · have HY := Lib.hid (namesOf_no ht ho)
        have g : (t.op == o) = false := by simp [ho]
        clear ho
        go_wp2_with fail
        go_roundw
        case rel => exact ⟨k + 1, hlt, by simp, by rw [HY.out]; exact HR0.out.alloc _⟩
        case measure => simp [intOf]; omega
    · obtain rfl : k = n := by omega
      go_wp2_with fail
      go_ret
      have hr := HR0.out
      rw [List.take_of_length_le (by rw [← HN.out]; omega)] at hr
      exact ⟨_, rfl, hr.read, hr.2⟩

/-- Are terms few, and their names not too long? -/
def lightB (l : List Tm) : Bool := (l.take 100).all (fun t => decide (t.s.size ≤ 100)) && decide (l.length < 100)
def LightRel (l : List Tm) (n : Nat) (i : Value) : Prop := ∃ k : Nat, k ≤ n ∧ k ≤ 100 ∧ i = .int .i64 k ∧ (l.take k).all (fun t => decide (t.s.size ≤ 100)) = true
theorem light_stop {l : List Tm} {k : Nat} {t : Tm} (ht : l[k]? = some t) (hk : k < 100) (h : 100 < t.s.size) : lightB l = false := by
  have : (l.take 100).all (fun t => decide (t.s.size ≤ 100)) = false := by
    rw [List.all_eq_false]
    exact ⟨t, List.mem_of_getElem? (by rw [List.getElem?_take_of_lt hk]; exact ht), by simpa using h⟩
  unfold lightB
  rw [this]; rfl
theorem light_end {l : List Tm} {k : Nat} (hk : k ≤ 100) (h : l.length ≤ k ∨ k = 100) (ha : (l.take k).all (fun t => decide (t.s.size ≤ 100)) = true) : lightB l = decide (l.length < 100) := by
  unfold lightB
  rw [show l.take 100 = l.take k by rcases h with h | h; rw [List.take_of_length_le h, List.take_of_length_le (by omega)]; rw [h], ha]
  rfl
theorem light_few {l : List Tm} (h : lightB l = true) : l.length < 100 ∧ ∀ t ∈ l, t.s.size ≤ 100 := by
  unfold lightB at h
  simp only [Bool.and_eq_true, decide_eq_true_eq] at h
  obtain ⟨h1, h2⟩ := h
  rw [List.take_of_length_le (by omega)] at h1
  exact ⟨h2, fun t ht => by simpa using List.all_eq_true.1 h1 t ht⟩
end Go.Proofs.Ytbkgkdfameojfaa
