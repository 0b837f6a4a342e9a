/- ExprSigns, joined. -/
import Derived.Test.YtffdfajlfgeicaaDoorMExprRdr
import Derived.Laws.Rows
import Derived.Deep.RegionLaw
namespace Go.Proofs.YtffdfajlfgeicaaDoor
open Go.RowKit CurSpec TermSpec ExprSpec
set_option maxRecDepth 100000

def sgC (s : Sg) : List Value := [.string s.t, .int .i64 s.op, .int .i64 s.lev, .int .i64 s.left, .int .i64 s.right]
abbrev sgA (s : Sg) : Value := .agg #[.string s.t, .int .i64 s.op, .int .i64 s.lev, .int .i64 s.left, .int .i64 s.right]
def sgZ : Sg := ⟨⟨#[]⟩, 0, 0, 0, 0⟩
def signsV : Array Value := (sgs.flatMap sgC).toArray
def SignsIn (w : World) : Prop := ∃ T fr, w.heap[0]? = some (.cells signsV T fr)
theorem SignsIn.pos {w : World} (h : SignsIn w) : 0 < w.heap.size := by
  obtain ⟨T, fr, h⟩ := h
  exact (Array.getElem?_eq_some_iff.1 h).1
theorem SignsIn.of {w w' : World} (h : SignsIn w) (hb : w'.heap[0]? = w.heap[0]?) : SignsIn w' := by
  obtain ⟨T, fr, h⟩ := h
  exact ⟨T, fr, hb.trans h⟩
theorem SignsIn.keep {w w' : World} (h : SignsIn w) (hb : Below w.heap.size w w') : SignsIn w' := h.of (hb.block _ h.pos)
theorem SignsIn.alloc {w : World} (h : SignsIn w) (o : Obj) : SignsIn (w.alloc o) := h.keep ((Below.refl _ _).alloc (Nat.le_refl _) _)

theorem signs_size : (Tryd.prog.info? 100).map (·.size) = some signsV.size := by kernel_rfl
theorem signs_index : ∀ (j : Nat) (s : Sg), sgs[j]? = some s → ∀ w, (Instr.index 100 (.agg signsV) (.int .i64 j)).run Tryd.prog w = .ok (sgA s) w
  | 0, s, h, w => by cases h; kernel_rfl
  | 1, s, h, w => by cases h; kernel_rfl
  | 2, s, h, w => by cases h; kernel_rfl
  | 3, s, h, w => by cases h; kernel_rfl
  | 4, s, h, w => by cases h; kernel_rfl
  | 5, s, h, w => by cases h; kernel_rfl
  | 6, s, h, w => by cases h; kernel_rfl
  | 7, s, h, w => by cases h; kernel_rfl
  | 8, s, h, w => by cases h; kernel_rfl
  | 9, s, h, w => by cases h; kernel_rfl
  | 10, s, h, w => by cases h; kernel_rfl
  | j + 11, s, h, w => by cases h
theorem sgs_len : sgs.length = 11 := rfl

theorem cells_5 {w : World} {b : Nat} {T : TypeId} {x0 x1 x2 x3 x4 : Value} (h : w.heap[b]? = some (.cells #[x0, x1, x2, x3, x4] T (0, 0))) : w.cell? ⟨b, 0, none⟩ = some x0 ∧ w.cell? ⟨b, 1, none⟩ = some x1 ∧ w.cell? ⟨b, 2, none⟩ = some x2 ∧ w.cell? ⟨b, 3, none⟩ = some x3 ∧ w.cell? ⟨b, 4, none⟩ = some x4 :=
  ⟨cell_of_block' h (i := 0) rfl, cell_of_block' h (i := 1) rfl, cell_of_block' h (i := 2) rfl, cell_of_block' h (i := 3) rfl, cell_of_block' h (i := 4) rfl⟩
theorem free_5 {w : World} {b : Nat} {T : TypeId} {cs : Array Value} (h : w.heap[b]? = some (.cells cs T (0, 0))) : w.frozen? ⟨b, 0, none⟩ = false ∧ w.frozen? ⟨b, 1, none⟩ = false ∧ w.frozen? ⟨b, 2, none⟩ = false ∧ w.frozen? ⟨b, 3, none⟩ = false ∧ w.frozen? ⟨b, 4, none⟩ = false :=
  ⟨free_of_block' h 0, free_of_block' h 1, free_of_block' h 2, free_of_block' h 3, free_of_block' h 4⟩
theorem store_five {w : World} {b : Nat} (h : Blk w b 5) (u0 u1 u2 u3 u4 : Value) :
    (w.setCell ⟨b, 0, none⟩ u0).cell? ⟨b, 0, none⟩ = some u0 ∧ ((w.setCell ⟨b, 0, none⟩ u0).setCell ⟨b, 1, none⟩ u1).cell? ⟨b, 1, none⟩ = some u1 ∧
    (((w.setCell ⟨b, 0, none⟩ u0).setCell ⟨b, 1, none⟩ u1).setCell ⟨b, 2, none⟩ u2).cell? ⟨b, 2, none⟩ = some u2 ∧
    ((((w.setCell ⟨b, 0, none⟩ u0).setCell ⟨b, 1, none⟩ u1).setCell ⟨b, 2, none⟩ u2).setCell ⟨b, 3, none⟩ u3).cell? ⟨b, 3, none⟩ = some u3 ∧
    (((((w.setCell ⟨b, 0, none⟩ u0).setCell ⟨b, 1, none⟩ u1).setCell ⟨b, 2, none⟩ u2).setCell ⟨b, 3, none⟩ u3).setCell ⟨b, 4, none⟩ u4).cell? ⟨b, 4, none⟩ = some u4 :=
  ⟨h.read 0 (by omega) _, (h.set _ _).read 1 (by omega) _, ((h.set _ _).set _ _).read 2 (by omega) _, (((h.set _ _).set _ _).set _ _).read 3 (by omega) _, ((((h.set _ _).set _ _).set _ _).set _ _).read 4 (by omega) _⟩
theorem below_5 {B : Nat} {w x : World} {b : Nat} (h : Below B w x) (hb : B ≤ b) (u0 u1 u2 u3 u4 : Value) :
    Below B w (((((x.setCell ⟨b, 0, none⟩ u0).setCell ⟨b, 1, none⟩ u1).setCell ⟨b, 2, none⟩ u2).setCell ⟨b, 3, none⟩ u3).setCell ⟨b, 4, none⟩ u4) :=
  ((((h.setCell hb _).setCell hb _).setCell hb _).setCell hb _).setCell hb _

def SgRel (W : World) (o : Int) (i : Value) (wr : World) : Prop := ∃ j : Nat, j ≤ 11 ∧ i = .int .i64 j ∧ (∀ y ∈ sgs.take j, y.op ≠ o) ∧ Below W.heap.size W wr
/-- The sign of a term. -/
def opSg (o : Int) : Sg := (sgs.find? fun s => decide (s.op = o)).getD sgZ
theorem opSg_hit {o : Int} {j : Nat} {s : Sg} (hs : sgs[j]? = some s) (h : ∀ y ∈ sgs.take j, y.op ≠ o) (he : s.op = o) : opSg o = s := by
  have hl := (List.getElem?_eq_some_iff.1 hs).1
  have e : sgs = sgs.take j ++ s :: sgs.drop (j + 1) := by
    have h2 : sgs.drop j = s :: sgs.drop (j + 1) := by rw [List.drop_eq_getElem_cons hl]; congr 1; exact (List.getElem?_eq_some_iff.1 hs).2
    rw [← h2, List.take_append_drop]
  unfold opSg
  rw [e, List.find?_append]
  have : (sgs.take j).find? (fun s => decide (s.op = o)) = none := by
    rw [List.find?_eq_none]
    intro y hy
    simpa using h y hy
  rw [this]
  simp [he]
theorem opSg_none {o : Int} (h : ∀ y ∈ sgs.take 11, y.op ≠ o) : opSg o = sgZ := by
  unfold opSg
  have : sgs.find? (fun s => decide (s.op = o)) = none := by
    rw [List.find?_eq_none]
    intro y hy
    have : sgs.take 11 = sgs := rfl
    rw [this] at h
    simpa using h y hy
  rw [this]
  rfl
def RetSign (W : World) (s : Sg) (e : Ending) (w' : World) : Prop := e = .returned (sgA s) ∧ Below W.heap.size W w'
abbrev sgO (s : Sg) : Obj := .cells #[.string s.t, .int .i64 s.op, .int .i64 s.lev, .int .i64 s.left, .int .i64 s.right] 88
theorem sg_below' {w wr : World} {o : Obj} (h : Below (w.alloc o).heap.size (w.alloc o) wr) : Below w.heap.size w wr :=
  ((Below.refl _ _).alloc (Nat.le_refl _) _).trans (h.mono (by simp))
theorem sg_below {w wr : World} {o : Obj} (h : Below (w.alloc o).heap.size (w.alloc o) wr) (p : Obj) : Below w.heap.size w (wr.alloc p) :=
  (sg_below' h).alloc (sg_below' h).size _
theorem sg_next {o : Int} {j : Nat} {s : Sg} (h : ∀ y ∈ sgs.take j, y.op ≠ o) (hs : sgs[j]? = some s) (hne : s.op ≠ o) : ∀ y ∈ sgs.take (j + 1), y.op ≠ o := by
  intro y hy
  rw [take_next hs, List.mem_append, List.mem_singleton] at hy
  rcases hy with hy | rfl
  · exact h y hy
  · exact hne
set_option maxHeartbeats 4000000 in
theorem signOf_any (o : Int) (w : World) (hs : SignsIn w) : Calls Tryd.prog 56 #[.int .i64 o] w (RetSign w (opSg o)) := by
  have hi := signs_size
  have hix := signs_index
  obtain ⟨SV, hSV⟩ : ∃ SV, SV = signsV := ⟨_, rfl⟩
  unfold SignsIn at hs
  rw [← hSV] at hi hix hs
  obtain ⟨T, fr, hg0⟩ := hs
  have hg := (heap_alloc_old w (.cells #[.string ⟨#[]⟩, .int .i64 0, .int .i64 0, .int .i64 0, .int .i64 0] 88) (Array.getElem?_eq_some_iff.1 hg0).1).trans hg0
  have HIX := Lib.hid hix
  clear hix hSV hg0
  have k0 := heap_alloc_new w (.cells #[.string ⟨#[]⟩, .int .i64 0, .int .i64 0, .int .i64 0, .int .i64 0] 88)
  have HK0 := Lib.hid k0
  clear k0
  go_enter Tryd.func56, Tryd.ntmps56
  go_wp2_with (refine wpList_load_row rfl 100 _ rfl 0 rfl T SV fr _ hg Tryd.underlying100 rfl hi ?_)
  clear hg hi
  go_loopw [4, 6] (fun _ i wr => SgRel (w.alloc (.cells #[.string ⟨#[]⟩, .int .i64 0, .int .i64 0, .int .i64 0, .int .i64 0] 88)) o i wr) (fun _ i _ => 11 - (intOf i).toNat)
  case atStart => exact ⟨0, by omega, rfl, by simp, Below.refl _ _⟩
  case round =>
    obtain ⟨j, hj, rfl, hno, hbw⟩ := hrel
    have HN := Lib.hid hno
    have HB := Lib.hid hbw
    have hz := hbw.size
    rw [World.size_alloc] at hz
    have hlt0 : w.heap.size < wr.heap.size := by omega
    have k0 := block_on HK0.out hbw
    have HK := Lib.hid k0
    have HZ := Lib.hid hlt0
    clear hno hbw k0 hz
    by_cases hlt : j < 11
    · obtain ⟨s, hs⟩ : ∃ s, sgs[j]? = some s := get_some (by rw [sgs_len]; exact hlt)
      have hx := HIX.out j s hs
      have HS := Lib.hid hs
      have k1 := (heap_alloc_old wr (sgO s) hlt0).trans HK.out
      have HK1 := Lib.hid (blk_of k1 (n := 5) rfl)
      clear hs hlt0
      by_cases ho : s.op = o
      · have e1 : (s.op == o) = true := by simpa using ho
        have HO := Lib.hid (opSg_hit HS.out HN.out ho)
        obtain ⟨f0, f1, f2, f3, f4⟩ := free_5 k1
        obtain ⟨d0, d1, d2, d3, d4⟩ := cells_5 k1
        clear ho k1
        go_wp2_with fail
        obtain ⟨q0, q1, q2, q3, q4⟩ := store_five HK1.out (.string s.t) (.int .i64 s.op) (.int .i64 s.lev) (.int .i64 s.left) (.int .i64 s.right)
        refine bodyPost_ret (v := sgA s) (by simp [results, Tryd.results56, go_sem, q0, q1, q2, q3, q4]) rfl ?_
        rw [HO.out]
        exact ⟨rfl, below_5 (sg_below HB.out (sgO s)) (Nat.le_refl _) _ _ _ _ _⟩
      · have e1 : (s.op == o) = false := by simpa using ho
        have HO := Lib.hid ho
        clear ho k1
        go_wp2_with fail
        go_roundw
        case rel => exact ⟨j + 1, hlt, by simp, sg_next HN.out HS.out HO.out, HB.out.alloc HB.out.size _⟩
        case measure => simp [intOf]; omega
    · obtain rfl : j = 11 := by omega
      have HO := Lib.hid (opSg_none HN.out)
      obtain ⟨f0, f1, f2, f3, f4⟩ := free_5 HK.out
      obtain ⟨d0, d1, d2, d3, d4⟩ := cells_5 HK.out
      have HK1 := Lib.hid (blk_of HK.out (n := 5) rfl)
      go_wp2_with fail
      obtain ⟨q0, q1, q2, q3, q4⟩ := store_five HK1.out (.string ⟨#[]⟩) (.int .i64 0) (.int .i64 0) (.int .i64 0) (.int .i64 0)
      refine bodyPost_ret (v := sgA sgZ) (by simp [results, Tryd.results56, go_sem, q0, q1, q2, q3, q4, sgZ]) rfl ?_
      rw [HO.out]
      exact ⟨rfl, below_5 (sg_below' HB.out) (Nat.le_refl _) _ _ _ _ _⟩
end Go.Proofs.YtffdfajlfgeicaaDoor
