/- What the program's reader does (next). Conditions: a text no longer than memory holds; the table of marks of two bytes holds what it was laid with; the reader stands at a place of the text. -/
import Derived.Test.YthmhlhegmnpagaaDoorScanNext
namespace Go.Proofs.YthmhlhegmnpagaaDoor
open Go.RowKit ScanSpec

theorem PairsIn.but {w w' : World} {B : Nat} (h : PairsIn w) (hb : w.grownBy w' (some B)) (hB : 0 ≠ B) : PairsIn w' := by
  have hp := h.pos
  obtain ⟨T, fr, h⟩ := h
  exact ⟨T, fr, (hb.block _ hp (by simpa using hB)).trans h⟩
/-- What came behind a new block, seen from before it. -/
theorem but_from {w w' : World} {B : Nat} {o : Obj} (h : (w.alloc o).grownBy w' (some B)) : w.grownBy w' (some B) :=
  ⟨h.os, h.tape, h.output, Nat.le_trans (Nat.le_succ _) (by have := h.size; rwa [World.size_alloc] at this), fun j hj hn => (h.block j (by rw [World.size_alloc]; omega) hn).trans (heap_alloc_old _ _ hj)⟩
abbrev tokZ : Obj := .cells #[.int .i64 0, .string ⟨#[]⟩, .int .i64 0, .int .i64 0] 34
abbrev tokH (p1 p2 : Int) : Obj := .cells #[.int .i64 0, .string ⟨#[]⟩, .int .i64 p1, .int .i64 p2] 34
def tokA (s : ByteArray) (kd : Int) (i n : Nat) : Value := .agg #[.int .i64 kd, .string (s.extract i (i + n)), .int .i64 (pos s.data.toList i).1, .int .i64 (pos s.data.toList i).2]
def NextGood (w : World) (B : Nat) (s : ByteArray) (i : Nat) (kd : Int) (n : Nat) (e : Ending) (w' : World) : Prop :=
  e = .returned (.tuple #[tokA s kd i n, .int .i64 0]) ∧ StandsAt w' B s (i + n) ∧ w.grownBy w' (some B)
/-- Behind the first call: where the reader stands, what the two tokens' blocks hold. -/
structure NextMid (w w3 : World) (B tb : Nat) (r : ByteArray) (p1 p2 : Int) : Prop where
  rdr : RdrAt w3 B r p1 p2
  tok : w3.heap[tb]? = some (.cells #[.int .i64 0, .string ⟨#[]⟩, .int .i64 p1, .int .i64 p2] 34 (0, 0))
  res : w3.heap[w.heap.size]? = some (.cells #[.int .i64 0, .string ⟨#[]⟩, .int .i64 0, .int .i64 0] 34 (0, 0))
  but : w.grownBy w3 (some B)
  lt : w.heap.size < tb
  bne : B ≠ tb
  top : tb < w3.heap.size
theorem next_mid {w w2 : World} {B : Nat} {s r : ByteArray} {g : Nat} {p1 p2 : Int} (hB : B < w.heap.size) (hR : StandsAt w2 B s g) (hr : s.extract g s.size = r) (hp : pos s.data.toList g = (p1, p2)) (hb : (w.alloc tokZ).grownBy w2 (some B)) :
    NextMid w (w2.alloc (tokH p1 p2)) B w2.heap.size r p1 p2 := by
  have h2 := hb.size
  rw [World.size_alloc] at h2
  unfold StandsAt at hR
  rw [hr, hp] at hR
  exact ⟨(heap_alloc_old _ _ hR.lt).trans hR, heap_alloc_new _ _, (heap_alloc_old _ _ (by omega)).trans ((hb.block w.heap.size (by simp) (by simp; omega)).trans (heap_alloc_new _ _)), but_from (but_alloc hb _), by omega, Nat.ne_of_lt hR.lt, by simp⟩

structure NextMid4 (w w4 : World) (B tb : Nat) (r : ByteArray) (p1 p2 : Int) (u v : Value) : Prop where
  rdr : RdrAt w4 B r p1 p2
  tok : w4.heap[tb]? = some (.cells #[u, v, .int .i64 p1, .int .i64 p2] 34 (0, 0))
  res : w4.heap[w.heap.size]? = some (.cells #[.int .i64 0, .string ⟨#[]⟩, .int .i64 0, .int .i64 0] 34 (0, 0))
  but : w.grownBy w4 (some B)
  lt : w.heap.size < tb
  bne : B ≠ tb
structure NextMid5 (w w4 : World) (B tb : Nat) (p1 p2 : Int) (u v : Value) : Prop where
  tok : w4.heap[tb]? = some (.cells #[u, v, .int .i64 p1, .int .i64 p2] 34 (0, 0))
  res : w4.heap[w.heap.size]? = some (.cells #[.int .i64 0, .string ⟨#[]⟩, .int .i64 0, .int .i64 0] 34 (0, 0))
  but : w.grownBy w4 (some B)
theorem next_past {w w4 w5 : World} {B tb : Nat} {r : ByteArray} {p1 p2 : Int} {u v : Value} (hB : B < w.heap.size) (h : NextMid4 w w4 B tb r p1 p2 u v) (hb : w4.grownBy w5 (some B)) : NextMid5 w w5 B tb p1 p2 u v :=
  ⟨(hb.block _ (Array.getElem?_eq_some_iff.1 h.tok).1 (by simpa using Ne.symm h.bne)).trans h.tok, (hb.block _ (Array.getElem?_eq_some_iff.1 h.res).1 (by simp; omega)).trans h.res, but_trans h.but hb⟩
theorem store_four {w : World} {b : Nat} {T : TypeId} {x y z t : Value} (h : w.heap[b]? = some (.cells #[x, y, z, t] T (0, 0))) (u0 u1 u2 u3 : Value) :
    (w.setCell ⟨b, 0, none⟩ u0).cell? ⟨b, 0, none⟩ = some u0 ∧ ((w.setCell ⟨b, 0, none⟩ u0).setCell ⟨b, 1, none⟩ u1).cell? ⟨b, 1, none⟩ = some u1 ∧
    (((w.setCell ⟨b, 0, none⟩ u0).setCell ⟨b, 1, none⟩ u1).setCell ⟨b, 2, none⟩ u2).cell? ⟨b, 2, none⟩ = some u2 ∧
    ((((w.setCell ⟨b, 0, none⟩ u0).setCell ⟨b, 1, none⟩ u1).setCell ⟨b, 2, none⟩ u2).setCell ⟨b, 3, none⟩ u3).cell? ⟨b, 3, none⟩ = some u3 :=
  ⟨cell_of_block' (block_setCell' h 0 u0) (i := 0) rfl, cell_of_block' (block_setCell' (block_setCell' h 0 u0) 1 u1) (i := 1) rfl,
    cell_of_block' (block_setCell' (block_setCell' (block_setCell' h 0 u0) 1 u1) 2 u2) (i := 2) rfl,
    cell_of_block' (block_setCell' (block_setCell' (block_setCell' (block_setCell' h 0 u0) 1 u1) 2 u2) 3 u3) (i := 3) rfl⟩

theorem next_fin {w w5 : World} {B tb g n : Nat} {s r : ByteArray} {kd p1 p2 : Int} {u v x0 x1 x2 x3 : Value} (hB : B < w.heap.size) (h : NextMid5 w w5 B tb p1 p2 u v) (hS : StandsAt w5 B s (g + n)) (hr : s.extract g s.size = r) (hp : pos s.data.toList g = (p1, p2)) (hn : g + n ≤ s.size) :
    NextGood w B s g kd n (.returned (.tuple #[.agg #[.int .i64 kd, .string (r.extract 0 n), .int .i64 p1, .int .i64 p2], .int .i64 0]))
      ((((w5.setCell ⟨w.heap.size, 0, none⟩ x0).setCell ⟨w.heap.size, 1, none⟩ x1).setCell ⟨w.heap.size, 2, none⟩ x2).setCell ⟨w.heap.size, 3, none⟩ x3) := by
  have hb : ∀ (W : World) (j : Nat) (x : Value), (W.setCell ⟨w.heap.size, j, none⟩ x).heap[B]? = W.heap[B]? := fun W j x => Below.heap_setCell _ _ _ _ (Nat.ne_of_lt hB)
  refine ⟨?_, ?_, but_set_new (but_set_new (but_set_new (but_set_new h.but (Nat.le_refl _) _ _) (Nat.le_refl _) _ _) (Nat.le_refl _) _ _) (Nat.le_refl _) _ _⟩
  · subst hr
    rw [extract_head s g n hn, tokA, hp]
  · exact (hb _ _ _).trans ((hb _ _ _).trans ((hb _ _ _).trans ((hb _ _ _).trans hS)))

set_option maxHeartbeats 4000000 in
theorem next_good (B i : Nat) (s : ByteArray) (w : World) (hi : i ≤ s.size) (hs : s.size ≤ 9223372036854775800) (h : StandsAt w B s i) (kd : Int) (n : Nat)
    (hn : gap s.data.toList i + n ≤ s.size) (hl : ∀ k, k < n → ∃ c, s.data.toList[gap s.data.toList i + k]? = some c ∧ c.toNat ≠ 10)
    (hF : ∀ w', w.grownBy w' (some B) → Calls Tryd.prog 14 #[.string (s.extract (gap s.data.toList i) s.size)] w' fun e w2 => e = .returned (.tuple #[.int .i64 kd, .int .i64 n, .int .i64 0]) ∧ w' = w2) :
    Calls Tryd.prog 9 #[.pointer (some ⟨B, 0, none⟩)] w (NextGood w B s (gap s.data.toList i) kd n) := by
  have HS := Lib.hid (fun w h => skip_any B i s w hi hs h)
  have hBlt := h.lt
  have HSt := Lib.hid h
  obtain ⟨g, hg⟩ : ∃ g, g = gap s.data.toList i := ⟨_, rfl⟩
  rw [← hg] at hn hl hF ⊢
  obtain ⟨r, hr⟩ : ∃ r, s.extract g s.size = r := ⟨_, rfl⟩
  obtain ⟨p1, p2, hp⟩ : ∃ p1 p2, pos s.data.toList g = (p1, p2) := ⟨_, _, rfl⟩
  have hrs : r.size + g = s.size := by rw [← hr, extract_size']; omega
  have hpb := pos_bd s.data.toList g
  rw [hp] at hpb
  obtain ⟨b1, b2, b3, b4⟩ := hpb
  simp only at b1 b2 b3 b4
  rw [hr] at hF
  have HP := Lib.hid hp
  have HRr := Lib.hid hr
  have HGp := Lib.hid hg
  have HL := Lib.hid hl
  have HF := Lib.hid hF
  have hnr : n ≤ r.size := by omega
  have hnI : (n : Int) ≤ (r.size : Int) := by omega
  have HPs := Lib.hid (fun w h => pass_any B r n p1 p2 w h (by omega) (by omega) (by omega) (by omega))
  clear h hg hl hF hp hr
  go_enter Tryd.func9, Tryd.ntmps9
  go_wp2_with fail
  refine (HS.out _ (by exact (heap_alloc_old _ _ hBlt).trans HSt.out)).mono ?_
  rintro e w2 ⟨rfl, hR2, hb2⟩
  rw [← HGp.out] at hR2
  have HM := Lib.hid (next_mid hBlt hR2 HRr.out HP.out hb2)
  have c0 : w2.cell? ⟨B, 0, none⟩ = some (.string r) := by have := cell_of_block' hR2 (i := 0) rfl; rwa [HRr.out] at this
  have c1 : w2.cell? ⟨B, 1, none⟩ = some (.int .i64 p1) := by have := cell_of_block' hR2 (i := 1) rfl; rwa [HP.out] at this
  have c2 : w2.cell? ⟨B, 2, none⟩ = some (.int .i64 p2) := by have := cell_of_block' hR2 (i := 2) rfl; rwa [HP.out] at this
  have hB2 := hR2.lt
  clear hR2 hb2
  go_wp2_with fail
  refine (HF.out _ HM.out.but).mono ?_
  rintro e w' ⟨rfl, rfl⟩
  obtain ⟨tb, htb⟩ : ∃ tb, tb = w2.heap.size := ⟨_, rfl⟩
  generalize hW3 : w2.alloc (tokH p1 p2) = w3 at HM ⊢
  rw [← htb] at HM ⊢
  clear hW3 c0 c1 c2 htb hB2
  have c0 : w3.cell? ⟨B, 0, none⟩ = some (.string r) := cell_of_block' HM.out.rdr (i := 0) rfl
  have t0 := cell_of_block' HM.out.tok (i := 0) rfl
  have t1 := cell_of_block' HM.out.tok (i := 1) rfl
  have f0 := free_of_block' HM.out.tok 0
  have f1 := free_of_block' HM.out.tok 1
  have q0 : (w3.setCell ⟨tb, 0, none⟩ (.int .i64 kd)).heap[tb]? = some (.cells #[.int .i64 kd, .string ⟨#[]⟩, .int .i64 p1, .int .i64 p2] 34 (0, 0)) := block_setCell' HM.out.tok 0 _
  have d0 : (w3.setCell ⟨tb, 0, none⟩ (.int .i64 kd)).cell? ⟨B, 0, none⟩ = some (.string r) := cell_of_block' ((Below.heap_setCell _ _ _ _ HM.out.bne).trans HM.out.rdr) (i := 0) rfl
  have d1 := cell_of_block' q0 (i := 1) rfl
  have g1 := free_of_block' q0 1
  clear q0
  go_wp2_with fail
  go_region
  have hT4 : ((w3.setCell ⟨tb, 0, none⟩ (.int .i64 kd)).setCell ⟨tb, 1, none⟩ (.string (r.extract 0 n))).heap[tb]? = some (.cells #[.int .i64 kd, .string (r.extract 0 n), .int .i64 p1, .int .i64 p2] 34 (0, 0)) := block_setCell' (block_setCell' HM.out.tok 0 _) 1 _
  have HM4 : Hid (NextMid4 w ((w3.setCell ⟨tb, 0, none⟩ (.int .i64 kd)).setCell ⟨tb, 1, none⟩ (.string (r.extract 0 n))).drew B tb r p1 p2 (.int .i64 kd) (.string (r.extract 0 n))) :=
    Lib.hid ⟨(Below.heap_setCell _ _ _ _ HM.out.bne).trans ((Below.heap_setCell _ _ _ _ HM.out.bne).trans HM.out.rdr), hT4, (Below.heap_setCell _ _ _ _ (Nat.ne_of_lt HM.out.lt)).trans ((Below.heap_setCell _ _ _ _ (Nat.ne_of_lt HM.out.lt)).trans HM.out.res),
      but_drew (but_set_new (but_set_new HM.out.but (Nat.le_of_lt HM.out.lt) _ _) (Nat.le_of_lt HM.out.lt) _ _), HM.out.lt, HM.out.bne⟩
  clear hT4 d0 d1 g1 c0 t0 t1 f0 f1
  generalize ((w3.setCell ⟨tb, 0, none⟩ (.int .i64 kd)).setCell ⟨tb, 1, none⟩ (.string (r.extract 0 n))).drew = w4 at HM4 ⊢
  go_wp2_with fail
  refine (HPs.out _ HM4.out.rdr).mono ?_
  rintro e w5 ⟨rfl, hR5, hb5⟩
  have HM5 := Lib.hid (next_past hBlt HM4.out hb5)
  have HR5 := Lib.hid (stands_on hR5 HRr.out.symm (by rw [pos_along _ HL.out, HP.out]))
  clear hR5 hb5
  have c0 := cell_of_block' HM5.out.tok (i := 0) rfl
  have c1 := cell_of_block' HM5.out.tok (i := 1) rfl
  have c2 := cell_of_block' HM5.out.tok (i := 2) rfl
  have c3 := cell_of_block' HM5.out.tok (i := 3) rfl
  have r0 := cell_of_block' HM5.out.res (i := 0) rfl
  have r1 := cell_of_block' HM5.out.res (i := 1) rfl
  have r2 := cell_of_block' HM5.out.res (i := 2) rfl
  have r3 := cell_of_block' HM5.out.res (i := 3) rfl
  have f0 := free_of_block' HM5.out.res 0
  have f1 := free_of_block' HM5.out.res 1
  have f2 := free_of_block' HM5.out.res 2
  have f3 := free_of_block' HM5.out.res 3
  go_wp2_with fail
  have q0 := fun u => (store_four HM5.out.res u u u u).1
  have q1 := fun u v => (store_four HM5.out.res u v v v).2.1
  have q2 := fun u v x => (store_four HM5.out.res u v x x).2.2.1
  have q3 := fun u v x y => (store_four HM5.out.res u v x y).2.2.2
  refine bodyPost_ret (v := .tuple #[.agg #[.int .i64 kd, .string (r.extract 0 n), .int .i64 p1, .int .i64 p2], .int .i64 0]) (by simp [results, Tryd.results9, go_sem, q0, q1, q2, q3]) rfl ?_
  exact next_fin hBlt HM5.out HR5.out HRr.out HP.out hn

def NextBad (w : World) (B : Nat) (s : ByteArray) (i : Nat) (er : Int) (e : Ending) (w' : World) : Prop :=
  e = .returned (.tuple #[.agg #[.int .i64 0, .string ⟨#[]⟩, .int .i64 (pos s.data.toList i).1, .int .i64 (pos s.data.toList i).2], .int .i64 er]) ∧ w.grownBy w' (some B)
set_option maxHeartbeats 4000000 in
theorem next_bad (B i : Nat) (s : ByteArray) (w : World) (hi : i ≤ s.size) (hs : s.size ≤ 9223372036854775800) (h : StandsAt w B s i) (er : Int) (hne : er ≠ 0)
    (hF : ∀ w', w.grownBy w' (some B) → Calls Tryd.prog 14 #[.string (s.extract (gap s.data.toList i) s.size)] w' fun e w2 => e = .returned (.tuple #[.int .i64 0, .int .i64 0, .int .i64 er]) ∧ w' = w2) :
    Calls Tryd.prog 9 #[.pointer (some ⟨B, 0, none⟩)] w (NextBad w B s (gap s.data.toList i) er) := by
  have HS := Lib.hid (fun w h => skip_any B i s w hi hs h)
  have hBlt := h.lt
  have HSt := Lib.hid h
  obtain ⟨g, hg⟩ : ∃ g, g = gap s.data.toList i := ⟨_, rfl⟩
  rw [← hg] at hF ⊢
  obtain ⟨r, hr⟩ : ∃ r, s.extract g s.size = r := ⟨_, rfl⟩
  obtain ⟨p1, p2, hp⟩ : ∃ p1 p2, pos s.data.toList g = (p1, p2) := ⟨_, _, rfl⟩
  rw [hr] at hF
  have HP := Lib.hid hp
  have HRr := Lib.hid hr
  have HGp := Lib.hid hg
  have HF := Lib.hid hF
  have e0 : (er == 0) = false := by simpa using hne
  have e1 : (er != 0) = true := by simpa using hne
  clear h hg hF hp hr hne
  go_enter Tryd.func9, Tryd.ntmps9
  go_wp2_with fail
  refine (HS.out _ (by exact (heap_alloc_old _ _ hBlt).trans HSt.out)).mono ?_
  rintro e w2 ⟨rfl, hR2, hb2⟩
  rw [← HGp.out] at hR2
  have HM := Lib.hid (next_mid hBlt hR2 HRr.out HP.out hb2)
  have c0 : w2.cell? ⟨B, 0, none⟩ = some (.string r) := by have := cell_of_block' hR2 (i := 0) rfl; rwa [HRr.out] at this
  have c1 : w2.cell? ⟨B, 1, none⟩ = some (.int .i64 p1) := by have := cell_of_block' hR2 (i := 1) rfl; rwa [HP.out] at this
  have c2 : w2.cell? ⟨B, 2, none⟩ = some (.int .i64 p2) := by have := cell_of_block' hR2 (i := 2) rfl; rwa [HP.out] at this
  have hB2 := hR2.lt
  clear hR2 hb2
  go_wp2_with fail
  refine (HF.out _ HM.out.but).mono ?_
  rintro e w' ⟨rfl, rfl⟩
  obtain ⟨tb, htb⟩ : ∃ tb, tb = w2.heap.size := ⟨_, rfl⟩
  generalize hW3 : w2.alloc (tokH p1 p2) = w3 at HM ⊢
  rw [← htb] at HM ⊢
  clear hW3 c0 c1 c2 htb hB2
  have c0 := cell_of_block' HM.out.tok (i := 0) rfl
  have c1 := cell_of_block' HM.out.tok (i := 1) rfl
  have c2 := cell_of_block' HM.out.tok (i := 2) rfl
  have c3 := cell_of_block' HM.out.tok (i := 3) rfl
  have r0 := cell_of_block' HM.out.res (i := 0) rfl
  have r1 := cell_of_block' HM.out.res (i := 1) rfl
  have r2 := cell_of_block' HM.out.res (i := 2) rfl
  have r3 := cell_of_block' HM.out.res (i := 3) rfl
  have f0 := free_of_block' HM.out.res 0
  have f1 := free_of_block' HM.out.res 1
  have f2 := free_of_block' HM.out.res 2
  have f3 := free_of_block' HM.out.res 3
  go_wp2_with fail
  have q0 := fun u => (store_four HM.out.res u u u u).1
  have q1 := fun u v => (store_four HM.out.res u v v v).2.1
  have q2 := fun u v x => (store_four HM.out.res u v x x).2.2.1
  have q3 := fun u v x y => (store_four HM.out.res u v x y).2.2.2
  refine bodyPost_ret (v := .tuple #[.agg #[.int .i64 0, .string ⟨#[]⟩, .int .i64 p1, .int .i64 p2], .int .i64 er]) (by simp [results, Tryd.results9, go_sem, q0, q1, q2, q3]) rfl ?_
  exact ⟨by rw [HP.out], but_set_new (but_set_new (but_set_new (but_set_new HM.out.but (Nat.le_refl _) _ _) (Nat.le_refl _) _ _) (Nat.le_refl _) _ _) (Nat.le_refl _) _ _⟩
end Go.Proofs.YthmhlhegmnpagaaDoor
