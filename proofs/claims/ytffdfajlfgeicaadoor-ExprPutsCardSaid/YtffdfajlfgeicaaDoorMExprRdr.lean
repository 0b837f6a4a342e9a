/- ExprRdr, joined. -/
import Derived.Test.YtffdfajlfgeicaaDoorMExprInsert2
import Derived.Test.YtffdfajlfgeicaaDoorMCurB
import Derived.Test.YtffdfajlfgeicaaDoorMTermA
import Derived.Test.YtffdfajlfgeicaaDoorMExprLevel
namespace Go.Proofs.YtffdfajlfgeicaaDoor
open Go.RowKit CurSpec TermSpec ExprSpec
set_option maxRecDepth 100000

theorem CurAt.upto {w w' : World} {B : Nat} {c : Cur} (h : CurAt w B c) (hs : w.heap.size ≤ w'.heap.size) (hk : ∀ i, i ≤ B → w'.heap[i]? = w.heap[i]?) : CurAt w' B c := by
  obtain ⟨b, off, n, cp, h, hlt, hn, m, hm, A, c', heq, hc, hl, hA⟩ := h
  refine ⟨b, off, n, cp, (hk B (Nat.le_refl _)).trans h, hlt, hn, m, hm, A, c', heq, hc, hl, fun h0 => ?_⟩
  obtain ⟨b', off', h1, hlt', hcell⟩ := hA h0
  subst h1
  cases heq
  refine ⟨b, off, rfl, by omega, fun j u hj => ?_⟩
  rw [← hcell j u hj]
  simp [World.cell?, hk b (by omega)]

/-- The reader in block R: the cursor in block B, the terms in a row of its own. -/
structure RdAt (w : World) (R B : Nat) (v : Value) (c : Cur) (l : List Tm) : Prop where
  cur : CurAt w B c
  blk : w.heap[R]? = some (.cells #[.pointer (some ⟨B, 0, none⟩), v] 60 (0, 0))
  own : w.ownsRow (R + 1) 52 3 v l.length (tmsV l)
  lt : B < R
  few : l.length ≤ 41
  small : Small l
/-- What a call leaves: nothing is changed but the cursor, the reader, and the row; new blocks may have come. -/
structure Hold (R B : Nat) (v v' : Value) (w w' : World) : Prop where
  os : w'.os = w.os
  tape : w'.tape = w.tape
  output : w'.output = w.output
  size : w.heap.size ≤ w'.heap.size
  block : ∀ i, i < w.heap.size → i ≠ B → i ≠ R → v.ownBlock ≠ some i → w'.heap[i]? = w.heap[i]?
  row : v'.ownBlock = v.ownBlock ∨ ∀ j, v'.ownBlock = some j → w.heap.size ≤ j
theorem Hold.refl (R B : Nat) (v : Value) (w : World) : Hold R B v v w w := ⟨rfl, rfl, rfl, Nat.le_refl _, fun _ _ _ _ _ => rfl, .inl rfl⟩
theorem Hold.trans {R B : Nat} {v v' v2 : Value} {w w' w2 : World} (h : Hold R B v v' w w') (k : Hold R B v' v2 w' w2) : Hold R B v v2 w w2 := by
  refine ⟨k.os.trans h.os, k.tape.trans h.tape, k.output.trans h.output, Nat.le_trans h.size k.size, fun i hi h1 h2 h3 => ?_, ?_⟩
  · refine (k.block i (Nat.lt_of_lt_of_le hi h.size) h1 h2 ?_).trans (h.block i hi h1 h2 h3)
    rcases h.row with hr | hr
    · rw [hr]; exact h3
    · intro e; have := hr i e; omega
  · rcases k.row with hk | hk
    · rcases h.row with hr | hr
      · exact .inl (hk.trans hr)
      · exact .inr (fun j hj => hr j (by rw [← hk]; exact hj))
    · exact .inr (fun j hj => Nat.le_trans h.size (hk j hj))
theorem Hold.of_but {R B : Nat} {w w' : World} (v : Value) (h : w.grownBy w' (some B)) : Hold R B v v w w' :=
  ⟨h.os, h.tape, h.output, h.size, fun i hi h1 _ _ => h.block i hi (by simpa using h1), .inl rfl⟩
theorem Hold.of_below {R B : Nat} {w w' : World} (v : Value) (h : Below w.heap.size w w') : Hold R B v v w w' := Hold.of_but v (but_below h)
theorem Hold.apart {R B : Nat} {v v' : Value} {w w' : World} (h : Hold R B v v' w w') {i : Nat} (hi : i < w.heap.size) (hne : v.ownBlock ≠ some i) : v'.ownBlock ≠ some i := by
  rcases h.row with hr | hr
  · rw [hr]; exact hne
  · intro e; have := hr i e; omega
theorem RdAt.lt' {w : World} {R B : Nat} {v : Value} {c : Cur} {l : List Tm} (h : RdAt w R B v c l) : R < w.heap.size := (Array.getElem?_eq_some_iff.1 h.blk).1
theorem RdAt.apart {w : World} {R B : Nat} {v : Value} {c : Cur} {l : List Tm} (h : RdAt w R B v c l) {i : Nat} (hi : w.heap.size ≤ i) : i ≠ B ∧ i ≠ R ∧ v.ownBlock ≠ some i := by
  have h1 := h.lt'
  have h2 := h.lt
  refine ⟨by omega, by omega, fun e => ?_⟩
  have := (own_block_bd h.own i e).2
  omega
theorem RdAt.keep {w w' : World} {R B : Nat} {v : Value} {c : Cur} {l : List Tm} (h : RdAt w R B v c l) (hb : Below w.heap.size w w') : RdAt w' R B v c l :=
  ⟨h.cur.keep hb, block_on h.blk hb, own_keep h.own hb, h.lt, h.few, h.small⟩
theorem RdAt.but {w w' : World} {R B : Nat} {v : Value} {c c' : Cur} {l : List Tm} (h : RdAt w R B v c l) (hb : w.grownBy w' (some B)) (hc : CurAt w' B c') : RdAt w' R B v c' l :=
  ⟨hc, (hb.block R h.lt' (by have := h.lt; simp; omega)).trans h.blk, own_but h.own hb (by have := h.lt; omega), h.lt, h.few, h.small⟩
theorem RdAt.alloc {w : World} {R B : Nat} {v : Value} {c : Cur} {l : List Tm} (h : RdAt w R B v c l) (o : Obj) : RdAt (w.alloc o) R B v c l := h.keep ((Below.refl _ _).alloc (Nat.le_refl _) _)
theorem RdAt.drew {w : World} {R B : Nat} {v : Value} {c : Cur} {l : List Tm} (h : RdAt w R B v c l) : RdAt w.drew R B v c l := ⟨h.cur.drew, h.blk, h.own, h.lt, h.few, h.small⟩

def RetRd (W : World) (R B : Nat) (v : Value) (c : Cur) (l : List Tm) (e : Ending) (w' : World) : Prop := ∃ v', e = .returned (.tuple #[]) ∧ RdAt w' R B v' c l ∧ Hold R B v v' W w'

/-- A term put in, where there is room for one more. -/
def ins (l : List Tm) (i : Nat) (t : Tm) : List Tm := if l.length ≤ 40 then l.take i ++ t :: l.drop i else l
theorem hold_ins {w w1 x : World} {R B : Nat} {v v' : Value} {c : Cur} {l : List Tm} {i : Nat} {t : Tm} {n : Nat} (h : RdAt w R B v c l) (hn : n = l.length) (h40 : n ≤ 40) (ht : t.s.size ≤ 9223372036854775807) (hb : Below w.heap.size w w1)
    (hown : x.ownsRow (R + 1) 52 3 v' (n + 1) (tmsV (l.take i ++ t :: l.drop i))) (hg : w1.grownBy x v.ownBlock) (hr : v'.ownBlock = v.ownBlock ∨ v'.ownBlock = some w1.heap.size) :
    RdAt (x.setCell ⟨R, 1, none⟩ v') R B v' c (ins l i t) ∧ Hold R B v v' w (x.setCell ⟨R, 1, none⟩ v') ∧ x.heap[R]? = some (.cells #[.pointer (some ⟨B, 0, none⟩), v] 60 (0, 0)) := by
  have hRlt := h.lt'
  have hBR := h.lt
  have hz1 := hb.size
  have hz2 := hg.size
  have hap : ∀ j, j ≤ R → v.ownBlock ≠ some j := fun j hj e => by have := (own_block_bd h.own j e).1; omega
  have hold : ∀ j, j < w.heap.size → v.ownBlock ≠ some j → x.heap[j]? = w.heap[j]? := fun j hj hne => (hg.block j (by omega) (fun e => hne e.symm)).trans (hb.block j hj)
  have hxR := (hold R hRlt (hap R (Nat.le_refl _))).trans h.blk
  have hlen : (l.take i ++ t :: l.drop i).length = n + 1 := by
    simp only [List.length_append, List.length_take, List.length_cons, List.length_drop]; omega
  have hins : ins l i t = l.take i ++ t :: l.drop i := if_pos (by omega)
  have hset : ∀ j, j ≠ R → (x.setCell ⟨R, 1, none⟩ v').heap[j]? = x.heap[j]? := fun j hj => Below.heap_setCell _ _ _ _ hj
  have hown' : (x.setCell ⟨R, 1, none⟩ v').ownsRow (R + 1) 52 3 v' (n + 1) (tmsV (l.take i ++ t :: l.drop i)) :=
    own_but hown (B := R) (but_set (but_refl _ _) 1 _) (by omega)
  refine ⟨⟨?_, block_setCell' hxR 1 v', by rw [hins, hlen]; exact hown', h.lt, by rw [hins, hlen]; omega, ?_⟩, ⟨?_, ?_, ?_, ?_, fun j hj h1 h2 h3 => (hset j h2).trans (hold j hj h3), ?_⟩, hxR⟩
  rotate_left
  · rw [hins]
    intro u hu
    rcases List.mem_append.1 hu with hu | hu
    · exact h.small u (List.mem_of_mem_take hu)
    · rcases List.mem_cons.1 hu with rfl | hu
      · exact ht
      · exact h.small u (List.mem_of_mem_drop hu)
  rotate_right
  · refine h.cur.upto (by simp [World.setCell]; omega) (fun j hj => (hset j (by omega)).trans (hold j (by omega) (hap j (by omega))))
  · exact hg.os.trans hb.os
  · exact hg.tape.trans hb.tape
  · exact hg.output.trans hb.output
  · simp [World.setCell]; omega
  · rcases hr with hr | hr
    · exact .inl hr
    · exact .inr (fun j hj => by rw [hr] at hj; cases hj; omega)

abbrev tmO (t : Tm) : Obj := .cells #[.int .i64 t.op, .int .i64 t.n, .string t.s] 52
set_option maxHeartbeats 4000000 in
theorem insert_at (R B : Nat) (v : Value) (c : Cur) (l : List Tm) (i : Nat) (t : Tm) (w : World) (h : RdAt w R B v c l) (hi : i ≤ l.length) (ht : t.s.size ≤ 9223372036854775807) :
    Calls Tryd.prog 47 #[.pointer (some ⟨R, 0, none⟩), .int .i64 i, .agg #[.int .i64 t.op, .int .i64 t.n, .string t.s]] w (RetRd w R B v c (ins l i t)) := by
  obtain ⟨A, cp, rfl⟩ := own_shape h.own
  obtain ⟨n, hn⟩ : ∃ n, n = l.length := ⟨_, rfl⟩
  have HR := Lib.hid (h.alloc (tmO t)).blk
  obtain ⟨r0, r1⟩ := cells_2 HR.out
  obtain ⟨_, r2⟩ := cells_2 ((h.alloc (tmO t)).alloc (tmO t)).blk
  rw [← hn] at r1 r2 hi ⊢
  obtain ⟨b0, b1, b2⟩ := cells_3 (heap_alloc_new w (tmO t))
  by_cases h40 : n ≤ 40
  · have hI : (n : Int) ≤ 40 := by omega
    have h41 : n < 41 := by omega
    have HINS : Hid (Calls Tryd.prog 69 #[.slice A n cp, .int .i64 i, .slice (some ⟨w.heap.size + 1, 0, none⟩) 1 1] (((w.alloc (tmO t)).alloc (tmO t)).drew) (InsPost (((w.alloc (tmO t)).alloc (tmO t)).drew) (R + 1) (.slice A n cp) (n + 1) (l.take i ++ t :: l.drop i))) := Lib.hid (by
      have h2 := ((h.alloc (tmO t)).alloc (tmO t)).drew
      have ho := h2.own
      rw [← hn] at ho
      refine insert_any (R + 1) _ n i l t (w.heap.size + 1) _ hn (by omega) hi ho (by have := h2.lt'; omega) ?_ ?_
      · have := heap_alloc_new (w.alloc (tmO t)) (tmO t)
        rwa [World.size_alloc] at this
      · have := (h.apart (i := w.heap.size + 1) (by omega)).2.2
        rw [← hn] at this
        exact this)
    have HH := Lib.hid h
    have HTS := Lib.hid ht
    have HN := Lib.hid hn
    have HB : Hid (Below w.heap.size w (((w.alloc (tmO t)).alloc (tmO t)).drew)) := Lib.hid (((Below.refl _ _).alloc (Nat.le_refl _) _).alloc (by simp) _).drew
    clear h hn ht
    go_enter Tryd.func47, Tryd.ntmps47
    go_wp2_with fail
    go_region_law (go_simp; go_at_call 69; (with_reducible refine HINS.out.mono ?_); rintro e x ⟨v', he, hown', hgr', hrow'⟩; obtain ⟨A2, cp2, rfl⟩ := own_shape hown'; subst he; (have HE := Lib.hid (hold_ins HH.out HN.out h40 HTS.out HB.out hown' (by rw [← HN.out]; exact hgr') (by rw [← HN.out]; exact hrow'))); clear hown' hgr' hrow'; obtain ⟨s0, s1⟩ := cells_2 HE.out.2.2; obtain ⟨f0, f1⟩ := free_2 HE.out.2.2)
    all_goals
      go_wp2_with fail
      go_end0
      have hnl := HN.out
      subst hnl
      exact ⟨_, rfl, HE.out.1, HE.out.2.1⟩
  · have hI : ¬ (n : Int) ≤ 40 := by omega
    have HF : Hid (ins l i t = l) := Lib.hid (if_neg (by omega))
    have HH := Lib.hid h
    have HN := Lib.hid hn
    clear h hn ht
    go_enter Tryd.func47, Tryd.ntmps47
    go_wp2_with fail
    go_end0
    have hnl := HN.out
    subst hnl
    rw [HF.out]
    exact ⟨_, rfl, HH.out.alloc _, Hold.of_below _ ((Below.refl _ _).alloc (Nat.le_refl _) _)⟩
end Go.Proofs.YtffdfajlfgeicaaDoor
