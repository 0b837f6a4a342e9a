/- ActSort, ActCompact, ValTextSpec, CurSpec, CurMem, joined. -/
import Derived.Test.YtcfcpbkeedfbpaaGreatDoorMActPuts05
import Derived.Test.YtcfcpbkeedfbpaaGreatDoorShelf2
import Derived.Lib.SliceRun
import Derived.Deep.LoopGhost
import Derived.Test.YtcfcpbkeedfbpaaGreatDoorMActPuts00
import Derived.Test.YtcfcpbkeedfbpaaGreatDoorRows
namespace Go.Proofs.YtcfcpbkeedfbpaaGreatDoor
open Go.RowKit Go.Sort TermSpec EvalSpec ActSpec
set_option maxRecDepth 100000

section
variable {w : World} {g n : Nat} {os : Array Obj} {cur : Array Value} {e : TypeId} {fr : Nat × Nat}
theorem heap_sortedV (F : Array Value) (hb : w.heap[g]? = some (.cells cur e fr)) : (grow (putRow id (Sort.ahead w n) g 0 F) os).heap[g]? = some (.cells (putCells id 0 F cur) e fr) := by
  have hg : g < w.heap.size := (Array.getElem?_eq_some_iff.1 hb).1
  rw [heap_grow_old _ _ (by simpa using hg)]
  simp [putRow, mapBlock, Sort.ahead, Array.getElem?_modify, hb, onCells]
theorem grownBy_sortedV (F : Array Value) : w.grownBy (grow (putRow id (Sort.ahead w n) g 0 F) os) (some g) := by
  refine ⟨rfl, rfl, rfl, by simp, fun k hk hne => ?_⟩
  rw [heap_grow_old _ _ (by simpa using hk)]
  have : g ≠ k := fun e => hne (by rw [e])
  simp [putRow, mapBlock, Sort.ahead, Array.getElem?_modify, this]
theorem take_putCellsV (cur : Array Value) (ts : List Value) (h : ts.length ≤ cur.size) : (putCells id 0 ts.toArray cur).toList.take ts.length = ts := by
  apply List.ext_getElem?
  intro j
  by_cases hj : j < ts.length
  · rw [List.getElem?_take_of_lt hj, Array.getElem?_toList]
    simp [putCells, hj, show j < cur.size by omega]
  · rw [List.getElem?_take_eq_none (by omega), List.getElem?_eq_none (by omega)]
theorem flatK_v4 (l : List V4) : flatK v4V 4 l.toArray = (v4sV l).toArray := by
  refine ext_get! (by simp [v4sV_length]) fun t ht => ?_
  have ht' : t < l.length * 4 := by simpa using ht
  rw [get_flatK _ _ _ _ (by simpa using ht')]
  have hd : t / 4 < l.length := by omega
  have h1 : l[t / 4]? = some l[t / 4] := List.getElem?_eq_getElem hd
  have h2 := flat_get (f := v4V) (j := t % 4) v4V_length h1 (by omega)
  rw [show t / 4 * 4 + t % 4 = t by omega] at h2
  have h3 : (v4sV l)[t]? = (v4V l[t / 4])[t % 4]? := h2
  rw [show l.toArray[t / 4]! = l[t / 4] by simp [hd]]
  have h4 : t % 4 < (v4V l[t / 4]).length := by rw [v4V_length]; omega
  rw [List.getElem?_eq_getElem h4] at h3
  have h5 : t < (v4sV l).length := by rw [v4sV_length]; omega
  rw [getElem!_pos (v4V l[t / 4]) (t % 4) h4, getElem!_pos (v4sV l).toArray t (by simpa using h5)]
  rw [List.getElem?_eq_getElem h5] at h3
  injection h3 with h3
  simp [h3]
theorem holdsK_v4 {l : List V4} (hb : w.heap[g]? = some (.cells cur e (0, 0))) (ht : cur.toList.take (l.length * 4) = v4sV l) : HoldsK v4V 4 w g 0 l.toArray := by
  unfold HoldsK
  rw [flatK_v4]
  intro j hj
  have hj' : j < (v4sV l).length := by simpa using hj
  refine ⟨?_, by simp [World.frozen?, hb]⟩
  have h1 : (cur.toList.take (l.length * 4))[j]? = (v4sV l)[j]? := by rw [ht]
  rw [List.getElem?_take_of_lt (by rw [v4sV_length] at hj'; exact hj')] at h1
  simp only [World.cell?, hb, Nat.zero_add]
  simp only [Option.isSome_none, Bool.false_eq_true, if_false]
  rw [← Array.getElem?_toList, h1]
  simp [hj']
end
theorem rowV_parts {W w : World} {p : Value} {xs : List V4} (h : RowV W w p xs) (h0 : 0 < xs.length) :
    ∃ g cap cur, p = .slice (some ⟨g, 0, none⟩) xs.length cap ∧ W.heap.size ≤ g ∧ w.heap[g]? = some (.cells cur 51 (0, 0)) ∧ xs.length ≤ cap ∧ cap ≤ maxLen ∧ cur.size = cap * 4 ∧ cur.toList.take (xs.length * 4) = v4sV xs := by
  obtain ⟨⟨hl, hv⟩, _⟩ := h
  rcases hv with ⟨_, he⟩ | ⟨g, cap, cur, rfl, hb, hh, h1, h2, h3, h4⟩
  · omega
  · exact ⟨g, cap, cur, rfl, hb, hh, h1, h2, h3, h4⟩
theorem rowV_of {W w w' : World} {g cap : Nat} {xs ys : List V4} {F : Array Value} {n : Nat} {os : Array Obj} {cur : Array Value} (h : Below W.heap.size W w) (hF : F = (v4sV ys).toArray) (hl : ys.length = xs.length) (hg : W.heap.size ≤ g) (hb : w.heap[g]? = some (.cells cur 51 (0, 0))) (h1 : xs.length ≤ cap) (h2 : cap ≤ maxLen) (h3 : cur.size = cap * 4)
    (hw : w' = grow (putRow id (Sort.ahead w n) g 0 F) os) : RowV W w' (.slice (some ⟨g, 0, none⟩) ys.length cap) ys := by
  subst hw
  subst hF
  refine ⟨⟨by rw [v4sV_length], .inr ⟨g, cap, _, rfl, hg, heap_sortedV _ hb, by omega, h2, by simp [putCells, h3], ?_⟩⟩, h.grown (grownBy_sortedV _) h.size fun j hj => by injection hj with hj; omega⟩
  rw [← v4sV_length]
  exact take_putCellsV cur _ (by rw [v4sV_length]; omega)
theorem ltOf_v4 : ltOf cmpV = lessV := by
  funext x y
  exact cmpV_less x y
theorem swo_v4 : SWO (ltOf cmpV) where
  irrefl x := by rw [ltOf_v4]; exact lessV_irr x
  trans x y z h1 h2 := by rw [ltOf_v4] at *; exact lessV_trans h1 h2
  ntrans x y z h1 h2 := by rw [ltOf_v4] at *; exact lessV_ntrans h1 h2
def SortV4Post (W : World) (g cap : Nat) (xs : List V4) (e : Ending) (w' : World) : Prop :=
  e = .returned (.tuple #[]) ∧ ∃ ys, ys.Perm xs ∧ Slow ys ∧ ys.length = xs.length ∧ RowV W w' (.slice (some ⟨g, 0, none⟩) ys.length cap) ys
theorem sort_rowV {W w : World} {g cap : Nat} {xs : List V4} (h : RowV W w (.slice (some ⟨g, 0, none⟩) xs.length cap) xs) (h0 : 0 < xs.length) (h62 : xs.length < 4611686018427387904) :
    Calls Tryz.prog 78 #[.slice (some ⟨g, 0, none⟩) xs.length cap, .func (.func 46) #[] #[]] w (SortV4Post W g cap xs) := by
  obtain ⟨g', cap', cur, heq, hg, hb, h1, h2, h3, h4⟩ := rowV_parts h h0
  injection heq with e1 e2 e3
  injection e1 with e1
  injection e1 with e1
  subst e1; subst e3
  have eg : ∀ args w, (callFunc 46 args).run Tryz.prog w = .ok (.enter 46 args) w := enters_of Tryz.func46 (by kernel_rfl) rfl
  have hcon := Tryz.zslices_SortFunc 4 Tryz.isAgg51 Tryz.sizeOf51 v4V v4V_length v4V_one cmpV swo_v4 46 #[] g 0 cap xs.toArray w eg (fun _ _ _ _ x y => compare_grown x y _) (holdsK_v4 hb h4) (Array.getElem?_eq_some_iff.1 hb).1 (by simpa using h62)
  rw [List.size_toArray] at hcon
  refine hcon.mono ?_
  rintro e w' ⟨he, d', n, os, ⟨hps, _, hp⟩, hs, hw⟩
  have hsz : d'.size = xs.length := by rw [hps]; simp
  refine ⟨he, d'.toList, ?_, ?_, by simpa using hsz, ?_⟩
  · have e1 : d'.extract 0 xs.length = d' := by rw [← hsz]; simp
    have e2 : xs.toArray.extract 0 xs.length = xs.toArray := by simp
    rw [e1, e2] at hp
    simpa using hp
  · refine List.pairwise_iff_getElem.2 fun i j hi hj hij => ?_
    have := hs i j (Nat.zero_le _) hij (by simpa [hsz] using hj)
    rw [ltOf_v4] at this
    rw [getElem!_pos d' i (by simpa using hi), getElem!_pos d' j (by simpa using hj)] at this
    simpa using this
  · refine rowV_of h.2 (ys := d'.toList) (F := flatK v4V 4 d') ?_ (by simpa using hsz) hg hb h1 h2 h3 hw
    have := flatK_v4 d'.toList
    rwa [Array.toArray_toList] at this
end Go.Proofs.YtcfcpbkeedfbpaaGreatDoor

namespace Go.Proofs.YtcfcpbkeedfbpaaGreatDoor
open Go.RowKit Go.Sort TermSpec EvalSpec ActSpec
set_option maxRecDepth 100000

section
open Go.Lib
theorem run_clear_v4 (w : World) (ty : TypeId) (b o n c : Nat) (hn : 0 < n)
    (hc : ∀ j, j < n * 4 → (w.cell? ⟨b, o + j, none⟩).isSome = true) (hf : ∀ j, j < n * 4 → w.frozen? ⟨b, o + j, none⟩ = false) :
    (Builtin.clear_ #[56] ty #[.slice (some ⟨b, o, none⟩) n c]).run Tryz.prog w = .ok (.tuple #[]) (w.setCells b o (List.replicate (n * 4) (.int .i64 0))) := by
  have hzc : (Builtin.zeroCells (Value.agg #[.int .i64 0, .int .i64 0, .int .i64 0, .int .i64 0]).cells n).toList = List.replicate (n * 4) (.int .i64 0) := by
    apply List.ext_getElem
    · simp [Builtin.zeroCells, Value.cells]
    · intro i h1 h2
      have h3 : i % 4 = 0 ∨ i % 4 = 1 ∨ i % 4 = 2 ∨ i % 4 = 3 := by omega
      rcases h3 with h | h | h | h <;> simp [Builtin.zeroCells, Value.cells, h]
  have hst := run_storeCells_cells (P := Tryz.prog) b o (List.replicate (n * 4) (.int .i64 0)) 0 w (by simpa using hc) (by simpa using hf) (by intro v hv'; rw [List.eq_of_mem_replicate hv']; rfl)
  simp only [Nat.add_zero] at hst
  obtain ⟨m, rfl⟩ : ∃ m, n = m + 1 := ⟨n - 1, by omega⟩
  simp [Builtin.clear_, run_underlying Tryz.underlying56, Tryz.zeroValue51, hzc, hst]
end
theorem v4_rest (g n cap k : Nat) (h1 : k ≤ n) (h2 : k < cap) (W : World) : (Instr.slice 56 (.slice (some ⟨g, 0, none⟩) n cap) (some (.int .i64 (k : Int))) none none).run Tryz.prog W = .ok (.slice (some ⟨g, k * 4, none⟩) (n - k) (cap - k)) W := by
  rw [run_slice_l (P := Tryz.prog) W 56 _ n cap (by rw [elem_v4s]; exact Tryz.underlying56) .i64 (k : Int) (by omega) (by omega), elem_v4s, Tryz.sizeOf51]
  simp [sliced, Result.andThen, Addr.add, show ¬ cap = k by omega]
  omega
theorem v4_head (g n cap k : Nat) (h1 : k ≤ cap) (W : World) : (Instr.slice 56 (.slice (some ⟨g, 0, none⟩) n cap) none (some (.int .i64 (k : Int))) none).run Tryz.prog W = .ok (.slice (some ⟨g, 0, none⟩) k cap) W := by
  rw [run_slice_h (P := Tryz.prog) W 56 _ n cap (by rw [elem_v4s]; exact Tryz.underlying56) .i64 (k : Int) (by omega) (by omega), elem_v4s, Tryz.sizeOf51]
  simp [sliced, Result.andThen, Addr.add]
/-- The row as it was, draws aside, but for its cells, which hold these. -/
def CW (w wr : World) (g : Nat) (dk : Array V4) : Prop := ∃ q, wr = putRowK v4V 4 (Sort.ahead w q) g 0 dk
section
variable {w wr : World} {g i : Nat} {d dk : Array V4}
theorem CW.drewN (h : CW w wr g dk) (m : Nat) : CW w (wr.drewN m) g dk := by
  obtain ⟨q, rfl⟩ := h
  exact ⟨q + m, putRowK_drewN v4V 4 w q m g 0 dk⟩
theorem CW.start (h : HoldsK v4V 4 w g 0 d) (q : Nat) : CW w (w.drewN q) g d := ⟨q, (putRowK_self v4V 4 (Sort.ahead w q) g 0 d (holdsK_ahead v4V 4 w q g 0 d h)).symm⟩
theorem CW.holds (h : CW w wr g dk) (h0 : HoldsK v4V 4 w g 0 d) (hs : dk.size = d.size) : HoldsK v4V 4 wr g 0 dk := by
  obtain ⟨q, rfl⟩ := h
  exact holdsK_putRowK v4V 4 _ g 0 d dk (holdsK_ahead v4V 4 w q g 0 d h0) hs
theorem CW.grown (h : CW w wr g dk) : w.grownBy wr (some g) := by
  obtain ⟨q, rfl⟩ := h
  have := grownBy_sortedV (w := w) (g := g) (n := q) (os := #[]) (flatK v4V 4 dk)
  rwa [grow_empty] at this
theorem holds_cells (h : HoldsK v4V 4 w g 0 d) (hi : i < d.size) :
    w.cell? ⟨g, i * 4, none⟩ = some (.int .i64 d[i]!.a) ∧ w.cell? ⟨g, i * 4 + 1, none⟩ = some (.int .i64 d[i]!.b) ∧ w.cell? ⟨g, i * 4 + 2, none⟩ = some (.int .i64 d[i]!.c) ∧ w.cell? ⟨g, i * 4 + 3, none⟩ = some (.int .i64 d[i]!.d) := by
  have h0 := (h.cell hi (show 0 < 4 by omega)).1
  have h1 := (h.cell hi (show 1 < 4 by omega)).1
  have h2 := (h.cell hi (show 2 < 4 by omega)).1
  have h3 := (h.cell hi (show 3 < 4 by omega)).1
  rw [Nat.zero_add] at h0 h1 h2 h3
  exact ⟨h0, h1, h2, h3⟩
theorem holds_free (h : HoldsK v4V 4 w g 0 d) (hi : i < d.size) :
    w.frozen? ⟨g, i * 4, none⟩ = false ∧ w.frozen? ⟨g, i * 4 + 1, none⟩ = false ∧ w.frozen? ⟨g, i * 4 + 2, none⟩ = false ∧ w.frozen? ⟨g, i * 4 + 3, none⟩ = false := by
  have h0 := (h.cell hi (show 0 < 4 by omega)).2
  have h1 := (h.cell hi (show 1 < 4 by omega)).2
  have h2 := (h.cell hi (show 2 < 4 by omega)).2
  have h3 := (h.cell hi (show 3 < 4 by omega)).2
  rw [Nat.zero_add] at h0 h1 h2 h3
  exact ⟨h0, h1, h2, h3⟩
theorem setMany_v4 (hi : i < dk.size) (u : V4) : setMany (flatK v4V 4 dk) (i * 4) (v4V u) = flatK v4V 4 (dk.setIfInBounds i u) := by
  refine ext_get! (by simp) fun t ht => ?_
  have ht' : t < dk.size * 4 := by simpa using ht
  rw [get_setMany _ _ _ t (by simpa using ht'), get_flatK _ _ _ t ht', get_flatK _ _ _ t (by simpa using ht'), v4V_length]
  by_cases h : t / 4 = i
  · rw [if_pos (by omega), h, getElem!_set_same dk i u hi, show t - i * 4 = t % 4 by omega]
  · rw [if_neg (by omega), getElem!_set_other dk i (t / 4) u h]
theorem CW.put (h : CW w wr g dk) (hi : i < dk.size) (u : V4) :
    CW w ((((wr.setCell ⟨g, i * 4, none⟩ (.int .i64 u.a)).setCell ⟨g, i * 4 + 1, none⟩ (.int .i64 u.b)).setCell ⟨g, i * 4 + 2, none⟩ (.int .i64 u.c)).setCell ⟨g, i * 4 + 3, none⟩ (.int .i64 u.d)) g (dk.setIfInBounds i u) := by
  obtain ⟨q, rfl⟩ := h
  refine ⟨q, ?_⟩
  have h1 := setCells_putRow (Sort.ahead w q) g 0 (v4V u) (i * 4) (flatK v4V 4 dk) (by rw [v4V_length, size_flatK]; omega)
  rw [setMany_v4 hi] at h1
  rw [Nat.zero_add] at h1
  exact h1
end
theorem keep_clear (w : World) (b : Nat) : ∀ (vs : List Value) (o : Nat), w.grownBy (w.setCells b o vs) (some b) ∧ ∀ j, j < o → (w.setCells b o vs).cell? ⟨b, j, none⟩ = w.cell? ⟨b, j, none⟩ := by
  intro vs o
  refine ⟨?_, fun j hj => World.cell?_setCells_out b vs o w ⟨b, j, none⟩ fun _ _ => .inl hj⟩
  induction vs generalizing w o with
  | nil => exact but_refl _ _
  | cons v r ih => exact but_trans (but_set (but_refl w (some b)) o v) (ih _ _)
/-- What Compact answers: a slice that reads as the list, each once. -/
def CompV4Post (W _w : World) (l : List V4) (e : Ending) (w' : World) : Prop := ∃ v, e = .returned v ∧ V4s w' v l ∧ Below W.heap.size W w'
def CompRel (w : World) (d : Array V4) (g : Nat) (s3 : Value) (wr : World) : Prop := ∃ k q : Nat, 1 ≤ k ∧ k ≤ d.size ∧ d.size - k ≤ g ∧ s3 = .int .i64 k ∧ wr = w.drewN q ∧ ∀ j, j < k → Lib.keeps d j = true
def CompRel2 (w : World) (b : Nat) (d : Array V4) (k g : Nat) (s3 s5 : Value) (wr : World) : Prop := ∃ (kk k2 : Nat) (dk : Array V4), s3 = .int .i64 kk ∧ s5 = .int .i64 k2 ∧ 1 ≤ k2 ∧ k + k2 ≤ d.size ∧ d.size - (k + k2) ≤ g ∧ CW w wr b dk ∧ Lib.CompInv d (k + k2) kk dk
theorem comp_here {W w : World} {g cap q : Nat} {d : Array V4} (h : RowV W w (.slice (some ⟨g, 0, none⟩) d.size cap) d.toList) (hall : ∀ j, j < d.size → Lib.keeps d j = true) : CompV4Post W w (Lib.compactUpTo d d.size) (.returned (.slice (some ⟨g, 0, none⟩) d.size cap)) (w.drewN q) := by
  rw [Lib.compactUpTo_all d _ hall, Lib.range_map_get]
  exact ⟨_, rfl, h.v4s.keep (below_drewN (Below.refl _ _) _), below_drewN h.2 _⟩
theorem comp_done {W w wr : World} {g cap k : Nat} {d dk : Array V4} {vs : List Value} (h : RowV W w (.slice (some ⟨g, 0, none⟩) d.size cap) d.toList) (h0 : HoldsK v4V 4 w g 0 d) (hg : W.heap.size ≤ g) (hgl : g < w.heap.size) (hcap : d.size ≤ cap) (hc : CW w wr g dk) (hI : Lib.CompInv d d.size k dk) :
    CompV4Post W w (Lib.compactUpTo d d.size) (.returned (.slice (some ⟨g, 0, none⟩) k cap)) (wr.setCells g (k * 4) vs) := by
  have hk := hI.lt
  have hs := hI.size
  have hl := hI.len
  obtain ⟨hgr, hkeep⟩ := keep_clear wr g vs (k * 4)
  have hgw := hc.grown
  have hH := hc.holds h0 hs
  have hB : Below W.heap.size W wr := h.2.grown hgw h.2.size fun j hj => by injection hj with hj; omega
  refine ⟨_, rfl, ⟨k, hl.symm, some ⟨g, 0, none⟩, cap, rfl, by omega, by rw [v4sV_length, hl], fun _ => ⟨g, 0, rfl, Nat.lt_of_lt_of_le (Nat.lt_of_lt_of_le hgl hgw.4) hgr.4, fun j u hj => ?_⟩⟩, hB.grown hgr hB.size fun j hj => by injection hj with hj; omega⟩
  have hj' : j < k * 4 := by
    have := (List.getElem?_eq_some_iff.1 hj).1
    rwa [v4sV_length, hl] at this
  rw [Nat.zero_add, hkeep j hj']
  have h1 := hI.low (j / 4) (by omega)
  have h2 := flat_get (f := v4V) (j := j % 4) v4V_length h1 (by omega)
  rw [show j / 4 * 4 + j % 4 = j by omega] at h2
  have h3 := (hH.cell (i := j / 4) (c := j % 4) (by omega) (by omega)).1
  rw [Nat.zero_add, show j / 4 * 4 + j % 4 = j by omega] at h3
  rw [h3]
  have h4 : (v4sV (Lib.compactUpTo d d.size))[j]? = (v4V dk[j / 4]!)[j % 4]? := h2
  rw [hj] at h4
  rw [getElem!_pos (v4V dk[j / 4]!) (j % 4) (by rw [v4V_length]; omega)]
  rw [List.getElem?_eq_getElem (by rw [v4V_length]; omega)] at h4
  exact h4.symm
set_option maxHeartbeats 4000000 in
theorem compact_arr {W w : World} {g cap : Nat} (d : Array V4) (h : RowV W w (.slice (some ⟨g, 0, none⟩) d.size cap) d.toList) (h1 : 1 ≤ d.size) (h62 : d.size < 4611686018427387904) :
    Calls Tryz.prog 79 #[.slice (some ⟨g, 0, none⟩) d.size cap] w (CompV4Post W w (Lib.compactUpTo d d.size)) := by
  obtain ⟨g', cap', cur, heq, hg, hb, hc1, hc2, hc3, hc4⟩ := rowV_parts h (by rw [Array.length_toList]; omega)
  injection heq with e1 e2 e3
  injection e1 with e1
  injection e1 with e1
  subst e1; subst e3
  have hH := holdsK_v4 hb hc4
  rw [Array.toArray_toList] at hH
  rw [Array.length_toList] at hc1
  have HH := Lib.hid hH
  have HEQ := Lib.hid (fun y x w => eq_v4 y x w)
  have HERE := Lib.hid (fun q hall => comp_here (q := q) h hall)
  have HDONE := Lib.hid (fun wr k dk vs hc hI => comp_done (wr := wr) (k := k) (dk := dk) (vs := vs) h hH hg (Array.getElem?_eq_some_iff.1 hb).1 hc1 hc hI)
  obtain ⟨R, hR⟩ : ∃ R, R = Lib.compactUpTo d d.size := ⟨_, rfl⟩
  rw [← hR] at HERE HDONE ⊢
  clear h hH hb hc4 hc3 hc2 hg hR e2
  by_cases h2 : d.size < 2
  · have h2I : (d.size : Int) < 2 := by omega
    go_enter Tryz.func79, Tryz.ntmps79
    go_wp2_with fail

    go_ret
    exact HERE.out 0 fun j hj => Lib.keeps_lt_one d j (by omega)
  · have h2I : ¬ (d.size : Int) < 2 := by omega
    go_enter Tryz.func79, Tryz.ntmps79
    go_wp2_with fail
    go_loopg [3] d.size (fun gh s3 wr => CompRel w d gh s3 wr)
    case atStart => exact ⟨1, 0, Nat.le_refl _, by omega, by omega, rfl, rfl, Lib.keeps_lt_one d⟩
    case round =>
      obtain ⟨k, q, hk1, hk, hgh, rfl, rfl, hall⟩ := hrel
      have HALL := Lib.hid hall
      have HQ := Lib.hid hgh
      clear hall hgh
      by_cases hlt : k < d.size
      · have hltI : (k : Int) < d.size := by omega
        obtain ⟨c0, c1, c2, c3⟩ := holds_cells HH.out hlt
        obtain ⟨p0, p1, p2, p3⟩ := holds_cells HH.out (show k - 1 < d.size by omega)
        obtain ⟨x, hx⟩ : ∃ x, x = d[k]! := ⟨_, rfl⟩
        obtain ⟨y, hy⟩ : ∃ y, y = d[k - 1]! := ⟨_, rfl⟩
        rw [← hx] at c0 c1 c2 c3
        rw [← hy] at p0 p1 p2 p3
        have HX := Lib.hid hx
        have HY := Lib.hid hy
        clear hx hy
        have heq := HEQ.out x y
        by_cases hdup : x = y
        · rw [show decide (x = y) = true by simp [hdup]] at heq
          have HD := Lib.hid hdup
          clear hdup
          have hrest := v4_rest g d.size cap k (by omega) (by omega)
          go_wp2_with fail
          go_big_quiet (fail)
          go_wp2_with fail
          clear c0 c1 c2 c3 p0 p1 p2 p3 heq hrest
          go_loopg [3, 5] d.size (fun gh s3 s5 wr => CompRel2 w g d k gh s3 s5 wr)
          case atStart => exact ⟨k, 1, d, rfl, rfl, Nat.le_refl _, by omega, by omega, CW.start HH.out _, Lib.CompInv.start HALL.out (Lib.keeps_neg (by omega) (by rw [← HX.out, ← HY.out]; exact HD.out))⟩
          case round =>
            obtain ⟨kk, k2, dk, rfl, rfl, hk21, hle, hg2, hcw, hI⟩ := hrel
            have hkk := hI.lt
            have hds := hI.size
            have hHk := hcw.holds HH.out hds
            have HCW := Lib.hid hcw
            have HI := Lib.hid hI
            by_cases hlt2 : k + k2 < d.size
            · have hlt2I : (k2 : Int) < ((d.size - k : Nat) : Int) := by omega
              obtain ⟨c0, c1, c2, c3⟩ := holds_cells hHk (show k + k2 < dk.size by omega)
              obtain ⟨p0, p1, p2, p3⟩ := holds_cells hHk (show k + k2 - 1 < dk.size by omega)
              rw [hI.high (k + k2) (by omega)] at c0 c1 c2 c3
              rw [hI.high (k + k2 - 1) (by omega)] at p0 p1 p2 p3
              obtain ⟨x2, hx2⟩ : ∃ x, x = d[k + k2]! := ⟨_, rfl⟩
              obtain ⟨y2, hy2⟩ : ∃ y, y = d[k + k2 - 1]! := ⟨_, rfl⟩
              rw [← hx2, show (k + k2) * 4 = k * 4 + k2 * 4 by omega] at c0 c1 c2 c3
              rw [← hy2, show (k + k2 - 1) * 4 = k * 4 + (k2 - 1) * 4 by omega] at p0 p1 p2 p3
              obtain ⟨o0, o1, o2, o3⟩ := holds_cells hHk (show kk < dk.size by omega)
              obtain ⟨f0, f1, f2, f3⟩ := holds_free hHk (show kk < dk.size by omega)
              obtain ⟨oo, hoo⟩ : ∃ oo, oo = dk[kk]! := ⟨_, rfl⟩
              rw [← hoo] at o0 o1 o2 o3
              have HX2 := Lib.hid hx2
              have HY2 := Lib.hid hy2
              have heq := HEQ.out x2 y2
              have hkkI : (kk : Int) < d.size := by omega
              clear hx2 hy2 hoo hcw hI hHk
              by_cases hxy : x2 = y2
              · rw [show decide (x2 = y2) = true by simp [hxy]] at heq
                have HD2 := Lib.hid hxy
                clear hxy
                go_wp2_with fail
                go_big_quiet (fail)
                go_wp2_with fail
                go_roundg (d.size - (k + (k2 + 1)))
                case measure => omega
                case rel => exact ⟨kk, k2 + 1, dk, rfl, by go_num, by omega, by omega, Nat.le_refl _, HCW.out.drewN _, HI.out.skip (Lib.keeps_neg (by omega) (by rw [← HX2.out, ← HY2.out]; exact HD2.out))⟩
              · rw [show decide (x2 = y2) = false by simp [hxy]] at heq
                have HD2 := Lib.hid hxy
                clear hxy
                go_wp2_with fail
                go_big_quiet (fail)
                go_wp2_with fail
                go_roundg (d.size - (k + (k2 + 1)))
                case measure => omega
                case rel => exact ⟨kk + 1, k2 + 1, dk.setIfInBounds kk x2, by go_num, by go_num, by omega, by omega, Nat.le_refl _, (HCW.out.drewN _).put (by omega) x2, by have := HI.out.keep hlt2 (Lib.keeps_pos (by rw [← HX2.out, ← HY2.out]; exact HD2.out)); rwa [← HX2.out] at this⟩
            · have hend : k + k2 = d.size := by omega
              have hlt2I : ¬ (k2 : Int) < ((d.size - k : Nat) : Int) := by omega
              have hrest := v4_rest g d.size cap kk (by omega) (by omega)
              have hhead := v4_head g d.size cap kk (by omega)
              have hcl := fun ty => run_clear_v4 wr ty g (kk * 4) (d.size - kk) (cap - kk) (by omega) (fun j hj => by
                have := (hHk.cell (i := (kk * 4 + j) / 4) (c := (kk * 4 + j) % 4) (by omega) (by omega)).1
                rw [Nat.zero_add, show (kk * 4 + j) / 4 * 4 + (kk * 4 + j) % 4 = kk * 4 + j by omega] at this
                rw [this]; rfl) (fun j hj => by
                have := (hHk.cell (i := (kk * 4 + j) / 4) (c := (kk * 4 + j) % 4) (by omega) (by omega)).2
                rwa [Nat.zero_add, show (kk * 4 + j) / 4 * 4 + (kk * 4 + j) % 4 = kk * 4 + j by omega] at this)
              rw [hend] at hI
              have HF := Lib.hid (fun vs => HDONE.out wr kk dk vs hcw hI)
              clear hHk hcw hI HI HCW
              go_wp2_with fail
              go_ret
              exact HF.out _
        · rw [show decide (x = y) = false by simp [hdup]] at heq
          have HD := Lib.hid hdup
          clear hdup
          go_wp2_with fail
          go_big_quiet (fail)
          go_wp2_with fail
          go_roundg (d.size - (k + 1))
          case measure => have := HQ.out; omega
          case rel =>
            refine ⟨k + 1, _, by omega, by omega, Nat.le_refl _, by go_num, rfl, fun j hj => ?_⟩
            by_cases e : j = k
            · subst e
              exact Lib.keeps_pos (by rw [← HX.out, ← HY.out]; exact HD.out)
            · exact HALL.out j (by omega)
      · have hltI : ¬ (k : Int) < d.size := by omega
        have hke : k = d.size := by omega
        go_wp2_with fail
        go_ret
        exact HERE.out q fun j hj => HALL.out j (by omega)
end Go.Proofs.YtcfcpbkeedfbpaaGreatDoor

/- Plain mathematics for numbers as texts: which lists of bytes are numerals, what they say, the digits of a number, and that one undoes the other. No condition. -/
namespace Go.Proofs.YtcfcpbkeedfbpaaGreatDoor
namespace ValSpec

def isDig (c : UInt8) : Bool := decide (48 ≤ (c.toNat : Int) ∧ (c.toNat : Int) ≤ 57)
def isNum (l : List UInt8) : Bool := !l.isEmpty && !(l.head? == some 48 && decide (1 < l.length)) && l.all isDig
/-- What digits say. -/
def says (l : List UInt8) : Int := l.foldl (fun n c => 10 * n + ((c.toNat : Int) - 48)) 0
/-- The answer of Get: the number, and the error's number. -/
def getN (l : List UInt8) : Int := if isNum l then (if 1000000 < says l then 0 else says l) else 0
def getE (l : List UInt8) : Int := if isNum l then (if 1000000 < says l then 3 else 0) else 2

theorem says_snoc (l : List UInt8) (c : UInt8) : says (l ++ [c]) = 10 * says l + ((c.toNat : Int) - 48) := by simp [says, List.foldl_append]
theorem fold_ge (l : List UInt8) (h : l.all isDig = true) : ∀ n : Int, 0 ≤ n → n ≤ l.foldl (fun n c => 10 * n + ((c.toNat : Int) - 48)) n := by
  induction l with
  | nil => intro n _; exact Int.le_refl _
  | cons c l ih =>
    intro n hn
    simp only [List.all_cons, Bool.and_eq_true] at h
    have hc : 48 ≤ (c.toNat : Int) ∧ (c.toNat : Int) ≤ 57 := by simpa [isDig] using h.1
    have := ih h.2 (10 * n + ((c.toNat : Int) - 48)) (by omega)
    simp only [List.foldl_cons]
    omega
theorem says_nonneg (l : List UInt8) (h : l.all isDig = true) : 0 ≤ says l := fold_ge l h 0 (Int.le_refl _)
theorem says_append_ge (l m : List UInt8) (h : (l ++ m).all isDig = true) : says l ≤ says (l ++ m) := by
  rw [List.all_append, Bool.and_eq_true] at h
  unfold says
  rw [List.foldl_append]
  exact fold_ge m h.2 _ (says_nonneg l h.1)
theorem says_take_le (l : List UInt8) (k : Nat) (h : l.all isDig = true) : says (l.take k) ≤ says l := by
  have := says_append_ge (l.take k) (l.drop k) (by rw [List.take_append_drop]; exact h)
  rwa [List.take_append_drop] at this
theorem all_take {l : List UInt8} (k : Nat) (h : l.all isDig = true) : (l.take k).all isDig = true := by
  rw [List.all_eq_true] at h ⊢
  exact fun x hx => h x (List.mem_of_mem_take hx)
theorem dig_bd {c : UInt8} (h : isDig c = true) : 48 ≤ (c.toNat : Int) ∧ (c.toNat : Int) ≤ 57 := by simpa [isDig] using h
theorem dig_mk {c : UInt8} (h1 : 48 ≤ (c.toNat : Int)) (h2 : (c.toNat : Int) ≤ 57) : isDig c = true := by simp [isDig, h1, h2]
theorem not_dig_lo {c : UInt8} (h1 : (c.toNat : Int) < 48) : isDig c = false := by simp [isDig]; omega
theorem not_dig_hi {c : UInt8} (h1 : 57 < (c.toNat : Int)) : isDig c = false := by simp [isDig]; omega
theorem isNum_all {l : List UInt8} (h : isNum l = true) : l.all isDig = true := by simp [isNum] at h; simp [List.all_eq_true]; exact h.2
/-- The digits of a number from 0 on. -/
def digs (n : Nat) : List UInt8 := if n < 10 then [UInt8.ofNat (48 + n)] else digs (n / 10) ++ [UInt8.ofNat (48 + n % 10)]
termination_by n
decreasing_by omega
/-- A number's text. -/
def text (n : Int) : List UInt8 := if n < 0 then 45 :: digs n.natAbs else digs n.natAbs

theorem digs_lt {n : Nat} (h : n < 10) : digs n = [UInt8.ofNat (48 + n)] := by rw [digs, if_pos h]
theorem digs_ge {n : Nat} (h : ¬ n < 10) : digs n = digs (n / 10) ++ [UInt8.ofNat (48 + n % 10)] := by rw [digs, if_neg h]
theorem byte_nat {d : Nat} (h : d < 208) : (UInt8.ofNat (48 + d)).toNat = 48 + d := by simp [UInt8.toNat_ofNat']; omega
theorem digs_ne (n : Nat) : digs n ≠ [] := by
  by_cases h : n < 10
  · rw [digs_lt h]; simp
  · rw [digs_ge h]; simp
theorem digs_says (n : Nat) : says (digs n) = n := by
  induction n using Nat.strongRecOn with
  | ind n ih =>
    by_cases h : n < 10
    · rw [digs_lt h]; simp only [says, List.foldl_cons, List.foldl_nil, byte_nat (show n < 208 by omega)]; omega
    · rw [digs_ge h, says_snoc, ih (n / 10) (by omega), byte_nat (show n % 10 < 208 by omega)]; omega
theorem digs_all (n : Nat) : (digs n).all isDig = true := by
  induction n using Nat.strongRecOn with
  | ind n ih =>
    by_cases h : n < 10
    · rw [digs_lt h]; simp [isDig, UInt8.toNat_ofNat']; omega
    · rw [digs_ge h, List.all_append, ih (n / 10) (by omega)]; simp [isDig, UInt8.toNat_ofNat']; omega
theorem digs_head (n : Nat) (h : n ≠ 0) : (digs n).head? ≠ some 48 := by
  induction n using Nat.strongRecOn with
  | ind n ih =>
    by_cases h' : n < 10
    · rw [digs_lt h']
      simp only [List.head?_cons, ne_eq, Option.some.injEq]
      intro e
      have := congrArg UInt8.toNat e
      rw [byte_nat (by omega)] at this
      simp at this
      omega
    · rw [digs_ge h']
      have h2 := ih (n / 10) (by omega) (by omega)
      have h3 := digs_ne (n / 10)
      cases e : digs (n / 10) with
      | nil => exact absurd e h3
      | cons a l => rw [e] at h2; simpa using h2
theorem digs_isNum (n : Nat) : isNum (digs n) = true := by
  unfold isNum
  rw [digs_all]
  have h1 : (digs n).isEmpty = false := by have := digs_ne n; cases h : digs n <;> simp_all
  rw [h1]
  by_cases h : n = 0
  · subst h; rw [digs_lt (by omega)]; rfl
  · have h2 := digs_head n h
    have h3 : ((digs n).head? == some 48) = false := by rw [beq_eq_false_iff_ne]; exact h2
    rw [h3]; rfl
theorem digs_len : ∀ (k n : Nat), n < 10 ^ (k + 1) → (digs n).length ≤ k + 1 := by
  intro k
  induction k with
  | zero => intro n h; rw [digs_lt (by omega)]; simp
  | succ k ih =>
    intro n h
    by_cases h' : n < 10
    · rw [digs_lt h']; simp
    · rw [digs_ge h', List.length_append]
      have : n / 10 < 10 ^ (k + 1) := by rw [Nat.div_lt_iff_lt_mul (by omega)]; rwa [Nat.pow_succ] at h
      have := ih _ this
      simp; omega
theorem head_minus (l : List UInt8) : isNum (45 :: l) = false := by
  simp [isNum, isDig]

theorem get_put (n : Int) : ((getN (text n) = n) ∧ getE (text n) = 0) ↔ (0 ≤ n ∧ n ≤ 1000000) := by
  by_cases h : n < 0
  · have e : getE (text n) = 2 := by unfold getE text; rw [if_pos h, if_neg (by rw [head_minus]; simp)]
    constructor
    · rintro ⟨_, h'⟩; omega
    · rintro ⟨h', _⟩; omega
  · have hs : says (digs n.natAbs) = n := by rw [digs_says]; omega
    have e1 : getE (text n) = if 1000000 < n then 3 else 0 := by unfold getE text; rw [if_neg h, if_pos (digs_isNum _), hs]
    have e2 : getN (text n) = if 1000000 < n then 0 else n := by unfold getN text; rw [if_neg h, if_pos (digs_isNum _), hs]
    rw [e1, e2]
    by_cases hb : 1000000 < n
    · rw [if_pos hb, if_pos hb]; omega
    · rw [if_neg hb, if_neg hb]; omega

end ValSpec
end Go.Proofs.YtcfcpbkeedfbpaaGreatDoor

namespace Go.Proofs.YtcfcpbkeedfbpaaGreatDoor.CurSpec
open NamesSpec ValSpec

/-- A token: its kind, what it says, its line and byte. -/
structure Tk where
  k : Int
  t : ByteArray
  l : Int
  c : Int
def tz : Tk := ⟨0, ⟨#[]⟩, 0, 0⟩
/-- A cursor: the tokens that are left, the last one's place, the fault's place and the fault. -/
structure Cur where
  L : List Tk
  w1 : Int
  w2 : Int
  a1 : Int
  a2 : Int
  bad : Int
def next (c : Cur) : Tk := if c.bad = 0 then (match c.L with | [] => ⟨0, ⟨#[]⟩, c.w1, c.w2⟩ | t :: _ => t) else tz
def on (c : Cur) : Cur := match c.L with | [] => c | t :: r => ⟨r, t.l, t.c, c.a1, c.a2, c.bad⟩
def fail (c : Cur) (e : Int) : Cur := if c.bad = 0 ∧ e ≠ 0 then ⟨c.L, c.w1, c.w2, (next c).l, (next c).c, e⟩ else c
def isB (c : Cur) (k : Int) (s : ByteArray) : Bool := decide (c.bad = 0) && (decide ((next c).k = k) && decide ((next c).t = s))
def take (c : Cur) (k : Int) (s : ByteArray) : Cur := if isB c k s then on c else c
def want (c : Cur) (k : Int) (s : ByteArray) : Cur := if isB c k s then on c else fail c 2
def nameB (c : Cur) : Bool := decide (c.bad = 0) && (decide ((next c).k = 1) && isName (next c).t.data.toList)
def nameC (c : Cur) : Cur := if nameB c then on c else fail c 2
def nameS (c : Cur) : ByteArray := if nameB c then (next c).t else ⟨#[]⟩
/-- Why the next token is no number that may be (0: it is one). -/
def numE (c : Cur) (m : Int) : Int := if c.bad = 0 ∧ (next c).k = 2 then (if getE (next c).t.data.toList = 0 then (if m < getN (next c).t.data.toList then 3 else 0) else getE (next c).t.data.toList) else 2
def numC (c : Cur) (m : Int) : Cur := if numE c m = 0 then on c else fail c (numE c m)
def numN (c : Cur) (m : Int) : Int := if numE c m = 0 then getN (next c).t.data.toList else 0
/-- The tokens that are left, with the end behind them. -/
def full : List Tk → Int → Int → List Tk
  | [], a, b => [⟨0, ⟨#[]⟩, a, b⟩]
  | t :: r, _, _ => t :: full r t.l t.c
theorem full_length : ∀ (L : List Tk) (a b : Int), (full L a b).length = L.length + 1
  | [], _, _ => rfl
  | _ :: r, _, _ => by rw [full, List.length_cons, full_length r, List.length_cons]
theorem on_nil {c : Cur} (h : c.L.length = 0) : on c = c := by
  unfold on
  rw [List.eq_nil_of_length_eq_zero h]
theorem on_full {c : Cur} (h : 0 < c.L.length) : full c.L c.w1 c.w2 = (full c.L c.w1 c.w2).headD tz :: full (on c).L (on c).w1 (on c).w2 := by
  obtain ⟨L, w1, w2, a1, a2, bad⟩ := c
  cases L with
  | nil => simp at h
  | cons t r => rfl
theorem on_bad (c : Cur) : (on c).bad = c.bad ∧ (on c).a1 = c.a1 ∧ (on c).a2 = c.a2 := by
  unfold on
  split <;> exact ⟨rfl, rfl, rfl⟩
theorem on_len (c : Cur) : (on c).L.length = c.L.length - 1 := by
  unfold on
  split
  · rename_i h; rw [h]; rfl
  · rename_i h; rw [h]; rfl
theorem fail_yes {c : Cur} {e : Int} (h : c.bad = 0) (he : e ≠ 0) : fail c e = ⟨c.L, c.w1, c.w2, (next c).l, (next c).c, e⟩ := if_pos ⟨h, he⟩
theorem fail_zero (c : Cur) : fail c 0 = c := if_neg (fun h => h.2 rfl)
theorem fail_dead {c : Cur} (e : Int) (h : c.bad ≠ 0) : fail c e = c := if_neg (fun h' => h h'.1)
theorem isB_dead {c : Cur} (k : Int) (s : ByteArray) (h : c.bad ≠ 0) : isB c k s = false := by simp [isB, h]
theorem next_dead {c : Cur} (h : c.bad ≠ 0) : next c = tz := if_neg h
theorem nameB_dead {c : Cur} (h : c.bad ≠ 0) : nameB c = false := by simp [nameB, h]

/-- Texts that memory holds. -/
def Ok (c : Cur) : Prop := ∀ t ∈ c.L, t.t.size ≤ 9223372036854775807
theorem Ok.next {c : Cur} (h : Ok c) : (next c).t.size ≤ 9223372036854775807 := by
  obtain ⟨L, w1, w2, a1, a2, bad⟩ := c
  unfold CurSpec.next
  split
  · cases L with
    | nil => exact (by decide : (⟨#[]⟩ : ByteArray).size ≤ 9223372036854775807)
    | cons t r => exact h t (by simp)
  · exact (by decide : (⟨#[]⟩ : ByteArray).size ≤ 9223372036854775807)
theorem Ok.on {c : Cur} (h : Ok c) : Ok (on c) := by
  obtain ⟨L, w1, w2, a1, a2, bad⟩ := c
  cases L with
  | nil => exact h
  | cons t r => exact fun x hx => h x (by simp [CurSpec.on] at hx ⊢; exact .inr hx)
theorem Ok.fail {c : Cur} (h : Ok c) (e : Int) : Ok (fail c e) := by
  unfold CurSpec.fail
  split
  · exact h
  · exact h
theorem Ok.take {c : Cur} (h : Ok c) (k : Int) (s : ByteArray) : Ok (take c k s) := by
  unfold CurSpec.take
  split
  · exact h.on
  · exact h
theorem Ok.want {c : Cur} (h : Ok c) (k : Int) (s : ByteArray) : Ok (want c k s) := by
  unfold CurSpec.want
  split
  · exact h.on
  · exact h.fail 2
theorem Ok.nameC {c : Cur} (h : Ok c) : Ok (nameC c) := by
  unfold CurSpec.nameC
  split
  · exact h.on
  · exact h.fail 2
theorem Ok.numC {c : Cur} (h : Ok c) (m : Int) : Ok (numC c m) := by
  unfold CurSpec.numC
  split
  · exact h.on
  · exact h.fail _
end Go.Proofs.YtcfcpbkeedfbpaaGreatDoor.CurSpec

namespace Go.Proofs.YtcfcpbkeedfbpaaGreatDoor
open Go.RowKit CurSpec

def tkV (t : Tk) : List Value := [.int .i64 t.k, .string t.t, .int .i64 t.l, .int .i64 t.c]
def tksV (l : List Tk) : List Value := l.flatMap tkV
theorem tkV_length (t : Tk) : (tkV t).length = 4 := rfl
theorem tksV_length (l : List Tk) : (tksV l).length = l.length * 4 := flat_length tkV_length l
theorem tkV_one (t : Tk) : ∀ u ∈ tkV t, u.oneCell' = true := by simp [tkV, Value.oneCell']
theorem tksV_one (l : List Tk) : ∀ u ∈ tksV l, u.oneCell' = true := by
  intro u hu
  obtain ⟨t, _, h⟩ := List.mem_flatMap.1 hu
  exact tkV_one t u h
theorem tksV_cons (t : Tk) (l : List Tk) : tksV (t :: l) = tkV t ++ tksV l := by simp [tksV]
theorem tksV_get {l : List Tk} {i : Nat} {t : Tk} (h : l[i]? = some t) : (tksV l)[i * 4]? = some (.int .i64 t.k) ∧ (tksV l)[i * 4 + 1]? = some (.string t.t) ∧ (tksV l)[i * 4 + 2]? = some (.int .i64 t.l) ∧ (tksV l)[i * 4 + 3]? = some (.int .i64 t.c) :=
  ⟨flat_get (j := 0) tkV_length h (by omega), flat_get (j := 1) tkV_length h (by omega), flat_get (j := 2) tkV_length h (by omega), flat_get (j := 3) tkV_length h (by omega)⟩
/-- A token by value. -/
def tkA (t : Tk) : Value := .agg #[.int .i64 t.k, .string t.t, .int .i64 t.l, .int .i64 t.c]

/-- The value is a slice of these tokens. -/
def Toks (w : World) (v : Value) (l : List Tk) : Prop := ∃ n, n = l.length ∧ Rdk 4 w v n (tksV l)
theorem Toks.keep {w w' : World} {v : Value} {l : List Tk} (h : Toks w v l) (hb : Below w.heap.size w w') : Toks w' v l := by
  obtain ⟨n, hn, h⟩ := h
  exact ⟨n, hn, h.keep hb⟩
theorem Toks.alloc {w : World} {v : Value} {l : List Tk} (h : Toks w v l) (o : Obj) : Toks (w.alloc o) v l := h.keep ((Below.refl _ _).alloc (Nat.le_refl _) _)
/-- Opened: the first token's cells, and the slice behind it. -/
theorem Toks.cons {w : World} {v : Value} {t : Tk} {l : List Tk} (h : Toks w v (t :: l)) :
    ∃ b off n c, v = .slice (some ⟨b, off, none⟩) (n + 1) c ∧ n = l.length ∧ n + 1 ≤ c ∧ b < w.heap.size ∧ w.cell? ⟨b, off, none⟩ = some (.int .i64 t.k) ∧ w.cell? ⟨b, off + 1, none⟩ = some (.string t.t) ∧ w.cell? ⟨b, off + 2, none⟩ = some (.int .i64 t.l) ∧ w.cell? ⟨b, off + 3, none⟩ = some (.int .i64 t.c) ∧
      Toks w (.slice (some ⟨b, if c = 1 then off else off + 4, none⟩) n (c - 1)) l := by
  obtain ⟨n, rfl, A, c, rfl, hc, hl, hA⟩ := h
  obtain ⟨b, off, rfl, hb, hcell⟩ := hA (by simp)
  have g := tksV_get (l := t :: l) (i := 0) rfl
  simp only [List.length_cons] at hc
  refine ⟨b, off, l.length, c, rfl, rfl, hc, hb, hcell 0 _ g.1, hcell 1 _ g.2.1, hcell 2 _ g.2.2.1, hcell 3 _ g.2.2.2, l.length, rfl, _, _, rfl, by omega, tksV_length l, fun h0 => ⟨b, off + 4, ?_, hb, fun j u hj => ?_⟩⟩
  · rw [if_neg (by omega)]
  · rw [show off + 4 + j = off + (4 + j) by omega]
    refine hcell _ _ ?_
    rw [tksV_cons, List.getElem?_append_right (by rw [tkV_length]; omega), tkV_length, Nat.add_sub_cancel_left, hj]
theorem Toks.shape {w : World} {v : Value} {l : List Tk} (h : Toks w v l) : ∃ A n c, v = .slice A n c ∧ n = l.length := by
  obtain ⟨n, hn, A, c, hv, _⟩ := h
  exact ⟨A, n, c, hv, hn⟩
theorem Toks.cons' {w : World} {A : Option Addr} {n cp : Nat} {t : Tk} {l : List Tk} (h : Toks w (.slice A n cp) (t :: l)) :
    ∃ b off m, A = some ⟨b, off, none⟩ ∧ n = m + 1 ∧ m + 1 ≤ cp ∧ b < w.heap.size ∧ w.cell? ⟨b, off, none⟩ = some (.int .i64 t.k) ∧ w.cell? ⟨b, off + 1, none⟩ = some (.string t.t) ∧ w.cell? ⟨b, off + 2, none⟩ = some (.int .i64 t.l) ∧ w.cell? ⟨b, off + 3, none⟩ = some (.int .i64 t.c) ∧
      Toks w (.slice (some ⟨b, if cp = 1 then off else off + 4, none⟩) m (cp - 1)) l := by
  obtain ⟨b, off, m, c, heq, _, hc, hb, h0, h1, h2, h3, ht⟩ := h.cons
  cases heq
  exact ⟨b, off, m, rfl, rfl, hc, hb, h0, h1, h2, h3, ht⟩

def RetBool (W : World) (b : Bool) (e : Ending) (w' : World) : Prop := e = .returned (.bool b) ∧ Below W.heap.size W w'
def RetTk (W : World) (k : Int) (s : ByteArray) (l c : Int) (e : Ending) (w' : World) : Prop := e = .returned (.agg #[.int .i64 k, .string s, .int .i64 l, .int .i64 c]) ∧ Below W.heap.size W w'

/-- A block of so many cells. -/
def Blk (w : World) (b n : Nat) : Prop := ∃ cs T, w.heap[b]? = some (.cells cs T (0, 0)) ∧ cs.size = n
theorem Blk.of {w : World} {b : Nat} {cs : Array Value} {T : TypeId} (h : w.heap[b]? = some (.cells cs T (0, 0))) : Blk w b cs.size := ⟨cs, T, h, rfl⟩
theorem Blk.set {w : World} {b n : Nat} (h : Blk w b n) (i : Nat) (u : Value) : Blk (w.setCell ⟨b, i, none⟩ u) b n := by
  obtain ⟨cs, T, h, hn⟩ := h
  exact ⟨_, T, block_setCell' h i u, by rw [Array.size_setIfInBounds, hn]⟩
theorem Blk.read {w : World} {b n : Nat} (h : Blk w b n) (i : Nat) (hi : i < n) (u : Value) : (w.setCell ⟨b, i, none⟩ u).cell? ⟨b, i, none⟩ = some u := by
  obtain ⟨cs, T, h, hn⟩ := h
  exact cell_of_block' (block_setCell' h i u) (by rw [Array.getElem?_setIfInBounds_self, if_pos (by omega)])
theorem store_4 {w : World} {b : Nat} (h : Blk w b 4) (u0 u1 u2 u3 : Value) :
    (w.setCell ⟨b, 0, none⟩ u0).cell? ⟨b, 0, none⟩ = some u0 ∧ ((w.setCell ⟨b, 0, none⟩ u0).setCell ⟨b, 1, none⟩ u1).cell? ⟨b, 1, none⟩ = some u1 ∧
    (((w.setCell ⟨b, 0, none⟩ u0).setCell ⟨b, 1, none⟩ u1).setCell ⟨b, 2, none⟩ u2).cell? ⟨b, 2, none⟩ = some u2 ∧
    ((((w.setCell ⟨b, 0, none⟩ u0).setCell ⟨b, 1, none⟩ u1).setCell ⟨b, 2, none⟩ u2).setCell ⟨b, 3, none⟩ u3).cell? ⟨b, 3, none⟩ = some u3 :=
  ⟨h.read 0 (by omega) _, (h.set _ _).read 1 (by omega) _, ((h.set _ _).set _ _).read 2 (by omega) _, (((h.set _ _).set _ _).set _ _).read 3 (by omega) _⟩
theorem below_4 {B : Nat} {w x : World} {b : Nat} (h : Below B w x) (hb : B ≤ b) (u0 u1 u2 u3 : Value) :
    Below B w ((((x.setCell ⟨b, 0, none⟩ u0).setCell ⟨b, 1, none⟩ u1).setCell ⟨b, 2, none⟩ u2).setCell ⟨b, 3, none⟩ u3) :=
  (((h.setCell hb _).setCell hb _).setCell hb _).setCell hb _
theorem below_six {B : Nat} {w x : World} {b : Nat} (h : Below B w x) (hb : B ≤ b) (u0 u1 u2 u3 u4 u5 : Value) :
    Below B w ((((((x.setCell ⟨b, 0, none⟩ u0).setCell ⟨b, 1, none⟩ u1).setCell ⟨b, 2, none⟩ u2).setCell ⟨b, 3, none⟩ u3).setCell ⟨b, 4, none⟩ u4).setCell ⟨b, 5, none⟩ u5) :=
  (((((h.setCell hb _).setCell hb _).setCell hb _).setCell hb _).setCell hb _).setCell hb _
theorem below_pair (w : World) (o p : Obj) : Below w.heap.size w ((w.alloc o).alloc p) := ((Below.refl _ _).alloc (Nat.le_refl _) _).alloc (by simp) _
/-- Two blocks that were made, behind a call that leaves them. -/
theorem pair_blocks {w w2 : World} {o p : Obj} (hb : Below ((w.alloc o).alloc p).heap.size ((w.alloc o).alloc p) w2) :
    w2.heap[w.heap.size]? = some o ∧ w2.heap[w.heap.size + 1]? = some p ∧ Below w.heap.size w w2 ∧ w.heap.size + 1 < w2.heap.size := by
  have hz := hb.size
  simp only [World.size_alloc] at hz
  refine ⟨(hb.block _ (by simp; omega)).trans ((heap_alloc_old _ _ (by simp)).trans (heap_alloc_new _ _)), (hb.block _ (by simp)).trans ?_, ?_, by omega⟩
  · have := heap_alloc_new (w.alloc o) p
    rwa [World.size_alloc] at this
  · exact (below_pair w o p).trans (hb.mono (by simp; omega))
theorem one_block {w w2 : World} {o : Obj} (hb : Below (w.alloc o).heap.size (w.alloc o) w2) : w2.heap[w.heap.size]? = some o ∧ Below w.heap.size w w2 ∧ w.heap.size < w2.heap.size := by
  have hz := hb.size
  simp only [World.size_alloc] at hz
  exact ⟨(hb.block _ (by simp)).trans (heap_alloc_new _ _), ((Below.refl _ _).alloc (Nat.le_refl _) _).trans (hb.mono (by simp)), by omega⟩
theorem undrew {w w' : World} (h : Below w.drew.heap.size w.drew w') : Below w.heap.size w w' := ⟨h.os, h.tape, h.output, h.size, h.block⟩
/-- A block as it was, behind a call. -/
theorem block_on {w w2 : World} {b : Nat} {o : Obj} (h : w.heap[b]? = some o) (hb : Below w.heap.size w w2) : w2.heap[b]? = some o := (hb.block b (Array.getElem?_eq_some_iff.1 h).1).trans h
theorem blk_of {w : World} {b n : Nat} {cs : Array Value} {T : TypeId} (h : w.heap[b]? = some (.cells cs T (0, 0))) (hn : cs.size = n) : Blk w b n := ⟨cs, T, h, hn⟩
theorem Blk.other {w : World} {b n c : Nat} (h : Blk w b n) (hne : b ≠ c) (i : Nat) (u : Value) : Blk (w.setCell ⟨c, i, none⟩ u) b n := by
  obtain ⟨cs, T, h, hn⟩ := h
  exact ⟨cs, T, (Below.heap_setCell _ _ _ _ hne).trans h, hn⟩
end Go.Proofs.YtcfcpbkeedfbpaaGreatDoor
