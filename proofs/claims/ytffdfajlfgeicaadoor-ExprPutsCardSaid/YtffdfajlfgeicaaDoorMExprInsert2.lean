/- ExprInsert2, joined. -/
import Derived.Test.YtffdfajlfgeicaaDoorMExprInsert
namespace Go.Proofs.YtffdfajlfgeicaaDoor
open Go.RowKit TermSpec
set_option maxRecDepth 100000

theorem zero_size (n : Nat) : (Builtin.zeroCells (Value.agg #[.int .i64 0, .int .i64 0, .string ByteArray.empty]).cells n).size = n * 3 := by
  simp [Builtin.zeroCells, Value.cells]
theorem seg_new {cs t row : List Value} {i n : Nat} (hl : cs.length = n * 3) (hi : i < n) (hr : row.take (i * 3) = cs.take (i * 3)) (hrl : (n + 1) * 3 ≤ row.length) (ht : t.length = 3) :
    ((row.take (i * 3) ++ t ++ row.drop (i * 3 + t.length)).take ((i + 1) * 3) ++ cs.drop (i * 3) ++ (row.take (i * 3) ++ t ++ row.drop (i * 3 + t.length)).drop ((i + 1) * 3 + (cs.drop (i * 3)).length)).take ((n + 1) * 3) = cs.take (i * 3) ++ t ++ cs.drop (i * 3) := by
  have h4 : (cs.take (i * 3)).length = i * 3 := by rw [List.length_take]; omega
  have hd : (cs.drop (i * 3)).length = n * 3 - i * 3 := by rw [List.length_drop, hl]
  have e1 : (row.take (i * 3) ++ t ++ row.drop (i * 3 + t.length)).take ((i + 1) * 3) = cs.take (i * 3) ++ t := by
    rw [hr, List.take_append_of_le_length (by rw [List.length_append]; omega), List.take_of_length_le (by rw [List.length_append]; omega)]
  rw [e1, List.take_append_of_le_length (by simp only [List.length_append]; omega), List.take_of_length_le (by simp only [List.length_append]; omega)]

set_option maxHeartbeats 4000000 in
theorem insert_grow (base g cap : Nat) (n i : Nat) (l : List Tm) (t : Tm) (vb : Nat) (w : World) (hn : n = l.length) (h40 : n ≤ 1000) (hi : i < n) (hroom : cap < n + 1)
    (hown : w.ownsRow base 52 3 (.slice (some ⟨g, 0, none⟩) n cap) n (tmsV l)) (hbs : base ≤ w.heap.size)
    (hvb : w.heap[vb]? = some (.cells #[.int .i64 t.op, .int .i64 t.n, .string t.s] 52 (0, 0))) (hne : vb ≠ g) :
    Calls Tryd.prog 69 #[.slice (some ⟨g, 0, none⟩) n cap, .int .i64 i, .slice (some ⟨vb, 0, none⟩) 1 1] w (InsPost w base (.slice (some ⟨g, 0, none⟩) n cap) (n + 1) (l.take i ++ t :: l.drop i)) := by
  obtain ⟨i0, hi0, hz0, hz1, hz2⟩ := info_parts info_tm
  obtain ⟨hl, hv⟩ := hown
  rcases hv with ⟨hv, _⟩ | ⟨g', cap', cur, hv, hbase, hb, hnc, hcm, hcs, ht⟩
  · cases hv
  cases hv
  have hsz : (Tryd.prog.info? 52).map (·.size) = some 3 := by rw [hi0]; simp [hz1]
  have hc63 : cap ≤ 9223372036854775807 := hcm
  have hdl : ((tmsV l).drop (i * 3)).length = (n - i) * 3 := by rw [List.length_drop, hl]; omega
  have hone := tmsV_one l
  have hgw := (Array.getElem?_eq_some_iff.1 hb).1
  have hvw := (Array.getElem?_eq_some_iff.1 hvb).1
  have hcell : ∀ j u, (tmsV l)[j]? = some u → w.cell? ⟨g, j, none⟩ = some u := fun j u hj => by
    have hj' := (List.getElem?_eq_some_iff.1 hj).1
    rw [← ht, List.getElem?_take_of_lt (by omega), Array.getElem?_toList] at hj
    simp [World.cell?, hb, hj]
  have hold : (Builtin.firstCells i0.size i (.slice (some ⟨g, 0, none⟩) i cap)).run Tryd.prog w.drew = .ok ((tmsV l).take (i * 3)).toArray w.drew := by
    rw [hz1]
    exact run_firstCells_some w.drew 3 i ⟨g, 0, none⟩ i cap _ (by rw [List.length_take]; omega) (fun j v hj => by
      rw [addr_add, Nat.zero_add]
      rw [List.getElem?_take] at hj
      split at hj
      · exact hcell j v hj
      · cases hj)
  have hik : i + (n + 1 - i) = n + 1 := by omega
  have hkk : (n : Int) + 1 - (i : Int) = ((n + 1 - i : Nat) : Int) := by omega
  obtain ⟨G, hG⟩ : ∃ G, G = grownCap w (n + 1) cap 52 := ⟨_, rfl⟩
  have hGn : n + 1 ≤ G := by rw [hG]; exact grownCap_ge w _ _ _
  have hGm : G ≤ maxLen := by rw [hG]; exact grownCap_le_maxLen w (n + 1) cap _ (by unfold maxLen; omega)
  obtain ⟨ROW, hROW⟩ : ∃ ROW : Array Value, ROW = ((tmsV l).take (i * 3)).toArray ++ Builtin.zeroCells (Value.agg #[.int .i64 0, .int .i64 0, .string ByteArray.empty]).cells (n + 1 - i) ++ Builtin.zeroCells (Value.agg #[.int .i64 0, .int .i64 0, .string ByteArray.empty]).cells (G - (n + 1)) := ⟨_, rfl⟩
  have hRl : ROW.size = G * 3 := by
    rw [hROW]
    simp only [Array.size_append, zero_size, List.size_toArray, List.length_take, hl]
    omega
  have hRt : ROW.toList.take (i * 3) = (tmsV l).take (i * 3) := by
    rw [hROW]
    simp only [Array.toList_append]
    have : ((tmsV l).take (i * 3)).length = i * 3 := by rw [List.length_take]; omega
    rw [List.append_assoc, List.take_append_of_le_length (by omega), List.take_of_length_le (by omega)]
  have hrz : ∀ ty, (Builtin.append_ #[23, 3] ty #[.slice (some ⟨g, 0, none⟩) i cap, .int .i64 ((n : Int) + 1 - (i : Int))]).run Tryd.prog w =
      .ok (.slice (some ⟨w.heap.size, 0, none⟩) (n + 1) G) (w.alloc (.cells ROW 52)).drew := fun ty => by
    have h := Lib.run_append_grow_zeros w 23 3 ty 52 i0 _ .i64 .i64 Tryd.underlying23 Tryd.underlying3 hi0 hz0 (some ⟨g, 0, none⟩) i cap ((tmsV l).take (i * 3)) hold (n + 1 - i) (by omega) (by omega) (by omega) (by omega) (by rw [hz2]; omega) (by rw [hz2, hik]; exact growslice_fits hroom (by omega))
    rw [hik, ← hG] at h
    rw [hkk, hROW]
    exact h
  obtain ⟨W1, hW1⟩ : ∃ W1, W1 = (w.alloc (.cells ROW 52)).drew := ⟨_, rfl⟩
  have hN : W1.heap[w.heap.size]? = some (.cells ROW 52 (0, 0)) := by rw [hW1]; exact heap_alloc_new _ _
  have hOld : ∀ b, b < w.heap.size → W1.heap[b]? = w.heap[b]? := fun b hb => by rw [hW1]; exact heap_alloc_old _ _ hb
  obtain ⟨row1, hrow1⟩ : ∃ row1, row1 = ROW.toList.take (i * 3) ++ tmV t ++ ROW.toList.drop (i * 3 + (tmV t).length) := ⟨_, rfl⟩
  have hr1l : row1.length = G * 3 := by rw [hrow1]; simp only [List.length_append, List.length_take, List.length_drop, Array.length_toList, hRl, tmV_length]; omega
  have hcpA : ∀ ty dc, (Builtin.copy_ #[23, 23] ty #[.slice (some ⟨w.heap.size, i * 3, none⟩) (n + 1 - i) dc, .slice (some ⟨vb, 0, none⟩) 1 1]).run Tryd.prog W1 = .ok (goInt (Nat.min 1 (n + 1 - i))) (W1.setRow w.heap.size row1.toArray) := fun ty dc => by
    rw [hrow1]
    exact run_copy_rowk (P := Tryd.prog) 3 W1 23 23 ty 52 w.heap.size (i * 3) (n + 1 - i) dc ⟨vb, 0, none⟩ 1 1 ROW 52 (tmV t) Tryd.underlying23 hsz hN
      (by rw [tmV_length, show Nat.min 1 (n + 1 - i) = 1 by simp only [Nat.min_def]; split <;> omega])
      (fun j v hj => by rw [addr_add, Nat.zero_add]; exact cell_of_block' ((hOld vb hvw).trans hvb) (by rw [show (#[.int .i64 t.op, .int .i64 t.n, .string t.s] : Array Value) = (tmV t).toArray from rfl, List.getElem?_toArray]; exact hj))
      (by rw [tmV_length]; omega) (tmV_one t)
  have hN2 : ((W1.setRow w.heap.size row1.toArray).drew).heap[w.heap.size]? = some (.cells row1.toArray 52 (0, 0)) := setRow_heap W1 w.heap.size ROW row1.toArray 52 (0, 0) hN
  have hOld2 : ∀ b, b < w.heap.size → ((W1.setRow w.heap.size row1.toArray).drew).heap[b]? = w.heap[b]? := fun b hb =>
    ((grow_setRow (but_refl W1 (some w.heap.size)) row1.toArray).block b (by rw [hW1]; simp; omega) (by simp; omega)).trans (hOld b hb)
  obtain ⟨row2, hrow2⟩ : ∃ row2, row2 = row1.take ((i + 1) * 3) ++ (tmsV l).drop (i * 3) ++ row1.drop ((i + 1) * 3 + ((tmsV l).drop (i * 3)).length) := ⟨_, rfl⟩
  have hr2l : row2.length = G * 3 := by rw [hrow2]; simp only [List.length_append, List.length_take, List.length_drop, hr1l, hl]; omega
  have hcpB : ∀ ty dc sc, (Builtin.copy_ #[23, 23] ty #[.slice (some ⟨w.heap.size, (i + 1) * 3, none⟩) (n - i) dc, .slice (some ⟨g, i * 3, none⟩) (n - i) sc]).run Tryd.prog (W1.setRow w.heap.size row1.toArray).drew = .ok (goInt (Nat.min (n - i) (n - i))) (((W1.setRow w.heap.size row1.toArray).drew).setRow w.heap.size row2.toArray) := fun ty dc sc => by
    have := run_copy_rowk (P := Tryd.prog) 3 (W1.setRow w.heap.size row1.toArray).drew 23 23 ty 52 w.heap.size ((i + 1) * 3) (n - i) dc ⟨g, i * 3, none⟩ (n - i) sc row1.toArray 52 ((tmsV l).drop (i * 3)) Tryd.underlying23 hsz hN2
      (by rw [hdl, show Nat.min (n - i) (n - i) = n - i by simp only [Nat.min_def]; split <;> omega])
      (fun j v hj => by
        rw [addr_add]
        rw [List.getElem?_drop] at hj
        have := hcell _ v hj
        unfold World.cell? at this ⊢
        rw [hOld2 g hgw]
        exact this) (by rw [hdl]; simp only [List.size_toArray]; omega) (fun v hv => hone v (List.mem_of_mem_drop hv))
    rw [this, hrow2]
  have hfin : InsPost w base (.slice (some ⟨g, 0, none⟩) n cap) (n + 1) (l.take i ++ t :: l.drop i) (.returned (.slice (some ⟨w.heap.size, 0, none⟩) (n + 1) G)) (((W1.setRow w.heap.size row1.toArray).drew).setRow w.heap.size row2.toArray) := by
    have hgr : w.grownBy (((W1.setRow w.heap.size row1.toArray).drew).setRow w.heap.size row2.toArray) (some w.heap.size) := by
      refine grow_setRow (but_drew (grow_setRow ?_ _)) _
      rw [hW1]
      exact but_drew (but_alloc (but_refl w _) _)
    refine ⟨_, rfl, ⟨by rw [tmsV_length]; simp; omega, .inr ⟨w.heap.size, G, row2.toArray, rfl, by omega, setRow_heap (W1.setRow w.heap.size row1.toArray).drew w.heap.size row1.toArray row2.toArray 52 (0, 0) hN2, hGn, hGm, by simpa using hr2l, ?_⟩⟩, ⟨hgr.os, hgr.tape, hgr.output, hgr.size, fun j hj _ => hgr.block j hj (by simp; omega)⟩, .inr rfl⟩
    rw [tms_mid, hrow2, hrow1]
    exact seg_new (n := n) hl hi hRt (by rw [Array.length_toList]; omega) rfl
  have HF := Lib.hid hfin
  have hs1 := slice_at g n cap i (i : Int) rfl (by omega) (by omega)
  have hs2 := slice_up g n cap i (i : Int) rfl (by omega) (by omega)
  have hs3 := slice_at w.heap.size (n + 1) G i (i : Int) rfl (by omega) (by omega)
  have hz3 : ¬ ((i : Int) = (n : Int)) := by omega
  have hz3' : ((i : Int) == (n : Int)) = false := by simpa using hz3
  have hz4 : (cap : Int) < (n : Int) + 1 := by omega
  have hw1 : IntKind.i64.wrap ((i : Int) + 1) = (i : Int) + 1 := by rw [IntKind.wrap_i64]; omega
  have hb1 : (0 : Int) ≤ (i : Int) + 1 := by omega
  have hb5 : (i : Int) ≤ (n : Int) := by omega
  have hin : i ≤ n := by omega
  have htn : ((i : Int) + 1).toNat = i + 1 := by omega
  have hb3 : (i : Int) ≤ (n : Int) + 1 := by omega
  have hb4 : ¬ (cap = i) := by omega
  have hGi : ¬ (G = i) := by omega
  have hGim : ¬ (G = i + 1) := by omega
  have hG63 : G ≤ 9223372036854775807 := hGm
  clear hGm
  have mixed : Tryd.prog.follows .mixedOrders = true := by kernel_rfl
  clear hfin hrow2 hrow1 hr1l hr2l hN hN2 hOld hOld2 hcell hone hdl ht hl hcs hbase hn hold hROW hRl hRt hG hb hvb hgw hvw hkk hik
  subst hW1
  go_enter Tryd.func69, Tryd.ntmps69
  go_wp2_with (first
    | (at_builtin; refine Lib.wpList_append_run _ rfl _ _ _ _ rfl _ _ rfl rfl _ _ (hrz _) ?_)
    | (at_builtin; refine wpList_copy_runI _ rfl _ _ 23 23 rfl _ _ rfl rfl (hcpA _ _) ?_))
  go_region_law_o (refine step_copy_runI rfl _ _ 23 23 rfl _ _ (by simp [Act.eval, Act.put]) (by simp [Act.eval, Act.put]) (hcpB _ _ _) ?_)
  go_wp2_with fail
  go_ret
  exact HF.out

theorem insert_any (base : Nat) (v : Value) (n i : Nat) (l : List Tm) (t : Tm) (vb : Nat) (w : World) (hn : n = l.length) (h40 : n ≤ 1000) (hi : i ≤ n) (hown : w.ownsRow base 52 3 v n (tmsV l)) (hbs : base ≤ w.heap.size)
    (hvb : w.heap[vb]? = some (.cells #[.int .i64 t.op, .int .i64 t.n, .string t.s] 52 (0, 0))) (hne : v.ownBlock ≠ some vb) :
    Calls Tryd.prog 69 #[v, .int .i64 i, .slice (some ⟨vb, 0, none⟩) 1 1] w (InsPost w base v (n + 1) (l.take i ++ t :: l.drop i)) := by
  rcases Nat.lt_or_ge i n with h | h
  · have hown' := hown
    obtain ⟨_, hv⟩ := hown'
    rcases hv with ⟨_, h0⟩ | ⟨g, cap, cur, rfl, _⟩
    · omega
    · have hne' : vb ≠ g := fun e => hne (by rw [e]; rfl)
      rcases Nat.lt_or_ge cap (n + 1) with hc | hc
      · exact insert_grow base g cap n i l t vb w hn h40 h hc hown hbs hvb hne'
      · exact insert_shift base g cap n i l t vb w hn h40 h hc hown hvb hne'
  · obtain rfl : i = n := by omega
    have := insert_end base v i l t vb w hn h40 hown hbs hvb
    rw [List.take_of_length_le (by omega), List.drop_eq_nil_of_le (by omega)]
    exact this
end Go.Proofs.YtffdfajlfgeicaaDoor
