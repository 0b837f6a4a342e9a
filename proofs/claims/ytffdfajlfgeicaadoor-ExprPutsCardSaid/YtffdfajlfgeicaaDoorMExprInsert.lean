/- ExprInsert, joined. -/
import Derived.Test.YtffdfajlfgeicaaDoorMTermA
import Derived.Lib.Overlaps
import Derived.Lib.AppendZerosOnto
import Derived.Laws.CopyRow
import Derived.Shelf.Spec.SlicesInsert
namespace Go.Proofs.YtffdfajlfgeicaaDoor
open Go.RowKit TermSpec
set_option maxRecDepth 100000

theorem info_tm : (Tryd.prog.info? 52).map (fun i => (i.zero, i.size, i.bytes)) = some (some (.agg #[.int .i64 0, .int .i64 0, .string ByteArray.empty]), 3, 32) := by kernel_rfl

theorem run_copy_rowk {P : Program} (k : Nat) (w : World) (dT sT ty elem : TypeId) (g o dLen dCap : Nat) (a : Addr) (sLen sCap : Nat) (cur : Array Value) (t : TypeId) (cs : List Value)
    (hu : P.underlying dT = some (.slice elem)) (hs : (P.info? elem).map (·.size) = some k)
    (hg : w.heap[g]? = some (.cells cur t (0, 0))) (hn : cs.length = Nat.min sLen dLen * k)
    (hsrc : ∀ j v, cs[j]? = some v → w.cell? (a.add j) = some v) (hfit : o + cs.length ≤ cur.size) (h1 : ∀ v ∈ cs, v.oneCell' = true) :
    (Builtin.copy_ #[dT, sT] ty #[.slice (some ⟨g, o, none⟩) dLen dCap, .slice (some a) sLen sCap]).run P w =
      .ok (goInt (Nat.min sLen dLen)) (w.setRow g (cur.toList.take o ++ cs ++ cur.toList.drop (o + cs.length)).toArray) := by
  have hl := run_loadCells_list (P := P) w a cs hsrc
  have hst := run_storeCells_at P g o t cs 0 cur w hg (by simpa using hfit) h1
  cases hq : P.info? elem with
  | none => simp [hq] at hs
  | some i =>
    have hi : i.size = k := by simpa [hq] using hs
    simp [Builtin.copy_, run_underlying hu, Builtin.lenOf, Builtin.firstCells, sizeOf, typeInfo, hq, hi, ← hn, hl, hst]

theorem slice_lo (a : Option Addr) (len cap lo : Nat) (li : Int) (hli : li = lo) (h1 : lo ≤ len) : ∃ r, ∀ W, (Instr.slice 23 (.slice a len cap) (some (.int .i64 li)) none none).run Tryd.prog W = .ok r W := by
  refine ⟨sliced a lo len cap 3, fun W => ?_⟩
  rw [run_slice_l (P := Tryd.prog) W 23 a len cap (by rw [elem_tms]; exact Tryd.underlying23) .i64 li (by omega) (by omega), elem_tms, Tryd.sizeOf52]
  subst hli
  rfl
theorem slice_at (g len cap lo : Nat) (li : Int) (hli : li = lo) (h1 : lo ≤ len) (h2 : lo < cap) (W : World) : (Instr.slice 23 (.slice (some ⟨g, 0, none⟩) len cap) (some (.int .i64 li)) none none).run Tryd.prog W = .ok (.slice (some ⟨g, lo * 3, none⟩) (len - lo) (cap - lo)) W := by
  rw [run_slice_l (P := Tryd.prog) W 23 _ len cap (by rw [elem_tms]; exact Tryd.underlying23) .i64 li (by omega) (by omega), elem_tms, Tryd.sizeOf52]
  subst hli
  simp [sliced, Result.andThen, addr_add]
  omega
theorem slice_up (g len cap hi : Nat) (h : Int) (hh : h = hi) (h2 : hi ≤ cap) (h0 : 0 < cap) (W : World) : (Instr.slice 23 (.slice (some ⟨g, 0, none⟩) len cap) none (some (.int .i64 h)) none).run Tryd.prog W = .ok (.slice (some ⟨g, 0, none⟩) hi cap) W := by
  rw [run_slice_h (P := Tryd.prog) W 23 _ len cap (by rw [elem_tms]; exact Tryd.underlying23) .i64 h (by omega) (by omega), elem_tms, Tryd.sizeOf52]
  subst hh
  simp [sliced, Result.andThen, addr_add]
  try omega

/-- A row as it is behind the insertion. -/
def InsPost (W : World) (base : Nat) (v : Value) (n : Nat) (l : List Tm) (e : Ending) (w' : World) : Prop :=
  ∃ v', e = .returned v' ∧ w'.ownsRow base 52 3 v' n (tmsV l) ∧ W.grownBy w' v.ownBlock ∧ (v'.ownBlock = v.ownBlock ∨ v'.ownBlock = some W.heap.size)

theorem grow_setRow {w w' : World} {g : Nat} (h : w.grownBy w' (some g)) (cs : Array Value) : w.grownBy (w'.setRow g cs) (some g) :=
  ⟨h.os, h.tape, h.output, by simp [World.setRow]; exact h.size, fun i hi hn => by
    rw [← h.block i hi hn]
    unfold World.setRow
    simp only [Array.getElem?_modify]
    rw [if_neg (by intro e; exact hn (by rw [e]))]⟩

set_option maxHeartbeats 4000000 in
theorem insert_end (base : Nat) (v : Value) (n : Nat) (l : List Tm) (t : Tm) (vb : Nat) (w : World) (hn : n = l.length) (h40 : n ≤ 1000) (hown : w.ownsRow base 52 3 v n (tmsV l)) (hbase : base ≤ w.heap.size)
    (hvb : w.heap[vb]? = some (.cells #[.int .i64 t.op, .int .i64 t.n, .string t.s] 52 (0, 0))) :
    Calls Tryd.prog 69 #[v, .int .i64 n, .slice (some ⟨vb, 0, none⟩) 1 1] w (InsPost w base v (n + 1) (l ++ [t])) := by
  obtain ⟨i0, hi, hz0, hz1, hz2⟩ := info_parts info_tm
  obtain ⟨A, cp, rfl⟩ := own_shape hown
  obtain ⟨r, hr⟩ := slice_lo A n cp n (n : Int) rfl (Nat.le_refl _)
  have HO := Lib.hid hown
  have HF : Hid (∀ (w' : World) (v' : Value), w'.ownsRow base 52 3 v' (n + 1) (tmsV l ++ [.int .i64 t.op, .int .i64 t.n, .string t.s]) → w'.ownsRow base 52 3 v' (n + 1) (tmsV (l ++ [t]))) := Lib.hid (fun w' v' h => by
    have : tmsV (l ++ [t]) = tmsV l ++ [.int .i64 t.op, .int .i64 t.n, .string t.s] := by simp [tmsV, tmV]
    rw [this]; exact h)
  clear hown hn
  go_enter Tryd.func69, Tryd.ntmps69
  go_wp2_with (at_builtin; refine wpList_append_lies _ rfl (.tmp 23) (.tmp 24) 23 rfl base 52 i0 _ 3 32 Tryd.underlying23 hi hz0 hz1 hz2 rfl (by decide) _ n (tmsV l) rfl HO.out ⟨vb, 0, none⟩ 1 1 [.int .i64 t.op, .int .i64 t.n, .string t.s] rfl rfl (World.news_of_block (cs := #[.int .i64 t.op, .int .i64 t.n, .string t.s]) hvb) (by simp [Value.oneCell']) (by decide) (by unfold maxLen; omega) (by omega) hbase _ rfl ?_)
  intro g cap w2 hown2 hgrow2 hwhere hlt2
  have HE := Lib.hid (And.intro (HF.out _ _ hown2) (And.intro hgrow2 hwhere))
  clear hown2 hgrow2 hwhere
  go_wp2_with fail
  go_ret
  refine ⟨_, rfl, HE.out.1, HE.out.2.1, ?_⟩
  rcases HE.out.2.2 with h | h
  · exact .inl h.symm
  · exact .inr (by rw [← h]; rfl)

theorem seg_list {cur cs t : List Value} {i n : Nat} (hcs : cur.take (n * 3) = cs) (hi : i < n) (hn : (n + 1) * 3 ≤ cur.length) (ht : t.length = 3) :
    ((cur.take ((i + 1) * 3) ++ cs.drop (i * 3) ++ cur.drop ((i + 1) * 3 + (cs.drop (i * 3)).length)).take (i * 3) ++ t ++ (cur.take ((i + 1) * 3) ++ cs.drop (i * 3) ++ cur.drop ((i + 1) * 3 + (cs.drop (i * 3)).length)).drop (i * 3 + t.length)).take ((n + 1) * 3) = cs.take (i * 3) ++ t ++ cs.drop (i * 3) := by
  have hl : cs.length = n * 3 := by rw [← hcs, List.length_take]; omega
  have hd : (cs.drop (i * 3)).length = n * 3 - i * 3 := by rw [List.length_drop, hl]
  have h1 : (cur.take ((i + 1) * 3)).length = (i + 1) * 3 := by rw [List.length_take]; omega
  have e1 : (cur.take ((i + 1) * 3) ++ cs.drop (i * 3) ++ cur.drop ((i + 1) * 3 + (cs.drop (i * 3)).length)).take (i * 3) = cs.take (i * 3) := by
    rw [List.append_assoc, List.take_append_of_le_length (by omega), List.take_take, ← hcs, List.take_take, show min (i * 3) ((i + 1) * 3) = i * 3 by omega, show min (i * 3) (n * 3) = i * 3 by omega]
  have e2 : (cur.take ((i + 1) * 3) ++ cs.drop (i * 3) ++ cur.drop ((i + 1) * 3 + (cs.drop (i * 3)).length)).drop (i * 3 + t.length) = cs.drop (i * 3) ++ cur.drop ((i + 1) * 3 + (cs.drop (i * 3)).length) := by
    rw [List.append_assoc, show i * 3 + t.length = (cur.take ((i + 1) * 3)).length by omega, List.drop_left]
  rw [e1, e2]
  have h4 : (cs.take (i * 3)).length = i * 3 := by rw [List.length_take]; omega
  rw [List.append_assoc, List.append_assoc, ← List.append_assoc, ← List.append_assoc, List.take_append_of_le_length (by simp only [List.length_append]; omega)]
  rw [List.take_of_length_le (by simp only [List.length_append]; omega), List.append_assoc]
theorem tms_mid (l : List Tm) (t : Tm) (i : Nat) : tmsV (l.take i ++ t :: l.drop i) = (tmsV l).take (i * 3) ++ tmV t ++ (tmsV l).drop (i * 3) := by
  rw [← tms_take, ← tms_drop]
  simp [tmsV]

set_option maxHeartbeats 4000000 in
theorem insert_shift (base g cap : Nat) (n i : Nat) (l : List Tm) (t : Tm) (vb : Nat) (w : World) (hn : n = l.length) (h40 : n ≤ 1000) (hi : i < n) (hroom : n + 1 ≤ cap)
    (hown : w.ownsRow base 52 3 (.slice (some ⟨g, 0, none⟩) n cap) n (tmsV l))
    (hvb : w.heap[vb]? = some (.cells #[.int .i64 t.op, .int .i64 t.n, .string t.s] 52 (0, 0))) (hne : vb ≠ g) :
    Calls Tryd.prog 69 #[.slice (some ⟨g, 0, none⟩) n cap, .int .i64 i, .slice (some ⟨vb, 0, none⟩) 1 1] w (InsPost w base (.slice (some ⟨g, 0, none⟩) n cap) (n + 1) (l.take i ++ t :: l.drop i)) := by
  obtain ⟨i0, hi0, hz0, hz1, hz2⟩ := info_parts info_tm
  obtain ⟨hl, hv⟩ := hown
  rcases hv with ⟨hv, _⟩ | ⟨g', cap', cur, hv, hbase, hb, hnc, hcm, hcs, ht⟩
  · cases hv
  cases hv
  have hsz : (Tryd.prog.info? 52).map (·.size) = some 3 := by rw [hi0]; simp [hz1]
  have hcur : cur.toList.length = cap * 3 := by rw [Array.length_toList]; exact hcs
  have hc63 : cap ≤ 9223372036854775807 := hcm
  have hdl : ((tmsV l).drop (i * 3)).length = (n - i) * 3 := by rw [List.length_drop, hl]; omega
  have hone := tmsV_one l
  have hs1 := slice_at g n cap i (i : Int) rfl (by omega) (by omega)
  have hs2 := slice_up g n cap (n + 1) ((n : Int) + 1) (by omega) (by omega) (by omega)
  have hs3 := slice_at g (n + 1) cap (i + 1) ((i : Int) + 1) (by omega) (by omega) (by omega)
  have hs4 := slice_at g (n + 1) cap i (i : Int) rfl (by omega) (by omega)
  have hov : ∀ lb cb, (callFunc 91 #[.slice (some ⟨vb, 0, none⟩) 1 1, .slice (some ⟨g, (i + 1) * 3, none⟩) lb cb]).run Tryd.prog w = .ok (.value (.bool false)) w := fun lb cb => by
    rw [run_callFunc_extern Tryd.func91 (by kernel_rfl) (by kernel_rfl) (by kernel_rfl) (e := Extern.SlicesOverlaps.overlaps #[23, 23] #[4]) (by kernel_rfl),
      Lib.run_overlaps_apart w 23 4 52 Tryd.underlying23 3 Tryd.sizeOf52 ⟨vb, 0, none⟩ ⟨g, (i + 1) * 3, none⟩ 1 1 lb cb hne 52 52 3 (cap * 3) (by simp [World.shape?, hvb]) (by simp [World.shape?, hb, hcs]) (by omega) (by simp [World.frozen?, hvb]) (by simp [World.frozen?, hvb])]
    rfl
  obtain ⟨row1, hrow1⟩ : ∃ row1, row1 = cur.toList.take ((i + 1) * 3) ++ (tmsV l).drop (i * 3) ++ cur.toList.drop ((i + 1) * 3 + ((tmsV l).drop (i * 3)).length) := ⟨_, rfl⟩
  have hr1l : row1.length = cap * 3 := by rw [hrow1]; simp only [List.length_append, List.length_take, List.length_drop, hcur, hl]; omega
  have hcell : ∀ j u, (tmsV l)[j]? = some u → w.cell? ⟨g, j, none⟩ = some u := fun j u hj => by
    have hj' := (List.getElem?_eq_some_iff.1 hj).1
    rw [← ht, List.getElem?_take_of_lt (by omega), Array.getElem?_toList] at hj
    simp [World.cell?, hb, hj]
  have hcp1 : ∀ ty dc sc, (Builtin.copy_ #[23, 23] ty #[.slice (some ⟨g, (i + 1) * 3, none⟩) (n - i) dc, .slice (some ⟨g, i * 3, none⟩) (n + 1 - i) sc]).run Tryd.prog w.drew = .ok (goInt (Nat.min (n + 1 - i) (n - i))) (w.drew.setRow g row1.toArray) := fun ty dc sc => by
    rw [hrow1]
    exact run_copy_rowk 3 w.drew _ _ ty 52 g ((i + 1) * 3) _ dc ⟨g, i * 3, none⟩ _ sc cur 52 ((tmsV l).drop (i * 3)) Tryd.underlying23 hsz hb
      (by rw [hdl, show Nat.min (n + 1 - i) (n - i) = n - i by simp only [Nat.min_def]; split <;> omega])
      (fun j v hj => by rw [addr_add]; rw [List.getElem?_drop] at hj; exact hcell _ v hj) (by rw [hdl]; omega) (fun v hv => hone v (List.mem_of_mem_drop hv))
  obtain ⟨row2, hrow2⟩ : ∃ row2, row2 = row1.take (i * 3) ++ tmV t ++ row1.drop (i * 3 + (tmV t).length) := ⟨_, rfl⟩
  have hr2l : row2.length = cap * 3 := by rw [hrow2]; simp only [List.length_append, List.length_take, List.length_drop, hr1l, tmV_length]; omega
  have hb1 : (w.drew.setRow g row1.toArray).heap[g]? = some (.cells row1.toArray 52 (0, 0)) := setRow_heap w.drew g cur row1.toArray 52 (0, 0) hb
  have hvb1 : (w.drew.setRow g row1.toArray).heap[vb]? = some (.cells #[.int .i64 t.op, .int .i64 t.n, .string t.s] 52 (0, 0)) :=
    ((grow_setRow (but_refl w (some g)) row1.toArray).block vb (Array.getElem?_eq_some_iff.1 hvb).1 (by simpa using hne)).trans hvb
  have hcp2 : ∀ ty dc, (Builtin.copy_ #[23, 23] ty #[.slice (some ⟨g, i * 3, none⟩) (n + 1 - i) dc, .slice (some ⟨vb, 0, none⟩) 1 1]).run Tryd.prog (w.drew.setRow g row1.toArray) = .ok (goInt (Nat.min 1 (n + 1 - i))) (w.drew.setRow g row2.toArray) := fun ty dc => by
    have := run_copy_rowk (P := Tryd.prog) 3 (w.drew.setRow g row1.toArray) 23 23 ty 52 g (i * 3) (n + 1 - i) dc ⟨vb, 0, none⟩ 1 1 row1.toArray 52 (tmV t) Tryd.underlying23 hsz hb1
      (by rw [tmV_length, show Nat.min 1 (n + 1 - i) = 1 by simp only [Nat.min_def]; split <;> omega])
      (fun j v hj => by rw [addr_add, Nat.zero_add]; exact cell_of_block' hvb1 (by rw [show (#[.int .i64 t.op, .int .i64 t.n, .string t.s] : Array Value) = (tmV t).toArray from rfl, List.getElem?_toArray]; exact hj))
      (by rw [tmV_length]; simp only [List.size_toArray]; omega) (tmV_one t)
    rw [this, setRow_setRow, hrow2]
  have hfin : InsPost w base (.slice (some ⟨g, 0, none⟩) n cap) (n + 1) (l.take i ++ t :: l.drop i) (.returned (.slice (some ⟨g, 0, none⟩) (n + 1) cap)) (w.drew.setRow g row2.toArray) := by
    refine ⟨_, rfl, ⟨by rw [tmsV_length]; simp; omega, .inr ⟨g, cap, row2.toArray, rfl, hbase, setRow_heap w.drew g cur row2.toArray 52 (0, 0) hb, hroom, hcm, by simpa using hr2l, ?_⟩⟩, grow_setRow (but_drew (but_refl w (some g))) _, .inl rfl⟩
    rw [tms_mid, hrow2, hrow1]
    exact seg_list ht hi (by omega) rfl
  have HF := Lib.hid hfin
  have hz3 : ¬ ((i : Int) = (n : Int)) := by omega
  have hz3' : ((i : Int) == (n : Int)) = false := by simpa using hz3
  have hz4 : ¬ ((cap : Int) < (n : Int) + 1) := by omega
  have hz4' : decide ((cap : Int) < (n : Int) + 1) = false := decide_eq_false hz4
  clear hfin hrow2 hrow1 hr1l hr2l hb1 hvb1 hcell hone hdl hcur ht hl hcs hbase hn
  have hw1 : IntKind.i64.wrap ((i : Int) + 1) = (i : Int) + 1 := by rw [IntKind.wrap_i64]; omega
  have hb1 : (0 : Int) ≤ (i : Int) + 1 := by omega
  have hb5 : (i : Int) ≤ (n : Int) := by omega
  have htn : ((i : Int) + 1).toNat = i + 1 := by omega
  have hb2 : ¬ (cap = i + 1) := by omega
  have hb3 : (i : Int) ≤ (n : Int) + 1 := by omega
  have hb4 : ¬ (cap = i) := by omega
  have mixed : Tryd.prog.follows .mixedOrders = true := by kernel_rfl
  go_enter Tryd.func69, Tryd.ntmps69
  go_wp2_with (simp only [hov])
  go_region_law_o (refine step_copy_runI rfl _ _ 23 23 rfl _ _ (by simp [Act.eval, Act.put]) (by simp [Act.eval, Act.put]) (hcp1 _ _ _) ?_)
  go_wp2_with (at_builtin; refine wpList_copy_runI _ rfl _ _ 23 23 rfl _ _ rfl rfl (hcp2 _ _) ?_)
  go_ret
  exact HF.out
end Go.Proofs.YtffdfajlfgeicaaDoor
