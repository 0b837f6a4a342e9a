/- What the program's New answers: a cursor ahead of the first token. Condition: a million tokens at most. -/
import Derived.Test.YtoegpieomnpifaaCurLive
import Derived.Deep.AppendLies
import Derived.Laws.MakeOwn
import Derived.OwnWalk
namespace Go.Proofs.Ytoegpieomnpifaa
open Go.RowKit CurSpec

theorem info_tk : (Try.prog.info? 28).map (fun i => (i.zero, i.size, i.bytes)) = some (some (.agg #[.int .i64 0, .string ByteArray.empty, .int .i64 0, .int .i64 0]), 4, 40) := by kernel_rfl
/-- The last token's place. -/
def lastP (L : List Tk) : Int × Int := match L.getLast? with | none => (0, 0) | some t => (t.l, t.c)
theorem full_snoc : ∀ (L : List Tk) (a b : Int), full L a b = L ++ [⟨0, ⟨#[]⟩, (match L.getLast? with | none => (a, b) | some t => (t.l, t.c)).1, (match L.getLast? with | none => (a, b) | some t => (t.l, t.c)).2⟩]
  | [], a, b => rfl
  | t :: r, a, b => by
    rw [full, full_snoc r t.l t.c]
    cases r with
    | nil => rfl
    | cons u q =>
      rw [List.getLast?_cons_cons]
      obtain ⟨x, hx⟩ : ∃ x, (u :: q).getLast? = some x := ⟨_, List.getLast?_eq_some_getLast (by simp)⟩
      rw [hx]
      rfl
theorem full_zero (L : List Tk) : full L 0 0 = L ++ [⟨0, ⟨#[]⟩, (lastP L).1, (lastP L).2⟩] := full_snoc L 0 0

def NewPost (W : World) (l : List Tk) (e : Ending) (w' : World) : Prop :=
  ∃ B, e = .returned (.pointer (some ⟨B, 0, none⟩)) ∧ W.heap.size ≤ B ∧ CurAt w' B ⟨l, 0, 0, 0, 0, 0⟩ ∧ Below W.heap.size W w'

theorem last_cells {w : World} {b off m : Nat} {l : List Tk} (hl : m + 1 = l.length) (hcell : ∀ j u, (tksV l)[j]? = some u → w.cell? ⟨b, off + j, none⟩ = some u) :
    w.cell? ⟨b, off + m * 4 + 2, none⟩ = some (.int .i64 (lastP l).1) ∧ w.cell? ⟨b, off + m * 4 + 3, none⟩ = some (.int .i64 (lastP l).2) := by
  obtain ⟨t, ht⟩ : ∃ t, l[m]? = some t := get_some (by omega)
  have hlast : l.getLast? = some t := by rw [List.getLast?_eq_getElem?, ← hl]; exact ht
  obtain ⟨_, _, g2, g3⟩ := tksV_get ht
  unfold lastP
  rw [hlast]
  exact ⟨hcell _ _ g2, hcell _ _ g3⟩
theorem lastP_nil {l : List Tk} (h : l.length = 0) : lastP l = (0, 0) := by rw [List.eq_nil_of_length_eq_zero h]; rfl

/-- Behind the second append. -/
theorem new_fin {W w2 : World} {l : List Tk} {n g cap : Nat} {p1 p2 : Int} (hn : n = l.length) (hp : lastP l = (p1, p2)) (hb : Below W.heap.size W w2) (hg : g < w2.heap.size)
    (hown : w2.ownsRow (W.heap.size + 1) 28 4 (.slice (some ⟨g, 0, none⟩) (n + 1) cap) (n + 1) (tksV l ++ [.int .i64 0, .string ⟨#[]⟩, .int .i64 p1, .int .i64 p2])) :
    NewPost W l (.returned (.pointer (some ⟨w2.heap.size, 0, none⟩))) (w2.alloc (.cells #[.slice (some ⟨g, 0, none⟩) (n + 1) cap, .int .i64 0, .int .i64 0, .int .i64 0] 56)) := by
  refine ⟨_, rfl, hb.size, ⟨g, 0, n, cap, heap_alloc_new _ _, by omega, hn, Toks.alloc ⟨n + 1, by rw [full_length, hn], ?_⟩ _⟩, hb.alloc hb.size _⟩
  have e : tksV (full l 0 0) = tksV l ++ [.int .i64 0, .string ⟨#[]⟩, .int .i64 p1, .int .i64 p2] := by
    rw [full_zero, hp]
    simp [tksV, tkV]
  show Rdk 4 w2 _ (n + 1) (tksV (full l 0 0))
  rw [e]
  exact Rdk.own hown

theorem made_at {W : World} {base cap H : Nat} {cur : Array Value} (hH : W.heap.size = H) (hb : base ≤ W.heap.size) (hm : cap ≤ maxLen) (hs : cur.size = cap * 4) :
    (W.alloc (.cells cur 28)).ownsRow base 28 4 (.slice (some ⟨H, 0, none⟩) 0 cap) 0 [] := by
  subst hH
  exact World.ownsRow_made W cur cap hb hm hs
/-- Behind the first append: the end's token, the row. -/
structure NewMid (W : World) (l : List Tk) (n : Nat) (p1 p2 : Int) (v : Value) (w1 : World) : Prop where
  tok : w1.heap[W.heap.size]? = some (.cells #[.int .i64 0, .string ⟨#[]⟩, .int .i64 p1, .int .i64 p2] 28 (0, 0))
  own : w1.ownsRow (W.heap.size + 1) 28 4 v n (tksV l)
  below : Below W.heap.size W w1
theorem new_mid {W w1 : World} {l : List Tk} {n cap : Nat} {p1 p2 : Int} {v : Value} {mk : Array Value}
    (hown : w1.ownsRow (W.heap.size + 1) 28 4 v n (tksV l))
    (hg : ((W.alloc (.cells #[.int .i64 0, .string ⟨#[]⟩, .int .i64 p1, .int .i64 p2] 28)).alloc (.cells mk 28)).grownBy w1 (Value.ownBlock (.slice (some ⟨W.heap.size + 1, 0, none⟩) 0 cap))) :
    NewMid W l n p1 p2 v w1 := by
  have hz := hg.size
  simp only [World.size_alloc] at hz
  refine ⟨?_, hown, ⟨hg.os, hg.tape, hg.output, by omega, fun i hi => ?_⟩⟩
  · exact (hg.block _ (by simp; omega) (by simp [Value.ownBlock])).trans ((heap_alloc_old _ _ (by simp)).trans (heap_alloc_new _ _))
  · exact (hg.block i (by simp; omega) (by simp [Value.ownBlock]; omega)).trans ((heap_alloc_old _ _ (by simp; omega)).trans (heap_alloc_old _ _ hi))

theorem new_below {W w1 w2 : World} {l : List Tk} {n : Nat} {p1 p2 : Int} {v : Value} {o : Obj} (h : NewMid W l n p1 p2 v w1) (hg : (w1.alloc o).grownBy w2 v.ownBlock) : Below W.heap.size W w2 := by
  have hb := own_block_bd h.own
  have hz := hg.size
  have hz1 := h.below.size
  simp only [World.size_alloc] at hz
  refine h.below.trans ⟨hg.os, hg.tape, hg.output, by omega, fun i hi => ?_⟩
  exact (hg.block i (by simp; omega) (fun e => by have := (hb i e.symm).1; omega)).trans (heap_alloc_old _ _ (by omega))

set_option maxHeartbeats 2000000 in
theorem new_any (A : Option Addr) (n cp : Nat) (l : List Tk) (w : World) (h : Toks w (.slice A n cp) l) (hl : n ≤ 1000000) : Calls Try.prog 6 #[.slice A n cp] w (NewPost w l) := by
  obtain ⟨i0, hi, hz0, hz1, hz2⟩ := info_parts info_tk
  obtain ⟨n', hn', hR⟩ := h
  obtain rfl : n = n' := by obtain ⟨A', c', heq, _⟩ := hR; cases heq; rfl
  have hmk : ∀ W, (Instr.makeSlice 22 (.int .i64 0) (.int .i64 ((n : Int) + 1))).run Try.prog W = .ok (.slice (some ⟨W.heap.size, 0, none⟩) 0 (n + 1)) (W.alloc (.cells (madeCells (Value.agg #[.int .i64 0, .string ByteArray.empty, .int .i64 0, .int .i64 0]).cells ((n + 1) * 4)) 28)) := fun W => by
    have h := run_make (P := Try.prog) W 22 28 i0 _ Try.underlying22 hi hz0 .i64 .i64 0 ((n : Int) + 1) (by omega) (by omega) (by rw [hz2]; omega) (by omega)
    rw [hz1] at h
    exact h
  have hms := size_madeCells (Value.agg #[.int .i64 0, .string ByteArray.empty, .int .i64 0, .int .i64 0]).cells ((n + 1) * 4)
  generalize madeCells (Value.agg #[.int .i64 0, .string ByteArray.empty, .int .i64 0, .int .i64 0]).cells ((n + 1) * 4) = mk at hmk hms
  have HM := Lib.hid hms
  have HR := Lib.hid hR
  have HN := Lib.hid hn'
  clear hms hR hn'
  rcases Nat.eq_zero_or_pos n with h0 | h0
  · have hp : lastP l = (0, 0) := lastP_nil (by rw [← HN.out]; exact h0)
    have HP := Lib.hid hp
    have hn0 : n ≤ 0 := by omega
    have hd : decide (0 < (n : Int)) = false := decide_eq_false (by omega)
    clear hp h0
    go_enter Try.func6, Try.ntmps6
    go_wp2_with (at_builtin; refine wpList_append_rdk _ rfl (.tmp 21) (.tmp 22) 22 rfl (w.heap.size + 1) 28 i0 _ 4 40 Try.underlying22 hi hz0 hz1 hz2 rfl (by decide) _ 0 [] rfl (made_at (by simp) (by simp) (by unfold maxLen; omega) HM.out) _ n (tksV l) rfl ((HR.out.alloc _).alloc _) (tksV_one l) (by unfold maxLen; omega) (by omega) (by simp) ?_)
    intro v1 w1 hown1 hgrow1 _
    have HMid := Lib.hid (new_mid hown1 hgrow1)
    clear hown1 hgrow1 hmk
    obtain ⟨t0, t1, t2, t3⟩ := cells_4 HMid.out.tok
    go_wp2_with (at_builtin; refine wpList_append_lies _ rfl (.tmp 24) (.tmp 26) 22 rfl (w.heap.size + 1) 28 i0 _ 4 40 Try.underlying22 hi hz0 hz1 hz2 rfl (by decide) v1 n (tksV l) rfl (HMid.out.own.alloc _) ⟨w1.heap.size, 0, none⟩ 1 1 [.int .i64 0, .string ⟨#[]⟩, .int .i64 0, .int .i64 0] rfl rfl (World.news_of_block (cs := #[.int .i64 0, .string ⟨#[]⟩, .int .i64 0, .int .i64 0]) (heap_alloc_new w1 _)) (by simp [Value.oneCell']) (by decide) (by unfold maxLen; omega) (by omega) (by have := HMid.out.below.size; have := HMid.out.own.2; have := (Array.getElem?_eq_some_iff.1 HMid.out.tok).1; simp; omega) (w1.heap.size + 1) (by simp) ?_)
    intro g cap w2 hown2 hgrow2 _ hlt2
    have HE := Lib.hid (new_fin HN.out HP.out (new_below HMid.out hgrow2) hlt2 hown2)
    clear hown2 hgrow2 t0 t1 t2 t3
    go_wp2_with fail
    go_ret
    exact HE.out
  · obtain ⟨m, rfl⟩ : ∃ m, n = m + 1 := ⟨n - 1, by omega⟩
    have hR := HR.out
    obtain ⟨A', c', heq, _, _, hA⟩ := hR
    cases heq
    obtain ⟨b, off, rfl, hlt, hcell⟩ := hA (by omega)
    obtain ⟨c2, c3⟩ := last_cells HN.out hcell
    obtain ⟨p1, p2, hp⟩ : ∃ p1 p2, lastP l = (p1, p2) := ⟨_, _, rfl⟩
    rw [hp] at c2 c3
    simp only at c2 c3
    have HP := Lib.hid hp
    rw [show ((m + 1 : Nat) : Int) = (m : Int) + 1 by omega] at hmk
    clear hp hcell hA h0
    go_enter Try.func6, Try.ntmps6
    go_wp2_with (at_builtin; refine wpList_append_rdk _ rfl (.tmp 21) (.tmp 22) 22 rfl (w.heap.size + 1) 28 i0 _ 4 40 Try.underlying22 hi hz0 hz1 hz2 rfl (by decide) _ 0 [] rfl (made_at (by simp) (by simp) (by unfold maxLen; omega) HM.out) _ (m + 1) (tksV l) rfl ((HR.out.alloc _).alloc _) (tksV_one l) (by unfold maxLen; omega) (by omega) (by simp) ?_)
    intro v1 w1 hown1 hgrow1 _
    have HMid := Lib.hid (new_mid hown1 hgrow1)
    clear hown1 hgrow1 hmk c2 c3
    obtain ⟨t0, t1, t2, t3⟩ := cells_4 HMid.out.tok
    go_wp2_with (at_builtin; refine wpList_append_lies _ rfl (.tmp 24) (.tmp 26) 22 rfl (w.heap.size + 1) 28 i0 _ 4 40 Try.underlying22 hi hz0 hz1 hz2 rfl (by decide) v1 (m + 1) (tksV l) rfl (HMid.out.own.alloc _) ⟨w1.heap.size, 0, none⟩ 1 1 [.int .i64 0, .string ⟨#[]⟩, .int .i64 p1, .int .i64 p2] rfl rfl (World.news_of_block (cs := #[.int .i64 0, .string ⟨#[]⟩, .int .i64 p1, .int .i64 p2]) (heap_alloc_new w1 _)) (by simp [Value.oneCell']) (by decide) (by unfold maxLen; omega) (by omega) (by have := HMid.out.below.size; have := HMid.out.own.2; have := (Array.getElem?_eq_some_iff.1 HMid.out.tok).1; simp; omega) (w1.heap.size + 1) (by simp) ?_)
    intro g cap w2 hown2 hgrow2 _ hlt2
    have HE := Lib.hid (new_fin HN.out HP.out (new_below HMid.out hgrow2) hlt2 hown2)
    clear hown2 hgrow2 t0 t1 t2 t3
    go_wp2_with fail
    go_ret
    exact HE.out
end Go.Proofs.Ytoegpieomnpifaa
