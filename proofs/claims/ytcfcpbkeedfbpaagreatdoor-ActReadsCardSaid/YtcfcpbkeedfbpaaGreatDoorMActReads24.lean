/- ActReadsWalk, CurNew, ActReadsLaw, ScanSpec, ScanRef, ScanRefOne, ScanRefToks, joined. -/
import Derived.Test.YtcfcpbkeedfbpaaGreatDoorMActReads16
import Derived.Test.YtcfcpbkeedfbpaaGreatDoorMActReads23
import Derived.Test.YtcfcpbkeedfbpaaGreatDoorMActReads12
import Derived.Deep.AppendLies
import Derived.Laws.MakeOwn
import Derived.OwnWalk
import Derived.Test.YtcfcpbkeedfbpaaGreatDoorMActReads00
import Derived.Test.YtcfcpbkeedfbpaaGreatDoorRows
import Derived.BigQuiet
import Derived.Deep.QuietTactic
import Derived.IntWalk
import Derived.Deep.RegionHeld3
namespace Go.Proofs.YtcfcpbkeedfbpaaGreatDoor
open Go.RowKit Go.Sort CurSpec TermSpec EvalSpec ActSpec NamesSpec ExprSpec
set_option maxRecDepth 100000

theorem readP_few8 (f : Nat) (c : Cur) : (readP f c).2.length ≤ 1000 := by
  unfold readP
  dsimp only
  split
  · split
    · rename_i h
      have := (tree_of h).choose_spec.2.2
      dsimp only
      omega
    · simp
  · simp
theorem oneR_few (c : Cur) : (oneR c).2.x.length ≤ 1000 := by
  unfold oneR
  split
  · simp
  · exact readP_few8 _ _
theorem goR_few : ∀ (f : Nat) (c : Cur) (out : List Ac), (∀ a ∈ out, a.x.length ≤ 1000) → ∀ a ∈ (goR f c out).2, a.x.length ≤ 1000
  | 0, _, _, h => h
  | f + 1, c, out, h => by
    have hs : ∀ a ∈ (stepR c out).2, a.x.length ≤ 1000 := fun a ha => by
      unfold stepR at ha
      rcases List.mem_append.1 ha with ha | ha
      · exact h a ha
      · rw [List.mem_singleton.1 ha]; exact oneR_few _
    unfold goR
    split
    · exact goR_few f _ _ hs
    · exact hs
theorem goR_nine : ∀ (f : Nat) (c : Cur) (out : List Ac), out.length ≤ 8 → (goR f c out).2.length ≤ 9
  | 0, _, out, h => by show out.length ≤ 9; omega
  | f + 1, c, out, h => by
    have h1 := stepR_le c out
    unfold goR
    split
    · rename_i hb
      have h2 := (isB_real hb (by decide)).1
      rcases Nat.lt_or_ge out.length 8 with h8 | h8
      · exact goR_nine f _ _ (by rw [h1.2.2.2]; omega)
      · exact absurd h2 (h1.2.2.1 (by omega))
    · rw [h1.2.2.2]; omega
theorem readA_few (c : Cur) : (readA c).2.length ≤ 9 ∧ ∀ a ∈ (readA c).2, a.x.length ≤ 1000 := by
  unfold readA
  split
  · exact ⟨goR_nine _ _ _ (Nat.zero_le _), goR_few _ _ _ (by simp)⟩
  · simp
def ASameRel (W : World) (n : Nat) (i : Value) (wr : World) : Prop := ∃ k : Nat, k ≤ n ∧ i = .int .i64 k ∧ Below W.heap.size W wr
set_option maxHeartbeats 2000000 in
theorem rsame_acts (A B : Option Addr) (n m c d : Nat) (l : List Ac) (w : World) (h : Acs w (.slice A n c) l) (h2 : Acs w (.slice B m d) l) (h64 : l.length ≤ 64) (hfew : ∀ a ∈ l, a.x.length ≤ 1000) :
    Calls Tryz.prog 15 #[.slice A n c, .slice B m d] w (RetB w true) := by
  obtain rfl : m = n := h2.len.1.trans h.len.1.symm
  have HN := Lib.hid h.len.1
  have HT := Lib.hid (And.intro h h2)
  have HF := Lib.hid hfew
  have hc := h.len.2
  have hd := h2.len.2
  have hn64 : m ≤ 64 := by have := HN.out; omega
  clear h h2 hfew
  go_enter Tryz.func15, Tryz.ntmps15
  go_wp2_with fail
  go_loopw [5] (fun i wr => ASameRel w m i wr) (fun i _ => m - (intOf i).toNat)
  case atStart => exact ⟨0, Nat.zero_le _, rfl, Below.refl _ _⟩
  case round =>
    obtain ⟨k, hk, rfl, hbw⟩ := hrel
    have HB := Lib.hid hbw
    by_cases hlt : k < m
    · have hkI : (k : Int) < m := by omega
      have hk64 : (k : Int) ≤ 64 := by omega
      obtain ⟨a, ha⟩ : ∃ a, l[k]? = some a := get_some (by rw [← HN.out]; exact hlt)
      have hx := HF.out a (List.mem_of_getElem? ha)
      obtain ⟨b1, o1, xA, xn, xc, rfl, hb1, ht1, p0, p1, p2⟩ := (HT.out.1.keep hbw).at_ ha
      obtain ⟨b2, o2, yA, yn, yc, rfl, hb2, ht2, q0, q1, q2⟩ := (HT.out.2.keep hbw).at_ ha
      obtain ⟨_, _, _, heq, hxn, _⟩ := ht1.shape
      cases heq
      obtain ⟨_, _, _, heq, hyn, _⟩ := ht2.shape
      cases heq
      have HS : Hid (∀ d os, Calls Tryz.prog 36 #[.slice xA xn xc, .slice yA yn yc] (grow (redrawn wr d) os) fun e w'' => e = .returned (.bool true) ∧ ∃ p : Regrown, w'' = grow (redrawn wr p.d) p.os) := Lib.hid (fun d os => Calls.regrown_of (tmsame_any xA yA xn yn xc yc a.x (grow (redrawn wr d) os) (ht1.keep (below_regrown wr d os)) (ht2.keep (below_regrown wr d os)) hxn hyn (by omega)))
      obtain ⟨s, any, x⟩ := a
      simp only at p0 p1 q0 q1 HS
      have rp0 := cell_regrown p0
      have rp1 := cell_regrown p1
      have rp2 := cell_regrown p2
      have rq0 := cell_regrown q0
      have rq1 := cell_regrown q1
      have rq2 := cell_regrown q2
      clear ha hx ht1 ht2 hxn hyn hbw p0 p1 p2 q0 q1 q2
      go_wp2_with fail
      refine wp_region_quiet_below (by kernel_rfl) (by kernel_rfl) ?_
      repeat (go_big_quiet_step (exact HS.out _ _))
      refine wpQuiet_nil ?_
      intro _ hw'
      obtain ⟨⟨dq, osq⟩, hw''⟩ := hw'
      subst hw''
      simp only
      have HBQ := Lib.hid (below_two' HB.out (below_regrown wr dq osq))
      clear rp0 rp1 rp2 rq0 rq1 rq2
      go_wp2_with fail
      go_roundw
      case rel => exact ⟨k + 1, by omega, by go_num, HBQ.out⟩
      case measure => simp [intOf]; omega
    · have hkI : ¬ (k : Int) < m := by omega
      clear hbw
      go_wp2_with fail
      go_ret
      exact ⟨rfl, HB.out⟩
end Go.Proofs.YtcfcpbkeedfbpaaGreatDoor

namespace Go.Proofs.YtcfcpbkeedfbpaaGreatDoor
open Go.RowKit CurSpec
set_option maxRecDepth 100000

theorem info_tk : (Tryz.prog.info? 40).map (fun i => (i.zero, i.size, i.bytes)) = some (some (.agg #[.int .i64 0, .string ByteArray.empty, .int .i64 0, .int .i64 0]), 4, 40) := by kernel_rfl
/-- The last token's place. -/
def lastP (L : List Tk) : Int × Int := match L.getLast? with | none => (0, 0) | some t => (t.l, t.c)
theorem full_snoc : ∀ (L : List Tk) (a b : Int), full L a b = L ++ [⟨0, ⟨#[]⟩, (match L.getLast? with | none => (a, b) | some t => (t.l, t.c)).1, (match L.getLast? with | none => (a, b) | some t => (t.l, t.c)).2⟩]
  | [], a, b => rfl
  | t :: r, a, b => by
    rw [full, full_snoc r t.l t.c]
    cases r with
    | nil => rfl
    | cons u q =>
      rw [List.getLast?_cons_cons]
      obtain ⟨x, hx⟩ : ∃ x, (u :: q).getLast? = some x := ⟨_, List.getLast?_eq_some_getLast (by simp)⟩
      rw [hx]
      rfl
theorem full_zero (L : List Tk) : full L 0 0 = L ++ [⟨0, ⟨#[]⟩, (lastP L).1, (lastP L).2⟩] := full_snoc L 0 0

def NewPost (W : World) (l : List Tk) (e : Ending) (w' : World) : Prop :=
  ∃ B, e = .returned (.pointer (some ⟨B, 0, none⟩)) ∧ W.heap.size ≤ B ∧ CurAt w' B ⟨l, 0, 0, 0, 0, 0⟩ ∧ Below W.heap.size W w'

theorem last_cells {w : World} {b off m : Nat} {l : List Tk} (hl : m + 1 = l.length) (hcell : ∀ j u, (tksV l)[j]? = some u → w.cell? ⟨b, off + j, none⟩ = some u) :
    w.cell? ⟨b, off + m * 4 + 2, none⟩ = some (.int .i64 (lastP l).1) ∧ w.cell? ⟨b, off + m * 4 + 3, none⟩ = some (.int .i64 (lastP l).2) := by
  obtain ⟨t, ht⟩ : ∃ t, l[m]? = some t := get_some (by omega)
  have hlast : l.getLast? = some t := by rw [List.getLast?_eq_getElem?, ← hl]; exact ht
  obtain ⟨_, _, g2, g3⟩ := tksV_get ht
  unfold lastP
  rw [hlast]
  exact ⟨hcell _ _ g2, hcell _ _ g3⟩
theorem lastP_nil {l : List Tk} (h : l.length = 0) : lastP l = (0, 0) := by rw [List.eq_nil_of_length_eq_zero h]; rfl

/-- Behind the second append. -/
theorem new_fin {W w2 : World} {l : List Tk} {n g cap : Nat} {p1 p2 : Int} (hn : n = l.length) (hp : lastP l = (p1, p2)) (hb : Below W.heap.size W w2) (hg : g < w2.heap.size)
    (hown : w2.ownsRow (W.heap.size + 1) 40 4 (.slice (some ⟨g, 0, none⟩) (n + 1) cap) (n + 1) (tksV l ++ [.int .i64 0, .string ⟨#[]⟩, .int .i64 p1, .int .i64 p2])) :
    NewPost W l (.returned (.pointer (some ⟨w2.heap.size, 0, none⟩))) (w2.alloc (.cells #[.slice (some ⟨g, 0, none⟩) (n + 1) cap, .int .i64 0, .int .i64 0, .int .i64 0] 78)) := by
  refine ⟨_, rfl, hb.size, ⟨g, 0, n, cap, heap_alloc_new _ _, by omega, hn, Toks.alloc ⟨n + 1, by rw [full_length, hn], ?_⟩ _⟩, hb.alloc hb.size _⟩
  have e : tksV (full l 0 0) = tksV l ++ [.int .i64 0, .string ⟨#[]⟩, .int .i64 p1, .int .i64 p2] := by
    rw [full_zero, hp]
    simp [tksV, tkV]
  show Rdk 4 w2 _ (n + 1) (tksV (full l 0 0))
  rw [e]
  exact Rdk.own hown

theorem made_at {W : World} {base cap H : Nat} {cur : Array Value} (hH : W.heap.size = H) (hb : base ≤ W.heap.size) (hm : cap ≤ maxLen) (hs : cur.size = cap * 4) :
    (W.alloc (.cells cur 40)).ownsRow base 40 4 (.slice (some ⟨H, 0, none⟩) 0 cap) 0 [] := by
  subst hH
  exact World.ownsRow_made W cur cap hb hm hs
/-- Behind the first append: the end's token, the row. -/
structure NewMid (W : World) (l : List Tk) (n : Nat) (p1 p2 : Int) (v : Value) (w1 : World) : Prop where
  tok : w1.heap[W.heap.size]? = some (.cells #[.int .i64 0, .string ⟨#[]⟩, .int .i64 p1, .int .i64 p2] 40 (0, 0))
  own : w1.ownsRow (W.heap.size + 1) 40 4 v n (tksV l)
  below : Below W.heap.size W w1
theorem new_mid {W w1 : World} {l : List Tk} {n cap : Nat} {p1 p2 : Int} {v : Value} {mk : Array Value}
    (hown : w1.ownsRow (W.heap.size + 1) 40 4 v n (tksV l))
    (hg : ((W.alloc (.cells #[.int .i64 0, .string ⟨#[]⟩, .int .i64 p1, .int .i64 p2] 40)).alloc (.cells mk 40)).grownBy w1 (Value.ownBlock (.slice (some ⟨W.heap.size + 1, 0, none⟩) 0 cap))) :
    NewMid W l n p1 p2 v w1 := by
  have hz := hg.size
  simp only [World.size_alloc] at hz
  refine ⟨?_, hown, ⟨hg.os, hg.tape, hg.output, by omega, fun i hi => ?_⟩⟩
  · exact (hg.block _ (by simp; omega) (by simp [Value.ownBlock])).trans ((heap_alloc_old _ _ (by simp)).trans (heap_alloc_new _ _))
  · exact (hg.block i (by simp; omega) (by simp [Value.ownBlock]; omega)).trans ((heap_alloc_old _ _ (by simp; omega)).trans (heap_alloc_old _ _ hi))

theorem new_below {W w1 w2 : World} {l : List Tk} {n : Nat} {p1 p2 : Int} {v : Value} {o : Obj} (h : NewMid W l n p1 p2 v w1) (hg : (w1.alloc o).grownBy w2 v.ownBlock) : Below W.heap.size W w2 := by
  have hb := own_block_bd h.own
  have hz := hg.size
  have hz1 := h.below.size
  simp only [World.size_alloc] at hz
  refine h.below.trans ⟨hg.os, hg.tape, hg.output, by omega, fun i hi => ?_⟩
  exact (hg.block i (by simp; omega) (fun e => by have := (hb i e.symm).1; omega)).trans (heap_alloc_old _ _ (by omega))

set_option maxHeartbeats 2000000 in
theorem new_any (A : Option Addr) (n cp : Nat) (l : List Tk) (w : World) (h : Toks w (.slice A n cp) l) (hl : n ≤ 1000000) : Calls Tryz.prog 13 #[.slice A n cp] w (NewPost w l) := by
  obtain ⟨i0, hi, hz0, hz1, hz2⟩ := info_parts info_tk
  obtain ⟨n', hn', hR⟩ := h
  obtain rfl : n = n' := by obtain ⟨A', c', heq, _⟩ := hR; cases heq; rfl
  have hmk : ∀ W, (Instr.makeSlice 30 (.int .i64 0) (.int .i64 ((n : Int) + 1))).run Tryz.prog W = .ok (.slice (some ⟨W.heap.size, 0, none⟩) 0 (n + 1)) (W.alloc (.cells (madeCells (Value.agg #[.int .i64 0, .string ByteArray.empty, .int .i64 0, .int .i64 0]).cells ((n + 1) * 4)) 40)) := fun W => by
    have h := run_make (P := Tryz.prog) W 30 40 i0 _ Tryz.underlying30 hi hz0 .i64 .i64 0 ((n : Int) + 1) (by omega) (by omega) (by rw [hz2]; omega) (by omega)
    rw [hz1] at h
    exact h
  have hms := size_madeCells (Value.agg #[.int .i64 0, .string ByteArray.empty, .int .i64 0, .int .i64 0]).cells ((n + 1) * 4)
  generalize madeCells (Value.agg #[.int .i64 0, .string ByteArray.empty, .int .i64 0, .int .i64 0]).cells ((n + 1) * 4) = mk at hmk hms
  have HM := Lib.hid hms
  have HR := Lib.hid hR
  have HN := Lib.hid hn'
  clear hms hR hn'
  rcases Nat.eq_zero_or_pos n with h0 | h0
  · have hp : lastP l = (0, 0) := lastP_nil (by rw [← HN.out]; exact h0)
    have HP := Lib.hid hp
    have hn0 : n ≤ 0 := by omega
    have hd : decide (0 < (n : Int)) = false := decide_eq_false (by omega)
    clear hp h0
    go_enter Tryz.func13, Tryz.ntmps13
    go_wp2_with (at_builtin; refine wpList_append_rdk _ rfl (.tmp 21) (.tmp 22) 30 rfl (w.heap.size + 1) 40 i0 _ 4 40 Tryz.underlying30 hi hz0 hz1 hz2 rfl (by decide) _ 0 [] rfl (made_at (by simp) (by simp) (by unfold maxLen; omega) HM.out) _ n (tksV l) rfl ((HR.out.alloc _).alloc _) (tksV_one l) (by unfold maxLen; omega) (by omega) (by simp) ?_)
    intro v1 w1 hown1 hgrow1 _
    have HMid := Lib.hid (new_mid hown1 hgrow1)
    clear hown1 hgrow1 hmk
    obtain ⟨t0, t1, t2, t3⟩ := cells_4 HMid.out.tok
    go_wp2_with (at_builtin; refine wpList_append_lies _ rfl (.tmp 24) (.tmp 26) 30 rfl (w.heap.size + 1) 40 i0 _ 4 40 Tryz.underlying30 hi hz0 hz1 hz2 rfl (by decide) v1 n (tksV l) rfl (HMid.out.own.alloc _) ⟨w1.heap.size, 0, none⟩ 1 1 [.int .i64 0, .string ⟨#[]⟩, .int .i64 0, .int .i64 0] rfl rfl (World.news_of_block (cs := #[.int .i64 0, .string ⟨#[]⟩, .int .i64 0, .int .i64 0]) (heap_alloc_new w1 _)) (by simp [Value.oneCell']) (by decide) (by unfold maxLen; omega) (by omega) (by have := HMid.out.below.size; have := HMid.out.own.2; have := (Array.getElem?_eq_some_iff.1 HMid.out.tok).1; simp; omega) (w1.heap.size + 1) (by simp) ?_)
    intro g cap w2 hown2 hgrow2 _ hlt2
    have HE := Lib.hid (new_fin HN.out HP.out (new_below HMid.out hgrow2) hlt2 hown2)
    clear hown2 hgrow2 t0 t1 t2 t3
    go_wp2_with fail
    go_ret
    exact HE.out
  · obtain ⟨m, rfl⟩ : ∃ m, n = m + 1 := ⟨n - 1, by omega⟩
    have hR := HR.out
    obtain ⟨A', c', heq, _, _, hA⟩ := hR
    cases heq
    obtain ⟨b, off, rfl, hlt, hcell⟩ := hA (by omega)
    obtain ⟨c2, c3⟩ := last_cells HN.out hcell
    obtain ⟨p1, p2, hp⟩ : ∃ p1 p2, lastP l = (p1, p2) := ⟨_, _, rfl⟩
    rw [hp] at c2 c3
    simp only at c2 c3
    have HP := Lib.hid hp
    rw [show ((m + 1 : Nat) : Int) = (m : Int) + 1 by omega] at hmk
    clear hp hcell hA h0
    go_enter Tryz.func13, Tryz.ntmps13
    go_wp2_with (at_builtin; refine wpList_append_rdk _ rfl (.tmp 21) (.tmp 22) 30 rfl (w.heap.size + 1) 40 i0 _ 4 40 Tryz.underlying30 hi hz0 hz1 hz2 rfl (by decide) _ 0 [] rfl (made_at (by simp) (by simp) (by unfold maxLen; omega) HM.out) _ (m + 1) (tksV l) rfl ((HR.out.alloc _).alloc _) (tksV_one l) (by unfold maxLen; omega) (by omega) (by simp) ?_)
    intro v1 w1 hown1 hgrow1 _
    have HMid := Lib.hid (new_mid hown1 hgrow1)
    clear hown1 hgrow1 hmk c2 c3
    obtain ⟨t0, t1, t2, t3⟩ := cells_4 HMid.out.tok
    go_wp2_with (at_builtin; refine wpList_append_lies _ rfl (.tmp 24) (.tmp 26) 30 rfl (w.heap.size + 1) 40 i0 _ 4 40 Tryz.underlying30 hi hz0 hz1 hz2 rfl (by decide) v1 (m + 1) (tksV l) rfl (HMid.out.own.alloc _) ⟨w1.heap.size, 0, none⟩ 1 1 [.int .i64 0, .string ⟨#[]⟩, .int .i64 p1, .int .i64 p2] rfl rfl (World.news_of_block (cs := #[.int .i64 0, .string ⟨#[]⟩, .int .i64 p1, .int .i64 p2]) (heap_alloc_new w1 _)) (by simp [Value.oneCell']) (by decide) (by unfold maxLen; omega) (by omega) (by have := HMid.out.below.size; have := HMid.out.own.2; have := (Array.getElem?_eq_some_iff.1 HMid.out.tok).1; simp; omega) (w1.heap.size + 1) (by simp) ?_)
    intro g cap w2 hown2 hgrow2 _ hlt2
    have HE := Lib.hid (new_fin HN.out HP.out (new_below HMid.out hgrow2) hlt2 hown2)
    clear hown2 hgrow2 t0 t1 t2 t3
    go_wp2_with fail
    go_ret
    exact HE.out
end Go.Proofs.YtcfcpbkeedfbpaaGreatDoor

namespace Go.Proofs.YtcfcpbkeedfbpaaGreatDoor
open Go.RowKit Go.Sort CurSpec TermSpec EvalSpec ActSpec NamesSpec ExprSpec
set_option maxRecDepth 100000

theorem Toks.text8 {w : World} {A : Option Addr} {n c : Nat} {l : List Tk} {i : Nat} {t : Tk} (h : Toks w (.slice A n c) l) (hi : l[i]? = some t) :
    ∃ b off, A = some ⟨b, off, none⟩ ∧ b < w.heap.size ∧ w.cell? ⟨b, off + i * 4 + 1, none⟩ = some (.string t.t) := by
  obtain ⟨m, hm, A', c', heq, hc, hl, hA⟩ := h
  cases heq
  have := get_lt hi
  obtain ⟨b, off, rfl, hb, hcell⟩ := hA (by omega)
  exact ⟨b, off, rfl, hb, by rw [Nat.add_assoc]; exact hcell _ _ (flat_get (j := 1) tkV_length hi (by omega))⟩
abbrev cur8 (L : List Tk) : Cur := ⟨L, 0, 0, 0, 0, 0⟩
def RdsRel8 (W : World) (n : Nat) (v : Value) (w : World) : Prop := ∃ k : Nat, k ≤ n ∧ v = .int .i64 k ∧ Below W.heap.size W w

set_option maxHeartbeats 8000000 in
theorem walk_ActReads (A : Option Addr) (n cp : Nat) (l : List Tk) (w : World) (hs : SignsIn w) (h : Toks w (.slice A n cp) l) (hl : ∀ t ∈ l, t.t.size ≤ 9223372036854775807) (hn63 : n ≤ 9223372036854775807) :
    Calls Tryz.prog 4 #[.slice A n cp] w fun e w' => e = .returned (.bool true) ∧ Below w.heap.size w w' := by
  have HAw : Hid (∀ W, Below w.heap.size w W → Calls Tryz.prog 7 #[] W (RetB W true)) := Lib.hid (fun W hW => aawake_any W (hs.keep hW))
  have hnl : n = l.length := by obtain ⟨A', n', c', heq, hn'⟩ := h.shape; cases heq; exact hn'
  by_cases h300 : 300 < n
  · have h300' : (300 : Int) < (n : Int) := by omega
    clear h hl hs hnl
    go_enter Tryz.func4, Tryz.ntmps4
    go_wp2_with (go_at_call 7; (with_reducible refine (HAw.out w (Below.refl _ _)).mono ?_))
    rintro e w1 ⟨rfl, hb1⟩
    have HB := Lib.hid hb1
    clear hb1
    go_wp2_with fail
    go_ret
    exact ⟨rfl, HB.out⟩
  · have h300' : ¬ (300 : Int) < (n : Int) := by omega
    have HT := Lib.hid h
    have HN := Lib.hid hnl
    have HS := Lib.hid hs
    have ok : Ok (cur8 l) := fun t ht => hl t ht
    have HOK := Lib.hid ok
    have hn300 : n ≤ 300 := by omega
    clear h hl hs hnl ok h300 hn63
    go_enter Tryz.func4, Tryz.ntmps4
    go_wp2_with fail
    go_loopw [3] (fun v wr => RdsRel8 w n v wr) (fun v _ => n - (intOf v).toNat)
    case atStart => exact ⟨0, Nat.zero_le _, rfl, Below.refl _ _⟩
    case round =>
      obtain ⟨k, hk, rfl, hbw⟩ := hrel
      by_cases hlt : k < n
      · obtain ⟨t, ht⟩ : ∃ t, l[k]? = some t := get_some (by rw [← HN.out]; exact hlt)
        obtain ⟨b, off, rfl, hb, c1⟩ := (HT.out.keep hbw).text8 ht
        obtain ⟨s, hss⟩ : ∃ s, s = t.t := ⟨_, rfl⟩
        rw [← hss] at c1
        have hltI : (k : Int) < (n : Int) := by omega
        have HW := Lib.hid hbw
        clear ht hss hbw
        by_cases h100 : 100 < s.size
        · have g1 : (100 : Int) < (s.size : Int) := by omega
          go_wp2_with (go_at_call 7; (with_reducible refine (HAw.out _ HW.out).mono ?_))
          rintro e w1 ⟨rfl, hb1⟩
          have HB := Lib.hid (below_two' HW.out hb1)
          clear hb1
          go_wp2_with fail
          go_ret
          exact ⟨rfl, HB.out⟩
        · have g1 : ¬ (100 : Int) < (s.size : Int) := by omega
          go_wp2_with fail
          go_roundw
          case rel => exact ⟨k + 1, hlt, by simp, HW.out⟩
          case measure => simp [intOf]; omega
      · have hge : ¬ (k : Int) < (n : Int) := by omega
        have HT1 := Lib.hid (HT.out.keep hbw)
        have HB1 := Lib.hid hbw
        have HNEW := Lib.hid (new_any A n cp l wr HT1.out (by omega))
        clear hbw hlt
        go_wp2_with (go_at_call 13; (with_reducible refine HNEW.out.mono ?_))
        rintro e x2 ⟨B, rfl, hBs, hC2, hb2⟩
        have HB2 := Lib.hid (below_two' HB1.out hb2)
        have HBS := Lib.hid (Nat.le_trans HB1.out.size hBs)
        have HRD := Lib.hid (read_acts B (cur8 l) x2 (HS.out.keep HB2.out) hC2 HOK.out)
        have HRR := Lib.hid (fun W (hW : Below w.heap.size w W) => rread_acts (cur8 l) A n cp W HOK.out (by show l.length ≤ 100000; have := HN.out; omega) (HT.out.keep hW))
        have hfew := readA_few (cur8 l)
        obtain ⟨r, hr⟩ : ∃ r, r = readA (cur8 l) := ⟨_, rfl⟩
        rw [← hr] at HRD HRR hfew
        have HF := Lib.hid hfew
        have HRR' : Hid (∀ W, Below w.heap.size w W → Calls Tryz.prog 18 #[.agg #[.slice A n cp, .int .i64 0, .int .i64 0, .int .i64 0, .int .i64 0, .int .i64 0]] W (RetAR W r)) := Lib.hid HRR.out
        clear hBs hC2 hb2 hr hfew HRR
        go_wp2_with (go_at_call 14; (with_reducible refine HRD.out.mono ?_))
        rintro e x3 ⟨A3, n3, c3, rfl, hC3, hT3, hb3⟩
        have HB3 : Hid (Below w.heap.size w x3) := Lib.hid (below_but HB2.out hb3 HBS.out)
        have H3 := Lib.hid (And.intro hC3 hT3)
        clear hC3 hT3 hb3
        go_wp2_with (go_at_call 18; (with_reducible refine (HRR'.out _ HB3.out).mono ?_))
        rintro e x4 ⟨A4, n4, cp4, Av, nv, cv, rfl, hT4, hM4, hb4⟩
        have HB4 := Lib.hid (below_two' HB3.out hb4)
        have H4 := Lib.hid (And.intro (hT4.keep hb4) hM4)
        have HC4 := Lib.hid (And.intro (H3.out.1.keep hb4) (H3.out.2.keep hb4))
        have HK4 := Lib.hid (heap_alloc_new x4 (arO A4 n4 cp4 r.1))
        have hba : Below x4.heap.size x4 (x4.alloc (arO A4 n4 cp4 r.1)) := (Below.refl _ _).alloc (Nat.le_refl _) _
        have HBA := Lib.hid hba
        have HFA := Lib.hid (fault_any _ _ _ _ (x4.alloc (arO A4 n4 cp4 r.1)) (Fl.of (HC4.out.1.keep hba)))
        clear hT4 hM4 hb4 hba
        go_wp2_with (go_at_call 19; (with_reducible refine HFA.out.mono ?_))
        rintro e x5 ⟨rfl, hb5⟩
        have HX5 := Lib.hid (HBA.out.trans (hb5.mono (by simp)))
        have HK5 := Lib.hid (KitC.block_on HK4.out hb5)
        have HP5 := Lib.hid (heap_alloc_new x5 (.cells #[.int .i64 r.1.a1, .int .i64 r.1.a2] 32))
        have hz5 := hb5.size
        rw [World.size_alloc] at hz5
        clear hb5
        go_wp2_with fail
        have HV : Hid (Below x4.heap.size x4 (x5.alloc (.cells #[.int .i64 r.1.a1, .int .i64 r.1.a2] 32))) := Lib.hid (HX5.out.alloc HX5.out.size _)
        have HKd := Lib.hid ((heap_alloc_old x5 (.cells #[.int .i64 r.1.a1, .int .i64 r.1.a2] 32) (by omega)).trans HK5.out)
        obtain ⟨V, hVe⟩ : ∃ V, V = x5.alloc (.cells #[.int .i64 r.1.a1, .int .i64 r.1.a2] 32) := ⟨_, rfl⟩
        rw [← hVe] at HV HKd HP5 ⊢
        have HBV := Lib.hid (below_two' HB4.out HV.out)
        have HSM := Lib.hid (fun W (hW : Below V.heap.size V W) => rsame_acts A3 Av n3 nv c3 cv r.2 W ((HC4.out.2.keep HV.out).keep hW) ((H4.out.2.keep HV.out).keep hW) (by have := HF.out.1; omega) HF.out.2)
        have HNX := Lib.hid (fun W (hW : Below V.heap.size V W) => next_at B r.1 W ((HC4.out.1.keep HV.out).keep hW))
        have HRN := Lib.hid (fun W (hW : Below V.heap.size V W) => next_say r.1 A4 n4 cp4 W ((H4.out.1.keep HV.out).keep hW))
        have HA2 := Lib.hid (fun W (hW : Below V.heap.size V W) => HAw.out W (below_two' HBV.out hW))
        obtain ⟨tk, htk⟩ : ∃ tk, tk = next r.1 := ⟨_, rfl⟩
        rw [← htk] at HNX HRN
        obtain ⟨d, hd⟩ : ∃ d, d = r.1 := ⟨_, rfl⟩
        rw [← hd] at HRN HKd HP5 ⊢
        obtain ⟨d0, d1, d2, d3, d4, d5⟩ := cells_6 HKd.out
        obtain ⟨p0, p1⟩ := cells_2 HP5.out
        have hzd := (Array.getElem?_eq_some_iff.1 HKd.out).1
        have hzp := (Array.getElem?_eq_some_iff.1 HP5.out).1
        have HX0 := Lib.hid (Below.refl V.heap.size V)
        clear hVe htk hz5 hd
        go_region_held3 (fun w' => w'.cell? ⟨x4.heap.size, 0, none⟩ = some (.slice A4 n4 cp4) ∧ w'.cell? ⟨x4.heap.size, 1, none⟩ = some (.int .i64 d.w1) ∧ w'.cell? ⟨x4.heap.size, 2, none⟩ = some (.int .i64 d.w2) ∧ w'.cell? ⟨x4.heap.size, 3, none⟩ = some (.int .i64 d.a1) ∧ w'.cell? ⟨x4.heap.size, 4, none⟩ = some (.int .i64 d.a2) ∧ w'.cell? ⟨x4.heap.size, 5, none⟩ = some (.int .i64 d.bad) ∧ w'.cell? ⟨x5.heap.size, 0, none⟩ = some (.int .i64 d.a1) ∧ w'.cell? ⟨x5.heap.size, 1, none⟩ = some (.int .i64 d.a2)) (go_keep)
          ((first
            | (go_at_call 15; refine (HSM.out _ HX0.out.drew).mono ?_; rintro e y1 ⟨rfl, hb1'⟩; have hb1 := undrew hb1'; have HX1 := Lib.hid hb1; clear hb1'; obtain ⟨s0, s1, s2, s3, s4, s5⟩ := cells_6 (KitC.block_on HKd.out hb1); obtain ⟨s6, s7⟩ := cells_2 (KitC.block_on HP5.out hb1); clear hb1)
            | (go_at_call 17; refine (HNX.out _ HX1.out).mono ?_; rintro e y2 ⟨rfl, hb2⟩; have HX2 := Lib.hid (below_two' HX1.out hb2); clear hb2; obtain ⟨u0, u1, u2, u3, u4, u5⟩ := cells_6 (KitC.block_on HKd.out HX2.out); obtain ⟨u6, u7⟩ := cells_2 (KitC.block_on HP5.out HX2.out))
            | (go_at_call 20; refine (HRN.out _ HX2.out).mono ?_; rintro e y3 ⟨rfl, hb3⟩; have HX3 := Lib.hid (below_two' HX2.out hb3); clear hb3; obtain ⟨v0, v1, v2, v3, v4, v5⟩ := cells_6 (KitC.block_on HKd.out HX3.out); obtain ⟨v6, v7⟩ := cells_2 (KitC.block_on HP5.out HX3.out))
            | (go_at_call 7; refine (HA2.out _ HX3.out).mono ?_; rintro e y4 ⟨rfl, hb4⟩; have HX4 := Lib.hid (below_two' HX3.out hb4); clear hb4; obtain ⟨z0, z1, z2, z3, z4, z5⟩ := cells_6 (KitC.block_on HKd.out HX4.out); obtain ⟨z6, z7⟩ := cells_2 (KitC.block_on HP5.out HX4.out))))
        all_goals
          go_wp2_with fail
          go_ret
          exact ⟨rfl, below_two' HBV.out HX4.out⟩
end Go.Proofs.YtcfcpbkeedfbpaaGreatDoor

namespace Go.Proofs.YtcfcpbkeedfbpaaGreatDoor
namespace ScanSpec

def isLow (c : UInt8) : Bool := decide (97 ≤ (c.toNat : Int)) && decide ((c.toNat : Int) ≤ 122)
def isDig (c : UInt8) : Bool := decide (48 ≤ (c.toNat : Int)) && decide ((c.toNat : Int) ≤ 57)
def isBlank (c : UInt8) : Bool := (c.toNat == 32 || c.toNat == 9) || c.toNat == 10 || c.toNat == 13
/-- What a byte is: 1 a letter, 2 a digit, 3 a low line, 4 a blank, 5 what begins a remark, 0 another one. -/
def clsB (c : UInt8) : Int := if isLow c then 1 else if isDig c then 2 else if c.toNat = 95 then 3 else if isBlank c then 4 else if c.toNat = 35 then 5 else 0
def cls (l : List UInt8) (i : Nat) : Int := match l[i]? with | some c => clsB c | none => 0

/-- How many bytes are no token's: blanks and remarks (the first: within a remark). -/
def gapRun : Bool → List UInt8 → Nat
  | _, [] => 0
  | false, c :: t => if clsB c = 4 then gapRun false t + 1 else if clsB c = 5 then gapRun true t + 1 else 0
  | true, c :: t => if c.toNat = 10 then gapRun false t + 1 else gapRun true t + 1
def gap (l : List UInt8) (i : Nat) : Nat := i + gapRun false (l.drop i)

/-- How many bytes in a row are such. -/
def run (p : UInt8 → Bool) : List UInt8 → Nat
  | [] => 0
  | c :: t => if p c then run p t + 1 else 0
def isWord (c : UInt8) : Bool := decide (1 ≤ clsB c) && decide (clsB c ≤ 3)
def isNum (c : UInt8) : Bool := decide (clsB c = 2)

def marks : List (List UInt8) := [[45, 62], [58, 61], [60, 61], [62, 61], [33, 61], [61, 61], [46, 46], [123], [125], [91], [93], [40], [41], [44], [59], [61], [60], [62], [43], [45], [42], [47]]
def marksS : List ByteArray := [⟨#[45, 62]⟩, ⟨#[58, 61]⟩, ⟨#[60, 61]⟩, ⟨#[62, 61]⟩, ⟨#[33, 61]⟩, ⟨#[61, 61]⟩, ⟨#[46, 46]⟩, ⟨#[123]⟩, ⟨#[125]⟩, ⟨#[91]⟩, ⟨#[93]⟩, ⟨#[40]⟩, ⟨#[41]⟩, ⟨#[44]⟩, ⟨#[59]⟩, ⟨#[61]⟩, ⟨#[60]⟩, ⟨#[62]⟩, ⟨#[43]⟩, ⟨#[45]⟩, ⟨#[42]⟩, ⟨#[47]⟩]
def markLen (d : List UInt8) : Nat := match marks.find? fun m => m.isPrefixOf d with | some m => m.length | none => 0

/-- The token at the head of a text: its kind and length, what is told. -/
def one (d : List UInt8) : Int × Nat × Int :=
  if cls d 0 = 1 then (if 12 < run isWord d then (0, 0, 5) else (1, run isWord d, 0))
  else if cls d 0 = 2 then (if cls d (run isNum d) = 1 ∨ cls d (run isNum d) = 3 then (0, 0, 2) else if 9 < run isNum d then (0, 0, 5) else (2, run isNum d, 0))
  else if markLen d = 0 then (0, 0, 2) else (3, markLen d, 0)

/-- The line and the byte of a place. -/
def posGo : List UInt8 → Int × Int → Int × Int
  | [], p => p
  | c :: t, p => posGo t (if c.toNat = 10 then (p.1 + 1, 1) else (p.1, p.2 + 1))
def pos (l : List UInt8) (i : Nat) : Int × Int := posGo (l.take i) (1, 1)

theorem posGo_snoc (l : List UInt8) (c : UInt8) (p : Int × Int) : posGo (l ++ [c]) p = (if c.toNat = 10 then ((posGo l p).1 + 1, 1) else ((posGo l p).1, (posGo l p).2 + 1)) := by
  induction l generalizing p with
  | nil => rfl
  | cons a t ih => simp only [List.cons_append, posGo, ih]
theorem pos_next {l : List UInt8} {i : Nat} {c : UInt8} (h : l[i]? = some c) : pos l (i + 1) = (if c.toNat = 10 then ((pos l i).1 + 1, 1) else ((pos l i).1, (pos l i).2 + 1)) := by
  unfold pos; rw [take_next h, posGo_snoc]
theorem posGo_bd (l : List UInt8) (p : Int × Int) (h1 : 1 ≤ p.1) (h2 : 1 ≤ p.2) : 1 ≤ (posGo l p).1 ∧ (posGo l p).1 ≤ p.1 + l.length ∧ 1 ≤ (posGo l p).2 ∧ (posGo l p).2 ≤ p.2 + l.length := by
  induction l generalizing p with
  | nil => simp [posGo]; omega
  | cons a t ih =>
    simp only [posGo, List.length_cons]
    split
    · have := ih (p.1 + 1, 1) (by simp; omega) (by simp)
      simp at this ⊢; omega
    · have := ih (p.1, p.2 + 1) (by simp; omega) (by simp; omega)
      simp at this ⊢; omega
theorem pos_bd (l : List UInt8) (i : Nat) : 1 ≤ (pos l i).1 ∧ (pos l i).1 ≤ 1 + i ∧ 1 ≤ (pos l i).2 ∧ (pos l i).2 ≤ 1 + i := by
  have := posGo_bd (l.take i) (1, 1) (by simp) (by simp)
  have h := List.length_take_le i l
  unfold pos
  simp at this
  omega

theorem cls_some {l : List UInt8} {i : Nat} {c : UInt8} (h : l[i]? = some c) : cls l i = clsB c := by unfold cls; rw [h]
theorem cls_none {l : List UInt8} {i : Nat} (h : l.length ≤ i) : cls l i = 0 := by unfold cls; rw [List.getElem?_eq_none_iff.2 h]
theorem clsB_bd (c : UInt8) : 0 ≤ clsB c ∧ clsB c ≤ 5 := by unfold clsB; repeat' split; all_goals omega
theorem cls_bd (l : List UInt8) (i : Nat) : 0 ≤ cls l i ∧ cls l i ≤ 5 := by
  unfold cls; split
  · exact clsB_bd _
  · omega
theorem cls_drop (l : List UInt8) (i j : Nat) : cls (l.drop i) j = cls l (i + j) := by unfold cls; rw [List.getElem?_drop]
theorem drop_next {l : List UInt8} {i : Nat} {c : UInt8} (h : l[i]? = some c) : l.drop i = c :: l.drop (i + 1) := by
  have hi := get_lt h
  rw [List.drop_eq_getElem_cons hi]
  congr 1
  rw [List.getElem?_eq_getElem hi] at h
  injection h
theorem drop_end {l : List UInt8} {i : Nat} (h : l.length ≤ i) : l.drop i = [] := List.drop_eq_nil_of_le h
theorem clsB_35 {c : UInt8} (h : clsB c = 5) : c.toNat = 35 := by
  unfold clsB at h
  split at h
  · simp at h
  · split at h
    · simp at h
    · split at h
      · simp at h
      · split at h
        · simp at h
        · split at h
          · assumption
          · simp at h
theorem clsB_10 {c : UInt8} (h : c.toNat = 10) : clsB c = 4 := by
  unfold clsB isLow isDig isBlank
  rw [h]; rfl

theorem gap_blank {l : List UInt8} {i : Nat} (h : cls l i = 4) : gap l (i + 1) = gap l i := by
  unfold cls at h
  split at h
  · rename_i c hc
    unfold gap
    rw [drop_next hc, gapRun, if_pos h]; omega
  · simp at h
/-- From within a remark on. -/
def rem (l : List UInt8) (i : Nat) : Nat := i + gapRun true (l.drop i)
theorem gap_remark {l : List UInt8} {i : Nat} (h : cls l i = 5) : rem l i = gap l i := by
  unfold cls at h
  split at h
  · rename_i c hc
    unfold gap rem
    rw [drop_next hc, gapRun, gapRun, if_neg (by rw [clsB_35 h]; decide), if_neg (by rw [h]; decide), if_pos h]
  · simp at h
theorem rem_next {l : List UInt8} {i : Nat} {c : UInt8} (hc : l[i]? = some c) (h : ¬ c.toNat = 10) : rem l (i + 1) = rem l i := by
  unfold rem
  rw [drop_next hc, gapRun, if_neg h]; omega
theorem rem_line {l : List UInt8} {i : Nat} {c : UInt8} (hc : l[i]? = some c) (h : c.toNat = 10) : rem l i = gap l i := by
  unfold rem gap
  rw [drop_next hc, gapRun, gapRun, if_pos h, if_pos (clsB_10 h)]
theorem rem_end {l : List UInt8} {i : Nat} (h : l.length ≤ i) : rem l i = gap l i := by
  unfold rem gap
  rw [drop_end h]; rfl
theorem gap_stop {l : List UInt8} {i : Nat} (h4 : ¬ cls l i = 4) (h5 : ¬ cls l i = 5) : gap l i = i := by
  unfold gap
  rcases hc : l[i]? with _ | c
  · rw [drop_end (List.getElem?_eq_none_iff.1 hc)]; rfl
  · rw [cls_some hc] at h4 h5
    rw [drop_next hc, gapRun, if_neg h4, if_neg h5]; rfl
theorem gapRun_le (b : Bool) (l : List UInt8) : gapRun b l ≤ l.length := by
  induction l generalizing b with
  | nil => cases b <;> simp [gapRun]
  | cons c t ih =>
    have h1 := ih false
    have h2 := ih true
    cases b <;> simp only [gapRun, List.length_cons] <;> repeat' split
    all_goals omega
theorem gap_bd {l : List UInt8} {i : Nat} (h : i ≤ l.length) : i ≤ gap l i ∧ gap l i ≤ l.length := by
  have := gapRun_le false (l.drop i)
  rw [List.length_drop] at this
  unfold gap; omega

theorem run_next {p : UInt8 → Bool} {l : List UInt8} {i : Nat} {c : UInt8} (hc : l[i]? = some c) (h : p c = true) : i + 1 + run p (l.drop (i + 1)) = i + run p (l.drop i) := by
  rw [drop_next hc, run, if_pos h]; omega
theorem run_stop {p : UInt8 → Bool} {l : List UInt8} {i : Nat} (h : ∀ c, l[i]? = some c → p c = false) : run p (l.drop i) = 0 := by
  rcases hc : l[i]? with _ | c
  · rw [drop_end (List.getElem?_eq_none_iff.1 hc)]; rfl
  · rw [drop_next hc, run, if_neg (by rw [h c hc]; simp)]
theorem run_le (p : UInt8 → Bool) (l : List UInt8) : run p l ≤ l.length := by
  induction l with
  | nil => simp [run]
  | cons c t ih => simp only [run, List.length_cons]; split <;> omega
theorem run_pos {p : UInt8 → Bool} {l : List UInt8} {i : Nat} {c : UInt8} (hc : l[i]? = some c) (h : p c = true) : 0 < run p (l.drop i) := by
  rw [drop_next hc, run, if_pos h]; omega
theorem isWord_cls {l : List UInt8} {i : Nat} (h1 : 1 ≤ cls l i) (h3 : cls l i ≤ 3) : ∃ c, l[i]? = some c ∧ isWord c = true := by
  unfold cls at h1 h3
  split at h1
  · rename_i c hc
    refine ⟨c, hc, ?_⟩
    rw [hc] at h3
    simp [isWord, h1, h3]
  · omega
theorem isWord_no {l : List UInt8} {i : Nat} (h : ¬ (1 ≤ cls l i ∧ cls l i ≤ 3)) : ∀ c, l[i]? = some c → isWord c = false := by
  intro c hc
  rw [cls_some hc] at h
  simp only [isWord, Bool.and_eq_false_iff, decide_eq_false_iff_not]
  omega
theorem isNum_cls {l : List UInt8} {i : Nat} (h : cls l i = 2) : ∃ c, l[i]? = some c ∧ isNum c = true := by
  unfold cls at h
  split at h
  · rename_i c hc
    exact ⟨c, hc, by simp [isNum, h]⟩
  · simp at h
theorem isNum_no {l : List UInt8} {i : Nat} (h : ¬ cls l i = 2) : ∀ c, l[i]? = some c → isNum c = false := by
  intro c hc
  rw [cls_some hc] at h
  simp [isNum, h]

/-- A token: its kind, where it begins, its length. -/
structure Tok where
  kind : Int
  at_ : Nat
  len : Nat
/-- All tokens from a place on, behind those that are there already; or where a fault is, and which. -/
def scanGo (l : List UInt8) : Nat → Nat → List Tok → List Tok × Nat × Int
  | 0, i, acc => (acc ++ [⟨0, i, 0⟩], 0, 0)
  | f + 1, i, acc =>
    if l.length ≤ i then (acc ++ [⟨0, i, 0⟩], 0, 0)
    else
      let t := one (l.drop i)
      if t.2.2 ≠ 0 then ([], i, t.2.2)
      else if acc.length = 4000 then ([], i, 8)
      else scanGo l f (gap l (i + t.2.1)) (acc ++ [⟨t.1, i, t.2.1⟩])
def scan (l : List UInt8) : List Tok × Nat × Int := scanGo l l.length (gap l 0) []
end ScanSpec
end Go.Proofs.YtcfcpbkeedfbpaaGreatDoor

namespace Go.Proofs.YtcfcpbkeedfbpaaGreatDoor
open Go.RowKit ScanSpec

theorem byte_at' (s : ByteArray) (i : Nat) (h : i < s.size) : s.data.toList[i]? = some s[i] := by
  rw [List.getElem?_eq_getElem (by simpa using h)]; rfl
theorem size_list' (s : ByteArray) : s.data.toList.length = s.size := rfl

theorem clsB_val (c : UInt8) (n : Int) (hn : n = (c.toNat : Int)) : (97 ≤ n ∧ n ≤ 122 ∧ clsB c = 1) ∨ (48 ≤ n ∧ n ≤ 57 ∧ clsB c = 2) ∨ (n = 95 ∧ clsB c = 3) ∨ ((n = 32 ∨ n = 9 ∨ n = 10 ∨ n = 13) ∧ clsB c = 4) ∨ (n = 35 ∧ clsB c = 5) ∨
    ((n < 48 ∨ (57 < n ∧ n < 97) ∨ 122 < n) ∧ n ≠ 95 ∧ n ≠ 32 ∧ n ≠ 9 ∧ n ≠ 10 ∧ n ≠ 13 ∧ n ≠ 35 ∧ clsB c = 0) := by
  unfold clsB isLow isDig isBlank
  simp only [← hn, Bool.and_eq_true, Bool.or_eq_true, decide_eq_true_eq, beq_iff_eq]
  by_cases h1 : 97 ≤ n ∧ n ≤ 122
  · exact .inl ⟨h1.1, h1.2, by rw [if_pos h1]⟩
  · rw [if_neg h1]
    by_cases h2 : 48 ≤ n ∧ n ≤ 57
    · exact .inr (.inl ⟨h2.1, h2.2, by rw [if_pos h2]⟩)
    · rw [if_neg h2]
      by_cases h3 : c.toNat = 95
      · exact .inr (.inr (.inl ⟨by omega, by rw [if_pos h3]⟩))
      · rw [if_neg h3]
        by_cases h4 : ((c.toNat = 32 ∨ c.toNat = 9) ∨ c.toNat = 10) ∨ c.toNat = 13
        · exact .inr (.inr (.inr (.inl ⟨by omega, by rw [if_pos h4]⟩)))
        · rw [if_neg h4]
          by_cases h5 : c.toNat = 35
          · exact .inr (.inr (.inr (.inr (.inl ⟨by omega, by rw [if_pos h5]⟩))))
          · exact .inr (.inr (.inr (.inr (.inr ⟨by omega, by omega, by omega, by omega, by omega, by omega, by omega, by rw [if_neg h5]⟩))))

def GapRel (s : ByteArray) (G : Nat) (v : Value) : Prop := ∃ k : Nat, k ≤ s.size ∧ v = .int .i64 k ∧ gap s.data.toList k = G
def RemRel (s : ByteArray) (k0 G : Nat) (v : Value) : Prop := ∃ k : Nat, k0 ≤ k ∧ k ≤ s.size ∧ v = .int .i64 k ∧ rem s.data.toList k = G

def PosRel (W : World) (l : List UInt8) (n : Nat) (v : Value) (wr : World) : Prop := ∃ k : Nat, k ≤ n ∧ v = .int .i64 k ∧ wr.heap[W.heap.size]? = some (.cells #[.int .i64 0, .int .i64 0] 32 (0, 0)) ∧
  wr.heap[W.heap.size + 1]? = some (.cells #[.int .i64 (pos l k).1, .int .i64 (pos l k).2] 32 (0, 0)) ∧ Below W.heap.size W wr
theorem pos_line {W wr : World} {s : ByteArray} {k n : Nat} {p1 : Int} {x : Value} (hk : k < n) (hlt : k < s.size) (hten : s[k].toNat = 10)
    (hr : wr.heap[W.heap.size]? = some (.cells #[.int .i64 0, .int .i64 0] 32 (0, 0))) (hb : wr.heap[W.heap.size + 1]? = some (.cells #[.int .i64 p1, x] 32 (0, 0))) (hp1 : p1 = (pos s.data.toList k).1) (hbw : Below W.heap.size W wr) :
    PosRel W s.data.toList n (.int .i64 ((k : Int) + 1)) (((wr.setCell ⟨W.heap.size + 1, 0, none⟩ (.int .i64 (p1 + 1))).setCell ⟨W.heap.size + 1, 1, none⟩ (.int .i64 0)).setCell ⟨W.heap.size + 1, 1, none⟩ (.int .i64 1)) := by
  refine ⟨k + 1, hk, by simp, ?_, ?_, ((hbw.setCell (by simp) _).setCell (by simp) _).setCell (by simp) _⟩
  · rw [Below.heap_setCell _ _ _ _ (by simp), Below.heap_setCell _ _ _ _ (by simp), Below.heap_setCell _ _ _ _ (by simp), hr]
  · rw [block_setCell' (block_setCell' (block_setCell' hb _ _) _ _), pos_next (byte_at' s k hlt), if_pos hten, hp1]; rfl
theorem pos_col {W wr : World} {s : ByteArray} {k n : Nat} {p1 p2 : Int} (hk : k < n) (hlt : k < s.size) (hten : ¬ s[k].toNat = 10)
    (hr : wr.heap[W.heap.size]? = some (.cells #[.int .i64 0, .int .i64 0] 32 (0, 0))) (hb : wr.heap[W.heap.size + 1]? = some (.cells #[.int .i64 p1, .int .i64 p2] 32 (0, 0))) (hp1 : p1 = (pos s.data.toList k).1) (hp2 : p2 = (pos s.data.toList k).2)
    (hbw : Below W.heap.size W wr) : PosRel W s.data.toList n (.int .i64 ((k : Int) + 1)) (wr.setCell ⟨W.heap.size + 1, 1, none⟩ (.int .i64 (p2 + 1))) := by
  refine ⟨k + 1, hk, by simp, ?_, ?_, hbw.setCell (by simp) _⟩
  · rw [Below.heap_setCell _ _ _ _ (by simp), hr]
  · rw [block_setCell' hb _ _, pos_next (byte_at' s k hlt), if_neg hten, hp1, hp2]; rfl

end Go.Proofs.YtcfcpbkeedfbpaaGreatDoor

namespace Go.Proofs.YtcfcpbkeedfbpaaGreatDoor
open Go.RowKit ScanSpec Go.BigFrame

/-- What One answers of the token at a place. -/
def oneE (l : List UInt8) (i : Nat) : Int × Int × Int := if (ScanSpec.one (l.drop i)).2.2 = 0 then ((ScanSpec.one (l.drop i)).1, ((i + (ScanSpec.one (l.drop i)).2.1 : Nat) : Int), 0) else (0, 0, (ScanSpec.one (l.drop i)).2.2)

theorem oneE_err {l : List UInt8} {i : Nat} {x : Int} (h : ScanSpec.one (l.drop i) = (0, 0, x)) (hx : x ≠ 0) : oneE l i = (0, 0, x) := by
  unfold oneE; rw [h, if_neg hx]
theorem oneE_ok {l : List UInt8} {i n : Nat} {x : Int} (h : ScanSpec.one (l.drop i) = (x, n, 0)) : oneE l i = (x, ((i + n : Nat) : Int), 0) := by
  unfold oneE; rw [h, if_pos rfl]
theorem ret_one {l : List UInt8} {i : Nat} {a b c : Int} (h : oneE l i = (a, b, c)) : Ending.returned (.tuple #[.int .i64 a, .int .i64 b, .int .i64 c]) = .returned (.tuple #[.int .i64 (oneE l i).1, .int .i64 (oneE l i).2.1, .int .i64 (oneE l i).2.2]) := by rw [h]
theorem one_name {l : List UInt8} {i : Nat} (h : cls l i = 1) : ScanSpec.one (l.drop i) = if 12 < run isWord (l.drop i) then (0, 0, 5) else (1, run isWord (l.drop i), 0) := by
  unfold ScanSpec.one; rw [cls_drop, Nat.add_zero, if_pos h]
theorem one_num {l : List UInt8} {i : Nat} (h : cls l i = 2) : ScanSpec.one (l.drop i) = if cls l (i + run isNum (l.drop i)) = 1 ∨ cls l (i + run isNum (l.drop i)) = 3 then (0, 0, 2) else if 9 < run isNum (l.drop i) then (0, 0, 5) else (2, run isNum (l.drop i), 0) := by
  unfold ScanSpec.one; rw [cls_drop, Nat.add_zero, if_neg (by rw [h]; decide), if_pos h, cls_drop]
theorem one_mark {l : List UInt8} {i : Nat} (h1 : ¬ cls l i = 1) (h2 : ¬ cls l i = 2) : ScanSpec.one (l.drop i) = if markLen (l.drop i) = 0 then (0, 0, 2) else (3, markLen (l.drop i), 0) := by
  unfold ScanSpec.one; rw [cls_drop, Nat.add_zero, if_neg h1, if_neg h2]

theorem find_hit {α : Type} {p : α → Bool} : ∀ {l : List α} {j : Nat} {x : α}, l[j]? = some x → (∀ y ∈ l.take j, p y = false) → p x = true → l.find? p = some x
  | [], _, _, h, _, _ => by simp at h
  | a :: t, 0, x, h, _, hx => by
    simp at h; subst h; simp [hx]
  | a :: t, j + 1, x, h, hn, hx => by
    have ha : p a = false := hn a (by simp)
    rw [List.find?_cons, ha]
    exact find_hit (j := j) (by simpa using h) (fun y hy => hn y (by simp [hy])) hx
theorem mark_hit {d : List UInt8} {j : Nat} {m : List UInt8} (h : marks[j]? = some m) (hn : ∀ y ∈ marks.take j, y.isPrefixOf d = false) (hm : m.isPrefixOf d = true) : markLen d = m.length := by
  unfold markLen; rw [find_hit (p := fun m => m.isPrefixOf d) h hn hm]
theorem mark_none {d : List UInt8} (h : ∀ y ∈ marks, y.isPrefixOf d = false) : markLen d = 0 := by
  unfold markLen
  rw [List.find?_eq_none.2 (fun y hy => by rw [h y hy]; simp)]
theorem marks_len : ∀ y ∈ marks, 1 ≤ y.length ∧ y.length ≤ 2 := by decide
theorem marks_map : marksS.map (·.data.toList) = marks := by decide
theorem marks_get {j : Nat} {m : ByteArray} (h : marksS[j]? = some m) : marks[j]? = some m.data.toList := by
  rw [← marks_map, List.getElem?_map, h]; rfl
theorem marks_size {j : Nat} {m : ByteArray} (h : marksS[j]? = some m) : 1 ≤ m.size ∧ m.size ≤ 2 := marks_len _ (List.mem_of_getElem? (marks_get h))

theorem prefix_iff (s : ByteArray) (i : Nat) (m : ByteArray) : (m.data.toList.isPrefixOf (s.data.toList.drop i) = true) ↔ (i + m.size ≤ s.size ∨ m.size = 0) ∧ (s.extract i (i + m.size)) = m := by
  rw [List.isPrefixOf_iff_prefix]
  have e : (s.extract i (i + m.size)).data.toList = (s.data.toList.drop i).take m.size := by
    rw [ByteArray.data_extract, Array.toList_extract, List.extract_eq_take_drop]
    congr 1; omega
  constructor
  · intro h
    have hl := h.length_le
    rw [List.length_drop, size_list', size_list'] at hl
    refine ⟨by omega, ByteArray.ext (Array.toList_inj.mp ?_)⟩
    rw [e, ← size_list' m, ← List.prefix_iff_eq_take.1 h]
  · rintro ⟨_, h⟩
    rw [List.prefix_iff_eq_take, size_list' m, ← e, h]

def RunRel (s : ByteArray) (p : UInt8 → Bool) (i E : Nat) (v : Value) : Prop := ∃ k : Nat, i ≤ k ∧ k ≤ s.size ∧ v = .int .i64 k ∧ k + run p (s.data.toList.drop k) = E
def OnePost (s : ByteArray) (i : Nat) (w : World) (e : Ending) (w' : World) : Prop :=
  e = .returned (.tuple #[.int .i64 (oneE s.data.toList i).1, .int .i64 (oneE s.data.toList i).2.1, .int .i64 (oneE s.data.toList i).2.2]) ∧ Below w.heap.size w w'

def MarkRel (W : World) (d : List UInt8) (v : Value) (w : World) : Prop := ∃ j : Nat, j ≤ 22 ∧ v = .int .i64 j ∧ (∀ y ∈ marks.take j, y.isPrefixOf d = false) ∧ Below W.heap.size W w
end Go.Proofs.YtcfcpbkeedfbpaaGreatDoor

namespace Go.Proofs.YtcfcpbkeedfbpaaGreatDoor
open Go.RowKit ScanSpec
set_option maxRecDepth 100000

theorem info_tok : (Tryz.prog.info? 40).map (fun i => (i.zero, i.size, i.bytes)) = some (some (.agg #[.int .i64 0, .string ByteArray.empty, .int .i64 0, .int .i64 0]), 4, 40) := by kernel_rfl

/-- A token's cells. -/
def tokV (s : ByteArray) (t : Tok) : List Value := [.int .i64 t.kind, .string (s.extract t.at_ (t.at_ + t.len)), .int .i64 (pos s.data.toList t.at_).1, .int .i64 (pos s.data.toList t.at_).2]
def toksV (s : ByteArray) (l : List Tok) : List Value := l.flatMap (tokV s)
theorem tokV_length (s : ByteArray) (t : Tok) : (tokV s t).length = 4 := rfl
/-- A token's cells, by its two ends. -/
def tokC (s : ByteArray) (kd : Int) (i k : Nat) : List Value := [.int .i64 kd, .string (s.extract i k), .int .i64 (pos s.data.toList i).1, .int .i64 (pos s.data.toList i).2]
theorem tokC_one (s : ByteArray) (kd : Int) (i k : Nat) : ∀ u ∈ tokC s kd i k, u.oneCell' = true := by simp [tokC, Value.oneCell']
theorem tokC_eq {s : ByteArray} {kd : Int} {i ln k : Nat} (h : k = i + ln) : tokC s kd i k = tokV s ⟨kd, i, ln⟩ := by subst h; rfl
theorem toksV_length (s : ByteArray) (l : List Tok) : (toksV s l).length = l.length * 4 := flat_length (tokV_length s) l
theorem toksV_snoc (s : ByteArray) (l : List Tok) (t : Tok) : toksV s l ++ tokV s t = toksV s (l ++ [t]) := by simp [toksV]
theorem tokV_one (s : ByteArray) (t : Tok) : ∀ u ∈ tokV s t, u.oneCell' = true := by simp [tokV, Value.oneCell']

/-- All tokens of a text, or where its first fault is, and which. -/
def scanT (l : List UInt8) : List Tok × Nat × Int := if 65536 < l.length then ([], 0, 5) else scan l

theorem one_bd (d : List UInt8) (hd : 0 < d.length) : ((ScanSpec.one d).2.2 = 0 → 1 ≤ (ScanSpec.one d).2.1 ∧ (ScanSpec.one d).2.1 ≤ d.length) ∧ ((ScanSpec.one d).2.2 = 0 ∨ (ScanSpec.one d).2.2 = 2 ∨ (ScanSpec.one d).2.2 = 5) ∧ (0 ≤ (ScanSpec.one d).1 ∧ (ScanSpec.one d).1 ≤ 3) := by
  obtain ⟨c, hc⟩ : ∃ c, d[0]? = some c := get_some hd
  have hd0 : d.drop 0 = d := rfl
  have hml : markLen d ≤ d.length := by
    unfold markLen
    cases hf : marks.find? fun m => m.isPrefixOf d with
    | none => simp
    | some m =>
      have := List.find?_some hf
      rw [List.isPrefixOf_iff_prefix] at this
      exact this.length_le
  unfold ScanSpec.one
  split
  · rename_i h1
    have hp : 0 < run isWord d := by
      have := run_pos (p := isWord) (l := d) (i := 0) hc (by rw [cls_some hc] at h1; simp [isWord, h1])
      rwa [hd0] at this
    have := run_le isWord d
    split <;> simp <;> omega
  · split
    · rename_i h1 h2
      have hp : 0 < run isNum d := by
        have := run_pos (p := isNum) (l := d) (i := 0) hc (by rw [cls_some hc] at h2; simp [isNum, h2])
        rwa [hd0] at this
      have := run_le isNum d
      split
      · simp
      · split <;> simp <;> omega
    · split <;> simp <;> omega

theorem scanGo_end {l : List UInt8} {f i : Nat} {acc : List Tok} (h : l.length ≤ i) : scanGo l f i acc = (acc ++ [⟨0, i, 0⟩], 0, 0) := by
  cases f with
  | zero => rfl
  | succ f => rw [scanGo, if_pos h]
theorem scanGo_err {l : List UInt8} {f i : Nat} {acc : List Tok} (h : i < l.length) (he : (ScanSpec.one (l.drop i)).2.2 ≠ 0) : scanGo l (f + 1) i acc = ([], i, (ScanSpec.one (l.drop i)).2.2) := by
  rw [scanGo, if_neg (by omega)]
  simp only [if_pos he]
theorem scanGo_full {l : List UInt8} {f i : Nat} {acc : List Tok} (h : i < l.length) (he : (ScanSpec.one (l.drop i)).2.2 = 0) (hf : acc.length = 4000) : scanGo l (f + 1) i acc = ([], i, 8) := by
  rw [scanGo, if_neg (by omega)]
  simp [he, hf]
theorem scanGo_next {l : List UInt8} {f i : Nat} {acc : List Tok} (h : i < l.length) (he : (ScanSpec.one (l.drop i)).2.2 = 0) (hf : acc.length ≠ 4000) :
    scanGo l (f + 1) i acc = scanGo l f (gap l (i + (ScanSpec.one (l.drop i)).2.1)) (acc ++ [⟨(ScanSpec.one (l.drop i)).1, i, (ScanSpec.one (l.drop i)).2.1⟩]) := by
  rw [scanGo, if_neg (by omega)]
  simp [he, hf]

/-- What Tokens leaves. -/
def TokPost (W : World) (s : ByteArray) (e : Ending) (w' : World) : Prop :=
  Below W.heap.size W w' ∧
  ((scanT s.data.toList).2.2 ≠ 0 → e = .returned (.tuple #[.slice none 0 0, .agg #[.int .i64 (pos s.data.toList (scanT s.data.toList).2.1).1, .int .i64 (pos s.data.toList (scanT s.data.toList).2.1).2], .int .i64 (scanT s.data.toList).2.2])) ∧
  ((scanT s.data.toList).2.2 = 0 → ∃ v, e = .returned (.tuple #[v, .agg #[.int .i64 0, .int .i64 0], .int .i64 0]) ∧ Rdk 4 w' v (scanT s.data.toList).1.length (toksV s (scanT s.data.toList).1))

theorem tok_bad {W w' : World} {s : ByteArray} {i : Nat} {er : Int} (hb : Below W.heap.size W w') (h : scanT s.data.toList = ([], i, er)) (hne : er ≠ 0) :
    TokPost W s (.returned (.tuple #[.slice none 0 0, .agg #[.int .i64 (pos s.data.toList i).1, .int .i64 (pos s.data.toList i).2], .int .i64 er])) w' :=
  ⟨hb, fun _ => by rw [h], fun h' => by rw [h] at h'; exact absurd h' hne⟩

def TokRel (W : World) (s : ByteArray) (ov iv : Value) (wr : World) : Prop :=
  ∃ (i f g cap n : Nat) (acc : List Tok), iv = .int .i64 i ∧ i ≤ s.size ∧ ov = .slice (some ⟨g, 0, none⟩) n cap ∧ acc.length = n ∧ wr.ownsRow (W.heap.size + 1) 40 4 (.slice (some ⟨g, 0, none⟩) n cap) n (toksV s acc) ∧
    scanGo s.data.toList f i acc = scan s.data.toList ∧ s.size ≤ i + f ∧ n ≤ 4000 ∧ wr.heap[W.heap.size]? = some (.cells #[.int .i64 0, .int .i64 0] 32 (0, 0)) ∧ Below W.heap.size W wr ∧ W.heap.size + 1 ≤ wr.heap.size

theorem tok_start {w : World} {s : ByteArray} (h : gap s.data.toList 0 ≤ s.data.toList.length) : TokRel w s (.slice (some ⟨w.heap.size + 1, 0, none⟩) 0 0) (.int .i64 (gap s.data.toList 0))
    ((w.alloc (.cells #[.int .i64 0, .int .i64 0] 32)).alloc (.cells #[] 40)) := by
  have e := World.size_alloc w (.cells #[.int .i64 0, .int .i64 0] 32)
  have ho := World.ownsRow_lit (base := w.heap.size + 1) (e := 40) (size := 4) (w.alloc (.cells #[.int .i64 0, .int .i64 0] 32)) #[] 0 (by rw [e]; exact Nat.le_refl _) (Nat.zero_le _) rfl
  rw [e] at ho
  refine ⟨gap s.data.toList 0, s.data.toList.length, w.heap.size + 1, 0, 0, [], rfl, h, rfl, rfl, ho, rfl, by rw [size_list']; omega, by omega, (heap_alloc_old _ _ (by simp)).trans (heap_alloc_new _ _), ((Below.refl _ _).alloc (Nat.le_refl _) _).alloc (by simp) _, by simp⟩

theorem tok_next {W w2 w3 w4 : World} {s : ByteArray} {i ln k2 f n g cap gg cap4 : Nat} {kd : Int} {acc : List Tok} {o : Obj} (_hS : scanT s.data.toList = scan s.data.toList) (hO : ScanSpec.one (s.data.toList.drop i) = (kd, ln, 0)) (hK : k2 = i + ln) (hN : acc.length = n)
    (hGo : scanGo s.data.toList (f + 1) i acc = scan s.data.toList) (_hi : i ≤ s.size) (hlt : i < s.size) (hf : s.size ≤ i + (f + 1)) (h4 : n ≤ 4000) (hfull : ¬ n = 4000) (gb1 : k2 ≤ gap s.data.toList k2) (gb2 : gap s.data.toList k2 ≤ s.size) (hlnb : i < k2)
    (hr2 : w2.heap[W.heap.size]? = some (.cells #[.int .i64 0, .int .i64 0] 32 (0, 0))) (hb2 : Below W.heap.size W w2) (hsz : W.heap.size + 1 ≤ w2.heap.size) (hb3 : Below w2.heap.size w2 w3)
    (hown3 : w3.ownsRow (W.heap.size + 1) 40 4 (.slice (some ⟨g, 0, none⟩) n cap) n (toksV s acc)) (hg4 : (w3.alloc o).grownBy w4 (some g))
    (hown4 : w4.ownsRow (W.heap.size + 1) 40 4 (.slice (some ⟨gg, 0, none⟩) (n + 1) cap4) (n + 1) (toksV s acc ++ tokC s kd i k2)) :
    TokRel W s (.slice (some ⟨gg, 0, none⟩) (n + 1) cap4) (.int .i64 (gap s.data.toList k2)) w4 := by
  have hg := (hown3.lt g rfl).1
  have h3 : Below W.heap.size W w3 := hb2.trans (hb3.mono (by omega))
  have hs3 := hb3.size
  have hs4 := hg4.size
  rw [World.size_alloc] at hs4
  refine ⟨gap s.data.toList k2, f, gg, cap4, n + 1, acc ++ [⟨kd, i, ln⟩], rfl, gb2, rfl, by simp [hN], ?_, ?_, by omega, by omega, ?_, (h3.alloc h3.size o).grown hg4 (by simp; omega) (fun k hk => by cases hk; omega), by omega⟩
  · rw [← toksV_snoc, ← tokC_eq hK]; exact hown4
  · rw [← hGo, scanGo_next (by rw [size_list']; exact hlt) (by rw [hO]) (by rw [hN]; exact hfull), hO, hK]
  · rw [hg4.block W.heap.size (by simp; omega) (by simp; omega), heap_alloc_old _ _ (by omega), hb3.block _ (by omega), hr2]

/-- The end's cells. -/
def endC (s : ByteArray) (i : Nat) : List Value := [.int .i64 0, .string ByteArray.empty, .int .i64 (pos s.data.toList i).1, .int .i64 (pos s.data.toList i).2]
theorem endC_one (s : ByteArray) (i : Nat) : ∀ u ∈ endC s i, u.oneCell' = true := by simp [endC, Value.oneCell']
theorem endC_eq (s : ByteArray) (i : Nat) : endC s i = tokV s ⟨0, i, 0⟩ := by
  have e : s.extract i (i + 0) = ByteArray.empty := by
    apply ByteArray.ext
    simp
  unfold endC tokV
  rw [e]
theorem tok_end {W w4 : World} {s : ByteArray} {i f n gg cap4 : Nat} {acc : List Tok} {u v : Value} (hS : scanT s.data.toList = scan s.data.toList) (hN : acc.length = n) (hGo : scanGo s.data.toList f i acc = scan s.data.toList) (hge : s.size ≤ i)
    (hown4 : w4.ownsRow (W.heap.size + 1) 40 4 (.slice (some ⟨gg, 0, none⟩) (n + 1) cap4) (n + 1) (toksV s acc ++ endC s i)) (hb4 : Below W.heap.size W w4) :
    TokPost W s (.returned (.tuple #[.slice (some ⟨gg, 0, none⟩) (n + 1) cap4, .agg #[.int .i64 0, .int .i64 0], .int .i64 0])) ((w4.setCell ⟨W.heap.size, 0, none⟩ u).setCell ⟨W.heap.size, 1, none⟩ v) := by
  have e : scanT s.data.toList = (acc ++ [⟨0, i, 0⟩], 0, 0) := by rw [hS, ← hGo, scanGo_end (by rw [size_list']; exact hge)]
  refine ⟨(hb4.setCell (Nat.le_refl _) _).setCell (Nat.le_refl _) _, fun h => by rw [e] at h; exact absurd rfl h, fun _ => ⟨_, rfl, ?_⟩⟩
  rw [e]
  have h5 : ((w4.setCell ⟨W.heap.size, 0, none⟩ u).setCell ⟨W.heap.size, 1, none⟩ v).ownsRow (W.heap.size + 1) 40 4 (.slice (some ⟨gg, 0, none⟩) (n + 1) cap4) (n + 1) (toksV s acc ++ endC s i) :=
    ownsRow_setCell_below (ownsRow_setCell_below hown4 (by simp) u) (by simp) v
  rw [endC_eq, toksV_snoc] at h5
  have hl : (acc ++ [(⟨0, i, 0⟩ : Tok)]).length = n + 1 := by simp [hN]
  rw [← hl] at h5
  have := Rdk.own h5
  rwa [hl] at this ⊢

theorem end_block {B : Nat} {w3 w4 : World} {o : Obj} {c : Obj} {g n cap : Nat} (h : w3.heap[B]? = some c) (hg : B + 1 ≤ g) (hgr : (w3.alloc o).grownBy w4 (Value.ownBlock (.slice (some ⟨g, 0, none⟩) n cap))) : w4.heap[B]? = some c := by
  have hlt := (Array.getElem?_eq_some_iff.1 h).1
  rw [hgr.block B (by simp; omega) (by simp [Value.ownBlock]; omega), heap_alloc_old _ _ hlt, h]

end Go.Proofs.YtcfcpbkeedfbpaaGreatDoor
