/- ActReadsWalk, CurNew, ActReadsLaw, ScanSpec, ScanRef, ScanRefOne, ScanRefToks, ScanProgSpec, ScanFirst, ScanMark, Laid, ScanLaid, ExprLaid, OpenN, TokOpen, joined. -/
import Derived.Test.YtcfcpbkeedfbpaaGreatDoorMActReads12
import Derived.Test.YtcfcpbkeedfbpaaGreatDoorMActReads19
import Derived.Test.YtcfcpbkeedfbpaaGreatDoorMActReads08
import Derived.Deep.AppendLies
import Derived.Laws.MakeOwn
import Derived.OwnWalk
import Derived.Test.YtcfcpbkeedfbpaaGreatDoorMActReads00
import Derived.Test.YtcfcpbkeedfbpaaGreatDoorRows
import Derived.BigQuiet
import Derived.Deep.QuietTactic
import Derived.IntWalk
import Derived.Deep.RegionHeld3
import Derived.Lib.Bytealg
import Derived.Lib.Strings
import Derived.Test.YtcfcpbkeedfbpaaGreatDoorShelf
import Derived.LaidLaws
import Derived.ChangeArms
import Derived.Lib.LaidTab
import Derived.OpenShut
import Derived.LaidMore
import Derived.Stop.Joined
import Derived.Test.YtcfcpbkeedfbpaaGreatDoorMActReads10
import Derived.Stop.LaidErr
import Derived.ProofKit
import Derived.Deep.Slices
import Derived.Test.YtcfcpbkeedfbpaaGreatDoorMActReads06
import Derived.Lib.SmallJoins
namespace Go.Proofs.YtcfcpbkeedfbpaaGreatDoor
open Go.RowKit Go.Sort CurSpec TermSpec EvalSpec ActSpec NamesSpec ExprSpec
set_option maxRecDepth 100000

theorem readP_few8 (f : Nat) (c : Cur) : (readP f c).2.length ≤ 1000 := by
  unfold readP
  dsimp only
  split
  · split
    · rename_i h
      have := (tree_of h).choose_spec.2.2
      dsimp only
      omega
    · simp
  · simp
theorem oneR_few (c : Cur) : (oneR c).2.x.length ≤ 1000 := by
  unfold oneR
  split
  · simp
  · exact readP_few8 _ _
theorem goR_few : ∀ (f : Nat) (c : Cur) (out : List Ac), (∀ a ∈ out, a.x.length ≤ 1000) → ∀ a ∈ (goR f c out).2, a.x.length ≤ 1000
  | 0, _, _, h => h
  | f + 1, c, out, h => by
    have hs : ∀ a ∈ (stepR c out).2, a.x.length ≤ 1000 := fun a ha => by
      unfold stepR at ha
      rcases List.mem_append.1 ha with ha | ha
      · exact h a ha
      · rw [List.mem_singleton.1 ha]; exact oneR_few _
    unfold goR
    split
    · exact goR_few f _ _ hs
    · exact hs
theorem goR_nine : ∀ (f : Nat) (c : Cur) (out : List Ac), out.length ≤ 8 → (goR f c out).2.length ≤ 9
  | 0, _, out, h => by show out.length ≤ 9; omega
  | f + 1, c, out, h => by
    have h1 := stepR_le c out
    unfold goR
    split
    · rename_i hb
      have h2 := (isB_real hb (by decide)).1
      rcases Nat.lt_or_ge out.length 8 with h8 | h8
      · exact goR_nine f _ _ (by rw [h1.2.2.2]; omega)
      · exact absurd h2 (h1.2.2.1 (by omega))
    · rw [h1.2.2.2]; omega
theorem readA_few (c : Cur) : (readA c).2.length ≤ 9 ∧ ∀ a ∈ (readA c).2, a.x.length ≤ 1000 := by
  unfold readA
  split
  · exact ⟨goR_nine _ _ _ (Nat.zero_le _), goR_few _ _ _ (by simp)⟩
  · simp
def ASameRel (W : World) (n : Nat) (i : Value) (wr : World) : Prop := ∃ k : Nat, k ≤ n ∧ i = .int .i64 k ∧ Below W.heap.size W wr
set_option maxHeartbeats 2000000 in
theorem rsame_acts (A B : Option Addr) (n m c d : Nat) (l : List Ac) (w : World) (h : Acs w (.slice A n c) l) (h2 : Acs w (.slice B m d) l) (h64 : l.length ≤ 64) (hfew : ∀ a ∈ l, a.x.length ≤ 1000) :
    Calls Tryz.prog 15 #[.slice A n c, .slice B m d] w (RetB w true) := by
  obtain rfl : m = n := h2.len.1.trans h.len.1.symm
  have HN := Lib.hid h.len.1
  have HT := Lib.hid (And.intro h h2)
  have HF := Lib.hid hfew
  have hc := h.len.2
  have hd := h2.len.2
  have hn64 : m ≤ 64 := by have := HN.out; omega
  clear h h2 hfew
  go_enter Tryz.func15, Tryz.ntmps15
  go_wp2_with fail
  go_loopw [5] (fun i wr => ASameRel w m i wr) (fun i _ => m - (intOf i).toNat)
  case atStart => exact ⟨0, Nat.zero_le _, rfl, Below.refl _ _⟩
  case round =>
    obtain ⟨k, hk, rfl, hbw⟩ := hrel
    have HB := Lib.hid hbw
    by_cases hlt : k < m
    · have hkI : (k : Int) < m := by omega
      have hk64 : (k : Int) ≤ 64 := by omega
      obtain ⟨a, ha⟩ : ∃ a, l[k]? = some a := get_some (by rw [← HN.out]; exact hlt)
      have hx := HF.out a (List.mem_of_getElem? ha)
      obtain ⟨b1, o1, xA, xn, xc, rfl, hb1, ht1, p0, p1, p2⟩ := (HT.out.1.keep hbw).at_ ha
      obtain ⟨b2, o2, yA, yn, yc, rfl, hb2, ht2, q0, q1, q2⟩ := (HT.out.2.keep hbw).at_ ha
      obtain ⟨_, _, _, heq, hxn, _⟩ := ht1.shape
      cases heq
      obtain ⟨_, _, _, heq, hyn, _⟩ := ht2.shape
      cases heq
      have HS : Hid (∀ d os, Calls Tryz.prog 36 #[.slice xA xn xc, .slice yA yn yc] (grow (redrawn wr d) os) fun e w'' => e = .returned (.bool true) ∧ ∃ p : Regrown, w'' = grow (redrawn wr p.d) p.os) := Lib.hid (fun d os => Calls.regrown_of (tmsame_any xA yA xn yn xc yc a.x (grow (redrawn wr d) os) (ht1.keep (below_regrown wr d os)) (ht2.keep (below_regrown wr d os)) hxn hyn (by omega)))
      obtain ⟨s, any, x⟩ := a
      simp only at p0 p1 q0 q1 HS
      have rp0 := cell_regrown p0
      have rp1 := cell_regrown p1
      have rp2 := cell_regrown p2
      have rq0 := cell_regrown q0
      have rq1 := cell_regrown q1
      have rq2 := cell_regrown q2
      clear ha hx ht1 ht2 hxn hyn hbw p0 p1 p2 q0 q1 q2
      go_wp2_with fail
      refine wp_region_quiet_below (by kernel_rfl) (by kernel_rfl) ?_
      repeat (go_big_quiet_step (exact HS.out _ _))
      refine wpQuiet_nil ?_
      intro _ hw'
      obtain ⟨⟨dq, osq⟩, hw''⟩ := hw'
      subst hw''
      simp only
      have HBQ := Lib.hid (below_two' HB.out (below_regrown wr dq osq))
      clear rp0 rp1 rp2 rq0 rq1 rq2
      go_wp2_with fail
      go_roundw
      case rel => exact ⟨k + 1, by omega, by go_num, HBQ.out⟩
      case measure => simp [intOf]; omega
    · have hkI : ¬ (k : Int) < m := by omega
      clear hbw
      go_wp2_with fail
      go_ret
      exact ⟨rfl, HB.out⟩
end Go.Proofs.YtcfcpbkeedfbpaaGreatDoor

namespace Go.Proofs.YtcfcpbkeedfbpaaGreatDoor
open Go.RowKit CurSpec
set_option maxRecDepth 100000

theorem info_tk : (Tryz.prog.info? 40).map (fun i => (i.zero, i.size, i.bytes)) = some (some (.agg #[.int .i64 0, .string ByteArray.empty, .int .i64 0, .int .i64 0]), 4, 40) := by kernel_rfl
/-- The last token's place. -/
def lastP (L : List Tk) : Int × Int := match L.getLast? with | none => (0, 0) | some t => (t.l, t.c)
theorem full_snoc : ∀ (L : List Tk) (a b : Int), full L a b = L ++ [⟨0, ⟨#[]⟩, (match L.getLast? with | none => (a, b) | some t => (t.l, t.c)).1, (match L.getLast? with | none => (a, b) | some t => (t.l, t.c)).2⟩]
  | [], a, b => rfl
  | t :: r, a, b => by
    rw [full, full_snoc r t.l t.c]
    cases r with
    | nil => rfl
    | cons u q =>
      rw [List.getLast?_cons_cons]
      obtain ⟨x, hx⟩ : ∃ x, (u :: q).getLast? = some x := ⟨_, List.getLast?_eq_some_getLast (by simp)⟩
      rw [hx]
      rfl
theorem full_zero (L : List Tk) : full L 0 0 = L ++ [⟨0, ⟨#[]⟩, (lastP L).1, (lastP L).2⟩] := full_snoc L 0 0

def NewPost (W : World) (l : List Tk) (e : Ending) (w' : World) : Prop :=
  ∃ B, e = .returned (.pointer (some ⟨B, 0, none⟩)) ∧ W.heap.size ≤ B ∧ CurAt w' B ⟨l, 0, 0, 0, 0, 0⟩ ∧ Below W.heap.size W w'

theorem last_cells {w : World} {b off m : Nat} {l : List Tk} (hl : m + 1 = l.length) (hcell : ∀ j u, (tksV l)[j]? = some u → w.cell? ⟨b, off + j, none⟩ = some u) :
    w.cell? ⟨b, off + m * 4 + 2, none⟩ = some (.int .i64 (lastP l).1) ∧ w.cell? ⟨b, off + m * 4 + 3, none⟩ = some (.int .i64 (lastP l).2) := by
  obtain ⟨t, ht⟩ : ∃ t, l[m]? = some t := get_some (by omega)
  have hlast : l.getLast? = some t := by rw [List.getLast?_eq_getElem?, ← hl]; exact ht
  obtain ⟨_, _, g2, g3⟩ := tksV_get ht
  unfold lastP
  rw [hlast]
  exact ⟨hcell _ _ g2, hcell _ _ g3⟩
theorem lastP_nil {l : List Tk} (h : l.length = 0) : lastP l = (0, 0) := by rw [List.eq_nil_of_length_eq_zero h]; rfl

/-- Behind the second append. -/
theorem new_fin {W w2 : World} {l : List Tk} {n g cap : Nat} {p1 p2 : Int} (hn : n = l.length) (hp : lastP l = (p1, p2)) (hb : Below W.heap.size W w2) (hg : g < w2.heap.size)
    (hown : w2.ownsRow (W.heap.size + 1) 40 4 (.slice (some ⟨g, 0, none⟩) (n + 1) cap) (n + 1) (tksV l ++ [.int .i64 0, .string ⟨#[]⟩, .int .i64 p1, .int .i64 p2])) :
    NewPost W l (.returned (.pointer (some ⟨w2.heap.size, 0, none⟩))) (w2.alloc (.cells #[.slice (some ⟨g, 0, none⟩) (n + 1) cap, .int .i64 0, .int .i64 0, .int .i64 0] 78)) := by
  refine ⟨_, rfl, hb.size, ⟨g, 0, n, cap, heap_alloc_new _ _, by omega, hn, Toks.alloc ⟨n + 1, by rw [full_length, hn], ?_⟩ _⟩, hb.alloc hb.size _⟩
  have e : tksV (full l 0 0) = tksV l ++ [.int .i64 0, .string ⟨#[]⟩, .int .i64 p1, .int .i64 p2] := by
    rw [full_zero, hp]
    simp [tksV, tkV]
  show Rdk 4 w2 _ (n + 1) (tksV (full l 0 0))
  rw [e]
  exact Rdk.own hown

theorem made_at {W : World} {base cap H : Nat} {cur : Array Value} (hH : W.heap.size = H) (hb : base ≤ W.heap.size) (hm : cap ≤ maxLen) (hs : cur.size = cap * 4) :
    (W.alloc (.cells cur 40)).ownsRow base 40 4 (.slice (some ⟨H, 0, none⟩) 0 cap) 0 [] := by
  subst hH
  exact World.ownsRow_made W cur cap hb hm hs
/-- Behind the first append: the end's token, the row. -/
structure NewMid (W : World) (l : List Tk) (n : Nat) (p1 p2 : Int) (v : Value) (w1 : World) : Prop where
  tok : w1.heap[W.heap.size]? = some (.cells #[.int .i64 0, .string ⟨#[]⟩, .int .i64 p1, .int .i64 p2] 40 (0, 0))
  own : w1.ownsRow (W.heap.size + 1) 40 4 v n (tksV l)
  below : Below W.heap.size W w1
theorem new_mid {W w1 : World} {l : List Tk} {n cap : Nat} {p1 p2 : Int} {v : Value} {mk : Array Value}
    (hown : w1.ownsRow (W.heap.size + 1) 40 4 v n (tksV l))
    (hg : ((W.alloc (.cells #[.int .i64 0, .string ⟨#[]⟩, .int .i64 p1, .int .i64 p2] 40)).alloc (.cells mk 40)).grownBy w1 (Value.ownBlock (.slice (some ⟨W.heap.size + 1, 0, none⟩) 0 cap))) :
    NewMid W l n p1 p2 v w1 := by
  have hz := hg.size
  simp only [World.size_alloc] at hz
  refine ⟨?_, hown, ⟨hg.os, hg.tape, hg.output, by omega, fun i hi => ?_⟩⟩
  · exact (hg.block _ (by simp; omega) (by simp [Value.ownBlock])).trans ((heap_alloc_old _ _ (by simp)).trans (heap_alloc_new _ _))
  · exact (hg.block i (by simp; omega) (by simp [Value.ownBlock]; omega)).trans ((heap_alloc_old _ _ (by simp; omega)).trans (heap_alloc_old _ _ hi))

theorem new_below {W w1 w2 : World} {l : List Tk} {n : Nat} {p1 p2 : Int} {v : Value} {o : Obj} (h : NewMid W l n p1 p2 v w1) (hg : (w1.alloc o).grownBy w2 v.ownBlock) : Below W.heap.size W w2 := by
  have hb := own_block_bd h.own
  have hz := hg.size
  have hz1 := h.below.size
  simp only [World.size_alloc] at hz
  refine h.below.trans ⟨hg.os, hg.tape, hg.output, by omega, fun i hi => ?_⟩
  exact (hg.block i (by simp; omega) (fun e => by have := (hb i e.symm).1; omega)).trans (heap_alloc_old _ _ (by omega))

set_option maxHeartbeats 2000000 in
theorem new_any (A : Option Addr) (n cp : Nat) (l : List Tk) (w : World) (h : Toks w (.slice A n cp) l) (hl : n ≤ 1000000) : Calls Tryz.prog 13 #[.slice A n cp] w (NewPost w l) := by
  obtain ⟨i0, hi, hz0, hz1, hz2⟩ := info_parts info_tk
  obtain ⟨n', hn', hR⟩ := h
  obtain rfl : n = n' := by obtain ⟨A', c', heq, _⟩ := hR; cases heq; rfl
  have hmk : ∀ W, (Instr.makeSlice 30 (.int .i64 0) (.int .i64 ((n : Int) + 1))).run Tryz.prog W = .ok (.slice (some ⟨W.heap.size, 0, none⟩) 0 (n + 1)) (W.alloc (.cells (madeCells (Value.agg #[.int .i64 0, .string ByteArray.empty, .int .i64 0, .int .i64 0]).cells ((n + 1) * 4)) 40)) := fun W => by
    have h := run_make (P := Tryz.prog) W 30 40 i0 _ Tryz.underlying30 hi hz0 .i64 .i64 0 ((n : Int) + 1) (by omega) (by omega) (by rw [hz2]; omega) (by omega)
    rw [hz1] at h
    exact h
  have hms := size_madeCells (Value.agg #[.int .i64 0, .string ByteArray.empty, .int .i64 0, .int .i64 0]).cells ((n + 1) * 4)
  generalize madeCells (Value.agg #[.int .i64 0, .string ByteArray.empty, .int .i64 0, .int .i64 0]).cells ((n + 1) * 4) = mk at hmk hms
  have HM := Lib.hid hms
  have HR := Lib.hid hR
  have HN := Lib.hid hn'
  clear hms hR hn'
  rcases Nat.eq_zero_or_pos n with h0 | h0
  · have hp : lastP l = (0, 0) := lastP_nil (by rw [← HN.out]; exact h0)
    have HP := Lib.hid hp
    have hn0 : n ≤ 0 := by omega
    have hd : decide (0 < (n : Int)) = false := decide_eq_false (by omega)
    clear hp h0
    go_enter Tryz.func13, Tryz.ntmps13
    go_wp2_with (at_builtin; refine wpList_append_rdk _ rfl (.tmp 21) (.tmp 22) 30 rfl (w.heap.size + 1) 40 i0 _ 4 40 Tryz.underlying30 hi hz0 hz1 hz2 rfl (by decide) _ 0 [] rfl (made_at (by simp) (by simp) (by unfold maxLen; omega) HM.out) _ n (tksV l) rfl ((HR.out.alloc _).alloc _) (tksV_one l) (by unfold maxLen; omega) (by omega) (by simp) ?_)
    intro v1 w1 hown1 hgrow1 _
    have HMid := Lib.hid (new_mid hown1 hgrow1)
    clear hown1 hgrow1 hmk
    obtain ⟨t0, t1, t2, t3⟩ := cells_4 HMid.out.tok
    go_wp2_with (at_builtin; refine wpList_append_lies _ rfl (.tmp 24) (.tmp 26) 30 rfl (w.heap.size + 1) 40 i0 _ 4 40 Tryz.underlying30 hi hz0 hz1 hz2 rfl (by decide) v1 n (tksV l) rfl (HMid.out.own.alloc _) ⟨w1.heap.size, 0, none⟩ 1 1 [.int .i64 0, .string ⟨#[]⟩, .int .i64 0, .int .i64 0] rfl rfl (World.news_of_block (cs := #[.int .i64 0, .string ⟨#[]⟩, .int .i64 0, .int .i64 0]) (heap_alloc_new w1 _)) (by simp [Value.oneCell']) (by decide) (by unfold maxLen; omega) (by omega) (by have := HMid.out.below.size; have := HMid.out.own.2; have := (Array.getElem?_eq_some_iff.1 HMid.out.tok).1; simp; omega) (w1.heap.size + 1) (by simp) ?_)
    intro g cap w2 hown2 hgrow2 _ hlt2
    have HE := Lib.hid (new_fin HN.out HP.out (new_below HMid.out hgrow2) hlt2 hown2)
    clear hown2 hgrow2 t0 t1 t2 t3
    go_wp2_with fail
    go_ret
    exact HE.out
  · obtain ⟨m, rfl⟩ : ∃ m, n = m + 1 := ⟨n - 1, by omega⟩
    have hR := HR.out
    obtain ⟨A', c', heq, _, _, hA⟩ := hR
    cases heq
    obtain ⟨b, off, rfl, hlt, hcell⟩ := hA (by omega)
    obtain ⟨c2, c3⟩ := last_cells HN.out hcell
    obtain ⟨p1, p2, hp⟩ : ∃ p1 p2, lastP l = (p1, p2) := ⟨_, _, rfl⟩
    rw [hp] at c2 c3
    simp only at c2 c3
    have HP := Lib.hid hp
    rw [show ((m + 1 : Nat) : Int) = (m : Int) + 1 by omega] at hmk
    clear hp hcell hA h0
    go_enter Tryz.func13, Tryz.ntmps13
    go_wp2_with (at_builtin; refine wpList_append_rdk _ rfl (.tmp 21) (.tmp 22) 30 rfl (w.heap.size + 1) 40 i0 _ 4 40 Tryz.underlying30 hi hz0 hz1 hz2 rfl (by decide) _ 0 [] rfl (made_at (by simp) (by simp) (by unfold maxLen; omega) HM.out) _ (m + 1) (tksV l) rfl ((HR.out.alloc _).alloc _) (tksV_one l) (by unfold maxLen; omega) (by omega) (by simp) ?_)
    intro v1 w1 hown1 hgrow1 _
    have HMid := Lib.hid (new_mid hown1 hgrow1)
    clear hown1 hgrow1 hmk c2 c3
    obtain ⟨t0, t1, t2, t3⟩ := cells_4 HMid.out.tok
    go_wp2_with (at_builtin; refine wpList_append_lies _ rfl (.tmp 24) (.tmp 26) 30 rfl (w.heap.size + 1) 40 i0 _ 4 40 Tryz.underlying30 hi hz0 hz1 hz2 rfl (by decide) v1 (m + 1) (tksV l) rfl (HMid.out.own.alloc _) ⟨w1.heap.size, 0, none⟩ 1 1 [.int .i64 0, .string ⟨#[]⟩, .int .i64 p1, .int .i64 p2] rfl rfl (World.news_of_block (cs := #[.int .i64 0, .string ⟨#[]⟩, .int .i64 p1, .int .i64 p2]) (heap_alloc_new w1 _)) (by simp [Value.oneCell']) (by decide) (by unfold maxLen; omega) (by omega) (by have := HMid.out.below.size; have := HMid.out.own.2; have := (Array.getElem?_eq_some_iff.1 HMid.out.tok).1; simp; omega) (w1.heap.size + 1) (by simp) ?_)
    intro g cap w2 hown2 hgrow2 _ hlt2
    have HE := Lib.hid (new_fin HN.out HP.out (new_below HMid.out hgrow2) hlt2 hown2)
    clear hown2 hgrow2 t0 t1 t2 t3
    go_wp2_with fail
    go_ret
    exact HE.out
end Go.Proofs.YtcfcpbkeedfbpaaGreatDoor

namespace Go.Proofs.YtcfcpbkeedfbpaaGreatDoor
open Go.RowKit Go.Sort CurSpec TermSpec EvalSpec ActSpec NamesSpec ExprSpec
set_option maxRecDepth 100000

theorem Toks.text8 {w : World} {A : Option Addr} {n c : Nat} {l : List Tk} {i : Nat} {t : Tk} (h : Toks w (.slice A n c) l) (hi : l[i]? = some t) :
    ∃ b off, A = some ⟨b, off, none⟩ ∧ b < w.heap.size ∧ w.cell? ⟨b, off + i * 4 + 1, none⟩ = some (.string t.t) := by
  obtain ⟨m, hm, A', c', heq, hc, hl, hA⟩ := h
  cases heq
  have := get_lt hi
  obtain ⟨b, off, rfl, hb, hcell⟩ := hA (by omega)
  exact ⟨b, off, rfl, hb, by rw [Nat.add_assoc]; exact hcell _ _ (flat_get (j := 1) tkV_length hi (by omega))⟩
abbrev cur8 (L : List Tk) : Cur := ⟨L, 0, 0, 0, 0, 0⟩
def RdsRel8 (W : World) (n : Nat) (v : Value) (w : World) : Prop := ∃ k : Nat, k ≤ n ∧ v = .int .i64 k ∧ Below W.heap.size W w

set_option maxHeartbeats 8000000 in
theorem walk_ActReads (A : Option Addr) (n cp : Nat) (l : List Tk) (w : World) (hs : SignsIn w) (h : Toks w (.slice A n cp) l) (hl : ∀ t ∈ l, t.t.size ≤ 9223372036854775807) (hn63 : n ≤ 9223372036854775807) :
    Calls Tryz.prog 4 #[.slice A n cp] w fun e w' => e = .returned (.bool true) ∧ Below w.heap.size w w' := by
  have HAw : Hid (∀ W, Below w.heap.size w W → Calls Tryz.prog 7 #[] W (RetB W true)) := Lib.hid (fun W hW => aawake_any W (hs.keep hW))
  have hnl : n = l.length := by obtain ⟨A', n', c', heq, hn'⟩ := h.shape; cases heq; exact hn'
  by_cases h300 : 300 < n
  · have h300' : (300 : Int) < (n : Int) := by omega
    clear h hl hs hnl
    go_enter Tryz.func4, Tryz.ntmps4
    go_wp2_with (go_at_call 7; (with_reducible refine (HAw.out w (Below.refl _ _)).mono ?_))
    rintro e w1 ⟨rfl, hb1⟩
    have HB := Lib.hid hb1
    clear hb1
    go_wp2_with fail
    go_ret
    exact ⟨rfl, HB.out⟩
  · have h300' : ¬ (300 : Int) < (n : Int) := by omega
    have HT := Lib.hid h
    have HN := Lib.hid hnl
    have HS := Lib.hid hs
    have ok : Ok (cur8 l) := fun t ht => hl t ht
    have HOK := Lib.hid ok
    have hn300 : n ≤ 300 := by omega
    clear h hl hs hnl ok h300 hn63
    go_enter Tryz.func4, Tryz.ntmps4
    go_wp2_with fail
    go_loopw [3] (fun v wr => RdsRel8 w n v wr) (fun v _ => n - (intOf v).toNat)
    case atStart => exact ⟨0, Nat.zero_le _, rfl, Below.refl _ _⟩
    case round =>
      obtain ⟨k, hk, rfl, hbw⟩ := hrel
      by_cases hlt : k < n
      · obtain ⟨t, ht⟩ : ∃ t, l[k]? = some t := get_some (by rw [← HN.out]; exact hlt)
        obtain ⟨b, off, rfl, hb, c1⟩ := (HT.out.keep hbw).text8 ht
        obtain ⟨s, hss⟩ : ∃ s, s = t.t := ⟨_, rfl⟩
        rw [← hss] at c1
        have hltI : (k : Int) < (n : Int) := by omega
        have HW := Lib.hid hbw
        clear ht hss hbw
        by_cases h100 : 100 < s.size
        · have g1 : (100 : Int) < (s.size : Int) := by omega
          go_wp2_with (go_at_call 7; (with_reducible refine (HAw.out _ HW.out).mono ?_))
          rintro e w1 ⟨rfl, hb1⟩
          have HB := Lib.hid (below_two' HW.out hb1)
          clear hb1
          go_wp2_with fail
          go_ret
          exact ⟨rfl, HB.out⟩
        · have g1 : ¬ (100 : Int) < (s.size : Int) := by omega
          go_wp2_with fail
          go_roundw
          case rel => exact ⟨k + 1, hlt, by simp, HW.out⟩
          case measure => simp [intOf]; omega
      · have hge : ¬ (k : Int) < (n : Int) := by omega
        have HT1 := Lib.hid (HT.out.keep hbw)
        have HB1 := Lib.hid hbw
        have HNEW := Lib.hid (new_any A n cp l wr HT1.out (by omega))
        clear hbw hlt
        go_wp2_with (go_at_call 13; (with_reducible refine HNEW.out.mono ?_))
        rintro e x2 ⟨B, rfl, hBs, hC2, hb2⟩
        have HB2 := Lib.hid (below_two' HB1.out hb2)
        have HBS := Lib.hid (Nat.le_trans HB1.out.size hBs)
        have HRD := Lib.hid (read_acts B (cur8 l) x2 (HS.out.keep HB2.out) hC2 HOK.out)
        have HRR := Lib.hid (fun W (hW : Below w.heap.size w W) => rread_acts (cur8 l) A n cp W HOK.out (by show l.length ≤ 100000; have := HN.out; omega) (HT.out.keep hW))
        have hfew := readA_few (cur8 l)
        obtain ⟨r, hr⟩ : ∃ r, r = readA (cur8 l) := ⟨_, rfl⟩
        rw [← hr] at HRD HRR hfew
        have HF := Lib.hid hfew
        have HRR' : Hid (∀ W, Below w.heap.size w W → Calls Tryz.prog 18 #[.agg #[.slice A n cp, .int .i64 0, .int .i64 0, .int .i64 0, .int .i64 0, .int .i64 0]] W (RetAR W r)) := Lib.hid HRR.out
        clear hBs hC2 hb2 hr hfew HRR
        go_wp2_with (go_at_call 14; (with_reducible refine HRD.out.mono ?_))
        rintro e x3 ⟨A3, n3, c3, rfl, hC3, hT3, hb3⟩
        have HB3 : Hid (Below w.heap.size w x3) := Lib.hid (below_but HB2.out hb3 HBS.out)
        have H3 := Lib.hid (And.intro hC3 hT3)
        clear hC3 hT3 hb3
        go_wp2_with (go_at_call 18; (with_reducible refine (HRR'.out _ HB3.out).mono ?_))
        rintro e x4 ⟨A4, n4, cp4, Av, nv, cv, rfl, hT4, hM4, hb4⟩
        have HB4 := Lib.hid (below_two' HB3.out hb4)
        have H4 := Lib.hid (And.intro (hT4.keep hb4) hM4)
        have HC4 := Lib.hid (And.intro (H3.out.1.keep hb4) (H3.out.2.keep hb4))
        have HK4 := Lib.hid (heap_alloc_new x4 (arO A4 n4 cp4 r.1))
        have hba : Below x4.heap.size x4 (x4.alloc (arO A4 n4 cp4 r.1)) := (Below.refl _ _).alloc (Nat.le_refl _) _
        have HBA := Lib.hid hba
        have HFA := Lib.hid (fault_any _ _ _ _ (x4.alloc (arO A4 n4 cp4 r.1)) (Fl.of (HC4.out.1.keep hba)))
        clear hT4 hM4 hb4 hba
        go_wp2_with (go_at_call 19; (with_reducible refine HFA.out.mono ?_))
        rintro e x5 ⟨rfl, hb5⟩
        have HX5 := Lib.hid (HBA.out.trans (hb5.mono (by simp)))
        have HK5 := Lib.hid (KitC.block_on HK4.out hb5)
        have HP5 := Lib.hid (heap_alloc_new x5 (.cells #[.int .i64 r.1.a1, .int .i64 r.1.a2] 32))
        have hz5 := hb5.size
        rw [World.size_alloc] at hz5
        clear hb5
        go_wp2_with fail
        have HV : Hid (Below x4.heap.size x4 (x5.alloc (.cells #[.int .i64 r.1.a1, .int .i64 r.1.a2] 32))) := Lib.hid (HX5.out.alloc HX5.out.size _)
        have HKd := Lib.hid ((heap_alloc_old x5 (.cells #[.int .i64 r.1.a1, .int .i64 r.1.a2] 32) (by omega)).trans HK5.out)
        obtain ⟨V, hVe⟩ : ∃ V, V = x5.alloc (.cells #[.int .i64 r.1.a1, .int .i64 r.1.a2] 32) := ⟨_, rfl⟩
        rw [← hVe] at HV HKd HP5 ⊢
        have HBV := Lib.hid (below_two' HB4.out HV.out)
        have HSM := Lib.hid (fun W (hW : Below V.heap.size V W) => rsame_acts A3 Av n3 nv c3 cv r.2 W ((HC4.out.2.keep HV.out).keep hW) ((H4.out.2.keep HV.out).keep hW) (by have := HF.out.1; omega) HF.out.2)
        have HNX := Lib.hid (fun W (hW : Below V.heap.size V W) => next_at B r.1 W ((HC4.out.1.keep HV.out).keep hW))
        have HRN := Lib.hid (fun W (hW : Below V.heap.size V W) => next_say r.1 A4 n4 cp4 W ((H4.out.1.keep HV.out).keep hW))
        have HA2 := Lib.hid (fun W (hW : Below V.heap.size V W) => HAw.out W (below_two' HBV.out hW))
        obtain ⟨tk, htk⟩ : ∃ tk, tk = next r.1 := ⟨_, rfl⟩
        rw [← htk] at HNX HRN
        obtain ⟨d, hd⟩ : ∃ d, d = r.1 := ⟨_, rfl⟩
        rw [← hd] at HRN HKd HP5 ⊢
        obtain ⟨d0, d1, d2, d3, d4, d5⟩ := cells_6 HKd.out
        obtain ⟨p0, p1⟩ := cells_2 HP5.out
        have hzd := (Array.getElem?_eq_some_iff.1 HKd.out).1
        have hzp := (Array.getElem?_eq_some_iff.1 HP5.out).1
        have HX0 := Lib.hid (Below.refl V.heap.size V)
        clear hVe htk hz5 hd
        go_region_held3 (fun w' => w'.cell? ⟨x4.heap.size, 0, none⟩ = some (.slice A4 n4 cp4) ∧ w'.cell? ⟨x4.heap.size, 1, none⟩ = some (.int .i64 d.w1) ∧ w'.cell? ⟨x4.heap.size, 2, none⟩ = some (.int .i64 d.w2) ∧ w'.cell? ⟨x4.heap.size, 3, none⟩ = some (.int .i64 d.a1) ∧ w'.cell? ⟨x4.heap.size, 4, none⟩ = some (.int .i64 d.a2) ∧ w'.cell? ⟨x4.heap.size, 5, none⟩ = some (.int .i64 d.bad) ∧ w'.cell? ⟨x5.heap.size, 0, none⟩ = some (.int .i64 d.a1) ∧ w'.cell? ⟨x5.heap.size, 1, none⟩ = some (.int .i64 d.a2)) (go_keep)
          ((first
            | (go_at_call 15; refine (HSM.out _ HX0.out.drew).mono ?_; rintro e y1 ⟨rfl, hb1'⟩; have hb1 := undrew hb1'; have HX1 := Lib.hid hb1; clear hb1'; obtain ⟨s0, s1, s2, s3, s4, s5⟩ := cells_6 (KitC.block_on HKd.out hb1); obtain ⟨s6, s7⟩ := cells_2 (KitC.block_on HP5.out hb1); clear hb1)
            | (go_at_call 17; refine (HNX.out _ HX1.out).mono ?_; rintro e y2 ⟨rfl, hb2⟩; have HX2 := Lib.hid (below_two' HX1.out hb2); clear hb2; obtain ⟨u0, u1, u2, u3, u4, u5⟩ := cells_6 (KitC.block_on HKd.out HX2.out); obtain ⟨u6, u7⟩ := cells_2 (KitC.block_on HP5.out HX2.out))
            | (go_at_call 20; refine (HRN.out _ HX2.out).mono ?_; rintro e y3 ⟨rfl, hb3⟩; have HX3 := Lib.hid (below_two' HX2.out hb3); clear hb3; obtain ⟨v0, v1, v2, v3, v4, v5⟩ := cells_6 (KitC.block_on HKd.out HX3.out); obtain ⟨v6, v7⟩ := cells_2 (KitC.block_on HP5.out HX3.out))
            | (go_at_call 7; refine (HA2.out _ HX3.out).mono ?_; rintro e y4 ⟨rfl, hb4⟩; have HX4 := Lib.hid (below_two' HX3.out hb4); clear hb4; obtain ⟨z0, z1, z2, z3, z4, z5⟩ := cells_6 (KitC.block_on HKd.out HX4.out); obtain ⟨z6, z7⟩ := cells_2 (KitC.block_on HP5.out HX4.out))))
        all_goals
          go_wp2_with fail
          go_ret
          exact ⟨rfl, below_two' HBV.out HX4.out⟩
end Go.Proofs.YtcfcpbkeedfbpaaGreatDoor

namespace Go.Proofs.YtcfcpbkeedfbpaaGreatDoor
namespace ScanSpec

def isLow (c : UInt8) : Bool := decide (97 ≤ (c.toNat : Int)) && decide ((c.toNat : Int) ≤ 122)
def isDig (c : UInt8) : Bool := decide (48 ≤ (c.toNat : Int)) && decide ((c.toNat : Int) ≤ 57)
def isBlank (c : UInt8) : Bool := (c.toNat == 32 || c.toNat == 9) || c.toNat == 10 || c.toNat == 13
/-- What a byte is: 1 a letter, 2 a digit, 3 a low line, 4 a blank, 5 what begins a remark, 0 another one. -/
def clsB (c : UInt8) : Int := if isLow c then 1 else if isDig c then 2 else if c.toNat = 95 then 3 else if isBlank c then 4 else if c.toNat = 35 then 5 else 0
def cls (l : List UInt8) (i : Nat) : Int := match l[i]? with | some c => clsB c | none => 0

/-- How many bytes in a row are such. -/
def run (p : UInt8 → Bool) : List UInt8 → Nat
  | [] => 0
  | c :: t => if p c then run p t + 1 else 0
def isWord (c : UInt8) : Bool := decide (1 ≤ clsB c) && decide (clsB c ≤ 3)
def isNum (c : UInt8) : Bool := decide (clsB c = 2)

def marks : List (List UInt8) := [[45, 62], [58, 61], [60, 61], [62, 61], [33, 61], [61, 61], [46, 46], [123], [125], [91], [93], [40], [41], [44], [59], [61], [60], [62], [43], [45], [42], [47]]
def markLen (d : List UInt8) : Nat := match marks.find? fun m => m.isPrefixOf d with | some m => m.length | none => 0

/-- The token at the head of a text: its kind and length, what is told. -/
def one (d : List UInt8) : Int × Nat × Int :=
  if cls d 0 = 1 then (if 12 < run isWord d then (0, 0, 5) else (1, run isWord d, 0))
  else if cls d 0 = 2 then (if cls d (run isNum d) = 1 ∨ cls d (run isNum d) = 3 then (0, 0, 2) else if 9 < run isNum d then (0, 0, 5) else (2, run isNum d, 0))
  else if markLen d = 0 then (0, 0, 2) else (3, markLen d, 0)

/-- The line and the byte of a place. -/
def posGo : List UInt8 → Int × Int → Int × Int
  | [], p => p
  | c :: t, p => posGo t (if c.toNat = 10 then (p.1 + 1, 1) else (p.1, p.2 + 1))
def pos (l : List UInt8) (i : Nat) : Int × Int := posGo (l.take i) (1, 1)

end ScanSpec
end Go.Proofs.YtcfcpbkeedfbpaaGreatDoor

namespace Go.Proofs.YtcfcpbkeedfbpaaGreatDoor
open Go.RowKit ScanSpec

end Go.Proofs.YtcfcpbkeedfbpaaGreatDoor

namespace Go.Proofs.YtcfcpbkeedfbpaaGreatDoor
open Go.RowKit ScanSpec Go.BigFrame

end Go.Proofs.YtcfcpbkeedfbpaaGreatDoor

namespace Go.Proofs.YtcfcpbkeedfbpaaGreatDoor
open Go.RowKit ScanSpec
set_option maxRecDepth 100000

end Go.Proofs.YtcfcpbkeedfbpaaGreatDoor

namespace Go.Proofs.YtcfcpbkeedfbpaaGreatDoor
open Go.RowKit ScanSpec

end Go.Proofs.YtcfcpbkeedfbpaaGreatDoor

namespace Go.Proofs.YtcfcpbkeedfbpaaGreatDoor
open Go.RowKit ScanSpec
set_option maxRecDepth 100000

end Go.Proofs.YtcfcpbkeedfbpaaGreatDoor

namespace Go.Proofs.YtcfcpbkeedfbpaaGreatDoor
open Go.RowKit ScanSpec
set_option maxRecDepth 100000

/-- The table of marks of two bytes holds what it was laid with. -/
def pairsV : Array Value := #[.string ⟨#[45, 62]⟩, .string ⟨#[58, 61]⟩, .string ⟨#[60, 61]⟩, .string ⟨#[62, 61]⟩, .string ⟨#[33, 61]⟩, .string ⟨#[61, 61]⟩, .string ⟨#[46, 46]⟩]
def PairsIn (w : World) : Prop := ∃ T fr, w.heap[0]? = some (.cells pairsV T fr)
theorem PairsIn.pos {w : World} (h : PairsIn w) : 0 < w.heap.size := by
  obtain ⟨T, fr, h⟩ := h
  exact (Array.getElem?_eq_some_iff.1 h).1
theorem PairsIn.keep {w w' : World} (h : PairsIn w) (hb : Below w.heap.size w w') : PairsIn w' := by
  have hp := h.pos
  obtain ⟨T, fr, h⟩ := h
  exact ⟨T, fr, (hb.block _ hp).trans h⟩
theorem PairsIn.alloc {w : World} (h : PairsIn w) (o : Obj) : PairsIn (w.alloc o) := h.keep ((Below.refl _ _).alloc (Nat.le_refl _) _)
theorem PairsIn.cell {w : World} (h : PairsIn w) {i : Nat} {v : Value} (hi : pairsV[i]? = some v) : w.cell? ⟨0, i, none⟩ = some v := by
  obtain ⟨T, fr, h⟩ := h
  simp [World.cell?, h, hi]

end Go.Proofs.YtcfcpbkeedfbpaaGreatDoor

namespace Go.Proofs.YtcfcpbkeedfbpaaGreatDoor
open Go.RowKit

end Go.Proofs.YtcfcpbkeedfbpaaGreatDoor

namespace Go.Proofs.YtcfcpbkeedfbpaaGreatDoor
open Go.RowKit ScanSpec
set_option maxRecDepth 100000

end Go.Proofs.YtcfcpbkeedfbpaaGreatDoor

namespace Go.Proofs.YtcfcpbkeedfbpaaGreatDoor
open Go.RowKit ExprSpec
set_option maxRecDepth 100000

theorem list5 {α : Type} {l : List α} (h : l.length = 5) : ∃ a b c d e, l = [a, b, c, d, e] := by
  match l, h with
  | [a, b, c, d, e], _ => exact ⟨a, b, c, d, e, rfl⟩
def sgD {H : Type} (s : Sg) : DataW H := .agg [.lit (.string s.t.data.toList), .lit (.int .i64 s.op), .lit (.int .i64 s.lev), .lit (.int .i64 s.left), .lit (.int .i64 s.right)]
theorem sg_cells : Tryz.prog.cellsOf 163 = 5 := by kernel_rfl
theorem sg_table : Tryz.prog.cellsOf 197 = 55 := by kernel_rfl
theorem sg_str : Tryz.prog.cellsOf 9 = 1 := by kernel_rfl
theorem sg_int : Tryz.prog.cellsOf 3 = 1 := by kernel_rfl
theorem sign_part {H : Type} {enc : TypeId × Value → H} {w : World} {base : Nat} {sp : Nat → Bool} {held : Bool} {fuel : Nat} {cs : List Value} {s : Sg} {p : List MemPlace}
    (h : DataW.trod enc Tryz.prog w base sp held fuel 163 cs = some (sgD s, p)) : cs = sgC s := by
  obtain ⟨xs, n, _, hx, hl, hlen, hf⟩ := DataW.trod_struct Tryz.underlying163 h
  obtain ⟨a, b, c, d, e, rfl⟩ := list5 (hl.trans sg_cells)
  obtain ⟨y0, y1, y2, y3, y4, rfl⟩ := list5 hlen
  have g0 : DataW.trod enc Tryz.prog w base sp held n 9 (([a, b, c, d, e].drop 0).take (Tryz.prog.cellsOf 9)) = some y0 := hf 0 _ rfl
  rw [sg_str] at g0
  have g1 : DataW.trod enc Tryz.prog w base sp held n 3 (([a, b, c, d, e].drop 1).take (Tryz.prog.cellsOf 3)) = some y1 := hf 1 _ rfl
  rw [sg_int] at g1
  have g2 : DataW.trod enc Tryz.prog w base sp held n 3 (([a, b, c, d, e].drop 2).take (Tryz.prog.cellsOf 3)) = some y2 := hf 2 _ rfl
  rw [sg_int] at g2
  have g3 : DataW.trod enc Tryz.prog w base sp held n 3 (([a, b, c, d, e].drop 3).take (Tryz.prog.cellsOf 3)) = some y3 := hf 3 _ rfl
  rw [sg_int] at g3
  have g4 : DataW.trod enc Tryz.prog w base sp held n 3 (([a, b, c, d, e].drop 4).take (Tryz.prog.cellsOf 3)) = some y4 := hf 4 _ rfl
  rw [sg_int] at g4
  obtain ⟨s0, c0, rfl, -⟩ := DataW.trod_string Tryz.underlying9 g0
  obtain ⟨n1, c1, rfl, -⟩ := DataW.trod_int Tryz.underlying3 g1
  obtain ⟨n2, c2, rfl, -⟩ := DataW.trod_int Tryz.underlying3 g2
  obtain ⟨n3, c3, rfl, -⟩ := DataW.trod_int Tryz.underlying3 g3
  obtain ⟨n4, c4, rfl, -⟩ := DataW.trod_int Tryz.underlying3 g4
  simp at c0 c1 c2 c3 c4
  subst c0 c1 c2 c3 c4
  simp only [sgD, List.map_cons, List.map_nil, Prod.mk.injEq, DataW.agg.injEq, List.cons.injEq, DataW.lit.injEq, Lit.string.injEq, Lit.int.injEq, true_and, and_true] at hx
  obtain ⟨⟨h0, h1, h2, h3, h4⟩, -⟩ := hx
  have h0' : s.t = s0 := ByteArray.ext (Array.toList_inj.mp h0)
  subst h0' h1 h2 h3 h4
  rfl
theorem flat_parts {α β : Type} {g : α → List β} {k : Nat} (hg : ∀ a, (g a).length = k) : ∀ (L : List α) (cs : List β), cs.length = L.length * k → (∀ i a, L[i]? = some a → (cs.drop (i * k)).take k = g a) → cs = L.flatMap g
  | [], cs, hl, _ => by simpa using hl
  | a :: L, cs, hl, h => by
    have h0 := h 0 a rfl
    rw [Nat.zero_mul, List.drop_zero] at h0
    rw [List.length_cons, Nat.succ_mul] at hl
    have ih := flat_parts hg L (cs.drop k) (by rw [List.length_drop]; omega) (fun i b hb => by
      rw [List.drop_drop, show k + i * k = (i + 1) * k by rw [Nat.succ_mul]; omega]
      exact h (i + 1) b hb)
    rw [List.flatMap_cons, ← ih, ← h0, List.take_append_drop]
theorem gSigns : Tryz.prog.globalNamed "semblance/expr.signs" = some 1 := by kernel_rfl
theorem tSigns : (Tryz.prog.globals[1]?).map (·.type) = some 197 := by kernel_rfl
theorem laid_signs {H : Type} : (Rows.laid_semblance_expr_signs : DataW H) = .agg (sgs.map sgD) := rfl
theorem signs_one {W : World} {rest : List (String × DataW Unit)} (h : laidMet Tryz.prog (("semblance/expr.signs", Rows.laid_semblance_expr_signs) :: rest) W) : SignsIn W := by
  obtain ⟨ps, ⟨g', t', cs, fuel, p, q, hg', ht', hvar, hd, _, _⟩, _⟩ := h
  obtain rfl := Option.some.inj (gSigns.symm.trans hg')
  obtain rfl := Option.some.inj (tSigns.symm.trans ht')
  rw [laid_signs] at hd
  obtain ⟨xs, m, _, hx, hl, hxl, hel⟩ := DataW.trod_array Tryz.underlying197 hd
  simp only [Prod.mk.injEq, DataW.agg.injEq] at hx
  have hxs := hx.1
  rw [sg_table] at hl
  have hc : cs.toList = sgs.flatMap sgC := by
    refine flat_parts (k := 5) (fun s => rfl) sgs _ (by rw [hl]; rfl) (fun i s hs => ?_)
    have hi : i < 11 := by have := get_lt hs; rwa [sgs_len] at this
    obtain ⟨y, hy⟩ : ∃ y, xs[i]? = some y := get_some (by omega)
    have hf := (hel i hi).trans hy
    rw [sg_cells] at hf
    have h2 : (xs.map (·.1))[i]? = some y.1 := by simp [hy]
    rw [← hxs, List.getElem?_map, hs] at h2
    have h3 : sgD s = y.1 := Option.some.inj h2
    obtain ⟨y1, y2⟩ := y
    subst h3
    exact sign_part hf
  have e : cs = signsV := Array.toList_inj.mp hc
  subst e
  unfold World.var? at hvar
  rw [gSigns] at hvar
  simp only [Option.bind_some] at hvar
  split at hvar
  · rename_i cs' T fr hb
    cases hvar
    exact ⟨T, fr, hb⟩
  · cases hvar
end Go.Proofs.YtcfcpbkeedfbpaaGreatDoor

namespace Go.Proofs.YtcfcpbkeedfbpaaGreatDoor
open Go.RowKit Go.ChangeShapes Go.WideShapes Go.Deep

theorem cell_there' {w : World} {b o : Nat} {u : Value} (h : w.cell? ⟨b, o, none⟩ = some u) : b < w.heap.size := by
  rcases Nat.lt_or_ge b w.heap.size with hlt | hge
  · exact hlt
  · simp [World.cell?, Array.getElem?_eq_none hge] at h
theorem list_of {α : Type} {R : Nat → α → Prop} : ∀ n, (∀ i, i < n → ∃ a, R i a) → ∃ l : List α, l.length = n ∧ ∀ i a, l[i]? = some a → R i a
  | 0, _ => ⟨[], rfl, fun i a h => by simp at h⟩
  | n + 1, h => by
    obtain ⟨l, hl, hR⟩ := list_of n (fun i hi => h i (by omega))
    obtain ⟨a, ha⟩ := h n (by omega)
    refine ⟨l ++ [a], by simp [hl], fun i b hb => ?_⟩
    rcases Nat.lt_or_ge i l.length with hlt | hge
    · rw [List.getElem?_append_left hlt] at hb
      exact hR i b hb
    · rw [List.getElem?_append_right hge] at hb
      obtain hi : i - l.length = 0 := by
        have := (List.getElem?_eq_some_iff.1 hb).1
        simp at this
        omega
      rw [hi] at hb
      simp at hb
      subst hb
      obtain rfl : i = n := by omega
      exact ha
theorem flat_at {α : Type} {k : Nat} {f : α → List Value} (hf : ∀ a, (f a).length = k) (hk : 0 < k) {l : List α} {q : Nat} {u : Value} (h : (l.flatMap f)[q]? = some u) : ∃ a, l[q / k]? = some a ∧ (f a)[q % k]? = some u := by
  have hq : q < l.length * k := by have := (List.getElem?_eq_some_iff.1 h).1; rwa [flat_length hf] at this
  have hi : q / k < l.length := Nat.div_lt_of_lt_mul (by rwa [Nat.mul_comm] at hq)
  refine ⟨l[q / k], List.getElem?_eq_getElem hi, ?_⟩
  rw [← flat_get hf (List.getElem?_eq_getElem hi) (Nat.mod_lt q hk), Nat.mul_comm (q / k) k, Nat.div_add_mod]
  exact h

theorem open_rows {α : Type} {f : α → List Value} {Good : α → Prop} {k : Nat} {H : Type} {enc : TypeId × Value → H} {P : Program} {W : World} {base b0 : Nat} {spare : Nat → Bool} {held : Bool} {r : Reach} {t e : TypeId} {v : Value} {d : DataW H} {p : List MemPlace}
    (hf : ∀ a, (f a).length = k) (hk0 : 0 < k) (hk : P.cellsOf e = k) (hu : P.underlying t = some (.slice e))
    (hdec : ∀ n cs x, DataW.trod enc P W base spare held n e cs = some x → ∃ a, cs = f a ∧ Good a)
    (hv : Value.okWide P W r b0 t v) (h : DataW.Trod enc P W base spare held t v d p) :
    ∃ (A : Option Addr) (n cp : Nat) (l : List α), v = .slice A n cp ∧ n = l.length ∧ Rdk k W (.slice A n cp) n (l.flatMap f) ∧ (∀ a ∈ l, Good a) ∧ n ≤ 9223372036854775807 := by
  obtain ⟨a0, len, cap, rfl⟩ := okWide_slice hu hv
  obtain ⟨fuel, hx⟩ := h
  rcases open_slice hu hx with ⟨hcs, _⟩ | ⟨a, len', cap', m, n, D, Pl, hcs, hb, hl, hm, hmm, _, hi⟩
  · simp [Value.cells] at hcs
    obtain ⟨rfl, rfl, rfl⟩ := hcs
    exact ⟨none, 0, 0, [], rfl, rfl, Rdk.nil k W, by simp, by omega⟩
  · simp [Value.cells] at hcs
    obtain ⟨rfl, rfl, rfl⟩ := hcs
    rw [hk] at hi
    have hlm : len ≤ m := by rw [hmm]; split <;> omega
    obtain ⟨l, hll, hR⟩ := list_of (R := fun i (x : α) => (∀ j, j < k → W.cell? ((a.add (i * k)).add j) = (f x)[j]?) ∧ Good x) len (fun i hlt => by
      obtain ⟨cs', hc, ht⟩ := hi i (by omega)
      obtain ⟨x, rfl, hg⟩ := hdec _ _ _ ht
      obtain ⟨_, _, hat⟩ := World.cells?_some hc
      exact ⟨x, hat, hg⟩)
    refine ⟨some a, len, cap, l, rfl, hll.symm, ⟨some a, cap, rfl, hl, by rw [flat_length hf, hll], fun h0 => ?_⟩, fun x hx => ?_, by unfold maxLen at hm; omega⟩
    · obtain ⟨x, hx0⟩ : ∃ x, l[0]? = some x := get_some (by omega)
      obtain ⟨u, hu0⟩ : ∃ u, (f x)[0]? = some u := get_some (by rw [hf]; exact hk0)
      obtain ⟨b, off, spot⟩ := a
      have h00 := (hR 0 x hx0).1 0 hk0
      rw [hu0] at h00
      have hspot : spot = none := by simpa [Addr.add] using World.cell?_spot h00
      subst hspot
      rw [addr_add, addr_add] at h00
      refine ⟨b, off, rfl, cell_there' h00, fun q u hq => ?_⟩
      obtain ⟨y, hy, hu⟩ := flat_at hf hk0 hq
      have := (hR _ y hy).1 (q % k) (Nat.mod_lt q hk0)
      rw [addr_add, addr_add, Nat.add_assoc, Nat.mul_comm (q / k) k, Nat.div_add_mod, hu] at this
      exact this
    · obtain ⟨i, hi⟩ := List.mem_iff_getElem?.1 hx
      exact (hR i x hi).2
end Go.Proofs.YtcfcpbkeedfbpaaGreatDoor

namespace Go.Proofs.YtcfcpbkeedfbpaaGreatDoor
open Go.RowKit Go.ChangeShapes Go.WideShapes Go.Deep CurSpec
set_option maxRecDepth 100000

theorem cells_int : Tryz.prog.cellsOf 3 = 1 := by kernel_rfl
theorem cells_str : Tryz.prog.cellsOf 9 = 1 := by kernel_rfl
theorem cells_pos : Tryz.prog.cellsOf 32 = 2 := by kernel_rfl
theorem cells_tok : Tryz.prog.cellsOf 40 = 4 := by kernel_rfl

section
variable {H : Type} {enc : TypeId × Value → H} {W : World} {base : Nat} {spare : Nat → Bool} {held : Bool}
theorem dec_int {n : Nat} {c : Value} {x : Option (DataW H × List MemPlace)} (h : DataW.trod enc Tryz.prog W base spare held n 3 [c] = x) (hx : x.isSome) : ∃ k, c = .int .i64 k := by
  obtain ⟨y, rfl⟩ := Option.isSome_iff_exists.1 hx
  obtain ⟨k, hc, _⟩ := DataW.trod_int Tryz.underlying3 h
  simp at hc
  exact ⟨k, hc⟩
theorem dec_str {n : Nat} {c : Value} {x : Option (DataW H × List MemPlace)} (h : DataW.trod enc Tryz.prog W base spare held n 9 [c] = x) (hx : x.isSome) : ∃ s : ByteArray, c = .string s ∧ s.size ≤ 9223372036854775807 := by
  obtain ⟨y, rfl⟩ := Option.isSome_iff_exists.1 hx
  obtain ⟨s, hc, _, hs⟩ := DataW.trod_string Tryz.underlying9 h
  simp at hc
  exact ⟨s, hc, hs⟩
theorem some_at {α : Type} {l : List α} {i : Nat} (h : i < l.length) : (l[i]?).isSome := by rw [List.getElem?_eq_getElem h]; rfl
theorem dec_pos {n : Nat} {c0 c1 : Value} {x : Option (DataW H × List MemPlace)} (h : DataW.trod enc Tryz.prog W base spare held n 32 [c0, c1] = x) (hx : x.isSome) : ∃ a b, c0 = .int .i64 a ∧ c1 = .int .i64 b := by
  obtain ⟨y, rfl⟩ := Option.isSome_iff_exists.1 hx
  obtain ⟨xs, m, _, _, _, hxl, hg⟩ := DataW.trod_struct Tryz.underlying32 h
  have hxl' : xs.length = 2 := hxl
  have g0 : DataW.trod enc Tryz.prog W base spare held m 3 (([c0, c1].drop 0).take (Tryz.prog.cellsOf 3)) = xs[0]? := hg 0 _ rfl
  have g1 : DataW.trod enc Tryz.prog W base spare held m 3 (([c0, c1].drop 1).take (Tryz.prog.cellsOf 3)) = xs[1]? := hg 1 _ rfl
  rw [cells_int] at g0 g1
  obtain ⟨a, ha⟩ := dec_int g0 (some_at (by omega))
  obtain ⟨b, hb⟩ := dec_int g1 (some_at (by omega))
  exact ⟨a, b, ha, hb⟩
theorem dec_tok (n : Nat) (cs : List Value) (x : DataW H × List MemPlace) (h : DataW.trod enc Tryz.prog W base spare held n 40 cs = some x) : ∃ t : Tk, cs = tkV t ∧ t.t.size ≤ 9223372036854775807 := by
  obtain ⟨xs, m, _, _, hl, hxl, hg⟩ := DataW.trod_struct Tryz.underlying40 h
  rw [cells_tok] at hl
  have hxl' : xs.length = 3 := hxl
  match cs, hl with
  | [c0, c1, c2, c3], _ =>
    have g0 : DataW.trod enc Tryz.prog W base spare held m 3 (([c0, c1, c2, c3].drop 0).take (Tryz.prog.cellsOf 3)) = xs[0]? := hg 0 _ rfl
    have g1 : DataW.trod enc Tryz.prog W base spare held m 9 (([c0, c1, c2, c3].drop 1).take (Tryz.prog.cellsOf 9)) = xs[1]? := hg 1 _ rfl
    have g2 : DataW.trod enc Tryz.prog W base spare held m 32 (([c0, c1, c2, c3].drop 2).take (Tryz.prog.cellsOf 32)) = xs[2]? := hg 2 _ rfl
    rw [cells_int] at g0
    rw [cells_str] at g1
    rw [cells_pos] at g2
    obtain ⟨a, rfl⟩ := dec_int g0 (some_at (by omega))
    obtain ⟨s, rfl, hs⟩ := dec_str g1 (some_at (by omega))
    obtain ⟨p, q, rfl, rfl⟩ := dec_pos g2 (some_at (by omega))
    exact ⟨⟨a, s, p, q⟩, rfl, hs⟩
variable {b0 : Nat} {r : Reach} {v : Value} {d : DataW H} {p : List MemPlace}
theorem open_toks (hv : Value.okWide Tryz.prog W r b0 30 v) (h : DataW.Trod enc Tryz.prog W base spare held 30 v d p) :
    ∃ (A : Option Addr) (n cp : Nat) (l : List Tk), v = .slice A n cp ∧ Toks W (.slice A n cp) l ∧ (∀ t ∈ l, t.t.size ≤ 9223372036854775807) ∧ n ≤ 9223372036854775807 := by
  obtain ⟨A, n, cp, l, hv', hn, hR, hG, hb⟩ := open_rows (f := tkV) (Good := fun t => t.t.size ≤ 9223372036854775807) tkV_length (by decide) cells_tok Tryz.underlying30 dec_tok hv h
  exact ⟨A, n, cp, l, hv', ⟨n, hn, hR⟩, hG, hb⟩
end
end Go.Proofs.YtcfcpbkeedfbpaaGreatDoor
