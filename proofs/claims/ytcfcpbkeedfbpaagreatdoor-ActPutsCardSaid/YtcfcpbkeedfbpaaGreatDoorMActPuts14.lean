/- ActReadOne, ActRead, ExprRefHead, ExprRefRead, ExprRefAtom, ExprRefAtomN, ExprRefStep, ExprRefAll, ActRefRead, ExprSame, ActReadsWalk, ExprRefLevel, joined. -/
import Derived.Test.YtcfcpbkeedfbpaaGreatDoorMActPuts13
import Derived.Test.YtcfcpbkeedfbpaaGreatDoorMActPuts03
import Derived.Test.YtcfcpbkeedfbpaaGreatDoorMActPuts10
import Derived.Laws.Tables
import Derived.Deep.LoopGhost
import Derived.Deep.RegionHeld3
import Derived.Test.YtcfcpbkeedfbpaaGreatDoorMActPuts12
import Derived.Test.YtcfcpbkeedfbpaaGreatDoorMActPuts09
import Derived.Deep.Cut
import Derived.Test.YtcfcpbkeedfbpaaGreatDoorMActPuts02
namespace Go.Proofs.YtcfcpbkeedfbpaaGreatDoor
open Go.RowKit CurSpec TermSpec EvalSpec ActSpec NamesSpec ExprSpec
set_option maxRecDepth 100000

def RetOne (W : World) (B : Nat) (p : Cur × Ac) (e : Ending) (w' : World) : Prop :=
  ∃ A n cp, e = .returned (.agg #[.string p.2.s, .bool p.2.any, .slice A n cp]) ∧ CurAt w' B p.1 ∧ Tms w' (.slice A n cp) p.2.x ∧ (∀ b, (Value.slice A n cp).ownBlock = some b → W.heap.size ≤ b) ∧ W.grownBy w' (some B)
theorem rb_any (s : ByteArray) (w : World) : (Instr.build 66 #[(0, .string s), (1, .bool true)]).run Tryz.prog w = .ok (.agg #[.string s, .bool true, .slice none 0 0]) w := run_build w 66 _ _ (by kernel_rfl)
theorem rb_set (s : ByteArray) (A : Option Addr) (n c : Nat) (w : World) : (Instr.build 66 #[(0, .string s), (2, .slice A n c)]).run Tryz.prog w = .ok (.agg #[.string s, .bool false, .slice A n c]) w := run_build w 66 _ _ (by kernel_rfl)
/-- A result of three cells that has just been written. -/
theorem store_three {w : World} {b : Nat} (h : Blk w b 3) (u0 u1 u2 : Value) :
    (w.setCell ⟨b, 0, none⟩ u0).cell? ⟨b, 0, none⟩ = some u0 ∧ ((w.setCell ⟨b, 0, none⟩ u0).setCell ⟨b, 1, none⟩ u1).cell? ⟨b, 1, none⟩ = some u1 ∧
    (((w.setCell ⟨b, 0, none⟩ u0).setCell ⟨b, 1, none⟩ u1).setCell ⟨b, 2, none⟩ u2).cell? ⟨b, 2, none⟩ = some u2 :=
  ⟨h.read 0 (by omega) _, (h.set _ _).read 1 (by omega) _, ((h.set _ _).set _ _).read 2 (by omega) _⟩
/-- Three stores into a block of the call's own. -/
theorem set_three (w : World) (b : Nat) (u0 u1 u2 : Value) : w.grownBy (((w.setCell ⟨b, 0, none⟩ u0).setCell ⟨b, 1, none⟩ u1).setCell ⟨b, 2, none⟩ u2) (some b) := but_set (but_set (but_set (but_refl _ _) 0 _) 1 _) 2 _
/-- What was made and written lies in a new block: seen from ahead of it, nothing but block B has changed. -/
theorem but_own {w x y : World} {B : Nat} {o : Obj} (h : (w.alloc o).grownBy x (some B)) (hy : x.grownBy y (some w.heap.size)) : w.grownBy y (some B) := by
  have hz := h.size
  rw [World.size_alloc] at hz
  exact ⟨hy.os.trans h.os, hy.tape.trans h.tape, hy.output.trans h.output, Nat.le_trans (by omega) hy.size, fun i hi hn => (hy.block i (by omega) (by simp; omega)).trans ((h.block i (by rw [World.size_alloc]; omega) hn).trans (heap_alloc_old _ _ hi))⟩
theorem CurAt.own {x y : World} {B k : Nat} {c : Cur} (h : CurAt x B c) (hy : x.grownBy y (some k)) (hlt : B < k) : CurAt y B c := h.but hy hlt
theorem grown_block {x y : World} {b B : Nat} {o : Obj} (h : x.heap[b]? = some o) (hb : x.grownBy y (some B)) (hne : b ≠ B) : y.heap[b]? = some o := (hb.block b (Array.getElem?_eq_some_iff.1 h).1 (by simpa using hne)).trans h
theorem signs_but {w w' : World} {B : Nat} {c : Cur} (h : SignsIn w) (hc : CurAt w B c) (hb : w.grownBy w' (some B)) : SignsIn w' := by
  refine h.of (hb.block _ h.pos fun e => ?_)
  obtain ⟨T, fr, h⟩ := h
  obtain ⟨b, off, n, cp, hB, _⟩ := hc
  injection e with e
  rw [← e, h] at hB
  simp only [Option.some.injEq, Obj.cells.injEq] at hB
  exact absurd ((congrArg Array.size hB.1).symm.trans rfl) (show ¬ _ = signsV.size by rw [show signsV.size = 55 by decide]; simp)
set_option maxHeartbeats 4000000 in
theorem readOne_at (B : Nat) (c : Cur) (w : World) (hs : SignsIn w) (h : CurAt w B c) (ok : Ok c) :
    Calls Tryz.prog 33 #[.pointer (some ⟨B, 0, none⟩)] w (RetOne w B (oneR c)) := by
  have hB := h.lt
  have b1 := rb_any
  have b2 := rb_set
  have h1 := h.alloc (.cells #[.string ⟨#[]⟩, .bool false, .slice none 0 0] 66)
  have hk := heap_alloc_new w (.cells #[.string ⟨#[]⟩, .bool false, .slice none 0 0] 66)
  have hs1 := hs.alloc (.cells #[.string ⟨#[]⟩, .bool false, .slice none 0 0] 66)
  obtain ⟨w1, hw1⟩ : ∃ w1, w.alloc (.cells #[.string ⟨#[]⟩, .bool false, .slice none 0 0] 66) = w1 := ⟨_, rfl⟩
  have hsz : w1.heap.size = w.heap.size + 1 := by rw [← hw1, World.size_alloc]
  rw [hw1] at h1 hk hs1
  have HK := Lib.hid hk
  have HS := Lib.hid hs1
  have HT := Lib.hid (take_at B c 1 wAny w1 h1)
  have HCU := Lib.hid h1
  have HW := Lib.hid hw1
  have HSZ := Lib.hid hsz
  obtain ⟨P, hP⟩ : ∃ P, P = oneR c := ⟨_, rfl⟩
  rw [← hP]
  by_cases hb : isB c 1 wAny = true
  · have HP : Hid (P = (nameC (on c), ⟨nameS (on c), true, []⟩)) := Lib.hid (by rw [hP]; unfold oneR; rw [if_pos hb])
    rw [hb, show take c 1 wAny = on c by unfold take; rw [if_pos hb]] at HT
    have HN := Lib.hid (fun W (hW : CurAt W B (on c)) => name_at B (on c) ok.on W hW)
    clear hP hb h hs h1 hk hs1 hw1 hsz ok
    go_enter Tryz.func33, Tryz.ntmps33
    go_wp2_with (rw [HW.out]; go_at_call 34; (with_reducible refine HT.out.mono ?_))
    rintro e x2 ⟨rfl, hc2, hb2⟩
    have HB2 := Lib.hid hb2
    have HC2 := Lib.hid hc2
    clear hb2 hc2
    go_wp2_with (go_at_call 62; (with_reducible refine (HN.out _ HC2.out).mono ?_))
    rintro e x3 ⟨rfl, hc3, hb3⟩
    have HB3 := Lib.hid (but_trans HB2.out hb3)
    have HC3 := Lib.hid hc3
    have hk3 := grown_block HK.out HB3.out (show w.heap.size ≠ B by omega)
    have HK3 := Lib.hid hk3
    obtain ⟨c0, c1, c2⟩ := cells_3 hk3
    obtain ⟨f0, f1, f2⟩ := free_3 hk3
    obtain ⟨s, hs⟩ : ∃ s, s = nameS (on c) := ⟨_, rfl⟩
    rw [← hs] at HP ⊢
    clear hb3 hc3 hk3 hs
    go_wp2_with fail
    obtain ⟨q0, q1, q2⟩ := store_three (blk_of HK3.out (n := 3) rfl) (.string s) (.bool true) (.slice none 0 0)
    refine bodyPost_ret (v := .agg #[.string s, .bool true, .slice none 0 0]) (by simp [results, Tryz.results33, go_sem, q0, q1, q2]) rfl ?_
    have hb3 := HB3.out
    rw [← HW.out] at hb3
    refine ⟨none, 0, 0, by rw [HP.out], ?_, ?_, by simp [Value.ownBlock], but_own hb3 (set_three _ _ _ _ _)⟩
    · rw [HP.out]; exact HC3.out.own (set_three _ _ _ _ _) (by omega)
    · rw [HP.out]; exact ⟨0, rfl, Rdk.nil 3 _⟩
  · have HP : Hid (P = ((rdE (want (nameC c) 3 wSet)).1, ⟨nameS c, false, (rdE (want (nameC c) 3 wSet)).2⟩)) := Lib.hid (by rw [hP]; unfold oneR; rw [if_neg hb])
    have hb' : isB c 1 wAny = false := by simpa using hb
    rw [hb', show take c 1 wAny = c by unfold take; rw [if_neg hb]] at HT
    have HN := Lib.hid (fun W (hW : CurAt W B c) => name_at B c ok W hW)
    have HWA := Lib.hid (fun W (hW : CurAt W B (nameC c)) => want_at B (nameC c) 3 wSet W hW)
    have HRD := Lib.hid (fun W (hs : SignsIn W) (hW : CurAt W B (want (nameC c) 3 wSet)) => read_at B (want (nameC c) 3 wSet) _ W hs hW (ok.nameC.want 3 wSet) (fit_self _))
    clear hP hb hb' h hs h1 hk hs1 hw1 hsz ok
    go_enter Tryz.func33, Tryz.ntmps33
    go_wp2_with (rw [HW.out]; go_at_call 34; (with_reducible refine HT.out.mono ?_))
    rintro e x2 ⟨rfl, hc2, hb2⟩
    have HB2 := Lib.hid hb2
    have HC2 := Lib.hid hc2
    clear hb2 hc2
    go_wp2_with (go_at_call 62; (with_reducible refine (HN.out _ HC2.out).mono ?_))
    rintro e x3 ⟨rfl, hc3, hb3⟩
    have HB3 := Lib.hid (but_trans HB2.out hb3)
    have HC3 := Lib.hid hc3
    clear hb3 hc3
    go_wp2_with (go_at_call 63; (with_reducible refine (HWA.out _ HC3.out).mono ?_))
    rintro e x4 ⟨rfl, hc4, hb4⟩
    have HB4 := Lib.hid (but_trans HB3.out hb4)
    have HC4 := Lib.hid hc4
    clear hb4 hc4
    have HS4 : Hid (SignsIn x4) := Lib.hid (signs_but HS.out HCU.out HB4.out)
    go_wp2_with (go_at_call 64; (with_reducible refine (HRD.out _ HS4.out HC4.out).mono ?_))
    rintro e x5 ⟨A5, n5, c5, rfl, hc5, ht5, hn5, hb5, ho5⟩
    have HB5 := Lib.hid (but_trans HB4.out hb5)
    have HO5 := Lib.hid (fun b hb => Nat.le_trans HB4.out.size (ho5 b hb))
    have HC5 := Lib.hid (And.intro hc5 ht5)
    have hk5 := grown_block HK.out HB5.out (show w.heap.size ≠ B by omega)
    have HK5 := Lib.hid hk5
    obtain ⟨c0, c1, c2⟩ := cells_3 hk5
    obtain ⟨f0, f1, f2⟩ := free_3 hk5
    obtain ⟨s, hs⟩ : ∃ s, s = nameS c := ⟨_, rfl⟩
    rw [← hs] at HP ⊢
    clear hb5 hc5 hk5 hs ho5 ht5 hn5
    go_wp2_with fail
    obtain ⟨q0, q1, q2⟩ := store_three (blk_of HK5.out (n := 3) rfl) (.string s) (.bool false) (.slice A5 n5 c5)
    refine bodyPost_ret (v := .agg #[.string s, .bool false, .slice A5 n5 c5]) (by simp [results, Tryz.results33, go_sem, q0, q1, q2]) rfl ?_
    have hb5 := HB5.out
    rw [← HW.out] at hb5
    refine ⟨A5, n5, c5, by rw [HP.out], ?_, ?_, fun b hb => by have := HO5.out b hb; have := HSZ.out; omega, but_own hb5 (set_three _ _ _ _ _)⟩
    · rw [HP.out]; exact HC5.out.1.own (set_three _ _ _ _ _) (by omega)
    · rw [HP.out]
      refine tms_but HC5.out.2 (set_three _ _ _ _ _) fun hb => ?_
      have := HO5.out _ hb
      have := HSZ.out
      omega
end Go.Proofs.YtcfcpbkeedfbpaaGreatDoor

namespace Go.Proofs.YtcfcpbkeedfbpaaGreatDoor
open Go.RowKit CurSpec TermSpec EvalSpec ActSpec NamesSpec ExprSpec
set_option maxRecDepth 100000

theorem inf_act : (Tryz.prog.info? 66).map (fun i => (i.zero, i.size, i.bytes)) = some (some (.agg #[.string ByteArray.empty, .bool false, .slice none 0 0]), 3, 48) := by kernel_rfl
/-- A list of acts of the call's own, whose expressions lie apart from it and from the cursor. -/
structure RowA (W : World) (B : Nat) (wr : World) (pv : Value) (ps : List AP) : Prop where
  own : wr.ownsRow W.heap.size 66 3 pv ps.length (acsV ps)
  tms : ∀ p ∈ ps, Tms wr (.slice p.xA p.xn p.xc) p.a.x
  apart : ∀ p ∈ ps, 0 < p.xn → ∀ b, (Value.slice p.xA p.xn p.xc).ownBlock = some b → b ≠ B ∧ pv.ownBlock ≠ some b ∧ b < wr.heap.size
  grown : W.grownBy wr (some B)
  lt : B < W.heap.size
theorem tms_lt {w : World} {A : Option Addr} {n c : Nat} {l : List Tm} (h : Tms w (.slice A n c) l) (h0 : 0 < n) {b : Nat} (hb : (Value.slice A n c).ownBlock = some b) : b < w.heap.size := by
  obtain ⟨m, hm, A', c', heq, hc, hl, hA⟩ := h
  cases heq
  obtain ⟨b', off, rfl, hlt, _⟩ := hA h0
  injection hb with hb
  subst hb
  exact hlt
section
variable {W wr w' : World} {B : Nat} {pv : Value} {ps : List AP}
theorem tms_row {A : Option Addr} {n c : Nat} {l : List Tm} {ob : Option Nat} (h : Tms wr (.slice A n c) l) (hb : wr.grownBy w' ob) (hne : 0 < n → ∀ b, (Value.slice A n c).ownBlock = some b → ob ≠ some b) : Tms w' (.slice A n c) l := by
  obtain ⟨m, hm, A', c', heq, hc, hl, hA⟩ := h
  cases heq
  refine ⟨_, hm, A, c, rfl, hc, hl, fun h0 => ?_⟩
  obtain ⟨b, off, rfl, hlt, hcell⟩ := hA h0
  refine ⟨b, off, rfl, Nat.lt_of_lt_of_le hlt hb.size, fun j u hj => ?_⟩
  have := hb.block b hlt (fun e => hne h0 b rfl e.symm)
  rw [← hcell j u hj]
  simp [World.cell?, this]
theorem RowA.but (h : RowA W B wr pv ps) (hb : wr.grownBy w' (some B)) : RowA W B w' pv ps :=
  ⟨own_but h.own hb h.lt, fun p hp => tms_row (h.tms p hp) hb (fun h0 b e he => (h.apart p hp h0 b e).1 (by injection he with he; exact he.symm)), fun p hp h0 b e => ⟨(h.apart p hp h0 b e).1, (h.apart p hp h0 b e).2.1, Nat.lt_of_lt_of_le (h.apart p hp h0 b e).2.2 hb.size⟩, but_trans h.grown hb, h.lt⟩
theorem RowA.keep (h : RowA W B wr pv ps) (hb : Below wr.heap.size wr w') : RowA W B w' pv ps := h.but (but_below hb)
theorem RowA.acs (h : RowA W B wr pv ps) : Acs wr pv (ps.map (·.a)) := ⟨ps, rfl, by rw [List.length_map]; exact Rdk.own h.own, h.tms⟩
/-- One more. -/
theorem RowA.add {p : AP} {pv' : Value} {o : Obj} (h : RowA W B wr pv ps) (ht : Tms wr (.slice p.xA p.xn p.xc) p.a.x)
    (hap : ∀ b, (Value.slice p.xA p.xn p.xc).ownBlock = some b → b ≠ B ∧ pv.ownBlock ≠ some b)
    (hrow : w'.ownsRow W.heap.size 66 3 pv' (ps.length + 1) (acsV ps ++ acsV [p])) (hg : (wr.alloc o).grownBy w' pv.ownBlock) (hob : pv'.ownBlock = pv.ownBlock ∨ pv'.ownBlock = some (wr.alloc o).heap.size) :
    RowA W B w' pv' (ps ++ [p]) := by
  have ha : Below wr.heap.size wr (wr.alloc o) := KitC.below_one wr o
  have hbd := fun j hj => (own_block_bd h.own j hj).1
  have hall : ∀ q ∈ ps ++ [p], Tms wr (.slice q.xA q.xn q.xc) q.a.x ∧ (0 < q.xn → ∀ b, (Value.slice q.xA q.xn q.xc).ownBlock = some b → b ≠ B ∧ pv.ownBlock ≠ some b ∧ b < wr.heap.size) := fun q hq => by
    rcases List.mem_append.1 hq with hq | hq
    · exact ⟨h.tms q hq, h.apart q hq⟩
    · rw [List.mem_singleton] at hq
      subst hq
      exact ⟨ht, fun h0 b hb => ⟨(hap b hb).1, (hap b hb).2, tms_lt ht h0 hb⟩⟩
  refine ⟨by rw [← acsV_append, List.length_append]; exact hrow, fun q hq => tms_row ((hall q hq).1.keep ha) hg fun h0 b hb => ((hall q hq).2 h0 b hb).2.1, fun q hq h0 b hb => ?_, ?_, h.lt⟩
  · obtain ⟨h1, h2, h3⟩ := (hall q hq).2 h0 b hb
    refine ⟨h1, ?_, Nat.lt_of_lt_of_le h3 (Nat.le_trans ha.size hg.size)⟩
    rcases hob with e | e
    · rw [e]; exact h2
    · rw [e, World.size_alloc]; intro e; injection e with e; omega
  · have hgw := h.grown
    refine ⟨hg.os.trans hgw.os, hg.tape.trans hgw.tape, hg.output.trans hgw.output, Nat.le_trans hgw.size (Nat.le_trans ha.size hg.size), fun i hi hn => ?_⟩
    have hi2 : i < wr.heap.size := Nat.lt_of_lt_of_le hi hgw.size
    refine (hg.block i (Nat.lt_of_lt_of_le hi2 ha.size) fun e => ?_).trans ((ha.block i hi2).trans (hgw.block i hi hn))
    have := hbd i e.symm
    omega
/-- The first one: a literal slice of it. -/
theorem RowA.one {p : AP} (hg : W.grownBy wr (some B)) (hB : B < W.heap.size) (ht : Tms wr (.slice p.xA p.xn p.xc) p.a.x) (hap : ∀ b, (Value.slice p.xA p.xn p.xc).ownBlock = some b → b ≠ B) :
    RowA W B (wr.alloc (.cells #[.string p.a.s, .bool p.a.any, .slice p.xA p.xn p.xc] 66)) (.slice (some ⟨wr.heap.size, 0, none⟩) 1 1) [p] := by
  have ha : Below wr.heap.size wr (wr.alloc (.cells #[.string p.a.s, .bool p.a.any, .slice p.xA p.xn p.xc] 66)) := KitC.below_one wr _
  refine ⟨World.ownsRow_lit wr _ 1 hg.size (by decide) rfl, fun q hq => ?_, fun q hq h0 b hb => ?_, but_trans hg (but_below ha), hB⟩
  · rw [List.mem_singleton] at hq
    subst hq
    exact ht.keep ha
  · rw [List.mem_singleton] at hq
    subst hq
    have := tms_lt ht h0 hb
    refine ⟨hap b hb, fun e => ?_, Nat.lt_of_lt_of_le this ha.size⟩
    injection e with e
    simp only at e
    omega
theorem acs_lit {p : AP} {k : Nat} (hk : k = wr.heap.size) : Rdk 3 (wr.alloc (.cells #[.string p.a.s, .bool p.a.any, .slice p.xA p.xn p.xc] 66)) (.slice (some ⟨k, 0, none⟩) 1 1) 1 (acsV [p]) := by
  subst hk
  exact Rdk.own (base := 0) (World.ownsRow_lit wr _ 1 (Nat.zero_le _) (by decide) rfl)
end
/-- The cursor and the table stay where a row of the call's own grows. -/
theorem row_cur {w x y : World} {o : Obj} {B : Nat} {c : Cur} {pv : Value} {n : Nat} {xs : List Value} (hc : CurAt x B c) (hs : SignsIn x) (hrow : (x.alloc o).ownsRow w.heap.size 66 3 pv n xs) (hB : B < w.heap.size) (hg : (x.alloc o).grownBy y pv.ownBlock) : CurAt y B c ∧ SignsIn y := by
  have h1 := hc.alloc o
  have h2 := hs.alloc o
  have hbd := fun j hj => (own_block_bd hrow j hj).1
  refine ⟨?_, h2.of (hg.block _ h2.pos fun e => ?_)⟩
  · obtain ⟨b, off, n, cp, h, hne, hn, hT⟩ := h1
    have hlt := (Array.getElem?_eq_some_iff.1 h).1
    refine ⟨b, off, n, cp, (hg.block _ hlt fun e => by have := hbd B e.symm; omega).trans h, hne, hn, ?_⟩
    obtain ⟨m, hm, A, c', heq, hc', hl, hA⟩ := hT
    cases heq
    refine ⟨_, hm, _, cp, rfl, hc', hl, fun h0 => ?_⟩
    obtain ⟨b', off', h3, hlt', hcell⟩ := hA h0
    cases h3
    refine ⟨b, off, rfl, Nat.lt_of_lt_of_le hlt' hg.size, fun j u hj => ?_⟩
    have := hg.block b hlt' fun e => by have := hbd b e.symm; omega
    rw [← hcell j u hj]
    simp [World.cell?, this]
  · have h3 := hbd _ e.symm
    obtain ⟨T, fr, h⟩ := h2
    rcases hrow.2 with ⟨h4, _⟩ | ⟨g, cap, cur, h4, _, h5, _, _, h6, _⟩
    · rw [h4] at e; cases e
    · rw [h4] at e
      injection e with e
      rw [← show 1 = g from e, h] at h5
      simp only [Option.some.injEq, Obj.cells.injEq] at h5
      have h7 := congrArg Array.size h5.1
      rw [show signsV.size = 55 by decide, h6] at h7
      omega
/-- What the program's Read gives. -/
def RetActs (W : World) (B : Nat) (p : Cur × List Ac) (e : Ending) (w' : World) : Prop := ∃ A n cp, e = .returned (.slice A n cp) ∧ CurAt w' B p.1 ∧ Acs w' (.slice A n cp) p.2 ∧ W.grownBy w' (some B)
/-- What its loop keeps. -/
def ReadRel (W : World) (B : Nat) (F : Cur × List Ac) (gh : Nat) (pv : Value) (wr : World) : Prop :=
  ∃ (c : Cur) (ps : List AP), c.L.length ≤ gh ∧ Ok c ∧ CurAt wr B c ∧ SignsIn wr ∧ RowA W B wr pv ps ∧ Few9 c (ps.map (·.a)) ∧ tailR c (ps.map (·.a)) = F
set_option maxHeartbeats 8000000 in
theorem read_acts (B : Nat) (c : Cur) (w : World) (hs : SignsIn w) (h : CurAt w B c) (ok : Ok c) :
    Calls Tryz.prog 14 #[.pointer (some ⟨B, 0, none⟩)] w (RetActs w B (readA c)) := by
  have hB := h.lt
  obtain ⟨i0, hi, hz0, hz1, hz2⟩ := info_parts inf_act
  have HI := Lib.hid (And.intro hi (And.intro hz0 (And.intro hz1 hz2)))
  have H1 := Lib.hid (readOne_at B c w hs h ok)
  have HSW := Lib.hid (And.intro hs h)
  obtain ⟨F, hF⟩ : ∃ F, F = allR c [] := ⟨_, rfl⟩
  have HR : Hid (readA c = if F.1.bad = 0 then F else (F.1, [])) := Lib.hid (by rw [hF]; rfl)
  have HST : Hid (tailR (oneR c).1 [(oneR c).2] = F) := Lib.hid (by rw [hF, allR_step]; rfl)
  have HOK1 := Lib.hid (oneR_ok ok)
  have HBB := Lib.hid hB
  obtain ⟨R, hR⟩ : ∃ R, R = readA c := ⟨_, rfl⟩
  rw [← hR] at HR ⊢
  obtain ⟨⟨c1, a1⟩, h1⟩ : ∃ p, p = oneR c := ⟨_, rfl⟩
  rw [← h1] at H1 HST HOK1
  clear hi hz0 hz1 hz2 hs h ok hF hR h1
  go_enter Tryz.func14, Tryz.ntmps14
  go_wp2_with (go_at_call 33; (with_reducible refine H1.out.mono ?_))
  rintro e w1 ⟨xA, xn, xc, rfl, hc1, ht1, hb1, hg1⟩
  have HST1 : Hid (ReadRel w B F c1.L.length (.slice (some ⟨w1.heap.size, 0, none⟩) 1 1) (w1.alloc (.cells #[.string a1.s, .bool a1.any, .slice xA xn xc] 66))) := Lib.hid
    ⟨c1, [⟨a1, xA, xn, xc⟩], Nat.le_refl _, HOK1.out, hc1.alloc _, (signs_but HSW.out.1 HSW.out.2 hg1).alloc _, RowA.one (p := ⟨a1, xA, xn, xc⟩) hg1 hB ht1 (fun b hb => by have := hb1 b hb; omega), ⟨by simp, fun h => by simp at h⟩, HST.out⟩
  clear hc1 ht1 hb1 hg1
  go_wp2_with fail
  go_loopg [3] (c1.L.length) (fun gh pv wr => ReadRel w B F gh pv wr)
  case atStart => exact HST1.out
  case round =>
    obtain ⟨d, ps, hgh, hok, hcur, hsg, hrow, hfew, htail⟩ := hrel
    have HGH := Lib.hid hgh
    have HOK := Lib.hid hok
    have HSG := Lib.hid hsg
    have HROW := Lib.hid hrow
    have HFEW := Lib.hid hfew
    have HTAIL := Lib.hid htail
    have HTK := Lib.hid (take_at B d 3 wCom wr hcur)
    have HCUR := Lib.hid hcur
    obtain ⟨pA, pc, rfl⟩ := own_shape hrow.own
    obtain ⟨n, hn⟩ : ∃ n, n = ps.length := ⟨_, rfl⟩
    rw [← hn]
    have HN := Lib.hid hn
    by_cases hb : isB d 3 wCom = true
    · have h0 := (isB_real hb (by decide))
      have HF1 := Lib.hid (few9_step hfew hb)
      have h8 : ps.length ≤ 8 := by
        have h1 := hfew.1
        have h2 := hfew.2
        rw [List.length_map] at h1 h2
        rcases Nat.lt_or_ge ps.length 9 with h' | h'
        · omega
        · exact absurd h0.1 (h2 (by omega))
      have HLE := Lib.hid (stepR_le (on d) (ps.map (·.a))).1
      have HLL := Lib.hid h0.2.1
      have HOK2 := Lib.hid (stepR_ok (ps.map (·.a)) hok.on)
      have HT1 := Lib.hid (tailR_yes (out := ps.map (·.a)) hb)
      have HNB := Lib.hid (tailR_yes (out := ps.map (·.a)) hb)
      rw [hb, show take d 3 wCom = on d by unfold take; rw [if_pos hb]] at HTK
      have HD : Hid ((stepR (on d) (ps.map (·.a))) = ((oneR (fullR (on d) (ps.map (·.a)))).1, ps.map (·.a) ++ [(oneR (fullR (on d) (ps.map (·.a)))).2])) := Lib.hid rfl
      have HOKD := Lib.hid (fullR_ok (ps.map (·.a)) hok.on)
      have HFU : Hid (fullR (on d) (ps.map (·.a)) = if n = 8 then fail (on d) 8 else on d) := Lib.hid (by unfold fullR; rw [List.length_map, hn])
      obtain ⟨D, hD⟩ : ∃ D, D = fullR (on d) (ps.map (·.a)) := ⟨_, rfl⟩
      rw [← hD] at HD HOKD HFU
      have HONE := Lib.hid (fun W hs hc => readOne_at B D W hs hc HOKD.out)
      obtain ⟨⟨c2, a2⟩, h2⟩ : ∃ q, q = oneR D := ⟨_, rfl⟩
      rw [← h2] at HD HONE
      rw [HD.out] at HF1 HLE HOK2 HT1
      have HL1 : Hid (n + 1 ≤ maxLen) := Lib.hid (by unfold maxLen; omega)
      have HL2 : Hid ((n + 1) * 48 ≤ 140737488355328) := Lib.hid (by omega)
      clear hgh hok hfew htail hb h0 h2 hD HNB
      by_cases h8e : n = 8
      · have g1 : ((n : Int) == 8) = true := by simp; omega
        have g1' : (n == 8) = true := by simp; omega
        have HFD : Hid (D = fail (on d) 8) := Lib.hid (by rw [HFU.out, if_pos h8e])
        clear h8e h8 hn hrow hcur hsg
        go_wp2_with (go_at_call 34; (with_reducible refine HTK.out.mono ?_))
        rintro e x2 ⟨rfl, hc2, hg2⟩
        have HRW0 := Lib.hid (HROW.out.but hg2)
        have HS2 := Lib.hid (signs_but HSG.out HCUR.out hg2)
        have HFL := Lib.hid (fail_at B (on d) 8 x2 hc2)
        have HC2 := Lib.hid hc2
        clear hc2 hg2
        go_wp2_with (go_at_call 35; (with_reducible refine HFL.out.mono ?_))
        rintro e x3 ⟨rfl, hc3, hg3⟩
        rw [← HFD.out] at hc3
        have HCD := Lib.hid hc3
        have HSD := Lib.hid (signs_but HS2.out HC2.out hg3)
        have HRW := Lib.hid (HRW0.out.but hg3)
        clear hc3 hg3
        go_wp2_with (go_at_call 33; (with_reducible refine (HONE.out _ HSD.out HCD.out).mono ?_))
        rintro e x4 ⟨xA, xn, xc, rfl, hc4, ht4, hb4, hg4⟩
        have hrow4 := HRW.out.but hg4
        have hbd4 := fun j hj => (own_block_bd HRW.out.own j hj).2
        have HADD := Lib.hid (fun (pv' : Value) (w' : World) hrow hg hob => hrow4.add (w' := w') (p := ⟨a2, xA, xn, xc⟩) (pv' := pv') (o := .cells #[.string a2.s, .bool a2.any, .slice xA xn xc] 66) ht4 (fun b hb => ⟨by have := hb4 b hb; have := HRW.out.grown.size; have := HBB.out; omega, fun e => by have := hbd4 b e; have := hb4 b hb; omega⟩) hrow hg hob)
        have HROW4 := Lib.hid (own_keep hrow4.own (KitC.below_one x4 (.cells #[.string a2.s, .bool a2.any, .slice xA xn xc] 66)))
        have HLIT := Lib.hid (acs_lit (wr := x4) (p := ⟨a2, xA, xn, xc⟩) rfl)
        have HSZ4 := Lib.hid hrow4.grown.size
        have HC4 := Lib.hid (And.intro hc4 (signs_but HSD.out HCD.out hg4))
        rw [← HN.out] at HROW4
        clear hc4 ht4 hb4 hg4 hrow4 hbd4
        go_wp2_with (at_builtin; refine wpList_append_rdk _ rfl (.tmp 14) (.tmp 17) _ rfl w.heap.size 66 i0 (.agg #[.string ByteArray.empty, .bool false, .slice none 0 0]) 3 48 Tryz.underlying22 HI.out.1 HI.out.2.1 HI.out.2.2.1 HI.out.2.2.2 rfl (by decide) _ _ _ rfl HROW4.out _ 1 (acsV [⟨a2, xA, xn, xc⟩]) rfl HLIT.out (acsV_one _) HL1.out HL2.out ?_ ?_; (have := HSZ4.out; simp; omega); intro p2 w2 hrow2 hg2 hob2; have HE : Hid (w2.ownsRow w.heap.size 66 3 p2 (n + 1) (acsV ps ++ acsV [⟨a2, xA, xn, xc⟩]) ∧ (x4.alloc (.cells #[.string a2.s, .bool a2.any, .slice xA xn xc] 66)).grownBy w2 (Value.slice pA n pc).ownBlock ∧ (p2.ownBlock = (Value.slice pA n pc).ownBlock ∨ p2.ownBlock = some (x4.alloc (.cells #[.string a2.s, .bool a2.any, .slice xA xn xc] 66)).heap.size)) := Lib.hid ⟨hrow2, hg2, hob2⟩; clear hrow2 hg2 hob2)
        have hrow5 := HE.out
        rw [HN.out] at hrow5
        have HR5 := Lib.hid (HADD.out _ _ hrow5.1 hrow5.2.1 hrow5.2.2)
        have HC5 : Hid (CurAt w2 B c2 ∧ SignsIn w2) := Lib.hid (row_cur HC4.out.1 HC4.out.2 HROW4.out HBB.out HE.out.2.1)
        clear hrow5
        go_roundg (c2.L.length)
        case measure => have h1 := HLE.out; have h2 := HLL.out; have h3 := HGH.out; omega
        case rel => exact ⟨c2, ps ++ [⟨a2, xA, xn, xc⟩], Nat.le_refl _, HOK2.out, HC5.out.1, HC5.out.2, HR5.out, by rw [List.map_append]; exact HF1.out, by rw [← HTAIL.out, HT1.out, List.map_append]; rfl⟩
      · have g1 : ((n : Int) == 8) = false := by simp; omega
        have g1' : (n == 8) = false := by simp; omega
        have HFD : Hid (D = on d) := Lib.hid (by rw [HFU.out, if_neg h8e])
        clear h8e h8 hn hrow hcur hsg
        go_wp2_with (go_at_call 34; (with_reducible refine HTK.out.mono ?_))
        rintro e x3 ⟨rfl, hc3, hg3⟩
        rw [← HFD.out] at hc3
        have HCD := Lib.hid hc3
        have HSD := Lib.hid (signs_but HSG.out HCUR.out hg3)
        have HRW := Lib.hid (HROW.out.but hg3)
        clear hc3 hg3
        go_wp2_with (go_at_call 33; (with_reducible refine (HONE.out _ HSD.out HCD.out).mono ?_))
        rintro e x4 ⟨xA, xn, xc, rfl, hc4, ht4, hb4, hg4⟩
        have hrow4 := HRW.out.but hg4
        have hbd4 := fun j hj => (own_block_bd HRW.out.own j hj).2
        have HADD := Lib.hid (fun (pv' : Value) (w' : World) hrow hg hob => hrow4.add (w' := w') (p := ⟨a2, xA, xn, xc⟩) (pv' := pv') (o := .cells #[.string a2.s, .bool a2.any, .slice xA xn xc] 66) ht4 (fun b hb => ⟨by have := hb4 b hb; have := HRW.out.grown.size; have := HBB.out; omega, fun e => by have := hbd4 b e; have := hb4 b hb; omega⟩) hrow hg hob)
        have HROW4 := Lib.hid (own_keep hrow4.own (KitC.below_one x4 (.cells #[.string a2.s, .bool a2.any, .slice xA xn xc] 66)))
        have HLIT := Lib.hid (acs_lit (wr := x4) (p := ⟨a2, xA, xn, xc⟩) rfl)
        have HSZ4 := Lib.hid hrow4.grown.size
        have HC4 := Lib.hid (And.intro hc4 (signs_but HSD.out HCD.out hg4))
        rw [← HN.out] at HROW4
        clear hc4 ht4 hb4 hg4 hrow4 hbd4
        go_wp2_with (at_builtin; refine wpList_append_rdk _ rfl (.tmp 14) (.tmp 17) _ rfl w.heap.size 66 i0 (.agg #[.string ByteArray.empty, .bool false, .slice none 0 0]) 3 48 Tryz.underlying22 HI.out.1 HI.out.2.1 HI.out.2.2.1 HI.out.2.2.2 rfl (by decide) _ _ _ rfl HROW4.out _ 1 (acsV [⟨a2, xA, xn, xc⟩]) rfl HLIT.out (acsV_one _) HL1.out HL2.out ?_ ?_; (have := HSZ4.out; simp; omega); intro p2 w2 hrow2 hg2 hob2; have HE : Hid (w2.ownsRow w.heap.size 66 3 p2 (n + 1) (acsV ps ++ acsV [⟨a2, xA, xn, xc⟩]) ∧ (x4.alloc (.cells #[.string a2.s, .bool a2.any, .slice xA xn xc] 66)).grownBy w2 (Value.slice pA n pc).ownBlock ∧ (p2.ownBlock = (Value.slice pA n pc).ownBlock ∨ p2.ownBlock = some (x4.alloc (.cells #[.string a2.s, .bool a2.any, .slice xA xn xc] 66)).heap.size)) := Lib.hid ⟨hrow2, hg2, hob2⟩; clear hrow2 hg2 hob2)
        have hrow5 := HE.out
        rw [HN.out] at hrow5
        have HR5 := Lib.hid (HADD.out _ _ hrow5.1 hrow5.2.1 hrow5.2.2)
        have HC5 : Hid (CurAt w2 B c2 ∧ SignsIn w2) := Lib.hid (row_cur HC4.out.1 HC4.out.2 HROW4.out HBB.out HE.out.2.1)
        clear hrow5
        go_roundg (c2.L.length)
        case measure => have h1 := HLE.out; have h2 := HLL.out; have h3 := HGH.out; omega
        case rel => exact ⟨c2, ps ++ [⟨a2, xA, xn, xc⟩], Nat.le_refl _, HOK2.out, HC5.out.1, HC5.out.2, HR5.out, by rw [List.map_append]; exact HF1.out, by rw [← HTAIL.out, HT1.out, List.map_append]; rfl⟩
    · have HT1 : Hid (F = (d, ps.map (·.a))) := Lib.hid (by rw [← htail, tailR_no hb])
      have hb' : isB d 3 wCom = false := by simpa using hb
      rw [hb', show take d 3 wCom = d by unfold take; rw [if_neg hb]] at HTK
      clear hgh hok hfew htail hb hb' hn
      go_wp2_with (go_at_call 34; (with_reducible refine HTK.out.mono ?_))
      rintro e x2 ⟨rfl, hc2, hg2⟩
      have HRW := Lib.hid (HROW.out.but hg2)
      have HC2 := Lib.hid hc2
      have hgood := fun b hb => good_any _ _ _ _ x2 (Fl.of hc2) (b := b) hb
      have HGOOD := Lib.hid hgood
      clear hc2 hg2 hgood hrow hcur hsg
      by_cases hd0 : d.bad = 0
      · have HG := Lib.hid (HGOOD.out true (by simpa using hd0))
        have HR2 : Hid (R = (d, ps.map (·.a))) := Lib.hid (by rw [HR.out, HT1.out, if_pos hd0])
        clear hd0
        go_wp2_with (go_at_call 16; (with_reducible refine HG.out.mono ?_))
        rintro e x3 ⟨rfl, hb3⟩
        have HE := Lib.hid (And.intro (HC2.out.keep hb3) (HRW.out.keep hb3))
        clear hb3
        go_wp2_with fail
        go_ret
        exact ⟨_, _, _, rfl, by rw [HR2.out]; exact HE.out.1, by rw [HR2.out, HN.out]; exact HE.out.2.acs, HE.out.2.grown⟩
      · have HG := Lib.hid (HGOOD.out false (by simpa using hd0))
        have HR2 : Hid (R = (d, [])) := Lib.hid (by rw [HR.out, HT1.out, if_neg hd0])
        clear hd0
        go_wp2_with (go_at_call 16; (with_reducible refine HG.out.mono ?_))
        rintro e x3 ⟨rfl, hb3⟩
        have HE := Lib.hid (And.intro (HC2.out.keep hb3) (HRW.out.keep hb3))
        clear hb3
        go_wp2_with fail
        go_ret
        exact ⟨none, 0, 0, rfl, by rw [HR2.out]; exact HE.out.1, by rw [HR2.out]; exact ⟨[], rfl, Rdk.nil 3 _, by simp⟩, HE.out.2.grown⟩
end Go.Proofs.YtcfcpbkeedfbpaaGreatDoor

namespace Go.Proofs.YtcfcpbkeedfbpaaGreatDoor
open Go.RowKit CurSpec TermSpec ExprSpec NamesSpec
set_option maxRecDepth 100000

/-- In Level1: the cursor's block, the result's. -/
structure LvS (W0 w wN : World) (A : Option Addr) (n cp : Nat) (c : Cur) : Prop where
  toks : Toks W0 (.slice A n cp) c.L
  w0 : Below W0.heap.size W0 wN
  cur : wN.heap[w.heap.size]? = some (rcO A n cp c)
  res : wN.heap[w.heap.size + 1]? = some rcZ
  below : Below w.heap.size w wN
  top : w.heap.size + 2 ≤ wN.heap.size
theorem LvS.on {W0 w wN wN' : World} {A : Option Addr} {n cp : Nat} {c : Cur} (h : LvS W0 w wN A n cp c) (hb : Below wN.heap.size wN wN') : LvS W0 w wN' A n cp c :=
  ⟨h.toks, below_two' h.w0 hb, block_on h.cur hb, block_on h.res hb, below_two' h.below hb, Nat.le_trans h.top hb.size⟩
theorem LvS.alloc {W0 w wN : World} {A : Option Addr} {n cp : Nat} {c : Cur} (h : LvS W0 w wN A n cp c) (o : Obj) : LvS W0 w (wN.alloc o) A n cp c := h.on ((Below.refl _ _).alloc (Nat.le_refl _) _)
theorem LvS.ret {W0 w Y : World} {A : Option Addr} {n cp : Nat} {c : Cur} (h : LvS W0 w Y A n cp c) {d : Cur} {p : Pa} {A' : Option Addr} {n' cp' : Nat} {A2 : Option Addr} {n2 c2 : Nat} {x : List Tm}
    (hT : Toks W0 (.slice A' n' cp') d.L) (hM : Tms Y (.slice A2 n2 c2) x) (ho : ∀ b, (Value.slice A2 n2 c2).ownBlock = some b → w.heap.size + 1 < b) (hp : p.1 = d) (hx : d.bad = 0 → x = p.2) (hl : x.length + 2 * d.L.length ≤ 2 * c.L.length + 1) :
    RetLev W0 w c p (.returned (.tuple #[.agg #[.slice A' n' cp', .int .i64 d.w1, .int .i64 d.w2, .int .i64 d.a1, .int .i64 d.a2, .int .i64 d.bad], .slice A2 n2 c2]))
      ((((((Y.setCell ⟨w.heap.size + 1, 0, none⟩ (.slice A' n' cp')).setCell ⟨w.heap.size + 1, 1, none⟩ (.int .i64 d.w1)).setCell ⟨w.heap.size + 1, 2, none⟩ (.int .i64 d.w2)).setCell ⟨w.heap.size + 1, 3, none⟩ (.int .i64 d.a1)).setCell ⟨w.heap.size + 1, 4, none⟩ (.int .i64 d.a2)).setCell ⟨w.heap.size + 1, 5, none⟩ (.int .i64 d.bad)) :=
  ret_lev (by omega) hT hM ho hp hx hl h.below

end Go.Proofs.YtcfcpbkeedfbpaaGreatDoor

namespace Go.Proofs.YtcfcpbkeedfbpaaGreatDoor
open Go.RowKit CurSpec TermSpec ExprSpec NamesSpec
set_option maxRecDepth 100000

/-- Behind Level1, and behind a fault told: the cursor in its block, the terms. -/
structure RrS (W0 w wr : World) (c : Cur) (A : Option Addr) (n cp : Nat) (d : Cur) (Av : Option Addr) (nv cv : Nat) (x : List Tm) : Prop where
  toks : Toks W0 (.slice A n cp) d.L
  cur : wr.heap[w.heap.size]? = some (rcO A n cp d)
  res : wr.heap[w.heap.size + 1]? = some rcZ
  below : Below w.heap.size w wr
  w0 : Below W0.heap.size W0 w
  top : w.heap.size + 2 ≤ wr.heap.size
  tms : Tms wr (.slice Av nv cv) x
  ot : ∀ b, (Value.slice Av nv cv).ownBlock = some b → w.heap.size + 1 < b
  few : x.length + 2 * d.L.length ≤ 2 * c.L.length + 1
theorem rr_block {w : World} {b : Nat} {T : TypeId} {x0 x1 x2 x3 x4 x5 : Value} (h : w.heap[b]? = some (.cells #[x0, x1, x2, x3, x4, x5] T (0, 0))) (u0 u1 u2 u3 u4 u5 : Value) :
    ((((((w.setCell ⟨b, 0, none⟩ u0).setCell ⟨b, 1, none⟩ u1).setCell ⟨b, 2, none⟩ u2).setCell ⟨b, 3, none⟩ u3).setCell ⟨b, 4, none⟩ u4).setCell ⟨b, 5, none⟩ u5).heap[b]? = some (.cells #[u0, u1, u2, u3, u4, u5] T (0, 0)) :=
  block_setCell' (block_setCell' (block_setCell' (block_setCell' (block_setCell' (block_setCell' h 0 u0) 1 u1) 2 u2) 3 u3) 4 u4) 5 u5
/-- What Read answers: RetLev, and just these terms. -/
def RetRR (W0 W : World) (c : Cur) (p : Pa) (e : Ending) (w' : World) : Prop :=
  ∃ A n cp A2 n2 c2, e = .returned (.tuple #[.agg #[.slice A n cp, .int .i64 p.1.w1, .int .i64 p.1.w2, .int .i64 p.1.a1, .int .i64 p.1.a2, .int .i64 p.1.bad], .slice A2 n2 c2]) ∧ Toks W0 (.slice A n cp) p.1.L ∧
    Tms w' (.slice A2 n2 c2) p.2 ∧ (∀ b, (Value.slice A2 n2 c2).ownBlock = some b → W.heap.size ≤ b) ∧ p.2.length + 2 * p.1.L.length ≤ 2 * c.L.length + 1 ∧ Below W.heap.size W w'
theorem RetRR.lev {W0 W w' : World} {c : Cur} {p : Pa} {e : Ending} (h : RetRR W0 W c p e w') : RetLev W0 W c p e w' := by
  obtain ⟨A, n, cp, A2, n2, c2, h1, h2, h3, h4, h5, h6⟩ := h
  exact ⟨A, n, cp, A2, n2, c2, p.2, h1, h2, h3, h4, fun _ => rfl, h5, h6⟩
theorem ret_rr {W0 W Y : World} {c d : Cur} {p : Pa} {A : Option Addr} {n cp : Nat} {A2 : Option Addr} {n2 c2 k : Nat} {x : List Tm} (hk : W.heap.size ≤ k) (hT : Toks W0 (.slice A n cp) d.L) (hM : Tms Y (.slice A2 n2 c2) x)
    (ho : ∀ b, (Value.slice A2 n2 c2).ownBlock = some b → k < b) (hp : p.1 = d) (hx : x = p.2) (hl : x.length + 2 * d.L.length ≤ 2 * c.L.length + 1) (hB : Below W.heap.size W Y) :
    RetRR W0 W c p (.returned (.tuple #[.agg #[.slice A n cp, .int .i64 d.w1, .int .i64 d.w2, .int .i64 d.a1, .int .i64 d.a2, .int .i64 d.bad], .slice A2 n2 c2]))
      ((((((Y.setCell ⟨k, 0, none⟩ (.slice A n cp)).setCell ⟨k, 1, none⟩ (.int .i64 d.w1)).setCell ⟨k, 2, none⟩ (.int .i64 d.w2)).setCell ⟨k, 3, none⟩ (.int .i64 d.a1)).setCell ⟨k, 4, none⟩ (.int .i64 d.a2)).setCell ⟨k, 5, none⟩ (.int .i64 d.bad)) := by
  subst hp
  subst hx
  exact ⟨A, n, cp, A2, n2, c2, rfl, hT, tms_but hM (but_six _ _ _ _ _ _ _ _) (fun e => by have := ho _ e; omega), fun b hb => by have := ho b hb; omega, hl, below_six hB hk _ _ _ _ _ _⟩
section
variable {W0 w wr wr' : World} {c : Cur} {A : Option Addr} {n cp : Nat} {d : Cur} {Av : Option Addr} {nv cv : Nat} {x : List Tm}
theorem RrS.on (h : RrS W0 w wr c A n cp d Av nv cv x) (hb : Below wr.heap.size wr wr') : RrS W0 w wr' c A n cp d Av nv cv x :=
  ⟨h.toks, block_on h.cur hb, block_on h.res hb, below_two' h.below hb, h.w0, Nat.le_trans h.top hb.size, h.tms.keep hb, h.ot, h.few⟩
theorem RrS.now (h : RrS W0 w wr c A n cp d Av nv cv x) : Below W0.heap.size W0 wr := below_two' h.w0 h.below
theorem RrS.set (h : RrS W0 w wr c A n cp d Av nv cv x) {A' : Option Addr} {n' cp' : Nat} {d' : Cur} (hT : Toks W0 (.slice A' n' cp') d'.L) (hl : d'.L.length ≤ d.L.length) :
    RrS W0 w ((((((wr.setCell ⟨w.heap.size, 0, none⟩ (.slice A' n' cp')).setCell ⟨w.heap.size, 1, none⟩ (.int .i64 d'.w1)).setCell ⟨w.heap.size, 2, none⟩ (.int .i64 d'.w2)).setCell ⟨w.heap.size, 3, none⟩ (.int .i64 d'.a1)).setCell ⟨w.heap.size, 4, none⟩ (.int .i64 d'.a2)).setCell ⟨w.heap.size, 5, none⟩ (.int .i64 d'.bad)) c A' n' cp' d' Av nv cv x := by
  have hg := but_six wr w.heap.size (.slice A' n' cp') (.int .i64 d'.w1) (.int .i64 d'.w2) (.int .i64 d'.a1) (.int .i64 d'.a2) (.int .i64 d'.bad)
  have htop := h.top
  have hz := hg.size
  have hf := h.few
  exact ⟨hT, rr_block h.cur _ _ _ _ _ _, (hg.block _ (by omega) (by simp)).trans h.res, below_six h.below (Nat.le_refl _) _ _ _ _ _ _, h.w0, by omega, tms_but h.tms hg (fun e => by have := h.ot _ e; omega), h.ot, by omega⟩
theorem RrS.ret (h : RrS W0 w wr c A n cp d Av nv cv x) {p : Pa} (hp : p.1 = d) (hx : x = p.2) :
    RetRR W0 w c p (.returned (.tuple #[.agg #[.slice A n cp, .int .i64 d.w1, .int .i64 d.w2, .int .i64 d.a1, .int .i64 d.a2, .int .i64 d.bad], .slice Av nv cv]))
      ((((((wr.setCell ⟨w.heap.size + 1, 0, none⟩ (.slice A n cp)).setCell ⟨w.heap.size + 1, 1, none⟩ (.int .i64 d.w1)).setCell ⟨w.heap.size + 1, 2, none⟩ (.int .i64 d.w2)).setCell ⟨w.heap.size + 1, 3, none⟩ (.int .i64 d.a1)).setCell ⟨w.heap.size + 1, 4, none⟩ (.int .i64 d.a2)).setCell ⟨w.heap.size + 1, 5, none⟩ (.int .i64 d.bad)) :=
  ret_rr (by omega) h.toks h.tms h.ot hp hx h.few h.below
end

end Go.Proofs.YtcfcpbkeedfbpaaGreatDoor

namespace Go.Proofs.YtcfcpbkeedfbpaaGreatDoor
open Go.RowKit CurSpec TermSpec ExprSpec NamesSpec
set_option maxRecDepth 100000

/-- Behind the first call: the cursor's block, the result's, the token's. -/
structure AtS (W0 w wN : World) (A : Option Addr) (n cp : Nat) (c : Cur) (tb : Nat) (t : Tk) : Prop where
  toks : Toks W0 (.slice A n cp) c.L
  w0 : Below W0.heap.size W0 wN
  cur : wN.heap[w.heap.size]? = some (rcO A n cp c)
  res : wN.heap[w.heap.size + 1]? = some rcZ
  tok : wN.heap[tb]? = some (tkO t)
  below : Below w.heap.size w wN
  top : w.heap.size + 2 ≤ wN.heap.size
theorem AtS.on {W0 w wN wN' : World} {A : Option Addr} {n cp : Nat} {c : Cur} {tb : Nat} {t : Tk} (h : AtS W0 w wN A n cp c tb t) (hb : Below wN.heap.size wN wN') : AtS W0 w wN' A n cp c tb t :=
  ⟨h.toks, below_two' h.w0 hb, block_on h.cur hb, block_on h.res hb, block_on h.tok hb, below_two' h.below hb, Nat.le_trans h.top hb.size⟩
theorem AtS.alloc {W0 w wN : World} {A : Option Addr} {n cp : Nat} {c : Cur} {tb : Nat} {t : Tk} (h : AtS W0 w wN A n cp c tb t) (o : Obj) : AtS W0 w (wN.alloc o) A n cp c tb t := h.on ((Below.refl _ _).alloc (Nat.le_refl _) _)
theorem AtS.ret {W0 w Y : World} {A : Option Addr} {n cp : Nat} {c : Cur} {tb : Nat} {t : Tk} (h : AtS W0 w Y A n cp c tb t) {d : Cur} {p : Pa} {A' : Option Addr} {n' cp' : Nat} {A2 : Option Addr} {n2 c2 : Nat} {x : List Tm}
    (hT : Toks W0 (.slice A' n' cp') d.L) (hM : Tms Y (.slice A2 n2 c2) x) (ho : ∀ b, (Value.slice A2 n2 c2).ownBlock = some b → w.heap.size + 1 < b) (hp : p.1 = d) (hx : d.bad = 0 → x = p.2) (hl : x.length + 2 * d.L.length ≤ 2 * c.L.length + 1) :
    RetLev W0 w c p (.returned (.tuple #[.agg #[.slice A' n' cp', .int .i64 d.w1, .int .i64 d.w2, .int .i64 d.a1, .int .i64 d.a2, .int .i64 d.bad], .slice A2 n2 c2]))
      ((((((Y.setCell ⟨w.heap.size + 1, 0, none⟩ (.slice A' n' cp')).setCell ⟨w.heap.size + 1, 1, none⟩ (.int .i64 d.w1)).setCell ⟨w.heap.size + 1, 2, none⟩ (.int .i64 d.w2)).setCell ⟨w.heap.size + 1, 3, none⟩ (.int .i64 d.a1)).setCell ⟨w.heap.size + 1, 4, none⟩ (.int .i64 d.a2)).setCell ⟨w.heap.size + 1, 5, none⟩ (.int .i64 d.bad)) :=
  ret_lev (by omega) hT hM ho hp hx hl h.below
end Go.Proofs.YtcfcpbkeedfbpaaGreatDoor

namespace Go.Proofs.YtcfcpbkeedfbpaaGreatDoor
open Go.RowKit CurSpec TermSpec ExprSpec NamesSpec
set_option maxRecDepth 100000

end Go.Proofs.YtcfcpbkeedfbpaaGreatDoor

namespace Go.Proofs.YtcfcpbkeedfbpaaGreatDoor
open Go.RowKit CurSpec TermSpec ExprSpec NamesSpec Go.Lib
set_option maxRecDepth 100000

theorem six_at {w : World} {b : Nat} {T : TypeId} {x0 x1 x2 x3 x4 x5 : Value} (h : w.heap[b]? = some (.cells #[x0, x1, x2, x3, x4, x5] T (0, 0))) (u0 u1 u2 u3 u4 u5 : Value) :
    ((((((w.setCell ⟨b, 0, none⟩ u0).setCell ⟨b, 1, none⟩ u1).setCell ⟨b, 2, none⟩ u2).setCell ⟨b, 3, none⟩ u3).setCell ⟨b, 4, none⟩ u4).setCell ⟨b, 5, none⟩ u5).heap[b]? = some (.cells #[u0, u1, u2, u3, u4, u5] T (0, 0)) :=
  block_setCell' (block_setCell' (block_setCell' (block_setCell' (block_setCell' (block_setCell' h 0 u0) 1 u1) 2 u2) 3 u3) 4 u4) 5 u5
theorem rd_but {w w' : World} {v : Value} {xs : List Value} {B : Nat} (h : Rd w v xs) (hb : w.grownBy w' (some B)) (hne : v.ownBlock ≠ some B) : Rd w' v xs := by
  obtain ⟨A, n, c, rfl, hn, hc, hA⟩ := h
  refine ⟨A, n, c, rfl, hn, hc, fun h0 => ?_⟩
  obtain ⟨b, off, rfl, hlt, hcell⟩ := hA h0
  refine ⟨b, off, rfl, Nat.lt_of_lt_of_le hlt hb.size, fun j u hj => ?_⟩
  rw [← hcell j u hj]
  have := hb.block b hlt (fun e => hne (by rw [← e]; rfl))
  simp [World.cell?, this]
/-- In Level1's loop: the cursor in its block, the result's block, the level's signs, the terms. -/
structure LpS (W0 w wr : World) (c : Cur) (k : Int) (vs1 vs2 : Value) (A : Option Addr) (n cp : Nat) (d : Cur) (Av : Option Addr) (nv cv : Nat) (x : List Tm) : Prop where
  toks : Toks W0 (.slice A n cp) d.L
  cur : wr.heap[w.heap.size]? = some (rcO A n cp d)
  res : wr.heap[w.heap.size + 1]? = some rcZ
  below : Below w.heap.size w wr
  w0 : Below W0.heap.size W0 w
  top : w.heap.size + 2 ≤ wr.heap.size
  s1 : Rd wr vs1 (strV (sigT k))
  o1 : ∀ b, vs1.ownBlock = some b → w.heap.size + 1 < b
  s2 : Rd wr vs2 (intV (sigO k))
  o2 : ∀ b, vs2.ownBlock = some b → w.heap.size + 1 < b
  tms : Tms wr (.slice Av nv cv) x
  ot : ∀ b, (Value.slice Av nv cv).ownBlock = some b → w.heap.size + 1 < b
  few : x.length + 2 * d.L.length ≤ 2 * c.L.length + 1
section
variable {W0 w wr wr' : World} {c : Cur} {k : Int} {vs1 vs2 : Value} {A : Option Addr} {n cp : Nat} {d : Cur} {Av : Option Addr} {nv cv : Nat} {x : List Tm}
theorem LpS.on (h : LpS W0 w wr c k vs1 vs2 A n cp d Av nv cv x) (hb : Below wr.heap.size wr wr') : LpS W0 w wr' c k vs1 vs2 A n cp d Av nv cv x :=
  ⟨h.toks, block_on h.cur hb, block_on h.res hb, below_two' h.below hb, h.w0, Nat.le_trans h.top hb.size, h.s1.keep hb, h.o1, h.s2.keep hb, h.o2, h.tms.keep hb, h.ot, h.few⟩
theorem LpS.alloc (h : LpS W0 w wr c k vs1 vs2 A n cp d Av nv cv x) (o : Obj) : LpS W0 w (wr.alloc o) c k vs1 vs2 A n cp d Av nv cv x := h.on ((Below.refl _ _).alloc (Nat.le_refl _) _)
theorem LpS.now (h : LpS W0 w wr c k vs1 vs2 A n cp d Av nv cv x) : Below W0.heap.size W0 wr := below_two' h.w0 h.below
theorem LpS.set (h : LpS W0 w wr c k vs1 vs2 A n cp d Av nv cv x) {A' : Option Addr} {n' cp' : Nat} {d' : Cur} {Av' : Option Addr} {nv' cv' : Nat} {x' : List Tm} (hT : Toks W0 (.slice A' n' cp') d'.L) (hM : Tms wr (.slice Av' nv' cv') x')
    (ho : ∀ b, (Value.slice Av' nv' cv').ownBlock = some b → w.heap.size + 1 < b) (hl : x'.length + 2 * d'.L.length ≤ 2 * c.L.length + 1) :
    LpS W0 w ((((((wr.setCell ⟨w.heap.size, 0, none⟩ (.slice A' n' cp')).setCell ⟨w.heap.size, 1, none⟩ (.int .i64 d'.w1)).setCell ⟨w.heap.size, 2, none⟩ (.int .i64 d'.w2)).setCell ⟨w.heap.size, 3, none⟩ (.int .i64 d'.a1)).setCell ⟨w.heap.size, 4, none⟩ (.int .i64 d'.a2)).setCell ⟨w.heap.size, 5, none⟩ (.int .i64 d'.bad)) c k vs1 vs2 A' n' cp' d' Av' nv' cv' x' := by
  have hg := but_six wr w.heap.size (.slice A' n' cp') (.int .i64 d'.w1) (.int .i64 d'.w2) (.int .i64 d'.a1) (.int .i64 d'.a2) (.int .i64 d'.bad)
  have htop := h.top
  have hz := hg.size
  exact ⟨hT, six_at h.cur _ _ _ _ _ _, (hg.block _ (by omega) (by simp)).trans h.res, below_six h.below (Nat.le_refl _) _ _ _ _ _ _, h.w0, by omega, rd_but h.s1 hg (fun e => by have := h.o1 _ e; omega), h.o1,
    rd_but h.s2 hg (fun e => by have := h.o2 _ e; omega), h.o2, tms_but hM hg (fun e => by have := ho _ e; omega), ho, hl⟩
theorem LpS.ret (h : LpS W0 w wr c k vs1 vs2 A n cp d Av nv cv x) {p : Pa} (hp : p.1 = d) (hx : d.bad = 0 → x = p.2) :
    RetLev W0 w c p (.returned (.tuple #[.agg #[.slice A n cp, .int .i64 d.w1, .int .i64 d.w2, .int .i64 d.a1, .int .i64 d.a2, .int .i64 d.bad], .slice Av nv cv]))
      ((((((wr.setCell ⟨w.heap.size + 1, 0, none⟩ (.slice A n cp)).setCell ⟨w.heap.size + 1, 1, none⟩ (.int .i64 d.w1)).setCell ⟨w.heap.size + 1, 2, none⟩ (.int .i64 d.w2)).setCell ⟨w.heap.size + 1, 3, none⟩ (.int .i64 d.a1)).setCell ⟨w.heap.size + 1, 4, none⟩ (.int .i64 d.a2)).setCell ⟨w.heap.size + 1, 5, none⟩ (.int .i64 d.bad)) :=
  ret_lev (by omega) h.toks h.tms h.ot hp hx h.few h.below
end
end Go.Proofs.YtcfcpbkeedfbpaaGreatDoor

namespace Go.Proofs.YtcfcpbkeedfbpaaGreatDoor
open Go.RowKit CurSpec TermSpec ExprSpec NamesSpec
set_option maxRecDepth 100000

end Go.Proofs.YtcfcpbkeedfbpaaGreatDoor

namespace Go.Proofs.YtcfcpbkeedfbpaaGreatDoor
open Go.RowKit CurSpec TermSpec EvalSpec ActSpec NamesSpec ExprSpec
set_option maxRecDepth 100000

/-- What lies below: seen from ahead of the boxes. -/
theorem below_but {w w1 x : World} {E : Nat} (h1 : Below w.heap.size w w1) (h : w1.grownBy x (some E)) (hE : w.heap.size ≤ E) : Below w.heap.size w x := h1.grown h h1.size fun j hj => by injection hj with hj; omega
end Go.Proofs.YtcfcpbkeedfbpaaGreatDoor

namespace Go.Proofs.YtcfcpbkeedfbpaaGreatDoor
open Go.RowKit TermSpec Go.BigFrame
set_option maxRecDepth 100000

def TmSameRel (W : World) (n : Nat) (v : Value) (w : World) : Prop := ∃ k : Nat, k ≤ n ∧ v = .int .i64 k ∧ Below W.heap.size W w
set_option maxHeartbeats 2000000 in
theorem tmsame_any (A1 A2 : Option Addr) (n1 n2 c1 c2 : Nat) (l : List Tm) (w : World) (h1 : Tms w (.slice A1 n1 c1) l) (h2 : Tms w (.slice A2 n2 c2) l) (hn1 : n1 = l.length) (hn2 : n2 = l.length) (hm : n1 ≤ 9223372036854775806) :
    Calls Tryz.prog 36 #[.slice A1 n1 c1, .slice A2 n2 c2] w (RetB w true) := by
  obtain rfl : n2 = n1 := hn2.trans hn1.symm
  have HT := Lib.hid (And.intro h1 h2)
  have HN := Lib.hid hn1
  clear h1 h2 hn1 hn2
  go_enter Tryz.func36, Tryz.ntmps36
  go_wp2_with fail
  go_loopw [5] (fun v wr => TmSameRel w n2 v wr) (fun v _ => n2 - (intOf v).toNat)
  case atStart => exact ⟨0, Nat.zero_le _, rfl, Below.refl _ _⟩
  case round =>
    obtain ⟨k, hk, rfl, hbw⟩ := hrel
    by_cases hlt : k < n2
    · obtain ⟨t, ht⟩ : ∃ t, l[k]? = some t := get_some (by rw [← HN.out]; exact hlt)
      obtain ⟨b1, off1, rfl, hb1, x0, x1, x2⟩ := (HT.out.1.keep hbw).at_ ht
      obtain ⟨b2, off2, rfl, hb2, y0, y1, y2⟩ := (HT.out.2.keep hbw).at_ ht
      obtain ⟨o, ho⟩ : ∃ o, o = t.op := ⟨_, rfl⟩
      obtain ⟨nn, hnn⟩ : ∃ nn, nn = t.n := ⟨_, rfl⟩
      obtain ⟨s, hs⟩ : ∃ s, s = t.s := ⟨_, rfl⟩
      rw [← ho] at x0 y0
      rw [← hnn] at x1 y1
      rw [← hs] at x2 y2
      have hltI : (k : Int) < (n2 : Int) := by omega
      have HW := Lib.hid hbw
      clear ho hnn hs ht hbw
      go_wp2_with fail
      go_big_quiet (fail)
      go_wp2_with fail
      go_roundw
      case rel => exact ⟨k + 1, hlt, by simp, below_drewN HW.out _⟩
      case measure => simp [intOf]; omega
    · go_wp2_with fail
      go_ret
      exact ⟨rfl, hbw⟩
end Go.Proofs.YtcfcpbkeedfbpaaGreatDoor

namespace Go.Proofs.YtcfcpbkeedfbpaaGreatDoor
open Go.RowKit Go.Sort CurSpec TermSpec EvalSpec ActSpec NamesSpec ExprSpec
set_option maxRecDepth 100000

def ASameRel (W : World) (n : Nat) (i : Value) (wr : World) : Prop := ∃ k : Nat, k ≤ n ∧ i = .int .i64 k ∧ Below W.heap.size W wr
set_option maxHeartbeats 2000000 in
theorem rsame_acts (A B : Option Addr) (n m c d : Nat) (l : List Ac) (w : World) (h : Acs w (.slice A n c) l) (h2 : Acs w (.slice B m d) l) (h64 : l.length ≤ 64) (hfew : ∀ a ∈ l, a.x.length ≤ 1000) :
    Calls Tryz.prog 15 #[.slice A n c, .slice B m d] w (RetB w true) := by
  obtain rfl : m = n := h2.len.1.trans h.len.1.symm
  have HN := Lib.hid h.len.1
  have HT := Lib.hid (And.intro h h2)
  have HF := Lib.hid hfew
  have hc := h.len.2
  have hd := h2.len.2
  have hn64 : m ≤ 64 := by have := HN.out; omega
  clear h h2 hfew
  go_enter Tryz.func15, Tryz.ntmps15
  go_wp2_with fail
  go_loopw [5] (fun i wr => ASameRel w m i wr) (fun i _ => m - (intOf i).toNat)
  case atStart => exact ⟨0, Nat.zero_le _, rfl, Below.refl _ _⟩
  case round =>
    obtain ⟨k, hk, rfl, hbw⟩ := hrel
    have HB := Lib.hid hbw
    by_cases hlt : k < m
    · have hkI : (k : Int) < m := by omega
      have hk64 : (k : Int) ≤ 64 := by omega
      obtain ⟨a, ha⟩ : ∃ a, l[k]? = some a := get_some (by rw [← HN.out]; exact hlt)
      have hx := HF.out a (List.mem_of_getElem? ha)
      obtain ⟨b1, o1, xA, xn, xc, rfl, hb1, ht1, p0, p1, p2⟩ := (HT.out.1.keep hbw).at_ ha
      obtain ⟨b2, o2, yA, yn, yc, rfl, hb2, ht2, q0, q1, q2⟩ := (HT.out.2.keep hbw).at_ ha
      obtain ⟨_, _, _, heq, hxn, _⟩ := ht1.shape
      cases heq
      obtain ⟨_, _, _, heq, hyn, _⟩ := ht2.shape
      cases heq
      have HS : Hid (∀ d os, Calls Tryz.prog 36 #[.slice xA xn xc, .slice yA yn yc] (grow (redrawn wr d) os) fun e w'' => e = .returned (.bool true) ∧ ∃ p : Regrown, w'' = grow (redrawn wr p.d) p.os) := Lib.hid (fun d os => Calls.regrown_of (tmsame_any xA yA xn yn xc yc a.x (grow (redrawn wr d) os) (ht1.keep (below_regrown wr d os)) (ht2.keep (below_regrown wr d os)) hxn hyn (by omega)))
      obtain ⟨s, any, x⟩ := a
      simp only at p0 p1 q0 q1 HS
      have rp0 := cell_regrown p0
      have rp1 := cell_regrown p1
      have rp2 := cell_regrown p2
      have rq0 := cell_regrown q0
      have rq1 := cell_regrown q1
      have rq2 := cell_regrown q2
      clear ha hx ht1 ht2 hxn hyn hbw p0 p1 p2 q0 q1 q2
      go_wp2_with fail
      refine wp_region_quiet_below (by kernel_rfl) (by kernel_rfl) ?_
      repeat (go_big_quiet_step (exact HS.out _ _))
      refine wpQuiet_nil ?_
      intro _ hw'
      obtain ⟨⟨dq, osq⟩, hw''⟩ := hw'
      subst hw''
      simp only
      have HBQ := Lib.hid (below_two' HB.out (below_regrown wr dq osq))
      clear rp0 rp1 rp2 rq0 rq1 rq2
      go_wp2_with fail
      go_roundw
      case rel => exact ⟨k + 1, by omega, by go_num, HBQ.out⟩
      case measure => simp [intOf]; omega
    · have hkI : ¬ (k : Int) < m := by omega
      clear hbw
      go_wp2_with fail
      go_ret
      exact ⟨rfl, HB.out⟩
end Go.Proofs.YtcfcpbkeedfbpaaGreatDoor

namespace Go.Proofs.YtcfcpbkeedfbpaaGreatDoor
open Go.RowKit CurSpec TermSpec ExprSpec NamesSpec
set_option maxRecDepth 100000

theorem levO_sign {o : Int} {s : Sg} (hs : s ∈ sgs) (ho : s.op = o) : levO o = s.lev := by
  subst ho
  unfold sgs at hs
  simp only [List.mem_cons, List.not_mem_nil, or_false] at hs
  rcases hs with rfl | rfl | rfl | rfl | rfl | rfl | rfl | rfl | rfl | rfl | rfl <;> rfl
theorem sig_mem {k : Int} {j : Nat} {x : Int} (h : (sigO k)[j]? = some x) : ∃ s ∈ sgs, s.lev = k ∧ s.op = x := by
  unfold sigO lvl at h
  have := List.mem_of_getElem? h
  obtain ⟨s, hs, he⟩ := List.mem_map.1 this
  rw [List.mem_filter] at hs
  exact ⟨s, hs.1, by simpa using hs.2, he⟩
theorem sig_all {k : Int} {s : Sg} (hs : s ∈ sgs) (hk : s.lev = k) : s.op ∈ sigO k := by
  unfold sigO lvl
  rw [List.mem_map]
  exact ⟨s, List.mem_filter.2 ⟨hs, by simpa using hk⟩, rfl⟩
theorem sig_few (k : Int) : (sigO k).length ≤ 11 := by
  unfold sigO lvl
  rw [List.length_map]
  exact Nat.le_trans (List.length_filter_le _ _) (by decide)
def LvoRel (W : World) (o : Int) (v : Value) (w : World) : Prop := ∃ k : Nat, 1 ≤ k ∧ k ≤ 7 ∧ v = .int .i64 k ∧ (∀ s ∈ sgs, s.op = o → (k : Int) ≤ s.lev) ∧ Below W.heap.size W w
def LviRel (W : World) (l : List Int) (n : Nat) (o : Int) (v : Value) (w : World) : Prop := ∃ j : Nat, j ≤ n ∧ v = .int .i64 j ∧ (∀ x ∈ l.take j, x ≠ o) ∧ Below W.heap.size W w
theorem rlv_last {o : Int} (h : ∀ s ∈ sgs, s.op = o → (7 : Int) ≤ s.lev) (ho : 0 ≤ ar o) : levO o = if o = 12 then 3 else if o = 3 then 7 else 8 := by
  have hno : ∀ s ∈ sgs, s.op ≠ o := fun s hs he => by have := h s hs he; have := (sgs_all s hs).2.2.1; omega
  by_cases h8 : o = 1 ∨ o = 2 ∨ o = 9 ∨ o = 10 ∨ o = 11 ∨ o = 7 ∨ o = 8
  · rw [show levO o = 8 from if_pos h8, if_neg (by omega), if_neg (by omega)]
  · by_cases h12 : o = 12
    · subst h12; rfl
    · by_cases h3 : o = 3
      · subst h3; rfl
      · exfalso
        have h2 : ar o = 2 := by
          unfold ar at ho ⊢
          split at ho
          · omega
          · split at ho
            · omega
            · split at ho
              · rename_i a b c
                rw [if_neg a, if_neg b, if_pos c]
              · omega
        have := sgOf_mem h2 (by omega)
        exact hno _ this.1 this.2

set_option maxHeartbeats 4000000 in
theorem rlevel_any (o : Int) (w : World) (ho : 0 ≤ ar o) : Calls Tryz.prog 55 #[.int .i64 o] w (RetI w (levO o)) := by
  have HO := Lib.hid ho
  clear ho
  go_enter Tryz.func55, Tryz.ntmps55
  go_wp2_with fail
  go_loopw [3] (fun v wr => LvoRel w o v wr) (fun v _ => 8 - (intOf v).toNat)
  case atStart => exact ⟨1, by decide, by decide, rfl, fun s hs _ => by have := (sgs_all s hs).2.2.1; omega, Below.refl _ _⟩
  case round =>
    obtain ⟨k, hk1, hk7, rfl, hno, hbw⟩ := hrel
    have HNO := Lib.hid hno
    have HB := Lib.hid hbw
    clear hno hbw
    by_cases hk : k < 7
    · have g1 : (k : Int) ≤ 6 := by omega
      go_wp2_with (go_at_call 58; (with_reducible refine (signs_say (k : Int) _).mono ?_))
      rintro e w1 ⟨v1, v2, rfl, -, hr2, -, -, hb1⟩
      have hfew := sig_few (k : Int)
      obtain ⟨l, hl⟩ : ∃ l, l = sigO (k : Int) := ⟨_, rfl⟩
      rw [← hl] at hr2 hfew
      obtain ⟨A2, n2, c2, rfl, hn2, hc2, hA2⟩ := hr2.ints
      have HL := Lib.hid hl
      have HA := Lib.hid hA2
      have HB1 := Lib.hid (below_two' HB.out hb1)
      have HN := Lib.hid hn2
      have hn11 : n2 ≤ 11 := by omega
      clear hb1 hl hr2 hA2 hc2 hn2 hfew
      go_wp2_with fail
      go_loopw [6] (fun v wr => LviRel w1 l n2 o v wr) (fun v _ => n2 - (intOf v).toNat)
      case atStart => exact ⟨0, Nat.zero_le _, rfl, by simp, Below.refl _ _⟩
      case round =>
        obtain ⟨j, hj, rfl, hnj, hbj⟩ := hrel
        have HNJ := Lib.hid hnj
        have HBJ := Lib.hid hbj
        clear hnj hbj
        by_cases hlt : j < n2
        · obtain ⟨b, off, rfl, hb, hcell⟩ := HA.out (by omega)
          obtain ⟨x, hx⟩ : ∃ x, l[j]? = some x := get_some (by rw [HN.out]; exact hlt)
          have c0 := (HBJ.out.cell (p := ⟨b, off + j, none⟩) hb).trans (hcell j x hx)
          have HX := Lib.hid hx
          have hltI : (j : Int) < (n2 : Int) := by omega
          clear hx hcell
          by_cases he : x = o
          · have e1 : (x == o) = true := by simpa using he
            have HE := Lib.hid he
            clear he
            go_wp2_with fail
            go_ret
            refine ⟨?_, below_two' HB1.out HBJ.out⟩
            have hx := HX.out
            rw [HL.out] at hx
            obtain ⟨s, hs, hsl, hso⟩ := sig_mem hx
            rw [levO_sign hs (hso.trans HE.out), hsl]
            rfl
          · have e1 : (x == o) = false := by simpa using he
            have HE := Lib.hid he
            clear he
            go_wp2_with fail
            go_roundw
            case rel =>
              refine ⟨j + 1, hlt, by simp, fun y hy => ?_, HBJ.out⟩
              rw [take_next HX.out, List.mem_append, List.mem_singleton] at hy
              rcases hy with hy | rfl
              · exact HNJ.out y hy
              · exact HE.out
            case measure => simp [intOf]; omega
        · obtain rfl : j = n2 := by omega
          have hge : ¬ (j : Int) < (j : Int) := by omega
          go_wp2_with fail
          go_roundw
          case rel =>
            refine ⟨k + 1, by omega, by omega, by simp, fun s hs he => ?_, below_two' HB1.out HBJ.out⟩
            have h1 := HNO.out s hs he
            by_cases h2 : s.lev = (k : Int)
            · exfalso
              have := sig_all hs h2
              rw [← HL.out] at this
              exact HNJ.out s.op (by rw [List.take_of_length_le (by rw [HN.out]; exact Nat.le_refl _)]; exact this) he
            · omega
          case measure => simp [intOf]; omega
    · obtain rfl : k = 7 := by omega
      have HV := Lib.hid (rlv_last HNO.out HO.out)
      by_cases h12 : o = 12
      · subst h12
        go_wp2_with fail
        go_ret
        exact ⟨rfl, HB.out⟩
      · by_cases h3 : o = 3
        · subst h3
          go_wp2_with fail
          go_ret
          exact ⟨rfl, HB.out⟩
        · have HW : Hid (levO o = 8) := Lib.hid (by rw [HV.out, if_neg h12, if_neg h3])
          have e1 : (o == 12) = false := by simpa using h12
          have e2 : (o == 3) = false := by simpa using h3
          clear h12 h3
          go_wp2_with fail
          go_ret
          exact ⟨by rw [HW.out]; rfl, HB.out⟩
end Go.Proofs.YtcfcpbkeedfbpaaGreatDoor
