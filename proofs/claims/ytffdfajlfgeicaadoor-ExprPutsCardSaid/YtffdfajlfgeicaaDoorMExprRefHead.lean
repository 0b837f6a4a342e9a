/- ExprRefHead, joined. -/
import Derived.Test.YtffdfajlfgeicaaDoorMExprRefLev
namespace Go.Proofs.YtffdfajlfgeicaaDoor
open Go.RowKit CurSpec TermSpec ExprSpec NamesSpec
set_option maxRecDepth 100000

/-- In Level1: the cursor's block, the result's. -/
structure LvS (W0 w wN : World) (A : Option Addr) (n cp : Nat) (c : Cur) : Prop where
  toks : Toks W0 (.slice A n cp) c.L
  w0 : Below W0.heap.size W0 wN
  cur : wN.heap[w.heap.size]? = some (rcO A n cp c)
  res : wN.heap[w.heap.size + 1]? = some rcZ
  below : Below w.heap.size w wN
  top : w.heap.size + 2 ≤ wN.heap.size
theorem lvs_start {W0 w : World} {A : Option Addr} {n cp : Nat} {c : Cur} (hT : Toks W0 (.slice A n cp) c.L) (hW : Below W0.heap.size W0 w) : LvS W0 w ((w.alloc (rcO A n cp c)).alloc rcZ) A n cp c := by
  refine ⟨hT, below_two' hW (below_pair _ _ _), (heap_alloc_old _ _ (by simp)).trans (heap_alloc_new _ _), ?_, below_pair _ _ _, by simp⟩
  have := heap_alloc_new (w.alloc (rcO A n cp c)) rcZ
  rwa [World.size_alloc] at this
theorem LvS.on {W0 w wN wN' : World} {A : Option Addr} {n cp : Nat} {c : Cur} (h : LvS W0 w wN A n cp c) (hb : Below wN.heap.size wN wN') : LvS W0 w wN' A n cp c :=
  ⟨h.toks, below_two' h.w0 hb, block_on h.cur hb, block_on h.res hb, below_two' h.below hb, Nat.le_trans h.top hb.size⟩
theorem LvS.alloc {W0 w wN : World} {A : Option Addr} {n cp : Nat} {c : Cur} (h : LvS W0 w wN A n cp c) (o : Obj) : LvS W0 w (wN.alloc o) A n cp c := h.on ((Below.refl _ _).alloc (Nat.le_refl _) _)
theorem LvS.ret {W0 w Y : World} {A : Option Addr} {n cp : Nat} {c : Cur} (h : LvS W0 w Y A n cp c) {d : Cur} {p : Pa} {A' : Option Addr} {n' cp' : Nat} {A2 : Option Addr} {n2 c2 : Nat} {x : List Tm}
    (hT : Toks W0 (.slice A' n' cp') d.L) (hM : Tms Y (.slice A2 n2 c2) x) (ho : ∀ b, (Value.slice A2 n2 c2).ownBlock = some b → w.heap.size + 1 < b) (hp : p.1 = d) (hx : d.bad = 0 → x = p.2) (hl : x.length + 2 * d.L.length ≤ 2 * c.L.length + 1) :
    RetLev W0 w c p (.returned (.tuple #[.agg #[.slice A' n' cp', .int .i64 d.w1, .int .i64 d.w2, .int .i64 d.a1, .int .i64 d.a2, .int .i64 d.bad], .slice A2 n2 c2]))
      ((((((Y.setCell ⟨w.heap.size + 1, 0, none⟩ (.slice A' n' cp')).setCell ⟨w.heap.size + 1, 1, none⟩ (.int .i64 d.w1)).setCell ⟨w.heap.size + 1, 2, none⟩ (.int .i64 d.w2)).setCell ⟨w.heap.size + 1, 3, none⟩ (.int .i64 d.a1)).setCell ⟨w.heap.size + 1, 4, none⟩ (.int .i64 d.a2)).setCell ⟨w.heap.size + 1, 5, none⟩ (.int .i64 d.bad)) :=
  ret_lev (by omega) hT hM ho hp hx hl h.below

set_option maxHeartbeats 4000000 in
theorem lev_8 (f : Nat) (c : Cur) (h0 : c.bad = 0) (hg : isB c 3 tNeg = false) (A : Option Addr) (n cp : Nat) (W0 w : World) (hT : Toks W0 (.slice A n cp) c.L) (hW : Below W0.heap.size W0 w)
    (hA : ∀ W, Below W0.heap.size W0 W → Calls Tryd.prog 50 #[.agg #[.slice A n cp, .int .i64 c.w1, .int .i64 c.w2, .int .i64 c.a1, .int .i64 c.a2, .int .i64 c.bad]] W (RetLev W0 W c (atom (S f) c))) :
    Calls Tryd.prog 28 #[.agg #[.slice A n cp, .int .i64 c.w1, .int .i64 c.w2, .int .i64 c.a1, .int .i64 c.a2, .int .i64 c.bad], .int .i64 8] w (RetLev W0 w c (S (f + 1) c 8)) := by
  have HA := Lib.hid hA
  have HS1 := Lib.hid (lvs_start hT hW)
  obtain ⟨p, hp⟩ : ∃ p, p = atom (S f) c := ⟨_, rfl⟩
  have HE : Hid (S (f + 1) c 8 = p) := Lib.hid (by rw [hp]; exact S_atom h0 hg)
  rw [← hp] at HA
  have e0 : (c.bad != 0) = false := by simpa using h0
  clear hp hT hW hA h0 hg
  obtain ⟨c0, c1, c2, c3, c4, c5⟩ := cells_6 HS1.out.cur
  go_enter Tryd.func28, Tryd.ntmps28
  go_wp2_with (go_at_call 50; (with_reducible refine (HA.out _ HS1.out.w0).mono ?_))
  rintro e y2 ⟨A2, n2, cp2, Av, nv, cv, x, rfl, hT2, hM2, ho2, hx2, hl2, hb2⟩
  have HS2 := Lib.hid (HS1.out.on hb2)
  have HT2 := Lib.hid hT2
  have HL2 := Lib.hid (And.intro hM2 (And.intro ho2 (And.intro hx2 hl2)))
  clear hT2 hM2 ho2 hx2 hl2 hb2 c0 c1 c2 c3 c4 c5
  obtain ⟨r0, r1, r2, r3, r4, r5⟩ := cells_6 HS2.out.res
  obtain ⟨g0, g1, g2, g3, g4, g5⟩ := free_6 HS2.out.res
  go_wp2_with fail
  obtain ⟨q0, q1, q2, q3, q4, q5⟩ := store_six (blk_of HS2.out.res (n := 6) rfl) (.slice A2 n2 cp2) (.int .i64 p.1.w1) (.int .i64 p.1.w2) (.int .i64 p.1.a1) (.int .i64 p.1.a2) (.int .i64 p.1.bad)
  refine bodyPost_ret (v := .tuple #[.agg #[.slice A2 n2 cp2, .int .i64 p.1.w1, .int .i64 p.1.w2, .int .i64 p.1.a1, .int .i64 p.1.a2, .int .i64 p.1.bad], .slice Av nv cv]) (by simp [results, Tryd.results28, go_sem, q0, q1, q2, q3, q4, q5]) rfl ?_
  exact HS2.out.ret HT2.out HL2.out.1 (fun b hb => by have := HL2.out.2.1 b hb; simp only [World.size_alloc] at this; omega) (by rw [HE.out]) (fun h => by rw [HE.out]; exact HL2.out.2.2.1 h) HL2.out.2.2.2

set_option maxHeartbeats 4000000 in
theorem lev_not (f : Nat) (c : Cur) (hL : LevAt f 3) (ok : Ok c) (hf : Fit f (on c)) (hlen : c.L.length ≤ 100000) (hb : isB c 1 tNot = true) (A : Option Addr) (n cp : Nat) (W0 w : World) (hT : Toks W0 (.slice A n cp) c.L) (hW : Below W0.heap.size W0 w) :
    Calls Tryd.prog 28 #[.agg #[.slice A n cp, .int .i64 c.w1, .int .i64 c.w2, .int .i64 c.a1, .int .i64 c.a2, .int .i64 c.bad], .int .i64 3] w (RetLev W0 w c (S (f + 1) c 3)) := by
  have HS1 := Lib.hid (lvs_start hT hW)
  have HIS := Lib.hid (is_say c 1 tNot A n cp _ (((hT.keep hW).alloc (rcO A n cp c)).alloc rcZ))
  have HON := Lib.hid (fun W hW => on_say c A n cp W0 W hT hW)
  obtain ⟨d, hd⟩ : ∃ d, d = on c := ⟨_, rfl⟩
  obtain ⟨p, hp⟩ : ∃ p, p = S f d 3 := ⟨_, rfl⟩
  have HE : Hid (S (f + 1) c 3 = (p.1, opT 12 :: p.2)) := Lib.hid (by rw [hp, hd]; exact S_not hb)
  have HLN : Hid (d.L.length + 1 = c.L.length ∧ p.1.L.length ≤ d.L.length) := Lib.hid ⟨by rw [hd]; exact (isB_real hb (by decide)).2.1, by rw [hp]; exact (S_less f d 3).1⟩
  have HLV := Lib.hid (fun A n cp W hT hW => hL d A n cp W0 W hT hW (by rw [hd]; exact ok.on) (by rw [hd]; exact hf) (by have := HLN.out; omega))
  rw [hb] at HIS
  rw [← hd] at HON
  rw [← hp] at HLV
  have HLE := Lib.hid hlen
  have e0 : (c.bad != 0) = false := by simpa using (isB_next hb).1
  clear hd hp hT hW hL ok hf hb hlen
  obtain ⟨c0, c1, c2, c3, c4, c5⟩ := cells_6 HS1.out.cur
  go_enter Tryd.func28, Tryd.ntmps28
  go_wp2_with (go_at_call 43; (with_reducible refine HIS.out.mono ?_))
  rintro e y2 ⟨rfl, hb2⟩
  have HS2 := Lib.hid (HS1.out.on hb2)
  clear hb2 c0 c1 c2 c3 c4 c5
  obtain ⟨c0, c1, c2, c3, c4, c5⟩ := cells_6 HS2.out.cur
  go_wp2_with (go_at_call 44; (with_reducible refine (HON.out _ HS2.out.w0).mono ?_))
  rintro e y3 ⟨A3, n3, cp3, rfl, hT3, hb3⟩
  have HS3 := Lib.hid (HS2.out.on hb3)
  have HT3 := Lib.hid hT3
  clear hT3 hb3 c0 c1 c2 c3 c4 c5
  go_wp2_with (go_at_call 28; (with_reducible refine (HLV.out _ _ _ _ HT3.out HS3.out.w0).mono ?_))
  rintro e y4 ⟨A4, n4, cp4, Av, nv, cv, x, rfl, hT4, hM4, ho4, hx4, hl4, hb4⟩
  have HS4 := Lib.hid (HS3.out.on hb4)
  have HT4 := Lib.hid hT4
  have HL4 := Lib.hid (And.intro hM4 (And.intro ho4 (And.intro hx4 hl4)))
  have HS5 := Lib.hid ((HS4.out.alloc (rcO A4 n4 cp4 p.1)).on (Below.refl _ _).drew)
  have HOV := Lib.hid (over_say 12 (.slice Av nv cv) (.slice none 0 0) x [] (y4.alloc (rcO A4 n4 cp4 p.1)).drew (hM4.alloc _) (tmsNil _) (by have := HLN.out; have := HLE.out; omega) (by simp))
  have k5 : (y4.alloc (rcO A4 n4 cp4 p.1)).heap[y4.heap.size]? = some (rcO A4 n4 cp4 p.1) := heap_alloc_new _ _
  have HK5 := Lib.hid k5
  obtain ⟨m0, m1, m2, m3, m4, m5⟩ := cells_6 k5
  clear hT4 hM4 ho4 hx4 hl4 hb4 k5
  go_wp2_with fail
  go_region_law (go_simp; go_at_call 51; (with_reducible refine HOV.out.mono ?_); rintro e y6 ⟨A6, n6, c6, rfl, hM6, ho6, hb6⟩; have HM6 := Lib.hid (And.intro hM6 ho6); have HS6 := Lib.hid (HS5.out.on hb6); obtain ⟨a0, a1, a2, a3, a4, a5⟩ := cells_6 (block_on HK5.out (undrew hb6)); obtain ⟨r0, r1, r2, r3, r4, r5⟩ := cells_6 HS6.out.res; obtain ⟨g0, g1, g2, g3, g4, g5⟩ := free_6 HS6.out.res; clear hM6 ho6 hb6)
  all_goals
    go_wp2_with fail
    obtain ⟨q0, q1, q2, q3, q4, q5⟩ := store_six (blk_of HS6.out.res (n := 6) rfl) (.slice A4 n4 cp4) (.int .i64 p.1.w1) (.int .i64 p.1.w2) (.int .i64 p.1.a1) (.int .i64 p.1.a2) (.int .i64 p.1.bad)
    refine bodyPost_ret (v := .tuple #[.agg #[.slice A4 n4 cp4, .int .i64 p.1.w1, .int .i64 p.1.w2, .int .i64 p.1.a1, .int .i64 p.1.a2, .int .i64 p.1.bad], .slice A6 n6 c6]) (by simp [results, Tryd.results28, go_sem, q0, q1, q2, q3, q4, q5]) rfl ?_
    exact HS6.out.ret HT4.out HM6.out.1 (fun b hb => by have h1 := HM6.out.2 b hb; have h2 := HS5.out.top; omega) (by rw [HE.out]) (fun h => by rw [HE.out, HL4.out.2.2.1 h, List.append_nil]) (by have := HL4.out.2.2.2; have := HLN.out; simp only [List.length_cons, List.length_append, List.length_nil]; omega)

set_option maxHeartbeats 4000000 in
theorem lev_neg (f : Nat) (c : Cur) (hL : LevAt f 7) (ok : Ok c) (hf : Fit f (on c)) (hlen : c.L.length ≤ 100000) (hb : isB c 3 tNeg = true) (A : Option Addr) (n cp : Nat) (W0 w : World) (hT : Toks W0 (.slice A n cp) c.L) (hW : Below W0.heap.size W0 w) :
    Calls Tryd.prog 28 #[.agg #[.slice A n cp, .int .i64 c.w1, .int .i64 c.w2, .int .i64 c.a1, .int .i64 c.a2, .int .i64 c.bad], .int .i64 7] w (RetLev W0 w c (S (f + 1) c 7)) := by
  have HS1 := Lib.hid (lvs_start hT hW)
  have HIS := Lib.hid (is_say c 3 tNeg A n cp _ (((hT.keep hW).alloc (rcO A n cp c)).alloc rcZ))
  have HON := Lib.hid (fun W hW => on_say c A n cp W0 W hT hW)
  obtain ⟨d, hd⟩ : ∃ d, d = on c := ⟨_, rfl⟩
  obtain ⟨p, hp⟩ : ∃ p, p = S f d 7 := ⟨_, rfl⟩
  have HE : Hid (S (f + 1) c 7 = (p.1, opT 3 :: p.2)) := Lib.hid (by rw [hp, hd]; exact S_neg hb)
  have HLN : Hid (d.L.length + 1 = c.L.length ∧ p.1.L.length ≤ d.L.length) := Lib.hid ⟨by rw [hd]; exact (isB_real hb (by decide)).2.1, by rw [hp]; exact (S_less f d 7).1⟩
  have HLV := Lib.hid (fun A n cp W hT hW => hL d A n cp W0 W hT hW (by rw [hd]; exact ok.on) (by rw [hd]; exact hf) (by have := HLN.out; omega))
  rw [hb] at HIS
  rw [← hd] at HON
  rw [← hp] at HLV
  have HLE := Lib.hid hlen
  have e0 : (c.bad != 0) = false := by simpa using (isB_next hb).1
  clear hd hp hT hW hL ok hf hb hlen
  obtain ⟨c0, c1, c2, c3, c4, c5⟩ := cells_6 HS1.out.cur
  go_enter Tryd.func28, Tryd.ntmps28
  go_wp2_with (go_at_call 43; (with_reducible refine HIS.out.mono ?_))
  rintro e y2 ⟨rfl, hb2⟩
  have HS2 := Lib.hid (HS1.out.on hb2)
  clear hb2 c0 c1 c2 c3 c4 c5
  obtain ⟨c0, c1, c2, c3, c4, c5⟩ := cells_6 HS2.out.cur
  go_wp2_with (go_at_call 44; (with_reducible refine (HON.out _ HS2.out.w0).mono ?_))
  rintro e y3 ⟨A3, n3, cp3, rfl, hT3, hb3⟩
  have HS3 := Lib.hid (HS2.out.on hb3)
  have HT3 := Lib.hid hT3
  clear hT3 hb3 c0 c1 c2 c3 c4 c5
  go_wp2_with (go_at_call 28; (with_reducible refine (HLV.out _ _ _ _ HT3.out HS3.out.w0).mono ?_))
  rintro e y4 ⟨A4, n4, cp4, Av, nv, cv, x, rfl, hT4, hM4, ho4, hx4, hl4, hb4⟩
  have HS4 := Lib.hid (HS3.out.on hb4)
  have HT4 := Lib.hid hT4
  have HL4 := Lib.hid (And.intro hM4 (And.intro ho4 (And.intro hx4 hl4)))
  have HS5 := Lib.hid ((HS4.out.alloc (rcO A4 n4 cp4 p.1)).on (Below.refl _ _).drew)
  have HOV := Lib.hid (over_say 3 (.slice Av nv cv) (.slice none 0 0) x [] (y4.alloc (rcO A4 n4 cp4 p.1)).drew (hM4.alloc _) (tmsNil _) (by have := HLN.out; have := HLE.out; omega) (by simp))
  have k5 : (y4.alloc (rcO A4 n4 cp4 p.1)).heap[y4.heap.size]? = some (rcO A4 n4 cp4 p.1) := heap_alloc_new _ _
  have HK5 := Lib.hid k5
  obtain ⟨m0, m1, m2, m3, m4, m5⟩ := cells_6 k5
  clear hT4 hM4 ho4 hx4 hl4 hb4 k5
  go_wp2_with fail
  go_region_law (go_simp; go_at_call 51; (with_reducible refine HOV.out.mono ?_); rintro e y6 ⟨A6, n6, c6, rfl, hM6, ho6, hb6⟩; have HM6 := Lib.hid (And.intro hM6 ho6); have HS6 := Lib.hid (HS5.out.on hb6); obtain ⟨a0, a1, a2, a3, a4, a5⟩ := cells_6 (block_on HK5.out (undrew hb6)); obtain ⟨r0, r1, r2, r3, r4, r5⟩ := cells_6 HS6.out.res; obtain ⟨g0, g1, g2, g3, g4, g5⟩ := free_6 HS6.out.res; clear hM6 ho6 hb6)
  all_goals
    go_wp2_with fail
    obtain ⟨q0, q1, q2, q3, q4, q5⟩ := store_six (blk_of HS6.out.res (n := 6) rfl) (.slice A4 n4 cp4) (.int .i64 p.1.w1) (.int .i64 p.1.w2) (.int .i64 p.1.a1) (.int .i64 p.1.a2) (.int .i64 p.1.bad)
    refine bodyPost_ret (v := .tuple #[.agg #[.slice A4 n4 cp4, .int .i64 p.1.w1, .int .i64 p.1.w2, .int .i64 p.1.a1, .int .i64 p.1.a2, .int .i64 p.1.bad], .slice A6 n6 c6]) (by simp [results, Tryd.results28, go_sem, q0, q1, q2, q3, q4, q5]) rfl ?_
    exact HS6.out.ret HT4.out HM6.out.1 (fun b hb => by have h1 := HM6.out.2 b hb; have h2 := HS5.out.top; omega) (by rw [HE.out]) (fun h => by rw [HE.out, HL4.out.2.2.1 h, List.append_nil]) (by have := HL4.out.2.2.2; have := HLN.out; simp only [List.length_cons, List.length_append, List.length_nil]; omega)
end Go.Proofs.YtffdfajlfgeicaaDoor
