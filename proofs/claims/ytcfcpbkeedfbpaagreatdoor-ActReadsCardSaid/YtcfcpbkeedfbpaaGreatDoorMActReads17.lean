/- ExprRefAtomN, joined. -/
import Derived.Test.YtcfcpbkeedfbpaaGreatDoorMActReads16
namespace Go.Proofs.YtcfcpbkeedfbpaaGreatDoor
open Go.RowKit CurSpec TermSpec ExprSpec NamesSpec
set_option maxRecDepth 100000

theorem six_block {w : World} {b : Nat} {T : TypeId} {x0 x1 x2 x3 x4 x5 : Value} (h : w.heap[b]? = some (.cells #[x0, x1, x2, x3, x4, x5] T (0, 0))) (u0 u1 u2 u3 u4 u5 : Value) :
    ((((((w.setCell ⟨b, 0, none⟩ u0).setCell ⟨b, 1, none⟩ u1).setCell ⟨b, 2, none⟩ u2).setCell ⟨b, 3, none⟩ u3).setCell ⟨b, 4, none⟩ u4).setCell ⟨b, 5, none⟩ u5).heap[b]? = some (.cells #[u0, u1, u2, u3, u4, u5] T (0, 0)) :=
  block_setCell' (block_setCell' (block_setCell' (block_setCell' (block_setCell' (block_setCell' h 0 u0) 1 u1) 2 u2) 3 u3) 4 u4) 5 u5
theorem size_six (w : World) (b : Nat) (u0 u1 u2 u3 u4 u5 : Value) : ((((((w.setCell ⟨b, 0, none⟩ u0).setCell ⟨b, 1, none⟩ u1).setCell ⟨b, 2, none⟩ u2).setCell ⟨b, 3, none⟩ u3).setCell ⟨b, 4, none⟩ u4).setCell ⟨b, 5, none⟩ u5).heap.size = w.heap.size := by
  simp [World.setCell]
theorem AtS.ret_late {W0 w Y : World} {A : Option Addr} {n cp : Nat} {c : Cur} {tb : Nat} {t : Tk} (h : AtS W0 w Y A n cp c tb t) {d : Cur} {p : Pa} {A' : Option Addr} {n' cp' : Nat} {a b : Int} {s : ByteArray}
    (hT : Toks W0 (.slice A' n' cp') d.L) (hp : p.1 = d) (hx : d.bad = 0 → [⟨a, b, s⟩] = p.2) (hl : [(⟨a, b, s⟩ : Tm)].length + 2 * d.L.length ≤ 2 * c.L.length + 1) :
    RetLev W0 w c p (.returned (.tuple #[.agg #[.slice A' n' cp', .int .i64 d.w1, .int .i64 d.w2, .int .i64 d.a1, .int .i64 d.a2, .int .i64 d.bad], .slice (some ⟨Y.heap.size, 0, none⟩) 1 1]))
      (((((((Y.setCell ⟨w.heap.size + 1, 0, none⟩ (.slice A' n' cp')).setCell ⟨w.heap.size + 1, 1, none⟩ (.int .i64 d.w1)).setCell ⟨w.heap.size + 1, 2, none⟩ (.int .i64 d.w2)).setCell ⟨w.heap.size + 1, 3, none⟩ (.int .i64 d.a1)).setCell ⟨w.heap.size + 1, 4, none⟩ (.int .i64 d.a2)).setCell ⟨w.heap.size + 1, 5, none⟩ (.int .i64 d.bad)).alloc (.cells #[.int .i64 a, .int .i64 b, .string s] 68)) := by
  subst hp
  have hb := below_six h.below (b := w.heap.size + 1) (by omega) (.slice A' n' cp') (.int .i64 p.1.w1) (.int .i64 p.1.w2) (.int .i64 p.1.a1) (.int .i64 p.1.a2) (.int .i64 p.1.bad)
  exact ⟨A', n', cp', some ⟨Y.heap.size, 0, none⟩, 1, 1, [⟨a, b, s⟩], rfl, hT, tms_one (t := ⟨a, b, s⟩) (size_six _ _ _ _ _ _ _ _).symm, fun b hb => by cases hb; show w.heap.size ≤ Y.heap.size; have := h.top; omega, hx, hl, hb.alloc hb.size _⟩

set_option maxHeartbeats 16000000 in
theorem atom_name (f : Nat) (c : Cur) (ok : Ok c) (hk1 : (next c).k = 1) (hw : isB c 1 tTrue ≠ true ∧ isB c 1 tFalse ≠ true ∧ isB c 1 tIn ≠ true ∧ isB c 1 tMin ≠ true ∧ isB c 1 tMax ≠ true) (hnm : NamesSpec.isName (next c).t.data.toList = true) (h2 : (next c).k ≠ 2) (hno : isB c 3 tOpen = false) : AtOk f c := by
  intro A n cp W0 w hT hW
  have HNX := Lib.hid (next_say c A n cp ((w.alloc (rcO A n cp c)).alloc rcZ) (((hT.keep hW).alloc _).alloc _))
  obtain ⟨t, ht⟩ : ∃ t, t = next c := ⟨_, rfl⟩
  have HS0 : Hid (∀ x2, Below ((w.alloc (rcO A n cp c)).alloc rcZ).heap.size ((w.alloc (rcO A n cp c)).alloc rcZ) x2 → AtS W0 w (x2.alloc (tkO t)) A n cp c x2.heap.size t) := Lib.hid (fun x2 hb => at_start hT hW hb)
  have HTA := Lib.hid (fun W hW => take_say c 3 tOpen A n cp W0 W hT hW)
  have htk : take c 3 tOpen = c := by unfold take; rw [if_neg (by rw [hno]; decide)]
  rw [hno, htk] at HTA
  have HON := Lib.hid (fun W hW => on_say c A n cp W0 W hT hW)
  obtain ⟨d, hd⟩ : ∃ d, d = on c := ⟨_, rfl⟩
  have hg : c.bad = 0 := (next_real (c := c) (by omega)).1
  have hnb : nameB c = true := nameB_yes hg hk1 hnm
  have hnc : nameC c = d := by rw [hd]; unfold nameC; rw [if_pos hnb]
  have hns : nameS c = t.t := by rw [ht]; unfold nameS; rw [if_pos hnb]
  have HE : Hid (atom (S f) c = (d, [⟨2, 0, t.t⟩])) := Lib.hid (by rw [← hnc, ← hns]; unfold atom; rw [if_neg h2, if_neg hw.1, if_neg hw.2.1, if_neg hw.2.2.1, if_neg hw.2.2.2.1, if_neg hw.2.2.2.2, if_neg (by rw [hno]; decide)])
  have HLN : Hid (d.L.length + 1 = c.L.length) := Lib.hid (by rw [hd]; exact (next_real (c := c) (by omega)).2.1)
  have HIS := Lib.hid (fun W => ris_say (s := t.t) (b := true) (by rw [ht]; exact hnm) (by rw [ht]; exact ok.next) W)
  rw [← hd] at HON
  have e1 : (t.k != 1) = false := by rw [ht]; simpa using hk1
  have w0 : (t.t.toList == [116, 114, 117, 101]) = false := by rw [word_is]; exact decide_eq_false (fun h => hw.1 (isB_yes hg hk1 (by rw [← ht]; exact h)))
  have w1 : (t.t.toList == [102, 97, 108, 115, 101]) = false := by rw [word_is]; exact decide_eq_false (fun h => hw.2.1 (isB_yes hg hk1 (by rw [← ht]; exact h)))
  have w2 : (t.t.toList == [105, 110]) = false := by rw [word_is]; exact decide_eq_false (fun h => hw.2.2.1 (isB_yes hg hk1 (by rw [← ht]; exact h)))
  have w3 : (t.t.toList == [109, 105, 110]) = false := by rw [word_is]; exact decide_eq_false (fun h => hw.2.2.2.1 (isB_yes hg hk1 (by rw [← ht]; exact h)))
  have w4 : (t.t.toList == [109, 97, 120]) = false := by rw [word_is]; exact decide_eq_false (fun h => hw.2.2.2.2 (isB_yes hg hk1 (by rw [← ht]; exact h)))
  have e2 : (t.k == 2) = false := by rw [ht]; simpa using h2
  clear h2 htk hno
  clear hd hnb hnc hns hw hk1 hg hnm ok
  rw [← ht] at HNX
  have HTK := Lib.hid ht
  clear ht hT hW
  go_enter Tryz.func107, Tryz.ntmps107
  go_wp2_with (go_at_call 20; (with_reducible refine HNX.out.mono ?_))
  rintro e x2 ⟨rfl, hb2⟩
  have HS1 := Lib.hid (HS0.out _ hb2)
  have HX2 : Hid (¬ x2.heap.size = w.heap.size + 1 ∧ ¬ w.heap.size + 1 = x2.heap.size) := Lib.hid (by have := hb2.size; simp only [World.size_alloc] at this; omega)
  obtain ⟨c0, c1, c2, c3, c4, c5⟩ := cells_6 HS1.out.cur
  obtain ⟨t0, t1, t2, t3⟩ := cells_4 HS1.out.tok
  clear hb2
  go_wp2_with (go_at_call 38; (with_reducible refine (HTA.out _ HS1.out.w0).mono ?_))
  rintro e y2 ⟨A2, n2, cp2, rfl, hT2, hb2⟩
  have HS2 := Lib.hid (HS1.out.on hb2)
  have HBB2 := Lib.hid hb2
  have HT2 := Lib.hid hT2
  clear hb2 hT2 c0 c1 c2 c3 c4 c5 t0 t1 t2 t3
  have HS3 := Lib.hid (HS2.out.alloc (rcO A2 n2 cp2 c))
  obtain ⟨c0, c1, c2, c3, c4, c5⟩ := cells_6 HS3.out.cur
  obtain ⟨t0, t1, t2, t3⟩ := cells_4 HS3.out.tok
  go_wp2_with (go_at_call 51; (with_reducible refine (HIS.out _).mono ?_))
  rintro e y4 ⟨rfl, hb4⟩
  have HS4 := Lib.hid (HS3.out.on hb4)
  have HBB4 := Lib.hid hb4
  clear hb4 c0 c1 c2 c3 c4 c5 t0 t1 t2 t3
  obtain ⟨c0, c1, c2, c3, c4, c5⟩ := cells_6 HS4.out.cur
  obtain ⟨t0, t1, t2, t3⟩ := cells_4 HS4.out.tok
  have HSD := Lib.hid (HS4.out.on (Below.refl _ _).drew)
  have HSE := Lib.hid (HSD.out.alloc (.cells #[.int .i64 2, .int .i64 0, .string t.t] 68))
  have HSF := Lib.hid ((HS4.out.alloc (.cells #[.int .i64 2, .int .i64 0, .string t.t] 68)).on (Below.refl _ _).drew)
  obtain ⟨a0, a1, a2, a3, a4, a5⟩ := cells_6 HSF.out.cur
  have hne1 : ¬ x2.heap.size = w.heap.size + 1 := HX2.out.1
  have hne2 : ¬ w.heap.size + 1 = x2.heap.size := HX2.out.2
  go_wp2_with fail
  go_region_law (first
    | (go_simp; go_at_call 68; (with_reducible refine (HON.out y4.drew HSD.out.w0).mono ?_); rintro e x3 ⟨A3, n3, cp3, rfl, hT3, hb3⟩; have HT3 := Lib.hid hT3; have HSX := Lib.hid (HSD.out.on hb3); obtain ⟨u0, u1, u2, u3⟩ := cells_4 HSX.out.tok; obtain ⟨r0, r1, r2, r3, r4, r5⟩ := cells_6 (HSX.out.alloc (.cells #[.int .i64 2, .int .i64 0, .string t.t] 68)).res; obtain ⟨g0, g1, g2, g3, g4, g5⟩ := free_6 (HSX.out.alloc (.cells #[.int .i64 2, .int .i64 0, .string t.t] 68)).res; obtain ⟨s0, s1, s2, s3, s4, s5⟩ := cells_6 HSX.out.res; obtain ⟨h0, h1, h2, h3, h4, h5⟩ := free_6 HSX.out.res)
    | (go_simp; go_at_call 68; (with_reducible refine (HON.out (y4.alloc (.cells #[.int .i64 2, .int .i64 0, .string t.t] 68)).drew HSF.out.w0).mono ?_); rintro e x3 ⟨A3, n3, cp3, rfl, hT3, hb3⟩; have HT3 := Lib.hid hT3; have HSX := Lib.hid (HSF.out.on hb3); have HTB := Lib.hid ((tms_lit1 (w := y4) (a := 2) (n := 0) (s := t.t)).keep (w' := x3) (undrew hb3)); obtain ⟨r0, r1, r2, r3, r4, r5⟩ := cells_6 HSX.out.res; obtain ⟨g0, g1, g2, g3, g4, g5⟩ := free_6 HSX.out.res))

  all_goals
    go_wp2_with fail
    first
      | (with_reducible refine @bodyPost_ret _ _ _ _ (((((((x3.alloc (.cells #[.int .i64 2, .int .i64 0, .string t.t] 68)).setCell ⟨w.heap.size + 1, 0, none⟩ (.slice A3 n3 cp3)).setCell ⟨w.heap.size + 1, 1, none⟩ (.int .i64 d.w1)).setCell ⟨w.heap.size + 1, 2, none⟩ (.int .i64 d.w2)).setCell ⟨w.heap.size + 1, 3, none⟩ (.int .i64 d.a1)).setCell ⟨w.heap.size + 1, 4, none⟩ (.int .i64 d.a2)).setCell ⟨w.heap.size + 1, 5, none⟩ (.int .i64 d.bad)) (.tuple #[.agg #[.slice A3 n3 cp3, .int .i64 d.w1, .int .i64 d.w2, .int .i64 d.a1, .int .i64 d.a2, .int .i64 d.bad], .slice (some ⟨x3.heap.size, 0, none⟩) 1 1]) ?_ ?_ ?_
         rotate_left
         · rfl
         rotate_right
         · obtain ⟨q0, q1, q2, q3, q4, q5⟩ := store_six (blk_of (HSX.out.alloc (.cells #[.int .i64 2, .int .i64 0, .string t.t] 68)).res (n := 6) rfl) (.slice A3 n3 cp3) (.int .i64 d.w1) (.int .i64 d.w2) (.int .i64 d.a1) (.int .i64 d.a2) (.int .i64 d.bad)
           simp [results, Tryz.results107, go_sem, q0, q1, q2, q3, q4, q5]
         · exact (HSX.out.alloc (.cells #[.int .i64 2, .int .i64 0, .string t.t] 68)).ret HT3.out tms_lit1 (own_lit (by have := HSX.out.top; omega)) (by rw [HE.out]) (fun _ => by rw [HE.out]) (by have := HLN.out; simp only [List.length_cons, List.length_nil]; omega))
      | (with_reducible refine @bodyPost_ret _ _ _ _ (((((((x3.setCell ⟨w.heap.size + 1, 0, none⟩ (.slice A3 n3 cp3)).setCell ⟨w.heap.size + 1, 1, none⟩ (.int .i64 d.w1)).setCell ⟨w.heap.size + 1, 2, none⟩ (.int .i64 d.w2)).setCell ⟨w.heap.size + 1, 3, none⟩ (.int .i64 d.a1)).setCell ⟨w.heap.size + 1, 4, none⟩ (.int .i64 d.a2)).setCell ⟨w.heap.size + 1, 5, none⟩ (.int .i64 d.bad)).alloc (.cells #[.int .i64 2, .int .i64 0, .string t.t] 68)) (.tuple #[.agg #[.slice A3 n3 cp3, .int .i64 d.w1, .int .i64 d.w2, .int .i64 d.a1, .int .i64 d.a2, .int .i64 d.bad], .slice (some ⟨x3.heap.size, 0, none⟩) 1 1]) ?_ ?_ ?_
         rotate_left
         · rfl
         rotate_right
         · have hk6 := (heap_alloc_old _ (.cells #[.int .i64 2, .int .i64 0, .string t.t] 68) (by have := HSX.out.top; simp only [size_six]; omega)).trans (six_block HSX.out.res (.slice A3 n3 cp3) (.int .i64 d.w1) (.int .i64 d.w2) (.int .i64 d.a1) (.int .i64 d.a2) (.int .i64 d.bad))
           obtain ⟨q0, q1, q2, q3, q4, q5⟩ := cells_6 hk6
           simp [results, Tryz.results107, go_sem, q0, q1, q2, q3, q4, q5]
         · exact HSX.out.ret_late HT3.out (by rw [HE.out]) (fun _ => by rw [HE.out]) (by have := HLN.out; simp only [List.length_cons, List.length_nil]; omega))
      | (with_reducible refine @bodyPost_ret _ _ _ _ ((((((x3.setCell ⟨w.heap.size + 1, 0, none⟩ (.slice A3 n3 cp3)).setCell ⟨w.heap.size + 1, 1, none⟩ (.int .i64 d.w1)).setCell ⟨w.heap.size + 1, 2, none⟩ (.int .i64 d.w2)).setCell ⟨w.heap.size + 1, 3, none⟩ (.int .i64 d.a1)).setCell ⟨w.heap.size + 1, 4, none⟩ (.int .i64 d.a2)).setCell ⟨w.heap.size + 1, 5, none⟩ (.int .i64 d.bad)) (.tuple #[.agg #[.slice A3 n3 cp3, .int .i64 d.w1, .int .i64 d.w2, .int .i64 d.a1, .int .i64 d.a2, .int .i64 d.bad], .slice (some ⟨y4.heap.size, 0, none⟩) 1 1]) ?_ ?_ ?_
         rotate_left
         · rfl
         rotate_right
         · obtain ⟨q0, q1, q2, q3, q4, q5⟩ := store_six (blk_of HSX.out.res (n := 6) rfl) (.slice A3 n3 cp3) (.int .i64 d.w1) (.int .i64 d.w2) (.int .i64 d.a1) (.int .i64 d.a2) (.int .i64 d.bad)
           simp [results, Tryz.results107, go_sem, q0, q1, q2, q3, q4, q5]
         · exact HSX.out.ret HT3.out HTB.out (own_lit (by have := HS4.out.top; omega)) (by rw [HE.out]) (fun _ => by rw [HE.out]) (by have := HLN.out; simp only [List.length_cons, List.length_nil]; omega))
end Go.Proofs.YtcfcpbkeedfbpaaGreatDoor
