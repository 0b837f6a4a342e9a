/- ExprRefAtom, joined. -/
import Derived.Test.YtcfcpbkeedfbpaaGreatDoorMActReads14
namespace Go.Proofs.YtcfcpbkeedfbpaaGreatDoor
open Go.RowKit CurSpec TermSpec ExprSpec NamesSpec
set_option maxRecDepth 100000

/-- Behind the first call: the cursor's block, the result's, the token's. -/
structure AtS (W0 w wN : World) (A : Option Addr) (n cp : Nat) (c : Cur) (tb : Nat) (t : Tk) : Prop where
  toks : Toks W0 (.slice A n cp) c.L
  w0 : Below W0.heap.size W0 wN
  cur : wN.heap[w.heap.size]? = some (rcO A n cp c)
  res : wN.heap[w.heap.size + 1]? = some rcZ
  tok : wN.heap[tb]? = some (tkO t)
  below : Below w.heap.size w wN
  top : w.heap.size + 2 ≤ wN.heap.size
theorem at_start {W0 w x2 : World} {A : Option Addr} {n cp : Nat} {c : Cur} {t : Tk} (hT : Toks W0 (.slice A n cp) c.L) (hW : Below W0.heap.size W0 w)
    (hb : Below ((w.alloc (rcO A n cp c)).alloc rcZ).heap.size ((w.alloc (rcO A n cp c)).alloc rcZ) x2) : AtS W0 w (x2.alloc (tkO t)) A n cp c x2.heap.size t := by
  obtain ⟨k1, k2, hB, hz⟩ := pair_blocks hb
  refine ⟨hT, below_two' hW (hB.alloc hB.size _), (heap_alloc_old _ _ (by omega)).trans k1, (heap_alloc_old _ _ hz).trans k2, heap_alloc_new _ _, hB.alloc hB.size _, by rw [World.size_alloc]; omega⟩
theorem AtS.on {W0 w wN wN' : World} {A : Option Addr} {n cp : Nat} {c : Cur} {tb : Nat} {t : Tk} (h : AtS W0 w wN A n cp c tb t) (hb : Below wN.heap.size wN wN') : AtS W0 w wN' A n cp c tb t :=
  ⟨h.toks, below_two' h.w0 hb, block_on h.cur hb, block_on h.res hb, block_on h.tok hb, below_two' h.below hb, Nat.le_trans h.top hb.size⟩
theorem AtS.alloc {W0 w wN : World} {A : Option Addr} {n cp : Nat} {c : Cur} {tb : Nat} {t : Tk} (h : AtS W0 w wN A n cp c tb t) (o : Obj) : AtS W0 w (wN.alloc o) A n cp c tb t := h.on ((Below.refl _ _).alloc (Nat.le_refl _) _)
theorem AtS.ret {W0 w Y : World} {A : Option Addr} {n cp : Nat} {c : Cur} {tb : Nat} {t : Tk} (h : AtS W0 w Y A n cp c tb t) {d : Cur} {p : Pa} {A' : Option Addr} {n' cp' : Nat} {A2 : Option Addr} {n2 c2 : Nat} {x : List Tm}
    (hT : Toks W0 (.slice A' n' cp') d.L) (hM : Tms Y (.slice A2 n2 c2) x) (ho : ∀ b, (Value.slice A2 n2 c2).ownBlock = some b → w.heap.size + 1 < b) (hp : p.1 = d) (hx : d.bad = 0 → x = p.2) (hl : x.length + 2 * d.L.length ≤ 2 * c.L.length + 1) :
    RetLev W0 w c p (.returned (.tuple #[.agg #[.slice A' n' cp', .int .i64 d.w1, .int .i64 d.w2, .int .i64 d.a1, .int .i64 d.a2, .int .i64 d.bad], .slice A2 n2 c2]))
      ((((((Y.setCell ⟨w.heap.size + 1, 0, none⟩ (.slice A' n' cp')).setCell ⟨w.heap.size + 1, 1, none⟩ (.int .i64 d.w1)).setCell ⟨w.heap.size + 1, 2, none⟩ (.int .i64 d.w2)).setCell ⟨w.heap.size + 1, 3, none⟩ (.int .i64 d.a1)).setCell ⟨w.heap.size + 1, 4, none⟩ (.int .i64 d.a2)).setCell ⟨w.heap.size + 1, 5, none⟩ (.int .i64 d.bad)) :=
  ret_lev (by omega) hT hM ho hp hx hl h.below
theorem tms_lit1 {w : World} {a n : Int} {s : ByteArray} : Tms (w.alloc (.cells #[.int .i64 a, .int .i64 n, .string s] 68)) (.slice (some ⟨w.heap.size, 0, none⟩) 1 1) [⟨a, n, s⟩] := tms_one (t := ⟨a, n, s⟩) rfl
theorem own_lit {k m : Nat} (h : m < k) : ∀ b, (Value.slice (some ⟨k, 0, none⟩) 1 1).ownBlock = some b → m < b := by
  intro b hb
  cases hb
  exact h
theorem own_nil {m : Nat} : ∀ b, (Value.slice none 0 0).ownBlock = some b → m < b := by
  intro b hb
  cases hb
def AtOk (f : Nat) (c : Cur) : Prop := ∀ (A : Option Addr) (n cp : Nat) (W0 w : World), Toks W0 (.slice A n cp) c.L → Below W0.heap.size W0 w →
  Calls Tryz.prog 107 #[.agg #[.slice A n cp, .int .i64 c.w1, .int .i64 c.w2, .int .i64 c.a1, .int .i64 c.a2, .int .i64 c.bad]] w (RetLev W0 w c (atom (S f) c))
set_option maxHeartbeats 4000000 in
theorem atom_num (f : Nat) (c : Cur) (ok : Ok c) (h2 : (next c).k = 2) : AtOk f c := by
  intro A n cp W0 w hT hW
  have HNX := Lib.hid (next_say c A n cp ((w.alloc (rcO A n cp c)).alloc rcZ) (((hT.keep hW).alloc _).alloc _))
  obtain ⟨t, ht⟩ : ∃ t, t = next c := ⟨_, rfl⟩
  have HS0 : Hid (∀ x2, Below ((w.alloc (rcO A n cp c)).alloc rcZ).heap.size ((w.alloc (rcO A n cp c)).alloc rcZ) x2 → AtS W0 w (x2.alloc (tkO t)) A n cp c x2.heap.size t) := Lib.hid (fun x2 hb => at_start hT hW hb)
  have HNM := Lib.hid (fun W hW => number_say c 1000000 ok A n cp W0 W hT hW)
  obtain ⟨d, hd⟩ : ∃ d, d = numC c 1000000 := ⟨_, rfl⟩
  obtain ⟨N, hN⟩ : ∃ N, N = numN c 1000000 := ⟨_, rfl⟩
  have HE : Hid (atom (S f) c = (d, [⟨1, N, ⟨#[]⟩⟩])) := Lib.hid (by rw [hd, hN]; exact if_pos h2)
  have HLN : Hid (d.L.length ≤ c.L.length) := Lib.hid (by rw [hd]; exact numC_len _ _)
  rw [← hd, ← hN] at HNM
  have e2 : (t.k == 2) = true := by rw [ht]; simpa using h2
  clear hd hN h2 ok
  rw [← ht] at HNX
  have HTK := Lib.hid ht
  clear ht hT hW
  go_enter Tryz.func107, Tryz.ntmps107
  go_wp2_with (go_at_call 20; (with_reducible refine HNX.out.mono ?_))
  rintro e x2 ⟨rfl, hb2⟩
  have HS1 := Lib.hid (HS0.out _ hb2)
  have HX2 : Hid (¬ x2.heap.size = w.heap.size + 1 ∧ ¬ w.heap.size + 1 = x2.heap.size) := Lib.hid (by have := hb2.size; simp only [World.size_alloc] at this; omega)
  obtain ⟨c0, c1, c2, c3, c4, c5⟩ := cells_6 HS1.out.cur
  obtain ⟨t0, t1, t2, t3⟩ := cells_4 HS1.out.tok
  clear hb2
  go_wp2_with (go_at_call 135; (with_reducible refine (HNM.out _ HS1.out.w0).mono ?_))
  rintro e y2 ⟨A2, n2, cp2, rfl, hT2, hb2⟩
  have HS2 := Lib.hid (HS1.out.on hb2)
  have HBB2 := Lib.hid hb2
  have HT2 := Lib.hid hT2
  clear hb2 hT2 c0 c1 c2 c3 c4 c5 t0 t1 t2 t3
  have HS3 := Lib.hid (HS2.out.alloc (rcO A2 n2 cp2 d))
  have HS4 := Lib.hid (HS3.out.alloc (.cells #[.int .i64 1, .int .i64 N, .string ⟨#[]⟩] 68))
  have HTF := HT2
  obtain ⟨r0, r1, r2, r3, r4, r5⟩ := cells_6 HS4.out.res
  obtain ⟨g0, g1, g2, g3, g4, g5⟩ := free_6 HS4.out.res
  go_wp2_with fail
  obtain ⟨q0, q1, q2, q3, q4, q5⟩ := store_six (blk_of HS4.out.res (n := 6) rfl) (.slice A2 n2 cp2) (.int .i64 d.w1) (.int .i64 d.w2) (.int .i64 d.a1) (.int .i64 d.a2) (.int .i64 d.bad)
  refine bodyPost_ret (v := .tuple #[.agg #[.slice A2 n2 cp2, .int .i64 d.w1, .int .i64 d.w2, .int .i64 d.a1, .int .i64 d.a2, .int .i64 d.bad], .slice (some ⟨(y2.alloc (rcO A2 n2 cp2 d)).heap.size, 0, none⟩) 1 1]) (by simp [results, Tryz.results107, go_sem, q0, q1, q2, q3, q4, q5]) rfl ?_
  exact HS4.out.ret HTF.out (tms_lit1) (own_lit (by rw [World.size_alloc]; have := HS2.out.top; omega)) (by rw [HE.out]) (fun _ => by rw [HE.out]) (by have := HLN.out; simp only [List.length_cons, List.length_nil]; omega)
set_option maxHeartbeats 4000000 in
theorem atom_open (f : Nat) (c : Cur) (hL : LevAt f 1) (ok : Ok c) (hf : Fit f (on c)) (hlen : c.L.length ≤ 100000) (hb : isB c 3 tOpen = true) : AtOk f c := by
  intro A n cp W0 w hT hW
  have HNX := Lib.hid (next_say c A n cp ((w.alloc (rcO A n cp c)).alloc rcZ) (((hT.keep hW).alloc _).alloc _))
  obtain ⟨t, ht⟩ : ∃ t, t = next c := ⟨_, rfl⟩
  have HS0 : Hid (∀ x2, Below ((w.alloc (rcO A n cp c)).alloc rcZ).heap.size ((w.alloc (rcO A n cp c)).alloc rcZ) x2 → AtS W0 w (x2.alloc (tkO t)) A n cp c x2.heap.size t) := Lib.hid (fun x2 hb => at_start hT hW hb)
  have HTA := Lib.hid (fun W hW => take_say c 3 tOpen A n cp W0 W hT hW)
  have htk : take c 3 tOpen = on c := by unfold take; rw [if_pos hb]
  rw [hb, htk] at HTA
  obtain ⟨d, hd⟩ : ∃ d, d = on c := ⟨_, rfl⟩
  obtain ⟨p, hp⟩ : ∃ p, p = S f d 1 := ⟨_, rfl⟩
  obtain ⟨z, hz⟩ : ∃ z, z = want p.1 3 tClose := ⟨_, rfl⟩
  have h2 : ¬ (next c).k = 2 := by have := (isB_next hb).2.1; omega
  have HE : Hid (atom (S f) c = (z, p.2)) := Lib.hid (by rw [hz, hp, hd]; unfold atom; rw [if_neg h2, if_neg (by rw [isB_not hb (.inl (by decide))]; decide), if_neg (by rw [isB_not hb (.inl (by decide))]; decide), if_neg (by rw [isB_not hb (.inl (by decide))]; decide), if_neg (by rw [isB_not hb (.inl (by decide))]; decide), if_neg (by rw [isB_not hb (.inl (by decide))]; decide), if_pos hb])
  have HLN : Hid (d.L.length + 1 = c.L.length ∧ p.1.L.length ≤ d.L.length ∧ z.L.length ≤ p.1.L.length ∧ (z.bad = 0 → p.1.bad = 0)) := Lib.hid ⟨by rw [hd]; exact (isB_real hb (by decide)).2.1, by rw [hp]; exact (S_less f d 1).1, by rw [hz]; exact want_len _ _ _, fun h => by rw [hz] at h; exact (isB_next (want_good h).1).1⟩
  have HLV := Lib.hid (fun A n cp W hT hW => hL d A n cp W0 W hT hW (by rw [hd]; exact ok.on) (by rw [hd]; exact hf) (by have := HLN.out; omega))
  have HMK := Lib.hid (fun A n cp W hT hW => mark_say p.1 tClose A n cp W0 W hT hW)
  rw [← hd] at HTA
  rw [← hp] at HLV
  rw [← hz] at HMK
  have e2 : (t.k == 2) = false := by rw [ht]; simpa using h2
  clear hd hp hz h2 ok htk hb hf hL
  rw [← ht] at HNX
  have HTK := Lib.hid ht
  clear ht hT hW
  go_enter Tryz.func107, Tryz.ntmps107
  go_wp2_with (go_at_call 20; (with_reducible refine HNX.out.mono ?_))
  rintro e x2 ⟨rfl, hb2⟩
  have HS1 := Lib.hid (HS0.out _ hb2)
  have HX2 : Hid (¬ x2.heap.size = w.heap.size + 1 ∧ ¬ w.heap.size + 1 = x2.heap.size) := Lib.hid (by have := hb2.size; simp only [World.size_alloc] at this; omega)
  obtain ⟨c0, c1, c2, c3, c4, c5⟩ := cells_6 HS1.out.cur
  obtain ⟨t0, t1, t2, t3⟩ := cells_4 HS1.out.tok
  clear hb2
  go_wp2_with (go_at_call 38; (with_reducible refine (HTA.out _ HS1.out.w0).mono ?_))
  rintro e y2 ⟨A2, n2, cp2, rfl, hT2, hb2⟩
  have HS2 := Lib.hid (HS1.out.on hb2)
  have HBB2 := Lib.hid hb2
  have HT2 := Lib.hid hT2
  clear hb2 hT2 c0 c1 c2 c3 c4 c5 t0 t1 t2 t3
  have HS3 := Lib.hid (HS2.out.alloc (rcO A2 n2 cp2 d))
  go_wp2_with (go_at_call 70; (with_reducible refine (HLV.out _ _ _ _ HT2.out HS3.out.w0).mono ?_))
  rintro e y4 ⟨A4, n4, cp4, Av4, nv4, cv4, x4, rfl, hT4, hM4, ho4, hx4, hl4, hb4⟩
  have HS4 := Lib.hid (HS3.out.on hb4)
  have HBB4 := Lib.hid hb4
  have HT4 := Lib.hid hT4
  have HL4 := Lib.hid (And.intro hM4 (And.intro ho4 (And.intro hx4 hl4)))
  clear hb4 hT4 hM4 ho4 hx4 hl4 
  have HS5 := Lib.hid (HS4.out.alloc (rcO A4 n4 cp4 p.1))
  go_wp2_with (go_at_call 40; (with_reducible refine (HMK.out _ _ _ _ HT4.out HS5.out.w0).mono ?_))
  rintro e y6 ⟨A6, n6, cp6, rfl, hT6, hb6⟩
  have HS6 := Lib.hid (HS5.out.on hb6)
  have HBB6 := Lib.hid hb6
  have HT6 := Lib.hid hT6
  clear hb6 hT6 
  have HTF := HT6
  obtain ⟨r0, r1, r2, r3, r4, r5⟩ := cells_6 HS6.out.res
  obtain ⟨g0, g1, g2, g3, g4, g5⟩ := free_6 HS6.out.res
  go_wp2_with fail
  obtain ⟨q0, q1, q2, q3, q4, q5⟩ := store_six (blk_of HS6.out.res (n := 6) rfl) (.slice A6 n6 cp6) (.int .i64 z.w1) (.int .i64 z.w2) (.int .i64 z.a1) (.int .i64 z.a2) (.int .i64 z.bad)
  refine bodyPost_ret (v := .tuple #[.agg #[.slice A6 n6 cp6, .int .i64 z.w1, .int .i64 z.w2, .int .i64 z.a1, .int .i64 z.a2, .int .i64 z.bad], .slice Av4 nv4 cv4]) (by simp [results, Tryz.results107, go_sem, q0, q1, q2, q3, q4, q5]) rfl ?_
  exact HS6.out.ret HTF.out ((HL4.out.1.alloc _).keep HBB6.out) (fun b hb => by have h1 := HL4.out.2.1 b hb; have h2 := HS2.out.top; rw [World.size_alloc] at h1; omega) (by rw [HE.out]) (fun h => by rw [HE.out]; exact HL4.out.2.2.1 (HLN.out.2.2.2 h)) (by have := HL4.out.2.2.2; have := HLN.out; omega)
set_option maxHeartbeats 4000000 in
theorem atom_bad (f : Nat) (c : Cur) (h1 : (next c).k ≠ 1) (h2 : (next c).k ≠ 2) (hno : isB c 3 tOpen = false) : AtOk f c := by
  intro A n cp W0 w hT hW
  have HNX := Lib.hid (next_say c A n cp ((w.alloc (rcO A n cp c)).alloc rcZ) (((hT.keep hW).alloc _).alloc _))
  obtain ⟨t, ht⟩ : ∃ t, t = next c := ⟨_, rfl⟩
  have HS0 : Hid (∀ x2, Below ((w.alloc (rcO A n cp c)).alloc rcZ).heap.size ((w.alloc (rcO A n cp c)).alloc rcZ) x2 → AtS W0 w (x2.alloc (tkO t)) A n cp c x2.heap.size t) := Lib.hid (fun x2 hb => at_start hT hW hb)
  have HTA := Lib.hid (fun W hW => take_say c 3 tOpen A n cp W0 W hT hW)
  have htk : take c 3 tOpen = c := by unfold take; rw [if_neg (by rw [hno]; decide)]
  rw [hno, htk] at HTA
  have HFL := Lib.hid (fun W hW => fail_say c 2 A n cp W0 W hT hW)
  obtain ⟨d, hd⟩ : ∃ d, d = fail c 2 := ⟨_, rfl⟩
  have hnc : nameC c = d := by rw [hd]; unfold nameC; rw [if_neg (by rw [nameB_no1 h1]; decide)]
  have hw : ∀ s, ¬ isB c 1 s = true := fun s h => h1 (isB_next h).2.1
  have HE : Hid (atom (S f) c = (d, [⟨2, 0, nameS c⟩])) := Lib.hid (by rw [← hnc]; unfold atom; rw [if_neg h2, if_neg (hw _), if_neg (hw _), if_neg (hw _), if_neg (hw _), if_neg (hw _), if_neg (by rw [hno]; decide)])
  have HLN : Hid (d.L = c.L ∧ d.bad ≠ 0) := Lib.hid ⟨by rw [hd]; exact fail_len _ _, by rw [hd]; exact fail_bad (by decide)⟩
  rw [← hd] at HFL
  have e2 : (t.k == 2) = false := by rw [ht]; simpa using h2
  have e1 : (t.k != 1) = true := by rw [ht]; simpa using h1
  clear h2 htk hno
  clear hd hnc hw h1
  rw [← ht] at HNX
  have HTK := Lib.hid ht
  clear ht hT hW
  go_enter Tryz.func107, Tryz.ntmps107
  go_wp2_with (go_at_call 20; (with_reducible refine HNX.out.mono ?_))
  rintro e x2 ⟨rfl, hb2⟩
  have HS1 := Lib.hid (HS0.out _ hb2)
  have HX2 : Hid (¬ x2.heap.size = w.heap.size + 1 ∧ ¬ w.heap.size + 1 = x2.heap.size) := Lib.hid (by have := hb2.size; simp only [World.size_alloc] at this; omega)
  obtain ⟨c0, c1, c2, c3, c4, c5⟩ := cells_6 HS1.out.cur
  obtain ⟨t0, t1, t2, t3⟩ := cells_4 HS1.out.tok
  clear hb2
  go_wp2_with (go_at_call 38; (with_reducible refine (HTA.out _ HS1.out.w0).mono ?_))
  rintro e y2 ⟨A2, n2, cp2, rfl, hT2, hb2⟩
  have HS2 := Lib.hid (HS1.out.on hb2)
  have HBB2 := Lib.hid hb2
  have HT2 := Lib.hid hT2
  clear hb2 hT2 c0 c1 c2 c3 c4 c5 t0 t1 t2 t3
  have HS3 := Lib.hid (HS2.out.alloc (rcO A2 n2 cp2 c))
  obtain ⟨c0, c1, c2, c3, c4, c5⟩ := cells_6 HS3.out.cur
  obtain ⟨t0, t1, t2, t3⟩ := cells_4 HS3.out.tok
  go_wp2_with (go_at_call 37; (with_reducible refine (HFL.out _ HS3.out.w0).mono ?_))
  rintro e y4 ⟨A4, n4, cp4, rfl, hT4, hb4⟩
  have HS4 := Lib.hid (HS3.out.on hb4)
  have HBB4 := Lib.hid hb4
  have HT4 := Lib.hid hT4
  clear hb4 hT4 c0 c1 c2 c3 c4 c5 t0 t1 t2 t3
  have HTF := HT4
  obtain ⟨r0, r1, r2, r3, r4, r5⟩ := cells_6 HS4.out.res
  obtain ⟨g0, g1, g2, g3, g4, g5⟩ := free_6 HS4.out.res
  go_wp2_with fail
  obtain ⟨q0, q1, q2, q3, q4, q5⟩ := store_six (blk_of HS4.out.res (n := 6) rfl) (.slice A4 n4 cp4) (.int .i64 d.w1) (.int .i64 d.w2) (.int .i64 d.a1) (.int .i64 d.a2) (.int .i64 d.bad)
  refine bodyPost_ret (v := .tuple #[.agg #[.slice A4 n4 cp4, .int .i64 d.w1, .int .i64 d.w2, .int .i64 d.a1, .int .i64 d.a2, .int .i64 d.bad], .slice none 0 0]) (by simp [results, Tryz.results107, go_sem, q0, q1, q2, q3, q4, q5]) rfl ?_
  exact HS4.out.ret HTF.out (tmsNil _) (own_nil) (by rw [HE.out]) (fun h => absurd h HLN.out.2) (by rw [HLN.out.1]; simp)
theorem word_is (s : ByteArray) (l : List UInt8) : (s.toList == l) = decide (s = ⟨l.toArray⟩) := by
  rw [ByteArray.toList_eq]
  by_cases h : s = ⟨l.toArray⟩
  · subst h; simp
  · rw [decide_eq_false h]
    rw [beq_eq_false_iff_ne]
    intro he
    exact h (ByteArray.ext (by rw [← he]))
set_option maxHeartbeats 4000000 in
theorem atom_w0 (f : Nat) (c : Cur) (hb : isB c 1 tTrue = true) (h2 : (next c).k ≠ 2) (hno : isB c 3 tOpen = false) : AtOk f c := by
  intro A n cp W0 w hT hW
  have HNX := Lib.hid (next_say c A n cp ((w.alloc (rcO A n cp c)).alloc rcZ) (((hT.keep hW).alloc _).alloc _))
  obtain ⟨t, ht⟩ : ∃ t, t = next c := ⟨_, rfl⟩
  have HS0 : Hid (∀ x2, Below ((w.alloc (rcO A n cp c)).alloc rcZ).heap.size ((w.alloc (rcO A n cp c)).alloc rcZ) x2 → AtS W0 w (x2.alloc (tkO t)) A n cp c x2.heap.size t) := Lib.hid (fun x2 hb => at_start hT hW hb)
  have HTA := Lib.hid (fun W hW => take_say c 3 tOpen A n cp W0 W hT hW)
  have htk : take c 3 tOpen = c := by unfold take; rw [if_neg (by rw [hno]; decide)]
  rw [hno, htk] at HTA
  have HON := Lib.hid (fun W hW => on_say c A n cp W0 W hT hW)
  obtain ⟨d, hd⟩ : ∃ d, d = on c := ⟨_, rfl⟩
  have HE : Hid (atom (S f) c = (d, [opT 9])) := Lib.hid (by rw [hd]; unfold atom; rw [if_neg h2, if_pos hb])
  have HLN : Hid (d.L.length + 1 = c.L.length) := Lib.hid (by rw [hd]; exact (isB_real hb (by decide)).2.1)
  rw [← hd] at HON
  have hk1 : (next c).k = 1 := (isB_next hb).2.1
  have htt : t.t = tTrue := by rw [ht]; exact (isB_next hb).2.2
  have e1 : (t.k != 1) = false := by rw [ht]; simpa using hk1
  have f0 : (t.t.toList == [116, 114, 117, 101]) = true := by rw [word_is, htt]; decide
  have f1 : (t.t.toList == [102, 97, 108, 115, 101]) = false := by rw [word_is, htt]; decide
  have f2 : (t.t.toList == [105, 110]) = false := by rw [word_is, htt]; decide
  have f3 : (t.t.toList == [109, 105, 110]) = false := by rw [word_is, htt]; decide
  have f4 : (t.t.toList == [109, 97, 120]) = false := by rw [word_is, htt]; decide
  have e2 : (t.k == 2) = false := by rw [ht]; simpa using h2
  clear h2 htk hno
  clear hd hb hk1 htt
  rw [← ht] at HNX
  have HTK := Lib.hid ht
  clear ht hT hW
  go_enter Tryz.func107, Tryz.ntmps107
  go_wp2_with (go_at_call 20; (with_reducible refine HNX.out.mono ?_))
  rintro e x2 ⟨rfl, hb2⟩
  have HS1 := Lib.hid (HS0.out _ hb2)
  have HX2 : Hid (¬ x2.heap.size = w.heap.size + 1 ∧ ¬ w.heap.size + 1 = x2.heap.size) := Lib.hid (by have := hb2.size; simp only [World.size_alloc] at this; omega)
  obtain ⟨c0, c1, c2, c3, c4, c5⟩ := cells_6 HS1.out.cur
  obtain ⟨t0, t1, t2, t3⟩ := cells_4 HS1.out.tok
  clear hb2
  go_wp2_with (go_at_call 38; (with_reducible refine (HTA.out _ HS1.out.w0).mono ?_))
  rintro e y2 ⟨A2, n2, cp2, rfl, hT2, hb2⟩
  have HS2 := Lib.hid (HS1.out.on hb2)
  have HBB2 := Lib.hid hb2
  have HT2 := Lib.hid hT2
  clear hb2 hT2 c0 c1 c2 c3 c4 c5 t0 t1 t2 t3
  have HS3 := Lib.hid (HS2.out.alloc (rcO A2 n2 cp2 c))
  obtain ⟨c0, c1, c2, c3, c4, c5⟩ := cells_6 HS3.out.cur
  obtain ⟨t0, t1, t2, t3⟩ := cells_4 HS3.out.tok
  go_wp2_with (go_at_call 68; (with_reducible refine (HON.out _ HS3.out.w0).mono ?_))
  rintro e y4 ⟨A4, n4, cp4, rfl, hT4, hb4⟩
  have HS4 := Lib.hid (HS3.out.on hb4)
  have HBB4 := Lib.hid hb4
  have HT4 := Lib.hid hT4
  clear hb4 hT4 c0 c1 c2 c3 c4 c5 t0 t1 t2 t3
  have HTF := HT4
  have HS5 := Lib.hid (HS4.out.alloc (.cells #[.int .i64 9, .int .i64 0, .string ⟨#[]⟩] 68))
  obtain ⟨r0, r1, r2, r3, r4, r5⟩ := cells_6 HS5.out.res
  obtain ⟨g0, g1, g2, g3, g4, g5⟩ := free_6 HS5.out.res
  go_wp2_with fail
  obtain ⟨q0, q1, q2, q3, q4, q5⟩ := store_six (blk_of HS5.out.res (n := 6) rfl) (.slice A4 n4 cp4) (.int .i64 d.w1) (.int .i64 d.w2) (.int .i64 d.a1) (.int .i64 d.a2) (.int .i64 d.bad)
  refine bodyPost_ret (v := .tuple #[.agg #[.slice A4 n4 cp4, .int .i64 d.w1, .int .i64 d.w2, .int .i64 d.a1, .int .i64 d.a2, .int .i64 d.bad], .slice (some ⟨y4.heap.size, 0, none⟩) 1 1]) (by simp [results, Tryz.results107, go_sem, q0, q1, q2, q3, q4, q5]) rfl ?_
  exact HS5.out.ret HTF.out (tms_lit1) (own_lit (by have := HS4.out.top; omega)) (by rw [HE.out]) (fun _ => by rw [HE.out]; rfl) (by have := HLN.out; simp only [List.length_cons, List.length_nil]; omega)
set_option maxHeartbeats 4000000 in
theorem atom_w1 (f : Nat) (c : Cur) (hb : isB c 1 tFalse = true) (h2 : (next c).k ≠ 2) (hno : isB c 3 tOpen = false) : AtOk f c := by
  intro A n cp W0 w hT hW
  have HNX := Lib.hid (next_say c A n cp ((w.alloc (rcO A n cp c)).alloc rcZ) (((hT.keep hW).alloc _).alloc _))
  obtain ⟨t, ht⟩ : ∃ t, t = next c := ⟨_, rfl⟩
  have HS0 : Hid (∀ x2, Below ((w.alloc (rcO A n cp c)).alloc rcZ).heap.size ((w.alloc (rcO A n cp c)).alloc rcZ) x2 → AtS W0 w (x2.alloc (tkO t)) A n cp c x2.heap.size t) := Lib.hid (fun x2 hb => at_start hT hW hb)
  have HTA := Lib.hid (fun W hW => take_say c 3 tOpen A n cp W0 W hT hW)
  have htk : take c 3 tOpen = c := by unfold take; rw [if_neg (by rw [hno]; decide)]
  rw [hno, htk] at HTA
  have HON := Lib.hid (fun W hW => on_say c A n cp W0 W hT hW)
  obtain ⟨d, hd⟩ : ∃ d, d = on c := ⟨_, rfl⟩
  have HE : Hid (atom (S f) c = (d, [opT 10])) := Lib.hid (by rw [hd]; unfold atom; rw [if_neg h2, if_neg (by rw [isB_not hb (.inr (by decide))]; decide), if_pos hb])
  have HLN : Hid (d.L.length + 1 = c.L.length) := Lib.hid (by rw [hd]; exact (isB_real hb (by decide)).2.1)
  rw [← hd] at HON
  have hk1 : (next c).k = 1 := (isB_next hb).2.1
  have htt : t.t = tFalse := by rw [ht]; exact (isB_next hb).2.2
  have e1 : (t.k != 1) = false := by rw [ht]; simpa using hk1
  have f0 : (t.t.toList == [116, 114, 117, 101]) = false := by rw [word_is, htt]; decide
  have f1 : (t.t.toList == [102, 97, 108, 115, 101]) = true := by rw [word_is, htt]; decide
  have f2 : (t.t.toList == [105, 110]) = false := by rw [word_is, htt]; decide
  have f3 : (t.t.toList == [109, 105, 110]) = false := by rw [word_is, htt]; decide
  have f4 : (t.t.toList == [109, 97, 120]) = false := by rw [word_is, htt]; decide
  have e2 : (t.k == 2) = false := by rw [ht]; simpa using h2
  clear h2 htk hno
  clear hd hb hk1 htt
  rw [← ht] at HNX
  have HTK := Lib.hid ht
  clear ht hT hW
  go_enter Tryz.func107, Tryz.ntmps107
  go_wp2_with (go_at_call 20; (with_reducible refine HNX.out.mono ?_))
  rintro e x2 ⟨rfl, hb2⟩
  have HS1 := Lib.hid (HS0.out _ hb2)
  have HX2 : Hid (¬ x2.heap.size = w.heap.size + 1 ∧ ¬ w.heap.size + 1 = x2.heap.size) := Lib.hid (by have := hb2.size; simp only [World.size_alloc] at this; omega)
  obtain ⟨c0, c1, c2, c3, c4, c5⟩ := cells_6 HS1.out.cur
  obtain ⟨t0, t1, t2, t3⟩ := cells_4 HS1.out.tok
  clear hb2
  go_wp2_with (go_at_call 38; (with_reducible refine (HTA.out _ HS1.out.w0).mono ?_))
  rintro e y2 ⟨A2, n2, cp2, rfl, hT2, hb2⟩
  have HS2 := Lib.hid (HS1.out.on hb2)
  have HBB2 := Lib.hid hb2
  have HT2 := Lib.hid hT2
  clear hb2 hT2 c0 c1 c2 c3 c4 c5 t0 t1 t2 t3
  have HS3 := Lib.hid (HS2.out.alloc (rcO A2 n2 cp2 c))
  obtain ⟨c0, c1, c2, c3, c4, c5⟩ := cells_6 HS3.out.cur
  obtain ⟨t0, t1, t2, t3⟩ := cells_4 HS3.out.tok
  go_wp2_with (go_at_call 68; (with_reducible refine (HON.out _ HS3.out.w0).mono ?_))
  rintro e y4 ⟨A4, n4, cp4, rfl, hT4, hb4⟩
  have HS4 := Lib.hid (HS3.out.on hb4)
  have HBB4 := Lib.hid hb4
  have HT4 := Lib.hid hT4
  clear hb4 hT4 c0 c1 c2 c3 c4 c5 t0 t1 t2 t3
  have HTF := HT4
  have HS5 := Lib.hid (HS4.out.alloc (.cells #[.int .i64 10, .int .i64 0, .string ⟨#[]⟩] 68))
  obtain ⟨r0, r1, r2, r3, r4, r5⟩ := cells_6 HS5.out.res
  obtain ⟨g0, g1, g2, g3, g4, g5⟩ := free_6 HS5.out.res
  go_wp2_with fail
  obtain ⟨q0, q1, q2, q3, q4, q5⟩ := store_six (blk_of HS5.out.res (n := 6) rfl) (.slice A4 n4 cp4) (.int .i64 d.w1) (.int .i64 d.w2) (.int .i64 d.a1) (.int .i64 d.a2) (.int .i64 d.bad)
  refine bodyPost_ret (v := .tuple #[.agg #[.slice A4 n4 cp4, .int .i64 d.w1, .int .i64 d.w2, .int .i64 d.a1, .int .i64 d.a2, .int .i64 d.bad], .slice (some ⟨y4.heap.size, 0, none⟩) 1 1]) (by simp [results, Tryz.results107, go_sem, q0, q1, q2, q3, q4, q5]) rfl ?_
  exact HS5.out.ret HTF.out (tms_lit1) (own_lit (by have := HS4.out.top; omega)) (by rw [HE.out]) (fun _ => by rw [HE.out]; rfl) (by have := HLN.out; simp only [List.length_cons, List.length_nil]; omega)
set_option maxHeartbeats 4000000 in
theorem atom_in (f : Nat) (c : Cur) (ok : Ok c) (hb : isB c 1 tIn = true) (h2 : (next c).k ≠ 2) (hno : isB c 3 tOpen = false) : AtOk f c := by
  intro A n cp W0 w hT hW
  have HNX := Lib.hid (next_say c A n cp ((w.alloc (rcO A n cp c)).alloc rcZ) (((hT.keep hW).alloc _).alloc _))
  obtain ⟨t, ht⟩ : ∃ t, t = next c := ⟨_, rfl⟩
  have HS0 : Hid (∀ x2, Below ((w.alloc (rcO A n cp c)).alloc rcZ).heap.size ((w.alloc (rcO A n cp c)).alloc rcZ) x2 → AtS W0 w (x2.alloc (tkO t)) A n cp c x2.heap.size t) := Lib.hid (fun x2 hb => at_start hT hW hb)
  have HTA := Lib.hid (fun W hW => take_say c 3 tOpen A n cp W0 W hT hW)
  have htk : take c 3 tOpen = c := by unfold take; rw [if_neg (by rw [hno]; decide)]
  rw [hno, htk] at HTA
  have HON := Lib.hid (fun W hW => on_say c A n cp W0 W hT hW)
  obtain ⟨d, hd⟩ : ∃ d, d = on c := ⟨_, rfl⟩
  obtain ⟨d2, hd2⟩ : ∃ d2, d2 = want d 3 tOpen := ⟨_, rfl⟩
  obtain ⟨d3, hd3⟩ : ∃ d3, d3 = nameC d2 := ⟨_, rfl⟩
  obtain ⟨N, hN⟩ : ∃ N, N = nameS d2 := ⟨_, rfl⟩
  obtain ⟨z, hz⟩ : ∃ z, z = want d3 3 tClose := ⟨_, rfl⟩
  have HE : Hid (atom (S f) c = (z, [⟨11, 0, N⟩])) := Lib.hid (by rw [hz, hN, hd3, hd2, hd]; unfold atom; rw [if_neg h2, if_neg (by rw [isB_not hb (.inr (by decide))]; decide), if_neg (by rw [isB_not hb (.inr (by decide))]; decide), if_pos hb])
  have HLN : Hid (d.L.length + 1 = c.L.length ∧ d2.L.length ≤ d.L.length ∧ d3.L.length ≤ d2.L.length ∧ z.L.length ≤ d3.L.length) := Lib.hid ⟨by rw [hd]; exact (isB_real hb (by decide)).2.1, by rw [hd2]; exact want_len _ _ _, by rw [hd3]; exact nameC_len _, by rw [hz]; exact want_len _ _ _⟩
  have HMK := Lib.hid (fun A n cp W hT hW => mark_say d tOpen A n cp W0 W hT hW)
  have HNA := Lib.hid (fun A n cp W hT hW => name_say d2 (by rw [hd2, hd]; exact ok.on.want _ _) A n cp W0 W hT hW)
  have HMC := Lib.hid (fun A n cp W hT hW => mark_say d3 tClose A n cp W0 W hT hW)
  rw [← hd] at HON
  rw [← hd2] at HMK
  rw [← hd3, ← hN] at HNA
  rw [← hz] at HMC
  have hk1 : (next c).k = 1 := (isB_next hb).2.1
  have htt : t.t = tIn := by rw [ht]; exact (isB_next hb).2.2
  have e1 : (t.k != 1) = false := by rw [ht]; simpa using hk1
  have f0 : (t.t.toList == [116, 114, 117, 101]) = false := by rw [word_is, htt]; decide
  have f1 : (t.t.toList == [102, 97, 108, 115, 101]) = false := by rw [word_is, htt]; decide
  have f2 : (t.t.toList == [105, 110]) = true := by rw [word_is, htt]; decide
  have f3 : (t.t.toList == [109, 105, 110]) = false := by rw [word_is, htt]; decide
  have f4 : (t.t.toList == [109, 97, 120]) = false := by rw [word_is, htt]; decide
  have e2 : (t.k == 2) = false := by rw [ht]; simpa using h2
  clear h2 htk hno
  clear hd hd2 hd3 hN hz hb hk1 htt ok
  rw [← ht] at HNX
  have HTK := Lib.hid ht
  clear ht hT hW
  go_enter Tryz.func107, Tryz.ntmps107
  go_wp2_with (go_at_call 20; (with_reducible refine HNX.out.mono ?_))
  rintro e x2 ⟨rfl, hb2⟩
  have HS1 := Lib.hid (HS0.out _ hb2)
  have HX2 : Hid (¬ x2.heap.size = w.heap.size + 1 ∧ ¬ w.heap.size + 1 = x2.heap.size) := Lib.hid (by have := hb2.size; simp only [World.size_alloc] at this; omega)
  obtain ⟨c0, c1, c2, c3, c4, c5⟩ := cells_6 HS1.out.cur
  obtain ⟨t0, t1, t2, t3⟩ := cells_4 HS1.out.tok
  clear hb2
  go_wp2_with (go_at_call 38; (with_reducible refine (HTA.out _ HS1.out.w0).mono ?_))
  rintro e y2 ⟨A2, n2, cp2, rfl, hT2, hb2⟩
  have HS2 := Lib.hid (HS1.out.on hb2)
  have HBB2 := Lib.hid hb2
  have HT2 := Lib.hid hT2
  clear hb2 hT2 c0 c1 c2 c3 c4 c5 t0 t1 t2 t3
  have HS3 := Lib.hid (HS2.out.alloc (rcO A2 n2 cp2 c))
  obtain ⟨c0, c1, c2, c3, c4, c5⟩ := cells_6 HS3.out.cur
  obtain ⟨t0, t1, t2, t3⟩ := cells_4 HS3.out.tok
  go_wp2_with (go_at_call 68; (with_reducible refine (HON.out _ HS3.out.w0).mono ?_))
  rintro e y4 ⟨A4, n4, cp4, rfl, hT4, hb4⟩
  have HS4 := Lib.hid (HS3.out.on hb4)
  have HBB4 := Lib.hid hb4
  have HT4 := Lib.hid hT4
  clear hb4 hT4 c0 c1 c2 c3 c4 c5 t0 t1 t2 t3
  go_wp2_with (go_at_call 40; (with_reducible refine (HMK.out _ _ _ _ HT4.out HS4.out.w0).mono ?_))
  rintro e y5 ⟨A5, n5, cp5, rfl, hT5, hb5⟩
  have HS5 := Lib.hid (HS4.out.on hb5)
  have HBB5 := Lib.hid hb5
  have HT5 := Lib.hid hT5
  clear hb5 hT5 
  go_wp2_with (go_at_call 39; (with_reducible refine (HNA.out _ _ _ _ HT5.out HS5.out.w0).mono ?_))
  rintro e y6 ⟨A6, n6, cp6, rfl, hT6, hb6⟩
  have HS6 := Lib.hid (HS5.out.on hb6)
  have HBB6 := Lib.hid hb6
  have HT6 := Lib.hid hT6
  clear hb6 hT6 
  have HS7 := Lib.hid (HS6.out.alloc (rcO A6 n6 cp6 d3))
  go_wp2_with (go_at_call 40; (with_reducible refine (HMC.out _ _ _ _ HT6.out HS7.out.w0).mono ?_))
  rintro e y8 ⟨A8, n8, cp8, rfl, hT8, hb8⟩
  have HS8 := Lib.hid (HS7.out.on hb8)
  have HBB8 := Lib.hid hb8
  have HT8 := Lib.hid hT8
  clear hb8 hT8 
  have HTF := HT8
  have HS9 := Lib.hid (HS8.out.alloc (.cells #[.int .i64 11, .int .i64 0, .string N] 68))
  obtain ⟨r0, r1, r2, r3, r4, r5⟩ := cells_6 HS9.out.res
  obtain ⟨g0, g1, g2, g3, g4, g5⟩ := free_6 HS9.out.res
  go_wp2_with fail
  obtain ⟨q0, q1, q2, q3, q4, q5⟩ := store_six (blk_of HS9.out.res (n := 6) rfl) (.slice A8 n8 cp8) (.int .i64 z.w1) (.int .i64 z.w2) (.int .i64 z.a1) (.int .i64 z.a2) (.int .i64 z.bad)
  refine bodyPost_ret (v := .tuple #[.agg #[.slice A8 n8 cp8, .int .i64 z.w1, .int .i64 z.w2, .int .i64 z.a1, .int .i64 z.a2, .int .i64 z.bad], .slice (some ⟨y8.heap.size, 0, none⟩) 1 1]) (by simp [results, Tryz.results107, go_sem, q0, q1, q2, q3, q4, q5]) rfl ?_
  exact HS9.out.ret HTF.out (tms_lit1) (own_lit (by have := HS8.out.top; omega)) (by rw [HE.out]) (fun _ => by rw [HE.out]) (by have := HLN.out; simp only [List.length_cons, List.length_nil]; omega)
set_option maxHeartbeats 4000000 in
theorem atom_w3 (f : Nat) (c : Cur) (hL : LevAt f 1) (ok : Ok c) (hf : Fit f (on c)) (hlen : c.L.length ≤ 100000) (hb : isB c 1 tMin = true) (h2 : (next c).k ≠ 2) (hno : isB c 3 tOpen = false) : AtOk f c := by
  intro A n cp W0 w hT hW
  have HNX := Lib.hid (next_say c A n cp ((w.alloc (rcO A n cp c)).alloc rcZ) (((hT.keep hW).alloc _).alloc _))
  obtain ⟨t, ht⟩ : ∃ t, t = next c := ⟨_, rfl⟩
  have HS0 : Hid (∀ x2, Below ((w.alloc (rcO A n cp c)).alloc rcZ).heap.size ((w.alloc (rcO A n cp c)).alloc rcZ) x2 → AtS W0 w (x2.alloc (tkO t)) A n cp c x2.heap.size t) := Lib.hid (fun x2 hb => at_start hT hW hb)
  have HTA := Lib.hid (fun W hW => take_say c 3 tOpen A n cp W0 W hT hW)
  have htk : take c 3 tOpen = c := by unfold take; rw [if_neg (by rw [hno]; decide)]
  rw [hno, htk] at HTA
  have HON := Lib.hid (fun W hW => on_say c A n cp W0 W hT hW)
  obtain ⟨d, hd⟩ : ∃ d, d = on c := ⟨_, rfl⟩
  obtain ⟨d2, hd2⟩ : ∃ d2, d2 = want d 3 tOpen := ⟨_, rfl⟩
  obtain ⟨p, hp⟩ : ∃ p, p = S f d2 1 := ⟨_, rfl⟩
  obtain ⟨d3, hd3⟩ : ∃ d3, d3 = want p.1 3 tComma := ⟨_, rfl⟩
  obtain ⟨q, hq⟩ : ∃ q, q = S f d3 1 := ⟨_, rfl⟩
  obtain ⟨z, hz⟩ : ∃ z, z = want q.1 3 tClose := ⟨_, rfl⟩
  have HE : Hid (atom (S f) c = (z, opT 7 :: (p.2 ++ q.2))) := Lib.hid (by rw [hz, hq, hd3, hp, hd2, hd]; unfold atom; rw [if_neg h2, if_neg (by rw [isB_not hb (.inr (by decide))]; decide), if_neg (by rw [isB_not hb (.inr (by decide))]; decide), if_neg (by rw [isB_not hb (.inr (by decide))]; decide), if_pos hb]; rfl)
  have HLN : Hid (d.L.length + 1 = c.L.length ∧ d2.L.length ≤ d.L.length ∧ p.1.L.length ≤ d2.L.length ∧ d3.L.length ≤ p.1.L.length ∧ q.1.L.length ≤ d3.L.length ∧ z.L.length ≤ q.1.L.length ∧ (z.bad = 0 → p.1.bad = 0 ∧ q.1.bad = 0)) := Lib.hid ⟨by rw [hd]; exact (isB_real hb (by decide)).2.1, by rw [hd2]; exact want_len _ _ _, by rw [hp]; exact (S_less f d2 1).1, by rw [hd3]; exact want_len _ _ _, by rw [hq]; exact (S_less f d3 1).1, by rw [hz]; exact want_len _ _ _, fun h => by
    rw [hz] at h
    have g1 := (isB_next (want_good h).1).1
    have g2 := g1
    rw [hq] at g2
    have g3 := (S_less f d3 1).2 g2
    rw [hd3] at g3
    exact ⟨(isB_next (want_good g3).1).1, g1⟩⟩
  have okd2 : Ok d2 := by rw [hd2, hd]; exact ok.on.want _ _
  have okp : Ok p.1 := by rw [hp]; exact ok_S f 1 okd2
  have okd3 : Ok d3 := by rw [hd3]; exact okp.want _ _
  have fd2 : Fit f d2 := by rw [hd2, hd]; exact fit_want hf _ _
  have fp : Fit f p.1 := by rw [hp]; exact fit_S fd2 1
  have fd3 : Fit f d3 := by rw [hd3]; exact fit_want fp _ _
  have HMK := Lib.hid (fun A n cp W hT hW => mark_say d tOpen A n cp W0 W hT hW)
  have HLV := Lib.hid (fun A n cp W hT hW => hL d2 A n cp W0 W hT hW okd2 fd2 (by have := HLN.out; omega))
  have HMC := Lib.hid (fun A n cp W hT hW => mark_say p.1 tComma A n cp W0 W hT hW)
  have HLW := Lib.hid (fun A n cp W hT hW => hL d3 A n cp W0 W hT hW okd3 fd3 (by have := HLN.out; omega))
  have HME := Lib.hid (fun A n cp W hT hW => mark_say q.1 tClose A n cp W0 W hT hW)
  rw [← hd] at HON
  rw [← hd2] at HMK
  rw [← hp] at HLV
  rw [← hd3] at HMC
  rw [← hq] at HLW
  rw [← hz] at HME
  have HLE := Lib.hid hlen
  have hk1 : (next c).k = 1 := (isB_next hb).2.1
  have htt : t.t = tMin := by rw [ht]; exact (isB_next hb).2.2
  have e1 : (t.k != 1) = false := by rw [ht]; simpa using hk1
  have f0 : (t.t.toList == [116, 114, 117, 101]) = false := by rw [word_is, htt]; decide
  have f1 : (t.t.toList == [102, 97, 108, 115, 101]) = false := by rw [word_is, htt]; decide
  have f2 : (t.t.toList == [105, 110]) = false := by rw [word_is, htt]; decide
  have f3 : (t.t.toList == [109, 105, 110]) = true := by rw [word_is, htt]; decide
  have f4 : (t.t.toList == [109, 97, 120]) = false := by rw [word_is, htt]; decide
  have e2 : (t.k == 2) = false := by rw [ht]; simpa using h2
  clear h2 htk hno
  clear hd hd2 hd3 hp hq hz hb hk1 htt ok okd2 okp okd3 fd2 fp fd3 hf hL hlen
  rw [← ht] at HNX
  have HTK := Lib.hid ht
  clear ht hT hW
  go_enter Tryz.func107, Tryz.ntmps107
  go_wp2_with (go_at_call 20; (with_reducible refine HNX.out.mono ?_))
  rintro e x2 ⟨rfl, hb2⟩
  have HS1 := Lib.hid (HS0.out _ hb2)
  have HX2 : Hid (¬ x2.heap.size = w.heap.size + 1 ∧ ¬ w.heap.size + 1 = x2.heap.size) := Lib.hid (by have := hb2.size; simp only [World.size_alloc] at this; omega)
  obtain ⟨c0, c1, c2, c3, c4, c5⟩ := cells_6 HS1.out.cur
  obtain ⟨t0, t1, t2, t3⟩ := cells_4 HS1.out.tok
  clear hb2
  go_wp2_with (go_at_call 38; (with_reducible refine (HTA.out _ HS1.out.w0).mono ?_))
  rintro e y2 ⟨A2, n2, cp2, rfl, hT2, hb2⟩
  have HS2 := Lib.hid (HS1.out.on hb2)
  have HBB2 := Lib.hid hb2
  have HT2 := Lib.hid hT2
  clear hb2 hT2 c0 c1 c2 c3 c4 c5 t0 t1 t2 t3
  have HS3 := Lib.hid (HS2.out.alloc (rcO A2 n2 cp2 c))
  obtain ⟨c0, c1, c2, c3, c4, c5⟩ := cells_6 HS3.out.cur
  obtain ⟨t0, t1, t2, t3⟩ := cells_4 HS3.out.tok
  go_wp2_with (go_at_call 68; (with_reducible refine (HON.out _ HS3.out.w0).mono ?_))
  rintro e y4 ⟨A4, n4, cp4, rfl, hT4, hb4⟩
  have HS4 := Lib.hid (HS3.out.on hb4)
  have HBB4 := Lib.hid hb4
  have HT4 := Lib.hid hT4
  clear hb4 hT4 c0 c1 c2 c3 c4 c5 t0 t1 t2 t3
  go_wp2_with (go_at_call 40; (with_reducible refine (HMK.out _ _ _ _ HT4.out HS4.out.w0).mono ?_))
  rintro e y5 ⟨A5, n5, cp5, rfl, hT5, hb5⟩
  have HS5 := Lib.hid (HS4.out.on hb5)
  have HBB5 := Lib.hid hb5
  have HT5 := Lib.hid hT5
  clear hb5 hT5 
  go_wp2_with (go_at_call 70; (with_reducible refine (HLV.out _ _ _ _ HT5.out HS5.out.w0).mono ?_))
  rintro e y6 ⟨A6, n6, cp6, Av6, nv6, cv6, x6, rfl, hT6, hM6, ho6, hx6, hl6, hb6⟩
  have HS6 := Lib.hid (HS5.out.on hb6)
  have HBB6 := Lib.hid hb6
  have HT6 := Lib.hid hT6
  have HL6 := Lib.hid (And.intro hM6 (And.intro ho6 (And.intro hx6 hl6)))
  clear hb6 hT6 hM6 ho6 hx6 hl6 
  have HS7 := Lib.hid (HS6.out.alloc (rcO A6 n6 cp6 p.1))
  go_wp2_with (go_at_call 40; (with_reducible refine (HMC.out _ _ _ _ HT6.out HS7.out.w0).mono ?_))
  rintro e y8 ⟨A8, n8, cp8, rfl, hT8, hb8⟩
  have HS8 := Lib.hid (HS7.out.on hb8)
  have HBB8 := Lib.hid hb8
  have HT8 := Lib.hid hT8
  clear hb8 hT8 
  go_wp2_with (go_at_call 70; (with_reducible refine (HLW.out _ _ _ _ HT8.out HS8.out.w0).mono ?_))
  rintro e y9 ⟨A9, n9, cp9, Av9, nv9, cv9, x9, rfl, hT9, hM9, ho9, hx9, hl9, hb9⟩
  have HS9 := Lib.hid (HS8.out.on hb9)
  have HBB9 := Lib.hid hb9
  have HT9 := Lib.hid hT9
  have HL9 := Lib.hid (And.intro hM9 (And.intro ho9 (And.intro hx9 hl9)))
  clear hb9 hT9 hM9 ho9 hx9 hl9 
  have HS10 := Lib.hid (HS9.out.alloc (rcO A9 n9 cp9 q.1))
  obtain ⟨t0, t1, t2, t3⟩ := cells_4 HS10.out.tok
  go_wp2_with (go_at_call 40; (with_reducible refine (HME.out _ _ _ _ HT9.out HS10.out.w0).mono ?_))
  rintro e y11 ⟨A11, n11, cp11, rfl, hT11, hb11⟩
  have HS11 := Lib.hid (HS10.out.on hb11)
  have HBB11 := Lib.hid hb11
  have HT11 := Lib.hid hT11
  clear hb11 hT11 t0 t1 t2 t3
  have HA6 := Lib.hid (((((HL6.out.1.alloc _).keep HBB8.out).keep HBB9.out).alloc (rcO A9 n9 cp9 q.1)).keep HBB11.out)
  have HB6 := Lib.hid ((HL9.out.1.alloc (rcO A9 n9 cp9 q.1)).keep HBB11.out)
  go_wp2_with (go_at_call 108; (with_reducible refine (over_say 7 _ _ x6 x9 _ HA6.out HB6.out (by have := HL6.out.2.2.2; have := HLN.out; have := HLE.out; omega) (by have := HL9.out.2.2.2; have := HLN.out; have := HLE.out; omega)).mono ?_))
  rintro e y12 ⟨Av12, nv12, cv12, rfl, hM12, ho12, hb12⟩
  have HS12 := Lib.hid (HS11.out.on hb12)
  have HBB12 := Lib.hid hb12
  have HL12 := Lib.hid (And.intro hM12 ho12)
  clear hb12 hM12 ho12 
  have HTF := HT11
  obtain ⟨r0, r1, r2, r3, r4, r5⟩ := cells_6 HS12.out.res
  obtain ⟨g0, g1, g2, g3, g4, g5⟩ := free_6 HS12.out.res
  go_wp2_with fail
  obtain ⟨q0, q1, q2, q3, q4, q5⟩ := store_six (blk_of HS12.out.res (n := 6) rfl) (.slice A11 n11 cp11) (.int .i64 z.w1) (.int .i64 z.w2) (.int .i64 z.a1) (.int .i64 z.a2) (.int .i64 z.bad)
  refine bodyPost_ret (v := .tuple #[.agg #[.slice A11 n11 cp11, .int .i64 z.w1, .int .i64 z.w2, .int .i64 z.a1, .int .i64 z.a2, .int .i64 z.bad], .slice Av12 nv12 cv12]) (by simp [results, Tryz.results107, go_sem, q0, q1, q2, q3, q4, q5]) rfl ?_
  exact HS12.out.ret HTF.out (HL12.out.1) (fun b hb => by have h1 := HL12.out.2 b hb; have h2 := HS11.out.top; omega) (by rw [HE.out]) (fun h => by rw [HE.out, HL6.out.2.2.1 (HLN.out.2.2.2.2.2.2 h).1, HL9.out.2.2.1 (HLN.out.2.2.2.2.2.2 h).2]) (by have := HL6.out.2.2.2; have := HL9.out.2.2.2; have := HLN.out; simp only [List.length_cons, List.length_append]; omega)
set_option maxHeartbeats 4000000 in
theorem atom_w4 (f : Nat) (c : Cur) (hL : LevAt f 1) (ok : Ok c) (hf : Fit f (on c)) (hlen : c.L.length ≤ 100000) (hb : isB c 1 tMax = true) (h2 : (next c).k ≠ 2) (hno : isB c 3 tOpen = false) : AtOk f c := by
  intro A n cp W0 w hT hW
  have HNX := Lib.hid (next_say c A n cp ((w.alloc (rcO A n cp c)).alloc rcZ) (((hT.keep hW).alloc _).alloc _))
  obtain ⟨t, ht⟩ : ∃ t, t = next c := ⟨_, rfl⟩
  have HS0 : Hid (∀ x2, Below ((w.alloc (rcO A n cp c)).alloc rcZ).heap.size ((w.alloc (rcO A n cp c)).alloc rcZ) x2 → AtS W0 w (x2.alloc (tkO t)) A n cp c x2.heap.size t) := Lib.hid (fun x2 hb => at_start hT hW hb)
  have HTA := Lib.hid (fun W hW => take_say c 3 tOpen A n cp W0 W hT hW)
  have htk : take c 3 tOpen = c := by unfold take; rw [if_neg (by rw [hno]; decide)]
  rw [hno, htk] at HTA
  have HON := Lib.hid (fun W hW => on_say c A n cp W0 W hT hW)
  obtain ⟨d, hd⟩ : ∃ d, d = on c := ⟨_, rfl⟩
  obtain ⟨d2, hd2⟩ : ∃ d2, d2 = want d 3 tOpen := ⟨_, rfl⟩
  obtain ⟨p, hp⟩ : ∃ p, p = S f d2 1 := ⟨_, rfl⟩
  obtain ⟨d3, hd3⟩ : ∃ d3, d3 = want p.1 3 tComma := ⟨_, rfl⟩
  obtain ⟨q, hq⟩ : ∃ q, q = S f d3 1 := ⟨_, rfl⟩
  obtain ⟨z, hz⟩ : ∃ z, z = want q.1 3 tClose := ⟨_, rfl⟩
  have HE : Hid (atom (S f) c = (z, opT 8 :: (p.2 ++ q.2))) := Lib.hid (by rw [hz, hq, hd3, hp, hd2, hd]; unfold atom; rw [if_neg h2, if_neg (by rw [isB_not hb (.inr (by decide))]; decide), if_neg (by rw [isB_not hb (.inr (by decide))]; decide), if_neg (by rw [isB_not hb (.inr (by decide))]; decide), if_neg (by rw [isB_not hb (.inr (by decide))]; decide), if_pos hb]; rfl)
  have HLN : Hid (d.L.length + 1 = c.L.length ∧ d2.L.length ≤ d.L.length ∧ p.1.L.length ≤ d2.L.length ∧ d3.L.length ≤ p.1.L.length ∧ q.1.L.length ≤ d3.L.length ∧ z.L.length ≤ q.1.L.length ∧ (z.bad = 0 → p.1.bad = 0 ∧ q.1.bad = 0)) := Lib.hid ⟨by rw [hd]; exact (isB_real hb (by decide)).2.1, by rw [hd2]; exact want_len _ _ _, by rw [hp]; exact (S_less f d2 1).1, by rw [hd3]; exact want_len _ _ _, by rw [hq]; exact (S_less f d3 1).1, by rw [hz]; exact want_len _ _ _, fun h => by
    rw [hz] at h
    have g1 := (isB_next (want_good h).1).1
    have g2 := g1
    rw [hq] at g2
    have g3 := (S_less f d3 1).2 g2
    rw [hd3] at g3
    exact ⟨(isB_next (want_good g3).1).1, g1⟩⟩
  have okd2 : Ok d2 := by rw [hd2, hd]; exact ok.on.want _ _
  have okp : Ok p.1 := by rw [hp]; exact ok_S f 1 okd2
  have okd3 : Ok d3 := by rw [hd3]; exact okp.want _ _
  have fd2 : Fit f d2 := by rw [hd2, hd]; exact fit_want hf _ _
  have fp : Fit f p.1 := by rw [hp]; exact fit_S fd2 1
  have fd3 : Fit f d3 := by rw [hd3]; exact fit_want fp _ _
  have HMK := Lib.hid (fun A n cp W hT hW => mark_say d tOpen A n cp W0 W hT hW)
  have HLV := Lib.hid (fun A n cp W hT hW => hL d2 A n cp W0 W hT hW okd2 fd2 (by have := HLN.out; omega))
  have HMC := Lib.hid (fun A n cp W hT hW => mark_say p.1 tComma A n cp W0 W hT hW)
  have HLW := Lib.hid (fun A n cp W hT hW => hL d3 A n cp W0 W hT hW okd3 fd3 (by have := HLN.out; omega))
  have HME := Lib.hid (fun A n cp W hT hW => mark_say q.1 tClose A n cp W0 W hT hW)
  rw [← hd] at HON
  rw [← hd2] at HMK
  rw [← hp] at HLV
  rw [← hd3] at HMC
  rw [← hq] at HLW
  rw [← hz] at HME
  have HLE := Lib.hid hlen
  have hk1 : (next c).k = 1 := (isB_next hb).2.1
  have htt : t.t = tMax := by rw [ht]; exact (isB_next hb).2.2
  have e1 : (t.k != 1) = false := by rw [ht]; simpa using hk1
  have f0 : (t.t.toList == [116, 114, 117, 101]) = false := by rw [word_is, htt]; decide
  have f1 : (t.t.toList == [102, 97, 108, 115, 101]) = false := by rw [word_is, htt]; decide
  have f2 : (t.t.toList == [105, 110]) = false := by rw [word_is, htt]; decide
  have f3 : (t.t.toList == [109, 105, 110]) = false := by rw [word_is, htt]; decide
  have f4 : (t.t.toList == [109, 97, 120]) = true := by rw [word_is, htt]; decide
  have e2 : (t.k == 2) = false := by rw [ht]; simpa using h2
  clear h2 htk hno
  clear hd hd2 hd3 hp hq hz hb hk1 htt ok okd2 okp okd3 fd2 fp fd3 hf hL hlen
  rw [← ht] at HNX
  have HTK := Lib.hid ht
  clear ht hT hW
  go_enter Tryz.func107, Tryz.ntmps107
  go_wp2_with (go_at_call 20; (with_reducible refine HNX.out.mono ?_))
  rintro e x2 ⟨rfl, hb2⟩
  have HS1 := Lib.hid (HS0.out _ hb2)
  have HX2 : Hid (¬ x2.heap.size = w.heap.size + 1 ∧ ¬ w.heap.size + 1 = x2.heap.size) := Lib.hid (by have := hb2.size; simp only [World.size_alloc] at this; omega)
  obtain ⟨c0, c1, c2, c3, c4, c5⟩ := cells_6 HS1.out.cur
  obtain ⟨t0, t1, t2, t3⟩ := cells_4 HS1.out.tok
  clear hb2
  go_wp2_with (go_at_call 38; (with_reducible refine (HTA.out _ HS1.out.w0).mono ?_))
  rintro e y2 ⟨A2, n2, cp2, rfl, hT2, hb2⟩
  have HS2 := Lib.hid (HS1.out.on hb2)
  have HBB2 := Lib.hid hb2
  have HT2 := Lib.hid hT2
  clear hb2 hT2 c0 c1 c2 c3 c4 c5 t0 t1 t2 t3
  have HS3 := Lib.hid (HS2.out.alloc (rcO A2 n2 cp2 c))
  obtain ⟨c0, c1, c2, c3, c4, c5⟩ := cells_6 HS3.out.cur
  obtain ⟨t0, t1, t2, t3⟩ := cells_4 HS3.out.tok
  go_wp2_with (go_at_call 68; (with_reducible refine (HON.out _ HS3.out.w0).mono ?_))
  rintro e y4 ⟨A4, n4, cp4, rfl, hT4, hb4⟩
  have HS4 := Lib.hid (HS3.out.on hb4)
  have HBB4 := Lib.hid hb4
  have HT4 := Lib.hid hT4
  clear hb4 hT4 c0 c1 c2 c3 c4 c5 t0 t1 t2 t3
  go_wp2_with (go_at_call 40; (with_reducible refine (HMK.out _ _ _ _ HT4.out HS4.out.w0).mono ?_))
  rintro e y5 ⟨A5, n5, cp5, rfl, hT5, hb5⟩
  have HS5 := Lib.hid (HS4.out.on hb5)
  have HBB5 := Lib.hid hb5
  have HT5 := Lib.hid hT5
  clear hb5 hT5 
  go_wp2_with (go_at_call 70; (with_reducible refine (HLV.out _ _ _ _ HT5.out HS5.out.w0).mono ?_))
  rintro e y6 ⟨A6, n6, cp6, Av6, nv6, cv6, x6, rfl, hT6, hM6, ho6, hx6, hl6, hb6⟩
  have HS6 := Lib.hid (HS5.out.on hb6)
  have HBB6 := Lib.hid hb6
  have HT6 := Lib.hid hT6
  have HL6 := Lib.hid (And.intro hM6 (And.intro ho6 (And.intro hx6 hl6)))
  clear hb6 hT6 hM6 ho6 hx6 hl6 
  have HS7 := Lib.hid (HS6.out.alloc (rcO A6 n6 cp6 p.1))
  go_wp2_with (go_at_call 40; (with_reducible refine (HMC.out _ _ _ _ HT6.out HS7.out.w0).mono ?_))
  rintro e y8 ⟨A8, n8, cp8, rfl, hT8, hb8⟩
  have HS8 := Lib.hid (HS7.out.on hb8)
  have HBB8 := Lib.hid hb8
  have HT8 := Lib.hid hT8
  clear hb8 hT8 
  go_wp2_with (go_at_call 70; (with_reducible refine (HLW.out _ _ _ _ HT8.out HS8.out.w0).mono ?_))
  rintro e y9 ⟨A9, n9, cp9, Av9, nv9, cv9, x9, rfl, hT9, hM9, ho9, hx9, hl9, hb9⟩
  have HS9 := Lib.hid (HS8.out.on hb9)
  have HBB9 := Lib.hid hb9
  have HT9 := Lib.hid hT9
  have HL9 := Lib.hid (And.intro hM9 (And.intro ho9 (And.intro hx9 hl9)))
  clear hb9 hT9 hM9 ho9 hx9 hl9 
  have HS10 := Lib.hid (HS9.out.alloc (rcO A9 n9 cp9 q.1))
  obtain ⟨t0, t1, t2, t3⟩ := cells_4 HS10.out.tok
  go_wp2_with (go_at_call 40; (with_reducible refine (HME.out _ _ _ _ HT9.out HS10.out.w0).mono ?_))
  rintro e y11 ⟨A11, n11, cp11, rfl, hT11, hb11⟩
  have HS11 := Lib.hid (HS10.out.on hb11)
  have HBB11 := Lib.hid hb11
  have HT11 := Lib.hid hT11
  clear hb11 hT11 t0 t1 t2 t3
  have HA6 := Lib.hid (((((HL6.out.1.alloc _).keep HBB8.out).keep HBB9.out).alloc (rcO A9 n9 cp9 q.1)).keep HBB11.out)
  have HB6 := Lib.hid ((HL9.out.1.alloc (rcO A9 n9 cp9 q.1)).keep HBB11.out)
  go_wp2_with (go_at_call 108; (with_reducible refine (over_say 8 _ _ x6 x9 _ HA6.out HB6.out (by have := HL6.out.2.2.2; have := HLN.out; have := HLE.out; omega) (by have := HL9.out.2.2.2; have := HLN.out; have := HLE.out; omega)).mono ?_))
  rintro e y12 ⟨Av12, nv12, cv12, rfl, hM12, ho12, hb12⟩
  have HS12 := Lib.hid (HS11.out.on hb12)
  have HBB12 := Lib.hid hb12
  have HL12 := Lib.hid (And.intro hM12 ho12)
  clear hb12 hM12 ho12 
  have HTF := HT11
  obtain ⟨r0, r1, r2, r3, r4, r5⟩ := cells_6 HS12.out.res
  obtain ⟨g0, g1, g2, g3, g4, g5⟩ := free_6 HS12.out.res
  go_wp2_with fail
  obtain ⟨q0, q1, q2, q3, q4, q5⟩ := store_six (blk_of HS12.out.res (n := 6) rfl) (.slice A11 n11 cp11) (.int .i64 z.w1) (.int .i64 z.w2) (.int .i64 z.a1) (.int .i64 z.a2) (.int .i64 z.bad)
  refine bodyPost_ret (v := .tuple #[.agg #[.slice A11 n11 cp11, .int .i64 z.w1, .int .i64 z.w2, .int .i64 z.a1, .int .i64 z.a2, .int .i64 z.bad], .slice Av12 nv12 cv12]) (by simp [results, Tryz.results107, go_sem, q0, q1, q2, q3, q4, q5]) rfl ?_
  exact HS12.out.ret HTF.out (HL12.out.1) (fun b hb => by have h1 := HL12.out.2 b hb; have h2 := HS11.out.top; omega) (by rw [HE.out]) (fun h => by rw [HE.out, HL6.out.2.2.1 (HLN.out.2.2.2.2.2.2 h).1, HL9.out.2.2.1 (HLN.out.2.2.2.2.2.2 h).2]) (by have := HL6.out.2.2.2; have := HL9.out.2.2.2; have := HLN.out; simp only [List.length_cons, List.length_append]; omega)
set_option maxHeartbeats 4000000 in
theorem atom_none (f : Nat) (c : Cur) (ok : Ok c) (hk1 : (next c).k = 1) (hw : isB c 1 tTrue ≠ true ∧ isB c 1 tFalse ≠ true ∧ isB c 1 tIn ≠ true ∧ isB c 1 tMin ≠ true ∧ isB c 1 tMax ≠ true) (hnm : NamesSpec.isName (next c).t.data.toList = false) (h2 : (next c).k ≠ 2) (hno : isB c 3 tOpen = false) : AtOk f c := by
  intro A n cp W0 w hT hW
  have HNX := Lib.hid (next_say c A n cp ((w.alloc (rcO A n cp c)).alloc rcZ) (((hT.keep hW).alloc _).alloc _))
  obtain ⟨t, ht⟩ : ∃ t, t = next c := ⟨_, rfl⟩
  have HS0 : Hid (∀ x2, Below ((w.alloc (rcO A n cp c)).alloc rcZ).heap.size ((w.alloc (rcO A n cp c)).alloc rcZ) x2 → AtS W0 w (x2.alloc (tkO t)) A n cp c x2.heap.size t) := Lib.hid (fun x2 hb => at_start hT hW hb)
  have HTA := Lib.hid (fun W hW => take_say c 3 tOpen A n cp W0 W hT hW)
  have htk : take c 3 tOpen = c := by unfold take; rw [if_neg (by rw [hno]; decide)]
  rw [hno, htk] at HTA
  have HFL := Lib.hid (fun W hW => fail_say c 2 A n cp W0 W hT hW)
  obtain ⟨d, hd⟩ : ∃ d, d = fail c 2 := ⟨_, rfl⟩
  have hg : c.bad = 0 := (next_real (c := c) (by omega)).1
  have hnc : nameC c = d := by rw [hd]; unfold nameC; rw [if_neg (by rw [nameB_no2 hnm]; decide)]
  have HE : Hid (atom (S f) c = (d, [⟨2, 0, nameS c⟩])) := Lib.hid (by rw [← hnc]; unfold atom; rw [if_neg h2, if_neg hw.1, if_neg hw.2.1, if_neg hw.2.2.1, if_neg hw.2.2.2.1, if_neg hw.2.2.2.2, if_neg (by rw [hno]; decide)])
  have HLN : Hid (d.L = c.L ∧ d.bad ≠ 0) := Lib.hid ⟨by rw [hd]; exact fail_len _ _, by rw [hd]; exact fail_bad (by decide)⟩
  have HIS := Lib.hid (fun W => ris_say (s := t.t) (b := false) (by rw [ht]; exact hnm) (by rw [ht]; exact ok.next) W)
  rw [← hd] at HFL
  have e1 : (t.k != 1) = false := by rw [ht]; simpa using hk1
  have w0 : (t.t.toList == [116, 114, 117, 101]) = false := by rw [word_is]; exact decide_eq_false (fun h => hw.1 (isB_yes hg hk1 (by rw [← ht]; exact h)))
  have w1 : (t.t.toList == [102, 97, 108, 115, 101]) = false := by rw [word_is]; exact decide_eq_false (fun h => hw.2.1 (isB_yes hg hk1 (by rw [← ht]; exact h)))
  have w2 : (t.t.toList == [105, 110]) = false := by rw [word_is]; exact decide_eq_false (fun h => hw.2.2.1 (isB_yes hg hk1 (by rw [← ht]; exact h)))
  have w3 : (t.t.toList == [109, 105, 110]) = false := by rw [word_is]; exact decide_eq_false (fun h => hw.2.2.2.1 (isB_yes hg hk1 (by rw [← ht]; exact h)))
  have w4 : (t.t.toList == [109, 97, 120]) = false := by rw [word_is]; exact decide_eq_false (fun h => hw.2.2.2.2 (isB_yes hg hk1 (by rw [← ht]; exact h)))
  have e2 : (t.k == 2) = false := by rw [ht]; simpa using h2
  clear h2 htk hno
  clear hd hnc hw hk1 hg hnm ok
  rw [← ht] at HNX
  have HTK := Lib.hid ht
  clear ht hT hW
  go_enter Tryz.func107, Tryz.ntmps107
  go_wp2_with (go_at_call 20; (with_reducible refine HNX.out.mono ?_))
  rintro e x2 ⟨rfl, hb2⟩
  have HS1 := Lib.hid (HS0.out _ hb2)
  have HX2 : Hid (¬ x2.heap.size = w.heap.size + 1 ∧ ¬ w.heap.size + 1 = x2.heap.size) := Lib.hid (by have := hb2.size; simp only [World.size_alloc] at this; omega)
  obtain ⟨c0, c1, c2, c3, c4, c5⟩ := cells_6 HS1.out.cur
  obtain ⟨t0, t1, t2, t3⟩ := cells_4 HS1.out.tok
  clear hb2
  go_wp2_with (go_at_call 38; (with_reducible refine (HTA.out _ HS1.out.w0).mono ?_))
  rintro e y2 ⟨A2, n2, cp2, rfl, hT2, hb2⟩
  have HS2 := Lib.hid (HS1.out.on hb2)
  have HBB2 := Lib.hid hb2
  have HT2 := Lib.hid hT2
  clear hb2 hT2 c0 c1 c2 c3 c4 c5 t0 t1 t2 t3
  have HS3 := Lib.hid (HS2.out.alloc (rcO A2 n2 cp2 c))
  obtain ⟨c0, c1, c2, c3, c4, c5⟩ := cells_6 HS3.out.cur
  obtain ⟨t0, t1, t2, t3⟩ := cells_4 HS3.out.tok
  go_wp2_with (go_at_call 51; (with_reducible refine (HIS.out _).mono ?_))
  rintro e y4 ⟨rfl, hb4⟩
  have HS4 := Lib.hid (HS3.out.on hb4)
  have HBB4 := Lib.hid hb4
  clear hb4 c0 c1 c2 c3 c4 c5 t0 t1 t2 t3
  obtain ⟨c0, c1, c2, c3, c4, c5⟩ := cells_6 HS4.out.cur
  go_wp2_with (go_at_call 37; (with_reducible refine (HFL.out _ HS4.out.w0).mono ?_))
  rintro e y5 ⟨A5, n5, cp5, rfl, hT5, hb5⟩
  have HS5 := Lib.hid (HS4.out.on hb5)
  have HBB5 := Lib.hid hb5
  have HT5 := Lib.hid hT5
  clear hb5 hT5 c0 c1 c2 c3 c4 c5
  have HTF := HT5
  obtain ⟨r0, r1, r2, r3, r4, r5⟩ := cells_6 HS5.out.res
  obtain ⟨g0, g1, g2, g3, g4, g5⟩ := free_6 HS5.out.res
  go_wp2_with fail
  obtain ⟨q0, q1, q2, q3, q4, q5⟩ := store_six (blk_of HS5.out.res (n := 6) rfl) (.slice A5 n5 cp5) (.int .i64 d.w1) (.int .i64 d.w2) (.int .i64 d.a1) (.int .i64 d.a2) (.int .i64 d.bad)
  refine bodyPost_ret (v := .tuple #[.agg #[.slice A5 n5 cp5, .int .i64 d.w1, .int .i64 d.w2, .int .i64 d.a1, .int .i64 d.a2, .int .i64 d.bad], .slice none 0 0]) (by simp [results, Tryz.results107, go_sem, q0, q1, q2, q3, q4, q5]) rfl ?_
  exact HS5.out.ret HTF.out (tmsNil _) (own_nil) (by rw [HE.out]) (fun h => absurd h HLN.out.2) (by rw [HLN.out.1]; simp)
end Go.Proofs.YtcfcpbkeedfbpaaGreatDoor
