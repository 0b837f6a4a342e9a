/- ExprPart, joined. -/
import Derived.Test.YtffdfajlfgeicaaDoorMExprLast
import Derived.Deep.LoopGhost
namespace Go.Proofs.YtffdfajlfgeicaaDoor
open Go.RowKit CurSpec TermSpec ExprSpec NamesSpec
set_option maxRecDepth 100000

theorem atom_good {rec : Cur → Int → Pa} {c : Cur} (h : (atom rec c).1.bad = 0) : c.bad = 0 := by
  by_cases h0 : c.bad = 0
  · exact h0
  · have e : atom rec c = (nameC c, [⟨2, 0, nameS c⟩]) := by
      unfold atom
      rw [if_neg (by rw [next_dead h0]; decide), if_neg (by rw [isB_dead _ _ h0]; decide), if_neg (by rw [isB_dead _ _ h0]; decide), if_neg (by rw [isB_dead _ _ h0]; decide), if_neg (by rw [isB_dead _ _ h0]; decide), if_neg (by rw [isB_dead _ _ h0]; decide), if_neg (by rw [isB_dead _ _ h0]; decide)]
    rw [e] at h
    have := (nameC_good h).1
    rw [nameB_dead h0] at this
    cases this
theorem last_mid {f : Nat} {c : Cur} (hP : c.bad = 0 → PartOk f) (ok : Ok c) (hf : Fit (f + 1) c) {W : World} {R B : Nat} {v : Value} {pre : List Tm} {x : List Tm} {v1 : Value} {l1 : List Tm} {w : World} (h : Mid W R B v pre c x v1 l1 w) :
    Calls Tryd.prog 68 #[.pointer (some ⟨R, 0, none⟩)] w fun e w' => ∃ v2 l2, e = .returned (.tuple #[]) ∧ Mid W R B v pre (atom (S f) c).1 (x ++ (atom (S f) c).2) v2 l2 w' := by
  refine (last_step f c hP ok hf R B v1 l1 w h.sig h.rd).mono ?_
  rintro e w' ⟨v2, l2, rfl, hr, hc, hh⟩
  exact ⟨v2, l2, rfl, h.part atom_good hr hc hh⟩

set_option maxHeartbeats 4000000 in
theorem head_step (f : Nat) (c : Cur) (hP : c.bad = 0 → PartOk f) (ok : Ok c) (hf : Fit (f + 1) c) (R B : Nat) (v : Value) (l : List Tm) (k : Int) (w : World) (hs : SignsIn w) (h : RdAt w R B v c l) :
    Calls Tryd.prog 45 #[.pointer (some ⟨R, 0, none⟩), .int .i64 k] w (RetHead w R B v l (hd (S f) c k)) := by
  have HP := Lib.hid hP
  have H0 := Lib.hid (Mid.start hs h)
  have r0 := H0.out.cell
  have HOK := Lib.hid ok
  have HF := Lib.hid hf
  have HFO : Hid (∀ {k : Int} {s : ByteArray}, isB c k s = true → k ≠ 0 → Fit f (on c)) := Lib.hid (fun hb hk _ => by
    have := isB_real hb hk
    have := hf this.1
    omega)
  clear hs h ok hf hP
  by_cases hn : k ≤ 3 ∧ isB c 1 tNot = true
  · have HE : Hid (hd (S f) c k = (((S f (on c) 3).1, opT 12 :: (S f (on c) 3).2), 3)) := Lib.hid (if_pos hn)
    have HPG := Lib.hid (HP.out (isB_next hn.2).1)
    have HFG := Lib.hid (HFO.out hn.2 (by decide))
    have HB := Lib.hid hn.2
    have hk := hn.1
    clear hn
    go_enter Tryd.func45, Tryd.ntmps45
    go_wp2_with (go_at_call 39; (with_reducible refine (take_yes H0.out (k := 1) (s := tNot) HB.out).mono ?_))
    rintro e w1 ⟨rfl, M1⟩
    have H1 := Lib.hid M1
    clear M1 r0
    go_wp2_with (go_at_call 67; (with_reducible refine (add_mid H1.out 12 0 ⟨#[]⟩ (by decide)).mono ?_))
    rintro e w2 ⟨v2, l2, rfl, M2⟩
    have H2 := Lib.hid M2
    clear M2
    go_wp2_with (go_at_call 24; (with_reducible refine (part_mid HPG.out H2.out 3 HOK.out.on HFG.out).mono ?_))
    rintro e w3 ⟨v3, l3, rfl, M3⟩
    have H3 := Lib.hid M3
    clear M3
    go_wp2_with fail
    go_ret
    exact H3.out.head HE.out
  · have hX : ∃ X : Prop, X := ⟨True, trivial⟩
    by_cases hk : k ≤ 3
    · have hnb : isB c 1 tNot = false := by simpa using fun h => hn ⟨hk, h⟩
      have HNB := Lib.hid hnb
      by_cases hg : isB c 3 tNeg = true
      · have HE : Hid (hd (S f) c k = (((S f (on c) 7).1, opT 3 :: (S f (on c) 7).2), 7)) := Lib.hid (by unfold hd; rw [if_neg hn, if_pos hg])
        have HPG := Lib.hid (HP.out (isB_next hg).1)
        have HFG := Lib.hid (HFO.out hg (by decide))
        have HB := Lib.hid hg
        clear hn hnb hg hX
        go_enter Tryd.func45, Tryd.ntmps45
        go_wp2_with (go_at_call 39; (with_reducible refine (take_no H0.out (k := 1) (s := tNot) HNB.out).mono ?_))
        rintro e w1 ⟨rfl, M1⟩
        have H1 := Lib.hid M1
        have r1 := M1.cell
        clear M1 r0
        go_wp2_with (go_at_call 39; (with_reducible refine (take_yes H1.out (k := 3) (s := tNeg) HB.out).mono ?_))
        rintro e w2 ⟨rfl, M2⟩
        have H2 := Lib.hid M2
        clear M2 r1
        go_wp2_with (go_at_call 67; (with_reducible refine (add_mid H2.out 3 0 ⟨#[]⟩ (by decide)).mono ?_))
        rintro e w3 ⟨v3, l3, rfl, M3⟩
        have H3 := Lib.hid M3
        clear M3
        go_wp2_with (go_at_call 24; (with_reducible refine (part_mid HPG.out H3.out 7 HOK.out.on HFG.out).mono ?_))
        rintro e w4 ⟨v4, l4, rfl, M4⟩
        have H4 := Lib.hid M4
        clear M4
        go_wp2_with fail
        go_ret
        exact H4.out.head HE.out
      · have HE : Hid (hd (S f) c k = (atom (S f) c, 8)) := Lib.hid (by unfold hd; rw [if_neg hn, if_neg hg])
        have hgb : isB c 3 tNeg = false := by simpa using hg
        have HGB := Lib.hid hgb
        clear hn hnb hg hgb hX
        go_enter Tryd.func45, Tryd.ntmps45
        go_wp2_with (go_at_call 39; (with_reducible refine (take_no H0.out (k := 1) (s := tNot) HNB.out).mono ?_))
        rintro e w1 ⟨rfl, M1⟩
        have H1 := Lib.hid M1
        have r1 := M1.cell
        clear M1 r0
        go_wp2_with (go_at_call 39; (with_reducible refine (take_no H1.out (k := 3) (s := tNeg) HGB.out).mono ?_))
        rintro e w2 ⟨rfl, M2⟩
        have H2 := Lib.hid M2
        clear M2 r1
        go_wp2_with (go_at_call 68; (with_reducible refine (last_mid HP.out HOK.out HF.out H2.out).mono ?_))
        rintro e w3 ⟨v3, l3, rfl, M3⟩
        have H3 := Lib.hid M3
        clear M3
        go_wp2_with fail
        go_ret
        exact H3.out.head HE.out
    · have hkf : decide (k ≤ 3) = false := decide_eq_false hk
      by_cases hg : isB c 3 tNeg = true
      · have HE : Hid (hd (S f) c k = (((S f (on c) 7).1, opT 3 :: (S f (on c) 7).2), 7)) := Lib.hid (by unfold hd; rw [if_neg hn, if_pos hg])
        have HPG := Lib.hid (HP.out (isB_next hg).1)
        have HFG := Lib.hid (HFO.out hg (by decide))
        have HB := Lib.hid hg
        clear hn hg hX
        go_enter Tryd.func45, Tryd.ntmps45
        go_wp2_with (go_at_call 39; (with_reducible refine (take_yes H0.out (k := 3) (s := tNeg) HB.out).mono ?_))
        (first | rintro e w2 rfl M2 | rintro e w2 ⟨rfl, M2⟩)
        have H2 := Lib.hid M2
        clear M2 r0
        go_wp2_with (go_at_call 67; (with_reducible refine (add_mid H2.out 3 0 ⟨#[]⟩ (by decide)).mono ?_))
        rintro e w3 ⟨v3, l3, rfl, M3⟩
        have H3 := Lib.hid M3
        clear M3
        go_wp2_with (go_at_call 24; (with_reducible refine (part_mid HPG.out H3.out 7 HOK.out.on HFG.out).mono ?_))
        rintro e w4 ⟨v4, l4, rfl, M4⟩
        have H4 := Lib.hid M4
        clear M4
        go_wp2_with fail
        go_ret
        exact H4.out.head HE.out
      · have HE : Hid (hd (S f) c k = (atom (S f) c, 8)) := Lib.hid (by unfold hd; rw [if_neg hn, if_neg hg])
        have hgb : isB c 3 tNeg = false := by simpa using hg
        have HGB := Lib.hid hgb
        clear hn hg hgb hX
        go_enter Tryd.func45, Tryd.ntmps45
        go_wp2_with (go_at_call 39; (with_reducible refine (take_no H0.out (k := 3) (s := tNeg) HGB.out).mono ?_))
        (first | rintro e w2 rfl M2 | rintro e w2 ⟨rfl, M2⟩)
        have H2 := Lib.hid M2
        clear M2 r0
        go_wp2_with (go_at_call 68; (with_reducible refine (last_mid HP.out HOK.out HF.out H2.out).mono ?_))
        rintro e w3 ⟨v3, l3, rfl, M3⟩
        have H3 := Lib.hid M3
        clear M3
        go_wp2_with fail
        go_ret
        exact H3.out.head HE.out

def PtRel (W : World) (R B : Nat) (v : Value) (pre : List Tm) (q : Int) (f : Nat) (G : Prop) (P : Pa) (g : Nat) (i : Value) (wr : World) : Prop :=
  ∃ lev c x v1 l1 k, i = .int .i64 lev ∧ Mid W R B v pre c x v1 l1 wr ∧ Ok c ∧ Fit k c ∧ k ≤ f ∧ (c.bad = 0 → G) ∧ C k lev q c x = P ∧ k = g
theorem hd_good {rec : Cur → Int → Pa} {c : Cur} {q : Int} (hb : (hd rec c q).1.1.bad = 0) : c.bad = 0 := by
  by_cases h0 : c.bad = 0
  · exact h0
  · have e : hd rec c q = (atom rec c, 8) := by
      unfold hd
      rw [if_neg (by rw [isB_dead _ _ h0]; simp), if_neg (by rw [isB_dead _ _ h0]; decide)]
    rw [e] at hb
    exact atom_good hb
/-- Behind the sign, a term put in: the sign's block is as it was. -/
theorem sg_hold {w w' : World} {R B : Nat} {v v' : Value} {i : Nat} {o : Obj} (h : w.heap[i]? = some o) (hne : i ≠ B ∧ i ≠ R ∧ v.ownBlock ≠ some i) (hh : Hold R B v v' w w') : w'.heap[i]? = some o ∧ i ≠ B ∧ i ≠ R ∧ v'.ownBlock ≠ some i := by
  have hi := (Array.getElem?_eq_some_iff.1 h).1
  exact ⟨(hh.block i hi hne.1 hne.2.1 hne.2.2).trans h, hne.1, hne.2.1, hh.apart hi hne.2.2⟩
set_option maxHeartbeats 8000000 in
theorem part_walk (f : Nat) (c : Cur) (hP : c.bad = 0 → ∀ g, g ≤ f → PartOk g) (ok : Ok c) (hf : Fit (f + 1) c) (R B : Nat) (v : Value) (l : List Tm) (q : Int) (w : World) (hs : SignsIn w) (h : RdAt w R B v c l) :
    Calls Tryd.prog 24 #[.pointer (some ⟨R, 0, none⟩), .int .i64 q] w (RetPart w R B v l (C f (hd (S f) c q).2 q (hd (S f) c q).1.1 (hd (S f) c q).1.2)) := by
  obtain ⟨A, cp, rfl⟩ := own_shape h.own
  obtain ⟨r0, r1⟩ := cells_2 h.blk
  obtain ⟨n, hn⟩ : ∃ n, n = l.length := ⟨_, rfl⟩
  have HH := Lib.hid (head_step f c (fun h0 => hP h0 f (Nat.le_refl _)) ok hf R B _ l q w hs h)
  have HD : Hid (Ok (hd (S f) c q).1.1 ∧ Fit f (hd (S f) c q).1.1 ∧ ((hd (S f) c q).1.1.bad = 0 → c.bad = 0)) := Lib.hid (by
    refine ⟨inv_ok.hd (fun c k h => ok_S f k h) ok q, fun hb => ?_, hd_good⟩
    exact (hf.fitHd (hd_good hb) q) hb)
  obtain ⟨D, hD⟩ : ∃ D, D = hd (S f) c q := ⟨_, rfl⟩
  rw [← hD] at HH HD ⊢
  obtain ⟨P, hPp⟩ : ∃ P, P = C f D.2 q D.1.1 D.1.2 := ⟨_, rfl⟩
  have HPP := Lib.hid hPp
  rw [← hPp]
  have HN := Lib.hid hn
  rw [← hn] at HH r1
  have HP := Lib.hid hP
  have HS := Lib.hid hs
  have HR := Lib.hid h
  clear hn hD hPp hP ok hf hs h
  go_enter Tryd.func24, Tryd.ntmps24
  go_wp2_with (go_at_call 45; (with_reducible refine HH.out.mono ?_))
  rintro e w1 ⟨v1, l1, rfl, hr1, hc1, hh1⟩
  have H1 : Hid (Mid w R B (.slice A n cp) l D.1.1 D.1.2 v1 l1 w1) := Lib.hid ⟨hr1, hc1, hh1, HS.out.hold (by rw [HN.out]; exact HR.out) hh1⟩
  clear hr1 hc1 hh1 r0 r1
  go_wp2_with fail
  go_loopg [5] f (fun g i wr => PtRel w R B (.slice A n cp) l q f (c.bad = 0) P g i wr)
  case atStart => exact ⟨D.2, D.1.1, D.1.2, v1, l1, f, rfl, H1.out, HD.out.1, HD.out.2.1, Nat.le_refl _, HD.out.2.2, HPP.out.symm, rfl⟩
  case round =>
    obtain ⟨lev, d, x, v2, l2, k, rfl, M2, okd, fd, hle, hG, hC, hk⟩ := hrel
    have HK := Lib.hid hk
    clear hk
    have HB := Lib.hid (between_at R B v2 d l2 lev q wr M2.sig M2.rd)
    have H2 := Lib.hid M2
    have HOK := Lib.hid okd
    have HC := Lib.hid hC
    cases hs : sgn d lev q with
    | none =>
      rw [hs] at HB
      have HE := Lib.hid (C_stop k x hs)
      clear M2 okd fd hle hC hs hG
      go_wp2_with (go_at_call 46; (with_reducible refine HB.out.mono ?_))
      rintro e x3 ⟨s, b, y, rfl, ⟨rfl, rfl, rfl⟩, hr3, hb3⟩
      have H3 := Lib.hid (H2.out.cur hr3.cur hb3 id)
      clear hr3 hb3
      go_wp2_with fail
      go_end0
      have hnl := HN.out
      subst hnl
      exact (H3.out.alloc _).ret (HC.out.symm.trans HE.out)
    | some s =>
      rw [hs] at HB
      have hd0 := sgn_good hs
      cases k with
      | zero => exact absurd hd0 fd.zero
      | succ g =>
        have HE := Lib.hid (C_step g x hs)
        have HFO := Lib.hid (fd.fitOn hs)
        have HFS := Lib.hid (fd.fitStep hs s.right)
        have HG := Lib.hid (hG hd0)
        have HPG := Lib.hid (HP.out (hG hd0) g (by omega))
        have HLE := Lib.hid hle
        clear M2 okd fd hle hC hs hG hd0
        go_wp2_with (go_at_call 46; (with_reducible refine HB.out.mono ?_))
        rintro e x3 ⟨s', b, y, rfl, ⟨rfl, rfl, rfl⟩, hr3, hb3⟩
        have H3 := Lib.hid (H2.out.cur hr3.cur hb3 (fun h => by rw [(on_bad d).1] at h; exact h))
        have HAP := Lib.hid (H3.out.rd.apart (Nat.le_refl _))
        obtain ⟨s0, s1, s2, s3, s4⟩ := cells_5 (heap_alloc_new x3 (sgO s'))
        have HINS : Hid (Calls Tryd.prog 47 #[.pointer (some ⟨R, 0, none⟩), .int .i64 n, .agg #[.int .i64 s'.op, .int .i64 0, .string ⟨#[]⟩]] (x3.alloc (sgO s')) (RetRd (x3.alloc (sgO s')) R B v2 (on d) (ins l2 l.length (opT s'.op)))) := Lib.hid (by
          rw [HN.out]
          exact insert_at R B v2 (on d) l2 l.length (opT s'.op) _ (H3.out.alloc _).rd H3.out.cap.1 (show (⟨#[]⟩ : ByteArray).size ≤ 9223372036854775807 by decide))
        clear hr3 hb3
        go_wp2_with (go_at_call 47; (with_reducible refine HINS.out.mono ?_))
        rintro e x4 ⟨v4, rfl, hr4, hh4⟩
        have H4 := Lib.hid ((H3.out.alloc (sgO s')).ins (opT s'.op) hr4 hh4)
        have HK4 := Lib.hid (sg_hold (heap_alloc_new x3 (sgO s')) HAP.out hh4)
        obtain ⟨t0, t1, t2, t3, t4⟩ := cells_5 HK4.out.1
        have HPT := Lib.hid (HPG.out R B v4 (on d) (ins l2 l.length (opT s'.op)) s'.right x4 H4.out.sig H4.out.rd HOK.out.on HFO.out)
        clear hr4 hh4 s0 s1 s2 s3 s4
        go_wp2_with (go_at_call 24; (with_reducible refine HPT.out.mono ?_))
        rintro e x5 ⟨v5, l5, rfl, hr5, hc5, hh5⟩
        have H5 := Lib.hid (H4.out.part (S_less g (on d) s'.right).2 hr5 hc5 hh5)
        obtain ⟨u0, u1, u2, u3, u4⟩ := cells_5 (sg_hold HK4.out.1 HK4.out.2 hh5).1
        clear hr5 hc5 hh5 t0 t1 t2 t3 t4
        go_wp2_with fail
        go_roundg g
        case rel => exact ⟨s'.lev, _, _, v5, l5, g, rfl, H5.out, ok_S g _ HOK.out.on, HFS.out, by have := HLE.out; omega, fun _ => HG.out, by rw [← HC.out, HE.out]; rfl, rfl⟩
        case measure => have := HK.out; omega

theorem part_ok : ∀ f, PartOk f := by
  intro f
  induction f using Nat.strongRecOn with
  | ind f ih =>
    intro R B v c l q w hs h ok hf
    by_cases h0 : c.bad = 0
    · cases f with
      | zero => exact absurd h0 hf.zero
      | succ f =>
        rw [S_good f q h0]
        exact part_walk f c (fun _ g hg => ih g (by omega)) ok hf R B v l q w hs h
    · rw [S_dead f q h0]
      refine (part_walk 0 c (fun h => absurd h h0) ok (fun h => absurd h h0) R B v l q w hs h).mono ?_
      rintro e w' ⟨v', l', rfl, hr, hc, hh⟩
      have e1 : (C 0 (hd (S 0) c q).2 q (hd (S 0) c q).1.1 (hd (S 0) c q).1.2).1 = c := by
        show (hd (S 0) c q).1.1 = c
        have e : hd (S 0) c q = (atom (S 0) c, 8) := by
          unfold hd
          rw [if_neg (by rw [isB_dead _ _ h0]; simp), if_neg (by rw [isB_dead _ _ h0]; decide)]
        rw [e]
        show (atom (S 0) c).1 = c
        unfold atom
        rw [if_neg (by rw [next_dead h0]; decide), if_neg (by rw [isB_dead _ _ h0]; decide), if_neg (by rw [isB_dead _ _ h0]; decide), if_neg (by rw [isB_dead _ _ h0]; decide), if_neg (by rw [isB_dead _ _ h0]; decide), if_neg (by rw [isB_dead _ _ h0]; decide), if_neg (by rw [isB_dead _ _ h0]; decide)]
        show nameC c = c
        unfold nameC
        rw [if_neg (by rw [nameB_dead h0]; decide)]
        exact fail_dead _ h0
      rw [e1] at hr hc
      exact ⟨v', l', rfl, hr, hc.dead h0, hh⟩
end Go.Proofs.YtffdfajlfgeicaaDoor
