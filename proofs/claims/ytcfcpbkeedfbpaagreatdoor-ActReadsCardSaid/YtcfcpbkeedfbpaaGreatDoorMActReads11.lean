/- ExprReads, ExprInsert, ExprInsert2, CurAt, CurDead, joined. -/
import Derived.Test.YtcfcpbkeedfbpaaGreatDoorMActReads10
import Derived.Test.YtcfcpbkeedfbpaaGreatDoorMActReads01
import Derived.Lib.Overlaps
import Derived.Lib.AppendZerosOnto
import Derived.Laws.CopyRow
import Derived.Shelf.Spec.SlicesInsert
import Derived.Test.YtcfcpbkeedfbpaaGreatDoorMActReads08
import Derived.RegionTactic
import Derived.ChangeAlike
namespace Go.Proofs.YtcfcpbkeedfbpaaGreatDoor
namespace ExprSpec
open CurSpec TermSpec NamesSpec

theorem bs_list (s : ByteArray) : bs s.data.toList = s := rfl
theorem list_bs (l : List UInt8) : (bs l).data.toList = l := by simp [bs]
theorem empty_of {s : ByteArray} (h : s.size = 0) : s = ⟨#[]⟩ := by
  apply ByteArray.ext
  apply Array.eq_empty_of_size_eq_zero
  exact h
theorem may_num {t : Tm} (h1 : t.op = 1) (hm : mayB t = true) : (0 ≤ t.n ∧ t.n ≤ 1000000) ∧ t = ⟨1, t.n, ⟨#[]⟩⟩ := by
  obtain ⟨o, n, s⟩ := t
  dsimp only at h1
  subst h1
  have hm' : (decide (0 ≤ n) && decide (n ≤ 1000000) && decide (s.size = 0)) = true := hm
  simp only [Bool.and_eq_true, decide_eq_true_eq] at hm'
  exact ⟨hm'.1, by rw [empty_of hm'.2]⟩
theorem may_name {t : Tm} (h2 : t.op = 2 ∨ t.op = 11) (hm : mayB t = true) : isName t.s.data.toList = true ∧ t = ⟨t.op, 0, t.s⟩ := by
  obtain ⟨o, n, s⟩ := t
  dsimp only at h2
  unfold mayB at hm
  dsimp only at hm
  rw [if_neg (by rcases h2 with rfl | rfl <;> decide), if_pos h2] at hm
  simp only [Bool.and_eq_true, decide_eq_true_eq] at hm
  exact ⟨hm.2, by rw [hm.1]⟩
theorem may_word {t : Tm} (h9 : t.op = 9 ∨ t.op = 10) (hm : mayB t = true) : t = opT t.op := by
  obtain ⟨o, n, s⟩ := t
  dsimp only at h9
  unfold mayB at hm
  dsimp only at hm
  rw [if_neg (by rcases h9 with rfl | rfl <;> decide), if_neg (by rcases h9 with rfl | rfl <;> decide)] at hm
  simp only [Bool.and_eq_true, decide_eq_true_eq] at hm
  rw [hm.1, empty_of hm.2]
  rfl
theorem leaf_ops {o : Int} (h : ar o = 0) : o = 1 ∨ o = 2 ∨ o = 9 ∨ o = 10 ∨ o = 11 := by
  unfold ar at h
  split at h
  · assumption
  split at h
  · omega
  split at h
  · omega
  · omega
theorem isB_yes' {c : Cur} {k : Int} {s : ByteArray} (h0 : c.bad = 0) (h1 : (next c).k = k) (h2 : (next c).t = s) : isB c k s = true := by simp [isB, h0, h1, h2]
theorem isB_ne {c : Cur} {k : Int} {s : ByteArray} (h : (next c).t ≠ s) : ¬ isB c k s = true := fun hb => h (isB_next hb).2.2
theorem isB_nk {c : Cur} {k : Int} {s : ByteArray} (h : (next c).k ≠ k) : ¬ isB c k s = true := fun hb => h (isB_next hb).2.1
theorem name_ne {s w : ByteArray} (h : isName s.data.toList = true) (hw : isName w.data.toList = false) : s ≠ w := by
  rintro rfl
  rw [h] at hw
  cases hw
theorem hd_atom {rec : Cur → Int → Pa} {c : Cur} {k : Int} (h1 : ¬ isB c 1 tNot = true) (h3 : ¬ isB c 3 tNeg = true) : hd rec c k = (atom rec c, 8) := by
  unfold hd
  rw [if_neg (fun h => h1 h.2), if_neg h3]
theorem want_yes {c : Cur} {k : Int} {w : List UInt8} {ww : ByteArray} (h : isB c k (bs w) = true) (hw : bs w = ww) : want c k ww = on c := by
  subst hw
  unfold want
  rw [if_pos h]
/-- A leaf: its tokens, and what they are read as. -/
theorem reads_leaf {t : Tm} (h : Good (.leaf t)) : Reads (.leaf t) := by
  intro c f k h0 hn hq hk1 hk hk7 hf
  obtain ⟨ha, hm⟩ := h
  cases f with
  | zero => exact absurd h0 hf.zero
  | succ f =>
    have key : (hd (S f) c k = ((onN (tk (.leaf t)).length c, [t]), 8)) → S (f + 1) c k = C (f + 1) (lev (.leaf t)) k (onN (tk (.leaf t)).length c) (flat (.leaf t)) := by
      intro hh
      rw [S_good f k h0, hh]
      have hf1 := hf.fitHd h0 k
      rw [hh] at hf1
      exact C_fit _ _ _ hf1 (fit_on _ hf)
    apply key
    rcases leaf_ops ha with h1 | h1 | h1 | h1 | h1
    · obtain ⟨hb, ht⟩ := may_num h1 hm
      have e : tk (.leaf t) = [(2, ValSpec.text t.n)] := if_pos h1
      rw [e] at hn ⊢
      have hk2 : (next c).k = 2 := hn.1
      have hl : (next c).t.data.toList = ValSpec.text t.n := by rw [hn.2.1, list_bs]
      have hg := (ValSpec.get_put t.n).2 hb
      have hE : numE c 1000000 = 0 := by
        unfold numE
        rw [if_pos ⟨h0, hk2⟩, hl, if_pos hg.2, hg.1, if_neg (by omega)]
      have hN : numN c 1000000 = t.n := by unfold numN; rw [if_pos hE, hl, hg.1]
      have hC : numC c 1000000 = on c := by unfold numC; rw [if_pos hE]
      rw [hd_atom (isB_nk (by omega)) (isB_nk (by omega))]
      unfold atom
      rw [if_pos hk2, hC, hN, ← ht]
      rfl
    · obtain ⟨hnm, ht⟩ := may_name (.inl h1) hm
      have e : tk (.leaf t) = [(1, t.s.data.toList)] := by unfold tk; rw [if_neg (by omega), if_pos h1]
      rw [e] at hn ⊢
      have hk1' : (next c).k = 1 := hn.1
      have hts : (next c).t = t.s := hn.2.1
      have hw : ∀ w : ByteArray, isName w.data.toList = false → ¬ isB c 1 w = true := fun w hw => isB_ne (by rw [hts]; exact name_ne hnm hw)
      have hB : nameB c = true := by unfold nameB; rw [decide_eq_true h0, decide_eq_true hk1', hts, hnm]; rfl
      have hC : nameC c = on c := by unfold nameC; rw [if_pos hB]
      have hS : nameS c = t.s := by unfold nameS; rw [if_pos hB, hts]
      rw [hd_atom (hw _ (by decide)) (isB_nk (by omega))]
      unfold atom
      rw [if_neg (by omega), if_neg (hw _ (by decide)), if_neg (hw _ (by decide)), if_neg (hw _ (by decide)), if_neg (hw _ (by decide)), if_neg (hw _ (by decide)), if_neg (isB_nk (by omega)), hC, hS]
      rw [h1] at ht
      rw [← ht]
      rfl
    · have ht := may_word (.inl h1) hm
      have e : tk (.leaf t) = [(1, lTrue)] := by unfold tk; rw [if_neg (by omega), if_neg (by omega), if_pos h1]
      rw [e] at hn ⊢
      have hb : isB c 1 tTrue = true := nx_isB h0 hn
      rw [hd_atom (isB_ne (by rw [hn.2.1]; decide)) (isB_nk (by rw [hn.1]; decide))]
      unfold atom
      rw [if_neg (by rw [hn.1]; decide), if_pos hb]
      rw [h1] at ht
      rw [← ht]
      rfl
    · have ht := may_word (.inr h1) hm
      have e : tk (.leaf t) = [(1, lFalse)] := by unfold tk; rw [if_neg (by omega), if_neg (by omega), if_neg (by omega), if_pos h1]
      rw [e] at hn ⊢
      have hb : isB c 1 tFalse = true := nx_isB h0 hn
      rw [hd_atom (isB_ne (by rw [hn.2.1]; decide)) (isB_nk (by rw [hn.1]; decide))]
      unfold atom
      rw [if_neg (by rw [hn.1]; decide), if_neg (isB_ne (by rw [hn.2.1]; decide)), if_pos hb]
      rw [h1] at ht
      rw [← ht]
      rfl
    · obtain ⟨hnm, ht⟩ := may_name (.inr h1) hm
      have e : tk (.leaf t) = [(1, lIn), (3, [40]), (1, t.s.data.toList), (3, [41])] := by unfold tk; rw [if_neg (by omega), if_neg (by omega), if_neg (by omega), if_neg (by omega)]
      rw [e] at hn ⊢
      obtain ⟨n1, n2, n4, n5, n7, n8, n10, n11, _⟩ := hn
      have hb : isB c 1 tIn = true := isB_yes' h0 n1 n2
      have h01 : (on c).bad = 0 := (on_bad c).1.trans h0
      have hw1 : want (on c) 3 tOpen = on (on c) := want_yes (isB_yes' h01 n4 n5) rfl
      have h02 : (on (on c)).bad = 0 := (on_bad _).1.trans h01
      have hB : nameB (on (on c)) = true := by unfold nameB; rw [decide_eq_true h02, decide_eq_true n7, n8, bs_list, hnm]; rfl
      have hC : nameC (on (on c)) = on (on (on c)) := by unfold nameC; rw [if_pos hB]
      have hS : nameS (on (on c)) = t.s := by unfold nameS; rw [if_pos hB, n8, bs_list]
      have h03 : (on (on (on c))).bad = 0 := (on_bad _).1.trans h02
      have hw2 : want (on (on (on c))) 3 tClose = on (on (on (on c))) := want_yes (isB_yes' h03 n10 n11) rfl
      rw [hd_atom (isB_ne (by rw [n2]; decide)) (isB_nk (by rw [n1]; decide))]
      unfold atom
      rw [if_neg (by rw [n1]; decide), if_neg (isB_ne (by rw [n2]; decide)), if_neg (isB_ne (by rw [n2]; decide)), if_pos hb, hw1, hC, hS, hw2]
      rw [h1] at ht
      rw [← ht]
      rfl
theorem reads_un {o : Int} {a : Ex} (h : Good (.un o a)) (ih : Reads a) : Reads (.un o a) := by
  intro c f k h0 hn hq hk1 hk hk7 hf
  have hla := lev_pos h.2
  have ho : o = 3 ∨ o = 12 := by
    have h1 := h.1
    unfold ar at h1
    split at h1
    · omega
    split at h1
    · assumption
    split at h1 <;> omega
  cases f with
  | zero => exact absurd h0 hf.zero
  | succ f =>
    have hlev : lev (.un o a) = if o = 3 then 7 else 3 := rfl
    have htk : tk (.un o a) = if o = 3 then (3, [45]) :: twr (lev a < 7) (tk a) else (1, lNot) :: twr (lev a < 3) (tk a) := rfl
    rw [hlev] at hk hq ⊢
    rw [htk] at hn hq ⊢
    rcases ho with rfl | rfl
    · rw [if_pos rfl] at hk hq hn ⊢
      rw [if_pos rfl]
      rw [if_pos rfl] at hq
      have hb : isB c 3 tNeg = true := nx_isB h0 hn
      have hrl := isB_real hb (by decide)
      have hfo : Fit f (on c) := fun _ => by have := hf h0; omega
      have e1 : onN ((3, [45]) :: twr (lev a < 7) (tk a) : List Tx).length c = onN (twr (lev a < 7) (tk a)).length (on c) := rfl
      rw [e1] at hq ⊢
      have hS : S f (on c) 7 = (onN (twr (lev a < 7) (tk a)).length (on c), flat a) := by
        rw [reads_twr ih hrl.2.2 hn.2.2 (fun hnl => hq.mono (by omega)) (by decide) (by decide) (by decide) hla.1 hfo]
        exact C_stop f _ (stop_7 _ _)
      have hH : hd (S f) c k = ((onN (twr (lev a < 7) (tk a)).length (on c), opT 3 :: flat a), 7) := by
        unfold hd
        rw [if_neg (fun h' => isB_nk (c := c) (k := 1) (s := tNot) (by rw [hn.1]; decide) h'.2), if_pos hb, hS]
      rw [S_good f k h0, hH]
      refine C_fit _ _ _ (fit_on _ hfo) ?_
      rw [← e1]
      exact fit_on _ hf
    · rw [if_neg (by decide)] at hk hq hn ⊢
      rw [if_neg (by decide)]
      rw [if_neg (by decide)] at hq
      have hb : isB c 1 tNot = true := nx_isB h0 hn
      have hrl := isB_real hb (by decide)
      have hfo : Fit f (on c) := fun _ => by have := hf h0; omega
      have e1 : onN ((1, lNot) :: twr (lev a < 3) (tk a) : List Tx).length c = onN (twr (lev a < 3) (tk a)).length (on c) := rfl
      rw [e1] at hq ⊢
      have hS : S f (on c) 3 = (onN (twr (lev a < 3) (tk a)).length (on c), flat a) := by
        rw [reads_twr ih hrl.2.2 hn.2.2 (fun hnl => hq.mono (by omega)) (by decide) (by decide) (by decide) hla.1 hfo]
        refine C_stop f _ (qu_stop hq (fun s hm h1 h2 => ?_))
        have := sg_lev hm
        omega
      have hH : hd (S f) c k = ((onN (twr (lev a < 3) (tk a)).length (on c), opT 12 :: flat a), 3) := by
        unfold hd
        rw [if_pos ⟨hk, hb⟩, hS]
      rw [S_good f k h0, hH]
      refine C_fit _ _ _ (fit_on _ hfo) ?_
      rw [← e1]
      exact fit_on _ hf
theorem bin_ops {o : Int} (_h : ar o = 2) : o = 7 ∨ o = 8 ∨ ¬ (o = 7 ∨ o = 8) := by omega
theorem look_sg {o : Int} (ho : ar o = 2) (h7 : ¬ (o = 7 ∨ o = 8)) : look (bs (sgOf o).t.data.toList) = some (sgOf o) := by
  rw [bs_list]
  have hm := (sgOf_mem ho h7).1
  generalize sgOf o = s at hm
  unfold sgs at hm
  simp only [List.mem_cons, List.not_mem_nil, or_false] at hm
  rcases hm with rfl | rfl | rfl | rfl | rfl | rfl | rfl | rfl | rfl | rfl | rfl <;> rfl
theorem reads_two {o : Int} {a b : Ex} {w : List UInt8} {ww : ByteArray} (ha : Good a) (hb : Good b) (iha : Reads a) (ihb : Reads b) {c : Cur} {f : Nat} {k : Int} (h0 : c.bad = 0) (hww : bs w = ww)
    (hat : ∀ rec : Cur → Int → Pa, (next c).k = 1 → (next c).t = ww → hd rec c k = (two rec (on c) o, 8)) (hn : Nx c ((1, w) :: (3, [40]) :: (tk a ++ (3, [44]) :: (tk b ++ [(3, [41])])))) (hf : Fit f c) :
    S f c k = C f 8 k (onN ((1, w) :: (3, [40]) :: (tk a ++ (3, [44]) :: (tk b ++ [(3, [41])])) : List Tx).length c) (opT o :: (flat a ++ flat b)) := by
  cases f with
  | zero => exact absurd h0 hf.zero
  | succ f =>
    have hr0 := next_real (c := c) (by rw [hn.1]; decide)
    have h01 := hr0.2.2
    have hw1 : want (on c) 3 tOpen = on (on c) := want_yes (nx_isB h01 hn.2.2) rfl
    have h02 : (on (on c)).bad = 0 := (on_bad _).1.trans h01
    have hfo : Fit f (on (on c)) := fun _ => by have := hf h0; have := on_len (on c); omega
    obtain ⟨na, nc⟩ := (nx_app _ _ _).1 hn.2.2.2.2
    have h03 : (onN (tk a).length (on (on c))).bad = 0 := by rw [onN_bad]; exact h02
    have hs1 : ∀ L k, sgn (onN (tk a).length (on (on c))) L k = none := no_sign nc.2.1 (by decide)
    have hS1 : S f (on (on c)) 1 = (onN (tk a).length (on (on c)), flat a) := by
      rw [iha _ f 1 h02 na (fun s hs => by rw [hs1] at hs; cases hs) (by decide) (lev_pos ha).1 (by decide) hfo]
      exact C_stop f _ (hs1 _ _)
    have hw2 : want (onN (tk a).length (on (on c))) 3 tComma = on (onN (tk a).length (on (on c))) := want_yes (nx_isB h03 nc) rfl
    obtain ⟨nb, ne⟩ := (nx_app _ _ _).1 nc.2.2
    have h04 : (on (onN (tk a).length (on (on c)))).bad = 0 := (on_bad _).1.trans h03
    have hs2 : ∀ L k, sgn (onN (tk b).length (on (onN (tk a).length (on (on c))))) L k = none := no_sign ne.2.1 (by decide)
    have hf2 : Fit f (on (onN (tk a).length (on (on c)))) := fun _ => by have h1 := hfo h02; have h2 := onN_len (tk a).length (on (on c)); have h3 := on_len (onN (tk a).length (on (on c))); omega
    have hS2 : S f (on (onN (tk a).length (on (on c)))) 1 = (onN (tk b).length (on (onN (tk a).length (on (on c)))), flat b) := by
      rw [ihb _ f 1 h04 nb (fun s hs => by rw [hs2] at hs; cases hs) (by decide) (lev_pos hb).1 (by decide) hf2]
      exact C_stop f _ (hs2 _ _)
    have h05 : (onN (tk b).length (on (onN (tk a).length (on (on c))))).bad = 0 := by rw [onN_bad]; exact h04
    have hw3 : want (onN (tk b).length (on (onN (tk a).length (on (on c))))) 3 tClose = on (onN (tk b).length (on (onN (tk a).length (on (on c))))) := want_yes (nx_isB h05 ne) rfl
    have hT : two (S f) (on c) o = (on (onN (tk b).length (on (onN (tk a).length (on (on c))))), opT o :: (flat a ++ flat b)) := by
      unfold two
      simp only [hw1, hS1, hw2, hS2, hw3]
    have hlen : ((1, w) :: (3, [40]) :: (tk a ++ (3, [44]) :: (tk b ++ [(3, [41])])) : List Tx).length = 2 + ((tk a).length + (1 + ((tk b).length + 1))) := by simp; omega
    have hend : onN ((1, w) :: (3, [40]) :: (tk a ++ (3, [44]) :: (tk b ++ [(3, [41])])) : List Tx).length c = on (onN (tk b).length (on (onN (tk a).length (on (on c))))) := by
      rw [hlen, onN_add, onN_add, onN_add, onN_add]
      rfl
    rw [S_good f k h0, hat (S f) hn.1 (by rw [hn.2.1, hww]), hT, hend]
    refine C_fit _ _ _ ?_ ?_
    · intro _
      have h1 := hf2 h04
      have h2 := onN_len (tk b).length (on (onN (tk a).length (on (on c))))
      have h3 := on_len (onN (tk b).length (on (onN (tk a).length (on (on c)))))
      dsimp only
      omega
    · rw [← hend]; exact fit_on _ hf
theorem reads_bin {o : Int} {a b : Ex} (h : Good (.bin o a b)) (iha : Reads a) (ihb : Reads b) : Reads (.bin o a b) := by
  intro c f k h0 hn hq hk1 hk hk7 hf
  obtain ⟨har, ha, hb⟩ := h
  have hla := lev_pos ha
  have hlb := lev_pos hb
  have htk : tk (.bin o a b) = if o = 7 then (1, lMin) :: (3, [40]) :: (tk a ++ (3, [44]) :: (tk b ++ [(3, [41])]))
    else if o = 8 then (1, lMax) :: (3, [40]) :: (tk a ++ (3, [44]) :: (tk b ++ [(3, [41])]))
    else twr (lev a < (sgOf o).left) (tk a) ++ ((if (sgOf o).lev ≤ 2 then 1 else 3, (sgOf o).t.data.toList) :: twr (lev b < (sgOf o).right) (tk b)) := rfl
  have hlev : lev (.bin o a b) = if o = 7 ∨ o = 8 then 8 else (sgOf o).lev := rfl
  have hfl : flat (.bin o a b) = opT o :: (flat a ++ flat b) := rfl
  rw [htk] at hn hq ⊢
  rw [hlev] at hk hq ⊢
  rw [hfl]
  rcases bin_ops har with rfl | rfl | h7
  · rw [if_pos rfl] at hn hq ⊢
    rw [if_pos (.inl rfl)]
    refine reads_two (ww := tMin) ha hb iha ihb h0 rfl (fun rec hk ht => ?_) hn hf
    rw [hd_atom (isB_ne (by rw [ht]; decide)) (isB_nk (by omega))]
    unfold atom
    rw [if_neg (by omega), if_neg (isB_ne (by rw [ht]; decide)), if_neg (isB_ne (by rw [ht]; decide)), if_neg (isB_ne (by rw [ht]; decide)), if_pos (isB_yes' h0 hk ht)]
  · rw [if_neg (show ¬ (8 : Int) = 7 by decide), if_pos rfl] at hn hq ⊢
    rw [if_pos (.inr rfl)]
    refine reads_two (ww := tMax) ha hb iha ihb h0 rfl (fun rec hk ht => ?_) hn hf
    rw [hd_atom (isB_ne (by rw [ht]; decide)) (isB_nk (by omega))]
    unfold atom
    rw [if_neg (by omega), if_neg (isB_ne (by rw [ht]; decide)), if_neg (isB_ne (by rw [ht]; decide)), if_neg (isB_ne (by rw [ht]; decide)), if_neg (isB_ne (by rw [ht]; decide)), if_pos (isB_yes' h0 hk ht)]
  · have h77 : o ≠ 7 := fun e => h7 (.inl e)
    have h88 : o ≠ 8 := fun e => h7 (.inr e)
    rw [if_neg h77, if_neg h88] at hn hq ⊢
    rw [if_neg h7] at hk hq ⊢
    obtain ⟨hm, hop⟩ := sgOf_mem har h7
    have hlk := look_sg har h7
    obtain ⟨s, hs⟩ : ∃ s, s = sgOf o := ⟨_, rfl⟩
    rw [← hs] at hn hq hk hm hop hlk ⊢
    obtain ⟨q1, q2, q3, q4, q5, q6, q7⟩ := sg_lev hm
    obtain ⟨na, ns⟩ := (nx_app _ _ _).1 hn
    have hb1 : (onN (twr (lev a < s.left) (tk a)).length c).bad = 0 := by rw [onN_bad]; exact h0
    have hkd : (next (onN (twr (lev a < s.left) (tk a)).length c)).k = 3 ∨ (next (onN (twr (lev a < s.left) (tk a)).length c)).k = 1 := by
      rw [ns.1]; split <;> simp
    have hlk' : look (next (onN (twr (lev a < s.left) (tk a)).length c)).t = some s := by rw [ns.2.1]; exact hlk
    have hqa : ¬ lev a < s.left → Qu (lev a) (onN (twr (lev a < s.left) (tk a)).length c) := fun hnl x hx => by
      have := (sgn_some hx).1
      rw [hlk'] at this
      cases this
      omega
    have hS : S f c k = C f (if lev a < s.left then 8 else lev a) k (onN (twr (lev a < s.left) (tk a)).length c) (flat a) :=
      reads_twr iha h0 na hqa hk1 (by omega) (by have := q3; unfold first at this; split at this <;> omega) hla.1 hf
    have hsg : sgn (onN (twr (lev a < s.left) (tk a)).length c) (if lev a < s.left then 8 else lev a) k = some s := by
      refine sgn_mk hlk' hkd ?_ hk
      split
      · have := q3; unfold first at this; split at this <;> omega
      · omega
    cases f with
    | zero => exact absurd h0 hf.zero
    | succ f =>
      have hf1 : Fit (f + 1) (onN (twr (lev a < s.left) (tk a)).length c) := fit_on _ hf
      have hfo := hf1.fitOn hsg
      have h02 : (on (onN (twr (lev a < s.left) (tk a)).length c)).bad = 0 := (on_bad _).1.trans hb1
      have hend : onN (twr (lev a < s.left) (tk a) ++ ((if s.lev ≤ 2 then (1 : Int) else 3, s.t.data.toList) :: twr (lev b < s.right) (tk b))).length c = onN (twr (lev b < s.right) (tk b)).length (on (onN (twr (lev a < s.left) (tk a)).length c)) := by
        rw [List.length_append, onN_add]
        rfl
      rw [hend] at hq ⊢
      have hS2 : S f (on (onN (twr (lev a < s.left) (tk a)).length c)) s.right = (onN (twr (lev b < s.right) (tk b)).length (on (onN (twr (lev a < s.left) (tk a)).length c)), flat b) := by
        rw [reads_twr ihb h02 ns.2.2 (fun hnl => hq.mono (by omega)) (by omega) (Int.le_refl _) (by omega) hlb.1 hfo]
        refine C_stop f _ (qu_stop hq (fun x hx h1 h2 => ?_))
        have := sg_lev hx
        omega
      rw [hS, C_step f (flat a) hsg, hS2, hop]
      refine C_fit _ _ _ (fit_on _ hfo) ?_
      rw [← hend]
      exact fit_on _ hf
theorem reads_all : ∀ e : Ex, Good e → Reads e
  | .leaf _, h => reads_leaf h
  | .un _ a, h => reads_un h (reads_all a h.2)
  | .bin _ a b, h => reads_bin h (reads_all a h.2.1) (reads_all b h.2.2)
end ExprSpec
end Go.Proofs.YtcfcpbkeedfbpaaGreatDoor

namespace Go.Proofs.YtcfcpbkeedfbpaaGreatDoor
open Go.RowKit TermSpec
set_option maxRecDepth 100000

theorem info_tm : (Tryz.prog.info? 68).map (fun i => (i.zero, i.size, i.bytes)) = some (some (.agg #[.int .i64 0, .int .i64 0, .string ByteArray.empty]), 3, 32) := by kernel_rfl

theorem run_copy_rowk {P : Program} (k : Nat) (w : World) (dT sT ty elem : TypeId) (g o dLen dCap : Nat) (a : Addr) (sLen sCap : Nat) (cur : Array Value) (t : TypeId) (cs : List Value)
    (hu : P.underlying dT = some (.slice elem)) (hs : (P.info? elem).map (·.size) = some k)
    (hg : w.heap[g]? = some (.cells cur t (0, 0))) (hn : cs.length = Nat.min sLen dLen * k)
    (hsrc : ∀ j v, cs[j]? = some v → w.cell? (a.add j) = some v) (hfit : o + cs.length ≤ cur.size) (h1 : ∀ v ∈ cs, v.oneCell' = true) :
    (Builtin.copy_ #[dT, sT] ty #[.slice (some ⟨g, o, none⟩) dLen dCap, .slice (some a) sLen sCap]).run P w =
      .ok (goInt (Nat.min sLen dLen)) (w.setRow g (cur.toList.take o ++ cs ++ cur.toList.drop (o + cs.length)).toArray) := by
  have hl := run_loadCells_list (P := P) w a cs hsrc
  have hst := run_storeCells_at P g o t cs 0 cur w hg (by simpa using hfit) h1
  cases hq : P.info? elem with
  | none => simp [hq] at hs
  | some i =>
    have hi : i.size = k := by simpa [hq] using hs
    simp [Builtin.copy_, run_underlying hu, Builtin.lenOf, Builtin.firstCells, sizeOf, typeInfo, hq, hi, ← hn, hl, hst]

theorem slice_lo (a : Option Addr) (len cap lo : Nat) (li : Int) (hli : li = lo) (h1 : lo ≤ len) : ∃ r, ∀ W, (Instr.slice 64 (.slice a len cap) (some (.int .i64 li)) none none).run Tryz.prog W = .ok r W := by
  refine ⟨sliced a lo len cap 3, fun W => ?_⟩
  rw [run_slice_l (P := Tryz.prog) W 64 a len cap (by rw [elem_tms]; exact Tryz.underlying64) .i64 li (by omega) (by omega), elem_tms, Tryz.sizeOf68]
  subst hli
  rfl
theorem slice_at (g len cap lo : Nat) (li : Int) (hli : li = lo) (h1 : lo ≤ len) (h2 : lo < cap) (W : World) : (Instr.slice 64 (.slice (some ⟨g, 0, none⟩) len cap) (some (.int .i64 li)) none none).run Tryz.prog W = .ok (.slice (some ⟨g, lo * 3, none⟩) (len - lo) (cap - lo)) W := by
  rw [run_slice_l (P := Tryz.prog) W 64 _ len cap (by rw [elem_tms]; exact Tryz.underlying64) .i64 li (by omega) (by omega), elem_tms, Tryz.sizeOf68]
  subst hli
  simp [sliced, Result.andThen, addr_add]
  omega
theorem slice_up (g len cap hi : Nat) (h : Int) (hh : h = hi) (h2 : hi ≤ cap) (_h0 : 0 < cap) (W : World) : (Instr.slice 64 (.slice (some ⟨g, 0, none⟩) len cap) none (some (.int .i64 h)) none).run Tryz.prog W = .ok (.slice (some ⟨g, 0, none⟩) hi cap) W := by
  rw [run_slice_h (P := Tryz.prog) W 64 _ len cap (by rw [elem_tms]; exact Tryz.underlying64) .i64 h (by omega) (by omega), elem_tms, Tryz.sizeOf68]
  subst hh
  simp [sliced, Result.andThen, addr_add]
  try omega

/-- A row as it is behind the insertion. -/
def InsPost (W : World) (base : Nat) (v : Value) (n : Nat) (l : List Tm) (e : Ending) (w' : World) : Prop :=
  ∃ v', e = .returned v' ∧ w'.ownsRow base 68 3 v' n (tmsV l) ∧ W.grownBy w' v.ownBlock ∧ (v'.ownBlock = v.ownBlock ∨ v'.ownBlock = some W.heap.size)

theorem grow_setRow {w w' : World} {g : Nat} (h : w.grownBy w' (some g)) (cs : Array Value) : w.grownBy (w'.setRow g cs) (some g) :=
  ⟨h.os, h.tape, h.output, by simp [World.setRow]; exact h.size, fun i hi hn => by
    rw [← h.block i hi hn]
    unfold World.setRow
    simp only [Array.getElem?_modify]
    rw [if_neg (by intro e; exact hn (by rw [e]))]⟩

set_option maxHeartbeats 4000000 in
theorem insert_end (base : Nat) (v : Value) (n : Nat) (l : List Tm) (t : Tm) (vb : Nat) (w : World) (_hn : n = l.length) (h40 : n ≤ 1000) (hown : w.ownsRow base 68 3 v n (tmsV l)) (hbase : base ≤ w.heap.size)
    (hvb : w.heap[vb]? = some (.cells #[.int .i64 t.op, .int .i64 t.n, .string t.s] 68 (0, 0))) :
    Calls Tryz.prog 159 #[v, .int .i64 n, .slice (some ⟨vb, 0, none⟩) 1 1] w (InsPost w base v (n + 1) (l ++ [t])) := by
  obtain ⟨i0, hi, hz0, hz1, hz2⟩ := info_parts info_tm
  obtain ⟨A, cp, rfl⟩ := own_shape hown
  obtain ⟨r, hr⟩ := slice_lo A n cp n (n : Int) rfl (Nat.le_refl _)
  have HO := Lib.hid hown
  have HF : Hid (∀ (w' : World) (v' : Value), w'.ownsRow base 68 3 v' (n + 1) (tmsV l ++ [.int .i64 t.op, .int .i64 t.n, .string t.s]) → w'.ownsRow base 68 3 v' (n + 1) (tmsV (l ++ [t]))) := Lib.hid (fun w' v' h => by
    have : tmsV (l ++ [t]) = tmsV l ++ [.int .i64 t.op, .int .i64 t.n, .string t.s] := by simp [tmsV, tmV]
    rw [this]; exact h)
  clear hown _hn
  go_enter Tryz.func159, Tryz.ntmps159
  go_wp2_with (at_builtin; refine wpList_append_lies _ rfl (.tmp 23) (.tmp 24) 64 rfl base 68 i0 _ 3 32 Tryz.underlying64 hi hz0 hz1 hz2 rfl (by decide) _ n (tmsV l) rfl HO.out ⟨vb, 0, none⟩ 1 1 [.int .i64 t.op, .int .i64 t.n, .string t.s] rfl rfl (World.news_of_block (cs := #[.int .i64 t.op, .int .i64 t.n, .string t.s]) hvb) (by simp [Value.oneCell']) (by decide) (by unfold maxLen; omega) (by omega) hbase _ rfl ?_)
  intro g cap w2 hown2 hgrow2 hwhere hlt2
  have HE := Lib.hid (And.intro (HF.out _ _ hown2) (And.intro hgrow2 hwhere))
  clear hown2 hgrow2 hwhere
  go_wp2_with fail
  go_ret
  refine ⟨_, rfl, HE.out.1, HE.out.2.1, ?_⟩
  rcases HE.out.2.2 with h | h
  · exact .inl h.symm
  · exact .inr (by rw [← h]; rfl)

theorem seg_list {cur cs t : List Value} {i n : Nat} (hcs : cur.take (n * 3) = cs) (hi : i < n) (hn : (n + 1) * 3 ≤ cur.length) (ht : t.length = 3) :
    ((cur.take ((i + 1) * 3) ++ cs.drop (i * 3) ++ cur.drop ((i + 1) * 3 + (cs.drop (i * 3)).length)).take (i * 3) ++ t ++ (cur.take ((i + 1) * 3) ++ cs.drop (i * 3) ++ cur.drop ((i + 1) * 3 + (cs.drop (i * 3)).length)).drop (i * 3 + t.length)).take ((n + 1) * 3) = cs.take (i * 3) ++ t ++ cs.drop (i * 3) := by
  have hl : cs.length = n * 3 := by rw [← hcs, List.length_take]; omega
  have hd : (cs.drop (i * 3)).length = n * 3 - i * 3 := by rw [List.length_drop, hl]
  have h1 : (cur.take ((i + 1) * 3)).length = (i + 1) * 3 := by rw [List.length_take]; omega
  have e1 : (cur.take ((i + 1) * 3) ++ cs.drop (i * 3) ++ cur.drop ((i + 1) * 3 + (cs.drop (i * 3)).length)).take (i * 3) = cs.take (i * 3) := by
    rw [List.append_assoc, List.take_append_of_le_length (by omega), List.take_take, ← hcs, List.take_take, show min (i * 3) ((i + 1) * 3) = i * 3 by omega, show min (i * 3) (n * 3) = i * 3 by omega]
  have e2 : (cur.take ((i + 1) * 3) ++ cs.drop (i * 3) ++ cur.drop ((i + 1) * 3 + (cs.drop (i * 3)).length)).drop (i * 3 + t.length) = cs.drop (i * 3) ++ cur.drop ((i + 1) * 3 + (cs.drop (i * 3)).length) := by
    rw [List.append_assoc, show i * 3 + t.length = (cur.take ((i + 1) * 3)).length by omega, List.drop_left]
  rw [e1, e2]
  have h4 : (cs.take (i * 3)).length = i * 3 := by rw [List.length_take]; omega
  rw [List.append_assoc, List.append_assoc, ← List.append_assoc, ← List.append_assoc, List.take_append_of_le_length (by simp only [List.length_append]; omega)]
  rw [List.take_of_length_le (by simp only [List.length_append]; omega), List.append_assoc]
theorem tms_mid (l : List Tm) (t : Tm) (i : Nat) : tmsV (l.take i ++ t :: l.drop i) = (tmsV l).take (i * 3) ++ tmV t ++ (tmsV l).drop (i * 3) := by
  rw [← tms_take, ← tms_drop]
  simp [tmsV]

set_option maxHeartbeats 4000000 in
theorem insert_shift (base g cap : Nat) (n i : Nat) (l : List Tm) (t : Tm) (vb : Nat) (w : World) (hn : n = l.length) (h40 : n ≤ 1000) (hi : i < n) (hroom : n + 1 ≤ cap)
    (hown : w.ownsRow base 68 3 (.slice (some ⟨g, 0, none⟩) n cap) n (tmsV l))
    (hvb : w.heap[vb]? = some (.cells #[.int .i64 t.op, .int .i64 t.n, .string t.s] 68 (0, 0))) (hne : vb ≠ g) :
    Calls Tryz.prog 159 #[.slice (some ⟨g, 0, none⟩) n cap, .int .i64 i, .slice (some ⟨vb, 0, none⟩) 1 1] w (InsPost w base (.slice (some ⟨g, 0, none⟩) n cap) (n + 1) (l.take i ++ t :: l.drop i)) := by
  obtain ⟨i0, hi0, hz0, hz1, hz2⟩ := info_parts info_tm
  obtain ⟨hl, hv⟩ := hown
  rcases hv with ⟨hv, _⟩ | ⟨g', cap', cur, hv, hbase, hb, hnc, hcm, hcs, ht⟩
  · cases hv
  cases hv
  have hsz : (Tryz.prog.info? 68).map (·.size) = some 3 := by rw [hi0]; simp [hz1]
  have hcur : cur.toList.length = cap * 3 := by rw [Array.length_toList]; exact hcs
  have hc63 : cap ≤ 9223372036854775807 := hcm
  have hdl : ((tmsV l).drop (i * 3)).length = (n - i) * 3 := by rw [List.length_drop, hl]; omega
  have hone := tmsV_one l
  have hs1 := slice_at g n cap i (i : Int) rfl (by omega) (by omega)
  have hs2 := slice_up g n cap (n + 1) ((n : Int) + 1) (by omega) (by omega) (by omega)
  have hs3 := slice_at g (n + 1) cap (i + 1) ((i : Int) + 1) (by omega) (by omega) (by omega)
  have hs4 := slice_at g (n + 1) cap i (i : Int) rfl (by omega) (by omega)
  have hov : ∀ lb cb, (callFunc 173 #[.slice (some ⟨vb, 0, none⟩) 1 1, .slice (some ⟨g, (i + 1) * 3, none⟩) lb cb]).run Tryz.prog w = .ok (.value (.bool false)) w := fun lb cb => by
    rw [run_callFunc_extern Tryz.func173 (by kernel_rfl) (by kernel_rfl) (by kernel_rfl) (e := Extern.SlicesOverlaps.overlaps #[64, 64] #[4]) (by kernel_rfl),
      Lib.run_overlaps_apart w 64 4 68 Tryz.underlying64 3 Tryz.sizeOf68 ⟨vb, 0, none⟩ ⟨g, (i + 1) * 3, none⟩ 1 1 lb cb hne 68 68 3 (cap * 3) (by simp [World.shape?, hvb]) (by simp [World.shape?, hb, hcs]) (by omega) (by simp [World.frozen?, hvb]) (by simp [World.frozen?, hvb])]
    rfl
  obtain ⟨row1, hrow1⟩ : ∃ row1, row1 = cur.toList.take ((i + 1) * 3) ++ (tmsV l).drop (i * 3) ++ cur.toList.drop ((i + 1) * 3 + ((tmsV l).drop (i * 3)).length) := ⟨_, rfl⟩
  have hr1l : row1.length = cap * 3 := by rw [hrow1]; simp only [List.length_append, List.length_take, List.length_drop, hcur, hl]; omega
  have hcell : ∀ j u, (tmsV l)[j]? = some u → w.cell? ⟨g, j, none⟩ = some u := fun j u hj => by
    have hj' := (List.getElem?_eq_some_iff.1 hj).1
    rw [← ht, List.getElem?_take_of_lt (by omega), Array.getElem?_toList] at hj
    simp [World.cell?, hb, hj]
  have hcp1 : ∀ ty dc sc, (Builtin.copy_ #[64, 64] ty #[.slice (some ⟨g, (i + 1) * 3, none⟩) (n - i) dc, .slice (some ⟨g, i * 3, none⟩) (n + 1 - i) sc]).run Tryz.prog w.drew = .ok (goInt (Nat.min (n + 1 - i) (n - i))) (w.drew.setRow g row1.toArray) := fun ty dc sc => by
    rw [hrow1]
    exact run_copy_rowk 3 w.drew _ _ ty 68 g ((i + 1) * 3) _ dc ⟨g, i * 3, none⟩ _ sc cur 68 ((tmsV l).drop (i * 3)) Tryz.underlying64 hsz hb
      (by rw [hdl, show Nat.min (n + 1 - i) (n - i) = n - i by simp only [Nat.min_def]; split <;> omega])
      (fun j v hj => by rw [addr_add]; rw [List.getElem?_drop] at hj; exact hcell _ v hj) (by rw [hdl]; omega) (fun v hv => hone v (List.mem_of_mem_drop hv))
  obtain ⟨row2, hrow2⟩ : ∃ row2, row2 = row1.take (i * 3) ++ tmV t ++ row1.drop (i * 3 + (tmV t).length) := ⟨_, rfl⟩
  have hr2l : row2.length = cap * 3 := by rw [hrow2]; simp only [List.length_append, List.length_take, List.length_drop, hr1l, tmV_length]; omega
  have hb1 : (w.drew.setRow g row1.toArray).heap[g]? = some (.cells row1.toArray 68 (0, 0)) := setRow_heap w.drew g cur row1.toArray 68 (0, 0) hb
  have hvb1 : (w.drew.setRow g row1.toArray).heap[vb]? = some (.cells #[.int .i64 t.op, .int .i64 t.n, .string t.s] 68 (0, 0)) :=
    ((grow_setRow (but_refl w (some g)) row1.toArray).block vb (Array.getElem?_eq_some_iff.1 hvb).1 (by simpa using hne)).trans hvb
  have hcp2 : ∀ ty dc, (Builtin.copy_ #[64, 64] ty #[.slice (some ⟨g, i * 3, none⟩) (n + 1 - i) dc, .slice (some ⟨vb, 0, none⟩) 1 1]).run Tryz.prog (w.drew.setRow g row1.toArray) = .ok (goInt (Nat.min 1 (n + 1 - i))) (w.drew.setRow g row2.toArray) := fun ty dc => by
    have := run_copy_rowk (P := Tryz.prog) 3 (w.drew.setRow g row1.toArray) 64 64 ty 68 g (i * 3) (n + 1 - i) dc ⟨vb, 0, none⟩ 1 1 row1.toArray 68 (tmV t) Tryz.underlying64 hsz hb1
      (by rw [tmV_length, show Nat.min 1 (n + 1 - i) = 1 by simp only [Nat.min_def]; split <;> omega])
      (fun j v hj => by rw [addr_add, Nat.zero_add]; exact cell_of_block' hvb1 (by rw [show (#[.int .i64 t.op, .int .i64 t.n, .string t.s] : Array Value) = (tmV t).toArray from rfl, List.getElem?_toArray]; exact hj))
      (by rw [tmV_length]; simp only [List.size_toArray]; omega) (tmV_one t)
    rw [this, setRow_setRow, hrow2]
  have hfin : InsPost w base (.slice (some ⟨g, 0, none⟩) n cap) (n + 1) (l.take i ++ t :: l.drop i) (.returned (.slice (some ⟨g, 0, none⟩) (n + 1) cap)) (w.drew.setRow g row2.toArray) := by
    refine ⟨_, rfl, ⟨by rw [tmsV_length]; simp; omega, .inr ⟨g, cap, row2.toArray, rfl, hbase, setRow_heap w.drew g cur row2.toArray 68 (0, 0) hb, hroom, hcm, by simpa using hr2l, ?_⟩⟩, grow_setRow (but_drew (but_refl w (some g))) _, .inl rfl⟩
    rw [tms_mid, hrow2, hrow1]
    exact seg_list ht hi (by omega) rfl
  have HF := Lib.hid hfin
  have hz3 : ¬ ((i : Int) = (n : Int)) := by omega
  have hz3' : ((i : Int) == (n : Int)) = false := by simpa using hz3
  have hz4 : ¬ ((cap : Int) < (n : Int) + 1) := by omega
  have hz4' : decide ((cap : Int) < (n : Int) + 1) = false := decide_eq_false hz4
  clear hfin hrow2 hrow1 hr1l hr2l hb1 hvb1 hcell hone hdl hcur ht hl hcs hbase hn
  have hw1 : IntKind.i64.wrap ((i : Int) + 1) = (i : Int) + 1 := by rw [IntKind.wrap_i64]; omega
  have hb1 : (0 : Int) ≤ (i : Int) + 1 := by omega
  have hb5 : (i : Int) ≤ (n : Int) := by omega
  have htn : ((i : Int) + 1).toNat = i + 1 := by omega
  have hb2 : ¬ (cap = i + 1) := by omega
  have hb3 : (i : Int) ≤ (n : Int) + 1 := by omega
  have hb4 : ¬ (cap = i) := by omega
  have mixed : Tryz.prog.follows .mixedOrders = true := by kernel_rfl
  go_enter Tryz.func159, Tryz.ntmps159
  go_wp2_with (simp only [hov])
  go_region_law_o (refine step_copy_runI rfl _ _ 64 64 rfl _ _ (by simp [Act.eval, Act.put]) (by simp [Act.eval, Act.put]) (hcp1 _ _ _) ?_)
  go_wp2_with (at_builtin; refine wpList_copy_runI _ rfl _ _ 64 64 rfl _ _ rfl rfl (hcp2 _ _) ?_)
  go_ret
  exact HF.out
end Go.Proofs.YtcfcpbkeedfbpaaGreatDoor

namespace Go.Proofs.YtcfcpbkeedfbpaaGreatDoor
open Go.RowKit TermSpec
set_option maxRecDepth 100000

theorem zero_size (n : Nat) : (Builtin.zeroCells (Value.agg #[.int .i64 0, .int .i64 0, .string ByteArray.empty]).cells n).size = n * 3 := by
  simp [Builtin.zeroCells, Value.cells]
theorem seg_new {cs t row : List Value} {i n : Nat} (hl : cs.length = n * 3) (hi : i < n) (hr : row.take (i * 3) = cs.take (i * 3)) (_hrl : (n + 1) * 3 ≤ row.length) (ht : t.length = 3) :
    ((row.take (i * 3) ++ t ++ row.drop (i * 3 + t.length)).take ((i + 1) * 3) ++ cs.drop (i * 3) ++ (row.take (i * 3) ++ t ++ row.drop (i * 3 + t.length)).drop ((i + 1) * 3 + (cs.drop (i * 3)).length)).take ((n + 1) * 3) = cs.take (i * 3) ++ t ++ cs.drop (i * 3) := by
  have h4 : (cs.take (i * 3)).length = i * 3 := by rw [List.length_take]; omega
  have hd : (cs.drop (i * 3)).length = n * 3 - i * 3 := by rw [List.length_drop, hl]
  have e1 : (row.take (i * 3) ++ t ++ row.drop (i * 3 + t.length)).take ((i + 1) * 3) = cs.take (i * 3) ++ t := by
    rw [hr, List.take_append_of_le_length (by rw [List.length_append]; omega), List.take_of_length_le (by rw [List.length_append]; omega)]
  rw [e1, List.take_append_of_le_length (by simp only [List.length_append]; omega), List.take_of_length_le (by simp only [List.length_append]; omega)]

set_option maxHeartbeats 4000000 in
theorem insert_grow (base g cap : Nat) (n i : Nat) (l : List Tm) (t : Tm) (vb : Nat) (w : World) (hn : n = l.length) (h40 : n ≤ 1000) (hi : i < n) (hroom : cap < n + 1)
    (hown : w.ownsRow base 68 3 (.slice (some ⟨g, 0, none⟩) n cap) n (tmsV l)) (hbs : base ≤ w.heap.size)
    (hvb : w.heap[vb]? = some (.cells #[.int .i64 t.op, .int .i64 t.n, .string t.s] 68 (0, 0))) (_hne : vb ≠ g) :
    Calls Tryz.prog 159 #[.slice (some ⟨g, 0, none⟩) n cap, .int .i64 i, .slice (some ⟨vb, 0, none⟩) 1 1] w (InsPost w base (.slice (some ⟨g, 0, none⟩) n cap) (n + 1) (l.take i ++ t :: l.drop i)) := by
  obtain ⟨i0, hi0, hz0, hz1, hz2⟩ := info_parts info_tm
  obtain ⟨hl, hv⟩ := hown
  rcases hv with ⟨hv, _⟩ | ⟨g', cap', cur, hv, hbase, hb, hnc, hcm, hcs, ht⟩
  · cases hv
  cases hv
  have hsz : (Tryz.prog.info? 68).map (·.size) = some 3 := by rw [hi0]; simp [hz1]
  have hc63 : cap ≤ 9223372036854775807 := hcm
  have hdl : ((tmsV l).drop (i * 3)).length = (n - i) * 3 := by rw [List.length_drop, hl]; omega
  have hone := tmsV_one l
  have hgw := (Array.getElem?_eq_some_iff.1 hb).1
  have hvw := (Array.getElem?_eq_some_iff.1 hvb).1
  have hcell : ∀ j u, (tmsV l)[j]? = some u → w.cell? ⟨g, j, none⟩ = some u := fun j u hj => by
    have hj' := (List.getElem?_eq_some_iff.1 hj).1
    rw [← ht, List.getElem?_take_of_lt (by omega), Array.getElem?_toList] at hj
    simp [World.cell?, hb, hj]
  have hold : (Builtin.firstCells i0.size i (.slice (some ⟨g, 0, none⟩) i cap)).run Tryz.prog w.drew = .ok ((tmsV l).take (i * 3)).toArray w.drew := by
    rw [hz1]
    exact run_firstCells_some w.drew 3 i ⟨g, 0, none⟩ i cap _ (by rw [List.length_take]; omega) (fun j v hj => by
      rw [addr_add, Nat.zero_add]
      rw [List.getElem?_take] at hj
      split at hj
      · exact hcell j v hj
      · cases hj)
  have hik : i + (n + 1 - i) = n + 1 := by omega
  have hkk : (n : Int) + 1 - (i : Int) = ((n + 1 - i : Nat) : Int) := by omega
  obtain ⟨G, hG⟩ : ∃ G, G = grownCap w (n + 1) cap 68 := ⟨_, rfl⟩
  have hGn : n + 1 ≤ G := by rw [hG]; exact grownCap_ge w _ _ _
  have hGm : G ≤ maxLen := by rw [hG]; exact grownCap_le_maxLen w (n + 1) cap _ (by unfold maxLen; omega)
  obtain ⟨ROW, hROW⟩ : ∃ ROW : Array Value, ROW = ((tmsV l).take (i * 3)).toArray ++ Builtin.zeroCells (Value.agg #[.int .i64 0, .int .i64 0, .string ByteArray.empty]).cells (n + 1 - i) ++ Builtin.zeroCells (Value.agg #[.int .i64 0, .int .i64 0, .string ByteArray.empty]).cells (G - (n + 1)) := ⟨_, rfl⟩
  have hRl : ROW.size = G * 3 := by
    rw [hROW]
    simp only [Array.size_append, zero_size, List.size_toArray, List.length_take, hl]
    omega
  have hRt : ROW.toList.take (i * 3) = (tmsV l).take (i * 3) := by
    rw [hROW]
    simp only [Array.toList_append]
    have : ((tmsV l).take (i * 3)).length = i * 3 := by rw [List.length_take]; omega
    rw [List.append_assoc, List.take_append_of_le_length (by omega), List.take_of_length_le (by omega)]
  have hrz : ∀ ty, (Builtin.append_ #[64, 3] ty #[.slice (some ⟨g, 0, none⟩) i cap, .int .i64 ((n : Int) + 1 - (i : Int))]).run Tryz.prog w =
      .ok (.slice (some ⟨w.heap.size, 0, none⟩) (n + 1) G) (w.alloc (.cells ROW 68)).drew := fun ty => by
    have h := Lib.run_append_grow_zeros w 64 3 ty 68 i0 _ .i64 .i64 Tryz.underlying64 Tryz.underlying3 hi0 hz0 (some ⟨g, 0, none⟩) i cap ((tmsV l).take (i * 3)) hold (n + 1 - i) (by omega) (by omega) (by omega) (by omega) (by rw [hz2]; omega) (by rw [hz2, hik]; exact growslice_fits hroom (by omega))
    rw [hik, ← hG] at h
    rw [hkk, hROW]
    exact h
  obtain ⟨W1, hW1⟩ : ∃ W1, W1 = (w.alloc (.cells ROW 68)).drew := ⟨_, rfl⟩
  have hN : W1.heap[w.heap.size]? = some (.cells ROW 68 (0, 0)) := by rw [hW1]; exact heap_alloc_new _ _
  have hOld : ∀ b, b < w.heap.size → W1.heap[b]? = w.heap[b]? := fun b hb => by rw [hW1]; exact heap_alloc_old _ _ hb
  obtain ⟨row1, hrow1⟩ : ∃ row1, row1 = ROW.toList.take (i * 3) ++ tmV t ++ ROW.toList.drop (i * 3 + (tmV t).length) := ⟨_, rfl⟩
  have hr1l : row1.length = G * 3 := by rw [hrow1]; simp only [List.length_append, List.length_take, List.length_drop, Array.length_toList, hRl, tmV_length]; omega
  have hcpA : ∀ ty dc, (Builtin.copy_ #[64, 64] ty #[.slice (some ⟨w.heap.size, i * 3, none⟩) (n + 1 - i) dc, .slice (some ⟨vb, 0, none⟩) 1 1]).run Tryz.prog W1 = .ok (goInt (Nat.min 1 (n + 1 - i))) (W1.setRow w.heap.size row1.toArray) := fun ty dc => by
    rw [hrow1]
    exact run_copy_rowk (P := Tryz.prog) 3 W1 64 64 ty 68 w.heap.size (i * 3) (n + 1 - i) dc ⟨vb, 0, none⟩ 1 1 ROW 68 (tmV t) Tryz.underlying64 hsz hN
      (by rw [tmV_length, show Nat.min 1 (n + 1 - i) = 1 by simp only [Nat.min_def]; split <;> omega])
      (fun j v hj => by rw [addr_add, Nat.zero_add]; exact cell_of_block' ((hOld vb hvw).trans hvb) (by rw [show (#[.int .i64 t.op, .int .i64 t.n, .string t.s] : Array Value) = (tmV t).toArray from rfl, List.getElem?_toArray]; exact hj))
      (by rw [tmV_length]; omega) (tmV_one t)
  have hN2 : ((W1.setRow w.heap.size row1.toArray).drew).heap[w.heap.size]? = some (.cells row1.toArray 68 (0, 0)) := setRow_heap W1 w.heap.size ROW row1.toArray 68 (0, 0) hN
  have hOld2 : ∀ b, b < w.heap.size → ((W1.setRow w.heap.size row1.toArray).drew).heap[b]? = w.heap[b]? := fun b hb =>
    ((grow_setRow (but_refl W1 (some w.heap.size)) row1.toArray).block b (by rw [hW1]; simp; omega) (by simp; omega)).trans (hOld b hb)
  obtain ⟨row2, hrow2⟩ : ∃ row2, row2 = row1.take ((i + 1) * 3) ++ (tmsV l).drop (i * 3) ++ row1.drop ((i + 1) * 3 + ((tmsV l).drop (i * 3)).length) := ⟨_, rfl⟩
  have hr2l : row2.length = G * 3 := by rw [hrow2]; simp only [List.length_append, List.length_take, List.length_drop, hr1l, hl]; omega
  have hcpB : ∀ ty dc sc, (Builtin.copy_ #[64, 64] ty #[.slice (some ⟨w.heap.size, (i + 1) * 3, none⟩) (n - i) dc, .slice (some ⟨g, i * 3, none⟩) (n - i) sc]).run Tryz.prog (W1.setRow w.heap.size row1.toArray).drew = .ok (goInt (Nat.min (n - i) (n - i))) (((W1.setRow w.heap.size row1.toArray).drew).setRow w.heap.size row2.toArray) := fun ty dc sc => by
    have := run_copy_rowk (P := Tryz.prog) 3 (W1.setRow w.heap.size row1.toArray).drew 64 64 ty 68 w.heap.size ((i + 1) * 3) (n - i) dc ⟨g, i * 3, none⟩ (n - i) sc row1.toArray 68 ((tmsV l).drop (i * 3)) Tryz.underlying64 hsz hN2
      (by rw [hdl, show Nat.min (n - i) (n - i) = n - i by simp only [Nat.min_def]; split <;> omega])
      (fun j v hj => by
        rw [addr_add]
        rw [List.getElem?_drop] at hj
        have := hcell _ v hj
        unfold World.cell? at this ⊢
        rw [hOld2 g hgw]
        exact this) (by rw [hdl]; simp only [List.size_toArray]; omega) (fun v hv => hone v (List.mem_of_mem_drop hv))
    rw [this, hrow2]
  have hfin : InsPost w base (.slice (some ⟨g, 0, none⟩) n cap) (n + 1) (l.take i ++ t :: l.drop i) (.returned (.slice (some ⟨w.heap.size, 0, none⟩) (n + 1) G)) (((W1.setRow w.heap.size row1.toArray).drew).setRow w.heap.size row2.toArray) := by
    have hgr : w.grownBy (((W1.setRow w.heap.size row1.toArray).drew).setRow w.heap.size row2.toArray) (some w.heap.size) := by
      refine grow_setRow (but_drew (grow_setRow ?_ _)) _
      rw [hW1]
      exact but_drew (but_alloc (but_refl w _) _)
    refine ⟨_, rfl, ⟨by rw [tmsV_length]; simp; omega, .inr ⟨w.heap.size, G, row2.toArray, rfl, by omega, setRow_heap (W1.setRow w.heap.size row1.toArray).drew w.heap.size row1.toArray row2.toArray 68 (0, 0) hN2, hGn, hGm, by simpa using hr2l, ?_⟩⟩, ⟨hgr.os, hgr.tape, hgr.output, hgr.size, fun j hj _ => hgr.block j hj (by simp; omega)⟩, .inr rfl⟩
    rw [tms_mid, hrow2, hrow1]
    exact seg_new (n := n) hl hi hRt (by rw [Array.length_toList]; omega) rfl
  have HF := Lib.hid hfin
  have hs1 := slice_at g n cap i (i : Int) rfl (by omega) (by omega)
  have hs2 := slice_up g n cap i (i : Int) rfl (by omega) (by omega)
  have hs3 := slice_at w.heap.size (n + 1) G i (i : Int) rfl (by omega) (by omega)
  have hz3 : ¬ ((i : Int) = (n : Int)) := by omega
  have hz3' : ((i : Int) == (n : Int)) = false := by simpa using hz3
  have hz4 : (cap : Int) < (n : Int) + 1 := by omega
  have hw1 : IntKind.i64.wrap ((i : Int) + 1) = (i : Int) + 1 := by rw [IntKind.wrap_i64]; omega
  have hb1 : (0 : Int) ≤ (i : Int) + 1 := by omega
  have hb5 : (i : Int) ≤ (n : Int) := by omega
  have hin : i ≤ n := by omega
  have htn : ((i : Int) + 1).toNat = i + 1 := by omega
  have hb3 : (i : Int) ≤ (n : Int) + 1 := by omega
  have hb4 : ¬ (cap = i) := by omega
  have hGi : ¬ (G = i) := by omega
  have hGim : ¬ (G = i + 1) := by omega
  have hG63 : G ≤ 9223372036854775807 := hGm
  clear hGm
  have mixed : Tryz.prog.follows .mixedOrders = true := by kernel_rfl
  clear hfin hrow2 hrow1 hr1l hr2l hN hN2 hOld hOld2 hcell hone hdl ht hl hcs hbase hn hold hROW hRl hRt hG hb hvb hgw hvw hkk hik
  subst hW1
  go_enter Tryz.func159, Tryz.ntmps159
  go_wp2_with (first
    | (at_builtin; refine Lib.wpList_append_run _ rfl _ _ _ _ rfl _ _ rfl rfl _ _ (hrz _) ?_)
    | (at_builtin; refine wpList_copy_runI _ rfl _ _ 64 64 rfl _ _ rfl rfl (hcpA _ _) ?_))
  go_region_law_o (refine step_copy_runI rfl _ _ 64 64 rfl _ _ (by simp [Act.eval, Act.put]) (by simp [Act.eval, Act.put]) (hcpB _ _ _) ?_)
  go_wp2_with fail
  go_ret
  exact HF.out

theorem insert_any (base : Nat) (v : Value) (n i : Nat) (l : List Tm) (t : Tm) (vb : Nat) (w : World) (hn : n = l.length) (h40 : n ≤ 1000) (hi : i ≤ n) (hown : w.ownsRow base 68 3 v n (tmsV l)) (hbs : base ≤ w.heap.size)
    (hvb : w.heap[vb]? = some (.cells #[.int .i64 t.op, .int .i64 t.n, .string t.s] 68 (0, 0))) (hne : v.ownBlock ≠ some vb) :
    Calls Tryz.prog 159 #[v, .int .i64 i, .slice (some ⟨vb, 0, none⟩) 1 1] w (InsPost w base v (n + 1) (l.take i ++ t :: l.drop i)) := by
  rcases Nat.lt_or_ge i n with h | h
  · have hown' := hown
    obtain ⟨_, hv⟩ := hown'
    rcases hv with ⟨_, h0⟩ | ⟨g, cap, cur, rfl, _⟩
    · omega
    · have hne' : vb ≠ g := fun e => hne (by rw [e]; rfl)
      rcases Nat.lt_or_ge cap (n + 1) with hc | hc
      · exact insert_grow base g cap n i l t vb w hn h40 h hc hown hbs hvb hne'
      · exact insert_shift base g cap n i l t vb w hn h40 h hc hown hvb hne'
  · obtain rfl : i = n := by omega
    have := insert_end base v i l t vb w hn h40 hown hbs hvb
    rw [List.take_of_length_le (by omega), List.drop_eq_nil_of_le (by omega)]
    exact this
end Go.Proofs.YtcfcpbkeedfbpaaGreatDoor

namespace Go.Proofs.YtcfcpbkeedfbpaaGreatDoor
open Go.RowKit CurSpec
set_option maxRecDepth 100000

theorem Toks.but {w w' : World} {b off n cp B : Nat} {l : List Tk} (h : Toks w (.slice (some ⟨b, off, none⟩) n cp) l) (hb : w.grownBy w' (some B)) (hne : b ≠ B) : Toks w' (.slice (some ⟨b, off, none⟩) n cp) l := by
  obtain ⟨m, hm, A, c, heq, hc, hl, hA⟩ := h
  cases heq
  refine ⟨n, hm, _, cp, rfl, hc, hl, fun h0 => ?_⟩
  obtain ⟨b', off', h1, hlt, hcell⟩ := hA h0
  cases h1
  refine ⟨b, off, rfl, Nat.lt_of_lt_of_le hlt hb.size, fun j u hj => ?_⟩
  rw [← hcell j u hj]
  have := hb.block b hlt (by simp; omega)
  simp [World.cell?, this]

/-- Block B holds a cursor: the tokens from the next one on, the end behind them; the fault's place and the fault. -/
def CurAt (w : World) (B : Nat) (c : Cur) : Prop :=
  ∃ b off n cp, w.heap[B]? = some (.cells #[.slice (some ⟨b, off, none⟩) (n + 1) cp, .int .i64 c.a1, .int .i64 c.a2, .int .i64 c.bad] 78 (0, 0)) ∧ b < B ∧ n = c.L.length ∧
    Toks w (.slice (some ⟨b, off, none⟩) (n + 1) cp) (full c.L c.w1 c.w2)
theorem CurAt.lt {w : World} {B : Nat} {c : Cur} (h : CurAt w B c) : B < w.heap.size := by
  obtain ⟨b, off, n, cp, h, _⟩ := h
  exact (Array.getElem?_eq_some_iff.1 h).1
theorem CurAt.keep {w w' : World} {B : Nat} {c : Cur} (h : CurAt w B c) (hb : Below w.heap.size w w') : CurAt w' B c := by
  obtain ⟨b, off, n, cp, h, hne, hn, hT⟩ := h
  exact ⟨b, off, n, cp, block_on h hb, hne, hn, hT.keep hb⟩
theorem CurAt.but {w w' : World} {B B2 : Nat} {c : Cur} (h : CurAt w B c) (hb : w.grownBy w' (some B2)) (hlt : B < B2) : CurAt w' B c := by
  obtain ⟨b, off, n, cp, h, hne, hn, hT⟩ := h
  exact ⟨b, off, n, cp, (hb.block _ (Array.getElem?_eq_some_iff.1 h).1 (by simp; omega)).trans h, hne, hn, hT.but hb (by omega)⟩
theorem CurAt.drew {w : World} {B : Nat} {c : Cur} (h : CurAt w B c) : CurAt w.drew B c := h
theorem CurAt.alloc {w : World} {B : Nat} {c : Cur} (h : CurAt w B c) (o : Obj) : CurAt (w.alloc o) B c := h.keep ((Below.refl _ _).alloc (Nat.le_refl _) _)

/-- What a cursor's fault is: of nobody's it is ErrState at 0, 0. -/
def Fl (w : World) (p : Value) (a1 a2 e : Int) : Prop :=
  (p = .pointer none ∧ a1 = 0 ∧ a2 = 0 ∧ e = 10) ∨
  (∃ B, p = .pointer (some ⟨B, 0, none⟩) ∧ w.heap[B]? = some (.cells #[.slice none 0 0, .int .i64 0, .int .i64 0, .int .i64 0] 78 (0, 0)) ∧ a1 = 0 ∧ a2 = 0 ∧ e = 10) ∨
  (∃ B c, p = .pointer (some ⟨B, 0, none⟩) ∧ CurAt w B c ∧ a1 = c.a1 ∧ a2 = c.a2 ∧ e = c.bad)
theorem Fl.keep {w w' : World} {p : Value} {a1 a2 e : Int} (h : Fl w p a1 a2 e) (hb : Below w.heap.size w w') : Fl w' p a1 a2 e := by
  rcases h with h | ⟨B, hp, h, h'⟩ | ⟨B, c, hp, h, h'⟩
  · exact .inl h
  · exact .inr (.inl ⟨B, hp, block_on h hb, h'⟩)
  · exact .inr (.inr ⟨B, c, hp, h.keep hb, h'⟩)
theorem Fl.of {w : World} {B : Nat} {c : Cur} (h : CurAt w B c) : Fl w (.pointer (some ⟨B, 0, none⟩)) c.a1 c.a2 c.bad := .inr (.inr ⟨B, c, rfl, h, rfl, rfl, rfl⟩)

def RetFault (W : World) (a1 a2 er : Int) (e : Ending) (w' : World) : Prop := e = .returned (.tuple #[.agg #[.int .i64 a1, .int .i64 a2], .int .i64 er]) ∧ Below W.heap.size W w'
set_option maxHeartbeats 1000000 in
theorem fault_any (p : Value) (a1 a2 er : Int) (w : World) (h : Fl w p a1 a2 er) : Calls Tryz.prog 19 #[p] w (RetFault w a1 a2 er) := by
  rcases h with ⟨rfl, rfl, rfl, rfl⟩ | ⟨B, rfl, h, rfl, rfl, rfl⟩ | ⟨B, c, rfl, h, rfl, rfl, rfl⟩
  · go_enter Tryz.func19, Tryz.ntmps19
    go_wp2_with fail
    refine bodyPost_ret (v := .tuple #[.agg #[.int .i64 0, .int .i64 0], .int .i64 10]) (by simp [results, Tryz.results19, go_sem]) rfl ⟨rfl, (Below.refl _ _).alloc (Nat.le_refl _) _⟩
  · obtain ⟨c0, c1, c2, c3⟩ := cells_4 h
    have hlt := (Array.getElem?_eq_some_iff.1 h).1
    clear h
    go_enter Tryz.func19, Tryz.ntmps19
    go_wp2_with fail
    refine bodyPost_ret (v := .tuple #[.agg #[.int .i64 0, .int .i64 0], .int .i64 10]) (by simp [results, Tryz.results19, go_sem]) rfl ⟨rfl, (Below.refl _ _).alloc (Nat.le_refl _) _⟩
  · have hlt := h.lt
    obtain ⟨b, off, n, cp, h, _, _, _⟩ := h
    obtain ⟨c0, c1, c2, c3⟩ := cells_4 h
    have hnI : 0 ≤ (n : Int) := by omega
    clear h
    go_enter Tryz.func19, Tryz.ntmps19
    go_wp2_with fail
    go_region
    all_goals
      go_wp2_with fail
      refine bodyPost_ret (v := .tuple #[.agg #[.int .i64 c.a1, .int .i64 c.a2], .int .i64 c.bad]) (by simp [results, Tryz.results19, go_sem]) rfl ⟨rfl, ((Below.refl _ _).alloc (Nat.le_refl _) _).drew⟩
theorem good_any (p : Value) (a1 a2 er : Int) (w : World) (h : Fl w p a1 a2 er) {b : Bool} (hb : (er == 0) = b) : Calls Tryz.prog 16 #[p] w (RetBool w b) := by
  have HF := Lib.hid (fun W hW => fault_any p a1 a2 er W (h.keep hW))
  have HV := Lib.hid hb
  clear h hb
  go_enter Tryz.func16, Tryz.ntmps16
  go_wp2_with (go_at_call 19; (with_reducible refine (HF.out _ (Below.refl _ _)).mono ?_))
  rintro e x2 ⟨rfl, hb2⟩
  have HB := Lib.hid hb2
  clear hb2
  go_wp2_with fail
  go_ret
  exact ⟨ret_bool HV.out, HB.out.alloc HB.out.size _⟩
end Go.Proofs.YtcfcpbkeedfbpaaGreatDoor

namespace Go.Proofs.YtcfcpbkeedfbpaaGreatDoor
open Go.RowKit CurSpec
set_option maxRecDepth 100000

def RetStr (W : World) (s : ByteArray) (e : Ending) (w' : World) : Prop := e = .returned (.string s) ∧ Below W.heap.size W w'
def RetInt (W : World) (n : Int) (e : Ending) (w' : World) : Prop := e = .returned (.int .i64 n) ∧ Below W.heap.size W w'
def RetNone (W : World) (e : Ending) (w' : World) : Prop := e = .returned (.tuple #[]) ∧ Below W.heap.size W w'

section
variable (p : Value) (a1 a2 er : Int) (hne : er ≠ 0) (w : World) (h : Fl w p a1 a2 er)
include hne h
theorem good_dead : Calls Tryz.prog 16 #[p] w (RetBool w false) := good_any p a1 a2 er w h (by simpa using hne)

set_option maxHeartbeats 1000000 in
theorem next_dead' : Calls Tryz.prog 17 #[p] w (RetTk w 0 ⟨#[]⟩ 0 0) := by
  have HG := Lib.hid (fun W hW => good_dead p a1 a2 er hne W (h.keep hW))
  clear h hne
  go_enter Tryz.func17, Tryz.ntmps17
  go_wp2_with (go_at_call 16; (with_reducible refine (HG.out _ ((Below.refl _ _).alloc (Nat.le_refl _) _)).mono ?_))
  rintro e x2 ⟨rfl, hb2⟩
  obtain ⟨k1, hB, hz⟩ := one_block hb2
  obtain ⟨c0, c1, c2, c3⟩ := cells_4 k1
  obtain ⟨f0, f1, f2, f3⟩ := free_4 k1
  have HK := Lib.hid (blk_of k1 (n := 4) rfl)
  have HB := Lib.hid hB
  clear hb2 hB k1
  go_wp2_with fail
  obtain ⟨q0, q1, q2, q3⟩ := store_4 HK.out (.int .i64 0) (.string ⟨#[]⟩) (.int .i64 0) (.int .i64 0)
  refine bodyPost_ret (v := .agg #[.int .i64 0, .string ⟨#[]⟩, .int .i64 0, .int .i64 0]) (by simp [results, Tryz.results17, go_sem, q0, q1, q2, q3]) rfl ⟨rfl, below_4 HB.out (Nat.le_refl _) _ _ _ _⟩

set_option maxHeartbeats 1000000 in
theorem is_dead (k : Int) (s : ByteArray) : Calls Tryz.prog 65 #[p, .int .i64 k, .string s] w (RetBool w false) := by
  have HG := Lib.hid (good_dead p a1 a2 er hne w h)
  clear h hne
  go_enter Tryz.func65, Tryz.ntmps65
  go_wp2_with (go_at_call 16; (with_reducible refine HG.out.mono ?_))
  rintro e x2 ⟨rfl, hb2⟩
  have HB := Lib.hid hb2
  clear hb2
  go_wp2_with fail
  go_ret
  exact ⟨rfl, HB.out⟩

set_option maxHeartbeats 1000000 in
theorem take_dead (k : Int) (s : ByteArray) : Calls Tryz.prog 34 #[p, .int .i64 k, .string s] w (RetBool w false) := by
  have HG := Lib.hid (is_dead p a1 a2 er hne w h k s)
  clear h hne
  go_enter Tryz.func34, Tryz.ntmps34
  go_wp2_with (go_at_call 65; (with_reducible refine HG.out.mono ?_))
  rintro e x2 ⟨rfl, hb2⟩
  have HB := Lib.hid hb2
  clear hb2
  go_wp2_with fail
  go_ret
  exact ⟨rfl, HB.out⟩

set_option maxHeartbeats 1000000 in
theorem fail_dead' (n : Int) : Calls Tryz.prog 35 #[p, .int .i64 n] w (RetNone w) := by
  have HG := Lib.hid (good_dead p a1 a2 er hne w h)
  clear h hne
  go_enter Tryz.func35, Tryz.ntmps35
  go_wp2_with (go_at_call 16; (with_reducible refine HG.out.mono ?_))
  rintro e x2 ⟨rfl, hb2⟩
  have HB := Lib.hid hb2
  clear hb2
  go_wp2_with fail
  go_end0
  exact ⟨rfl, HB.out⟩

set_option maxHeartbeats 1000000 in
theorem want_dead (k : Int) (s : ByteArray) : Calls Tryz.prog 63 #[p, .int .i64 k, .string s] w (RetNone w) := by
  have HG := Lib.hid (take_dead p a1 a2 er hne w h k s)
  have HF := Lib.hid (fun W hW => fail_dead' p a1 a2 er hne W (h.keep hW) 2)
  clear h hne
  go_enter Tryz.func63, Tryz.ntmps63
  go_wp2_with (go_at_call 34; (with_reducible refine HG.out.mono ?_))
  rintro e x2 ⟨rfl, hb2⟩
  have HB := Lib.hid hb2
  clear hb2
  go_wp2_with (go_at_call 35; (with_reducible refine (HF.out _ HB.out).mono ?_))
  rintro e x3 ⟨rfl, hb3⟩
  have HB3 := Lib.hid (below_two' HB.out hb3)
  clear hb3
  go_wp2_with fail
  go_end0
  exact ⟨rfl, HB3.out⟩

set_option maxHeartbeats 1000000 in
theorem name_dead : Calls Tryz.prog 62 #[p] w (RetStr w ⟨#[]⟩) := by
  have HG := Lib.hid (next_dead' p a1 a2 er hne w h)
  have HF := Lib.hid (fun W hW => fail_dead' p a1 a2 er hne W (h.keep hW) 2)
  clear h hne
  go_enter Tryz.func62, Tryz.ntmps62
  go_wp2_with (go_at_call 17; (with_reducible refine HG.out.mono ?_))
  rintro e x2 ⟨rfl, hb2⟩
  have HB := Lib.hid hb2
  clear hb2
  go_wp2_with (go_at_call 35; (with_reducible refine (HF.out _ (HB.out.alloc HB.out.size _)).mono ?_))
  rintro e x3 ⟨rfl, hb3⟩
  have HB3 := Lib.hid (below_two' (HB.out.alloc HB.out.size _) hb3)
  clear hb3
  go_wp2_with fail
  go_ret
  exact ⟨rfl, HB3.out⟩
end
end Go.Proofs.YtcfcpbkeedfbpaaGreatDoor
