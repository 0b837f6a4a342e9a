/- ExprTree, ExprReads, ExprInsert, ExprInsert2, CurAt, CurDead, CurRef, CurLive, CurRefTake, CurRefName, ValGet, CurRefNum, CurCalls, ExprRdr, joined. -/
import Derived.Test.YtcfcpbkeedfbpaaDoorMS08
import Derived.Test.YtcfcpbkeedfbpaaDoorMS01
import Derived.Lib.Overlaps
import Derived.Lib.AppendZerosOnto
import Derived.Laws.CopyRow
import Derived.Shelf.Spec.SlicesInsert
import Derived.Test.YtcfcpbkeedfbpaaDoorMS07
import Derived.RegionTactic
import Derived.ChangeAlike
import Derived.Test.YtcfcpbkeedfbpaaDoorMS02
import Derived.Deep.RegionHeld3
import Derived.Test.YtcfcpbkeedfbpaaDoorMS00
import Derived.Test.YtcfcpbkeedfbpaaDoorMS06
import Derived.Lib.Hide
namespace Go.Proofs.YtcfcpbkeedfbpaaDoor
namespace ExprSpec
open CurSpec TermSpec NamesSpec

inductive Ex where
  | leaf (t : Tm)
  | un (o : Int) (a : Ex)
  | bin (o : Int) (a b : Ex)
def flat : Ex → List Tm
  | .leaf t => [t]
  | .un o a => opT o :: flat a
  | .bin o a b => opT o :: (flat a ++ flat b)
def Good : Ex → Prop
  | .leaf t => ar t.op = 0 ∧ mayB t = true
  | .un o a => ar o = 1 ∧ Good a
  | .bin o a b => ar o = 2 ∧ Good a ∧ Good b
theorem may_plain {t : Tm} (h : mayB t = true) (h0 : 1 ≤ ar t.op) : t = opT t.op := by
  obtain ⟨o, n, s⟩ := t
  have h1 : o ≠ 1 ∧ o ≠ 2 ∧ o ≠ 11 := by
    refine ⟨?_, ?_, ?_⟩ <;> rintro rfl <;> exact absurd (show (1 : Int) ≤ 0 from h0) (by decide)
  unfold mayB at h
  dsimp only at h
  rw [if_neg h1.1, if_neg (fun h => h.elim h1.2.1 h1.2.2)] at h
  simp only [Bool.and_eq_true, decide_eq_true_eq] at h
  obtain ⟨rfl, hs⟩ := h
  have : s = ⟨#[]⟩ := by
    apply ByteArray.ext
    apply Array.eq_empty_of_size_eq_zero
    exact hs
  rw [this]
  rfl
theorem ex_all : ∀ (l : List Tm) (k m : Nat), cnt k l = some m → (l.take m).all mayB = true → ∃ es : List Ex, es.length = k ∧ es.flatMap flat = l.take m ∧ ∀ e ∈ es, Good e
  | l, 0, m, h, _ => by
    rw [cnt_zero] at h; cases h
    exact ⟨[], rfl, by simp, by simp⟩
  | [], k + 1, m, h, _ => by cases h
  | t :: r, k + 1, m, h, hm => by
    obtain ⟨h0, m', rfl, h'⟩ := cnt_step h
    rw [List.take_succ_cons, List.all_cons, Bool.and_eq_true] at hm
    obtain ⟨es, hl, hf, hg⟩ := ex_all r _ m' h' hm.2
    rw [List.take_succ_cons]
    have hb := (ar_bd t.op).2
    have e0 := arN_of h0
    rcases (show ar t.op = 0 ∨ ar t.op = 1 ∨ ar t.op = 2 by omega) with h1 | h1 | h1
    · refine ⟨.leaf t :: es, by rw [List.length_cons, hl]; omega, by rw [List.flatMap_cons, hf]; rfl, ?_⟩
      intro e he
      rcases List.mem_cons.1 he with rfl | he
      · exact ⟨h1, hm.1⟩
      · exact hg e he
    · match es, hl with
      | [], hl => simp at hl; omega
      | a :: es, hl =>
        refine ⟨.un t.op a :: es, by rw [List.length_cons] at hl ⊢; omega, ?_, ?_⟩
        · rw [List.flatMap_cons] at hf ⊢
          rw [← hf]
          show (opT t.op :: flat a) ++ _ = _
          rw [← may_plain hm.1 (by omega)]
          rfl
        · intro e he
          rcases List.mem_cons.1 he with rfl | he
          · exact ⟨h1, hg a (by simp)⟩
          · exact hg e (by simp [he])
    · match es, hl with
      | [], hl => simp at hl; omega
      | [a], hl => simp at hl; omega
      | a :: b :: es, hl =>
        refine ⟨.bin t.op a b :: es, by simp only [List.length_cons] at hl ⊢; omega, ?_, ?_⟩
        · rw [List.flatMap_cons, List.flatMap_cons] at hf
          rw [List.flatMap_cons, ← hf]
          show (opT t.op :: (flat a ++ flat b)) ++ _ = _
          rw [← may_plain hm.1 (by omega)]
          simp
        · intro e he
          rcases List.mem_cons.1 he with rfl | he
          · exact ⟨h1, hg a (by simp), hg b (by simp)⟩
          · exact hg e (by simp [he])
theorem ex_of {x : List Tm} (h : WF x) : ∃ e, flat e = x ∧ Good e := by
  obtain ⟨es, hl, hf, hg⟩ := ex_all x 1 x.length h.1 (by rw [List.take_of_length_le (Nat.le_refl _)]; exact h.2)
  rw [List.take_of_length_le (Nat.le_refl _)] at hf
  match es, hl with
  | [e], _ =>
    refine ⟨e, by simpa using hf, hg e (by simp)⟩
theorem flat_wf : ∀ {e : Ex}, Good e → WF (flat e)
  | .leaf t, h => WF.leaf h.1 h.2
  | .un o a, h => WF.un h.1 (may_op (by rintro rfl; exact absurd h.1 (by decide)) (by rintro rfl; exact absurd h.1 (by decide)) (by rintro rfl; exact absurd h.1 (by decide))) (flat_wf h.2)
  | .bin o a b, h => WF.bin h.1 (may_op (by rintro rfl; exact absurd h.1 (by decide)) (by rintro rfl; exact absurd h.1 (by decide)) (by rintro rfl; exact absurd h.1 (by decide))) (flat_wf h.2.1) (flat_wf h.2.2)

/-- The sign of what a term does. -/
def sgOf (o : Int) : Sg := (sgs.find? fun s => decide (s.op = o)).getD ⟨⟨#[]⟩, 0, 0, 0, 0⟩
def lev : Ex → Int
  | .leaf _ => 8
  | .un o _ => if o = 3 then 7 else 3
  | .bin o _ _ => if o = 7 ∨ o = 8 then 8 else (sgOf o).lev
abbrev Tx := Int × List UInt8
def bs (l : List UInt8) : ByteArray := ⟨l.toArray⟩
def lTrue : List UInt8 := [116, 114, 117, 101]
def lFalse : List UInt8 := [102, 97, 108, 115, 101]
def lIn : List UInt8 := [105, 110]
def lMin : List UInt8 := [109, 105, 110]
def lMax : List UInt8 := [109, 97, 120]
def lNot : List UInt8 := [110, 111, 116]
def twr (b : Prop) [Decidable b] (x : List Tx) : List Tx := if b then (3, [40]) :: (x ++ [(3, [41])]) else x
/-- The tokens of an expression. -/
def tk : Ex → List Tx
  | .leaf t => if t.op = 1 then [(2, ValSpec.text t.n)] else if t.op = 2 then [(1, t.s.data.toList)] else if t.op = 9 then [(1, lTrue)] else if t.op = 10 then [(1, lFalse)] else [(1, lIn), (3, [40]), (1, t.s.data.toList), (3, [41])]
  | .un o a => if o = 3 then (3, [45]) :: twr (lev a < 7) (tk a) else (1, lNot) :: twr (lev a < 3) (tk a)
  | .bin o a b => if o = 7 then (1, lMin) :: (3, [40]) :: (tk a ++ (3, [44]) :: (tk b ++ [(3, [41])]))
    else if o = 8 then (1, lMax) :: (3, [40]) :: (tk a ++ (3, [44]) :: (tk b ++ [(3, [41])]))
    else twr (lev a < (sgOf o).left) (tk a) ++ ((if (sgOf o).lev ≤ 2 then 1 else 3, (sgOf o).t.data.toList) :: twr (lev b < (sgOf o).right) (tk b))

/-- So many tokens on. -/
def onN : Nat → Cur → Cur
  | 0, c => c
  | n + 1, c => onN n (on c)
/-- The tokens that are next. -/
def Nx : Cur → List Tx → Prop
  | _, [] => True
  | c, (k, s) :: r => (next c).k = k ∧ (next c).t = bs s ∧ Nx (on c) r
theorem onN_add (a b : Nat) (c : Cur) : onN (a + b) c = onN b (onN a c) := by
  induction a generalizing c with
  | zero => rw [Nat.zero_add]; rfl
  | succ a ih => rw [Nat.succ_add]; exact ih (on c)
theorem onN_one (c : Cur) : onN 1 c = on c := rfl
theorem onN_bad (n : Nat) (c : Cur) : (onN n c).bad = c.bad := by
  induction n generalizing c with
  | zero => rfl
  | succ n ih => exact (ih (on c)).trans (on_bad c).1
theorem onN_len (n : Nat) (c : Cur) : (onN n c).L.length ≤ c.L.length := by
  induction n generalizing c with
  | zero => exact Nat.le_refl _
  | succ n ih => exact Nat.le_trans (ih (on c)) (by rw [on_len]; omega)
theorem nx_app (c : Cur) (a b : List Tx) : Nx c (a ++ b) ↔ Nx c a ∧ Nx (onN a.length c) b := by
  induction a generalizing c with
  | nil => simp [Nx, onN]
  | cons x a ih =>
    obtain ⟨k, s⟩ := x
    simp only [List.cons_append, Nx, List.length_cons, onN, ih, and_assoc]
theorem nx_isB {c : Cur} (h0 : c.bad = 0) {k : Int} {s : List UInt8} {r : List Tx} (h : Nx c ((k, s) :: r)) : isB c k (bs s) = true := by simp [isB, h0, h.1, h.2.1]

/-- A sign that stands behind what is of a level does not go into it. -/
def Qu (lv : Int) (d : Cur) : Prop := ∀ s, sgn d 9 0 = some s → s.left ≤ lv
theorem Qu.mono {lv lv' : Int} {d : Cur} (h : Qu lv d) (hl : lv ≤ lv') : Qu lv' d := fun s hs => by have := h s hs; omega
theorem sgn_wide {d : Cur} {lev k : Int} {s : Sg} (h : sgn d lev k = some s) : sgn d 9 0 = some s := by
  obtain ⟨h1, h2, h3, h4, hm⟩ := sgn_some h
  have := sg_lev hm
  refine sgn_mk h1 h2 ?_ (by omega)
  have h5 := this.2.2.1
  unfold first at h5
  split at h5 <;> omega
theorem qu_stop {d : Cur} {lv L k : Int} (h : Qu lv d) (hk : ∀ s ∈ sgs, s.left ≤ lv → k ≤ s.lev → False) : sgn d L k = none := sgn_none fun s hs => by
  obtain ⟨h1, h2, h3, h4, hm⟩ := sgn_some hs
  exact hk s hm (h s (sgn_wide hs)) h4
/-- A mark that is no sign. -/
theorem no_sign {d : Cur} {s : List UInt8} (h : (next d).t = bs s) (hl : look (bs s) = none) (L k : Int) : sgn d L k = none := sgn_none fun x hs => by
  have := (sgn_some hs).1
  rw [h, hl] at this
  cases this
theorem end_sign {d : Cur} (h : (next d).k = 0) (L k : Int) : sgn d L k = none := sgn_none fun x hs => by
  have := (sgn_some hs).2.1
  omega
theorem C_fit {f g : Nat} {c : Cur} (lev k : Int) (x : List Tm) (hf : Fit f c) (hg : Fit g c) : C f lev k c x = C g lev k c x := C_same lev k x hf hg
theorem fit_on {f : Nat} {c : Cur} (n : Nat) (h : Fit f c) : Fit f (onN n c) := fun hb => by
  have := onN_len n c
  rw [onN_bad] at hb
  have := h hb
  omega
/-- What the reading of an expression's tokens comes to. -/
def Reads (e : Ex) : Prop := ∀ (c : Cur) (f : Nat) (k : Int), c.bad = 0 → Nx c (tk e) → Qu (lev e) (onN (tk e).length c) → 1 ≤ k → k ≤ lev e → k ≤ 7 → Fit f c → S f c k = C f (lev e) k (onN (tk e).length c) (flat e)
theorem not_neg' {c : Cur} {k : Int} {s : ByteArray} (h : (next c).k ≠ k) : isB c k s = false := by
  unfold isB
  rw [decide_eq_false h]
  simp
/-- An expression in brackets, where it is of a lesser level. -/
theorem reads_twr {a : Ex} (ih : Reads a) {c : Cur} {f : Nat} {r k : Int} (h0 : c.bad = 0) (hn : Nx c (twr (lev a < r) (tk a))) (hq : ¬ lev a < r → Qu (lev a) (onN (twr (lev a < r) (tk a)).length c)) (h1 : 1 ≤ k) (hk : k ≤ r) (h7 : r ≤ 7) (hl1 : 1 ≤ lev a) (hf : Fit f c) :
    S f c k = C f (if lev a < r then 8 else lev a) k (onN (twr (lev a < r) (tk a)).length c) (flat a) := by
  unfold twr at hn hq ⊢
  by_cases hr : lev a < r
  · rw [if_pos hr] at hn ⊢
    rw [if_pos hr]
    cases f with
    | zero => exact absurd h0 hf.zero
    | succ f =>
      have ho : isB c 3 tOpen = true := nx_isB h0 hn
      have hko : (next c).k = 3 := hn.1
      have hrl := isB_real ho (by decide)
      have hfo : Fit f (on c) := fun _ => by have := hf h0; omega
      obtain ⟨hna, hnb⟩ := (nx_app _ _ _).1 hn.2.2
      have hb1 : (onN (tk a).length (on c)).bad = 0 := by rw [onN_bad]; exact hrl.2.2
      have hcl : isB (onN (tk a).length (on c)) 3 tClose = true := nx_isB hb1 hnb
      have hns : ∀ L k, sgn (onN (tk a).length (on c)) L k = none := no_sign hnb.2.1 (by decide)
      have hS : S f (on c) 1 = (onN (tk a).length (on c), flat a) := by
        rw [ih (on c) f 1 hrl.2.2 hna (fun s hs => by rw [hns] at hs; cases hs) (by decide) hl1 (by decide) hfo]
        exact C_stop f _ (hns _ _)
      have hw : want (onN (tk a).length (on c)) 3 tClose = on (onN (tk a).length (on c)) := by unfold want; rw [if_pos hcl]
      have hA : atom (S f) c = (on (onN (tk a).length (on c)), flat a) := by
        unfold atom
        rw [if_neg (by omega), if_neg (by rw [not_neg' (by omega)]; decide), if_neg (by rw [not_neg' (by omega)]; decide), if_neg (by rw [not_neg' (by omega)]; decide), if_neg (by rw [not_neg' (by omega)]; decide), if_neg (by rw [not_neg' (by omega)]; decide), if_pos ho, hS, ← hw]
      have hng : isB c 3 tNeg = false := by
        unfold isB
        have : (next c).t ≠ tNeg := by rw [hn.2.1]; decide
        rw [decide_eq_false this]
        simp
      have hH : hd (S f) c k = ((on (onN (tk a).length (on c)), flat a), 8) := by
        unfold hd
        rw [if_neg (by rw [not_neg' (c := c) (k := 1) (by omega)]; simp), if_neg (by rw [hng]; decide), hA]
      rw [S_good f k h0, hH]
      have hlen : ((3, [40]) :: (tk a ++ [(3, [41])]) : List Tx).length = 1 + ((tk a).length + 1) := by simp; omega
      rw [hlen, onN_add, onN_add]
      have e1 : onN 1 (onN (tk a).length (onN 1 c)) = on (onN (tk a).length (on c)) := rfl
      rw [e1]
      refine C_fit _ _ _ ?_ ?_
      · intro _
        have h1 := isB_real hcl (by decide)
        have h2 := onN_len (tk a).length (on c)
        have h3 := hrl.2.1
        have := hf h0
        dsimp only
        omega
      · intro _
        have h1 := isB_real hcl (by decide)
        have h2 := onN_len (tk a).length (on c)
        have h3 := hrl.2.1
        have := hf h0
        dsimp only
        omega
  · rw [if_neg hr] at hn ⊢
    rw [if_neg hr] at hq
    rw [if_neg hr]
    exact ih c f k h0 hn (hq hr) h1 (by omega) (by omega) hf
theorem sgOf_mem {o : Int} (ho : ar o = 2) (h7 : ¬ (o = 7 ∨ o = 8)) : sgOf o ∈ sgs ∧ (sgOf o).op = o := by
  have h1 : o = 4 ∨ o = 5 ∨ o = 6 ∨ o = 13 ∨ o = 14 ∨ o = 15 ∨ o = 16 ∨ o = 17 ∨ o = 18 ∨ o = 19 ∨ o = 20 := by
    unfold ar at ho
    split at ho
    · omega
    split at ho
    · omega
    split at ho
    · omega
    · omega
  rcases h1 with rfl | rfl | rfl | rfl | rfl | rfl | rfl | rfl | rfl | rfl | rfl <;> exact ⟨by unfold sgOf sgs; simp, rfl⟩
theorem lev_pos {e : Ex} (h : Good e) : 1 ≤ lev e ∧ lev e ≤ 8 := by
  cases e with
  | leaf t => exact ⟨show (1 : Int) ≤ 8 by decide, show (8 : Int) ≤ 8 by decide⟩
  | un o a =>
    have e : lev (.un o a) = if o = 3 then 7 else 3 := rfl
    rw [e]
    split <;> omega
  | bin o a b =>
    have e : lev (.bin o a b) = if o = 7 ∨ o = 8 then 8 else (sgOf o).lev := rfl
    rw [e]
    split
    · omega
    · rename_i h7
      have := sg_lev (sgOf_mem h.1 h7).1
      omega
end ExprSpec
end Go.Proofs.YtcfcpbkeedfbpaaDoor

namespace Go.Proofs.YtcfcpbkeedfbpaaDoor
namespace ExprSpec
open CurSpec TermSpec NamesSpec

theorem bs_list (s : ByteArray) : bs s.data.toList = s := rfl
theorem list_bs (l : List UInt8) : (bs l).data.toList = l := by simp [bs]
theorem empty_of {s : ByteArray} (h : s.size = 0) : s = ⟨#[]⟩ := by
  apply ByteArray.ext
  apply Array.eq_empty_of_size_eq_zero
  exact h
theorem may_num {t : Tm} (h1 : t.op = 1) (hm : mayB t = true) : (0 ≤ t.n ∧ t.n ≤ 1000000) ∧ t = ⟨1, t.n, ⟨#[]⟩⟩ := by
  obtain ⟨o, n, s⟩ := t
  dsimp only at h1
  subst h1
  have hm' : (decide (0 ≤ n) && decide (n ≤ 1000000) && decide (s.size = 0)) = true := hm
  simp only [Bool.and_eq_true, decide_eq_true_eq] at hm'
  exact ⟨hm'.1, by rw [empty_of hm'.2]⟩
theorem may_name {t : Tm} (h2 : t.op = 2 ∨ t.op = 11) (hm : mayB t = true) : isName t.s.data.toList = true ∧ t = ⟨t.op, 0, t.s⟩ := by
  obtain ⟨o, n, s⟩ := t
  dsimp only at h2
  unfold mayB at hm
  dsimp only at hm
  rw [if_neg (by rcases h2 with rfl | rfl <;> decide), if_pos h2] at hm
  simp only [Bool.and_eq_true, decide_eq_true_eq] at hm
  exact ⟨hm.2, by rw [hm.1]⟩
theorem may_word {t : Tm} (h9 : t.op = 9 ∨ t.op = 10) (hm : mayB t = true) : t = opT t.op := by
  obtain ⟨o, n, s⟩ := t
  dsimp only at h9
  unfold mayB at hm
  dsimp only at hm
  rw [if_neg (by rcases h9 with rfl | rfl <;> decide), if_neg (by rcases h9 with rfl | rfl <;> decide)] at hm
  simp only [Bool.and_eq_true, decide_eq_true_eq] at hm
  rw [hm.1, empty_of hm.2]
  rfl
theorem leaf_ops {o : Int} (h : ar o = 0) : o = 1 ∨ o = 2 ∨ o = 9 ∨ o = 10 ∨ o = 11 := by
  unfold ar at h
  split at h
  · assumption
  split at h
  · omega
  split at h
  · omega
  · omega
theorem isB_yes' {c : Cur} {k : Int} {s : ByteArray} (h0 : c.bad = 0) (h1 : (next c).k = k) (h2 : (next c).t = s) : isB c k s = true := by simp [isB, h0, h1, h2]
theorem isB_ne {c : Cur} {k : Int} {s : ByteArray} (h : (next c).t ≠ s) : ¬ isB c k s = true := fun hb => h (isB_next hb).2.2
theorem isB_nk {c : Cur} {k : Int} {s : ByteArray} (h : (next c).k ≠ k) : ¬ isB c k s = true := fun hb => h (isB_next hb).2.1
theorem name_ne {s w : ByteArray} (h : isName s.data.toList = true) (hw : isName w.data.toList = false) : s ≠ w := by
  rintro rfl
  rw [h] at hw
  cases hw
theorem hd_atom {rec : Cur → Int → Pa} {c : Cur} {k : Int} (h1 : ¬ isB c 1 tNot = true) (h3 : ¬ isB c 3 tNeg = true) : hd rec c k = (atom rec c, 8) := by
  unfold hd
  rw [if_neg (fun h => h1 h.2), if_neg h3]
theorem want_yes {c : Cur} {k : Int} {w : List UInt8} {ww : ByteArray} (h : isB c k (bs w) = true) (hw : bs w = ww) : want c k ww = on c := by
  subst hw
  unfold want
  rw [if_pos h]
/-- A leaf: its tokens, and what they are read as. -/
theorem reads_leaf {t : Tm} (h : Good (.leaf t)) : Reads (.leaf t) := by
  intro c f k h0 hn hq hk1 hk hk7 hf
  obtain ⟨ha, hm⟩ := h
  cases f with
  | zero => exact absurd h0 hf.zero
  | succ f =>
    have key : (hd (S f) c k = ((onN (tk (.leaf t)).length c, [t]), 8)) → S (f + 1) c k = C (f + 1) (lev (.leaf t)) k (onN (tk (.leaf t)).length c) (flat (.leaf t)) := by
      intro hh
      rw [S_good f k h0, hh]
      have hf1 := hf.fitHd h0 k
      rw [hh] at hf1
      exact C_fit _ _ _ hf1 (fit_on _ hf)
    apply key
    rcases leaf_ops ha with h1 | h1 | h1 | h1 | h1
    · obtain ⟨hb, ht⟩ := may_num h1 hm
      have e : tk (.leaf t) = [(2, ValSpec.text t.n)] := if_pos h1
      rw [e] at hn ⊢
      have hk2 : (next c).k = 2 := hn.1
      have hl : (next c).t.data.toList = ValSpec.text t.n := by rw [hn.2.1, list_bs]
      have hg := (ValSpec.get_put t.n).2 hb
      have hE : numE c 1000000 = 0 := by
        unfold numE
        rw [if_pos ⟨h0, hk2⟩, hl, if_pos hg.2, hg.1, if_neg (by omega)]
      have hN : numN c 1000000 = t.n := by unfold numN; rw [if_pos hE, hl, hg.1]
      have hC : numC c 1000000 = on c := by unfold numC; rw [if_pos hE]
      rw [hd_atom (isB_nk (by omega)) (isB_nk (by omega))]
      unfold atom
      rw [if_pos hk2, hC, hN, ← ht]
      rfl
    · obtain ⟨hnm, ht⟩ := may_name (.inl h1) hm
      have e : tk (.leaf t) = [(1, t.s.data.toList)] := by unfold tk; rw [if_neg (by omega), if_pos h1]
      rw [e] at hn ⊢
      have hk1' : (next c).k = 1 := hn.1
      have hts : (next c).t = t.s := hn.2.1
      have hw : ∀ w : ByteArray, isName w.data.toList = false → ¬ isB c 1 w = true := fun w hw => isB_ne (by rw [hts]; exact name_ne hnm hw)
      have hB : nameB c = true := by unfold nameB; rw [decide_eq_true h0, decide_eq_true hk1', hts, hnm]; rfl
      have hC : nameC c = on c := by unfold nameC; rw [if_pos hB]
      have hS : nameS c = t.s := by unfold nameS; rw [if_pos hB, hts]
      rw [hd_atom (hw _ (by decide)) (isB_nk (by omega))]
      unfold atom
      rw [if_neg (by omega), if_neg (hw _ (by decide)), if_neg (hw _ (by decide)), if_neg (hw _ (by decide)), if_neg (hw _ (by decide)), if_neg (hw _ (by decide)), if_neg (isB_nk (by omega)), hC, hS]
      rw [h1] at ht
      rw [← ht]
      rfl
    · have ht := may_word (.inl h1) hm
      have e : tk (.leaf t) = [(1, lTrue)] := by unfold tk; rw [if_neg (by omega), if_neg (by omega), if_pos h1]
      rw [e] at hn ⊢
      have hb : isB c 1 tTrue = true := nx_isB h0 hn
      rw [hd_atom (isB_ne (by rw [hn.2.1]; decide)) (isB_nk (by rw [hn.1]; decide))]
      unfold atom
      rw [if_neg (by rw [hn.1]; decide), if_pos hb]
      rw [h1] at ht
      rw [← ht]
      rfl
    · have ht := may_word (.inr h1) hm
      have e : tk (.leaf t) = [(1, lFalse)] := by unfold tk; rw [if_neg (by omega), if_neg (by omega), if_neg (by omega), if_pos h1]
      rw [e] at hn ⊢
      have hb : isB c 1 tFalse = true := nx_isB h0 hn
      rw [hd_atom (isB_ne (by rw [hn.2.1]; decide)) (isB_nk (by rw [hn.1]; decide))]
      unfold atom
      rw [if_neg (by rw [hn.1]; decide), if_neg (isB_ne (by rw [hn.2.1]; decide)), if_pos hb]
      rw [h1] at ht
      rw [← ht]
      rfl
    · obtain ⟨hnm, ht⟩ := may_name (.inr h1) hm
      have e : tk (.leaf t) = [(1, lIn), (3, [40]), (1, t.s.data.toList), (3, [41])] := by unfold tk; rw [if_neg (by omega), if_neg (by omega), if_neg (by omega), if_neg (by omega)]
      rw [e] at hn ⊢
      obtain ⟨n1, n2, n4, n5, n7, n8, n10, n11, _⟩ := hn
      have hb : isB c 1 tIn = true := isB_yes' h0 n1 n2
      have h01 : (on c).bad = 0 := (on_bad c).1.trans h0
      have hw1 : want (on c) 3 tOpen = on (on c) := want_yes (isB_yes' h01 n4 n5) rfl
      have h02 : (on (on c)).bad = 0 := (on_bad _).1.trans h01
      have hB : nameB (on (on c)) = true := by unfold nameB; rw [decide_eq_true h02, decide_eq_true n7, n8, bs_list, hnm]; rfl
      have hC : nameC (on (on c)) = on (on (on c)) := by unfold nameC; rw [if_pos hB]
      have hS : nameS (on (on c)) = t.s := by unfold nameS; rw [if_pos hB, n8, bs_list]
      have h03 : (on (on (on c))).bad = 0 := (on_bad _).1.trans h02
      have hw2 : want (on (on (on c))) 3 tClose = on (on (on (on c))) := want_yes (isB_yes' h03 n10 n11) rfl
      rw [hd_atom (isB_ne (by rw [n2]; decide)) (isB_nk (by rw [n1]; decide))]
      unfold atom
      rw [if_neg (by rw [n1]; decide), if_neg (isB_ne (by rw [n2]; decide)), if_neg (isB_ne (by rw [n2]; decide)), if_pos hb, hw1, hC, hS, hw2]
      rw [h1] at ht
      rw [← ht]
      rfl
theorem reads_un {o : Int} {a : Ex} (h : Good (.un o a)) (ih : Reads a) : Reads (.un o a) := by
  intro c f k h0 hn hq hk1 hk hk7 hf
  have hla := lev_pos h.2
  have ho : o = 3 ∨ o = 12 := by
    have h1 := h.1
    unfold ar at h1
    split at h1
    · omega
    split at h1
    · assumption
    split at h1 <;> omega
  cases f with
  | zero => exact absurd h0 hf.zero
  | succ f =>
    have hlev : lev (.un o a) = if o = 3 then 7 else 3 := rfl
    have htk : tk (.un o a) = if o = 3 then (3, [45]) :: twr (lev a < 7) (tk a) else (1, lNot) :: twr (lev a < 3) (tk a) := rfl
    rw [hlev] at hk hq ⊢
    rw [htk] at hn hq ⊢
    rcases ho with rfl | rfl
    · rw [if_pos rfl] at hk hq hn ⊢
      rw [if_pos rfl]
      rw [if_pos rfl] at hq
      have hb : isB c 3 tNeg = true := nx_isB h0 hn
      have hrl := isB_real hb (by decide)
      have hfo : Fit f (on c) := fun _ => by have := hf h0; omega
      have e1 : onN ((3, [45]) :: twr (lev a < 7) (tk a) : List Tx).length c = onN (twr (lev a < 7) (tk a)).length (on c) := rfl
      rw [e1] at hq ⊢
      have hS : S f (on c) 7 = (onN (twr (lev a < 7) (tk a)).length (on c), flat a) := by
        rw [reads_twr ih hrl.2.2 hn.2.2 (fun hnl => hq.mono (by omega)) (by decide) (by decide) (by decide) hla.1 hfo]
        exact C_stop f _ (stop_7 _ _)
      have hH : hd (S f) c k = ((onN (twr (lev a < 7) (tk a)).length (on c), opT 3 :: flat a), 7) := by
        unfold hd
        rw [if_neg (fun h' => isB_nk (c := c) (k := 1) (s := tNot) (by rw [hn.1]; decide) h'.2), if_pos hb, hS]
      rw [S_good f k h0, hH]
      refine C_fit _ _ _ (fit_on _ hfo) ?_
      rw [← e1]
      exact fit_on _ hf
    · rw [if_neg (by decide)] at hk hq hn ⊢
      rw [if_neg (by decide)]
      rw [if_neg (by decide)] at hq
      have hb : isB c 1 tNot = true := nx_isB h0 hn
      have hrl := isB_real hb (by decide)
      have hfo : Fit f (on c) := fun _ => by have := hf h0; omega
      have e1 : onN ((1, lNot) :: twr (lev a < 3) (tk a) : List Tx).length c = onN (twr (lev a < 3) (tk a)).length (on c) := rfl
      rw [e1] at hq ⊢
      have hS : S f (on c) 3 = (onN (twr (lev a < 3) (tk a)).length (on c), flat a) := by
        rw [reads_twr ih hrl.2.2 hn.2.2 (fun hnl => hq.mono (by omega)) (by decide) (by decide) (by decide) hla.1 hfo]
        refine C_stop f _ (qu_stop hq (fun s hm h1 h2 => ?_))
        have := sg_lev hm
        omega
      have hH : hd (S f) c k = ((onN (twr (lev a < 3) (tk a)).length (on c), opT 12 :: flat a), 3) := by
        unfold hd
        rw [if_pos ⟨hk, hb⟩, hS]
      rw [S_good f k h0, hH]
      refine C_fit _ _ _ (fit_on _ hfo) ?_
      rw [← e1]
      exact fit_on _ hf
theorem bin_ops {o : Int} (_h : ar o = 2) : o = 7 ∨ o = 8 ∨ ¬ (o = 7 ∨ o = 8) := by omega
theorem look_sg {o : Int} (ho : ar o = 2) (h7 : ¬ (o = 7 ∨ o = 8)) : look (bs (sgOf o).t.data.toList) = some (sgOf o) := by
  rw [bs_list]
  have hm := (sgOf_mem ho h7).1
  generalize sgOf o = s at hm
  unfold sgs at hm
  simp only [List.mem_cons, List.not_mem_nil, or_false] at hm
  rcases hm with rfl | rfl | rfl | rfl | rfl | rfl | rfl | rfl | rfl | rfl | rfl <;> rfl
theorem reads_two {o : Int} {a b : Ex} {w : List UInt8} {ww : ByteArray} (ha : Good a) (hb : Good b) (iha : Reads a) (ihb : Reads b) {c : Cur} {f : Nat} {k : Int} (h0 : c.bad = 0) (hww : bs w = ww)
    (hat : ∀ rec : Cur → Int → Pa, (next c).k = 1 → (next c).t = ww → hd rec c k = (two rec (on c) o, 8)) (hn : Nx c ((1, w) :: (3, [40]) :: (tk a ++ (3, [44]) :: (tk b ++ [(3, [41])])))) (hf : Fit f c) :
    S f c k = C f 8 k (onN ((1, w) :: (3, [40]) :: (tk a ++ (3, [44]) :: (tk b ++ [(3, [41])])) : List Tx).length c) (opT o :: (flat a ++ flat b)) := by
  cases f with
  | zero => exact absurd h0 hf.zero
  | succ f =>
    have hr0 := next_real (c := c) (by rw [hn.1]; decide)
    have h01 := hr0.2.2
    have hw1 : want (on c) 3 tOpen = on (on c) := want_yes (nx_isB h01 hn.2.2) rfl
    have h02 : (on (on c)).bad = 0 := (on_bad _).1.trans h01
    have hfo : Fit f (on (on c)) := fun _ => by have := hf h0; have := on_len (on c); omega
    obtain ⟨na, nc⟩ := (nx_app _ _ _).1 hn.2.2.2.2
    have h03 : (onN (tk a).length (on (on c))).bad = 0 := by rw [onN_bad]; exact h02
    have hs1 : ∀ L k, sgn (onN (tk a).length (on (on c))) L k = none := no_sign nc.2.1 (by decide)
    have hS1 : S f (on (on c)) 1 = (onN (tk a).length (on (on c)), flat a) := by
      rw [iha _ f 1 h02 na (fun s hs => by rw [hs1] at hs; cases hs) (by decide) (lev_pos ha).1 (by decide) hfo]
      exact C_stop f _ (hs1 _ _)
    have hw2 : want (onN (tk a).length (on (on c))) 3 tComma = on (onN (tk a).length (on (on c))) := want_yes (nx_isB h03 nc) rfl
    obtain ⟨nb, ne⟩ := (nx_app _ _ _).1 nc.2.2
    have h04 : (on (onN (tk a).length (on (on c)))).bad = 0 := (on_bad _).1.trans h03
    have hs2 : ∀ L k, sgn (onN (tk b).length (on (onN (tk a).length (on (on c))))) L k = none := no_sign ne.2.1 (by decide)
    have hf2 : Fit f (on (onN (tk a).length (on (on c)))) := fun _ => by have h1 := hfo h02; have h2 := onN_len (tk a).length (on (on c)); have h3 := on_len (onN (tk a).length (on (on c))); omega
    have hS2 : S f (on (onN (tk a).length (on (on c)))) 1 = (onN (tk b).length (on (onN (tk a).length (on (on c)))), flat b) := by
      rw [ihb _ f 1 h04 nb (fun s hs => by rw [hs2] at hs; cases hs) (by decide) (lev_pos hb).1 (by decide) hf2]
      exact C_stop f _ (hs2 _ _)
    have h05 : (onN (tk b).length (on (onN (tk a).length (on (on c))))).bad = 0 := by rw [onN_bad]; exact h04
    have hw3 : want (onN (tk b).length (on (onN (tk a).length (on (on c))))) 3 tClose = on (onN (tk b).length (on (onN (tk a).length (on (on c))))) := want_yes (nx_isB h05 ne) rfl
    have hT : two (S f) (on c) o = (on (onN (tk b).length (on (onN (tk a).length (on (on c))))), opT o :: (flat a ++ flat b)) := by
      unfold two
      simp only [hw1, hS1, hw2, hS2, hw3]
    have hlen : ((1, w) :: (3, [40]) :: (tk a ++ (3, [44]) :: (tk b ++ [(3, [41])])) : List Tx).length = 2 + ((tk a).length + (1 + ((tk b).length + 1))) := by simp; omega
    have hend : onN ((1, w) :: (3, [40]) :: (tk a ++ (3, [44]) :: (tk b ++ [(3, [41])])) : List Tx).length c = on (onN (tk b).length (on (onN (tk a).length (on (on c))))) := by
      rw [hlen, onN_add, onN_add, onN_add, onN_add]
      rfl
    rw [S_good f k h0, hat (S f) hn.1 (by rw [hn.2.1, hww]), hT, hend]
    refine C_fit _ _ _ ?_ ?_
    · intro _
      have h1 := hf2 h04
      have h2 := onN_len (tk b).length (on (onN (tk a).length (on (on c))))
      have h3 := on_len (onN (tk b).length (on (onN (tk a).length (on (on c)))))
      dsimp only
      omega
    · rw [← hend]; exact fit_on _ hf
theorem reads_bin {o : Int} {a b : Ex} (h : Good (.bin o a b)) (iha : Reads a) (ihb : Reads b) : Reads (.bin o a b) := by
  intro c f k h0 hn hq hk1 hk hk7 hf
  obtain ⟨har, ha, hb⟩ := h
  have hla := lev_pos ha
  have hlb := lev_pos hb
  have htk : tk (.bin o a b) = if o = 7 then (1, lMin) :: (3, [40]) :: (tk a ++ (3, [44]) :: (tk b ++ [(3, [41])]))
    else if o = 8 then (1, lMax) :: (3, [40]) :: (tk a ++ (3, [44]) :: (tk b ++ [(3, [41])]))
    else twr (lev a < (sgOf o).left) (tk a) ++ ((if (sgOf o).lev ≤ 2 then 1 else 3, (sgOf o).t.data.toList) :: twr (lev b < (sgOf o).right) (tk b)) := rfl
  have hlev : lev (.bin o a b) = if o = 7 ∨ o = 8 then 8 else (sgOf o).lev := rfl
  have hfl : flat (.bin o a b) = opT o :: (flat a ++ flat b) := rfl
  rw [htk] at hn hq ⊢
  rw [hlev] at hk hq ⊢
  rw [hfl]
  rcases bin_ops har with rfl | rfl | h7
  · rw [if_pos rfl] at hn hq ⊢
    rw [if_pos (.inl rfl)]
    refine reads_two (ww := tMin) ha hb iha ihb h0 rfl (fun rec hk ht => ?_) hn hf
    rw [hd_atom (isB_ne (by rw [ht]; decide)) (isB_nk (by omega))]
    unfold atom
    rw [if_neg (by omega), if_neg (isB_ne (by rw [ht]; decide)), if_neg (isB_ne (by rw [ht]; decide)), if_neg (isB_ne (by rw [ht]; decide)), if_pos (isB_yes' h0 hk ht)]
  · rw [if_neg (show ¬ (8 : Int) = 7 by decide), if_pos rfl] at hn hq ⊢
    rw [if_pos (.inr rfl)]
    refine reads_two (ww := tMax) ha hb iha ihb h0 rfl (fun rec hk ht => ?_) hn hf
    rw [hd_atom (isB_ne (by rw [ht]; decide)) (isB_nk (by omega))]
    unfold atom
    rw [if_neg (by omega), if_neg (isB_ne (by rw [ht]; decide)), if_neg (isB_ne (by rw [ht]; decide)), if_neg (isB_ne (by rw [ht]; decide)), if_neg (isB_ne (by rw [ht]; decide)), if_pos (isB_yes' h0 hk ht)]
  · have h77 : o ≠ 7 := fun e => h7 (.inl e)
    have h88 : o ≠ 8 := fun e => h7 (.inr e)
    rw [if_neg h77, if_neg h88] at hn hq ⊢
    rw [if_neg h7] at hk hq ⊢
    obtain ⟨hm, hop⟩ := sgOf_mem har h7
    have hlk := look_sg har h7
    obtain ⟨s, hs⟩ : ∃ s, s = sgOf o := ⟨_, rfl⟩
    rw [← hs] at hn hq hk hm hop hlk ⊢
    obtain ⟨q1, q2, q3, q4, q5, q6, q7⟩ := sg_lev hm
    obtain ⟨na, ns⟩ := (nx_app _ _ _).1 hn
    have hb1 : (onN (twr (lev a < s.left) (tk a)).length c).bad = 0 := by rw [onN_bad]; exact h0
    have hkd : (next (onN (twr (lev a < s.left) (tk a)).length c)).k = 3 ∨ (next (onN (twr (lev a < s.left) (tk a)).length c)).k = 1 := by
      rw [ns.1]; split <;> simp
    have hlk' : look (next (onN (twr (lev a < s.left) (tk a)).length c)).t = some s := by rw [ns.2.1]; exact hlk
    have hqa : ¬ lev a < s.left → Qu (lev a) (onN (twr (lev a < s.left) (tk a)).length c) := fun hnl x hx => by
      have := (sgn_some hx).1
      rw [hlk'] at this
      cases this
      omega
    have hS : S f c k = C f (if lev a < s.left then 8 else lev a) k (onN (twr (lev a < s.left) (tk a)).length c) (flat a) :=
      reads_twr iha h0 na hqa hk1 (by omega) (by have := q3; unfold first at this; split at this <;> omega) hla.1 hf
    have hsg : sgn (onN (twr (lev a < s.left) (tk a)).length c) (if lev a < s.left then 8 else lev a) k = some s := by
      refine sgn_mk hlk' hkd ?_ hk
      split
      · have := q3; unfold first at this; split at this <;> omega
      · omega
    cases f with
    | zero => exact absurd h0 hf.zero
    | succ f =>
      have hf1 : Fit (f + 1) (onN (twr (lev a < s.left) (tk a)).length c) := fit_on _ hf
      have hfo := hf1.fitOn hsg
      have h02 : (on (onN (twr (lev a < s.left) (tk a)).length c)).bad = 0 := (on_bad _).1.trans hb1
      have hend : onN (twr (lev a < s.left) (tk a) ++ ((if s.lev ≤ 2 then (1 : Int) else 3, s.t.data.toList) :: twr (lev b < s.right) (tk b))).length c = onN (twr (lev b < s.right) (tk b)).length (on (onN (twr (lev a < s.left) (tk a)).length c)) := by
        rw [List.length_append, onN_add]
        rfl
      rw [hend] at hq ⊢
      have hS2 : S f (on (onN (twr (lev a < s.left) (tk a)).length c)) s.right = (onN (twr (lev b < s.right) (tk b)).length (on (onN (twr (lev a < s.left) (tk a)).length c)), flat b) := by
        rw [reads_twr ihb h02 ns.2.2 (fun hnl => hq.mono (by omega)) (by omega) (Int.le_refl _) (by omega) hlb.1 hfo]
        refine C_stop f _ (qu_stop hq (fun x hx h1 h2 => ?_))
        have := sg_lev hx
        omega
      rw [hS, C_step f (flat a) hsg, hS2, hop]
      refine C_fit _ _ _ (fit_on _ hfo) ?_
      rw [← hend]
      exact fit_on _ hf
theorem reads_all : ∀ e : Ex, Good e → Reads e
  | .leaf _, h => reads_leaf h
  | .un _ a, h => reads_un h (reads_all a h.2)
  | .bin _ a b, h => reads_bin h (reads_all a h.2.1) (reads_all b h.2.2)
end ExprSpec
end Go.Proofs.YtcfcpbkeedfbpaaDoor

namespace Go.Proofs.YtcfcpbkeedfbpaaDoor
open Go.RowKit TermSpec
set_option maxRecDepth 100000

theorem info_tm : (Tryd.prog.info? 30).map (fun i => (i.zero, i.size, i.bytes)) = some (some (.agg #[.int .i64 0, .int .i64 0, .string ByteArray.empty]), 3, 32) := by kernel_rfl

theorem run_copy_rowk {P : Program} (k : Nat) (w : World) (dT sT ty elem : TypeId) (g o dLen dCap : Nat) (a : Addr) (sLen sCap : Nat) (cur : Array Value) (t : TypeId) (cs : List Value)
    (hu : P.underlying dT = some (.slice elem)) (hs : (P.info? elem).map (·.size) = some k)
    (hg : w.heap[g]? = some (.cells cur t (0, 0))) (hn : cs.length = Nat.min sLen dLen * k)
    (hsrc : ∀ j v, cs[j]? = some v → w.cell? (a.add j) = some v) (hfit : o + cs.length ≤ cur.size) (h1 : ∀ v ∈ cs, v.oneCell' = true) :
    (Builtin.copy_ #[dT, sT] ty #[.slice (some ⟨g, o, none⟩) dLen dCap, .slice (some a) sLen sCap]).run P w =
      .ok (goInt (Nat.min sLen dLen)) (w.setRow g (cur.toList.take o ++ cs ++ cur.toList.drop (o + cs.length)).toArray) := by
  have hl := run_loadCells_list (P := P) w a cs hsrc
  have hst := run_storeCells_at P g o t cs 0 cur w hg (by simpa using hfit) h1
  cases hq : P.info? elem with
  | none => simp [hq] at hs
  | some i =>
    have hi : i.size = k := by simpa [hq] using hs
    simp [Builtin.copy_, run_underlying hu, Builtin.lenOf, Builtin.firstCells, sizeOf, typeInfo, hq, hi, ← hn, hl, hst]

theorem slice_lo (a : Option Addr) (len cap lo : Nat) (li : Int) (hli : li = lo) (h1 : lo ≤ len) : ∃ r, ∀ W, (Instr.slice 26 (.slice a len cap) (some (.int .i64 li)) none none).run Tryd.prog W = .ok r W := by
  refine ⟨sliced a lo len cap 3, fun W => ?_⟩
  rw [run_slice_l (P := Tryd.prog) W 26 a len cap (by rw [elem_tms]; exact Tryd.underlying26) .i64 li (by omega) (by omega), elem_tms, Tryd.sizeOf30]
  subst hli
  rfl
theorem slice_at (g len cap lo : Nat) (li : Int) (hli : li = lo) (h1 : lo ≤ len) (h2 : lo < cap) (W : World) : (Instr.slice 26 (.slice (some ⟨g, 0, none⟩) len cap) (some (.int .i64 li)) none none).run Tryd.prog W = .ok (.slice (some ⟨g, lo * 3, none⟩) (len - lo) (cap - lo)) W := by
  rw [run_slice_l (P := Tryd.prog) W 26 _ len cap (by rw [elem_tms]; exact Tryd.underlying26) .i64 li (by omega) (by omega), elem_tms, Tryd.sizeOf30]
  subst hli
  simp [sliced, Result.andThen, addr_add]
  omega
theorem slice_up (g len cap hi : Nat) (h : Int) (hh : h = hi) (h2 : hi ≤ cap) (_h0 : 0 < cap) (W : World) : (Instr.slice 26 (.slice (some ⟨g, 0, none⟩) len cap) none (some (.int .i64 h)) none).run Tryd.prog W = .ok (.slice (some ⟨g, 0, none⟩) hi cap) W := by
  rw [run_slice_h (P := Tryd.prog) W 26 _ len cap (by rw [elem_tms]; exact Tryd.underlying26) .i64 h (by omega) (by omega), elem_tms, Tryd.sizeOf30]
  subst hh
  simp [sliced, Result.andThen, addr_add]
  try omega

/-- A row as it is behind the insertion. -/
def InsPost (W : World) (base : Nat) (v : Value) (n : Nat) (l : List Tm) (e : Ending) (w' : World) : Prop :=
  ∃ v', e = .returned v' ∧ w'.ownsRow base 30 3 v' n (tmsV l) ∧ W.grownBy w' v.ownBlock ∧ (v'.ownBlock = v.ownBlock ∨ v'.ownBlock = some W.heap.size)

theorem grow_setRow {w w' : World} {g : Nat} (h : w.grownBy w' (some g)) (cs : Array Value) : w.grownBy (w'.setRow g cs) (some g) :=
  ⟨h.os, h.tape, h.output, by simp [World.setRow]; exact h.size, fun i hi hn => by
    rw [← h.block i hi hn]
    unfold World.setRow
    simp only [Array.getElem?_modify]
    rw [if_neg (by intro e; exact hn (by rw [e]))]⟩

theorem seg_list {cur cs t : List Value} {i n : Nat} (hcs : cur.take (n * 3) = cs) (hi : i < n) (hn : (n + 1) * 3 ≤ cur.length) (ht : t.length = 3) :
    ((cur.take ((i + 1) * 3) ++ cs.drop (i * 3) ++ cur.drop ((i + 1) * 3 + (cs.drop (i * 3)).length)).take (i * 3) ++ t ++ (cur.take ((i + 1) * 3) ++ cs.drop (i * 3) ++ cur.drop ((i + 1) * 3 + (cs.drop (i * 3)).length)).drop (i * 3 + t.length)).take ((n + 1) * 3) = cs.take (i * 3) ++ t ++ cs.drop (i * 3) := by
  have hl : cs.length = n * 3 := by rw [← hcs, List.length_take]; omega
  have hd : (cs.drop (i * 3)).length = n * 3 - i * 3 := by rw [List.length_drop, hl]
  have h1 : (cur.take ((i + 1) * 3)).length = (i + 1) * 3 := by rw [List.length_take]; omega
  have e1 : (cur.take ((i + 1) * 3) ++ cs.drop (i * 3) ++ cur.drop ((i + 1) * 3 + (cs.drop (i * 3)).length)).take (i * 3) = cs.take (i * 3) := by
    rw [List.append_assoc, List.take_append_of_le_length (by omega), List.take_take, ← hcs, List.take_take, show min (i * 3) ((i + 1) * 3) = i * 3 by omega, show min (i * 3) (n * 3) = i * 3 by omega]
  have e2 : (cur.take ((i + 1) * 3) ++ cs.drop (i * 3) ++ cur.drop ((i + 1) * 3 + (cs.drop (i * 3)).length)).drop (i * 3 + t.length) = cs.drop (i * 3) ++ cur.drop ((i + 1) * 3 + (cs.drop (i * 3)).length) := by
    rw [List.append_assoc, show i * 3 + t.length = (cur.take ((i + 1) * 3)).length by omega, List.drop_left]
  rw [e1, e2]
  have h4 : (cs.take (i * 3)).length = i * 3 := by rw [List.length_take]; omega
  rw [List.append_assoc, List.append_assoc, ← List.append_assoc, ← List.append_assoc, List.take_append_of_le_length (by simp only [List.length_append]; omega)]
  rw [List.take_of_length_le (by simp only [List.length_append]; omega), List.append_assoc]
theorem tms_mid (l : List Tm) (t : Tm) (i : Nat) : tmsV (l.take i ++ t :: l.drop i) = (tmsV l).take (i * 3) ++ tmV t ++ (tmsV l).drop (i * 3) := by
  rw [← tms_take, ← tms_drop]
  simp [tmsV]

end Go.Proofs.YtcfcpbkeedfbpaaDoor

namespace Go.Proofs.YtcfcpbkeedfbpaaDoor
open Go.RowKit TermSpec

theorem zero_size (n : Nat) : (Builtin.zeroCells (Value.agg #[.int .i64 0, .int .i64 0, .string ByteArray.empty]).cells n).size = n * 3 := by
  simp [Builtin.zeroCells, Value.cells]
theorem seg_new {cs t row : List Value} {i n : Nat} (hl : cs.length = n * 3) (hi : i < n) (hr : row.take (i * 3) = cs.take (i * 3)) (_hrl : (n + 1) * 3 ≤ row.length) (ht : t.length = 3) :
    ((row.take (i * 3) ++ t ++ row.drop (i * 3 + t.length)).take ((i + 1) * 3) ++ cs.drop (i * 3) ++ (row.take (i * 3) ++ t ++ row.drop (i * 3 + t.length)).drop ((i + 1) * 3 + (cs.drop (i * 3)).length)).take ((n + 1) * 3) = cs.take (i * 3) ++ t ++ cs.drop (i * 3) := by
  have h4 : (cs.take (i * 3)).length = i * 3 := by rw [List.length_take]; omega
  have hd : (cs.drop (i * 3)).length = n * 3 - i * 3 := by rw [List.length_drop, hl]
  have e1 : (row.take (i * 3) ++ t ++ row.drop (i * 3 + t.length)).take ((i + 1) * 3) = cs.take (i * 3) ++ t := by
    rw [hr, List.take_append_of_le_length (by rw [List.length_append]; omega), List.take_of_length_le (by rw [List.length_append]; omega)]
  rw [e1, List.take_append_of_le_length (by simp only [List.length_append]; omega), List.take_of_length_le (by simp only [List.length_append]; omega)]

end Go.Proofs.YtcfcpbkeedfbpaaDoor

namespace Go.Proofs.YtcfcpbkeedfbpaaDoor
open Go.RowKit CurSpec

theorem Toks.but {w w' : World} {b off n cp B : Nat} {l : List Tk} (h : Toks w (.slice (some ⟨b, off, none⟩) n cp) l) (hb : w.grownBy w' (some B)) (hne : b ≠ B) : Toks w' (.slice (some ⟨b, off, none⟩) n cp) l := by
  obtain ⟨m, hm, A, c, heq, hc, hl, hA⟩ := h
  cases heq
  refine ⟨n, hm, _, cp, rfl, hc, hl, fun h0 => ?_⟩
  obtain ⟨b', off', h1, hlt, hcell⟩ := hA h0
  cases h1
  refine ⟨b, off, rfl, Nat.lt_of_lt_of_le hlt hb.size, fun j u hj => ?_⟩
  rw [← hcell j u hj]
  have := hb.block b hlt (by simp; omega)
  simp [World.cell?, this]

def RetFault (W : World) (a1 a2 er : Int) (e : Ending) (w' : World) : Prop := e = .returned (.tuple #[.agg #[.int .i64 a1, .int .i64 a2], .int .i64 er]) ∧ Below W.heap.size W w'
end Go.Proofs.YtcfcpbkeedfbpaaDoor

namespace Go.Proofs.YtcfcpbkeedfbpaaDoor
open Go.RowKit CurSpec

def RetStr (W : World) (s : ByteArray) (e : Ending) (w' : World) : Prop := e = .returned (.string s) ∧ Below W.heap.size W w'
def RetInt (W : World) (n : Int) (e : Ending) (w' : World) : Prop := e = .returned (.int .i64 n) ∧ Below W.heap.size W w'
def RetNone (W : World) (e : Ending) (w' : World) : Prop := e = .returned (.tuple #[]) ∧ Below W.heap.size W w'

section

end
end Go.Proofs.YtcfcpbkeedfbpaaDoor

namespace Go.Proofs.YtcfcpbkeedfbpaaDoor
open Go.RowKit CurSpec

theorem ret_cur {W0 w w' : World} {c : Cur} {A : Option Addr} {n cp : Nat} {w1 w2 a1 a2 bad : Int} (h : c = ⟨c.L, w1, w2, a1, a2, bad⟩) (hT : Toks W0 (.slice A n cp) c.L) (hB : Below w.heap.size w w') :
    RetCur W0 w c (.returned (.agg #[.slice A n cp, .int .i64 w1, .int .i64 w2, .int .i64 a1, .int .i64 a2, .int .i64 bad])) w' :=
  ⟨A, n, cp, by rw [h], hT, hB⟩

/-- The three tests of Is, each decided. -/
theorem isB_yes {c : Cur} {k : Int} {s : ByteArray} (h0 : c.bad = 0) (h1 : (next c).k = k) (h2 : (next c).t = s) : isB c k s = true := by simp [isB, h0, h1, h2]
theorem isB_no1 {c : Cur} {k : Int} {s : ByteArray} (h1 : (next c).k ≠ k) : isB c k s = false := by simp [isB, h1]
theorem isB_no2 {c : Cur} {k : Int} {s : ByteArray} (h1 : (next c).t ≠ s) : isB c k s = false := by simp [isB, h1]
end Go.Proofs.YtcfcpbkeedfbpaaDoor

namespace Go.Proofs.YtcfcpbkeedfbpaaDoor
open Go.RowKit CurSpec

theorem full_next {c : Cur} (h : c.bad = 0) : ∃ r, full c.L c.w1 c.w2 = next c :: r ∧ (0 < c.L.length → r = full (on c).L (on c).w1 (on c).w2) := by
  obtain ⟨L, w1, w2, a1, a2, bad⟩ := c
  obtain rfl : bad = 0 := h
  cases L with
  | nil => exact ⟨[], rfl, fun h => absurd h (by simp)⟩
  | cons t r => exact ⟨_, rfl, fun _ => rfl⟩
theorem but_below {w w' : World} {B : Nat} (h : Below w.heap.size w w') : w.grownBy w' (some B) := ⟨h.os, h.tape, h.output, h.size, fun i hi _ => h.block i hi⟩

end Go.Proofs.YtcfcpbkeedfbpaaDoor

namespace Go.Proofs.YtcfcpbkeedfbpaaDoor
open Go.RowKit CurSpec

def RetCurB (W0 W : World) (c : Cur) (b : Bool) (e : Ending) (w' : World) : Prop :=
  ∃ A n cp, e = .returned (.tuple #[.agg #[.slice A n cp, .int .i64 c.w1, .int .i64 c.w2, .int .i64 c.a1, .int .i64 c.a2, .int .i64 c.bad], .bool b]) ∧ Toks W0 (.slice A n cp) c.L ∧ Below W.heap.size W w'

end Go.Proofs.YtcfcpbkeedfbpaaDoor

namespace Go.Proofs.YtcfcpbkeedfbpaaDoor
open Go.RowKit CurSpec NamesSpec

def RetCurS (W0 W : World) (c : Cur) (s : ByteArray) (e : Ending) (w' : World) : Prop :=
  ∃ A n cp, e = .returned (.tuple #[.agg #[.slice A n cp, .int .i64 c.w1, .int .i64 c.w2, .int .i64 c.a1, .int .i64 c.a2, .int .i64 c.bad], .string s]) ∧ Toks W0 (.slice A n cp) c.L ∧ Below W.heap.size W w'
theorem nameB_yes {c : Cur} (h0 : c.bad = 0) (h1 : (next c).k = 1) (h2 : isName (next c).t.data.toList = true) : nameB c = true := by simp [nameB, h0, h1, h2]
theorem nameB_no1 {c : Cur} (h1 : (next c).k ≠ 1) : nameB c = false := by simp [nameB, h1]
theorem nameB_no2 {c : Cur} (h1 : isName (next c).t.data.toList = false) : nameB c = false := by simp [nameB, h1]

end Go.Proofs.YtcfcpbkeedfbpaaDoor

namespace Go.Proofs.YtcfcpbkeedfbpaaDoor
open Go.RowKit ValSpec

theorem str_nil {s : ByteArray} (h : s.size = 0) : s.toList = [] := by
  rw [ByteArray.toList_eq, ← List.length_eq_zero_iff]; exact h
theorem str_ne {s : ByteArray} (h : 0 < s.size) : s.toList.isEmpty = false := by
  have e : s.toList.length = s.size := by rw [ByteArray.toList_eq]; rfl
  cases h' : s.toList with
  | nil => rw [h'] at e; simp at e; omega
  | cons a l => rfl
theorem val_bool {a b : Bool} (h : a = b) : Ending.returned (.bool a) = .returned (.bool b) := by rw [h]
theorem val_pair {a b c d : Int} (h : a = b) (h' : c = d) : Ending.returned (.tuple #[.int .i64 a, .int .i64 c]) = .returned (.tuple #[.int .i64 b, .int .i64 d]) := by rw [h, h']
theorem take_snoc (s : ByteArray) (k : Nat) (h : k < s.size) : s.data.toList.take (k + 1) = s.data.toList.take k ++ [s[k]] := by
  rw [List.take_succ_eq_append_getElem (by simpa using h)]; rfl
theorem take_all (s : ByteArray) : s.data.toList.take s.size = s.data.toList := by rw [List.take_of_length_le (by simp)]
theorem cons_of {s : ByteArray} (h : 0 < s.size) : ∃ tl, s.data.toList = s[0] :: tl ∧ tl.length + 1 = s.size := by
  have e : s.data.toList.length = s.size := rfl
  cases h' : s.data.toList with
  | nil => rw [h'] at e; simp at e; omega
  | cons a l =>
    rw [h'] at e
    refine ⟨l, ?_, by simpa using e⟩
    have : s.data.toList[0]'(by rw [h']; simp) = s[0] := rfl
    rw [← this]
    simp [h']
theorem num_zero {s : ByteArray} (h : 0 < s.size) (h0 : (s[0].toNat : Int) = 48) (h1 : 1 < s.size) : isNum s.data.toList = false := by
  obtain ⟨tl, e, hl⟩ := cons_of h
  have e0 : s[0] = 48 := UInt8.toNat_inj.mp (by show _ = 48; omega)
  rw [e, e0]
  have : 1 ≤ tl.length := by omega
  simp [isNum]
  intro h2; subst h2; simp at this
theorem num_else {s : ByteArray} (h : 0 < s.size) (h0 : ¬ (s[0].toNat : Int) = 48 ∨ s.size ≤ 1) : isNum s.data.toList = s.data.toList.all isDig := by
  obtain ⟨tl, e, hl⟩ := cons_of h
  rw [e]
  unfold isNum
  have e1 : (!(s[0] :: tl).isEmpty) = true := rfl
  rw [e1]
  rcases h0 with h0 | h0
  · have : ((s[0] :: tl).head? == some 48) = false := by
      rw [beq_eq_false_iff_ne]; intro h2; simp at h2; exact h0 (by rw [h2]; rfl)
    rw [this]; simp
  · have : tl = [] := by rw [← List.length_eq_zero_iff]; omega
    subst this; simp
theorem all_take_no {s : ByteArray} {k : Nat} (h : k < s.size) (hc : isDig s[k] = false) : s.data.toList.all isDig = false := by
  rw [List.all_eq_false]
  exact ⟨s[k], by rw [← Array.mem_def]; exact Array.getElem_mem _, by simp [hc]⟩

theorem all_at {s : ByteArray} {k : Nat} (h : k < s.size) (ha : s.data.toList.all isDig = true) : isDig s[k] = true := by
  rw [List.all_eq_true] at ha
  exact ha _ (by rw [← Array.mem_def]; exact Array.getElem_mem _)

theorem num_ok {s : ByteArray} (h : 0 < s.size) (ha : s.data.toList.all isDig = true) (h0 : (s[0].toNat : Int) = 48 → s.size ≤ 1) : isNum s.data.toList = true := by
  rw [num_else h (by by_cases e : (s[0].toNat : Int) = 48; exact .inr (h0 e); exact .inl e), ha]
theorem num_no {s : ByteArray} {k : Nat} (h : k < s.size) (hc : isDig s[k] = false) : isNum s.data.toList = false := by
  cases e : isNum s.data.toList with
  | false => rfl
  | true => have := all_at h (isNum_all e); rw [hc] at this; cases this

/-- What holds at the head of each round of the reference's loop: what was read so far. -/
def RGet (s : ByteArray) (z : Int) (n i : Value) : Prop := ∃ (k : Nat) (m : Int), k ≤ s.size ∧ i = .int .i64 k ∧ n = .int .i64 m ∧ 0 ≤ m ∧ m ≤ 10000009 ∧ (s.data.toList.take k).all isDig = true ∧ (m ≤ 1000000 → m = says (s.data.toList.take k)) ∧ (1000000 < m → 1000000 < says (s.data.toList.take k)) ∧ (z = 48 → k ≤ 1)

end Go.Proofs.YtcfcpbkeedfbpaaDoor

namespace Go.Proofs.YtcfcpbkeedfbpaaDoor
open Go.RowKit CurSpec ValSpec

def RetCurN (W0 W : World) (c : Cur) (m : Int) (e : Ending) (w' : World) : Prop :=
  ∃ A n cp, e = .returned (.tuple #[.agg #[.slice A n cp, .int .i64 c.w1, .int .i64 c.w2, .int .i64 c.a1, .int .i64 c.a2, .int .i64 c.bad], .int .i64 m]) ∧ Toks W0 (.slice A n cp) c.L ∧ Below W.heap.size W w'
def RetGet (W : World) (n er : Int) (e : Ending) (w' : World) : Prop := e = .returned (.tuple #[.int .i64 n, .int .i64 er]) ∧ W = w'
theorem num_fail {c : Cur} {m er : Int} (h : numE c m = er) (hne : er ≠ 0) : numC c m = fail c er ∧ numN c m = 0 := by
  subst h
  unfold numC numN
  rw [if_neg hne, if_neg hne]
  exact ⟨rfl, rfl⟩
theorem numE_kind {c : Cur} {m : Int} (h : (next c).k ≠ 2) : numE c m = 2 := if_neg (fun h' => h h'.2)
theorem numE_get {c : Cur} {m : Int} (h0 : c.bad = 0) (h : (next c).k = 2) (hE : getE (next c).t.data.toList ≠ 0) : numE c m = getE (next c).t.data.toList := by
  unfold numE
  rw [if_pos ⟨h0, h⟩, if_neg hE]
theorem numE_most {c : Cur} {m : Int} (h0 : c.bad = 0) (h : (next c).k = 2) (hE : getE (next c).t.data.toList = 0) (hm : m < getN (next c).t.data.toList) : numE c m = 3 := by
  unfold numE
  rw [if_pos ⟨h0, h⟩, if_pos hE, if_pos hm]
theorem numE_good {c : Cur} {m : Int} (h0 : c.bad = 0) (h : (next c).k = 2) (hE : getE (next c).t.data.toList = 0) (hm : ¬ m < getN (next c).t.data.toList) : numE c m = 0 := by
  unfold numE
  rw [if_pos ⟨h0, h⟩, if_pos hE, if_neg hm]

end Go.Proofs.YtcfcpbkeedfbpaaDoor

namespace Go.Proofs.YtcfcpbkeedfbpaaDoor
open Go.RowKit CurSpec NamesSpec ValSpec
set_option maxRecDepth 100000

theorem bad_of_kind {c : Cur} {k : Int} (h : (next c).k = k) (hk : k ≠ 0) : c.bad = 0 := by
  rcases Decidable.em (c.bad = 0) with h0 | h0
  · exact h0
  · rw [next_dead h0] at h
    exact absurd h.symm hk
theorem nis_say {s : ByteArray} {b : Bool} (hb : isName s.data.toList = b) (hs : s.size ≤ 9223372036854775807) (w : World) : Calls Tryd.prog 32 #[.string s] w (RetBool w b) := by
  subst hb
  exact is_any s w hs

/-- What number tells of a token. -/
def numR (k : Int) (l : List UInt8) (m : Int) : Int × Int := if k = 2 then (if getE l = 0 ∧ m < getN l then (0, 3) else (getN l, getE l)) else (0, 2)
def RetPair (W : World) (r : Int × Int) (e : Ending) (w' : World) : Prop := e = .returned (.tuple #[.int .i64 r.1, .int .i64 r.2]) ∧ Below W.heap.size W w'
theorem numR_is (c : Cur) (m : Int) : (numR (next c).k (next c).t.data.toList m).2 = numE c m ∧ (numE c m = 0 → (numR (next c).k (next c).t.data.toList m).1 = numN c m) := by
  by_cases hk : (next c).k = 2
  · have h0 := bad_of_kind hk (by decide)
    by_cases hE : getE (next c).t.data.toList = 0
    · by_cases hm : m < getN (next c).t.data.toList
      · have e1 : numR (next c).k (next c).t.data.toList m = (0, 3) := by unfold numR; rw [if_pos hk, if_pos ⟨hE, hm⟩]
        rw [e1, numE_most h0 hk hE hm]
        exact ⟨rfl, fun h => absurd h (by decide)⟩
      · have e1 : numR (next c).k (next c).t.data.toList m = (getN (next c).t.data.toList, getE (next c).t.data.toList) := by unfold numR; rw [if_pos hk, if_neg (fun h => hm h.2)]
        have e2 := numE_good h0 hk hE hm
        rw [e1, e2]
        exact ⟨hE, fun _ => by unfold numN; rw [if_pos e2]⟩
    · have e1 : numR (next c).k (next c).t.data.toList m = (getN (next c).t.data.toList, getE (next c).t.data.toList) := by unfold numR; rw [if_pos hk, if_neg (fun h => hE h.1)]
      rw [e1, numE_get h0 hk hE]
      exact ⟨rfl, fun h => absurd h hE⟩
  · have e1 : numR (next c).k (next c).t.data.toList m = (0, 2) := if_neg hk
    rw [e1, numE_kind hk]
    exact ⟨rfl, fun h => absurd h (by decide)⟩

end Go.Proofs.YtcfcpbkeedfbpaaDoor

namespace Go.Proofs.YtcfcpbkeedfbpaaDoor
open Go.RowKit CurSpec TermSpec ExprSpec

/-- What a call leaves: nothing is changed but the cursor, the reader, and the row; new blocks may have come. -/
structure Hold (R B : Nat) (v v' : Value) (w w' : World) : Prop where
  os : w'.os = w.os
  tape : w'.tape = w.tape
  output : w'.output = w.output
  size : w.heap.size ≤ w'.heap.size
  block : ∀ i, i < w.heap.size → i ≠ B → i ≠ R → v.ownBlock ≠ some i → w'.heap[i]? = w.heap[i]?
  row : v'.ownBlock = v.ownBlock ∨ ∀ j, v'.ownBlock = some j → w.heap.size ≤ j
theorem Hold.refl (R B : Nat) (v : Value) (w : World) : Hold R B v v w w := ⟨rfl, rfl, rfl, Nat.le_refl _, fun _ _ _ _ _ => rfl, .inl rfl⟩
theorem Hold.trans {R B : Nat} {v v' v2 : Value} {w w' w2 : World} (h : Hold R B v v' w w') (k : Hold R B v' v2 w' w2) : Hold R B v v2 w w2 := by
  refine ⟨k.os.trans h.os, k.tape.trans h.tape, k.output.trans h.output, Nat.le_trans h.size k.size, fun i hi h1 h2 h3 => ?_, ?_⟩
  · refine (k.block i (Nat.lt_of_lt_of_le hi h.size) h1 h2 ?_).trans (h.block i hi h1 h2 h3)
    rcases h.row with hr | hr
    · rw [hr]; exact h3
    · intro e; have := hr i e; omega
  · rcases k.row with hk | hk
    · rcases h.row with hr | hr
      · exact .inl (hk.trans hr)
      · exact .inr (fun j hj => hr j (by rw [← hk]; exact hj))
    · exact .inr (fun j hj => Nat.le_trans h.size (hk j hj))
theorem Hold.of_but {R B : Nat} {w w' : World} (v : Value) (h : w.grownBy w' (some B)) : Hold R B v v w w' :=
  ⟨h.os, h.tape, h.output, h.size, fun i hi h1 _ _ => h.block i hi (by simpa using h1), .inl rfl⟩
theorem Hold.of_below {R B : Nat} {w w' : World} (v : Value) (h : Below w.heap.size w w') : Hold R B v v w w' := Hold.of_but v (but_below h)
theorem Hold.apart {R B : Nat} {v v' : Value} {w w' : World} (h : Hold R B v v' w w') {i : Nat} (hi : i < w.heap.size) (hne : v.ownBlock ≠ some i) : v'.ownBlock ≠ some i := by
  rcases h.row with hr | hr
  · rw [hr]; exact hne
  · intro e; have := hr i e; omega
/-- A term put in, where there is room for one more. -/
def ins (l : List Tm) (i : Nat) (t : Tm) : List Tm := if l.length ≤ 40 then l.take i ++ t :: l.drop i else l
abbrev tmO (t : Tm) : Obj := .cells #[.int .i64 t.op, .int .i64 t.n, .string t.s] 30
end Go.Proofs.YtcfcpbkeedfbpaaDoor
