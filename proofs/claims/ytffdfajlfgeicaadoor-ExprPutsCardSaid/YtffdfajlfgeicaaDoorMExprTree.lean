/- ExprTree, joined. -/
import Derived.Test.YtffdfajlfgeicaaDoorMExprLevel
namespace Go.Proofs.YtffdfajlfgeicaaDoor
namespace ExprSpec
open CurSpec TermSpec NamesSpec

inductive Ex where
  | leaf (t : Tm)
  | un (o : Int) (a : Ex)
  | bin (o : Int) (a b : Ex)
def flat : Ex → List Tm
  | .leaf t => [t]
  | .un o a => opT o :: flat a
  | .bin o a b => opT o :: (flat a ++ flat b)
def Good : Ex → Prop
  | .leaf t => ar t.op = 0 ∧ mayB t = true
  | .un o a => ar o = 1 ∧ Good a
  | .bin o a b => ar o = 2 ∧ Good a ∧ Good b
theorem may_plain {t : Tm} (h : mayB t = true) (h0 : 1 ≤ ar t.op) : t = opT t.op := by
  obtain ⟨o, n, s⟩ := t
  have h1 : o ≠ 1 ∧ o ≠ 2 ∧ o ≠ 11 := by
    refine ⟨?_, ?_, ?_⟩ <;> rintro rfl <;> exact absurd (show (1 : Int) ≤ 0 from h0) (by decide)
  unfold mayB at h
  dsimp only at h
  rw [if_neg h1.1, if_neg (fun h => h.elim h1.2.1 h1.2.2)] at h
  simp only [Bool.and_eq_true, decide_eq_true_eq] at h
  obtain ⟨rfl, hs⟩ := h
  have : s = ⟨#[]⟩ := by
    apply ByteArray.ext
    apply Array.eq_empty_of_size_eq_zero
    exact hs
  rw [this]
  rfl
theorem ex_all : ∀ (l : List Tm) (k m : Nat), cnt k l = some m → (l.take m).all mayB = true → ∃ es : List Ex, es.length = k ∧ es.flatMap flat = l.take m ∧ ∀ e ∈ es, Good e
  | l, 0, m, h, _ => by
    rw [cnt_zero] at h; cases h
    exact ⟨[], rfl, by simp, by simp⟩
  | [], k + 1, m, h, _ => by cases h
  | t :: r, k + 1, m, h, hm => by
    obtain ⟨h0, m', rfl, h'⟩ := cnt_step h
    rw [List.take_succ_cons, List.all_cons, Bool.and_eq_true] at hm
    obtain ⟨es, hl, hf, hg⟩ := ex_all r _ m' h' hm.2
    rw [List.take_succ_cons]
    have hb := (ar_bd t.op).2
    have e0 := arN_of h0
    rcases (show ar t.op = 0 ∨ ar t.op = 1 ∨ ar t.op = 2 by omega) with h1 | h1 | h1
    · refine ⟨.leaf t :: es, by rw [List.length_cons, hl]; omega, by rw [List.flatMap_cons, hf]; rfl, ?_⟩
      intro e he
      rcases List.mem_cons.1 he with rfl | he
      · exact ⟨h1, hm.1⟩
      · exact hg e he
    · match es, hl with
      | [], hl => simp at hl; omega
      | a :: es, hl =>
        refine ⟨.un t.op a :: es, by rw [List.length_cons] at hl ⊢; omega, ?_, ?_⟩
        · rw [List.flatMap_cons] at hf ⊢
          rw [← hf]
          show (opT t.op :: flat a) ++ _ = _
          rw [← may_plain hm.1 (by omega)]
          rfl
        · intro e he
          rcases List.mem_cons.1 he with rfl | he
          · exact ⟨h1, hg a (by simp)⟩
          · exact hg e (by simp [he])
    · match es, hl with
      | [], hl => simp at hl; omega
      | [a], hl => simp at hl; omega
      | a :: b :: es, hl =>
        refine ⟨.bin t.op a b :: es, by simp only [List.length_cons] at hl ⊢; omega, ?_, ?_⟩
        · rw [List.flatMap_cons, List.flatMap_cons] at hf
          rw [List.flatMap_cons, ← hf]
          show (opT t.op :: (flat a ++ flat b)) ++ _ = _
          rw [← may_plain hm.1 (by omega)]
          simp
        · intro e he
          rcases List.mem_cons.1 he with rfl | he
          · exact ⟨h1, hg a (by simp), hg b (by simp)⟩
          · exact hg e (by simp [he])
theorem ex_of {x : List Tm} (h : WF x) : ∃ e, flat e = x ∧ Good e := by
  obtain ⟨es, hl, hf, hg⟩ := ex_all x 1 x.length h.1 (by rw [List.take_of_length_le (Nat.le_refl _)]; exact h.2)
  rw [List.take_of_length_le (Nat.le_refl _)] at hf
  match es, hl with
  | [e], _ =>
    refine ⟨e, by simpa using hf, hg e (by simp)⟩
theorem flat_wf : ∀ {e : Ex}, Good e → WF (flat e)
  | .leaf t, h => WF.leaf h.1 h.2
  | .un o a, h => WF.un h.1 (may_op (by rintro rfl; exact absurd h.1 (by decide)) (by rintro rfl; exact absurd h.1 (by decide)) (by rintro rfl; exact absurd h.1 (by decide))) (flat_wf h.2)
  | .bin o a b, h => WF.bin h.1 (may_op (by rintro rfl; exact absurd h.1 (by decide)) (by rintro rfl; exact absurd h.1 (by decide)) (by rintro rfl; exact absurd h.1 (by decide))) (flat_wf h.2.1) (flat_wf h.2.2)

/-- The sign of what a term does. -/
def sgOf (o : Int) : Sg := (sgs.find? fun s => decide (s.op = o)).getD ⟨⟨#[]⟩, 0, 0, 0, 0⟩
def lev : Ex → Int
  | .leaf _ => 8
  | .un o _ => if o = 3 then 7 else 3
  | .bin o _ _ => if o = 7 ∨ o = 8 then 8 else (sgOf o).lev
abbrev Tx := Int × List UInt8
def bs (l : List UInt8) : ByteArray := ⟨l.toArray⟩
def lTrue : List UInt8 := [116, 114, 117, 101]
def lFalse : List UInt8 := [102, 97, 108, 115, 101]
def lIn : List UInt8 := [105, 110]
def lMin : List UInt8 := [109, 105, 110]
def lMax : List UInt8 := [109, 97, 120]
def lNot : List UInt8 := [110, 111, 116]
def twr (b : Prop) [Decidable b] (x : List Tx) : List Tx := if b then (3, [40]) :: (x ++ [(3, [41])]) else x
/-- The tokens of an expression. -/
def tk : Ex → List Tx
  | .leaf t => if t.op = 1 then [(2, ValSpec.text t.n)] else if t.op = 2 then [(1, t.s.data.toList)] else if t.op = 9 then [(1, lTrue)] else if t.op = 10 then [(1, lFalse)] else [(1, lIn), (3, [40]), (1, t.s.data.toList), (3, [41])]
  | .un o a => if o = 3 then (3, [45]) :: twr (lev a < 7) (tk a) else (1, lNot) :: twr (lev a < 3) (tk a)
  | .bin o a b => if o = 7 then (1, lMin) :: (3, [40]) :: (tk a ++ (3, [44]) :: (tk b ++ [(3, [41])]))
    else if o = 8 then (1, lMax) :: (3, [40]) :: (tk a ++ (3, [44]) :: (tk b ++ [(3, [41])]))
    else twr (lev a < (sgOf o).left) (tk a) ++ ((if (sgOf o).lev ≤ 2 then 1 else 3, (sgOf o).t.data.toList) :: twr (lev b < (sgOf o).right) (tk b))

/-- So many tokens on. -/
def onN : Nat → Cur → Cur
  | 0, c => c
  | n + 1, c => onN n (on c)
/-- The tokens that are next. -/
def Nx : Cur → List Tx → Prop
  | _, [] => True
  | c, (k, s) :: r => (next c).k = k ∧ (next c).t = bs s ∧ Nx (on c) r
theorem onN_add (a b : Nat) (c : Cur) : onN (a + b) c = onN b (onN a c) := by
  induction a generalizing c with
  | zero => rw [Nat.zero_add]; rfl
  | succ a ih => rw [Nat.succ_add]; exact ih (on c)
theorem onN_one (c : Cur) : onN 1 c = on c := rfl
theorem onN_bad (n : Nat) (c : Cur) : (onN n c).bad = c.bad := by
  induction n generalizing c with
  | zero => rfl
  | succ n ih => exact (ih (on c)).trans (on_bad c).1
theorem onN_len (n : Nat) (c : Cur) : (onN n c).L.length ≤ c.L.length := by
  induction n generalizing c with
  | zero => exact Nat.le_refl _
  | succ n ih => exact Nat.le_trans (ih (on c)) (by rw [on_len]; omega)
theorem nx_app (c : Cur) (a b : List Tx) : Nx c (a ++ b) ↔ Nx c a ∧ Nx (onN a.length c) b := by
  induction a generalizing c with
  | nil => simp [Nx, onN]
  | cons x a ih =>
    obtain ⟨k, s⟩ := x
    simp only [List.cons_append, Nx, List.length_cons, onN, ih, and_assoc]
theorem nx_isB {c : Cur} (h0 : c.bad = 0) {k : Int} {s : List UInt8} {r : List Tx} (h : Nx c ((k, s) :: r)) : isB c k (bs s) = true := by simp [isB, h0, h.1, h.2.1]

/-- A sign that stands behind what is of a level does not go into it. -/
def Qu (lv : Int) (d : Cur) : Prop := ∀ s, sgn d 9 0 = some s → s.left ≤ lv
theorem Qu.mono {lv lv' : Int} {d : Cur} (h : Qu lv d) (hl : lv ≤ lv') : Qu lv' d := fun s hs => by have := h s hs; omega
theorem sgn_wide {d : Cur} {lev k : Int} {s : Sg} (h : sgn d lev k = some s) : sgn d 9 0 = some s := by
  obtain ⟨h1, h2, h3, h4, hm⟩ := sgn_some h
  have := sg_lev hm
  refine sgn_mk h1 h2 ?_ (by omega)
  have h5 := this.2.2.1
  unfold first at h5
  split at h5 <;> omega
theorem qu_stop {d : Cur} {lv L k : Int} (h : Qu lv d) (hk : ∀ s ∈ sgs, s.left ≤ lv → k ≤ s.lev → False) : sgn d L k = none := sgn_none fun s hs => by
  obtain ⟨h1, h2, h3, h4, hm⟩ := sgn_some hs
  exact hk s hm (h s (sgn_wide hs)) h4
/-- A mark that is no sign. -/
theorem no_sign {d : Cur} {s : List UInt8} (h : (next d).t = bs s) (hl : look (bs s) = none) (L k : Int) : sgn d L k = none := sgn_none fun x hs => by
  have := (sgn_some hs).1
  rw [h, hl] at this
  cases this
theorem end_sign {d : Cur} (h : (next d).k = 0) (L k : Int) : sgn d L k = none := sgn_none fun x hs => by
  have := (sgn_some hs).2.1
  omega
theorem C_fit {f g : Nat} {c : Cur} (lev k : Int) (x : List Tm) (hf : Fit f c) (hg : Fit g c) : C f lev k c x = C g lev k c x := C_same lev k x hf hg
theorem fit_on {f : Nat} {c : Cur} (n : Nat) (h : Fit f c) : Fit f (onN n c) := fun hb => by
  have := onN_len n c
  rw [onN_bad] at hb
  have := h hb
  omega
/-- What the reading of an expression's tokens comes to. -/
def Reads (e : Ex) : Prop := ∀ (c : Cur) (f : Nat) (k : Int), c.bad = 0 → Nx c (tk e) → Qu (lev e) (onN (tk e).length c) → 1 ≤ k → k ≤ lev e → k ≤ 7 → Fit f c → S f c k = C f (lev e) k (onN (tk e).length c) (flat e)
theorem not_neg' {c : Cur} {k : Int} {s : ByteArray} (h : (next c).k ≠ k) : isB c k s = false := by
  unfold isB
  rw [decide_eq_false h]
  simp
/-- An expression in brackets, where it is of a lesser level. -/
theorem reads_twr {a : Ex} (ih : Reads a) {c : Cur} {f : Nat} {r k : Int} (h0 : c.bad = 0) (hn : Nx c (twr (lev a < r) (tk a))) (hq : ¬ lev a < r → Qu (lev a) (onN (twr (lev a < r) (tk a)).length c)) (h1 : 1 ≤ k) (hk : k ≤ r) (h7 : r ≤ 7) (hl1 : 1 ≤ lev a) (hf : Fit f c) :
    S f c k = C f (if lev a < r then 8 else lev a) k (onN (twr (lev a < r) (tk a)).length c) (flat a) := by
  unfold twr at hn hq ⊢
  by_cases hr : lev a < r
  · rw [if_pos hr] at hn ⊢
    rw [if_pos hr]
    cases f with
    | zero => exact absurd h0 hf.zero
    | succ f =>
      have ho : isB c 3 tOpen = true := nx_isB h0 hn
      have hko : (next c).k = 3 := hn.1
      have hrl := isB_real ho (by decide)
      have hfo : Fit f (on c) := fun _ => by have := hf h0; omega
      obtain ⟨hna, hnb⟩ := (nx_app _ _ _).1 hn.2.2
      have hb1 : (onN (tk a).length (on c)).bad = 0 := by rw [onN_bad]; exact hrl.2.2
      have hcl : isB (onN (tk a).length (on c)) 3 tClose = true := nx_isB hb1 hnb
      have hns : ∀ L k, sgn (onN (tk a).length (on c)) L k = none := no_sign hnb.2.1 (by decide)
      have hS : S f (on c) 1 = (onN (tk a).length (on c), flat a) := by
        rw [ih (on c) f 1 hrl.2.2 hna (fun s hs => by rw [hns] at hs; cases hs) (by decide) hl1 (by decide) hfo]
        exact C_stop f _ (hns _ _)
      have hw : want (onN (tk a).length (on c)) 3 tClose = on (onN (tk a).length (on c)) := by unfold want; rw [if_pos hcl]
      have hA : atom (S f) c = (on (onN (tk a).length (on c)), flat a) := by
        unfold atom
        rw [if_neg (by omega), if_neg (by rw [not_neg' (by omega)]; decide), if_neg (by rw [not_neg' (by omega)]; decide), if_neg (by rw [not_neg' (by omega)]; decide), if_neg (by rw [not_neg' (by omega)]; decide), if_neg (by rw [not_neg' (by omega)]; decide), if_pos ho, hS, ← hw]
      have hng : isB c 3 tNeg = false := by
        unfold isB
        have : (next c).t ≠ tNeg := by rw [hn.2.1]; decide
        rw [decide_eq_false this]
        simp
      have hH : hd (S f) c k = ((on (onN (tk a).length (on c)), flat a), 8) := by
        unfold hd
        rw [if_neg (by rw [not_neg' (c := c) (k := 1) (by omega)]; simp), if_neg (by rw [hng]; decide), hA]
      rw [S_good f k h0, hH]
      have hlen : ((3, [40]) :: (tk a ++ [(3, [41])]) : List Tx).length = 1 + ((tk a).length + 1) := by simp; omega
      rw [hlen, onN_add, onN_add]
      have e1 : onN 1 (onN (tk a).length (onN 1 c)) = on (onN (tk a).length (on c)) := rfl
      rw [e1]
      refine C_fit _ _ _ ?_ ?_
      · intro _
        have h1 := isB_real hcl (by decide)
        have h2 := onN_len (tk a).length (on c)
        have h3 := hrl.2.1
        have := hf h0
        dsimp only
        omega
      · intro _
        have h1 := isB_real hcl (by decide)
        have h2 := onN_len (tk a).length (on c)
        have h3 := hrl.2.1
        have := hf h0
        dsimp only
        omega
  · rw [if_neg hr] at hn ⊢
    rw [if_neg hr] at hq
    rw [if_neg hr]
    exact ih c f k h0 hn (hq hr) h1 (by omega) (by omega) hf
theorem sgOf_mem {o : Int} (ho : ar o = 2) (h7 : ¬ (o = 7 ∨ o = 8)) : sgOf o ∈ sgs ∧ (sgOf o).op = o := by
  have h1 : o = 4 ∨ o = 5 ∨ o = 6 ∨ o = 13 ∨ o = 14 ∨ o = 15 ∨ o = 16 ∨ o = 17 ∨ o = 18 ∨ o = 19 ∨ o = 20 := by
    unfold ar at ho
    split at ho
    · omega
    split at ho
    · omega
    split at ho
    · omega
    · omega
  rcases h1 with rfl | rfl | rfl | rfl | rfl | rfl | rfl | rfl | rfl | rfl | rfl <;> exact ⟨by unfold sgOf sgs; simp, rfl⟩
theorem lev_pos {e : Ex} (h : Good e) : 1 ≤ lev e ∧ lev e ≤ 8 := by
  cases e with
  | leaf t => exact ⟨show (1 : Int) ≤ 8 by decide, show (8 : Int) ≤ 8 by decide⟩
  | un o a =>
    have e : lev (.un o a) = if o = 3 then 7 else 3 := rfl
    rw [e]
    split <;> omega
  | bin o a b =>
    have e : lev (.bin o a b) = if o = 7 ∨ o = 8 then 8 else (sgOf o).lev := rfl
    rw [e]
    split
    · omega
    · rename_i h7
      have := sg_lev (sgOf_mem h.1 h7).1
      omega
end ExprSpec
end Go.Proofs.YtffdfajlfgeicaaDoor
