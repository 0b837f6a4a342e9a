/- ExprLevel, joined. -/
import Derived.Test.YtffdfajlfgeicaaDoorMExprSpec
namespace Go.Proofs.YtffdfajlfgeicaaDoor
namespace ExprSpec
open CurSpec TermSpec

theorem sg_lev {s : Sg} (h : s ∈ sgs) : s.right = s.lev + 1 ∧ s.lev ≤ s.left ∧ s.left = first s.lev ∧ 1 ≤ s.lev ∧ s.lev ≤ 6 ∧ s.lev ≠ 3 ∧ ar s.op = 2 := by
  obtain ⟨h1, h2, h3, h4, _⟩ := sgs_all s h
  refine ⟨h1, ?_, h2, by omega, by omega, by omega, h4⟩
  rw [h2]
  unfold first
  split <;> omega
/-- Where a part of a level is over, no sign of that level or of a greater one is next. -/
theorem C_end : ∀ (f : Nat) (lev k : Int) (c : Cur) (x : List Tm), Fit f c → k ≤ lev → sgn (C f lev k c x).1 k k = none
  | 0, lev, k, c, x, h, _ => by rw [C_stop 0 x (sgn_dead lev k h.zero)]; exact sgn_dead k k h.zero
  | f + 1, lev, k, c, x, h, hk => by
    cases hs : sgn c lev k with
    | none =>
      rw [C_stop _ x hs]
      refine sgn_none fun s h' => ?_
      obtain ⟨h1, h2, h3, h4, _⟩ := sgn_some h'
      rw [sgn_mk h1 h2 (by omega) h4] at hs
      cases hs
    | some s =>
      rw [C_step f x hs]
      exact C_end f _ _ _ _ (h.fitStep hs _) (sgn_some hs).2.2.2.1
theorem S_end (f : Nat) (c : Cur) {k : Int} (hf : Fit f c) (hk : k ≤ 8) (h3 : ∀ j, (hd (S f) c j).2 < k → False) : True := trivial
/-- A part of a level is a part of the next one that goes on. -/
theorem C_split (k : Int) : ∀ (f g : Nat) (lev : Int) (c : Cur) (x : List Tm), Fit f c → first k ≤ lev → Fit g (C f lev (k + 1) c x).1 →
    C f lev k c x = C g (first k) k (C f lev (k + 1) c x).1 (C f lev (k + 1) c x).2
  | 0, g, lev, c, x, h, _, _ => by rw [C_stop 0 x (sgn_dead lev k h.zero), C_stop 0 x (sgn_dead lev (k + 1) h.zero), C_stop g x (sgn_dead _ k h.zero)]
  | f + 1, g, lev, c, x, h, hl, hg => by
    cases hs : sgn c lev k with
    | none =>
      have h1 : sgn c lev (k + 1) = none := sgn_none fun s h' => by
        obtain ⟨h1, h2, h3, h4, _⟩ := sgn_some h'
        rw [sgn_mk h1 h2 h3 (by omega)] at hs
        cases hs
      have h2 : sgn c (first k) k = none := sgn_none fun s h' => by
        obtain ⟨h1, h2, h3, h4, _⟩ := sgn_some h'
        rw [sgn_mk h1 h2 (by omega) h4] at hs
        cases hs
      rw [C_stop _ x hs, C_stop _ x h1, C_stop _ x h2]
    | some s =>
      obtain ⟨h1, h2, h3, h4, hm⟩ := sgn_some hs
      obtain ⟨q1, q2, q3, q4, q5, q6, q7⟩ := sg_lev hm
      by_cases hk : s.lev = k
      · have e1 : sgn c lev (k + 1) = none := sgn_none fun t h' => by
          obtain ⟨g1, g2, g3, g4, _⟩ := sgn_some h'
          rw [h1] at g1
          cases g1
          omega
        have e2 : sgn c (first k) k = some s := sgn_mk h1 h2 (by rw [q3, hk]; omega) h4
        rw [C_stop _ x e1] at hg ⊢
        cases g with
        | zero => exact absurd (sgn_good hs) hg.zero
        | succ g =>
          rw [C_step f x hs, C_step g x e2, S_same s.right (h.fitOn hs) (hg.fitOn e2), hk]
          refine C_same _ _ _ ?_ (hg.fitStep e2 _)
          rw [← S_same s.right (h.fitOn hs) (hg.fitOn e2)]
          exact h.fitStep hs _
      · have e1 : sgn c lev (k + 1) = some s := sgn_mk h1 h2 h3 (by omega)
        rw [C_step f x e1] at hg ⊢
        rw [C_step f x hs]
        refine C_split k f g _ _ _ (h.fitStep hs _) ?_ hg
        unfold first
        split <;> omega

/-- Signs: a level's. -/
theorem stop_8 (c : Cur) (lev : Int) : sgn c lev 8 = none := sgn_none fun s h => by
  obtain ⟨_, _, _, h4, hm⟩ := sgn_some h
  have := sg_lev hm
  omega
theorem stop_7 (c : Cur) (lev : Int) : sgn c lev 7 = none := sgn_none fun s h => by
  obtain ⟨_, _, _, h4, hm⟩ := sgn_some h
  have := sg_lev hm
  omega
theorem stop_3 (c : Cur) : sgn c 3 3 = none := sgn_none fun s h => by
  obtain ⟨_, _, h3, h4, hm⟩ := sgn_some h
  have := sg_lev hm
  omega
theorem stop_4 (c : Cur) : sgn c 4 4 = none := sgn_none fun s h => by
  obtain ⟨_, _, h3, h4, hm⟩ := sgn_some h
  have := sg_lev hm
  obtain ⟨_, h5, h6, _⟩ := this
  unfold first at h6
  split at h6 <;> omega

theorem hd_next {rec : Cur → Int → Pa} {c : Cur} {k : Int} (h3 : ¬ (k = 3 ∧ isB c 1 tNot = true)) : hd rec c (k + 1) = hd rec c k := by
  unfold hd
  by_cases h : isB c 1 tNot = true
  · have : k ≠ 3 := fun e => h3 ⟨e, h⟩
    by_cases hk : k ≤ 3
    · rw [if_pos (show k + 1 ≤ 3 ∧ isB c 1 tNot = true from ⟨by omega, h⟩), if_pos (show k ≤ 3 ∧ isB c 1 tNot = true from ⟨hk, h⟩)]
    · rw [if_neg (show ¬ (k + 1 ≤ 3 ∧ isB c 1 tNot = true) from fun h' => by omega), if_neg (show ¬ (k ≤ 3 ∧ isB c 1 tNot = true) from fun h' => hk h'.1)]
  · rw [if_neg (show ¬ (k + 1 ≤ 3 ∧ isB c 1 tNot = true) from fun h' => h h'.2), if_neg (show ¬ (k ≤ 3 ∧ isB c 1 tNot = true) from fun h' => h h'.2)]
theorem hd_first {rec : Cur → Int → Pa} {c : Cur} {k : Int} (h1 : 1 ≤ k) (h7 : k ≤ 7) (h3 : ¬ (k = 3 ∧ isB c 1 tNot = true)) (hn : ¬ (k = 7 ∧ isB c 3 tNeg = true)) : first k ≤ (hd rec c k).2 ∧ (k ≠ 3 → k + 1 ≤ (hd rec c k).2) := by
  have hf : first k ≤ k + 1 := by unfold first; split <;> omega
  have hf' : k = 4 ∨ first k = k := by unfold first; split <;> omega
  unfold hd
  split
  · rename_i h
    have : k ≠ 3 := fun e => h3 ⟨e, h.2⟩
    dsimp only
    omega
  split
  · rename_i h
    have : k ≠ 7 := fun e => hn ⟨e, h⟩
    dsimp only
    omega
  · dsimp only; omega
/-- Level by level. -/
theorem S_level {f : Nat} {c : Cur} {k : Int} (hf : Fit f c) (h0 : c.bad = 0) (h1 : 1 ≤ k) (h7 : k ≤ 7) (h3 : ¬ (k = 3 ∧ isB c 1 tNot = true)) (hn : ¬ (k = 7 ∧ isB c 3 tNeg = true)) :
    S f c k = C f (first k) k (S f c (k + 1)).1 (S f c (k + 1)).2 ∧ (k = 4 → sgn (S f c (k + 1)).1 5 5 = none) := by
  cases f with
  | zero => exact absurd h0 hf.zero
  | succ f =>
    have hh := hd_first (rec := S f) h1 h7 h3 hn
    rw [S_good f k h0, S_good f (k + 1) h0, hd_next h3]
    refine ⟨C_split k f (f + 1) _ _ _ (hf.fitHd h0 k) hh.1 ?_, fun h4 => ?_⟩
    · exact hf.le h0 (Nat.le_trans (C_len _ _ _ _ _) (hd_len (S_less f) c k).1)
    · subst h4
      exact C_end f _ 5 _ _ (hf.fitHd h0 4) (hh.2 (by decide))
theorem S_not {f : Nat} {c : Cur} (h : isB c 1 tNot = true) : S (f + 1) c 3 = ((S f (on c) 3).1, opT 12 :: (S f (on c) 3).2) := by
  rw [S_good f 3 (isB_next h).1]
  have e : hd (S f) c 3 = (((S f (on c) 3).1, opT 12 :: (S f (on c) 3).2), 3) := if_pos ⟨by decide, h⟩
  rw [e]
  exact C_stop f _ (stop_3 _)
theorem not_neg {c : Cur} (h : isB c 3 tNeg = true) : isB c 1 tNot = false := by
  obtain ⟨_, h1, _⟩ := isB_next h
  unfold isB
  rw [show decide ((next c).k = 1) = false from decide_eq_false (by omega)]
  simp
theorem S_neg {f : Nat} {c : Cur} (h : isB c 3 tNeg = true) : S (f + 1) c 7 = ((S f (on c) 7).1, opT 3 :: (S f (on c) 7).2) := by
  rw [S_good f 7 (isB_next h).1]
  have e : hd (S f) c 7 = (((S f (on c) 7).1, opT 3 :: (S f (on c) 7).2), 7) := by
    unfold hd
    rw [if_neg (fun h' => absurd h'.1 (by decide)), if_pos h]
  rw [e]
  exact C_stop f _ (stop_7 _ _)
theorem S_atom {f : Nat} {c : Cur} (h0 : c.bad = 0) (h : isB c 3 tNeg = false) : S (f + 1) c 8 = atom (S f) c := by
  rw [S_good f 8 h0]
  have e : hd (S f) c 8 = (atom (S f) c, 8) := by
    unfold hd
    rw [if_neg (fun h' => absurd h'.1 (by decide)), if_neg (by rw [h]; decide)]
  rw [e]
  exact C_stop f _ (stop_8 _ _)

/-- One expression, of terms that may be. -/
def WF (x : List Tm) : Prop := cnt 1 x = some x.length ∧ x.all mayB = true
theorem cnt_more : ∀ {l : List Tm} {k m : Nat} (r : List Tm), cnt k l = some m → cnt k (l ++ r) = some m
  | l, 0, m, r, h => by rw [cnt_zero] at h; cases h; rw [cnt_zero]
  | [], k + 1, m, r, h => by cases h
  | t :: l, k + 1, m, r, h => by
    obtain ⟨h0, m', rfl, h'⟩ := cnt_step h
    exact cnt_mk h0 (cnt_more r h')
theorem WF.leaf {t : Tm} (h : ar t.op = 0) (hm : mayB t = true) : WF [t] := by
  refine ⟨?_, by simp [hm]⟩
  refine cnt_mk (m := 0) (by omega) ?_
  rw [show 0 + arN t.op = 0 by unfold arN; omega]
  rfl
theorem WF.un {t : Tm} {a : List Tm} (h : ar t.op = 1) (hm : mayB t = true) (ha : WF a) : WF (t :: a) := by
  refine ⟨?_, by rw [List.all_cons, hm, ha.2]; rfl⟩
  refine cnt_mk (m := a.length) (by omega) ?_
  rw [show 0 + arN t.op = 1 by unfold arN; omega]
  exact ha.1
theorem WF.bin {t : Tm} {a b : List Tm} (h : ar t.op = 2) (hm : mayB t = true) (ha : WF a) (hb : WF b) : WF (t :: (a ++ b)) := by
  refine ⟨?_, by rw [List.all_cons, hm, List.all_append, ha.2, hb.2]; rfl⟩
  refine cnt_mk (m := (a ++ b).length) (by omega) ?_
  rw [show 0 + arN t.op = 1 + 1 by unfold arN; omega, List.length_append]
  refine cnt_join (cnt_more b ha.1) ?_
  rw [List.drop_left]
  exact hb.1
theorem may_op {o : Int} (h1 : o ≠ 1) (h2 : o ≠ 2) (h11 : o ≠ 11) : mayB (opT o) = true := by
  show ((if o = 1 then _ else decide ((0 : Int) = 0)) && (if o = 2 ∨ o = 11 then _ else decide ((⟨#[]⟩ : ByteArray).size = 0))) = true
  rw [if_neg h1, if_neg (fun h => h.elim h2 h11)]
  rfl
theorem sg_may {s : Sg} (h : s ∈ sgs) : mayB (opT s.op) = true := by
  have : ∀ s ∈ sgs, s.op ≠ 1 ∧ s.op ≠ 2 ∧ s.op ≠ 11 := by decide
  obtain ⟨h1, h2, h3⟩ := this s h
  exact may_op h1 h2 h3
theorem getN_bd (l : List UInt8) : 0 ≤ ValSpec.getN l ∧ ValSpec.getN l ≤ 1000000 := by
  unfold ValSpec.getN
  split
  · rename_i h
    split
    · omega
    · exact ⟨ValSpec.says_nonneg l (ValSpec.isNum_all h), by omega⟩
  · omega
theorem numN_bd (c : Cur) (m : Int) : 0 ≤ numN c m ∧ numN c m ≤ 1000000 := by
  unfold numN
  split
  · exact getN_bd _
  · omega
theorem wf_all : ∀ f, (∀ c k, Fit f c → (S f c k).1.bad = 0 → WF (S f c k).2) ∧ (∀ lev k c x, Fit f c → WF x → (C f lev k c x).1.bad = 0 → WF (C f lev k c x).2)
  | 0 => ⟨fun c k h hb => absurd hb h.zero, fun lev k c x h _ hb => absurd hb h.zero⟩
  | f + 1 => by
    obtain ⟨ih1, ih2⟩ := wf_all f
    refine ⟨fun c k hf hb => ?_, fun lev k c x hf hx hb => ?_⟩
    · have h0 : c.bad = 0 := (S_less (f + 1) c k).2 hb
      have hs : ∀ d j, d.L.length < c.L.length → (S f d j).1.bad = 0 → WF (S f d j).2 := fun d j hd hb => ih1 d j (fun _ => by have := hf h0; omega) hb
      rw [S_good f k h0] at hb ⊢
      refine ih2 _ _ _ _ (hf.fitHd h0 k) ?_ hb
      have hg := ((len_all f).2 _ _ _ _).2 hb
      clear hb
      revert hg
      unfold hd
      split
      · rename_i hn
        have := isB_real hn.2 (by decide)
        exact fun hg => WF.un (by decide) (by decide) (hs _ _ (by omega) hg)
      split
      · rename_i hn
        have := isB_real hn (by decide)
        exact fun hg => WF.un (by decide) (by decide) (hs _ _ (by omega) hg)
      · have two_wf : ∀ o : Int, ar (opT o).op = 2 → mayB (opT o) = true → (on c).L.length < c.L.length → (two (S f) (on c) o).1.bad = 0 → WF (two (S f) (on c) o).2 := fun o ho hm hl hg => by
          unfold two at hg ⊢
          dsimp only at hg ⊢
          have g4 := (isB_next (want_good hg).1).1
          have g3 := (isB_next (want_good ((S_less f _ _).2 g4)).1).1
          have l1 := want_len (on c) 3 tOpen
          have l2 := (S_less f (want (on c) 3 tOpen) 1).1
          have l3 := want_len (S f (want (on c) 3 tOpen) 1).1 3 tComma
          exact WF.bin ho hm (hs _ _ (by omega) g3) (hs _ _ (by omega) g4)
        dsimp only
        unfold atom
        split
        · intro _
          refine WF.leaf rfl ?_
          have := numN_bd c 1000000
          unfold mayB
          dsimp only
          rw [if_pos rfl, if_neg (by decide), decide_eq_true this.1, decide_eq_true this.2]
          rfl
        split
        · exact fun _ => WF.leaf (by decide) (by decide)
        split
        · exact fun _ => WF.leaf (by decide) (by decide)
        split
        · intro hg
          refine WF.leaf rfl ?_
          have g1 := (isB_next (want_good hg).1).1
          have g2 := (nameC_good g1).1
          unfold mayB nameS
          rw [if_pos g2]
          dsimp only
          rw [if_neg (by decide), if_pos (by decide), (nameB_next g2).2.2]
          rfl
        split
        · rename_i hn
          have := isB_real hn (by decide)
          exact two_wf 7 (by decide) (by decide) (by omega)
        split
        · rename_i hn
          have := isB_real hn (by decide)
          exact two_wf 8 (by decide) (by decide) (by omega)
        split
        · rename_i hn
          have := isB_real hn (by decide)
          intro hg
          exact hs _ _ (by omega) (isB_next (want_good hg).1).1
        · intro hg
          refine WF.leaf rfl ?_
          have g2 := (nameC_good hg).1
          unfold mayB nameS
          rw [if_pos g2]
          dsimp only
          rw [if_neg (by decide), if_pos (by decide), (nameB_next g2).2.2]
          rfl
    · cases hs : sgn c lev k with
      | none => rw [C_stop _ x hs]; exact hx
      | some s =>
        rw [C_step f x hs] at hb ⊢
        have hm := (sgn_some hs).2.2.2.2
        refine ih2 _ _ _ _ (hf.fitStep hs _) ?_ hb
        exact WF.bin (sg_lev hm).2.2.2.2.2.2 (sg_may hm) hx (ih1 _ _ (hf.fitOn hs) (((len_all f).2 _ _ _ _).2 hb))
theorem S_wf {f : Nat} {c : Cur} {k : Int} (hf : Fit f c) (hb : (S f c k).1.bad = 0) : WF (S f c k).2 := (wf_all f).1 c k hf hb

/-- How many terms: two for each token, and one. -/
def Few (c : Cur) (p : Pa) : Prop := p.2.length + 2 * p.1.L.length ≤ 2 * c.L.length + 1

/-- The whole of what is next: the terms; too many, too deep. -/
def readP (f : Nat) (c : Cur) : Pa :=
  let p := S f c 1
  if p.1.bad = 0 then (fail p.1 (chk p.2), if chk p.2 = 0 then p.2 else []) else (p.1, [])
theorem WF.chk_eq {x : List Tm} (h : WF x) : chk x = if 40 < x.length then 8 else if 12 < come depF x then 6 else 0 := by
  unfold chk
  by_cases h4 : 40 < x.length
  · rw [if_pos h4, if_pos h4]
  · have hw : wholeB x = true := wholeB_iff.2 ⟨by omega, h.1⟩
    rw [if_neg h4, if_neg h4, if_neg (by rw [hw]; decide), if_neg (by rw [h.2]; decide)]
    unfold depth tell
    rw [hw]
    rfl
end ExprSpec
end Go.Proofs.YtffdfajlfgeicaaDoor
