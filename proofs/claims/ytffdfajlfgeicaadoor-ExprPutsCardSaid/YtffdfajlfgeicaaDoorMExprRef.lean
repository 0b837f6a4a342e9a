/- ExprRef, joined. -/
import Derived.Test.YtffdfajlfgeicaaDoorMExprSigns
import Derived.Test.YtffdfajlfgeicaaDoorMNames
namespace Go.Proofs.YtffdfajlfgeicaaDoor
open Go.RowKit CurSpec TermSpec ExprSpec NamesSpec
set_option maxRecDepth 100000

/-- A level's signs. -/
def lvl (k : Int) : List Sg := sgs.filter fun s => decide (s.lev = k)
def sigT (k : Int) : List ByteArray := (lvl k).map (·.t)
def sigO (k : Int) : List Int := (lvl k).map (·.op)
theorem lvl_none {k : Int} (h : k ≠ 1 ∧ k ≠ 2 ∧ k ≠ 4 ∧ k ≠ 5 ∧ k ≠ 6) : lvl k = [] := by
  unfold lvl
  rw [List.filter_eq_nil_iff]
  intro s hs
  have := (sgs_all s hs).2.2.1
  simp only [decide_eq_true_eq]
  omega
def RetSigns (W : World) (k : Int) (e : Ending) (w' : World) : Prop := ∃ v1 v2, e = .returned (.tuple #[v1, v2]) ∧ Rd w' v1 (strV (sigT k)) ∧ Rd w' v2 (intV (sigO k)) ∧ (∀ b, v1.ownBlock = some b → W.heap.size ≤ b) ∧ (∀ b, v2.ownBlock = some b → W.heap.size ≤ b) ∧ Below W.heap.size W w'
theorem two_lits {w : World} {cs ds : Array Value} {T U : TypeId} {xs ys : List Value} {n m : Nat} (h1 : cs.toList = xs) (h2 : ds.toList = ys) (hn : n = xs.length) (hm : m = ys.length) :
    Rd ((w.alloc (.cells cs T)).alloc (.cells ds U)) (.slice (some ⟨w.heap.size, 0, none⟩) n n) xs ∧ Rd ((w.alloc (.cells cs T)).alloc (.cells ds U)) (.slice (some ⟨w.heap.size + 1, 0, none⟩) m m) ys ∧ (∀ b, (Value.slice (some ⟨w.heap.size, 0, none⟩) n n).ownBlock = some b → w.heap.size ≤ b) ∧ (∀ b, (Value.slice (some ⟨w.heap.size + 1, 0, none⟩) m m).ownBlock = some b → w.heap.size ≤ b) ∧ Below w.heap.size w ((w.alloc (.cells cs T)).alloc (.cells ds U)) :=
  ⟨(lit_here rfl hn h1).alloc _, lit_here (by simp) hm h2, fun b hb => by cases hb; exact Nat.le_refl _, fun b hb => by cases hb; exact Nat.le_succ _, ((Below.refl _ _).alloc (Nat.le_refl _) _).alloc (by simp) _⟩
theorem two_rets {W w' : World} {k : Int} {v1 v2 : Value} {xs ys : List Value} (hx : strV (sigT k) = xs) (hy : intV (sigO k) = ys) (h : Rd w' v1 xs ∧ Rd w' v2 ys ∧ (∀ b, v1.ownBlock = some b → W.heap.size ≤ b) ∧ (∀ b, v2.ownBlock = some b → W.heap.size ≤ b) ∧ Below W.heap.size W w') : RetSigns W k (.returned (.tuple #[v1, v2])) w' :=
  ⟨v1, v2, rfl, by rw [hx]; exact h.1, by rw [hy]; exact h.2.1, h.2.2⟩
set_option maxHeartbeats 2000000 in
theorem signs_say (k : Int) (w : World) : Calls Tryd.prog 37 #[.int .i64 k] w (RetSigns w k) := by
  by_cases h1 : k = 1
  · subst h1
    go_enter Tryd.func37, Tryd.ntmps37
    go_wp2_with fail
    go_ret2
    exact two_rets rfl rfl (two_lits rfl rfl rfl rfl)
  by_cases h2 : k = 2
  · subst h2
    go_enter Tryd.func37, Tryd.ntmps37
    go_wp2_with fail
    go_ret2
    exact two_rets rfl rfl (two_lits rfl rfl rfl rfl)
  by_cases h4 : k = 4
  · subst h4
    go_enter Tryd.func37, Tryd.ntmps37
    go_wp2_with fail
    go_ret2
    exact two_rets rfl rfl (two_lits rfl rfl rfl rfl)
  by_cases h5 : k = 5
  · subst h5
    go_enter Tryd.func37, Tryd.ntmps37
    go_wp2_with fail
    go_ret2
    exact two_rets rfl rfl (two_lits rfl rfl rfl rfl)
  by_cases h6 : k = 6
  · subst h6
    go_enter Tryd.func37, Tryd.ntmps37
    go_wp2_with fail
    go_ret2
    exact two_rets rfl rfl (two_lits rfl rfl rfl rfl)
  have HE : Hid (lvl k = []) := Lib.hid (lvl_none ⟨h1, h2, h4, h5, h6⟩)
  have e1 : (k == 1) = false := by simpa using h1
  have e2 : (k == 2) = false := by simpa using h2
  have e4 : (k == 4) = false := by simpa using h4
  have e5 : (k == 5) = false := by simpa using h5
  have e6 : (k == 6) = false := by simpa using h6
  clear h1 h2 h4 h5 h6
  go_enter Tryd.func37, Tryd.ntmps37
  go_wp2_with fail
  go_ret2
  refine two_rets (xs := []) (ys := []) (by unfold sigT; rw [HE.out]; rfl) (by unfold sigO; rw [HE.out]; rfl) ⟨Rd.nil _, Rd.nil _, (fun b hb => by cases hb), (fun b hb => by cases hb), Below.refl _ _⟩

def RetTms (W : World) (l : List Tm) (e : Ending) (w' : World) : Prop := ∃ A n cp, e = .returned (.slice A n cp) ∧ Tms w' (.slice A n cp) l ∧ (∀ b, (Value.slice A n cp).ownBlock = some b → W.heap.size ≤ b) ∧ Below W.heap.size W w'
theorem lit_own {w : World} {t : Tm} {k : Nat} (hk : k = w.heap.size) : (w.alloc (tmO t)).ownsRow w.heap.size 52 3 (.slice (some ⟨k, 0, none⟩) 1 1) 1 (tmV t) := by
  subst hk
  exact ⟨rfl, .inr ⟨w.heap.size, 1, _, rfl, Nat.le_refl _, heap_alloc_new _ _, Nat.le_refl _, by unfold maxLen; omega, rfl, rfl⟩⟩
theorem below_own {w x y : World} {base : Nat} {v : Value} {n : Nat} {xs : List Value} {e : TypeId} {k : Nat} (hw : base ≤ w.heap.size) (h : x.ownsRow base e k v n xs) (hb : Below base w x) (hg : x.grownBy y v.ownBlock) : Below base w y := by
  have hz1 := hb.size
  refine hb.trans ⟨hg.os, hg.tape, hg.output, hg.size, fun i hi => hg.block i (by omega) (fun e => ?_)⟩
  have := (own_block_bd h i e.symm).1
  omega
theorem Tms.own {w : World} {base n : Nat} {v : Value} {l : List Tm} (hn : n = l.length) (h : w.ownsRow base 52 3 v n (tmsV l)) : Tms w v l := ⟨n, hn, Rdk.own h⟩
set_option maxHeartbeats 4000000 in
theorem over_say (o : Int) (va vb : Value) (a b : List Tm) (w : World) (ha : Tms w va a) (hb : Tms w vb b) (hla : a.length ≤ 1000000) (hlb : b.length ≤ 1000000) :
    Calls Tryd.prog 51 #[.int .i64 o, va, vb] w (RetTms w (opT o :: (a ++ b))) := by
  obtain ⟨i0, hi, hz0, hz1, hz2⟩ := info_parts info_tm
  obtain ⟨na, hna, hra⟩ := ha
  obtain ⟨nb, hnb, hrb⟩ := hb
  obtain ⟨Aa, ca, rfl, hra'⟩ := hra
  obtain ⟨Ab, cb, rfl, hrb'⟩ := hrb
  have HRA : Hid (Rdk 3 w (.slice Aa na ca) na (tmsV a)) := Lib.hid ⟨Aa, ca, rfl, hra'⟩
  have HRB : Hid (Rdk 3 w (.slice Ab nb cb) nb (tmsV b)) := Lib.hid ⟨Ab, cb, rfl, hrb'⟩
  have HNA := Lib.hid hna
  have HNB := Lib.hid hnb
  have hla' : na ≤ 1000000 := by omega
  have hlb' : nb ≤ 1000000 := by omega
  clear hra' hrb' hna hnb hla hlb
  go_enter Tryd.func51, Tryd.ntmps51
  go_wp2_with (at_builtin; refine wpList_append_rdk _ rfl (.tmp 10) (.tmp 11) 23 rfl w.heap.size 52 i0 _ 3 32 Tryd.underlying23 hi hz0 hz1 hz2 rfl (by decide) _ 1 (tmV (opT o)) rfl (lit_own (t := opT o) rfl) _ na (tmsV a) rfl (HRA.out.alloc _) (tmsV_one a) (by unfold maxLen; omega) (by omega) (by simp) ?_)
  intro v1 w1 hown1 hgrow1 _
  obtain ⟨A1, c1, rfl⟩ := own_shape hown1
  have HO1 := Lib.hid hown1
  have HB1 := Lib.hid (below_own (Nat.le_refl _) (lit_own (w := w) (t := opT o) rfl) ((Below.refl _ _).alloc (Nat.le_refl _) _) hgrow1)
  clear hown1 hgrow1
  go_wp2_with (at_builtin; refine wpList_append_rdk _ rfl (.tmp 13) (.tmp 14) 23 rfl w.heap.size 52 i0 _ 3 32 Tryd.underlying23 hi hz0 hz1 hz2 rfl (by decide) _ (1 + na) (tmV (opT o) ++ tmsV a) rfl HO1.out _ nb (tmsV b) rfl (HRB.out.keep HB1.out) (tmsV_one b) (by unfold maxLen; omega) (by omega) HB1.out.size ?_)
  intro v2 w2 hown2 hgrow2 _
  obtain ⟨A2, c2, rfl⟩ := own_shape hown2
  have HO2 := Lib.hid hown2
  have HB2 := Lib.hid (below_own (Nat.le_refl _) HO1.out HB1.out hgrow2)
  clear hown2 hgrow2
  go_wp2_with fail
  go_ret
  refine ⟨A2, _, c2, rfl, Tms.own (base := w.heap.size) (n := 1 + na + nb) ?_ ?_, fun b hb => (own_block_bd HO2.out b hb).1, HB2.out⟩
  · simp only [List.length_cons, List.length_append]; have := HNA.out; have := HNB.out; omega
  · have e : tmsV (opT o :: (a ++ b)) = tmV (opT o) ++ tmsV a ++ tmsV b := by simp [tmsV]
    rw [e]
    exact HO2.out
end Go.Proofs.YtffdfajlfgeicaaDoor
