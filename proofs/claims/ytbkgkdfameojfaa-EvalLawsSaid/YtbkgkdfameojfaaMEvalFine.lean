/- EvalFine, joined. -/
import Derived.Test.YtbkgkdfameojfaaMEvalSpec
namespace Go.Proofs.Ytbkgkdfameojfaa
namespace EvalSpec
open TermSpec NamesSpec ValSpec Go.Lib

def opE (o : Int) : Tm := ⟨o, 0, ⟨#[]⟩⟩
/-- A whole expression, of a type, that comes to a number, no deeper than so. -/
structure Fine (e : Ev) (l : List Tm) (ty v d : Int) : Prop where
  cnt : cnt 1 l = some l.length
  may : l.all mayB = true
  known : knownB e l = true
  ty : come typF l = ty
  val : comeE e l = v
  dep : come depF l ≤ d
theorem fine_of {e : Ev} {l : List Tm} (h : chkE e l = 0) : Fine e l (typ l) (comeE e l) (depth l) := by
  obtain ⟨_, hc, _, hk⟩ := chkE_ok h
  obtain ⟨hw, hm, _⟩ := chk_ok hc
  exact ⟨(wholeB_iff.1 hw).2, hm, hk, by unfold typ tell; rw [hw]; rfl, rfl, by unfold depth tell; rw [hw]; exact Int.le_refl _⟩
theorem known_app {e : Ev} {a b : List Tm} : knownB e (a ++ b) = (knownB e a && knownB e b) := by unfold knownB; rw [List.all_append]
theorem known_op {e : Ev} {o : Int} (h2 : ¬ o = 2) (l : List Tm) : knownB e (opE o :: l) = knownB e l := by unfold knownB; rw [List.all_cons]; simp [opE, h2]
theorem may_opE {o : Int} (h1 : ¬ o = 1) (h2 : ¬ (o = 2 ∨ o = 11)) : mayB (opE o) = true := by unfold mayB opE; rw [if_neg h1, if_neg h2]; rfl
theorem fine_un {e : Ev} {a : List Tm} {o ta va d : Int} (ho : ar o = 1) (h : Fine e a ta va d) (hd : 0 ≤ d) : Fine e (opE o :: a) (typF o [ta]) (ev1 o va) (d + 1) := by
  have hn : arN o = 1 := by unfold arN; rw [ho]; rfl
  have h2 : ¬ o = 2 := by rintro rfl; exact absurd ho (by decide)
  have h1 : ¬ o = 1 := by rintro rfl; exact absurd ho (by decide)
  have h11 : ¬ o = 11 := by rintro rfl; exact absurd ho (by decide)
  refine ⟨?_, ?_, by rw [known_op h2]; exact h.known, ?_, ?_, ?_⟩
  · exact cnt_mk (k := 0) (t := opE o) (by show 0 ≤ ar o; omega) (by show cnt (0 + arN o) a = _; rw [hn]; exact h.cnt)
  · rw [List.all_cons, may_opE h1 (by omega), h.may]; rfl
  · show typF o ((stack typF a).take (arN o)) = _
    rw [hn, stack_one h.cnt, h.ty]; rfl
  · show evF e (opE o) ((stackE e a).take (arN o)) = _
    rw [hn, stackE_nil_of h.cnt, h.val]
    unfold evF evT
    rw [if_neg (by show ¬ ar o = 0; omega), if_pos (by show ar o = 1; exact ho)]
    rfl
  · show depF o ((stack depF a).take (arN o)) ≤ _
    rw [hn, stack_one h.cnt]
    have := (deepest_bd hd [come depF a] (by simpa using h.dep)).2
    show deepest (List.take _ _) + 1 ≤ d + 1
    rw [List.take_of_length_le (by simp)]
    omega
theorem fine_bin {e : Ev} {a b : List Tm} {o ta va tb vb d : Int} (ho : ar o = 2) (h : Fine e a ta va d) (h' : Fine e b tb vb d) (hd : 0 ≤ d) : Fine e (opE o :: (a ++ b)) (typF o [ta, tb]) (ev2 o va vb) (d + 1) := by
  have hn : arN o = 2 := by unfold arN; rw [ho]; rfl
  have h2 : ¬ o = 2 := by rintro rfl; exact absurd ho (by decide)
  have h1 : ¬ o = 1 := by rintro rfl; exact absurd ho (by decide)
  have h11 : ¬ o = 11 := by rintro rfl; exact absurd ho (by decide)
  have hst : ∀ f, stack f (a ++ b) = [come f a, come f b] := fun f => by rw [stack_app h.cnt, stack_one h.cnt, stack_one h'.cnt]; rfl
  refine ⟨?_, ?_, by rw [known_op h2, known_app, h.known, h'.known]; rfl, ?_, ?_, ?_⟩
  · exact cnt_mk (k := 0) (t := opE o) (by show 0 ≤ ar o; omega) (by show cnt (0 + arN o) (a ++ b) = _; rw [hn]; exact cnt_one_app h.cnt h'.cnt)
  · rw [List.all_cons, may_opE h1 (by omega), List.all_append, h.may, h'.may]; rfl
  · show typF o ((stack typF (a ++ b)).take (arN o)) = _
    rw [hn, hst, h.ty, h'.ty]; rfl
  · show evF e (opE o) ((stackE e (a ++ b)).take (arN o)) = _
    rw [hn, stackE_app h.cnt, stackE_nil_of h.cnt, stackE_nil_of h'.cnt, h.val, h'.val]
    unfold evF evT
    rw [if_neg (by show ¬ ar o = 0; omega), if_neg (by show ¬ ar o = 1; omega)]
    rfl
  · show depF o ((stack depF (a ++ b)).take (arN o)) ≤ _
    rw [hn, hst]
    have := (deepest_bd hd [come depF a, come depF b] (by
      intro x hx
      simp only [List.mem_cons, List.not_mem_nil, or_false] at hx
      rcases hx with rfl | rfl
      · exact h.dep
      · exact h'.dep)).2
    show deepest (List.take _ _) + 1 ≤ d + 1
    rw [List.take_of_length_le (by simp)]
    omega
theorem fine_chk {e : Ev} {l : List Tm} {ty v d : Int} (h : Fine e l ty v d) (h4 : e.vars.length ≤ 4) (hn : l.length ≤ 40) (hd : d ≤ 12) (hty : ty ≠ 0) : chkE e l = 0 ∧ typ l = ty := by
  have hw : wholeB l = true := wholeB_iff.2 ⟨hn, h.cnt⟩
  have ht : typ l = ty := by unfold typ tell; rw [hw]; exact h.ty
  have hdp : depth l ≤ 12 := by have := h.dep; unfold depth tell; rw [hw]; simp only [if_true]; omega
  exact ⟨chkE_mk h4 (chk_mk hw h.may hdp) (by rw [ht]; exact hty) h.known, ht⟩
theorem holds_fine {e : Ev} {l : List Tm} {v d : Int} (h : Fine e l 2 v d) (h4 : e.vars.length ≤ 4) (hn : l.length ≤ 40) (hd : d ≤ 12) : holdsE e l = decide (v = 1) := by
  obtain ⟨hc, ht⟩ := fine_chk h h4 hn hd (by decide)
  have hne : l.isEmpty = false := by
    cases l with
    | nil => have := h.cnt; cases this
    | cons t r => rfl
  unfold holdsE
  rw [hne, hc, ht, h.val]
  simp
section
variable {e : Ev} {a b : List Tm}
/-- What the law says of two numbers. -/
theorem law_less (ha : chkE e a = 0) (hb : chkE e b = 0) (hta : typ a = 1) (htb : typ b = 1) (hl : a.length + b.length ≤ 36) (hda : depth a ≤ 9) (hdb : depth b ≤ 9) :
    holdsE e (opE 15 :: (a ++ b)) = decide (comeE e a < comeE e b) ∧ holdsE e (opE 18 :: (a ++ b)) = decide (comeE e b ≤ comeE e a) := by
  have h4 := (chkE_ok ha).1
  have fa := fine_of ha
  have fb := fine_of hb
  have fa' : Fine e a 1 (comeE e a) 9 := ⟨fa.cnt, fa.may, fa.known, by rw [fa.ty, hta], fa.val, by have := fa.dep; omega⟩
  have fb' : Fine e b 1 (comeE e b) 9 := ⟨fb.cnt, fb.may, fb.known, by rw [fb.ty, htb], fb.val, by have := fb.dep; omega⟩
  constructor
  · rw [holds_fine (fine_bin (o := 15) rfl fa' fb' (by omega)) h4 (by simp; omega) (by omega)]
    unfold ev2 tru
    simp [cmp]
  · rw [holds_fine (fine_bin (o := 18) rfl fa' fb' (by omega)) h4 (by simp; omega) (by omega)]
    unfold ev2 tru
    simp [cmp]
/-- What it says of two that are true or false. -/
theorem law_not (ha : chkE e a = 0) (hb : chkE e b = 0) (hta : typ a = 2) (htb : typ b = 2) (hl : a.length + b.length ≤ 36) (hda : depth a ≤ 9) (hdb : depth b ≤ 9) :
    holdsE e (opE 12 :: opE 19 :: (a ++ b)) = holdsE e (opE 20 :: ((opE 12 :: a) ++ (opE 12 :: b))) ∧ holdsE e (opE 12 :: opE 12 :: a) = holdsE e a := by
  have h4 := (chkE_ok ha).1
  have fa := fine_of ha
  have fb := fine_of hb
  have fa' : Fine e a 2 (comeE e a) 9 := ⟨fa.cnt, fa.may, fa.known, by rw [fa.ty, hta], fa.val, by have := fa.dep; omega⟩
  have fb' : Fine e b 2 (comeE e b) 9 := ⟨fb.cnt, fb.may, fb.known, by rw [fb.ty, htb], fb.val, by have := fb.dep; omega⟩
  have f1 := fine_un (o := 12) rfl (fine_bin (o := 19) rfl fa' fb' (by omega)) (by omega)
  have f2 := fine_bin (o := 20) rfl (fine_un (o := 12) rfl fa' (by omega)) (fine_un (o := 12) rfl fb' (by omega)) (by omega)
  have f3 := fine_un (o := 12) rfl (fine_un (o := 12) rfl fa' (by omega)) (by omega)
  have va := comeE_bool (e := e) (chkE_ok ha).2.1 hta
  have vb := comeE_bool (e := e) (chkE_ok hb).2.1 htb
  constructor
  · rw [holds_fine f1 h4 (by simp; omega) (by omega), holds_fine f2 h4 (by simp; omega) (by omega)]
    rcases va with va | va <;> rcases vb with vb | vb <;> rw [va, vb] <;> rfl
  · rw [holds_fine f3 h4 (by simp; omega) (by omega), holds_fine fa' h4 (by omega) (by omega)]
    rcases va with va | va <;> rw [va] <;> rfl
end
end EvalSpec
end Go.Proofs.Ytbkgkdfameojfaa
