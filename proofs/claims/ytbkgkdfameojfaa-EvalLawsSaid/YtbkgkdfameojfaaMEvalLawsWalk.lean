/- EvalLawsWalk, joined. -/
import Derived.Test.YtbkgkdfameojfaaMEvalLawsBool
namespace Go.Proofs.Ytbkgkdfameojfaa
open Go.RowKit TermSpec EvalSpec
set_option maxRecDepth 100000

theorem typ_one {l : List Tm} (h : chk l = 0) (h0 : typ l ≠ 0) : typ l = 1 ∨ typ l = 2 := by
  obtain ⟨hw, _, _⟩ := chk_ok h
  unfold typ tell at h0 ⊢
  rw [hw, if_pos rfl] at h0 ⊢
  cases l with
  | nil => exact absurd rfl h0
  | cons t r =>
    rw [come_cons] at h0 ⊢
    unfold typF at h0 ⊢
    split
    · unfold ownT
      split
      · exact .inl rfl
      · exact .inr rfl
    · rename_i hn
      rw [if_neg hn] at h0
      exact absurd rfl h0
theorem walk_EvalLaws (A1 : Option Addr) (n1 c1 : Nat) (a : List Tm) (A2 : Option Addr) (n2 c2 : Nat) (b : List Tm) (p : EP) (e : Ev) (w : World) (ha : Tms w (.slice A1 n1 c1) a) (hn1 : n1 = a.length) (_ : Small a) (_ : n1 ≤ 9223372036854775807) (hb : Tms w (.slice A2 n2 c2) b) (hn2 : n2 = b.length) (_ : Small b) (_ : n2 ≤ 9223372036854775807) (he : EnvIn w p e) :
    Calls Try.prog 4 #[.slice A1 n1 c1, .slice A2 n2 c2, envV p e] w fun e w' => e = .returned (.bool true) ∧ Below w.heap.size w w' := by
  cases h1 : lightE e a with
  | false => exact laws_no1 A1 n1 c1 a A2 n2 c2 b p e w hn1 hn2 ha hb he h1
  | true =>
  cases h2 : lightE e b with
  | false => exact laws_no2 A1 n1 c1 a A2 n2 c2 b p e w hn1 hn2 ha hb he h1 h2
  | true =>
  by_cases h3 : chkE e a = 0
  · by_cases h4 : chkE e b = 0
    · by_cases h5 : n1 + n2 ≤ 36
      · by_cases h6 : depth a ≤ 9
        · by_cases h7 : depth b ≤ 9
          · by_cases h8 : typ a = typ b
            · obtain ⟨_, hc, ht, _⟩ := chkE_ok h3
              rcases typ_one hc ht with h | h
              · exact laws_int A1 n1 c1 a A2 n2 c2 b p e w hn1 hn2 ha hb he h1 h2 h3 h4 h5 h6 h7 h (by rw [← h8]; exact h)
              · exact laws_bool A1 n1 c1 a A2 n2 c2 b p e w hn1 hn2 ha hb he h1 h2 h3 h4 h5 h6 h7 h (by rw [← h8]; exact h)
            · exact laws_no8 A1 n1 c1 a A2 n2 c2 b p e w hn1 hn2 ha hb he h1 h2 h3 h4 h5 h6 h7 h8
          · exact laws_no7 A1 n1 c1 a A2 n2 c2 b p e w hn1 hn2 ha hb he h1 h2 h3 h4 h5 h6 (by omega)
        · exact laws_no6 A1 n1 c1 a A2 n2 c2 b p e w hn1 hn2 ha hb he h1 h2 h3 h4 h5 (by omega)
      · exact laws_no5 A1 n1 c1 a A2 n2 c2 b p e w hn1 hn2 ha hb he h1 h2 h3 h4 (by omega)
    · exact laws_no4 A1 n1 c1 a A2 n2 c2 b p e w hn1 hn2 ha hb he h1 h2 h3 h4
  · exact laws_no3 A1 n1 c1 a A2 n2 c2 b p e w hn1 hn2 ha hb he h1 h2 h3
end Go.Proofs.Ytbkgkdfameojfaa
