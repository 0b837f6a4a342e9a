/- ExprRefAll, joined. -/
import Derived.Test.YtffdfajlfgeicaaDoorMExprRefAtomN
import Derived.Test.YtffdfajlfgeicaaDoorMExprRefStep
namespace Go.Proofs.YtffdfajlfgeicaaDoor
open Go.RowKit CurSpec TermSpec ExprSpec NamesSpec
set_option maxRecDepth 100000

theorem atom_say (f : Nat) (c : Cur) (hL : LevAt f 1) (ok : Ok c) (h0 : c.bad = 0) (hf : Fit (f + 1) c) (hlen : c.L.length ≤ 100000) : AtOk f c := by
  have hfo : ∀ {k : Int} {s : ByteArray}, isB c k s = true → k ≠ 0 → Fit f (on c) := fun hb hk _ => by
    have := isB_real hb hk
    have := hf h0
    omega
  by_cases h2 : (next c).k = 2
  · exact atom_num f c ok h2
  by_cases ho : isB c 3 tOpen = true
  · exact atom_open f c hL ok (hfo ho (by decide)) hlen ho
  have hno : isB c 3 tOpen = false := by simpa using ho
  by_cases h1 : (next c).k = 1
  · by_cases w0 : isB c 1 tTrue = true
    · exact atom_w0 f c w0 h2 hno
    by_cases w1 : isB c 1 tFalse = true
    · exact atom_w1 f c w1 h2 hno
    by_cases w2 : isB c 1 tIn = true
    · exact atom_in f c ok w2 h2 hno
    by_cases w3 : isB c 1 tMin = true
    · exact atom_w3 f c hL ok (hfo w3 (by decide)) hlen w3 h2 hno
    by_cases w4 : isB c 1 tMax = true
    · exact atom_w4 f c hL ok (hfo w4 (by decide)) hlen w4 h2 hno
    cases hnm : NamesSpec.isName (next c).t.data.toList with
    | true => exact atom_name f c ok h1 ⟨w0, w1, w2, w3, w4⟩ hnm h2 hno
    | false => exact atom_none f c ok h1 ⟨w0, w1, w2, w3, w4⟩ hnm h2 hno
  · exact atom_bad f c h1 h2 hno

theorem lev_all : ∀ F, LevOk F := by
  intro F
  induction F using Nat.strongRecOn with
  | ind F ih =>
    intro k hk1 hk7 d A n cp W0 W hT hW ok hf hlen
    by_cases h0 : d.bad = 0
    · cases F with
      | zero => exact absurd h0 hf.zero
      | succ f =>
        have key : ∀ (j : Nat) (k : Int), k = 8 - (j : Int) → 1 ≤ k → (k = 8 → isB d 3 tNeg = false) → ∀ W, Below W0.heap.size W0 W →
            Calls Tryd.prog 28 #[.agg #[.slice A n cp, .int .i64 d.w1, .int .i64 d.w2, .int .i64 d.a1, .int .i64 d.a2, .int .i64 d.bad], .int .i64 k] W (RetLev W0 W d (S (f + 1) d k)) := by
          intro j
          induction j with
          | zero =>
            intro k hk _ hneg W hW
            obtain rfl : k = 8 := by omega
            exact lev_8 f d h0 (hneg rfl) A n cp W0 W hT hW (fun W hW => atom_say f d (ih f (by omega) 1 (by decide) (by decide)) ok h0 hf hlen A n cp W0 W hT hW)
          | succ j jh =>
            intro k hk h1 _ W hW
            by_cases h3 : k = 3 ∧ isB d 1 tNot = true
            · obtain ⟨rfl, hb⟩ := h3
              exact lev_not f d (ih f (by omega) 3 (by decide) (by decide)) ok (fun _ => by have := isB_real hb (by decide); have := hf h0; omega) hlen hb A n cp W0 W hT hW
            by_cases hn : k = 7 ∧ isB d 3 tNeg = true
            · obtain ⟨rfl, hb⟩ := hn
              exact lev_neg f d (ih f (by omega) 7 (by decide) (by decide)) ok (fun _ => by have := isB_real hb (by decide); have := hf h0; omega) hlen hb A n cp W0 W hT hW
            exact lev_step (f + 1) d k h1 (by omega) h0 h3 hn (fun g hg => ih g hg) ok hf hlen A n cp W0 W hT hW (fun W hW => jh (k + 1) (by omega) (by omega) (fun h8 => by simpa using fun hb => hn ⟨by omega, hb⟩) W hW)
        exact key (8 - k).toNat k (by omega) hk1 (fun h => by omega) W hW
    · rw [S_dead F k h0]
      exact lev_dead d h0 k A n cp W0 W hT
end Go.Proofs.YtffdfajlfgeicaaDoor
