/- The tokens of so many of the same mark, one behind the other. No condition. -/
import Derived.Test.YthmhlhegmnpagaaDoorScanTokensWalk
namespace Go.Proofs.YthmhlhegmnpagaaDoor
open ScanSpec

def semis (n : Nat) : List UInt8 := List.replicate n 59
theorem semis_length (n : Nat) : (semis n).length = n := by simp [semis]
theorem semis_get {n i : Nat} (h : i < n) : (semis n)[i]? = some 59 := by simp [semis, h]
theorem semis_drop {n i : Nat} (h : i < n) : (semis n).drop i = 59 :: (semis n).drop (i + 1) := drop_next (semis_get h)
theorem semis_one {n i : Nat} (h : i < n) : one ((semis n).drop i) = (3, 1, 0) := by
  rw [semis_drop h]
  have hc : cls (59 :: (semis n).drop (i + 1)) 0 = 0 := by rfl
  have hm : markLen (59 :: (semis n).drop (i + 1)) = 1 := by rfl
  unfold one
  rw [hc, hm]
  rfl
theorem semis_gap (n i : Nat) : gap (semis n) i = i := by
  rcases Nat.lt_or_ge i n with h | h
  · exact gap_stop (by rw [cls_some (semis_get h)]; decide) (by rw [cls_some (semis_get h)]; decide)
  · exact gap_stop (by rw [cls_none (by rw [semis_length]; exact h)]; decide) (by rw [cls_none (by rw [semis_length]; exact h)]; decide)
theorem semis_pos {n i : Nat} (h : i ≤ n) : pos (semis n) i = (1, (i : Int) + 1) := by
  induction i with
  | zero => rfl
  | succ i ih =>
    rw [pos_next (semis_get (by omega)), ih (by omega), if_neg (by decide)]
    simp
theorem semis_go (n : Nat) (hn : n ≤ 4000) : ∀ (f i : Nat) (acc : List Tok), acc.length = i → i ≤ n → n ≤ i + f →
    ∃ ts, scanGo (semis n) f i acc = (ts, 0, 0) ∧ ts.length = n + 1 ∧ ts[n]? = some ⟨0, n, 0⟩ := by
  intro f
  induction f with
  | zero =>
    intro i acc ha hi hf
    obtain rfl : i = n := by omega
    exact ⟨_, rfl, by simp [ha], by rw [← ha]; simp⟩
  | succ f ih =>
    intro i acc ha hi hf
    rcases Nat.lt_or_ge i n with h | h
    · rw [scanGo_next (by rw [semis_length]; exact h) (by rw [semis_one h]) (by omega), semis_one h, semis_gap]
      exact ih (i + 1) _ (by simp [ha]) (by omega) (by omega)
    · obtain rfl : i = n := by omega
      rw [scanGo_end (by rw [semis_length]; exact Nat.le_refl _)]
      exact ⟨_, rfl, by simp [ha], by rw [← ha]; simp⟩
theorem semis_full (n : Nat) (hn : 4000 < n) : ∀ (f i : Nat) (acc : List Tok), acc.length = i → i ≤ 4000 → n ≤ i + f → scanGo (semis n) f i acc = ([], 4000, 8) := by
  intro f
  induction f with
  | zero => intro i acc ha hi hf; omega
  | succ f ih =>
    intro i acc ha hi hf
    have h : i < n := by omega
    rcases Nat.lt_or_ge i 4000 with h4 | h4
    · rw [scanGo_next (by rw [semis_length]; exact h) (by rw [semis_one h]) (by omega), semis_one h, semis_gap]
      exact ih (i + 1) _ (by simp [ha]) (by omega) (by omega)
    · obtain rfl : i = 4000 := by omega
      exact scanGo_full (by rw [semis_length]; exact h) (by rw [semis_one h]) ha
theorem semis_few {n : Nat} (hn : n ≤ 4000) : ∃ ts, scanT (semis n) = (ts, 0, 0) ∧ ts.length = n + 1 ∧ ts[n]? = some ⟨0, n, 0⟩ := by
  obtain ⟨ts, h1, h2⟩ := semis_go n hn n 0 [] rfl (by omega) (by omega)
  refine ⟨ts, ?_, h2⟩
  unfold scanT scan
  rw [if_neg (by rw [semis_length]; omega), semis_length, semis_gap]
  exact h1
theorem semis_many {n : Nat} (hn : 4000 < n) (hn2 : n ≤ 65536) : scanT (semis n) = ([], 4000, 8) := by
  unfold scanT scan
  rw [if_neg (by rw [semis_length]; omega), semis_length, semis_gap]
  exact semis_full n hn n 0 [] rfl (by omega) (by omega)
end Go.Proofs.YthmhlhegmnpagaaDoor
