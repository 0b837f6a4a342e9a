/- What End of the layer of terms answers, the reference's too. Condition: fewer terms than 2^62. -/
import Derived.Test.YtbkgkdfameojfaaTermArity
namespace Go.Proofs.Ytbkgkdfameojfaa
open Go.RowKit TermSpec
set_option maxRecDepth 100000

def EndRel (l : List Tm) (n : Nat) (r : Int) (a o : Value) : Prop := ∃ (j k : Nat), j ≤ n ∧ a = .int .i64 j ∧ o = .int .i64 k ∧ k ≤ j + 1 ∧ fin k (l.drop j) j = r
theorem endRel_next {l : List Tm} {n j k : Nat} {r : Int} {t : Tm} (hj : j < n) (ht : l[j]? = some t) (h0 : 0 ≤ ar t.op) (hk : k + 1 ≤ j + 1) (h : fin (k + 1) (l.drop j) j = r) (o : Int) (ho : o = (k + 1 : Nat) + (ar t.op - 1)) : EndRel l n r (.int .i64 ((j : Int) + 1)) (.int .i64 o) := by
  have h2 := (ar_bd t.op).2
  have e := arN_of h0
  refine ⟨j + 1, k + arN t.op, by omega, by simp, ?_, by omega, ?_⟩
  · congr 1; omega
  · rw [drop_get ht, fin_cons, if_neg (by omega)] at h
    exact h
theorem fin_stop {l : List Tm} {j k : Nat} {r : Int} {t : Tm} (ht : l[j]? = some t) (h0 : ar t.op < 0) (h : fin (k + 1) (l.drop j) j = r) : -1 = r := by
  rw [drop_get ht, fin_cons, if_pos h0] at h
  exact h
theorem fin_out {l : List Tm} {j k : Nat} {r : Int} (hj : l.length ≤ j) (h : fin (k + 1) (l.drop j) j = r) : -1 = r := by
  rw [List.drop_eq_nil_of_le hj] at h
  exact h

set_option maxHeartbeats 1000000 in
theorem end_nat (A : Option Addr) (n c : Nat) (l : List Tm) (a : Nat) (w : World) (h : Tms w (.slice A n c) l) (hn : n = l.length) (hn62 : n ≤ 4611686018427387903) (ha : a ≤ n) :
    Calls Try.prog 54 #[.slice A n c, .int .i64 a] w (SameI w (endA l a)) := by
  have HT := Lib.hid h
  have HN := Lib.hid hn
  have HA := Lib.hid (endA_nat l a)
  obtain ⟨r, hr⟩ : ∃ r, r = endA l a := ⟨_, rfl⟩
  rw [← hr] at HA ⊢
  clear h hn hr
  go_enter Try.func54, Try.ntmps54
  go_wp2_with fail
  go_loop [1, 5] (fun a o => EndRel l n r a o) (fun a _ => n - (intOf a).toNat)
  case atStart => exact ⟨a, 1, ha, rfl, rfl, by omega, HA.out.symm⟩
  case round =>
    obtain ⟨j, k, hj, rfl, rfl, hk, hf⟩ := hrel
    have HF := Lib.hid hf
    clear hf
    rcases Nat.eq_zero_or_pos k with hk0 | hk0
    · subst hk0
      go_wp2_with fail
      go_ret
      exact ⟨ret_int (by rw [← HF.out, fin_zero]), rfl⟩
    · obtain ⟨k, rfl⟩ : ∃ k', k = k' + 1 := ⟨k - 1, by omega⟩
      have hk1 : (0 : Int) < ((k + 1 : Nat) : Int) := by omega
      by_cases hlt : j < n
      · obtain ⟨t, ht⟩ : ∃ t, l[j]? = some t := get_some (by rw [← HN.out]; exact hlt)
        obtain ⟨b, off, rfl, hb, c0, -, -⟩ := HT.out.at_ ht
        have hltI : (j : Int) < (n : Int) := by omega
        have HX := Lib.hid ht
        have HC := Lib.hid (arity_any t.op)
        obtain ⟨h1, h2⟩ := ar_bd t.op
        have HR := Lib.hid (fun h0 => endRel_next (n := n) (r := r) hlt ht h0 hk HF.out)
        have HS := Lib.hid (fun h0 => fin_stop ht h0 HF.out)
        obtain ⟨o, ho⟩ : ∃ o, o = t.op := ⟨_, rfl⟩
        rw [← ho] at HC h1 h2 c0 HR HS
        obtain ⟨q, hq⟩ : ∃ q, q = ar o := ⟨_, rfl⟩
        rw [← hq] at HC h1 h2 HR HS
        clear ht ho hq
        by_cases h0 : q < 0
        · go_wp2_with (go_at_call 17; (with_reducible refine (HC.out _).mono ?_); rintro e w' ⟨rfl, rfl⟩)
          go_ret
          exact ⟨ret_int (HS.out h0), rfl⟩
        · have h0' : 0 ≤ q := by omega
          go_wp2_with (go_at_call 17; (with_reducible refine (HC.out _).mono ?_); rintro e w' ⟨rfl, rfl⟩)
          go_round
          case rel => exact HR.out h0' _ (by simp)
          case measure => simp [intOf]; omega
      · go_wp2_with fail
        go_ret
        exact ⟨ret_int (fin_out (by rw [← HN.out]; omega) HF.out), rfl⟩

theorem end_far (A : Option Addr) (n c : Nat) (l : List Tm) (a : Int) (w : World) (hn : n = l.length) (ha : (n : Int) < a) :
    Calls Try.prog 54 #[.slice A n c, .int .i64 a] w (SameI w (endA l a)) := by
  have HE := Lib.hid (endA_out (l := l) (a := a) (by omega))
  have h0 : ¬ a < 0 := by omega
  have h1 : (n : Int) ≤ a := by omega
  clear hn
  go_enter Try.func54, Try.ntmps54
  go_wp2_with fail
  go_loop [1, 5] (fun v o => v = .int .i64 a ∧ o = .int .i64 1) (fun _ _ => 0)
  case atStart => exact ⟨rfl, rfl⟩
  case round =>
    obtain ⟨rfl, rfl⟩ := hrel
    go_wp2_with fail
    go_ret
    exact ⟨ret_int HE.out.symm, rfl⟩
theorem end_any (A : Option Addr) (n c : Nat) (l : List Tm) (a : Int) (w : World) (h : Tms w (.slice A n c) l) (hn : n = l.length) (hn62 : n ≤ 4611686018427387903) :
    Calls Try.prog 54 #[.slice A n c, .int .i64 a] w (SameI w (endA l a)) := by
  by_cases h0 : a < 0
  · have HE := Lib.hid (endA_neg (l := l) h0)
    clear hn h
    go_enter Try.func54, Try.ntmps54
    go_wp2_with fail
    go_ret
    exact ⟨ret_int HE.out.symm, rfl⟩
  · by_cases h1 : (n : Int) < a
    · exact end_far A n c l a w hn h1
    · obtain ⟨k, rfl⟩ := Int.eq_ofNat_of_zero_le (Int.not_lt.1 h0)
      exact end_nat A n c l k w h hn hn62 (by omega)
end Go.Proofs.Ytbkgkdfameojfaa
