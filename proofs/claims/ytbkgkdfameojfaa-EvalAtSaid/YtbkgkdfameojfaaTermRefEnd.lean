/- What the reference's End and Whole of the layer of terms answer. Condition: fewer terms than 2^62. -/
import Derived.Test.YtbkgkdfameojfaaTermEnd
namespace Go.Proofs.Ytbkgkdfameojfaa
open Go.RowKit TermSpec
set_option maxRecDepth 100000

theorem rend_out (A : Option Addr) (n c : Nat) (l : List Tm) (a : Int) (w : World) (hn : n = l.length) (ha : a < 0 ∨ (n : Int) ≤ a) :
    Calls Try.prog 43 #[.slice A n c, .int .i64 a] w (RetI w (endA l a)) := by
  have HE : Hid (endA l a = -1) := Lib.hid (by rcases ha with h | h; exact endA_neg h; exact endA_out (by omega))
  clear hn
  by_cases h0 : a < 0
  · clear ha
    go_enter Try.func43, Try.ntmps43
    go_wp2_with fail
    go_ret
    exact ⟨ret_int HE.out.symm, Below.refl _ _⟩
  · have h1 : (n : Int) ≤ a := by omega
    clear ha
    go_enter Try.func43, Try.ntmps43
    go_wp2_with fail
    go_ret
    exact ⟨ret_int HE.out.symm, Below.refl _ _⟩

def REndRel (W : World) (l : List Tm) (a : Nat) (q : Int) (v i : Value) (wr : World) : Prop :=
  ∃ (k x : Nat), (k : Int) ≤ q ∧ i = .int .i64 k ∧ v = .int .i64 (a + 1 + x : Nat) ∧ cnt k (l.drop (a + 1)) = some x ∧ Below W.heap.size W wr
theorem rend_next {l : List Tm} {a k x : Nat} (hx : cnt k (l.drop (a + 1)) = some x) (h : 0 ≤ endA l ((a + 1 + x : Nat) : Int)) : ∃ x', endA l ((a + 1 + x : Nat) : Int) = (a + 1 + x' : Nat) ∧ cnt (k + 1) (l.drop (a + 1)) = some x' := by
  obtain ⟨p, m, hp, hc, he, hm, hl⟩ := endA_nn h
  obtain rfl : p = a + 1 + x := by omega
  refine ⟨x + m, by rw [he]; omega, cnt_join hx (by rw [List.drop_drop]; exact hc)⟩
theorem rend_bad {l : List Tm} {a k x : Nat} {t : Tm} (ht : l[a]? = some t) (h0 : 0 ≤ ar t.op) (hk : (k : Int) < ar t.op) (hx : cnt k (l.drop (a + 1)) = some x) (h : endA l ((a + 1 + x : Nat) : Int) < 0) : endA l a = -1 := by
  have hc : cnt 1 ((l.drop (a + 1)).drop x) = none := by
    rw [List.drop_drop]
    cases hc : cnt 1 (l.drop (a + 1 + x)) with
    | none => rfl
    | some m => rw [endA_some hc] at h; omega
  have e := arN_of h0
  have := cnt_none (cnt_stop hx hc) (arN t.op - (k + 1))
  rw [show k + 1 + (arN t.op - (k + 1)) = arN t.op by omega] at this
  rw [endA_at ht h0, fin_none this]
theorem rend_done {l : List Tm} {a k x : Nat} {t : Tm} (ht : l[a]? = some t) (h0 : 0 ≤ ar t.op) (hk : (k : Int) = ar t.op) (hx : cnt k (l.drop (a + 1)) = some x) : endA l a = (a + 1 + x : Nat) := by
  have e := arN_of h0
  obtain rfl : k = arN t.op := by omega
  rw [endA_at ht h0, fin_some hx]

def RIH (A : Option Addr) (n c : Nat) (l : List Tm) (K : Nat) : Prop := ∀ (a : Nat) (w : World), n ≤ a + K → Tms w (.slice A n c) l → Calls Try.prog 43 #[.slice A n c, .int .i64 a] w (RetI w (endA l a))
set_option maxHeartbeats 2000000 in
theorem rend_step (A : Option Addr) (n c : Nat) (l : List Tm) (K : Nat) (hn : n = l.length) (hn62 : n ≤ 4611686018427387903) (ih : RIH A n c l K) (a : Nat) (w : World) (hK : n ≤ a + (K + 1)) (ha : a < n) (h : Tms w (.slice A n c) l) :
    Calls Try.prog 43 #[.slice A n c, .int .i64 a] w (RetI w (endA l a)) := by
  obtain ⟨t, ht⟩ : ∃ t, l[a]? = some t := get_some (by omega)
  have HT := Lib.hid h
  have HN := Lib.hid hn
  have HIH := Lib.hid ih
  have HX := Lib.hid ht
  have haI : (a : Int) < (n : Int) := by omega
  obtain ⟨b, off, rfl, hb, c0, -, -⟩ := h.at_ ht
  have HCELL := Lib.hid c0
  have HC := Lib.hid (rarity_any t.op)
  obtain ⟨h1, h2⟩ := ar_bd t.op
  have HE : Hid (ar t.op < 0 → endA l a = -1) := Lib.hid (endA_bad ht)
  have HB : Hid (∀ k x : Nat, 0 ≤ ar t.op → (k : Int) < ar t.op → cnt k (l.drop (a + 1)) = some x → endA l ((a + 1 + x : Nat) : Int) < 0 → endA l a = -1) := Lib.hid (fun k x h0 hk hx h => rend_bad ht h0 hk hx h)
  have HD : Hid (∀ k x : Nat, 0 ≤ ar t.op → (k : Int) = ar t.op → cnt k (l.drop (a + 1)) = some x → endA l a = (a + 1 + x : Nat)) := Lib.hid (fun k x h0 hk hx => rend_done ht h0 hk hx)
  obtain ⟨o, ho⟩ : ∃ o, o = t.op := ⟨_, rfl⟩
  rw [← ho] at HC h1 h2 c0 HCELL HE HB HD
  obtain ⟨q, hq⟩ : ∃ q, q = ar o := ⟨_, rfl⟩
  rw [← hq] at HC h1 h2 HE HB HD
  obtain ⟨r, hr⟩ : ∃ r, r = endA l a := ⟨_, rfl⟩
  rw [← hr] at HE HB HD ⊢
  clear ht ho hq hn ih h HX hr
  by_cases h0 : q < 0
  · go_enter Try.func43, Try.ntmps43
    go_wp2_with (go_at_call 42; (with_reducible refine (HC.out _).mono ?_))
    rintro e w1 ⟨rfl, hb1⟩
    go_wp2_with fail
    go_ret
    exact ⟨ret_int (HE.out h0).symm, hb1⟩
  · have h0' : 0 ≤ q := by omega
    clear HE
    have d1 : decide ((a : Int) < 0) = false := decide_eq_false (by omega)
    have d2 : decide (n ≤ a) = false := decide_eq_false (by omega)
    have d3 : decide (q < 0) = false := decide_eq_false h0
    go_enter Try.func43, Try.ntmps43
    go_wp2_with (go_at_call 42; (with_reducible refine (HC.out _).mono ?_))
    rintro e w1 ⟨rfl, hb1⟩
    have HB1 := Lib.hid hb1
    clear c0 hb1
    go_wp2_with fail
    go_loopw [5, 6] (fun v i wr => REndRel w l a q v i wr) (fun _ i _ => 3 - (intOf i).toNat)
    case atStart => exact ⟨0, 0, by simpa using h0', rfl, by simp, cnt_zero _, HB1.out⟩
    case round =>
      obtain ⟨k, x, hk, rfl, rfl, hx, hbw⟩ := hrel
      have HXc := Lib.hid hx
      have HBW := Lib.hid hbw
      have hle := (cnt_le hx).1
      rw [List.length_drop, ← HN.out] at hle
      have c0 : wr.cell? ⟨b, off + a * 3, none⟩ = some (.int .i64 o) := (hbw.cell (by exact hb)).trans HCELL.out
      clear hx hbw
      go_wp2_with (go_at_call 42; (with_reducible refine (HC.out _).mono ?_))
      rintro e w2 ⟨rfl, hb2⟩
      have HB2 := Lib.hid (below_two' HBW.out hb2)
      clear hb2 c0
      by_cases hlt : (k : Int) < q
      · have HI := Lib.hid (HIH.out (a + 1 + x) w2 (by omega) (HT.out.keep HB2.out))
        obtain ⟨z, hz⟩ : ∃ z, z = endA l ((a + 1 + x : Nat) : Int) := ⟨_, rfl⟩
        have HZ := Lib.hid hz
        rw [← hz] at HI
        obtain ⟨p, hp⟩ : ∃ p : Nat, p = a + 1 + x := ⟨_, rfl⟩
        rw [← hp] at HI
        have HP := Lib.hid hp
        obtain ⟨v, hv⟩ : ∃ v, v = Value.int .i64 ((a + 1 + x : Nat) : Int) := ⟨_, rfl⟩
        clear hz
        rw [← HP.out] at hv ⊢
        clear hp hv
        go_wp2_with (go_at_call 43; (with_reducible refine (HI.out).mono ?_))
        rintro e w3 ⟨rfl, hb3⟩
        by_cases hz0 : z < 0
        · go_wp2_with fail
          go_ret
          exact ⟨ret_int (HB.out k x h0' hlt HXc.out (by rw [← HZ.out]; exact hz0)).symm, below_two' HB2.out hb3⟩
        · go_wp2_with fail
          go_roundw
          case rel =>
            obtain ⟨x', hx', hc'⟩ := rend_next HXc.out (by rw [← HZ.out]; omega)
            exact ⟨k + 1, x', by omega, by simp, by rw [HZ.out, hx'], hc', below_two' HB2.out hb3⟩
          case measure => simp [intOf]; omega
      · go_wp2_with fail
        go_ret
        exact ⟨ret_int (HD.out k x h0' (by omega) HXc.out).symm, HB2.out⟩

theorem rend_all (A : Option Addr) (n c : Nat) (l : List Tm) (hn : n = l.length) (hn62 : n ≤ 4611686018427387903) (K : Nat) : RIH A n c l K := by
  induction K with
  | zero => exact fun a w h _ => rend_out A n c l a w hn (.inr (by omega))
  | succ K ih =>
    intro a w hK h
    by_cases ha : a < n
    · exact rend_step A n c l K hn hn62 ih a w hK ha h
    · exact rend_out A n c l a w hn (.inr (by omega))
theorem rend_any (A : Option Addr) (n c : Nat) (l : List Tm) (a : Int) (w : World) (h : Tms w (.slice A n c) l) (hn : n = l.length) (hn62 : n ≤ 4611686018427387903) :
    Calls Try.prog 43 #[.slice A n c, .int .i64 a] w (RetI w (endA l a)) := by
  by_cases h0 : a < 0
  · exact rend_out A n c l a w hn (.inl h0)
  · obtain ⟨k, rfl⟩ := Int.eq_ofNat_of_zero_le (Int.not_lt.1 h0)
    exact rend_all A n c l hn hn62 n k w (by omega) h
end Go.Proofs.Ytbkgkdfameojfaa
