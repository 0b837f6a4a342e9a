/- The walks of layer 5's three laws: they return true, and what was in memory stays. Condition: the arguments are such. -/
import Derived.Test.YtdoiimifdiffiaaTermAwake
namespace Go.Proofs.Ytdoiimifdiffiaa
open Go.RowKit TermSpec

def RetInts' (W : World) (l : List Int) (e : Ending) (w' : World) : Prop := ∃ A c, e = .returned (.slice A l.length c) ∧ Rd w' (.slice A l.length c) (intV l) ∧ Below W.heap.size W w'
theorem retInts_shape {W w' : World} {l : List Int} {e : Ending} (h : RetInts W l e w') : RetInts' W l e w' := by
  obtain ⟨v, rfl, hr, hb⟩ := h
  obtain ⟨A, n, c, rfl, hn, hc, _⟩ := hr.ints
  subst hn
  exact ⟨A, c, rfl, hr, hb⟩
def RetStrs' (W : World) (l : List ByteArray) (e : Ending) (w' : World) : Prop := ∃ A c, e = .returned (.slice A l.length c) ∧ Rd w' (.slice A l.length c) (strV l) ∧ Below W.heap.size W w'
theorem retStrs_shape {W w' : World} {l : List ByteArray} {e : Ending} (h : RetStrs W l e w') : RetStrs' W l e w' := by
  obtain ⟨v, rfl, hr, hb⟩ := h
  obtain ⟨A, n, c, rfl, hn, hc, _⟩ := hr.strs
  subst hn
  exact ⟨A, c, rfl, hr, hb⟩
theorem sameI_self (a : List Int) : sameI a a = true := decide_eq_true rfl
theorem sameS_self (a : List ByteArray) : sameS a a = true := decide_eq_true rfl
theorem same_yes (v u : Value) (a : List Int) (w : World) (h : Rd w v (intV a)) (h' : Rd w u (intV a)) (hm : a.length ≤ 9223372036854775807) :
    Calls Try.prog 13 #[v, u] w (RetB w true) := (same_any v u a a w h h' hm).mono fun e w' k => by
  have := k.below
  rwa [sameI_self] at this
theorem texts_yes (v u : Value) (a : List ByteArray) (w : World) (h : Rd w v (strV a)) (h' : Rd w u (strV a)) (hm : a.length ≤ 9223372036854775807) :
    Calls Try.prog 22 #[v, u] w (RetB w true) := (texts_any v u a a w h h' hm).mono fun e w' k => by
  have := k.below
  rwa [sameS_self] at this

theorem belows_len2 (l : List Tm) (a : Int) : (belowsE l a).length ≤ 2 := by
  unfold belowsE
  split
  · simp
  · rw [belows_length]
    have := (ar_bd ((l[a.toNat]?).elim 0 (·.op))).2
    unfold arN
    omega
theorem rbelow_E (A : Option Addr) (n c : Nat) (l : List Tm) (a : Int) (w : World) (h : Tms w (.slice A n c) l) (hn : n = l.length) (hn62 : n ≤ 70368744177664) (he : 0 ≤ endA l a) :
    Calls Try.prog 14 #[.slice A n c, .int .i64 a] w (RetInts w (belowsE l a)) := by
  obtain ⟨k, m, rfl, hc, _, _, _⟩ := endA_nn he
  obtain ⟨t, _, ht, _⟩ := first_of hc
  rw [belowsE_yes he ht]
  exact rbelow_any A n c l k w h hn hn62 t ht he

set_option maxRecDepth 100000 in
set_option maxHeartbeats 2000000 in
theorem walk_TermEnds (A : Option Addr) (n c : Nat) (l : List Tm) (a o : Int) (w : World) (h : Tms w (.slice A n c) l) (hn : n = l.length) (hs : Small l) (hn63 : n ≤ 9223372036854775807) (_ : (Lit.int .i64 a).wf = true) (_ : (Lit.int .i64 o).wf = true) :
    Calls Try.prog 3 #[.slice A n c, .int .i64 a, .int .i64 o] w fun e w' => e = .returned (.bool true) ∧ Below w.heap.size w w' := by
  have HL := Lib.hid (light_any A n c l hn hn63 w h)
  have HAw := Lib.hid awake_any
  cases hli : lightB l with
  | false =>
    rw [hli] at HL
    clear h hn hs hli
    go_enter Try.func3, Try.ntmps3
    go_wp2_with (first
      | (go_at_call 6; (with_reducible refine HL.out.mono ?_); rintro e w' ⟨rfl, rfl⟩)
      | (go_at_call 7; (with_reducible refine (HAw.out _).mono ?_)))
    rintro e w1 ⟨rfl, hb1⟩
    go_wp2_with fail
    go_ret
    exact ⟨rfl, hb1⟩
  | true =>
    rw [hli] at HL
    have hlen := (light_few hli).1
    have HE := Lib.hid (end_any A n c l a w h hn (by omega))
    have HB := Lib.hid (below_any A n c l a w h hn (by omega))
    have HRE := Lib.hid (fun w h => rend_any A n c l a w h hn (by omega))
    have HRB := Lib.hid (fun w h he => rbelow_E A n c l a w h hn (by omega) he)
    have hl2 := belows_len2 l a
    have hno := fun h => belowsE_no (l := l) (a := a) h
    have HAr := Lib.hid (arity_any o)
    have HRAr := Lib.hid (rarity_any o)
    obtain ⟨z, hz⟩ : ∃ z, z = ar o := ⟨_, rfl⟩
    rw [← hz] at HAr HRAr
    obtain ⟨r, hr⟩ : ∃ r, r = endA l a := ⟨_, rfl⟩
    rw [← hr] at HE HRE HRB hno
    obtain ⟨bs, hbs⟩ : ∃ bs, bs = belowsE l a := ⟨_, rfl⟩
    rw [← hbs] at HB HRB hl2 hno
    have HT := Lib.hid h
    have HNO := Lib.hid hno
    clear h hn hs hli hlen hz hr hbs hno
    have g1 : (r != r) = false := by simp
    have g2 : (z != z) = false := by simp
    go_enter Try.func3, Try.ntmps3
    go_wp2_with (first
      | (go_at_call 6; (with_reducible refine HL.out.mono ?_); rintro e w' ⟨rfl, rfl⟩)
      | (go_at_call 8; (with_reducible refine HE.out.mono ?_); rintro e w' ⟨rfl, rfl⟩)
      | (go_at_call 9; (with_reducible refine HB.out.mono ?_)))
    intro e w1 hret
    obtain ⟨A1, c1, rfl, hrd1, hb1⟩ := retInts_shape hret
    have HT1 := Lib.hid (HT.out.keep hb1)
    have HR1 := Lib.hid hrd1
    have HB1 := Lib.hid hb1
    clear hret hb1 hrd1
    go_wp2_with (go_at_call 10; (with_reducible refine (HRE.out _ HT1.out).mono ?_))
    rintro e w2 ⟨rfl, hb2⟩
    have HT2 := Lib.hid (HT1.out.keep hb2)
    have HR2 := Lib.hid (HR1.out.keep hb2)
    have HB2 := Lib.hid (below_two' HB1.out hb2)
    clear hb2
    go_wp2_with (first
      | (go_at_call 11; (with_reducible refine (HAr.out _).mono ?_); rintro e w' ⟨rfl, rfl⟩)
      | (go_at_call 12; (with_reducible refine (HRAr.out _).mono ?_)))
    rintro e w3 ⟨rfl, hb3⟩
    have HT3 := Lib.hid (HT2.out.keep hb3)
    have HR3 := Lib.hid (HR2.out.keep hb3)
    have HB3 := Lib.hid (below_two' HB2.out hb3)
    clear hb3
    by_cases hr0 : r < 0
    · have hnil := HNO.out hr0
      subst hnil
      go_wp2_with (go_at_call 7; (with_reducible refine (HAw.out _).mono ?_))
      rintro e w4 ⟨rfl, hb4⟩
      go_wp2_with fail
      go_ret
      exact ⟨rfl, below_two' HB3.out hb4⟩
    · have HRBB := Lib.hid (HRB.out _ HT3.out (by omega))
      go_wp2_with (go_at_call 14; (with_reducible refine HRBB.out.mono ?_))
      intro e w4 hret
      obtain ⟨A2, c2, rfl, hrd2, hb4⟩ := retInts_shape hret
      have HR4 := Lib.hid (HR3.out.keep hb4)
      have HS := Lib.hid (same_yes _ _ bs w4 HR4.out hrd2 (by omega))
      have HB4 := Lib.hid (below_two' HB3.out hb4)
      clear hret hb4 hrd2
      go_wp2_with (go_at_call 13; (with_reducible refine HS.out.mono ?_))
      rintro e w5 ⟨rfl, hb5⟩
      have HB5 := Lib.hid (below_two' HB4.out hb5)
      clear hb5
      go_wp2_with (go_at_call 7; (with_reducible refine (HAw.out _).mono ?_))
      rintro e w6 ⟨rfl, hb6⟩
      go_wp2_with fail
      go_ret
      exact ⟨rfl, below_two' HB5.out hb6⟩
end Go.Proofs.Ytdoiimifdiffiaa
