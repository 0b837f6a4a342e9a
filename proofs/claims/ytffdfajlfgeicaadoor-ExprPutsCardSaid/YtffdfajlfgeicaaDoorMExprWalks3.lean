/- ExprWalks3, joined. -/
import Derived.Test.YtffdfajlfgeicaaDoorMExprWalks
import Derived.Test.YtffdfajlfgeicaaDoorMExprScan
namespace Go.Proofs.YtffdfajlfgeicaaDoor
open Go.RowKit CurSpec TermSpec ExprSpec ScanSpec
set_option maxRecDepth 100000

theorem parse_chk {s : ByteArray} (h : (parseP s).2 = 0) : chk (parseP s).1 = 0 := by
  unfold parseP at h ⊢
  by_cases hs : (scanT s.data.toList).2.2 = 0
  · rw [if_neg (fun h => h hs)] at h ⊢
    unfold endP at h ⊢
    by_cases hw : (want (readP ((tkAll s).length + 1) (cur0 (tkAll s))).1 0 ⟨#[]⟩).bad = 0
    · rw [if_neg (fun h => h hw)]
      have hb := (isB_next (want_good hw).1).1
      dsimp only
      unfold readP at hb ⊢
      dsimp only at hb ⊢
      by_cases h0 : (S ((tkAll s).length + 1) (cur0 (tkAll s)) 1).1.bad = 0
      · rw [if_pos h0] at hb ⊢
        by_cases hk : chk (S ((tkAll s).length + 1) (cur0 (tkAll s)) 1).2 = 0
        · dsimp only
          rw [if_pos hk]
          exact hk
        · dsimp only at hb
          rw [fail_yes h0 hk] at hb
          exact absurd hb hk
      · rw [if_neg h0] at hb
        exact absurd hb h0
    · rw [if_pos hw] at h
      exact absurd h hw
  · rw [if_pos hs] at h
    exact absurd h hs
theorem empty_small : (⟨#[]⟩ : ByteArray).size ≤ 9223372036854775807 := by decide
theorem small_flat : ∀ {e : Ex}, ExprSpec.Good e → Small (flat e)
  | .leaf t, h => by
    intro x hx
    rw [show flat (.leaf t) = [t] from rfl, List.mem_singleton] at hx
    subst hx
    rcases leaf_ops h.1 with h1 | h1 | h1 | h1 | h1
    · rw [(may_num h1 h.2).2]; exact empty_small
    · have := name_size (ExprSpec.may_name (.inl h1) h.2).1
      omega
    · rw [may_word (.inl h1) h.2]; exact empty_small
    · rw [may_word (.inr h1) h.2]; exact empty_small
    · have := name_size (ExprSpec.may_name (.inr h1) h.2).1
      omega
  | .un o a, h => by
    intro x hx
    rw [show flat (.un o a) = opT o :: flat a from rfl, List.mem_cons] at hx
    rcases hx with rfl | hx
    · exact empty_small
    · exact small_flat h.2 x hx
  | .bin o a b, h => by
    intro x hx
    rw [show flat (.bin o a b) = opT o :: (flat a ++ flat b) from rfl, List.mem_cons, List.mem_append] at hx
    rcases hx with rfl | hx | hx
    · exact empty_small
    · exact small_flat h.2.1 x hx
    · exact small_flat h.2.2 x hx
/-- The contracts of Put and Parse at an expression that may be. -/
theorem put_tree {e : Ex} (hg : ExprSpec.Good e) (hk : chk (flat e) = 0) (A : Option Addr) (n c : Nat) (w : World) (hs : SignsIn w) (ht : Tms w (.slice A n c) (flat e)) (hn : n = (flat e).length) : Calls Tryd.prog 17 #[.slice A n c] w (RetPut w (tx e) 0) :=
  put_ok A n c (flat e) w ht hn (small_flat hg) hs rfl hg hk (wholeB_iff.1 (chk_ok hk).1).1
theorem parse_tree {e : Ex} (hg : ExprSpec.Good e) (hk : chk (flat e) = 0) (w : World) (hp : PairsIn w) (hs : SignsIn w) : Calls Tryd.prog 8 #[.string (tx e)] w (RetParse w (flat e, 0)) := by
  have h40 : (flat e).length ≤ 40 := (wholeB_iff.1 (chk_ok hk).1).1
  have hz := tx_size hg
  have := parse_any (tx e) w hp hs (by omega)
  rwa [parse_tx hg hk] at this

set_option maxHeartbeats 4000000 in
theorem walk_ExprForms (s : ByteArray) (w : World) (hp : PairsIn w) (hs : SignsIn w) (hz : s.size ≤ maxLen) :
    Calls Tryd.prog 6 #[.string s] w fun e w' => e = .returned (.bool true) ∧ Below w.heap.size w w' := by
  have HAw : Hid (∀ W, Below w.heap.size w W → Calls Tryd.prog 7 #[] W (RetB W true)) := Lib.hid (fun W hW => awake_any W (hp.keep hW) (hs.keep hW))
  by_cases hl : 400 < s.size
  · have hl' : (400 : Int) < (s.size : Int) := by omega
    clear hz hp hs
    go_enter Tryd.func6, Tryd.ntmps6
    go_wp2_with (go_at_call 7; (with_reducible refine (HAw.out w (Below.refl _ _)).mono ?_))
    rintro e w1 ⟨rfl, hb1⟩
    have HB := Lib.hid hb1
    clear hb1
    go_wp2_with fail
    go_ret
    exact ⟨rfl, HB.out⟩
  · have hl' : ¬ (400 : Int) < (s.size : Int) := by omega
    have HPA := Lib.hid (parse_any s w hp hs (by omega))
    have hck := parse_chk (s := s)
    obtain ⟨r, hr⟩ : ∃ r, r = parseP s := ⟨_, rfl⟩
    rw [← hr] at HPA hck
    clear hr hz hl
    by_cases h0 : r.2 = 0
    · obtain ⟨x, hx, hg, h40⟩ := tree_of (hck h0)
      have hk : chk (flat x) = 0 := by rw [hx]; exact hck h0
      have HPA' : Hid (Calls Tryd.prog 8 #[.string s] w (RetParse w (flat x, 0))) := Lib.hid (by
        have := HPA.out
        rwa [show r = (flat x, 0) from Prod.ext hx.symm h0] at this)
      have HPUT := Lib.hid (fun A n c W (hW : Below w.heap.size w W) => put_tree hg hk A n c W (hs.keep hW))
      have HPAR := Lib.hid (fun W (hW : Below w.heap.size w W) => parse_tree hg hk W (hp.keep hW) (hs.keep hW))
      obtain ⟨t, ht⟩ : ∃ t, t = tx x := ⟨_, rfl⟩
      rw [← ht] at HPUT HPAR
      obtain ⟨l, hll⟩ : ∃ l, l = flat x := ⟨_, rfl⟩
      rw [← hll] at HPUT HPAR HPA'
      have HLL : Hid (l.length ≤ 40) := Lib.hid (by rw [hll, hx]; exact h40)
      have g1 : (t.toList == t.toList) = true := by simp
      clear hx hg h40 hk ht hll HPA hck h0 hp hs
      go_enter Tryd.func6, Tryd.ntmps6
      go_wp2_with (go_at_call 8; (with_reducible refine HPA'.out.mono ?_))
      rintro e w1 ⟨A1, n1, c1, rfl, ht1, hn1, hb1⟩
      have HT1 := Lib.hid (And.intro ht1 hn1)
      have HB1 := Lib.hid hb1
      clear ht1 hn1 hb1
      go_wp2_with (go_at_call 17; (with_reducible refine (HPUT.out _ _ _ w1 HB1.out HT1.out.1 HT1.out.2).mono ?_))
      rintro e w2 ⟨rfl, hb2⟩
      have HT2 := Lib.hid (HT1.out.1.keep hb2)
      have HB2 := Lib.hid (below_two' HB1.out hb2)
      clear hb2
      go_wp2_with (go_at_call 8; (with_reducible refine (HPAR.out w2 HB2.out).mono ?_))
      rintro e w3 ⟨A3, n3, c3, rfl, ht3, hn3, hb3⟩
      have HT3 := Lib.hid (And.intro (HT2.out.keep hb3) (And.intro ht3 hn3))
      have HB3 := Lib.hid (below_two' HB2.out hb3)
      clear ht3 hn3 hb3
      go_wp2_with (go_at_call 17; (with_reducible refine (HPUT.out _ _ _ w3 HB3.out HT3.out.2.1 HT3.out.2.2).mono ?_))
      rintro e w4 ⟨rfl, hb4⟩
      have HSM := Lib.hid (tmsame_any A1 A3 n1 n3 c1 c3 l w4 (HT3.out.1.keep hb4) (HT3.out.2.1.keep hb4) HT1.out.2 HT3.out.2.2 (by have := HLL.out; have := HT1.out.2; omega))
      have HB4 := Lib.hid (below_two' HB3.out hb4)
      clear hb4
      go_wp2_with (go_at_call 10; (with_reducible refine HSM.out.mono ?_))
      rintro e w5 ⟨rfl, hb5⟩
      have HB5 := Lib.hid (below_two' HB4.out hb5)
      clear hb5
      go_wp2_with (go_at_call 7; (with_reducible refine (HAw.out _ HB5.out).mono ?_))
      rintro e w6 ⟨rfl, hb6⟩
      have HB6 := Lib.hid (below_two' HB5.out hb6)
      clear hb6
      go_wp2_with fail
      go_ret
      exact ⟨rfl, HB6.out⟩
    · have e1 : (r.2 != 0) = true := by simpa using h0
      clear hck hp hs h0
      go_enter Tryd.func6, Tryd.ntmps6
      go_wp2_with (go_at_call 8; (with_reducible refine HPA.out.mono ?_))
      rintro e w1 ⟨A1, n1, c1, rfl, ht1, hn1, hb1⟩
      have HB1 := Lib.hid hb1
      clear ht1 hn1 hb1
      go_wp2_with (go_at_call 7; (with_reducible refine (HAw.out _ HB1.out).mono ?_))
      rintro e w2 ⟨rfl, hb2⟩
      have HB2 := Lib.hid (below_two' HB1.out hb2)
      clear hb2
      go_wp2_with fail
      go_ret
      exact ⟨rfl, HB2.out⟩
end Go.Proofs.YtffdfajlfgeicaaDoor
