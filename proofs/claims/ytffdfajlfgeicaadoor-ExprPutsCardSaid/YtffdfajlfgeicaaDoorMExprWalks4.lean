/- ExprWalks4, joined. -/
import Derived.Test.YtffdfajlfgeicaaDoorMExprWalks3
import Derived.Test.YtffdfajlfgeicaaDoorMExprRefPutB
namespace Go.Proofs.YtffdfajlfgeicaaDoor
open Go.RowKit CurSpec TermSpec ExprSpec ScanSpec
set_option maxRecDepth 100000

set_option maxHeartbeats 4000000 in
theorem walk_ExprPuts (A : Option Addr) (n c : Nat) (l : List Tm) (w : World) (hp : PairsIn w) (hs : SignsIn w) (h : Tms w (.slice A n c) l) (hn : n = l.length) (hsm : Small l) (hn63 : n ≤ 9223372036854775807) :
    Calls Tryd.prog 5 #[.slice A n c] w fun e w' => e = .returned (.bool true) ∧ Below w.heap.size w w' := by
  have HAw : Hid (∀ W, Below w.heap.size w W → Calls Tryd.prog 7 #[] W (RetB W true)) := Lib.hid (fun W hW => awake_any W (hp.keep hW) (hs.keep hW))
  by_cases h100 : 100 < n
  · have h100' : (100 : Int) < (n : Int) := by omega
    clear h hn hsm hp hs hn63
    go_enter Tryd.func5, Tryd.ntmps5
    go_wp2_with (go_at_call 7; (with_reducible refine (HAw.out w (Below.refl _ _)).mono ?_))
    rintro e w1 ⟨rfl, hb1⟩
    have HB := Lib.hid hb1
    clear hb1
    go_wp2_with fail
    go_ret
    exact ⟨rfl, HB.out⟩
  · have h100' : ¬ (100 : Int) < (n : Int) := by omega
    have HCH := Lib.hid (fun W (hW : Below w.heap.size w W) => rcheck_any A n c l hn (by omega) hsm W (h.keep hW))
    by_cases hk : chk l = 0
    · obtain ⟨x, hx, hg, h40⟩ := tree_of hk
      have hkx : chk (flat x) = 0 := by rw [hx]; exact hk
      have HPUT : Hid (Calls Tryd.prog 17 #[.slice A n c] w (RetPut w (tx x) 0)) := Lib.hid (put_tree hg hkx A n c w hs (by rw [hx]; exact h) (by rw [hx]; exact hn))
      have HRP : Hid (∀ W, Below w.heap.size w W → Calls Tryd.prog 19 #[.slice A n c, .int .i64 0, .int .i64 1] W (RetS W (tx x))) := Lib.hid (fun W hW => by
        have := rput_all x hg A n c l 0 [] 1 W ⟨h.keep hW, hn, by omega, hs.keep hW⟩ (by rw [hx]; simp)
        rwa [show bk (lev x < 1) (tx x) = tx x from if_neg (by have := (lev_pos hg).1; omega)] at this)
      have HPAR := Lib.hid (fun W (hW : Below w.heap.size w W) => parse_tree hg hkx W (hp.keep hW) (hs.keep hW))
      rw [hx] at HPAR
      rw [hk] at HCH
      have HT := Lib.hid (And.intro h hn)
      obtain ⟨t, ht⟩ : ∃ t, t = tx x := ⟨_, rfl⟩
      rw [← ht] at HPUT HPAR HRP
      have g1 : (t.toList == t.toList) = true := by simp
      clear hx hg h40 hkx ht hk h hn hsm hp hs h100 hn63
      go_enter Tryd.func5, Tryd.ntmps5
      go_wp2_with (go_at_call 17; (with_reducible refine HPUT.out.mono ?_))
      rintro e w1 ⟨rfl, hb1⟩
      have HB1 := Lib.hid hb1
      clear hb1
      go_wp2_with (go_at_call 18; (with_reducible refine (HCH.out _ HB1.out).mono ?_))
      rintro e w2 ⟨rfl, hb2⟩
      have HB2 := Lib.hid (below_two' HB1.out hb2)
      clear hb2
      go_wp2_with (go_at_call 8; (with_reducible refine (HPAR.out _ HB2.out).mono ?_))
      rintro e w3 ⟨A3, n3, c3, rfl, ht3, hn3, hb3⟩
      have HB3 := Lib.hid (below_two' HB2.out hb3)
      have HT3 := Lib.hid (And.intro ht3 hn3)
      clear ht3 hn3 hb3
      go_wp2_with (go_at_call 19; (with_reducible refine (HRP.out _ HB3.out).mono ?_))
      rintro e w4 ⟨rfl, hb4⟩
      have HB4 := Lib.hid (below_two' HB3.out hb4)
      have HSM := Lib.hid (tmsame_any A3 A n3 n c3 c l w4 (HT3.out.1.keep hb4) (HT.out.1.keep HB4.out) HT3.out.2 HT.out.2 (by have h1 := HT3.out.2; have h2 := HT.out.2; omega))
      clear hb4
      go_wp2_with (go_at_call 10; (with_reducible refine HSM.out.mono ?_))
      rintro e w5 ⟨rfl, hb5⟩
      have HB5 := Lib.hid (below_two' HB4.out hb5)
      clear hb5
      go_wp2_with (go_at_call 7; (with_reducible refine (HAw.out _ HB5.out).mono ?_))
      rintro e w6 ⟨rfl, hb6⟩
      have HB6 := Lib.hid (below_two' HB5.out hb6)
      clear hb6
      go_wp2_with fail
      go_ret
      exact ⟨rfl, HB6.out⟩
    · have HPUT := Lib.hid (put_bad A n c l w h hn (by omega) hsm hk)
      obtain ⟨k, hkk⟩ : ∃ k, k = chk l := ⟨_, rfl⟩
      rw [← hkk] at HPUT HCH hk
      have e1 : (k != 0) = true := by simpa using hk
      clear hkk hk h hn hsm hp hs h100 hn63
      go_enter Tryd.func5, Tryd.ntmps5
      go_wp2_with (go_at_call 17; (with_reducible refine HPUT.out.mono ?_))
      rintro e w1 ⟨rfl, hb1⟩
      have HB1 := Lib.hid hb1
      clear hb1
      go_wp2_with (go_at_call 18; (with_reducible refine (HCH.out _ HB1.out).mono ?_))
      rintro e w2 ⟨rfl, hb2⟩
      have HB2 := Lib.hid (below_two' HB1.out hb2)
      clear hb2
      go_wp2_with (go_at_call 7; (with_reducible refine (HAw.out _ HB2.out).mono ?_))
      rintro e w3 ⟨rfl, hb3⟩
      have HB3 := Lib.hid (below_two' HB2.out hb3)
      clear hb3
      go_wp2_with fail
      go_ret
      exact ⟨rfl, HB3.out⟩
end Go.Proofs.YtffdfajlfgeicaaDoor
