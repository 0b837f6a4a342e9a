/- ExprPutW, joined. -/
import Derived.Test.YtffdfajlfgeicaaDoorMExprTextW
import Derived.Test.YtffdfajlfgeicaaDoorMTermA
namespace Go.Proofs.YtffdfajlfgeicaaDoor
open Go.RowKit CurSpec TermSpec ExprSpec
set_option maxRecDepth 100000

def RetPut (W : World) (s : ByteArray) (k : Int) (e : Ending) (w' : World) : Prop := e = .returned (.tuple #[.string s, .int .i64 k]) ∧ Below W.heap.size W w'
theorem tree_of {l : List Tm} (h : chk l = 0) : ∃ e, flat e = l ∧ ExprSpec.Good e ∧ l.length ≤ 40 := by
  obtain ⟨hw, hm, -⟩ := chk_ok h
  obtain ⟨h40, hc⟩ := wholeB_iff.1 hw
  obtain ⟨e, he, hg⟩ := ex_of ⟨hc, hm⟩
  exact ⟨e, he, hg, h40⟩
theorem put_bad (A : Option Addr) (n c : Nat) (l : List Tm) (w : World) (ht : Tms w (.slice A n c) l) (hn : n = l.length) (hn62 : n ≤ 70368744177664) (hs : Small l) (hk : chk l ≠ 0) :
    Calls Tryd.prog 17 #[.slice A n c] w (RetPut w ⟨#[]⟩ (chk l)) := by
  have HC := Lib.hid (check_any A n c l hn hn62 hs w ht)
  obtain ⟨k, hkk⟩ : ∃ k, k = chk l := ⟨_, rfl⟩
  rw [← hkk] at HC hk ⊢
  have e1 : (k != 0) = true := by simpa using hk
  clear ht hn hn62 hs hkk hk
  go_enter Tryd.func17, Tryd.ntmps17
  go_wp2_with (go_at_call 26; (with_reducible refine HC.out.mono ?_))
  rintro e w1 ⟨rfl, hb1⟩
  have HB := Lib.hid hb1
  clear hb1
  go_wp2_with fail
  go_ret2
  exact ⟨rfl, HB.out⟩
theorem put_ok (A : Option Addr) (n c : Nat) (l : List Tm) (w : World) (ht : Tms w (.slice A n c) l) (hn : n = l.length) (hs : Small l) (hg : SignsIn w) {x : Ex} (hx : flat x = l) (hgx : ExprSpec.Good x) (hk : chk l = 0) (h40 : l.length ≤ 40) :
    Calls Tryd.prog 17 #[.slice A n c] w (RetPut w (tx x) 0) := by
  have HC := Lib.hid (check_any A n c l hn (by omega) hs w ht)
  rw [hk] at HC
  have HT : Hid (∀ w1, Below w.heap.size w w1 → Calls Tryd.prog 31 #[.slice A n c, .int .i64 0] w1 (RetS w1 (tx x))) := Lib.hid (fun w1 (hb : Below w.heap.size w w1) => text_all x hgx A n c l 0 [] w1 ⟨ht.keep hb, hn, by omega, hg.keep hb⟩ (by rw [hx]; simp))
  clear ht hn hs hg hx hgx hk h40
  go_enter Tryd.func17, Tryd.ntmps17
  go_wp2_with (go_at_call 26; (with_reducible refine HC.out.mono ?_))
  rintro e w1 ⟨rfl, hb1⟩
  have HB := Lib.hid hb1
  clear hb1
  go_wp2_with (go_at_call 31; (with_reducible refine (HT.out _ HB.out).mono ?_))
  rintro e w2 ⟨rfl, hb2⟩
  have HB2 := Lib.hid (below_two' HB.out hb2)
  clear hb2
  go_wp2_with fail
  go_ret2
  exact ⟨rfl, HB2.out⟩
end Go.Proofs.YtffdfajlfgeicaaDoor
