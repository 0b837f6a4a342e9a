/- ExprSame, joined. -/
import Derived.Test.YtffdfajlfgeicaaDoorMTermA
namespace Go.Proofs.YtffdfajlfgeicaaDoor
open Go.RowKit TermSpec Go.BigFrame
set_option maxRecDepth 100000

def TmSameRel (W : World) (n : Nat) (v : Value) (w : World) : Prop := ∃ k : Nat, k ≤ n ∧ v = .int .i64 k ∧ Below W.heap.size W w
set_option maxHeartbeats 2000000 in
theorem tmsame_any (A1 A2 : Option Addr) (n1 n2 c1 c2 : Nat) (l : List Tm) (w : World) (h1 : Tms w (.slice A1 n1 c1) l) (h2 : Tms w (.slice A2 n2 c2) l) (hn1 : n1 = l.length) (hn2 : n2 = l.length) (hm : n1 ≤ 9223372036854775806) :
    Calls Tryd.prog 10 #[.slice A1 n1 c1, .slice A2 n2 c2] w (RetB w true) := by
  obtain rfl : n2 = n1 := hn2.trans hn1.symm
  have HT := Lib.hid (And.intro h1 h2)
  have HN := Lib.hid hn1
  clear h1 h2 hn1 hn2
  go_enter Tryd.func10, Tryd.ntmps10
  go_wp2_with fail
  go_loopw [5] (fun v wr => TmSameRel w n2 v wr) (fun v _ => n2 - (intOf v).toNat)
  case atStart => exact ⟨0, Nat.zero_le _, rfl, Below.refl _ _⟩
  case round =>
    obtain ⟨k, hk, rfl, hbw⟩ := hrel
    by_cases hlt : k < n2
    · obtain ⟨t, ht⟩ : ∃ t, l[k]? = some t := get_some (by rw [← HN.out]; exact hlt)
      obtain ⟨b1, off1, rfl, hb1, x0, x1, x2⟩ := (HT.out.1.keep hbw).at_ ht
      obtain ⟨b2, off2, rfl, hb2, y0, y1, y2⟩ := (HT.out.2.keep hbw).at_ ht
      obtain ⟨o, ho⟩ : ∃ o, o = t.op := ⟨_, rfl⟩
      obtain ⟨nn, hnn⟩ : ∃ nn, nn = t.n := ⟨_, rfl⟩
      obtain ⟨s, hs⟩ : ∃ s, s = t.s := ⟨_, rfl⟩
      rw [← ho] at x0 y0
      rw [← hnn] at x1 y1
      rw [← hs] at x2 y2
      have hltI : (k : Int) < (n2 : Int) := by omega
      have HW := Lib.hid hbw
      clear ho hnn hs ht hbw
      go_wp2_with fail
      go_big_quiet (fail)
      go_wp2_with fail
      go_roundw
      case rel => exact ⟨k + 1, hlt, by simp, below_drewN HW.out _⟩
      case measure => simp [intOf]; omega
    · go_wp2_with fail
      go_ret
      exact ⟨rfl, hbw⟩
end Go.Proofs.YtffdfajlfgeicaaDoor
