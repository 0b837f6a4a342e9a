/- ExprRefLevel, joined. -/
import Derived.Test.YtffdfajlfgeicaaDoorMExprRef
import Derived.Test.YtffdfajlfgeicaaDoorMExprText
namespace Go.Proofs.YtffdfajlfgeicaaDoor
open Go.RowKit CurSpec TermSpec ExprSpec NamesSpec
set_option maxRecDepth 100000

theorem levO_sign {o : Int} {s : Sg} (hs : s ∈ sgs) (ho : s.op = o) : levO o = s.lev := by
  subst ho
  unfold sgs at hs
  simp only [List.mem_cons, List.not_mem_nil, or_false] at hs
  rcases hs with rfl | rfl | rfl | rfl | rfl | rfl | rfl | rfl | rfl | rfl | rfl <;> rfl
theorem sig_mem {k : Int} {j : Nat} {x : Int} (h : (sigO k)[j]? = some x) : ∃ s ∈ sgs, s.lev = k ∧ s.op = x := by
  unfold sigO lvl at h
  have := List.mem_of_getElem? h
  obtain ⟨s, hs, he⟩ := List.mem_map.1 this
  rw [List.mem_filter] at hs
  exact ⟨s, hs.1, by simpa using hs.2, he⟩
theorem sig_all {k : Int} {s : Sg} (hs : s ∈ sgs) (hk : s.lev = k) : s.op ∈ sigO k := by
  unfold sigO lvl
  rw [List.mem_map]
  exact ⟨s, List.mem_filter.2 ⟨hs, by simpa using hk⟩, rfl⟩
theorem sig_few (k : Int) : (sigO k).length ≤ 11 := by
  unfold sigO lvl
  rw [List.length_map]
  exact Nat.le_trans (List.length_filter_le _ _) (by decide)
def LvoRel (W : World) (o : Int) (v : Value) (w : World) : Prop := ∃ k : Nat, 1 ≤ k ∧ k ≤ 7 ∧ v = .int .i64 k ∧ (∀ s ∈ sgs, s.op = o → (k : Int) ≤ s.lev) ∧ Below W.heap.size W w
def LviRel (W : World) (l : List Int) (n : Nat) (o : Int) (v : Value) (w : World) : Prop := ∃ j : Nat, j ≤ n ∧ v = .int .i64 j ∧ (∀ x ∈ l.take j, x ≠ o) ∧ Below W.heap.size W w
theorem rlv_last {o : Int} (h : ∀ s ∈ sgs, s.op = o → (7 : Int) ≤ s.lev) (ho : 0 ≤ ar o) : levO o = if o = 12 then 3 else if o = 3 then 7 else 8 := by
  have hno : ∀ s ∈ sgs, s.op ≠ o := fun s hs he => by have := h s hs he; have := (sgs_all s hs).2.2.1; omega
  by_cases h8 : o = 1 ∨ o = 2 ∨ o = 9 ∨ o = 10 ∨ o = 11 ∨ o = 7 ∨ o = 8
  · rw [show levO o = 8 from if_pos h8, if_neg (by omega), if_neg (by omega)]
  · by_cases h12 : o = 12
    · subst h12; rfl
    · by_cases h3 : o = 3
      · subst h3; rfl
      · exfalso
        have h2 : ar o = 2 := by
          unfold ar at ho ⊢
          split at ho
          · omega
          · split at ho
            · omega
            · split at ho
              · rename_i a b c
                rw [if_neg a, if_neg b, if_pos c]
              · omega
        have := sgOf_mem h2 (by omega)
        exact hno _ this.1 this.2

set_option maxHeartbeats 4000000 in
theorem rlevel_any (o : Int) (w : World) (ho : 0 ≤ ar o) : Calls Tryd.prog 34 #[.int .i64 o] w (RetI w (levO o)) := by
  have HO := Lib.hid ho
  clear ho
  go_enter Tryd.func34, Tryd.ntmps34
  go_wp2_with fail
  go_loopw [3] (fun v wr => LvoRel w o v wr) (fun v _ => 8 - (intOf v).toNat)
  case atStart => exact ⟨1, by decide, by decide, rfl, fun s hs _ => by have := (sgs_all s hs).2.2.1; omega, Below.refl _ _⟩
  case round =>
    obtain ⟨k, hk1, hk7, rfl, hno, hbw⟩ := hrel
    have HNO := Lib.hid hno
    have HB := Lib.hid hbw
    clear hno hbw
    by_cases hk : k < 7
    · have g1 : (k : Int) ≤ 6 := by omega
      go_wp2_with (go_at_call 37; (with_reducible refine (signs_say (k : Int) _).mono ?_))
      rintro e w1 ⟨v1, v2, rfl, -, hr2, -, -, hb1⟩
      have hfew := sig_few (k : Int)
      obtain ⟨l, hl⟩ : ∃ l, l = sigO (k : Int) := ⟨_, rfl⟩
      rw [← hl] at hr2 hfew
      obtain ⟨A2, n2, c2, rfl, hn2, hc2, hA2⟩ := hr2.ints
      have HL := Lib.hid hl
      have HA := Lib.hid hA2
      have HB1 := Lib.hid (below_two' HB.out hb1)
      have HN := Lib.hid hn2
      have hn11 : n2 ≤ 11 := by omega
      clear hb1 hl hr2 hA2 hc2 hn2 hfew
      go_wp2_with fail
      go_loopw [6] (fun v wr => LviRel w1 l n2 o v wr) (fun v _ => n2 - (intOf v).toNat)
      case atStart => exact ⟨0, Nat.zero_le _, rfl, by simp, Below.refl _ _⟩
      case round =>
        obtain ⟨j, hj, rfl, hnj, hbj⟩ := hrel
        have HNJ := Lib.hid hnj
        have HBJ := Lib.hid hbj
        clear hnj hbj
        by_cases hlt : j < n2
        · obtain ⟨b, off, rfl, hb, hcell⟩ := HA.out (by omega)
          obtain ⟨x, hx⟩ : ∃ x, l[j]? = some x := get_some (by rw [HN.out]; exact hlt)
          have c0 := (HBJ.out.cell (p := ⟨b, off + j, none⟩) hb).trans (hcell j x hx)
          have HX := Lib.hid hx
          have hltI : (j : Int) < (n2 : Int) := by omega
          clear hx hcell
          by_cases he : x = o
          · have e1 : (x == o) = true := by simpa using he
            have HE := Lib.hid he
            clear he
            go_wp2_with fail
            go_ret
            refine ⟨?_, below_two' HB1.out HBJ.out⟩
            have hx := HX.out
            rw [HL.out] at hx
            obtain ⟨s, hs, hsl, hso⟩ := sig_mem hx
            rw [levO_sign hs (hso.trans HE.out), hsl]
            rfl
          · have e1 : (x == o) = false := by simpa using he
            have HE := Lib.hid he
            clear he
            go_wp2_with fail
            go_roundw
            case rel =>
              refine ⟨j + 1, hlt, by simp, fun y hy => ?_, HBJ.out⟩
              rw [take_next HX.out, List.mem_append, List.mem_singleton] at hy
              rcases hy with hy | rfl
              · exact HNJ.out y hy
              · exact HE.out
            case measure => simp [intOf]; omega
        · obtain rfl : j = n2 := by omega
          have hge : ¬ (j : Int) < (j : Int) := by omega
          go_wp2_with fail
          go_roundw
          case rel =>
            refine ⟨k + 1, by omega, by omega, by simp, fun s hs he => ?_, below_two' HB1.out HBJ.out⟩
            have h1 := HNO.out s hs he
            by_cases h2 : s.lev = (k : Int)
            · exfalso
              have := sig_all hs h2
              rw [← HL.out] at this
              exact HNJ.out s.op (by rw [List.take_of_length_le (by rw [HN.out]; exact Nat.le_refl _)]; exact this) he
            · omega
          case measure => simp [intOf]; omega
    · obtain rfl : k = 7 := by omega
      have HV := Lib.hid (rlv_last HNO.out HO.out)
      by_cases h12 : o = 12
      · subst h12
        go_wp2_with fail
        go_ret
        exact ⟨rfl, HB.out⟩
      · by_cases h3 : o = 3
        · subst h3
          go_wp2_with fail
          go_ret
          exact ⟨rfl, HB.out⟩
        · have HW : Hid (levO o = 8) := Lib.hid (by rw [HV.out, if_neg h12, if_neg h3])
          have e1 : (o == 12) = false := by simpa using h12
          have e2 : (o == 3) = false := by simpa using h3
          clear h12 h3
          go_wp2_with fail
          go_ret
          exact ⟨by rw [HW.out]; rfl, HB.out⟩
end Go.Proofs.YtffdfajlfgeicaaDoor
