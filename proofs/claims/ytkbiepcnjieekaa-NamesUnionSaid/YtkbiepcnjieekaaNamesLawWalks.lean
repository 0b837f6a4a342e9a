/- The walks of the three laws of the layer of names: each returns true, and what was in memory stays. Conditions: what came in is no longer than memory holds. -/
import Derived.Test.YtkbiepcnjieekaaNamesAwake
namespace Go.Proofs.Ytkbiepcnjieekaa
open Go.RowKit NamesSpec Go.Lib

theorem is_is {s : ByteArray} {b : Bool} (h : isName s.data.toList = b) (hs : s.size ≤ 9223372036854775807) (w : World) : Calls Try.prog 9 #[.string s] w fun e w' => e = .returned (.bool b) ∧ Below w.heap.size w w' := by
  subst h; exact is_any s w hs
theorem ris_is {s : ByteArray} {b : Bool} (h : isName s.data.toList = b) (hs : s.size ≤ 9223372036854775807) (w : World) : Calls Try.prog 10 #[.string s] w fun e w' => e = .returned (.bool b) ∧ Below w.heap.size w w' := by
  subst h; exact ris_any s w hs
theorem kw_is {s : ByteArray} {b : Bool} (h : isKw s.data.toList = b) (w : World) : Calls Try.prog 11 #[.string s] w fun e w' => e = .returned (.bool b) ∧ w = w' := by
  subst h; exact keyword_any s w

set_option maxHeartbeats 1000000 in
theorem walk_NamesIs (s : ByteArray) (w : World) (hs : s.size ≤ maxLen) :
    Calls Try.prog 3 #[.string s] w fun e w' => e = .returned (.bool true) ∧ Below w.heap.size w w' := by
  have hs' : s.size ≤ 9223372036854775807 := hs
  by_cases h1 : 1000 < s.size
  · clear hs
    go_enter Try.func3, Try.ntmps3
    go_wp2_with (go_at_call 6; (with_reducible refine (awake_any _).mono ?_); rintro e w' ⟨rfl, hb⟩)
    go_ret
    exact ⟨rfl, by assumption⟩
  · have hx := isName_not_kw s.data.toList
    rcases hn : isName s.data.toList with _ | _
    all_goals
      rcases hk : isKw s.data.toList with _ | _
      all_goals
        first
          | (exfalso; rw [hn, hk] at hx; exact absurd hx (by decide))
          | (have HN := Lib.hid (is_is hn hs')
             have HR := Lib.hid (ris_is hn hs')
             have HK := Lib.hid (kw_is hk)
             have hpl := kw_place_is hk
             clear hn hk hx hs
             go_enter Try.func3, Try.ntmps3
             go_wp2_with (go_at_call 8; refine (keywords_any _).mono ?_)
             rintro e w1 ⟨v, rfl, hrd, hbw⟩
             go_wp2_with (first
               | (go_at_call 7; refine (rplace_any _ kwS s _ hrd (by decide)).mono ?_; rintro e w' ⟨rfl, rfl⟩)
               | (go_at_call 9; refine (HN.out _).mono ?_))
             rintro e w2 ⟨rfl, hb2⟩
             have hB2 := below_two' hbw hb2
             clear hrd hbw hb2 hpl
             go_wp2_with (go_at_call 10; refine (HR.out _).mono ?_)
             rintro e w3 ⟨rfl, hb3⟩
             have hB3 := below_two' hB2 hb3
             clear hB2 hb3
             go_wp2_with (first
               | (go_at_call 11; refine (HK.out _).mono ?_; rintro e w' ⟨rfl, rfl⟩)
               | (go_at_call 9; refine (HN.out _).mono ?_))
             rintro e w4 ⟨rfl, hb4⟩
             have hB4 := below_two' hB3 hb4
             clear hB3 hb4
             go_wp2_with (first
               | (go_at_call 11; refine (HK.out _).mono ?_; rintro e w' ⟨rfl, rfl⟩)
               | (go_at_call 6; (with_reducible refine (awake_any _).mono ?_)))
             rintro e w5 ⟨rfl, hb5⟩
             go_wp2_with fail
             go_ret
             exact ⟨rfl, below_two' hB4 hb5⟩)

theorem long_small {l : List ByteArray} {m : Int} (h : longB l m = false) : ∀ s ∈ l, (s.size : Int) ≤ m := by
  intro s hs
  unfold longB at h
  rw [List.any_eq_false] at h
  have := h s hs
  simp at this
  omega
theorem long_is {v : Value} {l : List ByteArray} {m : Int} {b : Bool} (h : longB l m = b) {w : World} (r : Rd w v (strV l)) (hm : l.length ≤ 9223372036854775807) :
    Calls Try.prog 12 #[v, .int .i64 m] w fun e w' => e = .returned (.bool b) ∧ w = w' := by
  subst h; exact long_any v l m w r hm

theorem same_is {v u : Value} {a : List Int} {w : World} (h : Rd w v (intV a)) (h' : Rd w u (intV a)) (hm : a.length ≤ 9223372036854775807) :
    Calls Try.prog 14 #[v, u] w fun e w' => e = .returned (.bool true) ∧ Below w.heap.size w w' := by
  refine (same_any v u a a w h h' hm).mono fun e w' h => ?_
  have := h.below
  rwa [show sameI a a = true from decide_eq_true rfl] at this
theorem texts_is {v u : Value} {a : List ByteArray} {w : World} (h : Rd w v (strV a)) (h' : Rd w u (strV a)) (hm : a.length ≤ 9223372036854775807) :
    Calls Try.prog 17 #[v, u] w fun e w' => e = .returned (.bool true) ∧ Below w.heap.size w w' := by
  refine (texts_any v u a a w h h' hm).mono fun e w' h => ?_
  have := h.below
  rwa [show sameS a a = true from decide_eq_true rfl] at this

/-- What holds at the head of the loop over the places. -/
def ListsRel (W : World) (l : List ByteArray) (n : Nat) (p iv : Value) (wr : World) : Prop :=
  ∃ k : Nat, k ≤ n ∧ iv = .int .i64 k ∧ wr.ownsRow W.heap.size 3 1 p (twinsTo l k).length (intV (twinsTo l k)) ∧ Below W.heap.size W wr
theorem lists_no {W wr : World} {l : List ByteArray} {n k : Nat} {p : Value} {s : ByteArray} (hk : k < n) (hs : l[k]? = some s) (hh : hasS (l.take k) s = false) (hown : wr.ownsRow W.heap.size 3 1 p (twinsTo l k).length (intV (twinsTo l k))) (hb : Below W.heap.size W wr) :
    ListsRel W l n p (.int .i64 ((k : Int) + 1)) wr := by
  refine ⟨k + 1, hk, by simp, ?_, hb⟩
  rw [twinsTo_no hs hh]; exact hown
theorem lists_yes {W wr w2 : World} {l : List ByteArray} {n k : Nat} {p p' : Value} {s : ByteArray} {o : Obj} (hk : k < n) (hs : l[k]? = some s) (hh : hasS (l.take k) s = true) (hown : wr.ownsRow W.heap.size 3 1 p (twinsTo l k).length (intV (twinsTo l k))) (hb : Below W.heap.size W wr)
    (hown2 : w2.ownsRow W.heap.size 3 1 p' ((twinsTo l k).length + (intV [(k : Int)]).length) (intV (twinsTo l k) ++ intV [(k : Int)])) (hg : (wr.alloc o).grownBy w2 p.ownBlock) : ListsRel W l n p' (.int .i64 ((k : Int) + 1)) w2 := by
  refine ⟨k + 1, hk, by simp, ?_, (hb.alloc hb.size o).grown hg (by have := hb.size; simp; omega) (fun j hj => (hown.lt j hj).1)⟩
  rw [twinsTo_yes hs hh, ← intV_append, List.length_append]; exact hown2

set_option maxHeartbeats 2000000 in
theorem walk_NamesLists (v : Value) (l : List ByteArray) (s : ByteArray) (w : World) (r : Rd w v (strV l)) (hl : l.length ≤ 9223372036854775807) (_ : s.size ≤ maxLen) :
    Calls Try.prog 4 #[v, .string s] w fun e w' => e = .returned (.bool true) ∧ Below w.heap.size w w' := by
  have HL := Lib.hid hl
  have HR := Lib.hid r
  obtain ⟨A, n, c, rfl, hn, hc, hA⟩ := r.strs
  have HA := Lib.hid hA
  have HN := Lib.hid hn
  have hn' : n ≤ 9223372036854775807 := by omega
  clear hA hn r hc hl
  by_cases h60 : 60 < n
  · go_enter Try.func4, Try.ntmps4
    go_wp2_with (go_at_call 6; (with_reducible refine (awake_any _).mono ?_); rintro e w' ⟨rfl, hb⟩)
    go_ret
    exact ⟨rfl, by assumption⟩
  · rcases hlo : longB l 200 with _ | _
    case true =>
      have HLo := Lib.hid (long_is hlo HR.out HL.out)
      clear hlo
      go_enter Try.func4, Try.ntmps4
      go_wp2_with (first
        | (go_at_call 12; refine HLo.out.mono ?_; rintro e w' ⟨rfl, rfl⟩)
        | (go_at_call 6; (with_reducible refine (awake_any _).mono ?_); rintro e w' ⟨rfl, hb⟩))
      go_ret
      exact ⟨rfl, by assumption⟩
    have HLo := Lib.hid (long_is hlo HR.out HL.out)
    have HSm : Hid (∀ x ∈ l, x.size ≤ maxLen) := Lib.hid (fun x hx => by have := long_small hlo x hx; unfold maxLen; omega)
    obtain ⟨i0, hi, hz0, hz1, hz2⟩ := info_parts info_int
    clear hlo
    go_enter Try.func4, Try.ntmps4
    go_wp2_with (go_at_call 12; refine HLo.out.mono ?_; rintro e w' ⟨rfl, rfl⟩)
    go_loopw [5, 6] (fun p i wr => ListsRel w l n p i wr) (fun _ i _ => n - (intOf i).toNat)
    case atStart => exact ⟨0, Nat.zero_le _, rfl, World.ownsRow_lit w #[] 0 (Nat.le_refl _) (Nat.zero_le _) rfl, (Below.refl _ _).alloc (Nat.le_refl _) _⟩
    case round =>
      obtain ⟨k, hk, rfl, hown, hbw⟩ := hrel
      by_cases hlt : k < n
      · obtain ⟨x, hx⟩ : ∃ x, l[k]? = some x := get_some (by have := HN.out; omega)
        have HP := Lib.hid (rplace_any _ l x wr (HR.out.keep hbw) HL.out)
        have hpl := place_lt hx
        obtain ⟨b, off, rfl, hb, hcell⟩ := HA.out (by omega)
        have hck : wr.cell? ⟨b, off + k, none⟩ = some (.string x) := (hbw.cell (by exact hb)).trans (hcell k x hx)
        have hpb := place_bd l x
        have htl := twinsTo_length l k
        have HX := Lib.hid hx
        have HB := Lib.hid hbw
        have hsz := hbw.size
        clear hcell hx hbw
        rcases hh : hasS (l.take k) x with _ | _
        · have hpl' := hpl.trans hh
          have HH := Lib.hid hh
          clear hh hpl hpb
          go_wp2_with (go_at_call 7; refine HP.out.mono ?_; rintro e w' ⟨rfl, rfl⟩)
          go_roundw
          case rel => exact lists_no hlt HX.out HH.out hown HB.out
          case measure => simp [intOf]; omega
        · have hpl' := hpl.trans hh
          have HH := Lib.hid hh
          have HS1 : Hid ((twinsTo l k).length + (intV [(k : Int)]).length ≤ maxLen) := Lib.hid (by simp [maxLen]; omega)
          have HS2 : Hid (((twinsTo l k).length + (intV [(k : Int)]).length) * 8 ≤ 140737488355328) := Lib.hid (by simp; omega)
          clear hh hpl hpb htl
          go_wp2_with (first
            | (go_at_call 7; refine HP.out.mono ?_; rintro e w' ⟨rfl, rfl⟩)
            | (at_builtin; refine wpList_append_rd _ rfl (.tmp 30) (.tmp 32) _ rfl w.heap.size 3 i0 (.int .i64 0) 8 Try.underlying28 hi hz0 hz1 hz2 rfl _ _ _ rfl (hown.alloc _) _ (intV [(k : Int)]) rfl (Rd.lit (cs := #[.int .i64 k]) rfl) (intV_one _) HS1.out HS2.out ?_ ?_; (simp; omega); intro p2 w2 hown2 hg2 _))
          go_roundw
          case rel => exact lists_yes hlt HX.out HH.out hown HB.out hown2 hg2
          case measure => simp [intOf]; omega
      · obtain rfl : k = n := by omega
        have HR2 := Lib.hid (HR.out.keep hbw)
        have HP := Lib.hid (nplace_any _ l s wr HR2.out HL.out)
        have HQ := Lib.hid (rplace_any _ l s wr HR2.out HL.out)
        have HT := Lib.hid (twins_any _ l wr HR2.out (by have := HN.out; omega) HSm.out)
        have HO : Hid (Rd wr u5 (intV (twins l))) := Lib.hid (by unfold twins; rw [HN.out]; exact Rd.own hown)
        clear hown
        go_wp2_with (first
          | (go_at_call 13; refine HP.out.mono ?_; rintro e w' ⟨rfl, rfl⟩)
          | (go_at_call 7; refine HQ.out.mono ?_; rintro e w' ⟨rfl, rfl⟩)
          | (go_at_call 15; refine HT.out.mono ?_))
        rintro e w3 ⟨q, rfl, hq, hb3⟩
        have HSa := Lib.hid (same_is hq (HO.out.keep hb3) (by have := twinsTo_length l l.length; have := HL.out; unfold twins; omega))
        have hB3 := below_two' hbw hb3
        clear hbw hb3 hq
        go_wp2_with (go_at_call 14; refine HSa.out.mono ?_)
        rintro e w4 ⟨rfl, hb4⟩
        have hB4 := below_two' hB3 hb4
        clear hB3 hb4
        go_wp2_with (go_at_call 6; (with_reducible refine (awake_any _).mono ?_))
        rintro e w5 ⟨rfl, hb5⟩
        go_wp2_with fail
        go_ret
        exact ⟨rfl, below_two' hB4 hb5⟩

end Go.Proofs.Ytkbiepcnjieekaa
