/- The walk of NamesUnion: it returns true, and what was in memory stays. Conditions: lists no longer than memory holds. -/
import Derived.Test.YtkbiepcnjieekaaNamesLawWalks
import Derived.IntWalk
namespace Go.Proofs.Ytkbiepcnjieekaa
open Go.RowKit NamesSpec Go.Lib Go.BigFrame

theorem quiet_place {v : Value} {l : List ByteArray} {s : ByteArray} {W : World} {n : Nat} (r : Rd W v (strV l)) (hm : l.length ≤ 9223372036854775807) :
    Calls Try.prog 7 #[v, .string s] (W.drewN n) fun e w'' => e = .returned (.int .i64 (idxOfS l s)) ∧ ∃ m, w'' = W.drewN m :=
  (rplace_any v l s _ (r.drewN n) hm).mono fun _ _ ⟨he, hw⟩ => ⟨he, n, hw.symm⟩
theorem less_of {l : List ByteArray} (hr : Rises (bytesOf l)) {k : Nat} {x y : ByteArray} (hx : l[k]? = some x) (hy : l[k + 1]? = some y) : Op.bytesLess x.toList y.toList = true := by
  rw [less_iff]
  have := List.pairwise_iff_getElem.1 (rises_below.1 hr) k (k + 1) (get_lt hx) (get_lt hy) (by omega)
  rw [List.getElem?_eq_getElem (get_lt hx)] at hx
  rw [List.getElem?_eq_getElem (get_lt hy)] at hy
  injection hx with hx
  injection hy with hy
  rwa [hx, hy] at this

def UnLawRel (W : World) (n : Nat) (iv : Value) (wr : World) : Prop := ∃ k : Nat, k ≤ n ∧ iv = .int .i64 k ∧ Below W.heap.size W wr

set_option maxHeartbeats 1500000 in
theorem walk_NamesUnion (v1 : Value) (a : List ByteArray) (v2 : Value) (b : List ByteArray) (w : World) (r1 : Rd w v1 (strV a)) (ha : a.length ≤ 9223372036854775807) (r2 : Rd w v2 (strV b)) (hb : b.length ≤ 9223372036854775807) :
    Calls Try.prog 5 #[v1, v2] w fun e w' => e = .returned (.bool true) ∧ Below w.heap.size w w' := by
  have HA := Lib.hid ha
  have HB := Lib.hid hb
  have HR1 := Lib.hid r1
  have HR2 := Lib.hid r2
  obtain ⟨A1, n1, c1, rfl, hn1, _, _⟩ := r1.strs
  obtain ⟨A2, n2, c2, rfl, hn2, _, _⟩ := r2.strs
  have HN1 := Lib.hid hn1
  have HN2 := Lib.hid hn2
  have h1' : n1 ≤ 9223372036854775807 := by omega
  have h2' : n2 ≤ 9223372036854775807 := by omega
  clear hn1 hn2 r1 r2 ha hb
  by_cases h60 : 60 < n1
  · go_enter Try.func5, Try.ntmps5
    go_wp2_with (go_at_call 6; (with_reducible refine (awake_any _).mono ?_); rintro e w' ⟨rfl, hb⟩)
    go_ret
    exact ⟨rfl, by assumption⟩
  by_cases h61 : 60 < n2
  · go_enter Try.func5, Try.ntmps5
    go_wp2_with (go_at_call 6; (with_reducible refine (awake_any _).mono ?_); rintro e w' ⟨rfl, hb⟩)
    go_ret
    exact ⟨rfl, by assumption⟩
  rcases hla : longB a 200 with _ | _
  case true =>
    have HLa := Lib.hid (long_is hla HR1.out HA.out)
    clear hla
    go_enter Try.func5, Try.ntmps5
    go_wp2_with (first
      | (go_at_call 12; (with_reducible refine HLa.out.mono ?_); rintro e w' ⟨rfl, rfl⟩)
      | (go_at_call 6; (with_reducible refine (awake_any _).mono ?_); rintro e w' ⟨rfl, hb⟩))
    go_ret
    exact ⟨rfl, by assumption⟩
  rcases hlb : longB b 200 with _ | _
  case true =>
    have HLa := Lib.hid (long_is hla HR1.out HA.out)
    have HLb := Lib.hid (long_is hlb HR2.out HB.out)
    clear hla hlb
    go_enter Try.func5, Try.ntmps5
    go_wp2_with (first
      | (go_at_call 12; (first | (with_reducible refine HLa.out.mono ?_) | (with_reducible refine HLb.out.mono ?_)); rintro e w' ⟨rfl, rfl⟩)
      | (go_at_call 6; (with_reducible refine (awake_any _).mono ?_); rintro e w' ⟨rfl, hb⟩))
    go_ret
    exact ⟨rfl, by assumption⟩
  have HLa := Lib.hid (long_is hla HR1.out HA.out)
  have HLb := Lib.hid (long_is hlb HR2.out HB.out)
  have HU1 := Lib.hid (union_any _ _ a b w HR1.out HR2.out (by have := HN1.out; have := HN2.out; omega))
  clear hla hlb
  go_enter Try.func5, Try.ntmps5
  go_wp2_with (first
    | (go_at_call 12; (first | (with_reducible refine HLa.out.mono ?_) | (with_reducible refine HLb.out.mono ?_)); rintro e w' ⟨rfl, rfl⟩)
    | (go_at_call 16; refine HU1.out.mono ?_))
  rintro e w1 ⟨pu, rfl, hpu, hb1⟩
  have HUn := Lib.hid (runion_any _ _ a b w1 (HR1.out.keep hb1) (HR2.out.keep hb1) (by have := HN1.out; have := HN2.out; omega))
  go_wp2_with (go_at_call 18; refine HUn.out.mono ?_)
  rintro e w2 ⟨p2, rfl, hp2, hb2⟩
  clear HUn
  have hlen : (un a b).length ≤ 120 := by have := un_length a b; have := HN1.out; have := HN2.out; omega
  have HT1 := Lib.hid (texts_is (hpu.keep hb2) hp2 (by omega))
  have hu2 := hpu.keep hb2
  have hB2 := below_two' hb1 hb2
  clear hp2 hb1 hb2 hpu
  go_wp2_with (go_at_call 17; refine HT1.out.mono ?_)
  rintro e w3 ⟨rfl, hb3⟩
  have hu3 := hu2.keep hb3
  have hB3 := below_two' hB2 hb3
  clear hB2 hb3 hu2 HT1
  have HU3 := Lib.hid (union_any _ _ b a w3 (HR2.out.keep hB3) (HR1.out.keep hB3) (by have := HN1.out; have := HN2.out; omega))
  rw [un_comm b a] at HU3
  go_wp2_with (go_at_call 16; refine HU3.out.mono ?_)
  rintro e w4 ⟨p4, rfl, hp4, hb4⟩
  have hu4 := hu3.keep hb4
  have hB4 := below_two' hB3 hb4
  have HT4 := Lib.hid (texts_is hu4 hp4 (by omega))
  clear hB3 hb4 hu3 HU3
  go_wp2_with (go_at_call 17; refine HT4.out.mono ?_)
  rintro e w5 ⟨rfl, hb5⟩
  have hu5 := hu4.keep hb5
  have hB5 := below_two' hB4 hb5
  clear hB4 hb5 hu4 HT4 hp4
  have HU5 := Lib.hid (union_any _ _ (un a b) (un a b) w5 hu5 hu5 (by omega))
  rw [un_self a b] at HU5
  go_wp2_with (go_at_call 16; refine HU5.out.mono ?_)
  rintro e w6 ⟨p6, rfl, hp6, hb6⟩
  have hu6 := hu5.keep hb6
  have hB6 := below_two' hB5 hb6
  have HT6 := Lib.hid (texts_is hu6 hp6 (by omega))
  clear hB5 hb6 hu5 HU5
  go_wp2_with (go_at_call 17; refine HT6.out.mono ?_)
  rintro e w7 ⟨rfl, hb7⟩
  have hu7 := hu6.keep hb7
  have hB7 := below_two' hB6 hb7
  clear hB6 hb7 hu6 HT6 hp6
  have HU7 := Lib.hid hu7
  have HRA := Lib.hid (HR1.out.keep hB7)
  have HRB := Lib.hid (HR2.out.keep hB7)
  obtain ⟨A, n, c, rfl, hn, hc, hP⟩ := hu7.strs
  have HP := Lib.hid hP
  have HN := Lib.hid hn
  have hn120 : n ≤ 120 := by omega
  clear hu7 hn hc hP hlen
  go_wp2_with fail
  go_loopw [6] (fun i wr => UnLawRel w7 n i wr) (fun i _ => n - (intOf i).toNat)
  case atStart => exact ⟨0, Nat.zero_le _, rfl, Below.refl _ _⟩
  case round =>
    obtain ⟨k, hk, rfl, hbw⟩ := hrel
    by_cases hlt : k < n
    · obtain ⟨bb, off, rfl, hbl, hcell⟩ := HP.out (by omega)
      obtain ⟨y, hy⟩ : ∃ y, (un a b)[k]? = some y := get_some (by have := HN.out; omega)
      have hcy : wr.cell? ⟨bb, off + k, none⟩ = some (.string y) := (hbw.cell (by exact hbl)).trans (hcell k y hy)
      have hmem := un_mem.1 (List.mem_of_getElem? hy)
      have HQa := Lib.hid (HRA.out.keep hbw)
      have HQb := Lib.hid (HRB.out.keep hbw)
      have HW := Lib.hid hbw
      have hltI : (k : Int) < (n : Int) := by omega
      have hpa := place_bd a y
      have hin : 0 ≤ idxOfS a y ∨ (idxOfS a y < 0 ∧ 0 ≤ idxOfS b y) := by
        rcases hmem with h | h
        · exact .inl ((idxOfS_nonneg_iff a y).2 h)
        · by_cases h' : 0 ≤ idxOfS a y
          · exact .inl h'
          · exact .inr ⟨by omega, (idxOfS_nonneg_iff b y).2 h⟩
      have C1 : Hid (∀ m, Calls Try.prog 7 #[.slice A1 n1 c1, .string y] (wr.drewN m) fun e w'' => e = .returned (.int .i64 (idxOfS a y)) ∧ ∃ m, w'' = wr.drewN m) := Lib.hid (fun _ => quiet_place HQa.out HA.out)
      have C2 : Hid (∀ m, Calls Try.prog 7 #[.slice A2 n2 c2, .string y] (wr.drewN m) fun e w'' => e = .returned (.int .i64 (idxOfS b y)) ∧ ∃ m, w'' = wr.drewN m) := Lib.hid (fun _ => quiet_place HQb.out HB.out)
      rcases Nat.eq_zero_or_pos k with hz | hz
      · subst hz
        have hcy' : wr.cell? ⟨bb, off, none⟩ = some (.string y) := hcy
        clear hmem hy hcell hbw hpa HQa HQb HRA HRB HU7 HLa HLb HU1 HR1 HR2 HN1 HN2 hcy
        rcases hin with h | ⟨h, h'⟩
        · have hd : decide (idxOfS a y < 0) = false := decide_eq_false (by omega)
          clear h
          go_wp2_with fail
          go_big_quiet ((go_at_call 7; exact C1.out _))
          go_wp2_with fail
          go_roundw
          case rel => exact ⟨1, hlt, rfl, below_drewN HW.out _⟩
          case measure => simp [intOf]; omega
        · go_wp2_with fail
          go_big_quiet ((go_at_call 7; (first | with_reducible exact C1.out _ | with_reducible exact C2.out _)))
          go_wp2_with fail
          go_roundw
          case rel => exact ⟨1, hlt, rfl, below_drewN HW.out _⟩
          case measure => simp [intOf]; omega
      · obtain ⟨x, hx⟩ : ∃ x, (un a b)[k - 1]? = some x := get_some (by have := HN.out; omega)
        have hcx : wr.cell? ⟨bb, off + (k - 1), none⟩ = some (.string x) := (hbw.cell (by exact hbl)).trans (hcell (k - 1) x hx)
        have hless : Op.bytesLess x.toList y.toList = true := less_of (un_rises a b) hx (by rw [show k - 1 + 1 = k by omega]; exact hy)
        have hkI : 0 < (k : Int) := by omega
        have hw1 : IntKind.i64.wrap ((k : Int) - 1) = (k : Int) - 1 := IntWalk.i64_in _ (by omega)
        have hw2 : 0 ≤ (k : Int) - 1 := by omega
        have hw3 : ((k : Int) - 1).toNat = k - 1 := by omega
        have hw4 : (k : Int) - 1 < (n : Int) := by omega
        clear hmem hy hcell hbw hpa HQa HQb HRA HRB HU7 HLa HLb HU1 HR1 HR2 HN1 HN2 hx
        rcases hin with h | ⟨h, h'⟩
        · have hd : decide (idxOfS a y < 0) = false := decide_eq_false (by omega)
          clear h
          go_wp2_with fail
          go_big_quiet ((go_at_call 7; exact C1.out _))
          clear hw1 hw2 hw3 hw4
          go_wp2_with fail
          go_roundw
          case rel => exact ⟨k + 1, hlt, by simp, below_drewN HW.out _⟩
          case measure => simp [intOf]; omega
        · go_wp2_with fail
          go_big_quiet ((go_at_call 7; (first | with_reducible exact C1.out _ | with_reducible exact C2.out _)))
          clear hw1 hw2 hw3 hw4
          go_wp2_with fail
          go_roundw
          case rel => exact ⟨k + 1, hlt, by simp, below_drewN HW.out _⟩
          case measure => simp [intOf]; omega
    · clear HU7 HLa HLb HU1 HR1 HR2 HN1 HN2 HP
      go_wp2_with (go_at_call 6; (with_reducible refine (awake_any _).mono ?_))
      rintro e w9 ⟨rfl, hb9⟩
      go_wp2_with fail
      go_ret
      exact ⟨rfl, below_two' (below_two' hB7 hbw) hb9⟩
end Go.Proofs.Ytkbiepcnjieekaa
