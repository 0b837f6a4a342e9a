/- What the reference tells of states: Kids, End, Meet. Condition: as many states as memory holds, and where said, states that stand. -/
import Derived.Test.YtlebgecajlifgaaShapeRef
import Derived.Deep.RegionHeld3
namespace Go.Proofs.Ytlebgecajlifgaa
open Go.RowKit ShapeSpec
set_option maxRecDepth 100000

def RKidRel (W : World) (l : List Sh) (i n : Nat) (p v : Value) (wr : World) : Prop := ∃ k : Nat, k ≤ n ∧ v = .int .i64 k ∧ RowI W wr p (kidsTo l i k)
set_option maxHeartbeats 4000000 in
theorem rshkids_any (A : Option Addr) (n c : Nat) (l : List Sh) (a : Nat) (w : World) (h : Sts w (.slice A n c) l) (hm : n ≤ 1000000) :
    Calls Try.prog 16 #[.slice A n c, .int .i64 a] w (RetInts w (kids l a)) := by
  have hn := h.len
  have HE : Hid (kids l a = kidsTo l a n) := Lib.hid (by rw [hn]; rfl)
  rw [HE.out]
  have HT := Lib.hid h
  obtain ⟨i0, hi, hz0, hz1, hz2⟩ := info_parts inf_int
  have HI := Lib.hid (And.intro hi (And.intro hz0 (And.intro hz1 hz2)))
  clear h hn HE hi hz0 hz1 hz2
  go_enter Try.func16, Try.ntmps16
  go_wp2_with fail
  go_loopw [5, 6] (fun p v wr => RKidRel w l a n p v wr) (fun _ v _ => n - (intOf v).toNat)
  case atStart => exact ⟨0, Nat.zero_le _, rfl, ⟨World.ownsRow_lit w #[] 0 (Nat.le_refl _) (Nat.zero_le _) rfl, (Below.refl _ _).alloc (Nat.le_refl _) _⟩⟩
  case round =>
    obtain ⟨k, hk, rfl, hrow⟩ := hrel
    have HR := Lib.hid hrow
    by_cases hlt : k < n
    · have hltI : (k : Int) < n := by omega
      obtain ⟨b, off, rfl, hb, -, c2⟩ := (HT.out.keep HR.out.2).at_ hlt
      obtain ⟨q, hq⟩ : ∃ q, q = par l k := ⟨_, rfl⟩
      rw [← hq] at c2
      have HP := Lib.hid hq
      have HSZ : Hid (w.heap.size ≤ wr.heap.size) := Lib.hid HR.out.2.size
      have hkl := kids_le l a k
      have HL1 : Hid ((kidsTo l a k).length + (intV [(k : Int)]).length ≤ maxLen) := Lib.hid (by simp [maxLen]; omega)
      have HL2 : Hid (((kidsTo l a k).length + (intV [(k : Int)]).length) * 8 ≤ 140737488355328) := Lib.hid (by simp; omega)
      clear hq hkl hrow
      by_cases hqa : q = a
      · have g1 : (q == (a : Int)) = true := by simpa using hqa
        have HS : Hid (kidsTo l a (k + 1) = kidsTo l a k ++ [(k : Int)]) := Lib.hid (kids_yes (HP.out.symm.trans hqa))
        clear hqa
        go_wp2_with (at_builtin; refine wpList_append_rd _ rfl (.tmp 21) (.tmp 23) _ rfl w.heap.size 3 i0 (.int .i64 0) 8 Try.underlying27 HI.out.1 HI.out.2.1 HI.out.2.2.1 HI.out.2.2.2 rfl _ _ _ rfl (HR.out.1.alloc _) _ (intV [(k : Int)]) rfl (lit_here rfl rfl rfl) (intV_one _) HL1.out HL2.out ?_ ?_; (have := HSZ.out; simp; omega); intro p2 w2 hrow2 hg2 _; have HR2 := Lib.hid (RowI.add HR.out hrow2 hg2); clear hrow2 hg2)
        go_roundw
        case rel => exact ⟨k + 1, by omega, by simp, by rw [HS.out]; exact HR2.out⟩
        case measure => simp [intOf]; omega
      · have g1 : (q == (a : Int)) = false := by simpa using hqa
        have HS : Hid (kidsTo l a (k + 1) = kidsTo l a k) := Lib.hid (kids_no (by rw [← HP.out]; exact hqa))
        clear hqa
        go_wp2_with fail
        go_roundw
        case rel => exact ⟨k + 1, by omega, by simp, by rw [HS.out]; exact HR.out⟩
        case measure => simp [intOf]; omega
    · obtain rfl : k = n := by omega
      go_wp2_with fail
      go_ret
      exact HR.out.ret

def REndQ (W : World) (l : List Sh) (a n : Nat) (v i : Value) (wr : World) : Prop := ∃ k : Nat, k ≤ n ∧ i = .int .i64 k ∧ v = .int .i64 (endTo l a k : Nat) ∧ Below W.heap.size W wr
set_option maxHeartbeats 4000000 in
theorem rshend_any (A : Option Addr) (n c : Nat) (l : List Sh) (a : Nat) (w : World) (h : Sts w (.slice A n c) l) (hs : SU l n) (ha : a < n) (hm : n ≤ 1000000) :
    Calls Try.prog 17 #[.slice A n c, .int .i64 a] w (RetI w (endOf l a : Nat)) := by
  have HE : Hid (endOf l a = endTo l a n) := Lib.hid (by rw [h.len]; rfl)
  rw [HE.out]
  have HT := Lib.hid h
  have HAb := Lib.hid (fun w' k h hk => rabove_any A n c n l k w' h hs hk (Nat.le_refl _) hm)
  have HULL : Hid (∀ a : Nat, (upI l a).length ≤ a) := Lib.hid (fun a => by rw [upI_length]; exact up_length_le l a)
  clear h hs HE
  go_enter Try.func17, Try.ntmps17
  go_wp2_with fail
  go_loopw [5, 6] (fun v i wr => REndQ w l a n v i wr) (fun _ i _ => n - (intOf i).toNat)
  case atStart => exact ⟨0, Nat.zero_le _, rfl, rfl, Below.refl _ _⟩
  case round =>
    obtain ⟨k, hk, rfl, rfl, hbw⟩ := hrel
    have HBW := Lib.hid hbw
    clear hbw
    by_cases hlt : k < n
    · have hltI : (k : Int) < n := by omega
      have HA1 := Lib.hid (HAb.out wr k (HT.out.keep HBW.out) hlt)
      have HIN : Hid (∀ v w', Rd w' v (intV (upI l k)) → Calls Try.prog 23 #[v, .int .i64 a] w' (SameB w' (decide ((a : Int) ∈ upI l k)))) := Lib.hid (fun v w' h => rin_any v _ a w' h (by have := HULL.out k; omega))
      cases hd : decide ((a : Int) ∈ upI l k) with
      | true =>
        rw [hd] at HIN
        have HX : Hid (endTo l a (k + 1) = k + 1) := Lib.hid (if_pos (upI_mem.1 (of_decide_eq_true hd)))
        clear hd
        go_wp2_with (go_at_call 14; (with_reducible refine HA1.out.mono ?_))
        rintro e w1 ⟨v, rfl, hrd, hb3⟩
        have HI1 := Lib.hid (HIN.out _ _ hrd)
        have HB3 := Lib.hid (below_two' HBW.out hb3)
        clear hrd hb3
        go_wp2_with (go_at_call 23; (with_reducible refine HI1.out.mono ?_); rintro e w' ⟨rfl, rfl⟩)
        go_roundw
        case rel => exact ⟨k + 1, by omega, by simp, by rw [HX.out]; simp, HB3.out⟩
        case measure => simp [intOf]; omega
      | false =>
        rw [hd] at HIN
        have HX : Hid (endTo l a (k + 1) = endTo l a k) := Lib.hid (if_neg (fun h => by simp [upI_mem.2 h] at hd))
        clear hd
        go_wp2_with (go_at_call 14; (with_reducible refine HA1.out.mono ?_))
        rintro e w1 ⟨v, rfl, hrd, hb3⟩
        have HI1 := Lib.hid (HIN.out _ _ hrd)
        have HB3 := Lib.hid (below_two' HBW.out hb3)
        clear hrd hb3
        go_wp2_with (go_at_call 23; (with_reducible refine HI1.out.mono ?_); rintro e w' ⟨rfl, rfl⟩)
        go_roundw
        case rel => exact ⟨k + 1, by omega, by simp, by rw [HX.out], HB3.out⟩
        case measure => simp [intOf]; omega
    · obtain rfl : k = n := by omega
      go_wp2_with fail
      go_ret
      exact ⟨rfl, HBW.out⟩

def RMeetQ (W : World) (l : List Sh) (a z n : Nat) (v : Value) (wr : World) : Prop := ∃ k : Nat, k ≤ n ∧ v = .int .i64 k ∧ (∀ (m y : Nat), m < k → (sf l a)[m]? = some y → y ∉ sf l z) ∧ Below W.heap.size W wr
theorem rmeet_next {l : List Sh} {a z k x : Nat} (hx : (sf l a)[k]? = some x) (hno : x ∉ sf l z) (h : ∀ (m y : Nat), m < k → (sf l a)[m]? = some y → y ∉ sf l z) : ∀ (m y : Nat), m < k + 1 → (sf l a)[m]? = some y → y ∉ sf l z := by
  intro m y hm hy
  by_cases e : m = k
  · subst e
    rw [hx] at hy
    cases hy
    exact hno
  · exact h m y (by omega) hy
set_option maxHeartbeats 4000000 in
theorem rshmeet_any (A : Option Addr) (n c : Nat) (l : List Sh) (a z : Nat) (w : World) (h : Sts w (.slice A n c) l) (hs : SU l n) (ha : a < n) (hz : z < n) (hm : n ≤ 1000000) :
    Calls Try.prog 18 #[.slice A n c, .int .i64 a, .int .i64 z] w (RetI w (meet l a z)) := by
  have HT := Lib.hid h
  have HSF := Lib.hid (fun w' k h hk => rself_any A n c n l k w' h hs hk (Nat.le_refl _) hm)
  have HA0 := Lib.hid (HSF.out w a h ha)
  have HZ := Lib.hid (fun w' h => HSF.out w' z h hz)
  have hul := up_length_le l a
  have huz := up_length_le l z
  have hsl := sfI_length l a
  have HZL : Hid ((sfI l z).length ≤ 9223372036854775807) := Lib.hid (by rw [sfI_length]; omega)
  have HM : Hid (∀ (k x : Nat), (sf l a)[k]? = some x → (∀ (m y : Nat), m < k → (sf l a)[m]? = some y → y ∉ sf l z) → x ∈ sf l z → meet l a z = x) := Lib.hid (fun k x hx hno h => meet_hit hx hno h)
  have HN : Hid ((∀ (m y : Nat), (sf l a)[m]? = some y → y ∉ sf l z) → meet l a z = -1) := Lib.hid meet_miss
  obtain ⟨r, hr⟩ : ∃ r, r = meet l a z := ⟨_, rfl⟩
  rw [← hr] at HM HN ⊢
  clear h hs hr HSF
  go_enter Try.func18, Try.ntmps18
  go_wp2_with (go_at_call 24; (with_reducible refine HA0.out.mono ?_))
  rintro e w1 ⟨v, rfl, hrd, hb1⟩
  obtain ⟨A1, n1, c1, rfl, hn1, hc1, hcell⟩ := hrd.ints
  have HC := Lib.hid hcell
  have HN1 : Hid (n1 = (sf l a).length) := Lib.hid (by rw [← hn1, sfI_length]; simp [sf])
  have hn1b : n1 ≤ 1000001 := by omega
  have HB1 := Lib.hid hb1
  clear hrd hcell hn1 hc1 hb1 hsl
  go_wp2_with fail
  go_loopw [8] (fun v wr => RMeetQ w l a z n1 v wr ∧ Below w1.heap.size w1 wr) (fun v _ => n1 - (intOf v).toNat)
  case atStart => exact ⟨⟨0, Nat.zero_le _, rfl, fun m y hm _ => absurd hm (by omega), HB1.out⟩, Below.refl _ _⟩
  case round =>
    obtain ⟨⟨k, hk, rfl, hno, hbw⟩, hb2⟩ := hrel
    have HNO := Lib.hid hno
    have HBW := Lib.hid hbw
    have HB2 := Lib.hid hb2
    clear hno hbw hb2
    by_cases hlt : k < n1
    · have hltI : (k : Int) < n1 := by omega
      obtain ⟨x, hx⟩ : ∃ x, (sf l a)[k]? = some x := get_some (by rw [← HN1.out]; exact hlt)
      obtain ⟨b, off, rfl, hb, hcell⟩ := HC.out (by omega)
      have hc := (HB2.out.cell (p := ⟨b, off + k, none⟩) hb).trans (hcell k _ (sfI_get hx))
      have hbr : b < wr.heap.size := Nat.lt_of_lt_of_le hb HB2.out.size
      have HX := Lib.hid hx
      have HZ1 := Lib.hid (HZ.out wr.drew (HT.out.keep (below_drewN HBW.out 1)))
      have HIN : Hid (∀ v w', Rd w' v (intV (sfI l z)) → Calls Try.prog 23 #[v, .int .i64 x] w' (SameB w' (decide ((x : Int) ∈ sfI l z)))) := Lib.hid (fun v w' h => rin_any v _ x w' h HZL.out)
      have HCK := Lib.hid hc
      clear hx hcell
      cases hd : decide ((x : Int) ∈ sfI l z) with
      | true =>
        rw [hd] at HIN
        have HR : Hid ((x : Int) = r) := Lib.hid (HM.out k x HX.out HNO.out (sfI_mem.1 (of_decide_eq_true hd))).symm
        clear hd
        go_wp2_with fail
        go_region_held3 (fun w' => w'.cell? ⟨b, off + k, none⟩ = some (.int .i64 (x : Int))) (go_keep)
          ((first
            | (go_at_call 24; refine HZ1.out.mono ?_; rintro e x4 ⟨v4, rfl, hr4, hb4'⟩; have hb4 := undrawn hb4'; have HI := Lib.hid (HIN.out _ _ hr4); obtain ⟨A4, n4, c4, rfl, -, -, -⟩ := hr4.ints; have pc : x4.cell? ⟨b, off + k, none⟩ = some (.int .i64 (x : Int)) := (hb4.cell (p := ⟨b, off + k, none⟩) hbr).trans HCK.out; have HB4 := Lib.hid (below_two' HBW.out hb4); clear hb4 hb4' hr4)
            | (go_at_call 23; (with_reducible refine HI.out.mono ?_); rintro e w' ⟨rfl, rfl⟩)))
        go_wp2_with fail
        go_ret
        exact ⟨ret_int HR.out, HB4.out⟩
      | false =>
        rw [hd] at HIN
        have HR := Lib.hid (rmeet_next HX.out (fun h => by simp [sfI_mem.2 h] at hd) HNO.out)
        clear hd
        go_wp2_with fail
        go_region_held3 (fun w' => w'.cell? ⟨b, off + k, none⟩ = some (.int .i64 (x : Int))) (go_keep)
          ((first
            | (go_at_call 24; refine HZ1.out.mono ?_; rintro e x4 ⟨v4, rfl, hr4, hb4'⟩; have hb4 := undrawn hb4'; have HI := Lib.hid (HIN.out _ _ hr4); obtain ⟨A4, n4, c4, rfl, -, -, -⟩ := hr4.ints; have pc : x4.cell? ⟨b, off + k, none⟩ = some (.int .i64 (x : Int)) := (hb4.cell (p := ⟨b, off + k, none⟩) hbr).trans HCK.out; have HB4 := Lib.hid (below_two' HBW.out hb4); have HB5 := Lib.hid (below_two' HB2.out hb4); clear hb4 hb4' hr4)
            | (go_at_call 23; (with_reducible refine HI.out.mono ?_); rintro e w' ⟨rfl, rfl⟩)))
        go_wp2_with fail
        go_roundw
        case rel => exact ⟨⟨k + 1, by omega, by simp, HR.out, HB4.out⟩, HB5.out⟩
        case measure => simp [intOf]; omega
    · obtain rfl : k = n1 := by omega
      have HR : Hid (r = -1) := Lib.hid (HN.out (fun m y hy => HNO.out m y (by rw [HN1.out]; exact get_lt hy) hy))
      go_wp2_with fail
      go_ret
      exact ⟨ret_int HR.out.symm, HBW.out⟩
end Go.Proofs.Ytlebgecajlifgaa
