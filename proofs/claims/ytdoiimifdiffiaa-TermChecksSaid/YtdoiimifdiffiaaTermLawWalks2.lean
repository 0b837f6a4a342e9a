/- The walks of layer 5's second and third laws: they return true, and what was in memory stays. Condition: the arguments are such. -/
import Derived.Test.YtdoiimifdiffiaaTermLawWalks
namespace Go.Proofs.Ytdoiimifdiffiaa
open Go.RowKit TermSpec

set_option maxRecDepth 100000 in
set_option maxHeartbeats 4000000 in
theorem walk_TermChecks (A : Option Addr) (n c : Nat) (l : List Tm) (o : Int) (w : World) (h : Tms w (.slice A n c) l) (hn : n = l.length) (hs : Small l) (hn63 : n ≤ 9223372036854775807) (_ : (Lit.int .i64 o).wf = true) :
    Calls Try.prog 4 #[.slice A n c, .int .i64 o] w fun e w' => e = .returned (.bool true) ∧ Below w.heap.size w w' := by
  have HL := Lib.hid (light_any A n c l hn hn63 w h)
  have HAw := Lib.hid awake_any
  cases hli : lightB l with
  | false =>
    rw [hli] at HL
    clear h hn hs hli
    go_enter Try.func4, Try.ntmps4
    go_wp2_with (first
      | (go_at_call 6; (with_reducible refine HL.out.mono ?_); rintro e w' ⟨rfl, rfl⟩)
      | (go_at_call 7; (with_reducible refine (HAw.out _).mono ?_)))
    rintro e w1 ⟨rfl, hb1⟩
    go_wp2_with fail
    go_ret
    exact ⟨rfl, hb1⟩
  | true =>
    rw [hli] at HL
    have hlen := (light_few hli).1
    have HW := Lib.hid (fun w h => rwhole_any A n c l hn (by omega) w h)
    have HC := Lib.hid (fun w h => check_any A n c l hn (by omega) hs w h)
    have HRC := Lib.hid (fun w h => rcheck_any A n c l hn (by omega) hs w h)
    have HD := Lib.hid (fun w h => depth_any A n c l hn (by omega) w h)
    have HTy := Lib.hid (fun w h => typ_any A n c l hn (by omega) w h)
    have HNm := Lib.hid (fun w h => names_any A n c l o hn (by omega) w h)
    have HRNm := Lib.hid (fun w h => rnames_any A n c l o hn (by omega) w h)
    have HRD := Lib.hid (fun w h hw => rdep_zero A n c l hn (by omega) w h hw)
    have HRT := Lib.hid (fun w h hw => rtyp_zero A n c l hn (by omega) w h hw)
    have HD0 : Hid (wholeB l = false → depth l = 0 ∧ typ l = 0) := Lib.hid (fun hw => ⟨tell_no hw, tell_no hw⟩)
    have hnl : (namesOf l o).length ≤ 9223372036854775807 := by have := namesOf_length l o; omega
    have HT := Lib.hid h
    obtain ⟨d, hd⟩ : ∃ d, d = depth l := ⟨_, rfl⟩
    obtain ⟨ty, hty⟩ : ∃ ty, ty = typ l := ⟨_, rfl⟩
    obtain ⟨ch, hch⟩ : ∃ ch, ch = chk l := ⟨_, rfl⟩
    rw [← hd] at HD HRD HD0
    rw [← hty] at HTy HRT HD0
    rw [← hch] at HC HRC
    obtain ⟨q, hq⟩ : ∃ q, q = wholeB l := ⟨_, rfl⟩
    rw [← hq] at HW HRD HRT HD0
    obtain ⟨xs, hxs⟩ : ∃ xs, xs = namesOf l o := ⟨_, rfl⟩
    rw [← hxs] at HNm HRNm hnl
    clear h hn hs hli hlen hd hty hch hq hxs
    have gch : (ch == ch) = true := by simp
    have gd : (d == d) = true := by simp
    have gt : (ty == ty) = true := by simp
    have HREST : Hid (∀ wa, Below w.heap.size w wa → Tms wa (.slice A n c) l) := Lib.hid (fun wa hb => HT.out.keep hb)
    have HWW := Lib.hid (HW.out w HT.out)
    cases q with
    | true =>
      have HRD1 := Lib.hid (fun w h => HRD.out w h rfl)
      have HRT1 := Lib.hid (fun w h => HRT.out w h rfl)
      clear HRD HRT HD0
      go_enter Try.func4, Try.ntmps4
      go_wp2_with (first
        | (go_at_call 6; (with_reducible refine HL.out.mono ?_); rintro e w' ⟨rfl, rfl⟩)
        | (go_at_call 15; (with_reducible refine HWW.out.mono ?_)))
      rintro e w1 ⟨rfl, hb1⟩
      have HB1 := Lib.hid hb1
      have HX1 := Lib.hid (HRD1.out _ (HREST.out _ HB1.out))
      clear hb1
      go_wp2_with (go_at_call 16; (with_reducible refine HX1.out.mono ?_))
      rintro e w2 ⟨rfl, hb2⟩
      have HB2 := Lib.hid (below_two' HB1.out hb2)
      have HX2 := Lib.hid (HRT1.out _ (HREST.out _ HB2.out))
      clear hb2
      go_wp2_with (go_at_call 17; (with_reducible refine HX2.out.mono ?_))
      rintro e w3 ⟨rfl, hb3⟩
      have HB3 := Lib.hid (below_two' HB2.out hb3)
      have HX3 := Lib.hid (HC.out _ (HREST.out _ HB3.out))
      clear hb3
      go_wp2_with (go_at_call 18; (with_reducible refine HX3.out.mono ?_))
      rintro e w4 ⟨rfl, hb4⟩
      have HB4 := Lib.hid (below_two' HB3.out hb4)
      have HX4 := Lib.hid (HRC.out _ (HREST.out _ HB4.out))
      clear hb4
      go_wp2_with (go_at_call 19; (with_reducible refine HX4.out.mono ?_))
      rintro e w5 ⟨rfl, hb5⟩
      have HB5 := Lib.hid (below_two' HB4.out hb5)
      have HX5 := Lib.hid (HD.out _ (HREST.out _ HB5.out))
      clear hb5
      go_wp2_with (go_at_call 20; (with_reducible refine HX5.out.mono ?_))
      rintro e w6 ⟨rfl, hb6⟩
      have HB6 := Lib.hid (below_two' HB5.out hb6)
      have HX6 := Lib.hid (HTy.out _ (HREST.out _ HB6.out))
      clear hb6
      go_wp2_with (go_at_call 21; (with_reducible refine HX6.out.mono ?_))
      rintro e w7 ⟨rfl, hb7⟩
      have HB7 := Lib.hid (below_two' HB6.out hb7)
      have HX7 := Lib.hid (HNm.out _ (HREST.out _ HB7.out))
      clear hb7
      go_wp2_with (go_at_call 23; (with_reducible refine HX7.out.mono ?_))
      rintro e w8 ⟨v8, rfl, hr8, hb8⟩
      have HB8 := Lib.hid (below_two' HB7.out hb8)
      have HX8 := Lib.hid (HRNm.out _ (HREST.out _ HB8.out))
      have HR8 := Lib.hid hr8
      clear hb8 hr8
      go_wp2_with (go_at_call 24; (with_reducible refine HX8.out.mono ?_))
      rintro e w9 ⟨v9, rfl, hr9, hb9⟩
      have HB9 := Lib.hid (below_two' HB8.out hb9)
      have HX9 := Lib.hid (texts_yes _ _ xs w9 (HR8.out.keep hb9) hr9 hnl)
      clear hb9 hr9
      go_wp2_with (go_at_call 22; (with_reducible refine HX9.out.mono ?_))
      rintro e w10 ⟨rfl, hb10⟩
      have HB10 := Lib.hid (below_two' HB9.out hb10)
      clear hb10
      go_wp2_with (go_at_call 7; (with_reducible refine (HAw.out _).mono ?_))
      rintro e w11 ⟨rfl, hb11⟩
      go_wp2_with fail
      go_ret
      exact ⟨rfl, below_two' HB10.out hb11⟩
    | false =>
      obtain ⟨hd0, ht0⟩ := HD0.out rfl
      subst hd0; subst ht0
      go_enter Try.func4, Try.ntmps4
      go_wp2_with (first
        | (go_at_call 6; (with_reducible refine HL.out.mono ?_); rintro e w' ⟨rfl, rfl⟩)
        | (go_at_call 15; (with_reducible refine HWW.out.mono ?_)))
      rintro e w3 ⟨rfl, hb3⟩
      have HB3 := Lib.hid hb3
      have HX3 := Lib.hid (HC.out _ (HREST.out _ HB3.out))
      clear hb3
      go_wp2_with (go_at_call 18; (with_reducible refine HX3.out.mono ?_))
      rintro e w4 ⟨rfl, hb4⟩
      have HB4 := Lib.hid (below_two' HB3.out hb4)
      have HX4 := Lib.hid (HRC.out _ (HREST.out _ HB4.out))
      clear hb4
      go_wp2_with (go_at_call 19; (with_reducible refine HX4.out.mono ?_))
      rintro e w5 ⟨rfl, hb5⟩
      have HB5 := Lib.hid (below_two' HB4.out hb5)
      have HX5 := Lib.hid (HD.out _ (HREST.out _ HB5.out))
      clear hb5
      go_wp2_with (go_at_call 20; (with_reducible refine HX5.out.mono ?_))
      rintro e w6 ⟨rfl, hb6⟩
      have HB6 := Lib.hid (below_two' HB5.out hb6)
      have HX6 := Lib.hid (HTy.out _ (HREST.out _ HB6.out))
      clear hb6
      go_wp2_with (go_at_call 21; (with_reducible refine HX6.out.mono ?_))
      rintro e w7 ⟨rfl, hb7⟩
      have HB7 := Lib.hid (below_two' HB6.out hb7)
      have HX7 := Lib.hid (HNm.out _ (HREST.out _ HB7.out))
      clear hb7
      go_wp2_with (go_at_call 23; (with_reducible refine HX7.out.mono ?_))
      rintro e w8 ⟨v8, rfl, hr8, hb8⟩
      have HB8 := Lib.hid (below_two' HB7.out hb8)
      have HX8 := Lib.hid (HRNm.out _ (HREST.out _ HB8.out))
      have HR8 := Lib.hid hr8
      clear hb8 hr8
      go_wp2_with (go_at_call 24; (with_reducible refine HX8.out.mono ?_))
      rintro e w9 ⟨v9, rfl, hr9, hb9⟩
      have HB9 := Lib.hid (below_two' HB8.out hb9)
      have HX9 := Lib.hid (texts_yes _ _ xs w9 (HR8.out.keep hb9) hr9 hnl)
      clear hb9 hr9
      go_wp2_with (go_at_call 22; (with_reducible refine HX9.out.mono ?_))
      rintro e w10 ⟨rfl, hb10⟩
      have HB10 := Lib.hid (below_two' HB9.out hb10)
      clear hb10
      go_wp2_with (go_at_call 7; (with_reducible refine (HAw.out _).mono ?_))
      rintro e w11 ⟨rfl, hb11⟩
      go_wp2_with fail
      go_ret
      exact ⟨rfl, below_two' HB10.out hb11⟩

def PartRel (W : World) (l : List Tm) (q : Nat) (v i : Value) (wr : World) : Prop :=
  ∃ k x : Nat, k ≤ q ∧ i = .int .i64 k ∧ v = .int .i64 (1 + x : Nat) ∧ cnt k (l.drop 1) = some x ∧ Below W.heap.size W wr
theorem part_place {l : List Tm} {q m k x : Nat} (h : cnt q (l.drop 1) = some m) (hk : k < q) (hx : cnt k (l.drop 1) = some x) :
    ∃ y, 0 < y ∧ (belows l 0 q)[k]? = some ((1 + x : Nat) : Int) ∧ endA l ((1 + x : Nat) : Int) = (1 + (x + y) : Nat) ∧ cnt (k + 1) (l.drop 1) = some (x + y) ∧ cnt 1 (l.drop (1 + x)) = some y ∧ 1 + (x + y) ≤ l.length := by
  rw [show q = (k + 1) + (q - (k + 1)) by omega] at h
  obtain ⟨z, _, hz, _, _⟩ := cnt_split h
  obtain ⟨x', y, hx', hy, rfl⟩ := cnt_split hz
  rw [hx] at hx'
  cases hx'
  rw [List.drop_drop] at hy
  have h1 := cnt_le hy
  rw [List.length_drop] at h1
  refine ⟨y, by omega, ?_, ?_, hz, hy, by omega⟩
  · rw [belows_get hk, Nat.zero_add, hx]; rfl
  · rw [endA_some hy, Nat.add_assoc]
theorem small_part {l : List Tm} (h : Small l) (i j : Nat) : Small ((l.drop i).take j) := fun t ht => h t (List.mem_of_mem_drop (List.mem_of_mem_take ht))
theorem chk_len {l : List Tm} (h : chk l = 0) : l.length ≤ 40 := (wholeB_iff.1 (chk_ok h).1).1

set_option maxRecDepth 100000 in
set_option maxHeartbeats 4000000 in
theorem parts_yes (A : Option Addr) (n c : Nat) (l : List Tm) (w : World) (h : Tms w (.slice A n c) l) (hn : n = l.length) (hs : Small l) (hch : chk l = 0) :
    Calls Try.prog 5 #[.slice A n c] w fun e w' => e = .returned (.bool true) ∧ Below w.heap.size w w' := by
  have HAw := Lib.hid awake_any
  have h40 := chk_len hch
  have hwh := (wholeB_iff.1 (chk_ok hch).1).2
  obtain ⟨t, m, ht, h0, hml, hm⟩ := first_of (l := l) (a := 0) (m := l.length) (by simpa using hwh)
  rw [Nat.zero_add] at hm
  have HC := Lib.hid (fun w h => check_any A n c l hn (by omega) hs w h)
  rw [hch] at HC
  have HD := Lib.hid (fun w h => depth_any A n c l hn (by omega) w h)
  have HE := Lib.hid (fun a w h => end_any A n c l a w h hn (by omega))
  have HB0 : Hid (∀ w, Tms w (.slice A n c) l → Calls Try.prog 9 #[.slice A n c, .int .i64 0] w (RetInts w (belows l 0 (arN t.op)))) := Lib.hid (fun w h => below_yes A n c l 0 w h hn (by omega) t ht (by rw [endA_some (m := l.length) (by simpa using hwh)]; omega))
  have HP : Hid (∀ i x y : Nat, i < arN t.op → cnt i (l.drop 1) = some x → cnt 1 (l.drop (1 + x)) = some y → chk ((l.drop (1 + x)).take y) = 0 ∧ depth ((l.drop (1 + x)).take y) < depth l) := Lib.hid (fun i x y hi hx hy => part_of hch ht hi hx hy)
  have hbd := (ar_bd t.op).2
  have e0 := arN_of h0
  obtain ⟨q, hq⟩ : ∃ q, q = arN t.op := ⟨_, rfl⟩
  rw [← hq] at HB0 HP hm e0
  have hq2 : q ≤ 2 := by omega
  obtain ⟨d, hd⟩ : ∃ d, d = depth l := ⟨_, rfl⟩
  rw [← hd] at HD HP
  have HM := Lib.hid hm
  have HN := Lib.hid hn
  have HML := Lib.hid hml
  have HS := Lib.hid hs
  have HT := Lib.hid h
  obtain ⟨b, off, rfl, hb, -, -, -⟩ := h.at_ ht
  have hnc := h.cap
  have hn40 : n ≤ 40 := by omega
  have hmn : m + 1 = n := by omega
  have HREST : Hid (∀ wa, Below w.heap.size w wa → Tms wa (.slice (some ⟨b, off, none⟩) n c) l) := Lib.hid (fun wa hb => HT.out.keep hb)
  have HX0 := Lib.hid (HC.out w HT.out)
  clear hn hs h hch h40 hwh ht h0 hml hm hbd e0 hq hd hb
  go_enter Try.func5, Try.ntmps5
  go_wp2_with (go_at_call 18; (with_reducible refine HX0.out.mono ?_))
  rintro e w1 ⟨rfl, hb1⟩
  have HB1 := Lib.hid hb1
  have HX1 := Lib.hid (HB0.out _ (HREST.out _ HB1.out))
  clear hb1
  go_wp2_with (go_at_call 9; (with_reducible refine HX1.out.mono ?_))
  rintro e w2 ⟨v2, rfl, hr2, hb2⟩
  obtain ⟨A2, n2, c2, rfl, hn2, hc2, hA2⟩ := hr2.ints
  rw [belows_length] at hn2
  obtain rfl : q = n2 := hn2
  have HA2 := Lib.hid hA2
  have HB2 := Lib.hid (below_two' HB1.out hb2)
  clear hr2 hc2 hA2 hb2
  go_wp2_with fail
  go_loopw [3, 5, 6] (fun v i _ wr => PartRel w2 l q v i wr) (fun _ i _ _ => 3 - (intOf i).toNat)
  case atStart => exact ⟨0, 0, Nat.zero_le _, rfl, rfl, cnt_zero _, Below.refl _ _⟩
  case round =>
    obtain ⟨k, x, hk, rfl, rfl, hx, hbw⟩ := hrel
    have HX := Lib.hid hx
    have HBW := Lib.hid hbw
    clear hx hbw
    by_cases hlt : k < q
    · obtain ⟨b2, off2, rfl, hb2, hcell⟩ := HA2.out (by omega)
      obtain ⟨y, hy0, hg, hend, hnx, hone, hle⟩ := part_place HM.out hlt HX.out
      have HCELL := Lib.hid (hcell k _ hg)
      obtain ⟨hpc, hpd⟩ := HP.out k x y hlt HX.out hone
      rw [← HN.out] at hle
      have hlen : ((l.drop (1 + x)).take y).length = y := by rw [List.length_take, List.length_drop]; have := HN.out; omega
      have HNX := Lib.hid hnx
      have HRW := Lib.hid (HREST.out _ (below_two' HB2.out HBW.out))
      have HEE := Lib.hid (HE.out ((1 + x : Nat) : Int) wr HRW.out)
      rw [hend] at HEE
      obtain ⟨p, hp⟩ : ∃ p, p = 1 + x := ⟨_, rfl⟩
      obtain ⟨f, hf⟩ : ∃ f, f = 1 + (x + y) := ⟨_, rfl⟩
      have HSP := Lib.hid (small_part HS.out (1 + x) y)
      rw [← hp] at HEE HCELL hpc hpd hlen HSP ⊢
      rw [← hf] at HEE hle
      have hyf : y = f - p := by omega
      rw [hyf] at hpc hpd hlen HSP
      have HPART : Hid (∀ wa, Below w.heap.size w wa → Tms wa (.slice (some ⟨b, off + p * 3, none⟩) (f - p) (c - p)) ((l.drop p).take (f - p))) := Lib.hid (fun wa hb => (HREST.out wa hb).part (by omega) (by omega) (by omega))
      have HPC := Lib.hid (fun w h => check_any (some ⟨b, off + p * 3, none⟩) (f - p) (c - p) ((l.drop p).take (f - p)) hlen.symm (by omega) HSP.out w h)
      rw [hpc] at HPC
      have HPD := Lib.hid (fun w h => depth_any (some ⟨b, off + p * 3, none⟩) (f - p) (c - p) ((l.drop p).take (f - p)) hlen.symm (by omega) w h)
      obtain ⟨dp, hdp⟩ : ∃ dp, dp = depth ((l.drop p).take (f - p)) := ⟨_, rfl⟩
      rw [← hdp] at HPD hpd
      have hsl := slice_mid b off n c p f (by omega) (by omega) (by omega)
      have hpf : p < f := by omega
      have HF : Hid (f = 1 + (x + y)) := Lib.hid hf
      have gp : ((p : Int) != (p : Int)) = false := by simp
      have gf : ¬ (f : Int) ≤ (p : Int) := by omega
      have gn : ¬ (n : Int) < (f : Int) := by omega
      have gfn : ¬ n < f := by omega
      have gfp : ¬ f ≤ p := by omega
      have gd : ¬ d ≤ dp := by omega
      have ck := (HBW.out.cell (p := ⟨b2, off2 + k, none⟩) (by exact hb2)).trans HCELL.out
      clear hg hend hnx hone hpc hlen hp hf hyf hcell hdp
      go_wp2_with (go_at_call 8; (with_reducible refine HEE.out.mono ?_); rintro e w' ⟨rfl, rfl⟩)
      have HBR := Lib.hid (below_two' HB2.out HBW.out)
      go_wp2_with (go_at_call 18; (with_reducible refine (HPC.out _ (HPART.out _ HBR.out)).mono ?_))
      rintro e w3 ⟨rfl, hb3⟩
      have HBR3 := Lib.hid (below_two' HBR.out hb3)
      have HBW3 := Lib.hid (below_two' HBW.out hb3)
      have ck3 := (HBW3.out.cell (p := ⟨b2, off2 + k, none⟩) (by exact hb2)).trans HCELL.out
      clear ck hb3
      go_wp2_with (go_at_call 20; (with_reducible refine (HPD.out _ (HPART.out _ HBR3.out)).mono ?_))
      rintro e w4 ⟨rfl, hb4⟩
      have HBR4 := Lib.hid (below_two' HBR3.out hb4)
      have HBW4 := Lib.hid (below_two' HBW3.out hb4)
      clear ck3 hb4
      go_wp2_with (go_at_call 20; (with_reducible refine (HD.out _ (HREST.out _ HBR4.out)).mono ?_))
      rintro e w5 ⟨rfl, hb5⟩
      have HBW5 := Lib.hid (below_two' HBW4.out hb5)
      clear hb5
      go_wp2_with fail
      go_roundw
      case rel => exact ⟨k + 1, x + y, hlt, by simp, by rw [HF.out], HNX.out, HBW5.out⟩
      case measure => simp [intOf]; omega
    · obtain rfl : k = q := by omega
      have hxm : x = m := by have := HX.out; rw [HM.out] at this; cases this; rfl
      subst hxm
      have HBR := Lib.hid (below_two' HB2.out HBW.out)
      obtain ⟨z, hz⟩ : ∃ z, z = 1 + x := ⟨_, rfl⟩
      rw [← hz]
      obtain rfl : n = z := by omega
      clear hz
      go_wp2_with (go_at_call 7; (with_reducible refine (HAw.out _).mono ?_))
      rintro e w3 ⟨rfl, hb3⟩
      go_wp2_with fail
      go_ret
      exact ⟨rfl, below_two' HBR.out hb3⟩

set_option maxHeartbeats 1000000 in
theorem walk_TermParts (A : Option Addr) (n c : Nat) (l : List Tm) (w : World) (h : Tms w (.slice A n c) l) (hn : n = l.length) (hs : Small l) (hn63 : n ≤ 9223372036854775807) :
    Calls Try.prog 5 #[.slice A n c] w fun e w' => e = .returned (.bool true) ∧ Below w.heap.size w w' := by
  by_cases hch : chk l = 0
  · exact parts_yes A n c l w h hn hs hch
  · have HAw := Lib.hid awake_any
    by_cases h40 : 40 < n
    · clear h hn hs hch
      go_enter Try.func5, Try.ntmps5
      go_wp2_with (go_at_call 7; (with_reducible refine (HAw.out _).mono ?_))
      rintro e w3 ⟨rfl, hb3⟩
      go_wp2_with fail
      go_ret
      exact ⟨rfl, hb3⟩
    · have HC := Lib.hid (check_any A n c l hn (by omega) hs w h)
      obtain ⟨ch, hc⟩ : ∃ ch, ch = chk l := ⟨_, rfl⟩
      rw [← hc] at HC hch
      have g : (ch != 0) = true := by simp [hch]
      clear h hn hs hch hc
      go_enter Try.func5, Try.ntmps5
      go_wp2_with (go_at_call 18; (with_reducible refine HC.out.mono ?_))
      rintro e w2 ⟨rfl, hb2⟩
      have HB2 := Lib.hid hb2
      clear hb2
      go_wp2_with (go_at_call 7; (with_reducible refine (HAw.out _).mono ?_))
      rintro e w3 ⟨rfl, hb3⟩
      go_wp2_with fail
      go_ret
      exact ⟨rfl, below_two' HB2.out hb3⟩
end Go.Proofs.Ytdoiimifdiffiaa
