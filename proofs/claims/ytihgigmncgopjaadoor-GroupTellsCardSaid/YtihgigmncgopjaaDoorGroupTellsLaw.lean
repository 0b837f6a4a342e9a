/- The law of a set's list, of who is in it, and of it with and without a number, walked. Conditions: as the statement's own. -/
import Derived.Test.YtihgigmncgopjaaDoorGroupBackLaw
import Derived.Deep.Cut
import Derived.Deep.RegionHeld3
namespace Go.Proofs.YtihgigmncgopjaaDoor
open Go.RowKit Go.Shelf GroupSpec NamesSpec
set_option maxRecDepth 100000

attribute [local go_sem] Oper.semAt_some

/-- The rest without a number, as far as it is gone through. -/
def woTo (m : Nat) (i : Int) (k : Nat) : List Int := ((bitsL m).take k).filter fun x => !decide (x = i)
theorem wo_yes {m k : Nat} {i x : Int} (h : (bitsL m)[k]? = some x) (hx : x ≠ i) : woTo m i (k + 1) = woTo m i k ++ [x] := by
  unfold woTo
  rw [take_next h, List.filter_append]
  simp [hx]
theorem wo_no {m k : Nat} {i x : Int} (h : (bitsL m)[k]? = some x) (hx : x = i) : woTo m i (k + 1) = woTo m i k := by
  unfold woTo
  rw [take_next h, List.filter_append]
  simp [hx]
theorem wo_len (m : Nat) (i : Int) (k : Nat) : (woTo m i k).length ≤ 64 := by
  have h1 : (woTo m i k).length ≤ ((bitsL m).take k).length := List.length_filter_le _ _
  have h2 := bitsL_length m
  rw [List.length_take] at h1
  omega
theorem func_nil (f : Fn) (a l : Array Value) (W : World) : (binOp .eql 27 (.func f a l) .nilFunc).run Tryd.prog W = .ok (.bool false) W := by
  have h : ∀ d, (Op.equalIn (d + 1) 27 (.func f a l) .nilFunc).run Tryd.prog W = .ok false W := by
    intro d
    simp [Op.equalIn, Sem.run_bind, run_underlying Tryd.underlying27, Result.andThen]
  have h2 := h 9999
  simp [binOp, Op.equal, go_sem]
  rw [show Op.maxDepth = 9999 + 1 from rfl, h2]
  rfl
theorem with_app {m : Nat} (h : m < 2 ^ 64) (i : Int) : ofG ([i] ++ bitsL m) = withG m i := by
  rw [List.singleton_append]
  exact with_of h i
attribute [local irreducible] GroupSpec.bitsL GroupSpec.ofG GroupSpec.withG GroupSpec.withoutG GroupSpec.hasG
def WoRel (W : World) (m : Nat) (i : Int) (N : Nat) (p kv : Value) (wr : World) : Prop := ∃ k : Nat, k ≤ N ∧ kv = .int .i64 k ∧ RowI W wr p (woTo m i k)

set_option maxRecDepth 100000 in
set_option maxHeartbeats 8000000 in
theorem walk_GroupTells (x i : Int) (w : World) (hT : TabIn w) (hx : (Lit.int .u64 x).wf = true) (_ : (Lit.int .i64 i).wf = true) :
    Calls Tryd.prog 3 #[.int .u64 x, .int .i64 i] w fun e w' => e = .returned (.bool true) ∧ Below w.heap.size w w' := by
  obtain ⟨m, rfl, hm⟩ := nat_u64 hx
  clear hx
  obtain ⟨N, hN⟩ : ∃ N, (bitsL m).length = N := ⟨_, rfl⟩
  have hN64 : N ≤ 64 := by rw [← hN]; exact bitsL_length m
  have HN := Lib.hid hN
  have HT := Lib.hid hT
  obtain ⟨i0, hi, hz0, hz1, hz2⟩ := info_parts inf_int
  have HI := Lib.hid (And.intro hi (And.intro hz0 (And.intro hz1 hz2)))
  have HL1 : Hid (1 + (intV (bitsL m)).length ≤ maxLen) := Lib.hid (by rw [intV_length, hN]; unfold maxLen; omega)
  have HL2 : Hid ((1 + (intV (bitsL m)).length) * 8 ≤ 140737488355328) := Lib.hid (by rw [intV_length, hN]; omega)
  obtain ⟨hh, hhe⟩ : ∃ hh, hh = hasG m i := ⟨_, rfl⟩
  have HRH := Lib.hid (fun W => rhas_any16 m i hm W)
  rw [← hhe] at HRH
  have HH := Lib.hid hhe
  clear hT hN hi hz0 hz1 hz2 hhe
  refine (callsIn_wide (n := 5)).1 ?_
  refine callsIn_of_wp_marks Tryd.func3 rfl trivial ?_ rfl
  simp only [Tryd.ntmps3, List.size_toArray, List.length_cons, List.length_nil, Nat.reduceAdd, Nat.reduceSub, Array.replicate_succ, Array.replicate_zero, List.push_toArray, List.append_toArray, List.nil_append, List.cons_append]
  refine wpIn_wide.2 ?_
  go_wp2_with (go_at_call 5; go_fit (rlist_any m hm _); rintro e w1 h1; obtain ⟨A1, c1, rfl, hr1, hb1⟩ := retInts_shape h1; rw [HN.out] at hr1 ⊢; have HR1 := Lib.hid hr1; have HB1 := Lib.hid (below_two' (KitC.below_one w _) hb1); have HBR1 := Lib.hid (KitC.block_on (heap_alloc_new w (.cells #[.bool false] 4)) hb1); clear h1 hr1 hb1)
  obtain ⟨Wa, hWa⟩ : ∃ Wa, w1.alloc (.cells #[.slice A1 N c1] 23) = Wa := ⟨_, rfl⟩
  have bL := Boxed.new w1 23 (.slice A1 N c1)
  have hRa := HR1.out.keep (KitC.below_one w1 (.cells #[.slice A1 N c1] 23))
  rw [hWa] at bL hRa ⊢
  have HRa := Lib.hid (hRa.keep (KitC.below_one Wa (.cells #[.int .i64 i] 3)))
  have hcl := bL.cell
  have hcl2 := (bL.alloc (.cells #[.int .i64 i] 3)).cell
  have HOWN := Lib.hid (World.ownsRow_lit (base := Wa.heap.size) (e := 3) (size := 1) Wa #[.int .i64 i] 1 (Nat.le_refl _) (by decide) rfl)
  have HBa := Lib.hid (below_two' HB1.out (hWa ▸ KitC.below_one w1 (.cells #[.slice A1 N c1] 23)))
  have hRa' := Lib.hid hRa
  have hbR := Lib.hid (hWa ▸ KitC.block_on HBR1.out (KitC.below_one w1 (.cells #[.slice A1 N c1] 23)))
  clear hRa hWa
  go_fit (HRH.out _)
  rintro e w' ⟨rfl, rfl⟩
  go_upto_region 4 with (at_builtin; go_loud (refine wpList_append_rd _ rfl (.tmp 19) (.tmp 20) _ rfl Wa.heap.size 3 i0 (.int .i64 0) 8 Tryd.underlying23 HI.out.1 HI.out.2.1 HI.out.2.2.1 HI.out.2.2.2 rfl _ 1 [.int .i64 i] rfl HOWN.out _ (intV (bitsL m)) rfl HRa.out (intV_one _) HL1.out HL2.out (by simp) ?_); intro p2 w2 hrow2 hg2 _; have HROW2 := Lib.hid hrow2; have HG2 := Lib.hid hg2; clear hrow2 hg2)
  have HW : Hid (RowI Wa w2 p2 ([i] ++ bitsL m)) := Lib.hid (RowI.addB (xs := [i]) ⟨HOWN.out, KitC.below_one _ _⟩ HROW2.out HG2.out)
  have hW2 := HW.out.2
  have HBL2 := Lib.hid (KitC.block_on bL hW2)
  have HR2 := Lib.hid ((hRa'.out).keep hW2)
  have HBR2 := Lib.hid (KitC.block_on hbR.out hW2)
  have HB2 := Lib.hid (below_two' HBa.out hW2)
  have HNE : Hid (w.heap.size < w1.heap.size) := Lib.hid (Array.getElem?_eq_some_iff.1 HBR1.out).1
  clear hcl hcl2 bL hW2
  go_wp2_with fail
  go_loopw [8, 9] (fun p v wr => WoRel w2 m i N p v wr) (fun _ v _ => N - (intOf v).toNat)
  case atStart => exact ⟨0, Nat.zero_le _, rfl, ⟨World.ownsRow_lit w2 #[] 0 (Nat.le_refl _) (Nat.zero_le _) rfl, (Below.refl _ _).alloc (Nat.le_refl _) _⟩⟩
  case round =>
    obtain ⟨k, hk, rfl, hrow⟩ := hrel
    have HR := Lib.hid hrow
    have hbx : Boxed wr w1.heap.size 23 (.slice A1 N c1) := KitC.block_on HBL2.out HR.out.2
    have hcl := hbx.cell
    by_cases hlt : k < N
    · have hltI : (k : Int) < N := by omega
      obtain ⟨A3, n3, c3, heq, hn3, hc3, hA⟩ := (HR2.out.keep HR.out.2).ints
      cases heq
      obtain ⟨bb, off, rfl, hbb, hcell⟩ := hA (by omega)
      obtain ⟨y, hy⟩ : ∃ y, (bitsL m)[k]? = some y := get_some (by omega)
      have hck := hcell k y hy
      have HY := Lib.hid hy
      have HSZ : Hid (w2.heap.size ≤ wr.heap.size) := Lib.hid HR.out.2.size
      have hkl := wo_len m i k
      have HL3 : Hid ((woTo m i k).length + (intV [y]).length ≤ maxLen) := Lib.hid (by simp [maxLen]; omega)
      have HL4 : Hid (((woTo m i k).length + (intV [y]).length) * 8 ≤ 140737488355328) := Lib.hid (by simp; omega)
      clear hcell hA hn3 hc3 hkl hrow hy
      by_cases hyi : y = i
      · have g1 : (y != i) = false := by simpa using hyi
        have HS := Lib.hid (wo_no HY.out hyi)
        clear hyi
        go_wp2_with fail
        go_roundw
        case rel => exact ⟨k + 1, by omega, by go_num, by rw [HS.out]; exact HR.out⟩
        case measure => simp [intOf]; omega
      · have g1 : (y != i) = true := by simpa using hyi
        have HS := Lib.hid (wo_yes HY.out hyi)
        clear hyi
        go_wp2_with (at_builtin; refine wpList_append_rd _ rfl (.tmp 35) (.tmp 40) _ rfl w2.heap.size 3 i0 (.int .i64 0) 8 Tryd.underlying23 HI.out.1 HI.out.2.1 HI.out.2.2.1 HI.out.2.2.2 rfl _ _ _ rfl (HR.out.1.alloc _) _ (intV [y]) rfl (lit_here rfl rfl rfl) (intV_one _) HL3.out HL4.out ?_ ?_; (have := HSZ.out; simp; omega); intro p3 w3 hrow3 hg3 _; have HR3 := Lib.hid (RowI.add HR.out hrow3 hg3); clear hrow3 hg3)
        go_roundw
        case rel => exact ⟨k + 1, by omega, by go_num, by rw [HS.out]; exact HR3.out⟩
        case measure => simp [intOf]; omega
    · obtain rfl : k = N := by omega
      have HWO : Hid (woTo m i k = (bitsL m).filter fun x => !decide (x = i)) := Lib.hid (by unfold woTo; rw [List.take_of_length_le (by have := HN.out; omega)])
      rw [HWO.out] at HR
      have HB3 := Lib.hid (below_two' HB2.out HR.out.2)
      have qf := fun l W => func_nil (.func 18) #[] l W
      go_wp2_with (go_at_call 7; go_fit ((callsIn_wide (n := 3)).1 (each_in m 3 _)); rintro e w' ⟨rfl, rfl⟩)
      clear qf
      obtain ⟨M, hM1, hM2, hM3⟩ : ∃ M, M ≤ k ∧ M ≤ 2 ∧ (M < k → M = 2) := ⟨min k 2, by omega, by omega, by omega⟩
      have hNk : (bitsL m).length = k := HN.out
      have bN := (Boxed.new wr 3 (.int .i64 0)).alloc (.cells #[.int .u64 m] 22)
      have bS := Boxed.new (wr.alloc (.cells #[.int .i64 0] 3)) 22 (.int .u64 m)
      rw [World.size_alloc] at bS
      have hB0 : Below wr.heap.size wr ((wr.alloc (.cells #[.int .i64 0] 3)).alloc (.cells #[.int .u64 m] 22)) := KitC.below_pair _ _ _
      have hsz : ((wr.alloc (.cells #[.int .i64 0] 3)).alloc (.cells #[.int .u64 m] 22)).heap.size = wr.heap.size + 2 := by simp
      obtain ⟨W0, hW0⟩ : ∃ W0, (wr.alloc (.cells #[.int .i64 0] 3)).alloc (.cells #[.int .u64 m] 22) = W0 := ⟨_, rfl⟩
      rw [hW0] at bN bS hB0 hsz ⊢
      clear hW0
      have HTW := Lib.hid (HT.out.keep HB3.out)
      have HBL3 := Lib.hid (KitC.block_on HBL2.out HR.out.2)
      have HR3 := Lib.hid (HR2.out.keep HR.out.2)
      have HBR3 := Lib.hid (KitC.block_on HBR2.out HR.out.2)
      have HBS := Lib.hid bS
      have HB0 := Lib.hid hB0
      have HBN := Lib.hid bN
      clear bN bS hB0
      refine (wpIn_wide (n := 5)).1 ?_
      refine range_stop rfl (by omega) (gf := 18) (lb := #[.pointer (some ⟨wr.heap.size + 1, 0, none⟩)]) rfl trivial (enters_of Tryd.func18 (by kernel_rfl) rfl)
        (each_hands (5 - 1) (by omega) (wr.heap.size + 1) wr.heap.size m hm W0 HBS.out (HTW.out.keep HB0.out) HTW.out.pos) M (by omega) 2 (fun h k => h.trans k) (below_turn (by omega)) (fun _ => rfl)
        (fun j W => Boxed W wr.heap.size 3 (.int .i64 (j : Int)) ∧ Below wr.heap.size wr W) (OwnFrom.and (Own.from (boxed_own _ _ _) _) (ownFrom_below (Nat.le_refl _) (by omega))) ⟨HBN.out, HB0.out⟩
        (fun _ W => Boxed W wr.heap.size 3 (.int .i64 3) ∧ Below wr.heap.size wr W) (OwnFrom.and (Own.from (boxed_own _ _ _) _) (ownFrom_below (Nat.le_refl _) (by omega)))
        (fun j a' W => ∃ x : Int, (bitsL m)[j]? = some x ∧ a' = { tmps := #[.int .u64 m, .int .i64 i, undef, undef, .pointer (some ⟨w.heap.size, 0, none⟩), .pointer (some ⟨w1.heap.size, 0, none⟩), .bool hh, p2, u8, .int .i64 k, .pointer (some ⟨wr.heap.size, 0, none⟩), .func (.func 18) #[] #[.pointer (some ⟨wr.heap.size + 1, 0, none⟩)], .int .i64 x, .int .u64 m, .slice A1 k c1, .int .u64 m, .int .i64 i, .bool hh, .int .i64 i, .slice (some ⟨Wa.heap.size, 0, none⟩) 1 1, .slice A1 k c1, p2, .slice (some ⟨w2.heap.size, 0, none⟩) 0 0, .int .i64 k, .slice A1 k c1, .int .i64 k, .bool false, u27, u28, u29, u30, u31, u32, u33, u34, u35, u36, u37, u38, u39, u40, u41, .int .u64 m, .func (.func 18) #[] #[.pointer (some ⟨wr.heap.size + 1, 0, none⟩)], .func (.func 18) #[] #[.pointer (some ⟨wr.heap.size + 1, 0, none⟩)], .bool false, .func (.func 18) #[] #[.pointer (some ⟨wr.heap.size + 1, 0, none⟩)], .int .i64 x, undef, undef, undef, undef, undef, undef, undef, undef, undef, undef, undef, undef, undef, undef, undef, undef, undef, undef, undef, undef, undef, undef, undef, undef, undef, undef, undef, undef, undef, undef, undef, undef, undef, undef, undef, undef, undef, undef, undef, undef, undef, undef, undef, undef, undef, undef, undef, undef, undef, undef, undef, undef, undef, undef, undef, undef, undef, undef, undef, undef, undef], defers := [] })
        (fun a' s X Y row hs _ _ => hs)
        ?assign ?body ?last ?done ?stop
      case assign =>
        rintro lp q W K hq hI hK
        have hx := (rest_more hm hq).2
        obtain ⟨x, hxe⟩ : ∃ x : Int, x = (Lib.ctz 64 (restG m q) : Int) := ⟨_, rfl⟩
        have he : encE m q = #[.int .i64 x] := by rw [hxe]; rfl
        rw [← hxe] at hx
        rw [he]
        have HK := Lib.hid hK
        have HIH := Lib.hid hI
        have HX := Lib.hid hx
        clear hI hK hxe he hx
        gi_wp2
        exact HK.out _ _ (keepsFrom_below' (Below.refl _ _)) (Below.refl _ _) HIH.out ⟨x, HX.out, rfl⟩
      case body =>
        rintro lp q a' W hq hI ⟨x, hx, rfl⟩
        obtain ⟨hn, hbel⟩ := hI
        have hc := hn.cell
        have hf := hn.frozen
        have hbl : Boxed W w1.heap.size 23 (.slice A1 k c1) := KitC.block_on HBL3.out hbel
        have hcl := hbl.cell
        obtain ⟨A3, n3, c3, heq, hn3, hc3, hA⟩ := (HR3.out.keep hbel).ints
        cases heq
        obtain ⟨bb, off, rfl, hbb, hcell⟩ := hA (by omega)
        have hck := hcell q x hx
        have hqI : (q : Int) < k := by omega
        have g1 : (x != x) = false := by simp
        have g3 : ¬ (k : Int) ≤ (q : Int) := by omega
        have g4 : decide ((k : Int) ≤ (q : Int)) = false := decide_eq_false g3
        have g5 : ¬ k ≤ q := by omega
        have g6 : decide (k ≤ q) = false := decide_eq_false g5
        have g2 : ((q : Int) + 1 == 3) = false := by simp; omega
        have HBEL := Lib.hid hbel
        have HBX := Lib.hid hn
        clear hcell hA hn3 hc3 hx hbel hbl hn
        gi_wp2
        exact ⟨(KeepsOthers.setCell _ _ _).from _, (Below.refl _ W).setCell (p := ⟨wr.heap.size, 0, none⟩) (Nat.le_refl _) _, HBX.out.set _, HBEL.out.setCell (p := ⟨wr.heap.size, 0, none⟩) (Nat.le_refl _) _⟩
      case last =>
        rintro lp a' W hMk hI ⟨x, hx, rfl⟩
        obtain rfl : M = 2 := hM3 (by omega)
        obtain ⟨hn, hbel⟩ := hI
        have hc := hn.cell
        have hf := hn.frozen
        have hbl : Boxed W w1.heap.size 23 (.slice A1 k c1) := KitC.block_on HBL3.out hbel
        have hcl := hbl.cell
        obtain ⟨A3, n3, c3, heq, hn3, hc3, hA⟩ := (HR3.out.keep hbel).ints
        cases heq
        obtain ⟨bb, off, rfl, hbb, hcell⟩ := hA (by omega)
        have hck := hcell 2 x hx
        have hqI : (2 : Int) < k := by omega
        have g1 : (x != x) = false := by simp
        have g3 : ¬ (k : Int) ≤ (2 : Int) := by omega
        have g4 : decide ((k : Int) ≤ (2 : Int)) = false := decide_eq_false g3
        have g5 : ¬ k ≤ 2 := by omega
        have g6 : decide (k ≤ 2) = false := decide_eq_false g5
        have g7 : (2 : Int) < k := by omega
        have HBEL := Lib.hid hbel
        have HBX := Lib.hid hn
        clear hcell hA hn3 hc3 hx hbel hbl hn
        gi_wp2
        exact ⟨(KeepsOthers.setCell _ _ _).from _, HBX.out.set _, HBEL.out.setCell (p := ⟨wr.heap.size, 0, none⟩) (Nat.le_refl _) _⟩
      case done =>
        rintro D W hD hMk ⟨hn, hbel⟩ hK
        have HB4 := Lib.hid (below_two' HB3.out hbel)
        have HBX := Lib.hid hbel
        have hc := hn.cell
        have HK : Hid (∀ U, Below W.heap.size W U → U.cell? ⟨w1.heap.size, 0, none⟩ = some (.slice A1 k c1) ∧ U.cell? ⟨w.heap.size, 0, none⟩ = some (.bool false) ∧ U.frozen? ⟨w.heap.size, 0, none⟩ = false ∧ U.heap[D]? = some (.deferred (some [])) ∧ Boxed U w.heap.size 4 (.bool false)) := Lib.hid fun U hU => by
          have h1 : Boxed U w1.heap.size 23 (.slice A1 k c1) := KitC.block_on (KitC.block_on HBL3.out HBX.out) hU
          have h2 : Boxed U w.heap.size 4 (.bool false) := KitC.block_on (KitC.block_on HBR3.out HBX.out) hU
          exact ⟨h1.cell, h2.cell, h2.frozen, KitC.block_on hK hU, h2⟩
        obtain ⟨hcl, -, -, -⟩ := HK.out _ (Below.refl _ _)
        have HBX0 : Hid (wr.heap.size ≤ D ∧ w1.heap.size ≤ wr.heap.size) := Lib.hid ⟨by omega, by have := (Array.getElem?_eq_some_iff.1 HBL3.out).1; omega⟩
        clear hn hbel hK
        have g1 : ((k : Int) != (k : Int)) = false := by simp
        (try simp only [Exit.inBlock, Exit.then])
        go_upto_region 21 with (fail)
        have HLS := Lib.hid (fun U (hU : Below W.heap.size W U) => list_any m hm U (HT.out.keep (below_two' HB4.out hU)))
        have HSM := Lib.hid (fun v U (hU : Below W.heap.size W U) (hv : Rd U v (intV (bitsL m))) => same_yes v (.slice A1 k c1) (bitsL m) U hv ((HR3.out.keep HBX.out).keep hU) (by rw [HN.out]; omega))
        have HHA := Lib.hid (fun U => has_any m i hm U)
        rw [← HH.out] at HHA
        have HCN := Lib.hid (fun U => count_any m hm U)
        rw [HN.out] at HCN
        obtain ⟨wi, hwi⟩ : ∃ wi, wi = withG m i := ⟨_, rfl⟩
        obtain ⟨wo, hwo⟩ : ∃ wo, wo = withoutG m i := ⟨_, rfl⟩
        have HWA := Lib.hid (fun U => with_any m i hm U)
        have HWB := Lib.hid (fun U => without_any m i hm U)
        have HRA := Lib.hid (fun U (hU : Below W.heap.size W U) => rof_any16 p2 ([i] ++ bitsL m) U (((HW.out.read.keep HR.out.2).keep HBX.out).keep hU) (by rw [List.length_append, HN.out]; simp; omega))
        have HRB := Lib.hid (fun U (hU : Below W.heap.size W U) => rof_any16 u8 ((bitsL m).filter fun x => !decide (x = i)) U ((HR.out.read.keep HBX.out).keep hU) (by have h1 : ((bitsL m).filter fun x => !decide (x = i)).length ≤ (bitsL m).length := List.length_filter_le _ _; rw [HN.out] at h1; omega))
        rw [with_app hm, ← hwi] at HRA
        rw [without_of, ← hwo] at HRB
        rw [← hwi] at HWA
        rw [← hwo] at HWB
        have HAW := Lib.hid (fun U (hU : Below W.heap.size W U) => gawake_any U (HT.out.keep (below_two' HB4.out hU)))
        have r1 : (hh == hh) = true := by simp
        have r2 : ((k : Int) == (k : Int)) = true := by simp
        have r3 : ((wi : Int) == (wi : Int)) = true := by simp
        have r4 : ((wo : Int) == (wo : Int)) = true := by simp
        clear hwi hwo
        have HSC : Hid (∀ (U : World) (v : Value), (U.setCell ⟨w.heap.size, 0, none⟩ v).cell? ⟨w1.heap.size, 0, none⟩ = U.cell? ⟨w1.heap.size, 0, none⟩) := Lib.hid fun U v => by
          have h1 := HNE.out
          unfold World.cell?
          rw [show (U.setCell ⟨w.heap.size, 0, none⟩ v).heap[w1.heap.size]? = U.heap[w1.heap.size]? from Below.heap_setCell _ _ _ _ (by show w1.heap.size ≠ w.heap.size; omega)]
        have hdr : Below W.heap.size W W.drew := (Below.refl _ _).drew
        obtain ⟨z1, z2, z3, -⟩ := HK.out _ hdr
        go_region_held3 (fun w' => w'.cell? ⟨w1.heap.size, 0, none⟩ = some (.slice A1 k c1)) (first | go_keep | exact (HSC.out _ _).trans (by assumption))
          ((first
            | (go_at_call 9; (with_reducible refine (HLS.out _ (by assumption)).mono ?_); rintro e y1 h1; obtain ⟨A5, c5, rfl, hr5, hb5⟩ := retInts_shape h1; rw [HN.out] at hr5; have f1 := below_two' (show Below W.heap.size W _ by assumption) hb5; obtain ⟨z4, z5, z6, -⟩ := HK.out _ f1; clear h1)
            | (go_at_call 8; (with_reducible refine (HSM.out _ _ (by assumption) (by assumption)).mono ?_); rintro e y2 ⟨rfl, hb6⟩; have f2 := below_two' (show Below W.heap.size W _ by assumption) hb6; obtain ⟨z7, z8, z9, -⟩ := HK.out _ f2)
            | (go_at_call 10; (with_reducible refine (HHA.out _).mono ?_); rintro e y3 ⟨rfl, rfl⟩)
            | (go_at_call 11; (with_reducible refine (HCN.out _).mono ?_); rintro e y4 ⟨rfl, rfl⟩)
            | (go_at_call 12; (with_reducible refine (HWA.out _).mono ?_); rintro e y5 ⟨rfl, rfl⟩)
            | (go_at_call 14; (with_reducible refine (HWB.out _).mono ?_); rintro e y6 ⟨rfl, rfl⟩)
            | (go_at_call 13; (with_reducible refine (HRA.out _ (by assumption)).mono ?_); rintro e y7 ⟨rfl, rfl⟩)
            | (go_at_call 13; (with_reducible refine (HRB.out _ (by assumption)).mono ?_); rintro e y8 ⟨rfl, rfl⟩)
            | (go_at_call 15; (with_reducible refine (HAW.out _ (by assumption)).mono ?_); rintro e y9 ⟨rfl, hb9⟩; have f9 := below_two' (show Below W.heap.size W _ by assumption) hb9; have F9 := Lib.hid f9; obtain ⟨za, zb, zc, -⟩ := HK.out _ f9)))
        go_wp2_with fail
        obtain ⟨-, -, -, zd, ze⟩ := HK.out _ F9.out
        have hDne : D ≠ w.heap.size := by have := HNE.out; have := HBX0.out; omega
        have hKf : (y9.setCell ⟨w.heap.size, 0, none⟩ (.bool true)).heap[D]? = some (.deferred (some [])) := (Below.heap_setCell _ _ _ _ hDne).trans zd
        have hbx : Boxed ((y9.setCell ⟨w.heap.size, 0, none⟩ (.bool true)).putObj D (.deferred none)) w.heap.size 4 (.bool true) := (World.putObj_heap_other hDne.symm).trans (ze.set (.bool true))
        have hce := hbx.cell
        refine ⟨by simp, .inl ⟨_, _, rfl, run_takeDeferred hKf, ?_⟩⟩
        refine ⟨.bool true, by simp [results, Tryd.results3, go_sem, hce], rfl, ?_⟩
        refine ((below_two' HB4.out F9.out).setCell (p := ⟨w.heap.size, 0, none⟩) (Nat.le_refl _) _).trans (belowK_b (w := w) (Nat.le_refl _) _ D _ _ (by have := HNE.out; have := HBX0.out; omega) hKf rfl rfl)
      case stop =>
        rintro D W hD hMk ⟨hn, hbel⟩ hK
        have HB4 := Lib.hid (below_two' HB3.out hbel)
        have HBX := Lib.hid hbel
        have hc := hn.cell
        have HK : Hid (∀ U, Below W.heap.size W U → U.cell? ⟨w1.heap.size, 0, none⟩ = some (.slice A1 k c1) ∧ U.cell? ⟨w.heap.size, 0, none⟩ = some (.bool false) ∧ U.frozen? ⟨w.heap.size, 0, none⟩ = false ∧ U.heap[D]? = some (.deferred (some [])) ∧ Boxed U w.heap.size 4 (.bool false)) := Lib.hid fun U hU => by
          have h1 : Boxed U w1.heap.size 23 (.slice A1 k c1) := KitC.block_on (KitC.block_on HBL3.out HBX.out) hU
          have h2 : Boxed U w.heap.size 4 (.bool false) := KitC.block_on (KitC.block_on HBR3.out HBX.out) hU
          exact ⟨h1.cell, h2.cell, h2.frozen, KitC.block_on hK hU, h2⟩
        obtain ⟨hcl, -, -, -⟩ := HK.out _ (Below.refl _ _)
        have HBX0 : Hid (wr.heap.size ≤ D ∧ w1.heap.size ≤ wr.heap.size) := Lib.hid ⟨by omega, by have := (Array.getElem?_eq_some_iff.1 HBL3.out).1; omega⟩
        clear hn hbel hK
        refine wpIn_wide.2 ?_
        by_cases hk3 : k = 3
        · have g1 : ((3 : Int) != (k : Int)) = false := by simp; omega
          clear hk3
          go_upto_region 21 with (fail)
          have HLS := Lib.hid (fun U (hU : Below W.heap.size W U) => list_any m hm U (HT.out.keep (below_two' HB4.out hU)))
          have HSM := Lib.hid (fun v U (hU : Below W.heap.size W U) (hv : Rd U v (intV (bitsL m))) => same_yes v (.slice A1 k c1) (bitsL m) U hv ((HR3.out.keep HBX.out).keep hU) (by rw [HN.out]; omega))
          have HHA := Lib.hid (fun U => has_any m i hm U)
          rw [← HH.out] at HHA
          have HCN := Lib.hid (fun U => count_any m hm U)
          rw [HN.out] at HCN
          obtain ⟨wi, hwi⟩ : ∃ wi, wi = withG m i := ⟨_, rfl⟩
          obtain ⟨wo, hwo⟩ : ∃ wo, wo = withoutG m i := ⟨_, rfl⟩
          have HWA := Lib.hid (fun U => with_any m i hm U)
          have HWB := Lib.hid (fun U => without_any m i hm U)
          have HRA := Lib.hid (fun U (hU : Below W.heap.size W U) => rof_any16 p2 ([i] ++ bitsL m) U (((HW.out.read.keep HR.out.2).keep HBX.out).keep hU) (by rw [List.length_append, HN.out]; simp; omega))
          have HRB := Lib.hid (fun U (hU : Below W.heap.size W U) => rof_any16 u8 ((bitsL m).filter fun x => !decide (x = i)) U ((HR.out.read.keep HBX.out).keep hU) (by have h1 : ((bitsL m).filter fun x => !decide (x = i)).length ≤ (bitsL m).length := List.length_filter_le _ _; rw [HN.out] at h1; omega))
          rw [with_app hm, ← hwi] at HRA
          rw [without_of, ← hwo] at HRB
          rw [← hwi] at HWA
          rw [← hwo] at HWB
          have HAW := Lib.hid (fun U (hU : Below W.heap.size W U) => gawake_any U (HT.out.keep (below_two' HB4.out hU)))
          have r1 : (hh == hh) = true := by simp
          have r2 : ((k : Int) == (k : Int)) = true := by simp
          have r3 : ((wi : Int) == (wi : Int)) = true := by simp
          have r4 : ((wo : Int) == (wo : Int)) = true := by simp
          clear hwi hwo
          have HSC : Hid (∀ (U : World) (v : Value), (U.setCell ⟨w.heap.size, 0, none⟩ v).cell? ⟨w1.heap.size, 0, none⟩ = U.cell? ⟨w1.heap.size, 0, none⟩) := Lib.hid fun U v => by
            have h1 := HNE.out
            unfold World.cell?
            rw [show (U.setCell ⟨w.heap.size, 0, none⟩ v).heap[w1.heap.size]? = U.heap[w1.heap.size]? from Below.heap_setCell _ _ _ _ (by show w1.heap.size ≠ w.heap.size; omega)]
          have hdr : Below W.heap.size W W.drew := (Below.refl _ _).drew
          obtain ⟨z1, z2, z3, -⟩ := HK.out _ hdr
          go_region_held3 (fun w' => w'.cell? ⟨w1.heap.size, 0, none⟩ = some (.slice A1 k c1)) (first | go_keep | exact (HSC.out _ _).trans (by assumption))
            ((first
              | (go_at_call 9; (with_reducible refine (HLS.out _ (by assumption)).mono ?_); rintro e y1 h1; obtain ⟨A5, c5, rfl, hr5, hb5⟩ := retInts_shape h1; rw [HN.out] at hr5; have f1 := below_two' (show Below W.heap.size W _ by assumption) hb5; obtain ⟨z4, z5, z6, -⟩ := HK.out _ f1; clear h1)
              | (go_at_call 8; (with_reducible refine (HSM.out _ _ (by assumption) (by assumption)).mono ?_); rintro e y2 ⟨rfl, hb6⟩; have f2 := below_two' (show Below W.heap.size W _ by assumption) hb6; obtain ⟨z7, z8, z9, -⟩ := HK.out _ f2)
              | (go_at_call 10; (with_reducible refine (HHA.out _).mono ?_); rintro e y3 ⟨rfl, rfl⟩)
              | (go_at_call 11; (with_reducible refine (HCN.out _).mono ?_); rintro e y4 ⟨rfl, rfl⟩)
              | (go_at_call 12; (with_reducible refine (HWA.out _).mono ?_); rintro e y5 ⟨rfl, rfl⟩)
              | (go_at_call 14; (with_reducible refine (HWB.out _).mono ?_); rintro e y6 ⟨rfl, rfl⟩)
              | (go_at_call 13; (with_reducible refine (HRA.out _ (by assumption)).mono ?_); rintro e y7 ⟨rfl, rfl⟩)
              | (go_at_call 13; (with_reducible refine (HRB.out _ (by assumption)).mono ?_); rintro e y8 ⟨rfl, rfl⟩)
              | (go_at_call 15; (with_reducible refine (HAW.out _ (by assumption)).mono ?_); rintro e y9 ⟨rfl, hb9⟩; have f9 := below_two' (show Below W.heap.size W _ by assumption) hb9; have F9 := Lib.hid f9; obtain ⟨za, zb, zc, -⟩ := HK.out _ f9)))
          go_wp2_with fail
          obtain ⟨-, -, -, zd, ze⟩ := HK.out _ F9.out
          have hDne : D ≠ w.heap.size := by have := HNE.out; have := HBX0.out; omega
          have hKf : (y9.setCell ⟨w.heap.size, 0, none⟩ (.bool true)).heap[D]? = some (.deferred (some [])) := (Below.heap_setCell _ _ _ _ hDne).trans zd
          have hbx : Boxed ((y9.setCell ⟨w.heap.size, 0, none⟩ (.bool true)).putObj D (.deferred none)) w.heap.size 4 (.bool true) := (World.putObj_heap_other hDne.symm).trans (ze.set (.bool true))
          have hce := hbx.cell
          refine ⟨by simp, .inl ⟨_, _, rfl, run_takeDeferred hKf, ?_⟩⟩
          refine ⟨.bool true, by simp [results, Tryd.results3, go_sem, hce], rfl, ?_⟩
          refine ((below_two' HB4.out F9.out).setCell (p := ⟨w.heap.size, 0, none⟩) (Nat.le_refl _) _).trans (belowK_b (w := w) (Nat.le_refl _) _ D _ _ (by have := HNE.out; have := HBX0.out; omega) hKf rfl rfl)
        · have g1 : ((3 : Int) != (k : Int)) = true := by simp; omega
          clear hk3
          go_upto_region 21 with (fail)
          have HLS := Lib.hid (fun U (hU : Below W.heap.size W U) => list_any m hm U (HT.out.keep (below_two' HB4.out hU)))
          have HSM := Lib.hid (fun v U (hU : Below W.heap.size W U) (hv : Rd U v (intV (bitsL m))) => same_yes v (.slice A1 k c1) (bitsL m) U hv ((HR3.out.keep HBX.out).keep hU) (by rw [HN.out]; omega))
          have HHA := Lib.hid (fun U => has_any m i hm U)
          rw [← HH.out] at HHA
          have HCN := Lib.hid (fun U => count_any m hm U)
          rw [HN.out] at HCN
          obtain ⟨wi, hwi⟩ : ∃ wi, wi = withG m i := ⟨_, rfl⟩
          obtain ⟨wo, hwo⟩ : ∃ wo, wo = withoutG m i := ⟨_, rfl⟩
          have HWA := Lib.hid (fun U => with_any m i hm U)
          have HWB := Lib.hid (fun U => without_any m i hm U)
          have HRA := Lib.hid (fun U (hU : Below W.heap.size W U) => rof_any16 p2 ([i] ++ bitsL m) U (((HW.out.read.keep HR.out.2).keep HBX.out).keep hU) (by rw [List.length_append, HN.out]; simp; omega))
          have HRB := Lib.hid (fun U (hU : Below W.heap.size W U) => rof_any16 u8 ((bitsL m).filter fun x => !decide (x = i)) U ((HR.out.read.keep HBX.out).keep hU) (by have h1 : ((bitsL m).filter fun x => !decide (x = i)).length ≤ (bitsL m).length := List.length_filter_le _ _; rw [HN.out] at h1; omega))
          rw [with_app hm, ← hwi] at HRA
          rw [without_of, ← hwo] at HRB
          rw [← hwi] at HWA
          rw [← hwo] at HWB
          have HAW := Lib.hid (fun U (hU : Below W.heap.size W U) => gawake_any U (HT.out.keep (below_two' HB4.out hU)))
          have r1 : (hh == hh) = true := by simp
          have r2 : ((k : Int) == (k : Int)) = true := by simp
          have r3 : ((wi : Int) == (wi : Int)) = true := by simp
          have r4 : ((wo : Int) == (wo : Int)) = true := by simp
          clear hwi hwo
          have HSC : Hid (∀ (U : World) (v : Value), (U.setCell ⟨w.heap.size, 0, none⟩ v).cell? ⟨w1.heap.size, 0, none⟩ = U.cell? ⟨w1.heap.size, 0, none⟩) := Lib.hid fun U v => by
            have h1 := HNE.out
            unfold World.cell?
            rw [show (U.setCell ⟨w.heap.size, 0, none⟩ v).heap[w1.heap.size]? = U.heap[w1.heap.size]? from Below.heap_setCell _ _ _ _ (by show w1.heap.size ≠ w.heap.size; omega)]
          have hdr : Below W.heap.size W W.drew := (Below.refl _ _).drew
          obtain ⟨z1, z2, z3, -⟩ := HK.out _ hdr
          go_region_held3 (fun w' => w'.cell? ⟨w1.heap.size, 0, none⟩ = some (.slice A1 k c1)) (first | go_keep | exact (HSC.out _ _).trans (by assumption))
            ((first
              | (go_at_call 9; (with_reducible refine (HLS.out _ (by assumption)).mono ?_); rintro e y1 h1; obtain ⟨A5, c5, rfl, hr5, hb5⟩ := retInts_shape h1; rw [HN.out] at hr5; have f1 := below_two' (show Below W.heap.size W _ by assumption) hb5; obtain ⟨z4, z5, z6, -⟩ := HK.out _ f1; clear h1)
              | (go_at_call 8; (with_reducible refine (HSM.out _ _ (by assumption) (by assumption)).mono ?_); rintro e y2 ⟨rfl, hb6⟩; have f2 := below_two' (show Below W.heap.size W _ by assumption) hb6; obtain ⟨z7, z8, z9, -⟩ := HK.out _ f2)
              | (go_at_call 10; (with_reducible refine (HHA.out _).mono ?_); rintro e y3 ⟨rfl, rfl⟩)
              | (go_at_call 11; (with_reducible refine (HCN.out _).mono ?_); rintro e y4 ⟨rfl, rfl⟩)
              | (go_at_call 12; (with_reducible refine (HWA.out _).mono ?_); rintro e y5 ⟨rfl, rfl⟩)
              | (go_at_call 14; (with_reducible refine (HWB.out _).mono ?_); rintro e y6 ⟨rfl, rfl⟩)
              | (go_at_call 13; (with_reducible refine (HRA.out _ (by assumption)).mono ?_); rintro e y7 ⟨rfl, rfl⟩)
              | (go_at_call 13; (with_reducible refine (HRB.out _ (by assumption)).mono ?_); rintro e y8 ⟨rfl, rfl⟩)
              | (go_at_call 15; (with_reducible refine (HAW.out _ (by assumption)).mono ?_); rintro e y9 ⟨rfl, hb9⟩; have f9 := below_two' (show Below W.heap.size W _ by assumption) hb9; have F9 := Lib.hid f9; obtain ⟨za, zb, zc, -⟩ := HK.out _ f9)))
          go_wp2_with fail
          obtain ⟨-, -, -, zd, ze⟩ := HK.out _ F9.out
          have hDne : D ≠ w.heap.size := by have := HNE.out; have := HBX0.out; omega
          have hKf : (y9.setCell ⟨w.heap.size, 0, none⟩ (.bool true)).heap[D]? = some (.deferred (some [])) := (Below.heap_setCell _ _ _ _ hDne).trans zd
          have hbx : Boxed ((y9.setCell ⟨w.heap.size, 0, none⟩ (.bool true)).putObj D (.deferred none)) w.heap.size 4 (.bool true) := (World.putObj_heap_other hDne.symm).trans (ze.set (.bool true))
          have hce := hbx.cell
          refine ⟨by simp, .inl ⟨_, _, rfl, run_takeDeferred hKf, ?_⟩⟩
          refine ⟨.bool true, by simp [results, Tryd.results3, go_sem, hce], rfl, ?_⟩
          refine ((below_two' HB4.out F9.out).setCell (p := ⟨w.heap.size, 0, none⟩) (Nat.le_refl _) _).trans (belowK_b (w := w) (Nat.le_refl _) _ D _ _ (by have := HNE.out; have := HBX0.out; omega) hKf rfl rfl)
end Go.Proofs.YtihgigmncgopjaaDoor
