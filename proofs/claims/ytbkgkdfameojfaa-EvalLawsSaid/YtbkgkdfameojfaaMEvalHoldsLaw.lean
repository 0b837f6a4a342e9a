/- EvalHoldsLaw, joined. -/
import Derived.Test.YtbkgkdfameojfaaMEvalHolds
import Derived.Test.YtbkgkdfameojfaaMEvalFine
import Derived.Laws.Tables
namespace Go.Proofs.Ytbkgkdfameojfaa
open Go.RowKit TermSpec EvalSpec
set_option maxRecDepth 100000

theorem inf_term : (Try.prog.info? 39).map (fun i => (i.zero, i.size, i.bytes)) = some (some (.agg #[.int .i64 0, .int .i64 0, .string ByteArray.empty]), 3, 32) := by kernel_rfl
/-- A list of terms of the call's own. -/
def RowT (W wr : World) (p : Value) (xs : List Tm) : Prop := wr.ownsRow W.heap.size 39 3 p xs.length (tmsV xs) ∧ Below W.heap.size W wr
theorem tmsV_append (a b : List Tm) : tmsV a ++ tmsV b = tmsV (a ++ b) := by unfold tmsV; rw [List.flatMap_append]
theorem RowT.keep {W w w' : World} {p : Value} {xs : List Tm} (h : RowT W w p xs) (hb : Below w.heap.size w w') : RowT W w' p xs := ⟨own_keep h.1 hb, below_two' h.2 hb⟩
theorem RowT.add {W wr w2 : World} {p p' : Value} {xs ys : List Tm} (h : RowT W wr p xs) (hrow : w2.ownsRow W.heap.size 39 3 p' (xs.length + ys.length) (tmsV xs ++ tmsV ys)) (hg : wr.grownBy w2 p.ownBlock) : RowT W w2 p' (xs ++ ys) := by
  refine ⟨?_, h.2.grown hg h.2.size (fun j hj => (own_block_bd h.1 j hj).1)⟩
  rw [← tmsV_append, List.length_append]
  exact hrow
theorem tb_one' (a : Int) (w : World) : (Instr.build 39 #[(0, .int .i64 a)]).run Try.prog w = .ok (.agg #[.int .i64 a, .int .i64 0, .string ⟨#[]⟩]) w := run_build w 39 _ _ (by kernel_rfl)
theorem RowT.tms {W wr : World} {p : Value} {xs : List Tm} (h : RowT W wr p xs) : Tms wr p xs := ⟨xs.length, rfl, Rdk.own h.1⟩
theorem Tms.rdk {w : World} {A : Option Addr} {n c : Nat} {l : List Tm} (h : Tms w (.slice A n c) l) : Rdk 3 w (.slice A n c) l.length (tmsV l) := by
  obtain ⟨m, hm, hR⟩ := h
  rw [← hm]; exact hR
theorem shape_len {v : Value} {n k : Nat} (h : ∃ A c, v = .slice A n c) (hk : n = k) : ∃ A m c, m = k ∧ v = .slice A m c := by
  obtain ⟨A, c, h⟩ := h
  exact ⟨A, n, c, hk, h⟩
def HdRel (W : World) (os : List Int) (n : Nat) (p i : Value) (wr : World) : Prop := ∃ k : Nat, k ≤ n ∧ i = .int .i64 k ∧ RowT W wr p ((os.take k).map opE)
set_option maxHeartbeats 4000000 in
theorem lholds_any (p : EP) (e : Ev) (vh : Value) (os : List Int) (A1 : Option Addr) (n1 c1 : Nat) (a : List Tm) (A2 : Option Addr) (n2 c2 : Nat) (b : List Tm) (w : World)
    (ho : Rd w vh (intV os)) (ha : Tms w (.slice A1 n1 c1) a) (hb : Tms w (.slice A2 n2 c2) b) (he : EnvIn w p e) (hlo : os.length ≤ 10) (hla : a.length ≤ 100) (hlb : b.length ≤ 100) (hsa : Small a) (hsb : Small b) :
    Calls Try.prog 15 #[envV p e, vh, .slice A1 n1 c1, .slice A2 n2 c2] w (RetB w (holdsE e (os.map opE ++ a ++ b))) := by
  obtain ⟨A0, n0, c0, rfl, hn0, _, hA0⟩ := ho.ints
  have HA0 := Lib.hid hA0
  have HN0 := Lib.hid hn0
  have HTA := Lib.hid ha
  have HTB := Lib.hid hb
  have HEN := Lib.hid he
  have HSM : Hid (Small (os.map opE ++ a ++ b)) := Lib.hid (by
    intro t ht
    rcases List.mem_append.1 ht with h | h
    · rcases List.mem_append.1 h with h | h
      · obtain ⟨o, _, rfl⟩ := List.mem_map.1 h
        exact Nat.zero_le _
      · exact hsa t h
    · exact hsb t h)
  have hlen : (os.map opE ++ a ++ b).length ≤ 210 := by simp only [List.length_append, List.length_map]; omega
  obtain ⟨r, hr⟩ : ∃ r, r = holdsE e (os.map opE ++ a ++ b) := ⟨_, rfl⟩
  have HHO : Hid (∀ (A : Option Addr) n c w, n = (os.map opE ++ a ++ b).length → Tms w (.slice A n c) (os.map opE ++ a ++ b) → EnvIn w p e → Calls Try.prog 10 #[.slice A n c, envV p e] w (RetB w r)) := Lib.hid (fun A n c w hn h h' => by rw [hr]; exact holds_any p e A n c _ hn (by omega) HSM.out w h h')
  rw [← hr]
  clear hr hlen
  have htb := tb_one'
  obtain ⟨i0, hi, hz0, hz1, hz2⟩ := info_parts inf_term
  have HI := Lib.hid (And.intro hi (And.intro hz0 (And.intro hz1 hz2)))
  obtain ⟨vA, vn, vc, iA, im, ic⟩ := p
  obtain ⟨vars, v0, v1, v2, v3, ins⟩ := e
  change Calls _ _ #[.agg #[.slice vA vn vc, .int .i64 v0, .int .i64 v1, .int .i64 v2, .int .i64 v3, .slice iA im ic], .slice A0 n0 c0, .slice A1 n1 c1, .slice A2 n2 c2] _ _
  have hn10 : n0 ≤ 10 := by omega
  clear ho ha hb he hA0 hn0 hi hz0 hz1 hz2
  go_enter Try.func15, Try.ntmps15
  go_wp2_with fail
  obtain ⟨w1, hw1⟩ : ∃ w1, w.alloc (.cells #[.slice vA vn vc, .int .i64 v0, .int .i64 v1, .int .i64 v2, .int .i64 v3, .slice iA im ic] 27) = w1 := ⟨_, rfl⟩
  have hbk := heap_alloc_new w (.cells #[.slice vA vn vc, .int .i64 v0, .int .i64 v1, .int .i64 v2, .int .i64 v3, .slice iA im ic] 27)
  have hbl := KitC.below_one w (.cells #[.slice vA vn vc, .int .i64 v0, .int .i64 v1, .int .i64 v2, .int .i64 v3, .slice iA im ic] 27)
  rw [hw1] at hbk hbl ⊢
  have HBK := Lib.hid hbk
  have HBL := Lib.hid hbl
  have hsz : w1.heap.size = w.heap.size + 1 := by rw [← hw1]; simp
  have HST : Hid (RowT w1 (w1.alloc (.cells #[] 39)) (.slice (some ⟨w.heap.size + 1, 0, none⟩) 0 0) []) := Lib.hid (by
    rw [← hsz]
    exact ⟨World.ownsRow_lit w1 #[] 0 (Nat.le_refl _) (Nat.zero_le _) rfl, KitC.below_one _ _⟩)
  have HSZ1 := Lib.hid hsz
  clear hw1 hbk hbl hsz
  go_loopw [9, 10] (fun p i wr => HdRel w1 os n0 p i wr) (fun _ i _ => n0 - (intOf i).toNat)
  case atStart => exact ⟨0, Nat.zero_le _, rfl, HST.out⟩
  case round =>
    obtain ⟨k, hk, rfl, hrow⟩ := hrel
    have HR := Lib.hid hrow
    have hlenk : ((os.take k).map opE).length = k := by rw [List.length_map, List.length_take]; have := HN0.out; omega
    have HLK := Lib.hid hlenk
    clear hrow
    by_cases hlt : k < n0
    · obtain ⟨b0, off0, rfl, hb0, hcell⟩ := HA0.out (by omega)
      obtain ⟨o, ho⟩ : ∃ o, os[k]? = some o := get_some (by have := HN0.out; omega)
      have hck := ((below_two' HBL.out HR.out.2).cell (p := ⟨b0, off0 + k, none⟩) hb0).trans (hcell k o ho)
      have HNX : Hid ((os.take (k + 1)).map opE = (os.take k).map opE ++ [opE o]) := Lib.hid (by rw [take_next ho, List.map_append]; rfl)
      have HRA := Lib.hid (HR.out.keep (KitC.below_one wr (.cells #[.int .i64 o, .int .i64 0, .string ⟨#[]⟩] 39)))
      have HLT : Hid (Rdk 3 (wr.alloc (.cells #[.int .i64 o, .int .i64 0, .string ⟨#[]⟩] 39)) (.slice (some ⟨wr.heap.size, 0, none⟩) 1 1) 1 (tmsV [opE o])) := Lib.hid (tms_lit (l := [opE o]) rfl rfl rfl).rdk
      have HL1 : Hid (((os.take k).map opE).length + 1 ≤ maxLen) := Lib.hid (by rw [HLK.out]; unfold maxLen; omega)
      have HL2 : Hid ((((os.take k).map opE).length + 1) * 32 ≤ 140737488355328) := Lib.hid (by rw [HLK.out]; omega)
      have HSZ : Hid (w1.heap.size ≤ wr.heap.size) := Lib.hid HR.out.2.size
      clear hcell ho hlenk
      go_wp2_with (at_builtin; refine wpList_append_rdk _ rfl (.tmp 18) (.tmp 24) _ rfl w1.heap.size 39 i0 (.agg #[.int .i64 0, .int .i64 0, .string ByteArray.empty]) 3 32 Try.underlying22 HI.out.1 HI.out.2.1 HI.out.2.2.1 HI.out.2.2.2 rfl (by decide) _ _ _ rfl HRA.out.1 _ 1 (tmsV [opE o]) rfl HLT.out (tmsV_one _) HL1.out HL2.out ?_ ?_; (have := HSZ.out; simp; omega); intro p2 w2 hrow2 hg2 _; have HR2 := Lib.hid (RowT.add (ys := [opE o]) HRA.out hrow2 hg2); clear hrow2 hg2)
      go_roundw
      case rel => exact ⟨k + 1, hlt, by simp, by rw [HNX.out]; exact HR2.out⟩
      case measure => simp [intOf]; omega
    · have HFULL : Hid ((os.take k).map opE = os.map opE) := Lib.hid (by rw [List.take_of_length_le (by have := HN0.out; omega)])
      rw [HFULL.out] at HR HLK
      have HSZ : Hid (w1.heap.size ≤ wr.heap.size) := Lib.hid HR.out.2.size
      have HTA2 := Lib.hid (HTA.out.keep (below_two' HBL.out HR.out.2)).rdk
      have HL1 : Hid ((os.map opE).length + a.length ≤ maxLen) := Lib.hid (by rw [HLK.out]; unfold maxLen; omega)
      have HL2 : Hid (((os.map opE).length + a.length) * 32 ≤ 140737488355328) := Lib.hid (by rw [HLK.out]; omega)
      clear hlenk
      have HL3 : Hid ((os.map opE ++ a).length + b.length ≤ maxLen) := Lib.hid (by rw [List.length_append, HLK.out]; unfold maxLen; omega)
      have HL4 : Hid (((os.map opE ++ a).length + b.length) * 32 ≤ 140737488355328) := Lib.hid (by rw [List.length_append, HLK.out]; omega)
      obtain ⟨z0, z1, z2, z3, z4, z5⟩ := cells_6 (KitC.block_on HBK.out HR.out.2)
      go_wp2_with (first
        | (at_builtin; refine wpList_append_rdk _ rfl (.tmp 26) (.tmp 27) _ rfl w1.heap.size 39 i0 (.agg #[.int .i64 0, .int .i64 0, .string ByteArray.empty]) 3 32 Try.underlying22 HI.out.1 HI.out.2.1 HI.out.2.2.1 HI.out.2.2.2 rfl (by decide) _ _ _ rfl HR.out.1 _ a.length (tmsV a) rfl HTA2.out (tmsV_one _) HL1.out HL2.out ?_ ?_; (have := HSZ.out; omega); intro p2 w2 hrow2 hg2 _; have HR2 := Lib.hid (RowT.add (ys := a) HR.out hrow2 hg2); have HTB2 := Lib.hid (HTB.out.keep (below_two' HBL.out HR2.out.2)).rdk; have HSZ2 : Hid (w1.heap.size ≤ w2.heap.size) := Lib.hid HR2.out.2.size; clear hrow2 hg2)
        | (at_builtin; refine wpList_append_rdk _ rfl (.tmp 28) (.tmp 29) _ rfl w1.heap.size 39 i0 (.agg #[.int .i64 0, .int .i64 0, .string ByteArray.empty]) 3 32 Try.underlying22 HI.out.1 HI.out.2.1 HI.out.2.2.1 HI.out.2.2.2 rfl (by decide) _ _ _ rfl HR2.out.1 _ b.length (tmsV b) rfl HTB2.out (tmsV_one _) HL3.out HL4.out ?_ ?_; (have := HSZ2.out; omega); intro p3 w3 hrow3 hg3 _; have HR3 := Lib.hid (RowT.add (ys := b) HR2.out hrow3 hg3); clear hrow3 hg3; obtain ⟨A3, m3, c3, hm3, rfl⟩ := shape_len (own_shape HR3.out.1) rfl; have HM3 := Lib.hid hm3; clear hm3; obtain ⟨z0, z1, z2, z3, z4, z5⟩ := cells_6 (KitC.block_on HBK.out HR3.out.2))
        | (go_at_call 10; refine (HHO.out _ _ _ _ HM3.out HR3.out.tms (HEN.out.keep (below_two' HBL.out HR3.out.2))).mono ?_))
      rintro e2 w4 ⟨rfl, hb4⟩
      have HB4 := Lib.hid (below_two' (below_two' HBL.out HR3.out.2) hb4)
      clear hb4
      go_wp2_with fail
      go_ret
      exact ⟨rfl, HB4.out⟩
end Go.Proofs.Ytbkgkdfameojfaa
