/- The walk of ScanFull: it returns true, and what was in memory stays. Conditions: what Tokens answers (ToksSay); a number that fits. -/
import Derived.Test.YthmhlhegmnpagaaDoorScanFullSpec
namespace Go.Proofs.YthmhlhegmnpagaaDoor
open Go.RowKit ScanSpec

theorem info_u8 : (Tryd.prog.info? 5).map (fun i => (i.zero, i.size, i.bytes)) = some (some (.int .u8 0), 1, 1) := by kernel_rfl
/-- Marks as far as they are written, zeros behind them. -/
def fullC (k m : Nat) : Array Value := (List.replicate k (Value.int .u8 59) ++ List.replicate (m - k) (Value.int .u8 0)).toArray
theorem fullC_zero {k m : Nat} (h : k < m) : (fullC k m)[k]? = some (.int .u8 0) := by
  rw [fullC, List.getElem?_toArray, List.getElem?_append_right (by simp), List.length_replicate, Nat.sub_self, List.getElem?_replicate, if_pos (by omega)]
theorem fullC_set {k m : Nat} (h : k < m) : (fullC k m).setIfInBounds k (.int .u8 59) = fullC (k + 1) m := by
  apply Array.ext'
  simp only [fullC, Array.toList_setIfInBounds]
  rw [List.set_append_right _ _ (by simp), List.length_replicate, Nat.sub_self]
  obtain ⟨d, hd⟩ : ∃ d, m - k = d + 1 := ⟨m - k - 1, by omega⟩
  rw [hd, List.replicate_succ, List.set_cons_zero, show m - (k + 1) = d by omega, List.replicate_succ' (n := k), List.append_assoc]
  rfl
theorem full_start (m : Nat) : madeCells #[Value.int .u8 0] m = fullC 0 m := by
  apply Array.ext'
  rw [toList_madeCells_one]
  simp [fullC]
def FullRel (W : World) (m : Nat) (v : Value) (w : World) : Prop := ∃ k : Nat, k ≤ m ∧ v = .int .i64 k ∧ w.heap[W.heap.size]? = some (.cells (fullC k m) 5 (0, 0)) ∧ Below W.heap.size W w

theorem full_make (m : Nat) (hm : m ≤ 65535) (W : World) : (Instr.makeSlice 32 (.int .i64 (m : Int)) (.int .i64 (m : Int))).run Tryd.prog W = .ok (.slice (some ⟨W.heap.size, 0, none⟩) m m) (W.alloc (.cells (fullC 0 m) 5)) := by
  obtain ⟨i0, hi, hz0, hz1, hz2⟩ := info_parts info_u8
  have h := run_make (P := Tryd.prog) W 32 5 i0 _ Tryd.underlying32 hi hz0 .i64 .i64 (m : Int) (m : Int) (by omega) (by omega) (by rw [hz2]; omega) (by omega)
  rw [hz1, Nat.mul_one, Int.toNat_natCast] at h
  rw [← full_start]
  exact h
theorem full_text {w : World} {B m : Nat} (h : w.heap[B]? = some (.cells (fullC m m) 5 (0, 0))) : (convert 32 9 (.slice (some ⟨B, 0, none⟩) m m)).run Tryd.prog w = .ok (.string ⟨(semis m).toArray⟩) w := by
  have h2 := run_convert_bytes_back (P := Tryd.prog) w 32 9 5 ⟨B, 0, none⟩ m (semis m) Tryd.underlying32 Tryd.underlying5 Tryd.underlying9 (fun j hj => by
    rw [addr_add]
    rw [semis_length] at hj
    refine cell_of_block' h ?_
    simp [fullC, semis, hj])
  rwa [semis_length] at h2

set_option maxHeartbeats 2000000 in
theorem full_loop (H : ToksSay) (m : Nat) (w : World) (hpw : PairsIn w) (hm : m ≤ 4100) :
    Calls Tryd.prog 4 #[.int .u16 (m : Int)] w fun e w' => e = .returned (.bool true) ∧ Below w.heap.size w w' := by
  have HAw := Lib.hid (awake_any H)
  have hmk := fun W => full_make m (by omega) W
  have hsz : (⟨(semis m).toArray⟩ : ByteArray).size ≤ 9223372036854775800 := by
    show (semis m).length ≤ _
    rw [semis_length]; omega
  have HT := Lib.hid (fun w hp => H ⟨(semis m).toArray⟩ w hp hsz)
  have HPw := Lib.hid hpw
  clear hsz H hpw
  go_enter Tryd.func4, Tryd.ntmps4
  go_wp2_with fail
  clear hmk
  go_loopw [4] (fun v wr => FullRel w m v wr) (fun v _ => m - (intOf v).toNat)
  case atStart => exact ⟨0, Nat.zero_le _, rfl, heap_alloc_new _ _, (Below.refl _ _).alloc (Nat.le_refl _) _⟩
  case round =>
    obtain ⟨k, hk, rfl, hb, hbw⟩ := hrel
    by_cases hlt : k < m
    · have hc := cell_of_block' hb (fullC_zero hlt)
      have hf := free_of_block' hb k
      have HR : Hid (FullRel w m (.int .i64 ((k : Int) + 1)) (wr.setCell ⟨w.heap.size, k, none⟩ (.int .u8 59))) := Lib.hid ⟨k + 1, hlt, by simp, by rw [block_setCell' hb, fullC_set hlt], hbw.setCell (Nat.le_refl _) _⟩
      clear hb hbw
      go_wp2_with fail
      go_roundw
      case rel => exact HR.out
      case measure => simp [intOf]; omega
    · obtain rfl : k = m := by omega
      have hcv := full_text hb
      have HB := Lib.hid hbw
      clear hb hbw
      by_cases hbig : 4000 < k
      · have hT := semis_many hbig (by omega)
        have hP := semis_pos (n := k) (i := 4000) (by omega)
        have H1 := Lib.hid (fun w hp => toks_bad (HT.out w hp) hT (by decide) hP)
        clear hT hP
        have hbI : (4000 : Int) < (k : Int) := by omega
        go_wp2_with (go_at_call 6; refine (H1.out _ (HPw.out.keep HB.out)).mono ?_)
        rintro e w1 ⟨rfl, hb1⟩
        have HPx := Lib.hid (((HPw.out.keep HB.out).keep hb1).alloc (.cells #[.int .i64 1, .int .i64 4001] 25))
        go_wp2_with (go_at_call 5; refine (HAw.out _ HPx.out).mono ?_)
        rintro e w2 ⟨rfl, hb2⟩
        go_wp2_with fail
        go_ret
        exact ⟨rfl, (HB.out.trans (hb1.mono HB.out.size)).trans ((((Below.refl _ _).alloc (Nat.le_refl _) _).trans (hb2.mono (by simp))).mono (Nat.le_trans HB.out.size hb1.size))⟩
      · obtain ⟨ts, hT, hln, hlast⟩ := semis_few (n := k) (by omega)
        obtain ⟨q0, q1, q2, q3⟩ := toks_cell (s := ⟨(semis k).toArray⟩) hlast
        have hp : pos (⟨(semis k).toArray⟩ : ByteArray).data.toList k = (1, (k : Int) + 1) := semis_pos (Nat.le_refl _)
        have hx : (⟨(semis k).toArray⟩ : ByteArray).extract k (k + 0) = ⟨#[]⟩ := by
          apply ByteArray.ext
          simp [ByteArray.data_extract]
        rw [hp] at q2 q3
        rw [hx] at q1
        have H1 := Lib.hid (fun w hp => toks_ok (HT.out w hp) hT hln)
        have HQ := Lib.hid (And.intro q0 (And.intro q1 (And.intro q2 q3)))
        clear hT hln hlast q0 q1 q2 q3 hp hx
        have hbI : (k : Int) ≤ 4000 := by omega
        go_wp2_with (go_at_call 6; refine (H1.out _ (HPw.out.keep HB.out)).mono ?_)
        intro e w1 v he hv hb1
        subst he
        obtain ⟨A, c, hvv, hcc, _, hA⟩ := hv
        subst hvv
        obtain ⟨b, off, rfl, hlt', hcell⟩ := hA (by omega)
        have a0 := hcell _ _ HQ.out.1
        have a1 := hcell _ _ HQ.out.2.1
        have a2 := hcell _ _ HQ.out.2.2.1
        have a3 := hcell _ _ HQ.out.2.2.2
        have c0 : w1.cell? ⟨b, off + k * 4, none⟩ = some (.int .i64 0) := a0
        have c1 : w1.cell? ⟨b, off + k * 4 + 1, none⟩ = some (.string ⟨#[]⟩) := a1
        have c2 : w1.cell? ⟨b, off + k * 4 + 2, none⟩ = some (.int .i64 1) := a2
        have c3 : w1.cell? ⟨b, off + k * 4 + 3, none⟩ = some (.int .i64 ((k : Int) + 1)) := a3
        have HB1 := Lib.hid hb1
        clear hcell hA a0 a1 a2 a3 hb1 hcc
        have HPx := Lib.hid (((HPw.out.keep HB.out).keep HB1.out).alloc (.cells #[.int .i64 0, .int .i64 0] 25))
        go_wp2_with (go_at_call 5; refine (HAw.out _ HPx.out).mono ?_)
        rintro e w2 ⟨rfl, hb2⟩
        go_wp2_with fail
        go_ret
        have hb1 := HB1.out
        exact ⟨rfl, (HB.out.trans (hb1.mono HB.out.size)).trans ((((Below.refl _ _).alloc (Nat.le_refl _) _).trans (hb2.mono (by simp))).mono (Nat.le_trans HB.out.size hb1.size))⟩
end Go.Proofs.YthmhlhegmnpagaaDoor
