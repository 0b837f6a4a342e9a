/- What the reference's Same of the layer of tokens answers of two lists of the same tokens. Condition: no longer than memory holds. -/
import Derived.Test.YthmhlhegmnpagaaDoorScanRefToks
namespace Go.Proofs.YthmhlhegmnpagaaDoor
open Go.RowKit ScanSpec Go.BigFrame

def TokSameRel (W : World) (n : Nat) (v : Value) (w : World) : Prop := ∃ k : Nat, k ≤ n ∧ v = .int .i64 k ∧ Below W.heap.size W w
theorem toks_cell {s : ByteArray} {ts : List Tok} {k : Nat} {t : Tok} (h : ts[k]? = some t) :
    (toksV s ts)[k * 4]? = some (.int .i64 t.kind) ∧ (toksV s ts)[k * 4 + 1]? = some (.string (s.extract t.at_ (t.at_ + t.len))) ∧ (toksV s ts)[k * 4 + 2]? = some (.int .i64 (pos s.data.toList t.at_).1) ∧ (toksV s ts)[k * 4 + 3]? = some (.int .i64 (pos s.data.toList t.at_).2) :=
  ⟨flat_get (j := 0) (tokV_length s) h (by omega), flat_get (j := 1) (tokV_length s) h (by omega), flat_get (j := 2) (tokV_length s) h (by omega), flat_get (j := 3) (tokV_length s) h (by omega)⟩

set_option maxHeartbeats 2000000 in
theorem tsame_any (v u : Value) (s : ByteArray) (ts : List Tok) (n : Nat) (w : World) (hn : ts.length = n) (h1 : Rdk 4 w v n (toksV s ts)) (h2 : Rdk 4 w u n (toksV s ts)) (hm : n ≤ 9223372036854775806) :
    Calls Tryd.prog 8 #[v, u] w fun e w' => e = .returned (.bool true) ∧ Below w.heap.size w w' := by
  obtain ⟨A1, c1, rfl, hc1, hl1, hA1⟩ := h1
  obtain ⟨A2, c2, rfl, hc2, hl2, hA2⟩ := h2
  have HA1 := Lib.hid hA1
  have HA2 := Lib.hid hA2
  have HN := Lib.hid hn
  clear hA1 hA2 hl1 hl2 hn hc1 hc2
  go_enter Tryd.func8, Tryd.ntmps8
  go_wp2_with fail
  go_loopw [5] (fun v wr => TokSameRel w n v wr) (fun v _ => n - (intOf v).toNat)
  case atStart => exact ⟨0, Nat.zero_le _, rfl, Below.refl _ _⟩
  case round =>
    obtain ⟨k, hk, rfl, hbw⟩ := hrel
    by_cases hlt : k < n
    · obtain ⟨b1, off1, rfl, hb1, hcell1⟩ := HA1.out (by omega)
      obtain ⟨b2, off2, rfl, hb2, hcell2⟩ := HA2.out (by omega)
      obtain ⟨t, ht⟩ : ∃ t, ts[k]? = some t := get_some (by rw [HN.out]; exact hlt)
      obtain ⟨q0, q1, q2, q3⟩ := toks_cell (s := s) ht
      obtain ⟨p1, hp1⟩ : ∃ p1, p1 = (pos s.data.toList t.at_).1 := ⟨_, rfl⟩
      obtain ⟨p2, hp2⟩ : ∃ p2, p2 = (pos s.data.toList t.at_).2 := ⟨_, rfl⟩
      obtain ⟨x, hx⟩ : ∃ x, x = s.extract t.at_ (t.at_ + t.len) := ⟨_, rfl⟩
      obtain ⟨kd, hkd⟩ : ∃ kd, kd = t.kind := ⟨_, rfl⟩
      rw [← hp1] at q2
      rw [← hp2] at q3
      rw [← hx] at q1
      rw [← hkd] at q0
      have a0 : wr.cell? ⟨b1, off1 + k * 4, none⟩ = some (.int .i64 kd) := (hbw.cell (by exact hb1)).trans (hcell1 _ _ q0)
      have a1 : wr.cell? ⟨b1, off1 + k * 4 + 1, none⟩ = some (.string x) := (hbw.cell (by exact hb1)).trans (hcell1 _ _ q1)
      have a2 : wr.cell? ⟨b1, off1 + k * 4 + 2, none⟩ = some (.int .i64 p1) := (hbw.cell (by exact hb1)).trans (hcell1 _ _ q2)
      have a3 : wr.cell? ⟨b1, off1 + k * 4 + 3, none⟩ = some (.int .i64 p2) := (hbw.cell (by exact hb1)).trans (hcell1 _ _ q3)
      have b0 : wr.cell? ⟨b2, off2 + k * 4, none⟩ = some (.int .i64 kd) := (hbw.cell (by exact hb2)).trans (hcell2 _ _ q0)
      have b1' : wr.cell? ⟨b2, off2 + k * 4 + 1, none⟩ = some (.string x) := (hbw.cell (by exact hb2)).trans (hcell2 _ _ q1)
      have b2' : wr.cell? ⟨b2, off2 + k * 4 + 2, none⟩ = some (.int .i64 p1) := (hbw.cell (by exact hb2)).trans (hcell2 _ _ q2)
      have b3' : wr.cell? ⟨b2, off2 + k * 4 + 3, none⟩ = some (.int .i64 p2) := (hbw.cell (by exact hb2)).trans (hcell2 _ _ q3)
      have hltI : (k : Int) < (n : Int) := by omega
      have HW := Lib.hid hbw
      clear q0 q1 q2 q3 hp1 hp2 hx hkd hcell1 hcell2 ht hbw
      go_wp2_with fail
      go_big_quiet (fail)
      go_wp2_with fail
      go_roundw
      case rel => exact ⟨k + 1, hlt, by simp, below_drewN HW.out _⟩
      case measure => simp [intOf]; omega
    · go_wp2_with fail
      go_ret
      exact ⟨rfl, hbw⟩
end Go.Proofs.YthmhlhegmnpagaaDoor
