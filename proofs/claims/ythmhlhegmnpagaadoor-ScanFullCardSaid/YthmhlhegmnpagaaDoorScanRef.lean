/- What the reference's class, Gap and Pos of the layer of tokens answer. Condition: a text no longer than memory holds. -/
import Derived.Test.YthmhlhegmnpagaaDoorRows
import Derived.Test.YthmhlhegmnpagaaDoorScanSpec
namespace Go.Proofs.YthmhlhegmnpagaaDoor
open Go.RowKit ScanSpec

theorem byte_at' (s : ByteArray) (i : Nat) (h : i < s.size) : s.data.toList[i]? = some s[i] := by
  rw [List.getElem?_eq_getElem (by simpa using h)]; rfl
theorem size_list' (s : ByteArray) : s.data.toList.length = s.size := rfl

theorem clsB_val (c : UInt8) (n : Int) (hn : n = (c.toNat : Int)) : (97 ≤ n ∧ n ≤ 122 ∧ clsB c = 1) ∨ (48 ≤ n ∧ n ≤ 57 ∧ clsB c = 2) ∨ (n = 95 ∧ clsB c = 3) ∨ ((n = 32 ∨ n = 9 ∨ n = 10 ∨ n = 13) ∧ clsB c = 4) ∨ (n = 35 ∧ clsB c = 5) ∨
    ((n < 48 ∨ (57 < n ∧ n < 97) ∨ 122 < n) ∧ n ≠ 95 ∧ n ≠ 32 ∧ n ≠ 9 ∧ n ≠ 10 ∧ n ≠ 13 ∧ n ≠ 35 ∧ clsB c = 0) := by
  unfold clsB isLow isDig isBlank
  simp only [← hn, Bool.and_eq_true, Bool.or_eq_true, decide_eq_true_eq, beq_iff_eq]
  by_cases h1 : 97 ≤ n ∧ n ≤ 122
  · exact .inl ⟨h1.1, h1.2, by rw [if_pos h1]⟩
  · rw [if_neg h1]
    by_cases h2 : 48 ≤ n ∧ n ≤ 57
    · exact .inr (.inl ⟨h2.1, h2.2, by rw [if_pos h2]⟩)
    · rw [if_neg h2]
      by_cases h3 : c.toNat = 95
      · exact .inr (.inr (.inl ⟨by omega, by rw [if_pos h3]⟩))
      · rw [if_neg h3]
        by_cases h4 : ((c.toNat = 32 ∨ c.toNat = 9) ∨ c.toNat = 10) ∨ c.toNat = 13
        · exact .inr (.inr (.inr (.inl ⟨by omega, by rw [if_pos h4]⟩)))
        · rw [if_neg h4]
          by_cases h5 : c.toNat = 35
          · exact .inr (.inr (.inr (.inr (.inl ⟨by omega, by rw [if_pos h5]⟩))))
          · exact .inr (.inr (.inr (.inr (.inr ⟨by omega, by omega, by omega, by omega, by omega, by omega, by omega, by rw [if_neg h5]⟩))))

set_option maxHeartbeats 1000000 in
theorem class_any (s : ByteArray) (i : Nat) (w : World) (hs : s.size ≤ 9223372036854775807) (hi : i ≤ 9223372036854775807) :
    Calls Tryd.prog 16 #[.string s, .int .i64 i] w fun e w' => e = .returned (.int .i64 (cls s.data.toList i)) ∧ w = w' := by
  by_cases hlt : i < s.size
  · have HC := Lib.hid (cls_some (byte_at' s i hlt))
    have hub : (s[i].toNat : Int) ≤ 255 := by have := s[i].toNat_lt; omega
    have hlb : 0 ≤ (s[i].toNat : Int) := by omega
    have hv := clsB_val s[i] _ rfl
    rcases hv with ⟨h1, h2, hc⟩ | ⟨h1, h2, hc⟩ | ⟨h1, hc⟩ | ⟨h1, hc⟩ | ⟨h1, hc⟩ | ⟨h1, n1, n2, n3, n4, n5, n6, hc⟩
    · have HV := Lib.hid hc
      clear hc
      go_enter Tryd.func16, Tryd.ntmps16
      go_wp2
      go_ret
      exact ⟨ret_int (HC.out.trans HV.out).symm, rfl⟩
    · have HV := Lib.hid hc
      clear hc
      go_enter Tryd.func16, Tryd.ntmps16
      go_wp2
      go_ret
      exact ⟨ret_int (HC.out.trans HV.out).symm, rfl⟩
    · have e95 : ((s[i].toNat : Int) == 95) = true := by simp; omega
      have h48 : 57 < (s[i].toNat : Int) := by omega
      have h97 : (s[i].toNat : Int) < 97 := by omega
      clear h1
      have HV := Lib.hid hc
      clear hc
      go_enter Tryd.func16, Tryd.ntmps16
      go_wp2
      go_ret
      exact ⟨ret_int (HC.out.trans HV.out).symm, rfl⟩
    · rcases h1 with h1 | h1 | h1 | h1
      · have e95 : ((s[i].toNat : Int) == 95) = false := by simp; omega
        have e32 : ((s[i].toNat : Int) == 32) = true := by simp; omega
        have h48 : (s[i].toNat : Int) < 48 := by omega
        clear h1
        have HV := Lib.hid hc
        clear hc
        go_enter Tryd.func16, Tryd.ntmps16
        go_wp2
        go_ret
        exact ⟨ret_int (HC.out.trans HV.out).symm, rfl⟩
      · have e95 : ((s[i].toNat : Int) == 95) = false := by simp; omega
        have e32 : ((s[i].toNat : Int) == 32) = false := by simp; omega
        have e9 : ((s[i].toNat : Int) == 9) = true := by simp; omega
        have h48 : (s[i].toNat : Int) < 48 := by omega
        clear h1
        have HV := Lib.hid hc
        clear hc
        go_enter Tryd.func16, Tryd.ntmps16
        go_wp2
        go_ret
        exact ⟨ret_int (HC.out.trans HV.out).symm, rfl⟩
      · have e95 : ((s[i].toNat : Int) == 95) = false := by simp; omega
        have e32 : ((s[i].toNat : Int) == 32) = false := by simp; omega
        have e9 : ((s[i].toNat : Int) == 9) = false := by simp; omega
        have e10 : ((s[i].toNat : Int) == 10) = true := by simp; omega
        have h48 : (s[i].toNat : Int) < 48 := by omega
        clear h1
        have HV := Lib.hid hc
        clear hc
        go_enter Tryd.func16, Tryd.ntmps16
        go_wp2
        go_ret
        exact ⟨ret_int (HC.out.trans HV.out).symm, rfl⟩
      · have e95 : ((s[i].toNat : Int) == 95) = false := by simp; omega
        have e32 : ((s[i].toNat : Int) == 32) = false := by simp; omega
        have e9 : ((s[i].toNat : Int) == 9) = false := by simp; omega
        have e10 : ((s[i].toNat : Int) == 10) = false := by simp; omega
        have e13 : ((s[i].toNat : Int) == 13) = true := by simp; omega
        have h48 : (s[i].toNat : Int) < 48 := by omega
        clear h1
        have HV := Lib.hid hc
        clear hc
        go_enter Tryd.func16, Tryd.ntmps16
        go_wp2
        go_ret
        exact ⟨ret_int (HC.out.trans HV.out).symm, rfl⟩
    · have e95 : ((s[i].toNat : Int) == 95) = false := by simp; omega
      have e32 : ((s[i].toNat : Int) == 32) = false := by simp; omega
      have e9 : ((s[i].toNat : Int) == 9) = false := by simp; omega
      have e10 : ((s[i].toNat : Int) == 10) = false := by simp; omega
      have e13 : ((s[i].toNat : Int) == 13) = false := by simp; omega
      have e35 : ((s[i].toNat : Int) == 35) = true := by simp; omega
      have h48 : (s[i].toNat : Int) < 48 := by omega
      clear h1
      have HV := Lib.hid hc
      clear hc
      go_enter Tryd.func16, Tryd.ntmps16
      go_wp2
      go_ret
      exact ⟨ret_int (HC.out.trans HV.out).symm, rfl⟩
    · have e95 : ((s[i].toNat : Int) == 95) = false := by simp; omega
      have e32 : ((s[i].toNat : Int) == 32) = false := by simp; omega
      have e9 : ((s[i].toNat : Int) == 9) = false := by simp; omega
      have e10 : ((s[i].toNat : Int) == 10) = false := by simp; omega
      have e13 : ((s[i].toNat : Int) == 13) = false := by simp; omega
      have e35 : ((s[i].toNat : Int) == 35) = false := by simp; omega
      clear n1 n2 n3 n4 n5 n6
      rcases h1 with h1 | ⟨h1, h1'⟩ | h1
      · have HV := Lib.hid hc
        clear hc
        go_enter Tryd.func16, Tryd.ntmps16
        go_wp2
        go_ret
        exact ⟨ret_int (HC.out.trans HV.out).symm, rfl⟩
      · have HV := Lib.hid hc
        clear hc
        go_enter Tryd.func16, Tryd.ntmps16
        go_wp2
        go_ret
        exact ⟨ret_int (HC.out.trans HV.out).symm, rfl⟩
      · have HV := Lib.hid hc
        clear hc
        go_enter Tryd.func16, Tryd.ntmps16
        go_wp2
        go_ret
        exact ⟨ret_int (HC.out.trans HV.out).symm, rfl⟩
  · have HC : Hid (cls s.data.toList i = 0) := Lib.hid (cls_none (by rw [size_list']; omega))
    go_enter Tryd.func16, Tryd.ntmps16
    go_wp2
    go_ret
    exact ⟨ret_int HC.out.symm, rfl⟩

theorem class_is {s : ByteArray} {i : Nat} {g : Int} (h : cls s.data.toList i = g) (hs : s.size ≤ 9223372036854775807) (hi : i ≤ 9223372036854775807) (w : World) :
    Calls Tryd.prog 16 #[.string s, .int .i64 i] w fun e w' => e = .returned (.int .i64 g) ∧ w = w' := by
  subst h; exact class_any s i w hs hi

def GapRel (s : ByteArray) (G : Nat) (v : Value) : Prop := ∃ k : Nat, k ≤ s.size ∧ v = .int .i64 k ∧ gap s.data.toList k = G
def RemRel (s : ByteArray) (k0 G : Nat) (v : Value) : Prop := ∃ k : Nat, k0 ≤ k ∧ k ≤ s.size ∧ v = .int .i64 k ∧ rem s.data.toList k = G

set_option maxHeartbeats 1000000 in
theorem rgap_any (s : ByteArray) (i : Nat) (w : World) (hs : s.size ≤ 9223372036854775807) (hi : i ≤ s.size) :
    Calls Tryd.prog 10 #[.string s, .int .i64 i] w fun e w' => e = .returned (.int .i64 (gap s.data.toList i)) ∧ w = w' := by
  obtain ⟨G, hG⟩ : ∃ G, G = gap s.data.toList i := ⟨_, rfl⟩
  rw [← hG]
  have HG := Lib.hid hG
  clear hG
  go_enter Tryd.func10, Tryd.ntmps10
  go_wp2_with fail
  go_loop [1] (fun v => GapRel s G v) (fun v => s.size - (intOf v).toNat)
  case atStart => exact ⟨i, hi, rfl, HG.out.symm⟩
  case round =>
    obtain ⟨k, hk, rfl, hgk⟩ := hrel
    have HK := Lib.hid hgk
    clear hgk
    have hbd := cls_bd s.data.toList k
    have hsz : cls s.data.toList k ≠ 0 → k < s.size := fun h => by
      rcases Nat.lt_or_ge k s.size with h' | h'
      · exact h'
      · exact absurd (cls_none (by rw [size_list']; exact h')) h
    obtain ⟨g, hg⟩ : ∃ g, g = cls s.data.toList k := ⟨_, rfl⟩
    rw [← hg] at hbd hsz
    have HC := Lib.hid (fun w => class_is hg.symm hs (show k ≤ 9223372036854775807 by omega) w)
    have HCl := Lib.hid hg
    clear hg
    by_cases h4 : g = 4
    · subst h4
      have hlt := hsz (by decide)
      clear hsz hbd
      go_wp2_with (go_at_call 16; (with_reducible refine (HC.out _).mono ?_); rintro e w' ⟨rfl, rfl⟩)
      go_round
      case rel => exact ⟨k + 1, hlt, by go_num, (gap_blank HCl.out.symm).trans HK.out⟩
      case measure => simp [intOf]; omega
    · by_cases h5 : g = 5
      · subst h5
        have hlt := hsz (by decide)
        clear hsz hbd h4
        go_wp2_with (go_at_call 16; (with_reducible refine (HC.out _).mono ?_); rintro e w' ⟨rfl, rfl⟩)
        go_loop [1] (fun v => RemRel s k G v) (fun v => s.size - (intOf v).toNat)
        case atStart => exact ⟨k, Nat.le_refl _, hk, rfl, (gap_remark HCl.out.symm).trans HK.out⟩
        case round =>
          obtain ⟨j, hkj, hj, rfl, hrj⟩ := hrel
          have HR := Lib.hid hrj
          clear hrj
          by_cases hjl : j < s.size
          · have HB := Lib.hid (byte_at' s j hjl)
            by_cases hten : s[j].toNat = 10
            · have h10 : ((s[j].toNat : Int) != 10) = false := by simp; omega
              have HE : Hid (GapRel s G (.int .i64 j)) := Lib.hid ⟨j, hj, rfl, by rw [← rem_line HB.out hten]; exact HR.out⟩
              have hlt' : k < j := by
                rcases Nat.lt_or_ge k j with h | h
                · exact h
                · exfalso
                  obtain rfl : k = j := by omega
                  have h1 := HCl.out
                  rw [cls_some HB.out, clsB_10 hten] at h1
                  exact absurd h1 (by decide)
              have HT := Lib.hid hten
              clear hten
              go_wp2_with fail
              go_round
              case rel => exact HE.out
              case measure => simp [intOf]; omega
            · have h10 : ((s[j].toNat : Int) != 10) = true := by simp; omega
              have HE : Hid (RemRel s k G (.int .i64 ((j : Int) + 1))) := Lib.hid ⟨j + 1, by omega, hjl, by simp, by rw [rem_next HB.out hten]; exact HR.out⟩
              clear hten
              go_wp2_with fail
              go_round
              case rel => exact HE.out
              case measure => simp [intOf]; omega
          · have HE : Hid (GapRel s G (.int .i64 j)) := Lib.hid ⟨j, hj, rfl, by rw [← rem_end (by rw [size_list']; omega)]; exact HR.out⟩
            go_wp2_with fail
            go_round
            case rel => exact HE.out
            case measure => simp [intOf]; omega
      · have e4 : (g == 4) = false := by simpa using h4
        have e5 : (g == 5) = false := by simpa using h5
        have HE : Hid (G = k) := Lib.hid (by rw [← HK.out]; exact gap_stop (by rw [← HCl.out]; exact h4) (by rw [← HCl.out]; exact h5))
        clear h4 h5 hsz
        go_wp2_with (go_at_call 16; (with_reducible refine (HC.out _).mono ?_); rintro e w' ⟨rfl, rfl⟩)
        go_ret
        exact ⟨ret_int (by rw [HE.out]), rfl⟩

theorem cell_of_block' {w : World} {b : Nat} {cs : Array Value} {t : TypeId} (h : w.heap[b]? = some (.cells cs t (0, 0))) {i : Nat} {v : Value} (hi : cs[i]? = some v) : w.cell? ⟨b, i, none⟩ = some v := by simp [World.cell?, h, hi]
theorem free_of_block' {w : World} {b : Nat} {cs : Array Value} {t : TypeId} (h : w.heap[b]? = some (.cells cs t (0, 0))) (i : Nat) : w.frozen? ⟨b, i, none⟩ = false := by simp [World.frozen?, h]
theorem block_setCell' {w : World} {b : Nat} {cs : Array Value} {t : TypeId} (h : w.heap[b]? = some (.cells cs t (0, 0))) (i : Nat) (u : Value) : (w.setCell ⟨b, i, none⟩ u).heap[b]? = some (.cells (cs.setIfInBounds i u) t (0, 0)) := by
  have hlt := (Array.getElem?_eq_some_iff.1 h).1
  have h' : w.heap[b] = .cells cs t (0, 0) := by simpa [Array.getElem?_eq_getElem hlt] using h
  show (w.heap.modify b _)[b]? = _
  rw [Array.getElem?_eq_getElem (by simpa using hlt), Array.getElem_modify_self, h']
  rfl

def PosRel (W : World) (l : List UInt8) (n : Nat) (v : Value) (wr : World) : Prop := ∃ k : Nat, k ≤ n ∧ v = .int .i64 k ∧ wr.heap[W.heap.size]? = some (.cells #[.int .i64 0, .int .i64 0] 25 (0, 0)) ∧
  wr.heap[W.heap.size + 1]? = some (.cells #[.int .i64 (pos l k).1, .int .i64 (pos l k).2] 25 (0, 0)) ∧ Below W.heap.size W wr
theorem pos_line {W wr : World} {s : ByteArray} {k n : Nat} {p1 : Int} {x : Value} (hk : k < n) (hlt : k < s.size) (hten : s[k].toNat = 10)
    (hr : wr.heap[W.heap.size]? = some (.cells #[.int .i64 0, .int .i64 0] 25 (0, 0))) (hb : wr.heap[W.heap.size + 1]? = some (.cells #[.int .i64 p1, x] 25 (0, 0))) (hp1 : p1 = (pos s.data.toList k).1) (hbw : Below W.heap.size W wr) :
    PosRel W s.data.toList n (.int .i64 ((k : Int) + 1)) (((wr.setCell ⟨W.heap.size + 1, 0, none⟩ (.int .i64 (p1 + 1))).setCell ⟨W.heap.size + 1, 1, none⟩ (.int .i64 0)).setCell ⟨W.heap.size + 1, 1, none⟩ (.int .i64 1)) := by
  refine ⟨k + 1, hk, by simp, ?_, ?_, ((hbw.setCell (by simp) _).setCell (by simp) _).setCell (by simp) _⟩
  · rw [Below.heap_setCell _ _ _ _ (by simp), Below.heap_setCell _ _ _ _ (by simp), Below.heap_setCell _ _ _ _ (by simp), hr]
  · rw [block_setCell' (block_setCell' (block_setCell' hb _ _) _ _), pos_next (byte_at' s k hlt), if_pos hten, hp1]; rfl
theorem pos_col {W wr : World} {s : ByteArray} {k n : Nat} {p1 p2 : Int} (hk : k < n) (hlt : k < s.size) (hten : ¬ s[k].toNat = 10)
    (hr : wr.heap[W.heap.size]? = some (.cells #[.int .i64 0, .int .i64 0] 25 (0, 0))) (hb : wr.heap[W.heap.size + 1]? = some (.cells #[.int .i64 p1, .int .i64 p2] 25 (0, 0))) (hp1 : p1 = (pos s.data.toList k).1) (hp2 : p2 = (pos s.data.toList k).2)
    (hbw : Below W.heap.size W wr) : PosRel W s.data.toList n (.int .i64 ((k : Int) + 1)) (wr.setCell ⟨W.heap.size + 1, 1, none⟩ (.int .i64 (p2 + 1))) := by
  refine ⟨k + 1, hk, by simp, ?_, ?_, hbw.setCell (by simp) _⟩
  · rw [Below.heap_setCell _ _ _ _ (by simp), hr]
  · rw [block_setCell' hb _ _, pos_next (byte_at' s k hlt), if_neg hten, hp1, hp2]; rfl

set_option maxHeartbeats 1000000 in
theorem rpos_any (s : ByteArray) (i : Nat) (w : World) (hs : s.size ≤ 9223372036854775806) (hi : i ≤ s.size) :
    Calls Tryd.prog 12 #[.string s, .int .i64 i] w fun e w' => e = .returned (.agg #[.int .i64 (pos s.data.toList i).1, .int .i64 (pos s.data.toList i).2]) ∧ Below w.heap.size w w' := by
  go_enter Tryd.func12, Tryd.ntmps12
  go_wp2_with fail
  go_loopw [6] (fun v wr => PosRel w s.data.toList i v wr) (fun v _ => i - (intOf v).toNat)
  case atStart => exact ⟨0, Nat.zero_le _, rfl, (heap_alloc_old _ _ (by simp)).trans (heap_alloc_new _ _), by rw [← World.size_alloc w (.cells #[.int .i64 0, .int .i64 0] 25)]; exact heap_alloc_new _ _, ((Below.refl _ _).alloc (Nat.le_refl _) _).alloc (by simp) _⟩
  case round =>
    obtain ⟨k, hk, rfl, hr, hb, hbw⟩ := hrel
    obtain ⟨b1, b2, b3, b4⟩ := pos_bd s.data.toList k
    have c0 := cell_of_block' hb (i := 0) rfl
    have c1 := cell_of_block' hb (i := 1) rfl
    have f0 := free_of_block' hb 0
    have f1 := free_of_block' hb 1
    have hsz := (Array.getElem?_eq_some_iff.1 hb).1
    by_cases hlt : k < i
    · have hlt2 : k < s.size := by omega
      have HN := Lib.hid (pos_next (byte_at' s k hlt2))
      obtain ⟨p1, hp1⟩ : ∃ p1, p1 = (pos s.data.toList k).1 := ⟨_, rfl⟩
      obtain ⟨p2, hp2⟩ : ∃ p2, p2 = (pos s.data.toList k).2 := ⟨_, rfl⟩
      rw [← hp1] at b1 b2 hb c0
      rw [← hp2] at b3 b4 hb c1
      have HP1 := Lib.hid hp1
      have HP2 := Lib.hid hp2
      have HB := Lib.hid hb
      have HR := Lib.hid hr
      have HW := Lib.hid hbw
      clear hp1 hp2 hb hr hbw
      by_cases hten : s[k].toNat = 10
      · have h10 : ((s[k].toNat : Int) == 10) = true := by simp; omega
        have HT := Lib.hid hten
        clear hten
        go_wp2_with fail
        go_roundw
        case rel => exact pos_line hlt hlt2 HT.out HR.out HB.out HP1.out HW.out
        case measure => simp [intOf]; omega
      · have h10 : ((s[k].toNat : Int) == 10) = false := by simp; omega
        have HT := Lib.hid hten
        clear hten
        go_wp2_with fail
        go_roundw
        case rel => exact pos_col hlt hlt2 HT.out HR.out HB.out HP1.out HP2.out HW.out
        case measure => simp [intOf]; omega
    · obtain rfl : k = i := by omega
      have g0 := cell_of_block' hr (i := 0) rfl
      have g1 := cell_of_block' hr (i := 1) rfl
      have k0 := free_of_block' hr 0
      have k1 := free_of_block' hr 1
      have hs2 := (Array.getElem?_eq_some_iff.1 hr).1
      have HR := Lib.hid hr
      clear hb hr
      go_wp2_with fail
      have q0 : ∀ u, (wr.setCell ⟨w.heap.size, 0, none⟩ u).cell? ⟨w.heap.size, 0, none⟩ = some u := fun u => cell_of_block' (block_setCell' HR.out 0 u) (i := 0) rfl
      have q1 : ∀ u v, ((wr.setCell ⟨w.heap.size, 0, none⟩ u).setCell ⟨w.heap.size, 1, none⟩ v).cell? ⟨w.heap.size, 1, none⟩ = some v := fun u v => cell_of_block' (block_setCell' (block_setCell' HR.out 0 u) 1 v) (i := 1) rfl
      refine bodyPost_ret (v := .agg #[.int .i64 (pos s.data.toList k).1, .int .i64 (pos s.data.toList k).2]) (by simp [results, Tryd.results12, go_sem, q0, q1]) rfl ⟨rfl, ?_⟩
      exact (hbw.setCell (by simp) _).setCell (by simp) _
end Go.Proofs.YthmhlhegmnpagaaDoor
