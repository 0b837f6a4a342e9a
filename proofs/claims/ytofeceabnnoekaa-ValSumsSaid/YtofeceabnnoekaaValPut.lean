/- What digit and Put of the layer of numbers, and the reference's Text and Put, answer. Conditions: a number that fits an int. -/
import Derived.Test.YtofeceabnnoekaaValGet
namespace Go.Proofs.Ytofeceabnnoekaa
open Go.RowKit ValSpec

def tenBytes : ByteArray := { data := #[48, 49, 50, 51, 52, 53, 54, 55, 56, 57] }
theorem extract_digit {d : Nat} (h : d < 10) : ({ data := #[48, 49, 50, 51, 52, 53, 54, 55, 56, 57] } : ByteArray).extract d (d + 1) = ⟨[UInt8.ofNat (48 + d)].toArray⟩ := by
  match d, h with
  | 0, _ => rfl
  | 1, _ => rfl
  | 2, _ => rfl
  | 3, _ => rfl
  | 4, _ => rfl
  | 5, _ => rfl
  | 6, _ => rfl
  | 7, _ => rfl
  | 8, _ => rfl
  | 9, _ => rfl
theorem val_str {a b : ByteArray} (h : a = b) : Ending.returned (.string a) = .returned (.string b) := by rw [h]
theorem str_app (a b : List UInt8) : (⟨a.toArray⟩ : ByteArray) ++ ⟨b.toArray⟩ = ⟨(a ++ b).toArray⟩ := by
  apply ByteArray.ext
  simp [ByteArray.data_append]

theorem text_any (k : Nat) : ∀ (n : Nat) (w : World), n ≤ k → n ≤ 9223372036854775807 →
    Calls Try.prog 19 #[.int .i64 n] w fun e w' => e = .returned (.string ⟨(digs n).toArray⟩) ∧ w = w' := by
  induction k with
  | zero =>
    intro n w hk hb
    obtain rfl : n = 0 := by omega
    go_enter Try.func19, Try.ntmps19
    go_wp2_with fail
    go_ret
    exact ⟨val_str (by rw [digs_lt (by omega)]; exact extract_digit (d := 0) (by omega)), rfl⟩
  | succ k ih =>
    intro n w hk hb
    by_cases h : n < 10
    · go_enter Try.func19, Try.ntmps19
      go_wp2_with fail
      go_ret
      exact ⟨val_str (by rw [digs_lt h, Nat.mod_eq_of_lt h]; exact extract_digit h), rfl⟩
    · have hl : (digs (n / 10)).length ≤ 19 := digs_len 18 _ (by omega)
      go_enter Try.func19, Try.ntmps19
      go_wp2_with (go_at_call 19; refine (ih (n / 10) _ (by omega) (by omega)).mono ?_; rintro e w' ⟨rfl, rfl⟩)
      go_ret
      exact ⟨val_str (by rw [digs_ge h, extract_digit (Nat.mod_lt _ (by omega)), str_app]), rfl⟩

theorem neg_parts (n : Int) (h : n < 0) (h1 : -9223372036854775808 ≤ n) : ∃ d q : Nat, n.tmod 10 = -(d : Int) ∧ n.tdiv 10 = -(q : Int) ∧ d < 10 ∧ q ≤ 922337203685477580 ∧ n.natAbs = 10 * q + d := by
  obtain ⟨m, rfl⟩ : ∃ m : Nat, n = -(m : Int) := ⟨n.natAbs, by omega⟩
  refine ⟨m % 10, m / 10, ?_, ?_, Nat.mod_lt _ (by omega), by omega, by rw [Int.natAbs_neg]; simp; omega⟩
  · rw [Int.neg_tmod]; rfl
  · rw [Int.neg_tdiv]; rfl

theorem rput_any (n : Int) (w : World) (h1 : -9223372036854775808 ≤ n) (h2 : n ≤ 9223372036854775807) :
    Calls Try.prog 16 #[.int .i64 n] w fun e w' => e = .returned (.string ⟨(text n).toArray⟩) ∧ w = w' := by
  by_cases h : 0 ≤ n
  · obtain ⟨m, rfl⟩ := Int.eq_ofNat_of_zero_le h
    go_enter Try.func16, Try.ntmps16
    go_wp2_with (go_at_call 19; refine (text_any m m _ (by omega) (by omega)).mono ?_; rintro e w' ⟨rfl, rfl⟩)
    go_ret
    exact ⟨val_str (by unfold text; rw [if_neg (by omega)]; rfl), rfl⟩
  · obtain ⟨d, q, hd, hq, hd10, hqb, hn⟩ := neg_parts n (by omega) h1
    have HN := Lib.hid hn
    clear hn
    by_cases h9 : -10 < n
    · go_enter Try.func16, Try.ntmps16
      go_wp2_with fail
      go_ret
      have := HN.out
      exact ⟨val_str (by rw [extract_digit hd10, show (#[45] : Array UInt8) = [45].toArray from rfl, str_app]; unfold text; rw [if_pos (by omega), this, show q = 0 by omega, digs_lt (by omega)]; simp), rfl⟩
    · have hl : (digs q).length ≤ 19 := digs_len 18 _ (by omega)
      go_enter Try.func16, Try.ntmps16
      go_wp2_with (go_at_call 19; refine (text_any q q _ (by omega) (by omega)).mono ?_; rintro e w' ⟨rfl, rfl⟩)
      go_ret
      have := HN.out
      exact ⟨val_str (by rw [extract_digit hd10, show (#[45] : Array UInt8) = [45].toArray from rfl, str_app, str_app]; unfold text; rw [if_pos (by omega), this, digs_ge (n := 10 * q + d) (by omega), show (10 * q + d) / 10 = q by omega, show (10 * q + d) % 10 = d by omega]; simp), rfl⟩

theorem digit_any (d : Int) (w : World) (h0 : 0 ≤ d) (h9 : d ≤ 9) :
    Calls Try.prog 18 #[.int .i64 d] w fun e w' => e = .returned (.int .u8 (48 + d)) ∧ w = w' := by
  go_enter Try.func18, Try.ntmps18
  go_wp2
  go_ret
  exact ⟨rfl, rfl⟩

def byteV (c : UInt8) : Value := .int .u8 c.toNat
/-- The array: z zeros, digits behind them. -/
def cellsOf (z : Nat) (cs : List UInt8) : Array Value := (List.replicate z (Value.int .u8 0) ++ cs.map byteV).toArray
theorem cells_zero {z k : Nat} {cs : List UInt8} (h : k < z) : (cellsOf z cs)[k]? = some (.int .u8 0) := by
  simp [cellsOf, List.getElem?_append, h]
theorem cells_set {z : Nat} {cs : List UInt8} (c : UInt8) : (cellsOf (z + 1) cs).setIfInBounds z (byteV c) = cellsOf z (c :: cs) := by
  apply Array.ext'
  simp only [cellsOf, Array.toList_setIfInBounds]
  rw [List.set_append_left _ _ (by simp)]
  simp [List.replicate_succ', List.set_append_right]
theorem byteV_digit {d : Nat} (h : d < 10) : byteV (UInt8.ofNat (48 + d)) = .int .u8 (48 + (d : Int)) := by
  unfold byteV; rw [byte_nat (by omega)]; simp
theorem cell_of_block {w : World} {b : Nat} {cs : Array Value} {t : TypeId} (h : w.heap[b]? = some (.cells cs t (0, 0))) {i : Nat} {v : Value} (hi : cs[i]? = some v) : w.cell? ⟨b, i, none⟩ = some v := by simp [World.cell?, h, hi]
theorem free_of_block {w : World} {b : Nat} {cs : Array Value} {t : TypeId} (h : w.heap[b]? = some (.cells cs t (0, 0))) (i : Nat) : w.frozen? ⟨b, i, none⟩ = false := by simp [World.frozen?, h]
theorem block_setCell {w : World} {b : Nat} {cs : Array Value} {t : TypeId} (h : w.heap[b]? = some (.cells cs t (0, 0))) (i : Nat) (u : Value) : (w.setCell ⟨b, i, none⟩ u).heap[b]? = some (.cells (cs.setIfInBounds i u) t (0, 0)) := by
  have hlt := lt_of_block h
  have h' : w.heap[b] = .cells cs t (0, 0) := by simpa [Array.getElem?_eq_getElem hlt] using h
  show (w.heap.modify b _)[b]? = _
  rw [Array.getElem?_eq_getElem (by simpa using hlt), Array.getElem_modify_self, h']
  rfl

/-- What holds at the head of each round: the digits that are written, and those that are left. -/
def PutRel (W : World) (m : Nat) (rv av : Value) (wr : World) : Prop :=
  ∃ (i : Nat) (r : Int) (cs : List UInt8), cs.length + i = 18 ∧ rv = .int .i64 r ∧ av = .int .i64 ((i : Int) + 1) ∧ r ≤ 0 ∧ -9223372036854775808 ≤ r ∧ digs m = digs r.natAbs ++ cs ∧ r.natAbs * 10 ^ (18 - i) ≤ m ∧
    wr.heap[W.heap.size]? = some (.cells (cellsOf (i + 2) cs) 35 (0, 0)) ∧ Below W.heap.size W wr

theorem put_step {W wr : World} {m i q d : Nat} {r : Int} {cs : List UInt8} (hm : m ≤ 9223372036854775808) (hl : cs.length + i = 18) (hr : r < -9) (hd : digs m = digs r.natAbs ++ cs) (hp : r.natAbs * 10 ^ (18 - i) ≤ m)
    (hb : wr.heap[W.heap.size]? = some (.cells (cellsOf (i + 2) cs) 35 (0, 0))) (hbel : Below W.heap.size W wr) (hn : r.natAbs = 10 * q + d) (hd10 : d < 10) (hq : q ≤ 922337203685477580) :
    PutRel W m (.int .i64 (-(q : Int))) (.int .i64 i) (wr.setCell ⟨W.heap.size, i + 1, none⟩ (.int .u8 (48 + (d : Int)))) := by
  have hi : 1 ≤ i := by
    rcases Nat.lt_or_ge 0 i with h | h
    · exact h
    · exfalso
      obtain rfl : i = 0 := by omega
      have : 10 * 10 ^ 18 ≤ r.natAbs * 10 ^ (18 - 0) := Nat.mul_le_mul_right _ (by omega)
      omega
  obtain ⟨k, rfl⟩ : ∃ k, i = k + 1 := ⟨i - 1, by omega⟩
  have hq1 : 1 ≤ q := by omega
  refine ⟨k, -(q : Int), UInt8.ofNat (48 + d) :: cs, by simp; omega, rfl, by simp, by omega, by omega, ?_, ?_, ?_, hbel.setCell (Nat.le_refl _) _⟩
  · rw [hd, hn, digs_ge (n := 10 * q + d) (by omega), show (10 * q + d) / 10 = q by omega, show (10 * q + d) % 10 = d by omega]
    simp
  · have e : 18 - k = (18 - (k + 1)) + 1 := by omega
    rw [e, Nat.pow_succ]
    refine Nat.le_trans ?_ hp
    rw [hn, Int.natAbs_neg, Int.natAbs_natCast, Nat.mul_comm (10 ^ _) 10, ← Nat.mul_assoc]
    exact Nat.mul_le_mul_right _ (by omega)
  · rw [block_setCell hb, ← byteV_digit hd10, cells_set]

theorem slice_tail (B l L : Nat) (li : Int) (hli : li = l) (hl : l + L = 20) (h1 : 1 ≤ L) (W : World) : (Instr.sliceAt 35 (.pointer (some ⟨B, 0, none⟩)) (some (.int .i64 li)) none none).run Try.prog W = .ok (.slice (some ⟨B, l, none⟩) L L) W := by
  subst hli
  have hal : Try.prog.arrayLen 35 = 20 := by simp [Program.arrayLen, Try.underlying35]
  rw [run_sliceAt_array_l W 35 ⟨B, 0, none⟩ (by simp [Program.arrayLen, Program.elem, Try.underlying35]) .i64 (l : Int) (by omega) (by rw [hal]; omega), hal]
  go_simp
  omega

theorem tail_text {w : World} {B z : Nat} {cs : List UInt8} (h : w.heap[B]? = some (.cells (cellsOf z cs) 35 (0, 0))) (L : Nat) (hL : cs.length = L) :
    (convert 37 9 (.slice (some ⟨B, z, none⟩) L L)).run Try.prog w = .ok (.string ⟨cs.toArray⟩) w := by
  subst hL
  refine run_convert_bytes_back _ _ _ _ _ cs.length cs Try.underlying37 Try.underlying5 Try.underlying9 (fun j hj => ?_)
  have ea : (⟨B, z, none⟩ : Addr).add j = ⟨B, z + j, none⟩ := by unfold Addr.add; split <;> simp_all
  rw [ea]
  refine cell_of_block h ?_
  simp [cellsOf, List.getElem?_append, show ¬ (z + j < z) by omega, List.getElem?_eq_getElem hj, byteV]

theorem put_last {W wr : World} {m i d : Nat} {r : Int} {cs : List UInt8} (hr : r = -(d : Int)) (hd10 : d < 10) (hd : digs m = digs r.natAbs ++ cs)
    (hb : wr.heap[W.heap.size]? = some (.cells (cellsOf (i + 2) cs) 35 (0, 0))) :
    (wr.setCell ⟨W.heap.size, i + 1, none⟩ (.int .u8 (48 + (d : Int)))).heap[W.heap.size]? = some (.cells (cellsOf (i + 1) (digs m)) 35 (0, 0)) := by
  rw [block_setCell hb, ← byteV_digit hd10, cells_set, hd, hr, Int.natAbs_neg, Int.natAbs_natCast, digs_lt hd10]
  rfl
theorem put_sign {wr : World} {B i : Nat} {cs : List UInt8} (hb : wr.heap[B]? = some (.cells (cellsOf (i + 1) cs) 35 (0, 0))) :
    (wr.setCell ⟨B, i, none⟩ (.int .u8 45)).heap[B]? = some (.cells (cellsOf i (45 :: cs)) 35 (0, 0)) := by
  rw [block_setCell hb, show (Value.int .u8 45) = byteV 45 from rfl, cells_set]

set_option maxHeartbeats 800000 in
theorem put_any (n : Int) (w : World) (h1 : -9223372036854775808 ≤ n) (h2 : n ≤ 9223372036854775807) :
    Calls Try.prog 15 #[.int .i64 n] w fun e w' => e = .returned (.string ⟨(text n).toArray⟩) ∧ Below w.heap.size w w' := by
  rcases (show 0 < n ∨ n < 0 ∨ n ≤ 0 ∧ 0 ≤ n by omega) with h | h | ⟨h, h'⟩
  all_goals
    go_enter Try.func15, Try.ntmps15
    go_wp2_with fail
    go_loopw [3, 5] (fun r a wr => PutRel w n.natAbs r a wr) (fun r _ _ => (intOf r).natAbs)
    case atStart => first
      | exact ⟨18, -n, [], rfl, rfl, rfl, by omega, by omega, by simp, by simp, (heap_alloc_new _ _).trans rfl, (Below.refl _ _).alloc (Nat.le_refl _) _⟩
      | exact ⟨18, n, [], rfl, rfl, rfl, by omega, by omega, by simp, by simp, (heap_alloc_new _ _).trans rfl, (Below.refl _ _).alloc (Nat.le_refl _) _⟩
    case round =>
      obtain ⟨i, r, cs, hl, rfl, rfl, hr, hr2, hd, hp, hb, hbel⟩ := hrel
      have hi2 : i ≤ 18 := by omega
      have hc := cell_of_block hb (cells_zero (k := i + 1) (by omega))
      have hf := free_of_block hb (i + 1)
      have hc' := cell_of_block hb (cells_zero (k := i) (by omega))
      have hf' := free_of_block hb i
      by_cases h9 : r < -9
      · obtain ⟨d, q, hd1, hq, hd10, hqb, hn⟩ := neg_parts r (by omega) hr2
        have HR := Lib.hid (put_step (show n.natAbs ≤ 9223372036854775808 by omega) hl h9 hd hp hb hbel hn hd10 hqb)
        have HM : Hid (q < r.natAbs) := Lib.hid (by omega)
        clear hn hd hp hb hl hc' hf'
        go_wp2_with (go_at_call 18; refine (digit_any _ _ (by omega) (by omega)).mono ?_; rintro e w' ⟨rfl, rfl⟩)
        go_round
        case rel => exact HR.out
        case measure => have := HM.out; simp [intOf]; omega
      · obtain ⟨d, rfl⟩ : ∃ d : Nat, r = -(d : Int) := ⟨r.natAbs, by omega⟩
        have hd10 : d < 10 := by omega
        have hb2 := put_last (m := n.natAbs) rfl hd10 hd hb
        have hlen : (digs n.natAbs).length = 19 - i := by
          rw [hd, List.length_append, Int.natAbs_neg, Int.natAbs_natCast, digs_lt hd10]; simp; omega
        by_cases hneg : n < 0
        · first
            | (exfalso; omega)
            | (have hb3 := put_sign hb2
               obtain ⟨L, hL⟩ : ∃ L, L = 20 - i := ⟨_, rfl⟩
               have hsl := slice_tail w.heap.size i L (i : Int) rfl (by omega) (by omega)
               have hcv := tail_text hb3 L (by simp; omega)
               have HB : Hid (Below w.heap.size w ((wr.setCell ⟨w.heap.size, i + 1, none⟩ (.int .u8 (48 + (d : Int)))).setCell ⟨w.heap.size, i, none⟩ (.int .u8 45))) := Lib.hid ((hbel.setCell (Nat.le_refl _) _).setCell (Nat.le_refl _) _)
               clear hb hb2 hb3 hlen hd hp hl hL hbel
               go_wp2_with (go_at_call 18; refine (digit_any _ _ (by omega) (by omega)).mono ?_; rintro e w' ⟨rfl, rfl⟩)
               go_ret
               exact ⟨val_str (by unfold text; rw [if_pos (by omega)]), HB.out⟩)
        · first
            | (exfalso; omega)
            | (obtain ⟨L, hL⟩ : ∃ L, L = 19 - i := ⟨_, rfl⟩
               have hsl := slice_tail w.heap.size (i + 1) L ((i : Int) + 1) rfl (by omega) (by omega)
               have hcv := tail_text hb2 L (by omega)
               have HB : Hid (Below w.heap.size w (wr.setCell ⟨w.heap.size, i + 1, none⟩ (.int .u8 (48 + (d : Int))))) := Lib.hid (hbel.setCell (Nat.le_refl _) _)
               clear hb hb2 hlen hd hp hl hL hbel hc' hf'
               go_wp2_with (go_at_call 18; refine (digit_any _ _ (by omega) (by omega)).mono ?_; rintro e w' ⟨rfl, rfl⟩)
               go_ret
               exact ⟨val_str (by unfold text; rw [if_neg (by omega)]), HB.out⟩)
end Go.Proofs.Ytofeceabnnoekaa
