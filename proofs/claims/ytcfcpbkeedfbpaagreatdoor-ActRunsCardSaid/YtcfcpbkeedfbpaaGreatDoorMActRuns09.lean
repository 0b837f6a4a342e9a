/- ValPut, ExprText, ActTextSpec, joined. -/
import Derived.Test.YtcfcpbkeedfbpaaGreatDoorMActRuns08
import Derived.Test.YtcfcpbkeedfbpaaGreatDoorMActRuns02
import Derived.Deep.RegionHeld3
import Derived.Test.YtcfcpbkeedfbpaaGreatDoorMActRuns01
import Derived.Lib.Join
namespace Go.Proofs.YtcfcpbkeedfbpaaGreatDoor
open Go.RowKit ValSpec
set_option maxRecDepth 100000

theorem val_str {a b : ByteArray} (h : a = b) : Ending.returned (.string a) = .returned (.string b) := by rw [h]
theorem neg_parts (n : Int) (h : n < 0) (h1 : -9223372036854775808 ≤ n) : ∃ d q : Nat, n.tmod 10 = -(d : Int) ∧ n.tdiv 10 = -(q : Int) ∧ d < 10 ∧ q ≤ 922337203685477580 ∧ n.natAbs = 10 * q + d := by
  obtain ⟨m, rfl⟩ : ∃ m : Nat, n = -(m : Int) := ⟨n.natAbs, by omega⟩
  refine ⟨m % 10, m / 10, ?_, ?_, Nat.mod_lt _ (by omega), by omega, by rw [Int.natAbs_neg]; simp; omega⟩
  · rw [Int.neg_tmod]; rfl
  · rw [Int.neg_tdiv]; rfl

theorem vdigit_any (d : Int) (w : World) (h0 : 0 ≤ d) (h9 : d ≤ 9) :
    Calls Tryz.prog 153 #[.int .i64 d] w fun e w' => e = .returned (.int .u8 (48 + d)) ∧ w = w' := by
  go_enter Tryz.func153, Tryz.ntmps153
  go_wp2
  go_ret
  exact ⟨rfl, rfl⟩

def byteV (c : UInt8) : Value := .int .u8 c.toNat
/-- The array: z zeros, digits behind them. -/
def cellsOf (z : Nat) (cs : List UInt8) : Array Value := (List.replicate z (Value.int .u8 0) ++ cs.map byteV).toArray
theorem cells_zero {z k : Nat} {cs : List UInt8} (h : k < z) : (cellsOf z cs)[k]? = some (.int .u8 0) := by
  simp [cellsOf, List.getElem?_append, h]
theorem cells_set {z : Nat} {cs : List UInt8} (c : UInt8) : (cellsOf (z + 1) cs).setIfInBounds z (byteV c) = cellsOf z (c :: cs) := by
  apply Array.ext'
  simp only [cellsOf, Array.toList_setIfInBounds]
  rw [List.set_append_left _ _ (by simp)]
  simp [List.replicate_succ', List.set_append_right]
theorem byteV_digit {d : Nat} (h : d < 10) : byteV (UInt8.ofNat (48 + d)) = .int .u8 (48 + (d : Int)) := by
  unfold byteV; rw [byte_nat (by omega)]; simp
theorem cell_of_block {w : World} {b : Nat} {cs : Array Value} {t : TypeId} (h : w.heap[b]? = some (.cells cs t (0, 0))) {i : Nat} {v : Value} (hi : cs[i]? = some v) : w.cell? ⟨b, i, none⟩ = some v := by simp [World.cell?, h, hi]
theorem free_of_block {w : World} {b : Nat} {cs : Array Value} {t : TypeId} (h : w.heap[b]? = some (.cells cs t (0, 0))) (i : Nat) : w.frozen? ⟨b, i, none⟩ = false := by simp [World.frozen?, h]
theorem block_setCell {w : World} {b : Nat} {cs : Array Value} {t : TypeId} (h : w.heap[b]? = some (.cells cs t (0, 0))) (i : Nat) (u : Value) : (w.setCell ⟨b, i, none⟩ u).heap[b]? = some (.cells (cs.setIfInBounds i u) t (0, 0)) := by
  have hlt := lt_of_block h
  have h' : w.heap[b] = .cells cs t (0, 0) := by simpa [Array.getElem?_eq_getElem hlt] using h
  show (w.heap.modify b _)[b]? = _
  rw [Array.getElem?_eq_getElem (by simpa using hlt), Array.getElem_modify_self, h']
  rfl

/-- What holds at the head of each round: the digits that are written, and those that are left. -/
def PutRel (W : World) (m : Nat) (rv av : Value) (wr : World) : Prop :=
  ∃ (i : Nat) (r : Int) (cs : List UInt8), cs.length + i = 18 ∧ rv = .int .i64 r ∧ av = .int .i64 ((i : Int) + 1) ∧ r ≤ 0 ∧ -9223372036854775808 ≤ r ∧ digs m = digs r.natAbs ++ cs ∧ r.natAbs * 10 ^ (18 - i) ≤ m ∧
    wr.heap[W.heap.size]? = some (.cells (cellsOf (i + 2) cs) 195 (0, 0)) ∧ Below W.heap.size W wr

theorem put_step {W wr : World} {m i q d : Nat} {r : Int} {cs : List UInt8} (hm : m ≤ 9223372036854775808) (hl : cs.length + i = 18) (hr : r < -9) (hd : digs m = digs r.natAbs ++ cs) (hp : r.natAbs * 10 ^ (18 - i) ≤ m)
    (hb : wr.heap[W.heap.size]? = some (.cells (cellsOf (i + 2) cs) 195 (0, 0))) (hbel : Below W.heap.size W wr) (hn : r.natAbs = 10 * q + d) (hd10 : d < 10) (hq : q ≤ 922337203685477580) :
    PutRel W m (.int .i64 (-(q : Int))) (.int .i64 i) (wr.setCell ⟨W.heap.size, i + 1, none⟩ (.int .u8 (48 + (d : Int)))) := by
  have hi : 1 ≤ i := by
    rcases Nat.lt_or_ge 0 i with h | h
    · exact h
    · exfalso
      obtain rfl : i = 0 := by omega
      have : 10 * 10 ^ 18 ≤ r.natAbs * 10 ^ (18 - 0) := Nat.mul_le_mul_right _ (by omega)
      omega
  obtain ⟨k, rfl⟩ : ∃ k, i = k + 1 := ⟨i - 1, by omega⟩
  have hq1 : 1 ≤ q := by omega
  refine ⟨k, -(q : Int), UInt8.ofNat (48 + d) :: cs, by simp; omega, rfl, by simp, by omega, by omega, ?_, ?_, ?_, hbel.setCell (Nat.le_refl _) _⟩
  · rw [hd, hn, digs_ge (n := 10 * q + d) (by omega), show (10 * q + d) / 10 = q by omega, show (10 * q + d) % 10 = d by omega]
    simp
  · have e : 18 - k = (18 - (k + 1)) + 1 := by omega
    rw [e, Nat.pow_succ]
    refine Nat.le_trans ?_ hp
    rw [hn, Int.natAbs_neg, Int.natAbs_natCast, Nat.mul_comm (10 ^ _) 10, ← Nat.mul_assoc]
    exact Nat.mul_le_mul_right _ (by omega)
  · rw [block_setCell hb, ← byteV_digit hd10, cells_set]

theorem slice_tail (B l L : Nat) (li : Int) (hli : li = l) (hl : l + L = 20) (h1 : 1 ≤ L) (W : World) : (Instr.sliceAt 195 (.pointer (some ⟨B, 0, none⟩)) (some (.int .i64 li)) none none).run Tryz.prog W = .ok (.slice (some ⟨B, l, none⟩) L L) W := by
  subst hli
  have hal : Tryz.prog.arrayLen 195 = 20 := by simp [Program.arrayLen, Tryz.underlying195]
  rw [run_sliceAt_array_l W 195 ⟨B, 0, none⟩ (by simp [Program.arrayLen, Program.elem, Tryz.underlying195]) .i64 (l : Int) (by omega) (by rw [hal]; omega), hal]
  go_simp
  omega

theorem tail_text {w : World} {B z : Nat} {cs : List UInt8} (h : w.heap[B]? = some (.cells (cellsOf z cs) 195 (0, 0))) (L : Nat) (hL : cs.length = L) :
    (convert 98 9 (.slice (some ⟨B, z, none⟩) L L)).run Tryz.prog w = .ok (.string ⟨cs.toArray⟩) w := by
  subst hL
  refine run_convert_bytes_back _ _ _ _ _ cs.length cs Tryz.underlying98 Tryz.underlying5 Tryz.underlying9 (fun j hj => ?_)
  have ea : (⟨B, z, none⟩ : Addr).add j = ⟨B, z + j, none⟩ := by unfold Addr.add; split <;> simp_all
  rw [ea]
  refine cell_of_block h ?_
  simp [cellsOf, List.getElem?_append, show ¬ (z + j < z) by omega, List.getElem?_eq_getElem hj, byteV]

theorem put_last {W wr : World} {m i d : Nat} {r : Int} {cs : List UInt8} (hr : r = -(d : Int)) (hd10 : d < 10) (hd : digs m = digs r.natAbs ++ cs)
    (hb : wr.heap[W.heap.size]? = some (.cells (cellsOf (i + 2) cs) 195 (0, 0))) :
    (wr.setCell ⟨W.heap.size, i + 1, none⟩ (.int .u8 (48 + (d : Int)))).heap[W.heap.size]? = some (.cells (cellsOf (i + 1) (digs m)) 195 (0, 0)) := by
  rw [block_setCell hb, ← byteV_digit hd10, cells_set, hd, hr, Int.natAbs_neg, Int.natAbs_natCast, digs_lt hd10]
  rfl
theorem put_sign {wr : World} {B i : Nat} {cs : List UInt8} (hb : wr.heap[B]? = some (.cells (cellsOf (i + 1) cs) 195 (0, 0))) :
    (wr.setCell ⟨B, i, none⟩ (.int .u8 45)).heap[B]? = some (.cells (cellsOf i (45 :: cs)) 195 (0, 0)) := by
  rw [block_setCell hb, show (Value.int .u8 45) = byteV 45 from rfl, cells_set]

set_option maxRecDepth 100000 in
set_option maxHeartbeats 800000 in
theorem put_any (n : Int) (w : World) (h1 : -9223372036854775808 ≤ n) (h2 : n ≤ 9223372036854775807) :
    Calls Tryz.prog 122 #[.int .i64 n] w fun e w' => e = .returned (.string ⟨(text n).toArray⟩) ∧ Below w.heap.size w w' := by
  rcases (show 0 < n ∨ n < 0 ∨ n ≤ 0 ∧ 0 ≤ n by omega) with h | h | ⟨h, h'⟩
  all_goals
    go_enter Tryz.func122, Tryz.ntmps122
    go_wp2_with fail
    go_loopw [3, 5] (fun r a wr => PutRel w n.natAbs r a wr) (fun r _ _ => (intOf r).natAbs)
    case atStart => first
      | exact ⟨18, -n, [], rfl, rfl, rfl, by omega, by omega, by simp, by simp, (heap_alloc_new _ _).trans rfl, (Below.refl _ _).alloc (Nat.le_refl _) _⟩
      | exact ⟨18, n, [], rfl, rfl, rfl, by omega, by omega, by simp, by simp, (heap_alloc_new _ _).trans rfl, (Below.refl _ _).alloc (Nat.le_refl _) _⟩
    case round =>
      obtain ⟨i, r, cs, hl, rfl, rfl, hr, hr2, hd, hp, hb, hbel⟩ := hrel
      have hi2 : i ≤ 18 := by omega
      have hc := cell_of_block hb (cells_zero (k := i + 1) (by omega))
      have hf := free_of_block hb (i + 1)
      have hc' := cell_of_block hb (cells_zero (k := i) (by omega))
      have hf' := free_of_block hb i
      by_cases h9 : r < -9
      · obtain ⟨d, q, hd1, hq, hd10, hqb, hn⟩ := neg_parts r (by omega) hr2
        have HR := Lib.hid (put_step (show n.natAbs ≤ 9223372036854775808 by omega) hl h9 hd hp hb hbel hn hd10 hqb)
        have HM : Hid (q < r.natAbs) := Lib.hid (by omega)
        clear hn hd hp hb hl hc' hf'
        go_wp2_with (go_at_call 153; refine (vdigit_any _ _ (by omega) (by omega)).mono ?_; rintro e w' ⟨rfl, rfl⟩)
        go_round
        case rel => exact HR.out
        case measure => have := HM.out; simp [intOf]; omega
      · obtain ⟨d, rfl⟩ : ∃ d : Nat, r = -(d : Int) := ⟨r.natAbs, by omega⟩
        have hd10 : d < 10 := by omega
        have hb2 := put_last (m := n.natAbs) rfl hd10 hd hb
        have hlen : (digs n.natAbs).length = 19 - i := by
          rw [hd, List.length_append, Int.natAbs_neg, Int.natAbs_natCast, digs_lt hd10]; simp; omega
        by_cases hneg : n < 0
        · first
            | (exfalso; omega)
            | (have hb3 := put_sign hb2
               obtain ⟨L, hL⟩ : ∃ L, L = 20 - i := ⟨_, rfl⟩
               have hsl := slice_tail w.heap.size i L (i : Int) rfl (by omega) (by omega)
               have hcv := tail_text hb3 L (by simp; omega)
               have HB : Hid (Below w.heap.size w ((wr.setCell ⟨w.heap.size, i + 1, none⟩ (.int .u8 (48 + (d : Int)))).setCell ⟨w.heap.size, i, none⟩ (.int .u8 45))) := Lib.hid ((hbel.setCell (Nat.le_refl _) _).setCell (Nat.le_refl _) _)
               clear hb hb2 hb3 hlen hd hp hl hL hbel
               go_wp2_with (go_at_call 153; refine (vdigit_any _ _ (by omega) (by omega)).mono ?_; rintro e w' ⟨rfl, rfl⟩)
               go_ret
               exact ⟨val_str (by unfold text; rw [if_pos (by omega)]), HB.out⟩)
        · first
            | (exfalso; omega)
            | (obtain ⟨L, hL⟩ : ∃ L, L = 19 - i := ⟨_, rfl⟩
               have hsl := slice_tail w.heap.size (i + 1) L ((i : Int) + 1) rfl (by omega) (by omega)
               have hcv := tail_text hb2 L (by omega)
               have HB : Hid (Below w.heap.size w (wr.setCell ⟨w.heap.size, i + 1, none⟩ (.int .u8 (48 + (d : Int))))) := Lib.hid (hbel.setCell (Nat.le_refl _) _)
               clear hb hb2 hlen hd hp hl hL hbel hc' hf'
               go_wp2_with (go_at_call 153; refine (vdigit_any _ _ (by omega) (by omega)).mono ?_; rintro e w' ⟨rfl, rfl⟩)
               go_ret
               exact ⟨val_str (by unfold text; rw [if_neg (by omega)]), HB.out⟩)
end Go.Proofs.YtcfcpbkeedfbpaaGreatDoor

namespace Go.Proofs.YtcfcpbkeedfbpaaGreatDoor
open Go.RowKit CurSpec TermSpec ExprSpec
set_option maxRecDepth 100000

namespace ExprSpec
def bk (b : Prop) [Decidable b] (s : ByteArray) : ByteArray := if b then (⟨#[40]⟩ ++ s) ++ ⟨#[41]⟩ else s
/-- The text of an expression. -/
def tx : Ex → ByteArray
  | .leaf t => if t.op = 1 then bs (ValSpec.text t.n) else if t.op = 2 then t.s else if t.op = 9 then ⟨#[116, 114, 117, 101]⟩ else if t.op = 10 then ⟨#[102, 97, 108, 115, 101]⟩ else (⟨#[105, 110, 40]⟩ ++ t.s) ++ ⟨#[41]⟩
  | .un o a => if o = 3 then ⟨#[45]⟩ ++ bk (lev a < 7) (tx a) else ⟨#[110, 111, 116, 32]⟩ ++ bk (lev a < 3) (tx a)
  | .bin o a b => if o = 7 then (((⟨#[109, 105, 110, 40]⟩ ++ tx a) ++ ⟨#[44, 32]⟩) ++ tx b) ++ ⟨#[41]⟩
    else if o = 8 then (((⟨#[109, 97, 120, 40]⟩ ++ tx a) ++ ⟨#[44, 32]⟩) ++ tx b) ++ ⟨#[41]⟩
    else (((bk (lev a < (sgOf o).left) (tx a) ++ ⟨#[32]⟩) ++ (sgOf o).t) ++ ⟨#[32]⟩) ++ bk (lev b < (sgOf o).right) (tx b)
def opE : Ex → Int
  | .leaf t => t.op
  | .un o _ => o
  | .bin o _ _ => o
def levO (o : Int) : Int := if o = 1 ∨ o = 2 ∨ o = 9 ∨ o = 10 ∨ o = 11 ∨ o = 7 ∨ o = 8 then 8 else if o = 12 then 3 else if o = 3 then 7 else (opSg o).lev
theorem lev_opE {e : Ex} (h : Good e) : lev e = levO (opE e) := by
  cases e with
  | leaf t =>
    have := leaf_ops h.1
    show (8 : Int) = levO t.op
    unfold levO
    rw [if_pos (by omega)]
  | un o a =>
    have ho : o = 3 ∨ o = 12 := by
      have h1 := h.1
      unfold ar at h1
      split at h1
      · omega
      split at h1
      · assumption
      split at h1 <;> omega
    rcases ho with rfl | rfl <;> rfl
  | bin o a b =>
    have e : lev (.bin o a b) = if o = 7 ∨ o = 8 then 8 else (sgOf o).lev := rfl
    rw [e]
    show _ = levO o
    unfold levO
    by_cases h7 : o = 7 ∨ o = 8
    · rw [if_pos h7, if_pos (by omega)]
    · have h1 : ¬ (o = 1 ∨ o = 2 ∨ o = 9 ∨ o = 10 ∨ o = 11 ∨ o = 12 ∨ o = 3) := by
        rintro (rfl | rfl | rfl | rfl | rfl | rfl | rfl) <;> exact absurd h.1 (by decide)
      rw [if_neg h7, if_neg (by omega), if_neg (by omega), if_neg (by omega)]
      rfl
theorem bk_size (b : Prop) [Decidable b] (s : ByteArray) : (bk b s).size ≤ s.size + 2 := by
  unfold bk
  split
  · rw [ByteArray.size_append, ByteArray.size_append]
    show 1 + s.size + 1 ≤ _
    omega
  · omega
theorem bs_size (l : List UInt8) : (bs l).size = l.length := rfl
theorem name_size {s : ByteArray} (h : NamesSpec.isName s.data.toList = true) : s.size ≤ 12 := by
  unfold NamesSpec.isName at h
  simp only [Bool.and_eq_true, decide_eq_true_eq] at h
  have := h.1.1.1.2
  rwa [show s.data.toList.length = s.size from rfl] at this
theorem text_size {n : Int} (h : 0 ≤ n ∧ n ≤ 1000000) : (ValSpec.text n).length ≤ 12 := by
  unfold ValSpec.text
  rw [if_neg (by omega)]
  have := ValSpec.digs_len 6 n.natAbs (by omega)
  omega
theorem sg_size : ∀ s ∈ sgs, s.t.size ≤ 3 := by decide
theorem tx_size : ∀ {e : Ex}, Good e → (tx e).size ≤ 30 * (flat e).length
  | .leaf t, h => by
    show (tx (.leaf t)).size ≤ 30
    unfold tx
    rcases leaf_ops h.1 with h1 | h1 | h1 | h1 | h1
    · rw [if_pos h1, bs_size]
      have := text_size (may_num h1 h.2).1
      omega
    · rw [if_neg (by omega), if_pos h1]
      have := name_size (may_name (.inl h1) h.2).1
      omega
    · rw [if_neg (by omega), if_neg (by omega), if_pos h1]
      decide
    · rw [if_neg (by omega), if_neg (by omega), if_neg (by omega), if_pos h1]
      decide
    · rw [if_neg (by omega), if_neg (by omega), if_neg (by omega), if_neg (by omega), ByteArray.size_append, ByteArray.size_append]
      have := name_size (may_name (.inr h1) h.2).1
      show 3 + t.s.size + 1 ≤ 30
      omega
  | .un o a, h => by
    have ih := tx_size h.2
    have h7 := bk_size (lev a < 7) (tx a)
    have h3 := bk_size (lev a < 3) (tx a)
    show (tx (.un o a)).size ≤ 30 * ((flat a).length + 1)
    unfold tx
    split
    · rw [ByteArray.size_append]
      show 1 + _ ≤ _
      omega
    · rw [ByteArray.size_append]
      show 4 + _ ≤ _
      omega
  | .bin o a b, h => by
    have iha := tx_size h.2.1
    have ihb := tx_size h.2.2
    have hl := bk_size (lev a < (sgOf o).left) (tx a)
    have hr := bk_size (lev b < (sgOf o).right) (tx b)
    show (tx (.bin o a b)).size ≤ 30 * ((flat a ++ flat b).length + 1)
    rw [List.length_append]
    unfold tx
    by_cases h7 : o = 7
    · rw [if_pos h7]
      simp only [ByteArray.size_append]
      show 4 + _ + 2 + _ + 1 ≤ _
      omega
    by_cases h8 : o = 8
    · rw [if_neg h7, if_pos h8]
      simp only [ByteArray.size_append]
      show 4 + _ + 2 + _ + 1 ≤ _
      omega
    · rw [if_neg h7, if_neg h8]
      have := sg_size _ (sgOf_mem h.1 (by omega)).1
      simp only [ByteArray.size_append]
      show _ + 1 + _ + 1 + _ ≤ _
      omega
theorem flat_first (e : Ex) : ∃ t r, flat e = t :: r ∧ t.op = opE e := by
  cases e with
  | leaf t => exact ⟨t, [], rfl, rfl⟩
  | un o a => exact ⟨opT o, flat a, rfl, rfl⟩
  | bin o a b => exact ⟨opT o, flat a ++ flat b, rfl, rfl⟩
end ExprSpec

def RetS (W : World) (s : ByteArray) (e : Ending) (w' : World) : Prop := e = .returned (.string s) ∧ Below W.heap.size W w'
structure TxAt (W : World) (A : Option Addr) (n c : Nat) (l : List Tm) : Prop where
  tms : Tms W (.slice A n c) l
  len : n = l.length
  few : n ≤ 1000
  sg : SignsIn W
theorem TxAt.on {W W' : World} {A : Option Addr} {n c : Nat} {l : List Tm} (h : TxAt W A n c l) (hb : Below W.heap.size W W') : TxAt W' A n c l := ⟨h.tms.keep hb, h.len, h.few, h.sg.keep hb⟩
def TextOk (e : Ex) : Prop := ∀ A n c l (a : Nat) rest W, TxAt W A n c l → l.drop a = flat e ++ rest → Calls Tryz.prog 86 #[.slice A n c, .int .i64 a] W (RetS W (tx e))
def WithinOk (e : Ex) : Prop := ∀ A n c l (a : Nat) rest (k : Int) W, TxAt W A n c l → l.drop a = flat e ++ rest → Calls Tryz.prog 123 #[.slice A n c, .int .i64 a, .int .i64 k] W (RetS W (bk (lev e < k) (tx e)))

theorem sg_field (x0 x1 x2 x3 x4 : Value) (w : World) : (Instr.field 163 (.agg #[x0, x1, x2, x3, x4]) 2).run Tryz.prog w = .ok x2 w := by kernel_rfl
set_option maxHeartbeats 2000000 in
theorem level_any (o : Int) (w : World) (hs : SignsIn w) : Calls Tryz.prog 154 #[.int .i64 o] w (RetI w (levO o)) := by
  have HS : Hid (Calls Tryz.prog 124 #[.int .i64 o] w fun e w' => e = .returned (.agg #[.string (opSg o).t, .int .i64 (opSg o).op, .int .i64 (opSg o).lev, .int .i64 (opSg o).left, .int .i64 (opSg o).right]) ∧ Below w.heap.size w w') := Lib.hid (signOf_any o w hs)
  clear hs
  by_cases h8 : o = 1 ∨ o = 2 ∨ o = 9 ∨ o = 10 ∨ o = 11 ∨ o = 7 ∨ o = 8
  · have HO : Hid (levO o = 8) := Lib.hid (if_pos h8)
    rcases h8 with rfl | rfl | rfl | rfl | rfl | rfl | rfl
    all_goals
      go_enter Tryz.func154, Tryz.ntmps154
      go_wp2_with fail
      go_ret
      exact ⟨by rw [HO.out]; rfl, Below.refl _ _⟩
  · by_cases h12 : o = 12
    · subst h12
      go_enter Tryz.func154, Tryz.ntmps154
      go_wp2_with fail
      go_ret
      exact ⟨rfl, Below.refl _ _⟩
    · by_cases h3 : o = 3
      · subst h3
        go_enter Tryz.func154, Tryz.ntmps154
        go_wp2_with fail
        go_ret
        exact ⟨rfl, Below.refl _ _⟩
      · have HO : Hid (levO o = (opSg o).lev) := Lib.hid (by unfold levO; rw [if_neg h8, if_neg h12, if_neg h3])
        have e1 : (o == 1) = false := by simp; omega
        have e2 : (o == 2) = false := by simp; omega
        have e3 : (o == 9) = false := by simp; omega
        have e4 : (o == 10) = false := by simp; omega
        have e5 : (o == 11) = false := by simp; omega
        have e6 : (o == 7) = false := by simp; omega
        have e7 : (o == 8) = false := by simp; omega
        have e8 : (o == 12) = false := by simp; omega
        have e9 : (o == 3) = false := by simp; omega
        have hfl := sg_field
        clear h8 h12 h3
        go_enter Tryz.func154, Tryz.ntmps154
        go_wp2_with (go_at_call 124; (with_reducible refine HS.out.mono ?_))
        rintro e w1 ⟨rfl, hb1⟩
        have HB1 := Lib.hid hb1
        clear hb1
        go_wp2_with fail
        go_ret
        exact ⟨by rw [HO.out]; rfl, HB1.out⟩

set_option maxHeartbeats 2000000 in
theorem within_ok {x : Ex} (hg : ExprSpec.Good x) (ht : TextOk x) : WithinOk x := by
  intro A n c l a rest k w h hd
  have HTX := Lib.hid (ht A n c l a rest w h hd)
  obtain ⟨t, r, hf, hop⟩ := flat_first x
  have hla : l[a]? = some t := by
    have : (l.drop a)[0]? = some t := by rw [hd, hf]; rfl
    rwa [List.getElem?_drop] at this
  obtain ⟨b, off, rfl, hb, c0, -, -⟩ := h.tms.at_ hla
  have hlen := h.len
  have hal : a < n := by have := get_lt hla; omega
  have hz : (tx x).size ≤ 60000 := by
    have h1 := tx_size hg
    have h2 := congrArg List.length hd
    have h3 := h.few
    rw [List.length_drop, List.length_append] at h2
    omega
  have hal' : (a : Int) < n := by omega
  have HL := Lib.hid (fun w h => level_any t.op w h)
  obtain ⟨lv, hlv⟩ : ∃ lv, lv = levO t.op := ⟨_, rfl⟩
  rw [← hlv] at HL
  have HE : Hid (lev x = lv) := Lib.hid (by rw [lev_opE hg, hlv, hop])
  obtain ⟨o, ho⟩ : ∃ o, o = t.op := ⟨_, rfl⟩
  rw [← ho] at HL c0
  have HS := Lib.hid h.sg
  have HC0 := Lib.hid c0
  clear ht h hd hf hop hla hlen ho hlv c0
  by_cases hk : lv < k
  all_goals
    go_enter Tryz.func123, Tryz.ntmps123
    go_wp2_with (go_at_call 86; (with_reducible refine HTX.out.mono ?_))
    rintro e w1 ⟨rfl, hb1⟩
    have c1 := (hb1.cell (p := ⟨b, off + a * 3, none⟩) hb).trans HC0.out
    have HL1 := Lib.hid (HL.out w1 (HS.out.keep hb1))
    have HB1 := Lib.hid hb1
    clear hb1
    go_wp2_with (go_at_call 154; (with_reducible refine HL1.out.mono ?_))
    rintro e w2 ⟨rfl, hb2⟩
    have HB2 := Lib.hid (below_two' HB1.out hb2)
    clear hb2 c1
    go_wp2_with fail
    go_ret
    refine ⟨?_, HB2.out⟩
    rw [HE.out]
    first | rw [show bk (lv < k) (tx x) = (⟨#[40]⟩ ++ tx x) ++ ⟨#[41]⟩ from if_pos hk] | rw [show bk (lv < k) (tx x) = tx x from if_neg (by omega)]
    rfl
end Go.Proofs.YtcfcpbkeedfbpaaGreatDoor

namespace Go.Proofs.YtcfcpbkeedfbpaaGreatDoor
namespace ActSpec
open TermSpec EvalSpec NamesSpec ExprSpec

/-- An act whose expression is a tree. -/
structure Ta where
  s : ByteArray
  any : Bool
  e : Ex
def Ta.ac (t : Ta) : Ac := ⟨t.s, t.any, if t.any then [] else flat t.e⟩
def Ta.Ok (t : Ta) : Prop := isName t.s.data.toList = true ∧ (t.any = false → ExprSpec.Good t.e ∧ chk (flat t.e) = 0)
/-- The text of an act. -/
def txA (t : Ta) : ByteArray := if t.any then ⟨#[97, 110, 121, 32]⟩ ++ t.s else t.s ++ ⟨#[32, 58, 61, 32]⟩ ++ tx t.e
theorem ta_few {t : Ta} (h : t.Ok) (ha : t.any = false) : (flat t.e).length ≤ 40 := (wholeB_iff.1 (chk_ok (h.2 ha).2).1).1
theorem txA_size {t : Ta} (h : t.Ok) : (txA t).size ≤ 1300 := by
  have h1 := name_size h.1
  unfold txA
  rcases ha : t.any with _ | _
  · have h2 := tx_size (h.2 ha).1
    have h3 := ta_few h ha
    simp only [Bool.false_eq_true, if_false, ByteArray.size_append]
    show t.s.size + 4 + (tx t.e).size ≤ 1300
    omega
  · simp only [if_true, ByteArray.size_append]
    show 4 + t.s.size ≤ 1300
    omega
/-- Acts' text. -/
def putT (ts : List Ta) : List UInt8 := Lib.join (ts.map fun t => (txA t).data.toList) [44, 32]
def putB (ts : List Ta) : ByteArray := ⟨(putT ts).toArray⟩
theorem putT_snoc (ts : List Ta) (t : Ta) : putT (ts ++ [t]) = (if ts = [] then [] else putT ts ++ [44, 32]) ++ (txA t).data.toList := by
  unfold putT
  cases ts with
  | nil => simp [Lib.join_one]
  | cons u r =>
    rw [if_neg (by simp)]
    simp only [List.cons_append, List.map_cons, List.map_append, Lib.join_cons, List.map_nil]
    unfold Lib.joinTail
    simp
theorem putB_snoc (ts : List Ta) (t : Ta) : putB (ts ++ [t]) = (if ts = [] then ⟨#[]⟩ else putB ts ++ ⟨#[44, 32]⟩) ++ txA t := by
  apply ByteArray.ext
  apply Array.ext'
  rw [ByteArray.data_append]
  simp only [putB, putT_snoc]
  split
  · simp
  · simp [ByteArray.data_append]
theorem putB_size {ts : List Ta} (h : ∀ t ∈ ts, t.Ok) : (putB ts).size ≤ 1302 * ts.length := by
  have : ∀ n, n ≤ ts.length → (putB (ts.take n)).size ≤ 1302 * n := by
    intro n
    induction n with
    | zero => intro _; simp [putB, putT, Lib.join_nil, ByteArray.size]
    | succ n ih =>
      intro hn
      have hg : ts[n]? = some ts[n] := List.getElem?_eq_getElem (by omega)
      have h1 := ih (by omega)
      have h2 := txA_size (h ts[n] (List.getElem_mem _))
      rw [List.take_add_one, hg, Option.toList_some, putB_snoc, ByteArray.size_append]
      split
      · show 0 + _ ≤ _
        omega
      · rw [ByteArray.size_append]
        show _ + 2 + _ ≤ _
        omega
  have h2 := this ts.length (Nat.le_refl _)
  rwa [List.take_length] at h2
end ActSpec
end Go.Proofs.YtcfcpbkeedfbpaaGreatDoor
