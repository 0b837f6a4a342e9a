/- ExprText, joined. -/
import Derived.Test.YtffdfajlfgeicaaDoorMExprReads
import Derived.Test.YtffdfajlfgeicaaDoorMExprSigns
import Derived.Test.YtffdfajlfgeicaaDoorMTermA
import Derived.Test.YtffdfajlfgeicaaDoorMVal
import Derived.Deep.RegionHeld3
namespace Go.Proofs.YtffdfajlfgeicaaDoor
open Go.RowKit CurSpec TermSpec ExprSpec
set_option maxRecDepth 100000

namespace ExprSpec
def bk (b : Prop) [Decidable b] (s : ByteArray) : ByteArray := if b then (⟨#[40]⟩ ++ s) ++ ⟨#[41]⟩ else s
/-- The text of an expression. -/
def tx : Ex → ByteArray
  | .leaf t => if t.op = 1 then bs (ValSpec.text t.n) else if t.op = 2 then t.s else if t.op = 9 then ⟨#[116, 114, 117, 101]⟩ else if t.op = 10 then ⟨#[102, 97, 108, 115, 101]⟩ else (⟨#[105, 110, 40]⟩ ++ t.s) ++ ⟨#[41]⟩
  | .un o a => if o = 3 then ⟨#[45]⟩ ++ bk (lev a < 7) (tx a) else ⟨#[110, 111, 116, 32]⟩ ++ bk (lev a < 3) (tx a)
  | .bin o a b => if o = 7 then (((⟨#[109, 105, 110, 40]⟩ ++ tx a) ++ ⟨#[44, 32]⟩) ++ tx b) ++ ⟨#[41]⟩
    else if o = 8 then (((⟨#[109, 97, 120, 40]⟩ ++ tx a) ++ ⟨#[44, 32]⟩) ++ tx b) ++ ⟨#[41]⟩
    else (((bk (lev a < (sgOf o).left) (tx a) ++ ⟨#[32]⟩) ++ (sgOf o).t) ++ ⟨#[32]⟩) ++ bk (lev b < (sgOf o).right) (tx b)
def opE : Ex → Int
  | .leaf t => t.op
  | .un o _ => o
  | .bin o _ _ => o
def lastB (o : Int) : Bool := decide (o = 1) || (decide (o = 2) || (decide (o = 9) || (decide (o = 10) || (decide (o = 11) || (decide (o = 7) || decide (o = 8))))))
def levO (o : Int) : Int := if o = 1 ∨ o = 2 ∨ o = 9 ∨ o = 10 ∨ o = 11 ∨ o = 7 ∨ o = 8 then 8 else if o = 12 then 3 else if o = 3 then 7 else (opSg o).lev
theorem lev_opE {e : Ex} (h : Good e) : lev e = levO (opE e) := by
  cases e with
  | leaf t =>
    have := leaf_ops h.1
    show (8 : Int) = levO t.op
    unfold levO
    rw [if_pos (by omega)]
  | un o a =>
    have ho : o = 3 ∨ o = 12 := by
      have h1 := h.1
      unfold ar at h1
      split at h1
      · omega
      split at h1
      · assumption
      split at h1 <;> omega
    rcases ho with rfl | rfl <;> rfl
  | bin o a b =>
    have e : lev (.bin o a b) = if o = 7 ∨ o = 8 then 8 else (sgOf o).lev := rfl
    rw [e]
    show _ = levO o
    unfold levO
    by_cases h7 : o = 7 ∨ o = 8
    · rw [if_pos h7, if_pos (by omega)]
    · have h1 : ¬ (o = 1 ∨ o = 2 ∨ o = 9 ∨ o = 10 ∨ o = 11 ∨ o = 12 ∨ o = 3) := by
        rintro (rfl | rfl | rfl | rfl | rfl | rfl | rfl) <;> exact absurd h.1 (by decide)
      rw [if_neg h7, if_neg (by omega), if_neg (by omega), if_neg (by omega)]
      rfl
theorem bk_size (b : Prop) [Decidable b] (s : ByteArray) : (bk b s).size ≤ s.size + 2 := by
  unfold bk
  split
  · rw [ByteArray.size_append, ByteArray.size_append]
    show 1 + s.size + 1 ≤ _
    omega
  · omega
theorem bs_size (l : List UInt8) : (bs l).size = l.length := rfl
theorem name_size {s : ByteArray} (h : NamesSpec.isName s.data.toList = true) : s.size ≤ 12 := by
  unfold NamesSpec.isName at h
  simp only [Bool.and_eq_true, decide_eq_true_eq] at h
  have := h.1.1.1.2
  rwa [show s.data.toList.length = s.size from rfl] at this
theorem text_size {n : Int} (h : 0 ≤ n ∧ n ≤ 1000000) : (ValSpec.text n).length ≤ 12 := by
  unfold ValSpec.text
  rw [if_neg (by omega)]
  have := ValSpec.digs_len 6 n.natAbs (by omega)
  omega
theorem sg_size : ∀ s ∈ sgs, s.t.size ≤ 3 := by decide
theorem tx_size : ∀ {e : Ex}, Good e → (tx e).size ≤ 30 * (flat e).length
  | .leaf t, h => by
    show (tx (.leaf t)).size ≤ 30
    unfold tx
    rcases leaf_ops h.1 with h1 | h1 | h1 | h1 | h1
    · rw [if_pos h1, bs_size]
      have := text_size (may_num h1 h.2).1
      omega
    · rw [if_neg (by omega), if_pos h1]
      have := name_size (may_name (.inl h1) h.2).1
      omega
    · rw [if_neg (by omega), if_neg (by omega), if_pos h1]
      decide
    · rw [if_neg (by omega), if_neg (by omega), if_neg (by omega), if_pos h1]
      decide
    · rw [if_neg (by omega), if_neg (by omega), if_neg (by omega), if_neg (by omega), ByteArray.size_append, ByteArray.size_append]
      have := name_size (may_name (.inr h1) h.2).1
      show 3 + t.s.size + 1 ≤ 30
      omega
  | .un o a, h => by
    have ih := tx_size h.2
    have h7 := bk_size (lev a < 7) (tx a)
    have h3 := bk_size (lev a < 3) (tx a)
    show (tx (.un o a)).size ≤ 30 * ((flat a).length + 1)
    unfold tx
    split
    · rw [ByteArray.size_append]
      show 1 + _ ≤ _
      omega
    · rw [ByteArray.size_append]
      show 4 + _ ≤ _
      omega
  | .bin o a b, h => by
    have iha := tx_size h.2.1
    have ihb := tx_size h.2.2
    have hl := bk_size (lev a < (sgOf o).left) (tx a)
    have hr := bk_size (lev b < (sgOf o).right) (tx b)
    show (tx (.bin o a b)).size ≤ 30 * ((flat a ++ flat b).length + 1)
    rw [List.length_append]
    unfold tx
    by_cases h7 : o = 7
    · rw [if_pos h7]
      simp only [ByteArray.size_append]
      show 4 + _ + 2 + _ + 1 ≤ _
      omega
    by_cases h8 : o = 8
    · rw [if_neg h7, if_pos h8]
      simp only [ByteArray.size_append]
      show 4 + _ + 2 + _ + 1 ≤ _
      omega
    · rw [if_neg h7, if_neg h8]
      have := sg_size _ (sgOf_mem h.1 (by omega)).1
      simp only [ByteArray.size_append]
      show _ + 1 + _ + 1 + _ ≤ _
      omega
theorem flat_first (e : Ex) : ∃ t r, flat e = t :: r ∧ t.op = opE e := by
  cases e with
  | leaf t => exact ⟨t, [], rfl, rfl⟩
  | un o a => exact ⟨opT o, flat a, rfl, rfl⟩
  | bin o a b => exact ⟨opT o, flat a ++ flat b, rfl, rfl⟩
end ExprSpec

def RetS (W : World) (s : ByteArray) (e : Ending) (w' : World) : Prop := e = .returned (.string s) ∧ Below W.heap.size W w'
structure TxAt (W : World) (A : Option Addr) (n c : Nat) (l : List Tm) : Prop where
  tms : Tms W (.slice A n c) l
  len : n = l.length
  few : n ≤ 1000
  sg : SignsIn W
theorem TxAt.on {W W' : World} {A : Option Addr} {n c : Nat} {l : List Tm} (h : TxAt W A n c l) (hb : Below W.heap.size W W') : TxAt W' A n c l := ⟨h.tms.keep hb, h.len, h.few, h.sg.keep hb⟩
def TextOk (e : Ex) : Prop := ∀ A n c l (a : Nat) rest W, TxAt W A n c l → l.drop a = flat e ++ rest → Calls Tryd.prog 31 #[.slice A n c, .int .i64 a] W (RetS W (tx e))
def WithinOk (e : Ex) : Prop := ∀ A n c l (a : Nat) rest (k : Int) W, TxAt W A n c l → l.drop a = flat e ++ rest → Calls Tryd.prog 55 #[.slice A n c, .int .i64 a, .int .i64 k] W (RetS W (bk (lev e < k) (tx e)))

theorem sg_field (x0 x1 x2 x3 x4 : Value) (w : World) : (Instr.field 88 (.agg #[x0, x1, x2, x3, x4]) 2).run Tryd.prog w = .ok x2 w := by kernel_rfl
set_option maxHeartbeats 2000000 in
theorem level_any (o : Int) (w : World) (hs : SignsIn w) : Calls Tryd.prog 80 #[.int .i64 o] w (RetI w (levO o)) := by
  have HS : Hid (Calls Tryd.prog 56 #[.int .i64 o] w fun e w' => e = .returned (.agg #[.string (opSg o).t, .int .i64 (opSg o).op, .int .i64 (opSg o).lev, .int .i64 (opSg o).left, .int .i64 (opSg o).right]) ∧ Below w.heap.size w w') := Lib.hid (signOf_any o w hs)
  clear hs
  by_cases h8 : o = 1 ∨ o = 2 ∨ o = 9 ∨ o = 10 ∨ o = 11 ∨ o = 7 ∨ o = 8
  · have HO : Hid (levO o = 8) := Lib.hid (if_pos h8)
    rcases h8 with rfl | rfl | rfl | rfl | rfl | rfl | rfl
    all_goals
      go_enter Tryd.func80, Tryd.ntmps80
      go_wp2_with fail
      go_ret
      exact ⟨by rw [HO.out]; rfl, Below.refl _ _⟩
  · by_cases h12 : o = 12
    · subst h12
      go_enter Tryd.func80, Tryd.ntmps80
      go_wp2_with fail
      go_ret
      exact ⟨rfl, Below.refl _ _⟩
    · by_cases h3 : o = 3
      · subst h3
        go_enter Tryd.func80, Tryd.ntmps80
        go_wp2_with fail
        go_ret
        exact ⟨rfl, Below.refl _ _⟩
      · have HO : Hid (levO o = (opSg o).lev) := Lib.hid (by unfold levO; rw [if_neg h8, if_neg h12, if_neg h3])
        have e1 : (o == 1) = false := by simp; omega
        have e2 : (o == 2) = false := by simp; omega
        have e3 : (o == 9) = false := by simp; omega
        have e4 : (o == 10) = false := by simp; omega
        have e5 : (o == 11) = false := by simp; omega
        have e6 : (o == 7) = false := by simp; omega
        have e7 : (o == 8) = false := by simp; omega
        have e8 : (o == 12) = false := by simp; omega
        have e9 : (o == 3) = false := by simp; omega
        have hfl := sg_field
        clear h8 h12 h3
        go_enter Tryd.func80, Tryd.ntmps80
        go_wp2_with (go_at_call 56; (with_reducible refine HS.out.mono ?_))
        rintro e w1 ⟨rfl, hb1⟩
        have HB1 := Lib.hid hb1
        clear hb1
        go_wp2_with fail
        go_ret
        exact ⟨by rw [HO.out]; rfl, HB1.out⟩

set_option maxHeartbeats 2000000 in
theorem within_ok {x : Ex} (hg : ExprSpec.Good x) (ht : TextOk x) : WithinOk x := by
  intro A n c l a rest k w h hd
  have HTX := Lib.hid (ht A n c l a rest w h hd)
  obtain ⟨t, r, hf, hop⟩ := flat_first x
  have hla : l[a]? = some t := by
    have : (l.drop a)[0]? = some t := by rw [hd, hf]; rfl
    rwa [List.getElem?_drop] at this
  obtain ⟨b, off, rfl, hb, c0, -, -⟩ := h.tms.at_ hla
  have hlen := h.len
  have hal : a < n := by have := get_lt hla; omega
  have hz : (tx x).size ≤ 60000 := by
    have h1 := tx_size hg
    have h2 := congrArg List.length hd
    have h3 := h.few
    rw [List.length_drop, List.length_append] at h2
    omega
  have hal' : (a : Int) < n := by omega
  have HL := Lib.hid (fun w h => level_any t.op w h)
  obtain ⟨lv, hlv⟩ : ∃ lv, lv = levO t.op := ⟨_, rfl⟩
  rw [← hlv] at HL
  have HE : Hid (lev x = lv) := Lib.hid (by rw [lev_opE hg, hlv, hop])
  obtain ⟨o, ho⟩ : ∃ o, o = t.op := ⟨_, rfl⟩
  rw [← ho] at HL c0
  have HS := Lib.hid h.sg
  have HC0 := Lib.hid c0
  clear ht h hd hf hop hla hlen ho hlv c0
  by_cases hk : lv < k
  all_goals
    go_enter Tryd.func55, Tryd.ntmps55
    go_wp2_with (go_at_call 31; (with_reducible refine HTX.out.mono ?_))
    rintro e w1 ⟨rfl, hb1⟩
    have c1 := (hb1.cell (p := ⟨b, off + a * 3, none⟩) hb).trans HC0.out
    have HL1 := Lib.hid (HL.out w1 (HS.out.keep hb1))
    have HB1 := Lib.hid hb1
    clear hb1
    go_wp2_with (go_at_call 80; (with_reducible refine HL1.out.mono ?_))
    rintro e w2 ⟨rfl, hb2⟩
    have HB2 := Lib.hid (below_two' HB1.out hb2)
    clear hb2 c1
    go_wp2_with fail
    go_ret
    refine ⟨?_, HB2.out⟩
    rw [HE.out]
    first | rw [show bk (lv < k) (tx x) = (⟨#[40]⟩ ++ tx x) ++ ⟨#[41]⟩ from if_pos hk] | rw [show bk (lv < k) (tx x) = tx x from if_neg (by omega)]
    rfl
end Go.Proofs.YtffdfajlfgeicaaDoor
