/- ValTextSpec, CurSpec, CurMem, ActDo, ActCheck, ActRunSpec, joined. -/
import Derived.Test.YtcfcpbkeedfbpaaGreatDoorMActReads00
import Derived.Test.YtcfcpbkeedfbpaaGreatDoorRows
import Derived.Test.YtcfcpbkeedfbpaaGreatDoorMActReads05
import Derived.Deep.RegionHeld3
import Derived.Test.YtcfcpbkeedfbpaaGreatDoorMActReads03
import Derived.Test.YtcfcpbkeedfbpaaGreatDoorMActReads01
/- Plain mathematics for numbers as texts: which lists of bytes are numerals, what they say, the digits of a number, and that one undoes the other. No condition. -/
namespace Go.Proofs.YtcfcpbkeedfbpaaGreatDoor
namespace ValSpec

def isDig (c : UInt8) : Bool := decide (48 ≤ (c.toNat : Int) ∧ (c.toNat : Int) ≤ 57)
def isNum (l : List UInt8) : Bool := !l.isEmpty && !(l.head? == some 48 && decide (1 < l.length)) && l.all isDig
/-- What digits say. -/
def says (l : List UInt8) : Int := l.foldl (fun n c => 10 * n + ((c.toNat : Int) - 48)) 0
/-- The answer of Get: the number, and the error's number. -/
def getN (l : List UInt8) : Int := if isNum l then (if 1000000 < says l then 0 else says l) else 0
def getE (l : List UInt8) : Int := if isNum l then (if 1000000 < says l then 3 else 0) else 2

theorem says_snoc (l : List UInt8) (c : UInt8) : says (l ++ [c]) = 10 * says l + ((c.toNat : Int) - 48) := by simp [says, List.foldl_append]
theorem fold_ge (l : List UInt8) (h : l.all isDig = true) : ∀ n : Int, 0 ≤ n → n ≤ l.foldl (fun n c => 10 * n + ((c.toNat : Int) - 48)) n := by
  induction l with
  | nil => intro n _; exact Int.le_refl _
  | cons c l ih =>
    intro n hn
    simp only [List.all_cons, Bool.and_eq_true] at h
    have hc : 48 ≤ (c.toNat : Int) ∧ (c.toNat : Int) ≤ 57 := by simpa [isDig] using h.1
    have := ih h.2 (10 * n + ((c.toNat : Int) - 48)) (by omega)
    simp only [List.foldl_cons]
    omega
theorem says_nonneg (l : List UInt8) (h : l.all isDig = true) : 0 ≤ says l := fold_ge l h 0 (Int.le_refl _)
theorem says_append_ge (l m : List UInt8) (h : (l ++ m).all isDig = true) : says l ≤ says (l ++ m) := by
  rw [List.all_append, Bool.and_eq_true] at h
  unfold says
  rw [List.foldl_append]
  exact fold_ge m h.2 _ (says_nonneg l h.1)
theorem says_take_le (l : List UInt8) (k : Nat) (h : l.all isDig = true) : says (l.take k) ≤ says l := by
  have := says_append_ge (l.take k) (l.drop k) (by rw [List.take_append_drop]; exact h)
  rwa [List.take_append_drop] at this
theorem all_take {l : List UInt8} (k : Nat) (h : l.all isDig = true) : (l.take k).all isDig = true := by
  rw [List.all_eq_true] at h ⊢
  exact fun x hx => h x (List.mem_of_mem_take hx)
theorem dig_bd {c : UInt8} (h : isDig c = true) : 48 ≤ (c.toNat : Int) ∧ (c.toNat : Int) ≤ 57 := by simpa [isDig] using h
theorem dig_mk {c : UInt8} (h1 : 48 ≤ (c.toNat : Int)) (h2 : (c.toNat : Int) ≤ 57) : isDig c = true := by simp [isDig, h1, h2]
theorem not_dig_lo {c : UInt8} (h1 : (c.toNat : Int) < 48) : isDig c = false := by simp [isDig]; omega
theorem not_dig_hi {c : UInt8} (h1 : 57 < (c.toNat : Int)) : isDig c = false := by simp [isDig]; omega
theorem isNum_all {l : List UInt8} (h : isNum l = true) : l.all isDig = true := by simp [isNum] at h; simp [List.all_eq_true]; exact h.2
/-- The digits of a number from 0 on. -/
def digs (n : Nat) : List UInt8 := if n < 10 then [UInt8.ofNat (48 + n)] else digs (n / 10) ++ [UInt8.ofNat (48 + n % 10)]
termination_by n
decreasing_by omega
/-- A number's text. -/
def text (n : Int) : List UInt8 := if n < 0 then 45 :: digs n.natAbs else digs n.natAbs

theorem digs_lt {n : Nat} (h : n < 10) : digs n = [UInt8.ofNat (48 + n)] := by rw [digs, if_pos h]
theorem digs_ge {n : Nat} (h : ¬ n < 10) : digs n = digs (n / 10) ++ [UInt8.ofNat (48 + n % 10)] := by rw [digs, if_neg h]
theorem byte_nat {d : Nat} (h : d < 208) : (UInt8.ofNat (48 + d)).toNat = 48 + d := by simp [UInt8.toNat_ofNat']; omega
theorem digs_len : ∀ (k n : Nat), n < 10 ^ (k + 1) → (digs n).length ≤ k + 1 := by
  intro k
  induction k with
  | zero => intro n h; rw [digs_lt (by omega)]; simp
  | succ k ih =>
    intro n h
    by_cases h' : n < 10
    · rw [digs_lt h']; simp
    · rw [digs_ge h', List.length_append]
      have : n / 10 < 10 ^ (k + 1) := by rw [Nat.div_lt_iff_lt_mul (by omega)]; rwa [Nat.pow_succ] at h
      have := ih _ this
      simp; omega
end ValSpec
end Go.Proofs.YtcfcpbkeedfbpaaGreatDoor

namespace Go.Proofs.YtcfcpbkeedfbpaaGreatDoor.CurSpec
open NamesSpec ValSpec

/-- A token: its kind, what it says, its line and byte. -/
structure Tk where
  k : Int
  t : ByteArray
  l : Int
  c : Int
def tz : Tk := ⟨0, ⟨#[]⟩, 0, 0⟩
/-- A cursor: the tokens that are left, the last one's place, the fault's place and the fault. -/
structure Cur where
  L : List Tk
  w1 : Int
  w2 : Int
  a1 : Int
  a2 : Int
  bad : Int
def next (c : Cur) : Tk := if c.bad = 0 then (match c.L with | [] => ⟨0, ⟨#[]⟩, c.w1, c.w2⟩ | t :: _ => t) else tz
def on (c : Cur) : Cur := match c.L with | [] => c | t :: r => ⟨r, t.l, t.c, c.a1, c.a2, c.bad⟩
def fail (c : Cur) (e : Int) : Cur := if c.bad = 0 ∧ e ≠ 0 then ⟨c.L, c.w1, c.w2, (next c).l, (next c).c, e⟩ else c
def isB (c : Cur) (k : Int) (s : ByteArray) : Bool := decide (c.bad = 0) && (decide ((next c).k = k) && decide ((next c).t = s))
def take (c : Cur) (k : Int) (s : ByteArray) : Cur := if isB c k s then on c else c
def want (c : Cur) (k : Int) (s : ByteArray) : Cur := if isB c k s then on c else fail c 2
def nameB (c : Cur) : Bool := decide (c.bad = 0) && (decide ((next c).k = 1) && isName (next c).t.data.toList)
def nameC (c : Cur) : Cur := if nameB c then on c else fail c 2
def nameS (c : Cur) : ByteArray := if nameB c then (next c).t else ⟨#[]⟩
/-- Why the next token is no number that may be (0: it is one). -/
def numE (c : Cur) (m : Int) : Int := if c.bad = 0 ∧ (next c).k = 2 then (if getE (next c).t.data.toList = 0 then (if m < getN (next c).t.data.toList then 3 else 0) else getE (next c).t.data.toList) else 2
def numC (c : Cur) (m : Int) : Cur := if numE c m = 0 then on c else fail c (numE c m)
def numN (c : Cur) (m : Int) : Int := if numE c m = 0 then getN (next c).t.data.toList else 0
/-- The tokens that are left, with the end behind them. -/
def full : List Tk → Int → Int → List Tk
  | [], a, b => [⟨0, ⟨#[]⟩, a, b⟩]
  | t :: r, _, _ => t :: full r t.l t.c
theorem full_length : ∀ (L : List Tk) (a b : Int), (full L a b).length = L.length + 1
  | [], _, _ => rfl
  | _ :: r, _, _ => by rw [full, List.length_cons, full_length r, List.length_cons]
theorem on_nil {c : Cur} (h : c.L.length = 0) : on c = c := by
  unfold on
  rw [List.eq_nil_of_length_eq_zero h]
theorem on_full {c : Cur} (h : 0 < c.L.length) : full c.L c.w1 c.w2 = (full c.L c.w1 c.w2).headD tz :: full (on c).L (on c).w1 (on c).w2 := by
  obtain ⟨L, w1, w2, a1, a2, bad⟩ := c
  cases L with
  | nil => simp at h
  | cons t r => rfl
theorem on_bad (c : Cur) : (on c).bad = c.bad ∧ (on c).a1 = c.a1 ∧ (on c).a2 = c.a2 := by
  unfold on
  split <;> exact ⟨rfl, rfl, rfl⟩
theorem on_len (c : Cur) : (on c).L.length = c.L.length - 1 := by
  unfold on
  split
  · rename_i h; rw [h]; rfl
  · rename_i h; rw [h]; rfl
theorem fail_yes {c : Cur} {e : Int} (h : c.bad = 0) (he : e ≠ 0) : fail c e = ⟨c.L, c.w1, c.w2, (next c).l, (next c).c, e⟩ := if_pos ⟨h, he⟩
theorem fail_zero (c : Cur) : fail c 0 = c := if_neg (fun h => h.2 rfl)
theorem fail_dead {c : Cur} (e : Int) (h : c.bad ≠ 0) : fail c e = c := if_neg (fun h' => h h'.1)
theorem isB_dead {c : Cur} (k : Int) (s : ByteArray) (h : c.bad ≠ 0) : isB c k s = false := by simp [isB, h]
theorem next_dead {c : Cur} (h : c.bad ≠ 0) : next c = tz := if_neg h
theorem numE_dead {c : Cur} (m : Int) (h : c.bad ≠ 0) : numE c m = 2 := if_neg (fun h' => h h'.1)
theorem nameB_dead {c : Cur} (h : c.bad ≠ 0) : nameB c = false := by simp [nameB, h]

/-- Texts that memory holds. -/
def Ok (c : Cur) : Prop := ∀ t ∈ c.L, t.t.size ≤ 9223372036854775807
theorem Ok.next {c : Cur} (h : Ok c) : (next c).t.size ≤ 9223372036854775807 := by
  obtain ⟨L, w1, w2, a1, a2, bad⟩ := c
  unfold CurSpec.next
  split
  · cases L with
    | nil => exact (by decide : (⟨#[]⟩ : ByteArray).size ≤ 9223372036854775807)
    | cons t r => exact h t (by simp)
  · exact (by decide : (⟨#[]⟩ : ByteArray).size ≤ 9223372036854775807)
theorem Ok.on {c : Cur} (h : Ok c) : Ok (on c) := by
  obtain ⟨L, w1, w2, a1, a2, bad⟩ := c
  cases L with
  | nil => exact h
  | cons t r => exact fun x hx => h x (by simp [CurSpec.on] at hx ⊢; exact .inr hx)
theorem Ok.fail {c : Cur} (h : Ok c) (e : Int) : Ok (fail c e) := by
  unfold CurSpec.fail
  split
  · exact h
  · exact h
theorem Ok.take {c : Cur} (h : Ok c) (k : Int) (s : ByteArray) : Ok (take c k s) := by
  unfold CurSpec.take
  split
  · exact h.on
  · exact h
theorem Ok.want {c : Cur} (h : Ok c) (k : Int) (s : ByteArray) : Ok (want c k s) := by
  unfold CurSpec.want
  split
  · exact h.on
  · exact h.fail 2
theorem Ok.nameC {c : Cur} (h : Ok c) : Ok (nameC c) := by
  unfold CurSpec.nameC
  split
  · exact h.on
  · exact h.fail 2
theorem Ok.numC {c : Cur} (h : Ok c) (m : Int) : Ok (numC c m) := by
  unfold CurSpec.numC
  split
  · exact h.on
  · exact h.fail _
end Go.Proofs.YtcfcpbkeedfbpaaGreatDoor.CurSpec

namespace Go.Proofs.YtcfcpbkeedfbpaaGreatDoor
open Go.RowKit CurSpec

def tkV (t : Tk) : List Value := [.int .i64 t.k, .string t.t, .int .i64 t.l, .int .i64 t.c]
def tksV (l : List Tk) : List Value := l.flatMap tkV
theorem tkV_length (t : Tk) : (tkV t).length = 4 := rfl
theorem tksV_length (l : List Tk) : (tksV l).length = l.length * 4 := flat_length tkV_length l
theorem tkV_one (t : Tk) : ∀ u ∈ tkV t, u.oneCell' = true := by simp [tkV, Value.oneCell']
theorem tksV_one (l : List Tk) : ∀ u ∈ tksV l, u.oneCell' = true := by
  intro u hu
  obtain ⟨t, _, h⟩ := List.mem_flatMap.1 hu
  exact tkV_one t u h
theorem tksV_cons (t : Tk) (l : List Tk) : tksV (t :: l) = tkV t ++ tksV l := by simp [tksV]
theorem tksV_get {l : List Tk} {i : Nat} {t : Tk} (h : l[i]? = some t) : (tksV l)[i * 4]? = some (.int .i64 t.k) ∧ (tksV l)[i * 4 + 1]? = some (.string t.t) ∧ (tksV l)[i * 4 + 2]? = some (.int .i64 t.l) ∧ (tksV l)[i * 4 + 3]? = some (.int .i64 t.c) :=
  ⟨flat_get (j := 0) tkV_length h (by omega), flat_get (j := 1) tkV_length h (by omega), flat_get (j := 2) tkV_length h (by omega), flat_get (j := 3) tkV_length h (by omega)⟩
/-- The value is a slice of these tokens. -/
def Toks (w : World) (v : Value) (l : List Tk) : Prop := ∃ n, n = l.length ∧ Rdk 4 w v n (tksV l)
theorem Toks.keep {w w' : World} {v : Value} {l : List Tk} (h : Toks w v l) (hb : Below w.heap.size w w') : Toks w' v l := by
  obtain ⟨n, hn, h⟩ := h
  exact ⟨n, hn, h.keep hb⟩
theorem Toks.alloc {w : World} {v : Value} {l : List Tk} (h : Toks w v l) (o : Obj) : Toks (w.alloc o) v l := h.keep ((Below.refl _ _).alloc (Nat.le_refl _) _)
/-- Opened: the first token's cells, and the slice behind it. -/
theorem Toks.cons {w : World} {v : Value} {t : Tk} {l : List Tk} (h : Toks w v (t :: l)) :
    ∃ b off n c, v = .slice (some ⟨b, off, none⟩) (n + 1) c ∧ n = l.length ∧ n + 1 ≤ c ∧ b < w.heap.size ∧ w.cell? ⟨b, off, none⟩ = some (.int .i64 t.k) ∧ w.cell? ⟨b, off + 1, none⟩ = some (.string t.t) ∧ w.cell? ⟨b, off + 2, none⟩ = some (.int .i64 t.l) ∧ w.cell? ⟨b, off + 3, none⟩ = some (.int .i64 t.c) ∧
      Toks w (.slice (some ⟨b, if c = 1 then off else off + 4, none⟩) n (c - 1)) l := by
  obtain ⟨n, rfl, A, c, rfl, hc, hl, hA⟩ := h
  obtain ⟨b, off, rfl, hb, hcell⟩ := hA (by simp)
  have g := tksV_get (l := t :: l) (i := 0) rfl
  simp only [List.length_cons] at hc
  refine ⟨b, off, l.length, c, rfl, rfl, hc, hb, hcell 0 _ g.1, hcell 1 _ g.2.1, hcell 2 _ g.2.2.1, hcell 3 _ g.2.2.2, l.length, rfl, _, _, rfl, by omega, tksV_length l, fun h0 => ⟨b, off + 4, ?_, hb, fun j u hj => ?_⟩⟩
  · rw [if_neg (by omega)]
  · rw [show off + 4 + j = off + (4 + j) by omega]
    refine hcell _ _ ?_
    rw [tksV_cons, List.getElem?_append_right (by rw [tkV_length]; omega), tkV_length, Nat.add_sub_cancel_left, hj]
theorem Toks.shape {w : World} {v : Value} {l : List Tk} (h : Toks w v l) : ∃ A n c, v = .slice A n c ∧ n = l.length := by
  obtain ⟨n, hn, A, c, hv, _⟩ := h
  exact ⟨A, n, c, hv, hn⟩
theorem Toks.nil0 {w : World} {A : Option Addr} {n cp : Nat} (h : Toks w (.slice A n cp) []) : n = 0 := by
  obtain ⟨m, hm, A', c', heq, _⟩ := h
  cases heq
  exact hm
theorem Toks.cons' {w : World} {A : Option Addr} {n cp : Nat} {t : Tk} {l : List Tk} (h : Toks w (.slice A n cp) (t :: l)) :
    ∃ b off m, A = some ⟨b, off, none⟩ ∧ n = m + 1 ∧ m + 1 ≤ cp ∧ b < w.heap.size ∧ w.cell? ⟨b, off, none⟩ = some (.int .i64 t.k) ∧ w.cell? ⟨b, off + 1, none⟩ = some (.string t.t) ∧ w.cell? ⟨b, off + 2, none⟩ = some (.int .i64 t.l) ∧ w.cell? ⟨b, off + 3, none⟩ = some (.int .i64 t.c) ∧
      Toks w (.slice (some ⟨b, if cp = 1 then off else off + 4, none⟩) m (cp - 1)) l := by
  obtain ⟨b, off, m, c, heq, _, hc, hb, h0, h1, h2, h3, ht⟩ := h.cons
  cases heq
  exact ⟨b, off, m, rfl, rfl, hc, hb, h0, h1, h2, h3, ht⟩

/-- A cursor by value, whose tokens lie in the memory of an earlier world. -/
def RetCur (W0 W : World) (c : Cur) (e : Ending) (w' : World) : Prop :=
  ∃ A n cp, e = .returned (.agg #[.slice A n cp, .int .i64 c.w1, .int .i64 c.w2, .int .i64 c.a1, .int .i64 c.a2, .int .i64 c.bad]) ∧ Toks W0 (.slice A n cp) c.L ∧ Below W.heap.size W w'
def RetBool (W : World) (b : Bool) (e : Ending) (w' : World) : Prop := e = .returned (.bool b) ∧ Below W.heap.size W w'
def RetTk (W : World) (k : Int) (s : ByteArray) (l c : Int) (e : Ending) (w' : World) : Prop := e = .returned (.agg #[.int .i64 k, .string s, .int .i64 l, .int .i64 c]) ∧ Below W.heap.size W w'

/-- A block of so many cells. -/
def Blk (w : World) (b n : Nat) : Prop := ∃ cs T, w.heap[b]? = some (.cells cs T (0, 0)) ∧ cs.size = n
theorem Blk.of {w : World} {b : Nat} {cs : Array Value} {T : TypeId} (h : w.heap[b]? = some (.cells cs T (0, 0))) : Blk w b cs.size := ⟨cs, T, h, rfl⟩
theorem Blk.set {w : World} {b n : Nat} (h : Blk w b n) (i : Nat) (u : Value) : Blk (w.setCell ⟨b, i, none⟩ u) b n := by
  obtain ⟨cs, T, h, hn⟩ := h
  exact ⟨_, T, block_setCell' h i u, by rw [Array.size_setIfInBounds, hn]⟩
theorem Blk.read {w : World} {b n : Nat} (h : Blk w b n) (i : Nat) (hi : i < n) (u : Value) : (w.setCell ⟨b, i, none⟩ u).cell? ⟨b, i, none⟩ = some u := by
  obtain ⟨cs, T, h, hn⟩ := h
  exact cell_of_block' (block_setCell' h i u) (by rw [Array.getElem?_setIfInBounds_self, if_pos (by omega)])
/-- A result of six cells that has just been written. -/
theorem store_six {w : World} {b : Nat} (h : Blk w b 6) (u0 u1 u2 u3 u4 u5 : Value) :
    (w.setCell ⟨b, 0, none⟩ u0).cell? ⟨b, 0, none⟩ = some u0 ∧ ((w.setCell ⟨b, 0, none⟩ u0).setCell ⟨b, 1, none⟩ u1).cell? ⟨b, 1, none⟩ = some u1 ∧
    (((w.setCell ⟨b, 0, none⟩ u0).setCell ⟨b, 1, none⟩ u1).setCell ⟨b, 2, none⟩ u2).cell? ⟨b, 2, none⟩ = some u2 ∧
    ((((w.setCell ⟨b, 0, none⟩ u0).setCell ⟨b, 1, none⟩ u1).setCell ⟨b, 2, none⟩ u2).setCell ⟨b, 3, none⟩ u3).cell? ⟨b, 3, none⟩ = some u3 ∧
    (((((w.setCell ⟨b, 0, none⟩ u0).setCell ⟨b, 1, none⟩ u1).setCell ⟨b, 2, none⟩ u2).setCell ⟨b, 3, none⟩ u3).setCell ⟨b, 4, none⟩ u4).cell? ⟨b, 4, none⟩ = some u4 ∧
    ((((((w.setCell ⟨b, 0, none⟩ u0).setCell ⟨b, 1, none⟩ u1).setCell ⟨b, 2, none⟩ u2).setCell ⟨b, 3, none⟩ u3).setCell ⟨b, 4, none⟩ u4).setCell ⟨b, 5, none⟩ u5).cell? ⟨b, 5, none⟩ = some u5 :=
  ⟨h.read 0 (by omega) _, (h.set _ _).read 1 (by omega) _, ((h.set _ _).set _ _).read 2 (by omega) _, (((h.set _ _).set _ _).set _ _).read 3 (by omega) _, ((((h.set _ _).set _ _).set _ _).set _ _).read 4 (by omega) _, (((((h.set _ _).set _ _).set _ _).set _ _).set _ _).read 5 (by omega) _⟩
theorem store_4 {w : World} {b : Nat} (h : Blk w b 4) (u0 u1 u2 u3 : Value) :
    (w.setCell ⟨b, 0, none⟩ u0).cell? ⟨b, 0, none⟩ = some u0 ∧ ((w.setCell ⟨b, 0, none⟩ u0).setCell ⟨b, 1, none⟩ u1).cell? ⟨b, 1, none⟩ = some u1 ∧
    (((w.setCell ⟨b, 0, none⟩ u0).setCell ⟨b, 1, none⟩ u1).setCell ⟨b, 2, none⟩ u2).cell? ⟨b, 2, none⟩ = some u2 ∧
    ((((w.setCell ⟨b, 0, none⟩ u0).setCell ⟨b, 1, none⟩ u1).setCell ⟨b, 2, none⟩ u2).setCell ⟨b, 3, none⟩ u3).cell? ⟨b, 3, none⟩ = some u3 :=
  ⟨h.read 0 (by omega) _, (h.set _ _).read 1 (by omega) _, ((h.set _ _).set _ _).read 2 (by omega) _, (((h.set _ _).set _ _).set _ _).read 3 (by omega) _⟩
theorem below_4 {B : Nat} {w x : World} {b : Nat} (h : Below B w x) (hb : B ≤ b) (u0 u1 u2 u3 : Value) :
    Below B w ((((x.setCell ⟨b, 0, none⟩ u0).setCell ⟨b, 1, none⟩ u1).setCell ⟨b, 2, none⟩ u2).setCell ⟨b, 3, none⟩ u3) :=
  (((h.setCell hb _).setCell hb _).setCell hb _).setCell hb _
theorem below_six {B : Nat} {w x : World} {b : Nat} (h : Below B w x) (hb : B ≤ b) (u0 u1 u2 u3 u4 u5 : Value) :
    Below B w ((((((x.setCell ⟨b, 0, none⟩ u0).setCell ⟨b, 1, none⟩ u1).setCell ⟨b, 2, none⟩ u2).setCell ⟨b, 3, none⟩ u3).setCell ⟨b, 4, none⟩ u4).setCell ⟨b, 5, none⟩ u5) :=
  (((((h.setCell hb _).setCell hb _).setCell hb _).setCell hb _).setCell hb _).setCell hb _
theorem below_pair (w : World) (o p : Obj) : Below w.heap.size w ((w.alloc o).alloc p) := ((Below.refl _ _).alloc (Nat.le_refl _) _).alloc (by simp) _
/-- Two blocks that were made, behind a call that leaves them. -/
theorem pair_blocks {w w2 : World} {o p : Obj} (hb : Below ((w.alloc o).alloc p).heap.size ((w.alloc o).alloc p) w2) :
    w2.heap[w.heap.size]? = some o ∧ w2.heap[w.heap.size + 1]? = some p ∧ Below w.heap.size w w2 ∧ w.heap.size + 1 < w2.heap.size := by
  have hz := hb.size
  simp only [World.size_alloc] at hz
  refine ⟨(hb.block _ (by simp; omega)).trans ((heap_alloc_old _ _ (by simp)).trans (heap_alloc_new _ _)), (hb.block _ (by simp)).trans ?_, ?_, by omega⟩
  · have := heap_alloc_new (w.alloc o) p
    rwa [World.size_alloc] at this
  · exact (below_pair w o p).trans (hb.mono (by simp; omega))
theorem one_block {w w2 : World} {o : Obj} (hb : Below (w.alloc o).heap.size (w.alloc o) w2) : w2.heap[w.heap.size]? = some o ∧ Below w.heap.size w w2 ∧ w.heap.size < w2.heap.size := by
  have hz := hb.size
  simp only [World.size_alloc] at hz
  exact ⟨(hb.block _ (by simp)).trans (heap_alloc_new _ _), ((Below.refl _ _).alloc (Nat.le_refl _) _).trans (hb.mono (by simp)), by omega⟩
theorem undrew {w w' : World} (h : Below w.drew.heap.size w.drew w') : Below w.heap.size w w' := ⟨h.os, h.tape, h.output, h.size, h.block⟩
/-- A block as it was, behind a call. -/
theorem block_on {w w2 : World} {b : Nat} {o : Obj} (h : w.heap[b]? = some o) (hb : Below w.heap.size w w2) : w2.heap[b]? = some o := (hb.block b (Array.getElem?_eq_some_iff.1 h).1).trans h
theorem blk_of {w : World} {b n : Nat} {cs : Array Value} {T : TypeId} (h : w.heap[b]? = some (.cells cs T (0, 0))) (hn : cs.size = n) : Blk w b n := ⟨cs, T, h, hn⟩
theorem Blk.other {w : World} {b n c : Nat} (h : Blk w b n) (hne : b ≠ c) (i : Nat) (u : Value) : Blk (w.setCell ⟨c, i, none⟩ u) b n := by
  obtain ⟨cs, T, h, hn⟩ := h
  exact ⟨cs, T, (Below.heap_setCell _ _ _ _ hne).trans h, hn⟩
end Go.Proofs.YtcfcpbkeedfbpaaGreatDoor

namespace Go.Proofs.YtcfcpbkeedfbpaaGreatDoor
open Go.RowKit Go.Sort TermSpec EvalSpec ActSpec NamesSpec
set_option maxRecDepth 100000

def DoRel (w0 : World) (s : ByteArray) (any : Bool) (A : Option Addr) (n c : Nat) (p : EP) (F : V4 → List V4) (l : List V4) (pv k : Value) (wr : World) : Prop :=
  ∃ m : Nat, m ≤ l.length ∧ k = .int .i64 m ∧ DoOut w0 s any A n c p pv ((l.take m).flatMap F) wr
def DoRel2 (w0 : World) (s : ByteArray) (any : Bool) (A : Option Addr) (n c : Nat) (p : EP) (vb : Nat) (y : V4) (i : Nat) (gv : Value) (G : List Int) (xs : List V4) (pv k : Value) (wr : World) : Prop :=
  ∃ m : Nat, m ≤ G.length ∧ k = .int .i64 m ∧ DoIn w0 s any A n c p vb y i gv G pv (xs ++ (G.take m).map (y.set i)) wr
theorem do_next {F : V4 → List V4} {l : List V4} {k : Nat} {y : V4} (h : l[k]? = some y) : (l.take (k + 1)).flatMap F = (l.take k).flatMap F ++ F y := by
  rw [take_next h, List.flatMap_append, List.flatMap_cons, List.flatMap_nil, List.append_nil]
theorem map_next {G : List Int} {j : Nat} {m : Int} {f : Int → V4} (h : G[j]? = some m) : (G.take (j + 1)).map f = (G.take j).map f ++ [f m] := by
  rw [take_next h, List.map_append]; rfl
theorem doOut_len {w0 : World} {s : ByteArray} {any : Bool} {A : Option Addr} {n c : Nat} {p : EP} {pv : Value} {xs : List V4} {wr : World} (h : DoOut w0 s any A n c p pv xs wr) : RowV w0 wr pv xs := ⟨own_weak h.row (by omega), h.below⟩
theorem compact_any {W w : World} {g cap : Nat} {xs ys : List V4} (h : RowV W w (.slice (some ⟨g, 0, none⟩) ys.length cap) ys) (hl : ys.length = xs.length) (hL : 0 < xs.length ∧ xs.length ≤ 4096) (hp : ys.Perm xs) (hs : Slow ys) :
    Calls Tryz.prog 79 #[.slice (some ⟨g, 0, none⟩) xs.length cap] w (CompV4Post W w (allV [] xs)) := by
  have h1 := compact_arr (W := W) (w := w) (g := g) (cap := cap) ys.toArray (by simpa using h) (by simp; omega) (by simp; omega)
  have h2 : Lib.compactUpTo ys.toArray ys.toArray.size = allV [] xs := by
    rw [← compactV_all hp hs]
    rfl
  rw [h2] at h1
  rw [← hl]
  simpa using h1
/-- Where the inner loop begins. -/
theorem doIn_start {w0 : World} {s : ByteArray} {any : Bool} {A : Option Addr} {n c : Nat} {p : EP} {pv : Value} {xs : List V4} {wr V W : World} {y : V4} {i : Nat} {gv : Value} {G : List Int}
    (h : DoOut w0 s any A n c p pv xs wr) (hV : DoOut w0 s any A n c p pv xs V) (hvb : V.heap[wr.heap.size]? = some (v4B y 51)) (hb : Below V.heap.size V W) (hg : Rd W gv (intV G)) (hbey : Beyond V.heap.size gv) :
    DoIn w0 s any A n c p wr.heap.size y i gv G pv xs W := by
  have hlt := (Array.getElem?_eq_some_iff.1 hvb).1
  have hbd := fun j hj => (own_block_bd h.row j hj).2
  refine ⟨hV.on hb, h.size, Nat.lt_of_lt_of_le hlt hb.size, ⟨y, KitC.block_on hvb hb, fun _ => rfl⟩, fun e => by have := hbd _ e; omega, hg, fun b off n c he h0 => ?_⟩
  have := hbey b off n c he h0
  exact ⟨by omega, fun e => by have := hbd _ e; omega⟩
set_option maxHeartbeats 8000000 in
theorem do_any (p : EP) (e : Ev) (a : Ac) (i : Nat) (v : Vr) (A : Option Addr) (n c : Nat) (w : World) (he : EnvIn w p e) (hs : SmallA a) (ht : Tms w (.slice A n c) a.x) (hv : varOf e a = some (i, v)) (hi4 : i < 4) (hf : VFit v)
    (h1 : a.any = false → chkE e a.x = 0) (h2 : a.any = true → spanB v = true) (N : Value) (l : List V4) (hN : V4s w N l) (h0 : 0 < l.length) (h64 : l.length ≤ 64) :
    Calls Tryz.prog 44 #[.agg #[.string a.s, .bool a.any, .slice A n c], .int .i64 i, envV p e, N] w (CompV4Post w w (allV [] (l.flatMap (stepsA e a i v)))) := by
  obtain ⟨NA, Nn, Nc, rfl, hNn, hNc⟩ := hN.shape
  obtain ⟨i0, hi, hz0, hz1, hz2⟩ := info_parts inf_v4
  have HI := Lib.hid (And.intro hi (And.intro hz0 (And.intro hz1 hz2)))
  have HNN := Lib.hid hN
  have HNL := Lib.hid hNn
  have HT := Lib.hid ht
  have HE := Lib.hid he
  have hvi := varOf_lt hv
  have HVI := Lib.hid hvi
  have hin := get_lt hvi
  have HGV := Lib.hid (fun y w he ht => given_any p (envAt e y) a v A n c w he hs ht hf h1 h2)
  have HGL := Lib.hid (fun y => givenL_length (envAt e y) a v h2)
  obtain ⟨F, hF⟩ : ∃ F, F = stepsA e a i v := ⟨_, rfl⟩
  have HF : Hid (∀ y, F y = (givenL (envAt e y) a v).map (y.set i)) := Lib.hid (fun y => by rw [hF]; exact stepsA_given e a i v y)
  rw [← hF]
  have HFL : Hid (∀ y, 0 < (F y).length ∧ (F y).length ≤ 64) := Lib.hid (fun y => by rw [HF.out, List.length_map]; exact HGL.out y)
  have HL : Hid (0 < (l.flatMap F).length ∧ (l.flatMap F).length ≤ 4096) := Lib.hid (by
    refine ⟨flat_pos (fun x => (HFL.out x).1) h0, ?_⟩
    have := flat_le (fun x => (HFL.out x).2) l
    omega)
  have HI4 : Hid (i = 0 ∨ i = 1 ∨ i = 2 ∨ i = 3) := Lib.hid (by omega)
  obtain ⟨s, any, x⟩ := a
  simp only at HT HGV HGL HF ⊢
  obtain ⟨E, hE⟩ : ∃ E, E = e := ⟨_, rfl⟩
  rw [← hE] at HE HVI hin HGV HGL HF
  obtain ⟨vA, vn, vc, iA, im, ic⟩ := p
  have HVN : Hid (vn = E.vars.length) := Lib.hid (HE.out.vars.1)
  have hcap := HE.out.vars.cap
  simp only at hcap
  obtain ⟨vars, v0, v1, v2, v3, ins⟩ := e
  clear hE hv he hvi hs ht hf h1 h2 hi hz0 hz1 hz2 hF hN hNn
  change Calls _ _ #[_, _, .agg #[.slice vA vn vc, .int .i64 v0, .int .i64 v1, .int .i64 v2, .int .i64 v3, .slice iA im ic], .slice NA Nn Nc] _ _
  have hin' : (i : Int) < vn := by have := HVN.out; omega
  have HST : Hid (DoOut w s any A n c ⟨vA, vn, vc, iA, im, ic⟩ (.slice none 0 0) [] ((w.alloc (.cells #[.string s, .bool any, .slice A n c] 66)).alloc (.cells #[.slice vA vn vc, .int .i64 v0, .int .i64 v1, .int .i64 v2, .int .i64 v3, .slice iA im ic] 54))) := Lib.hid (by
    obtain ⟨B1, B2, hbb, _⟩ := KitC.pair_blocks (Below.refl ((w.alloc (.cells #[.string s, .bool any, .slice A n c] 66)).alloc (.cells #[.slice vA vn vc, .int .i64 v0, .int .i64 v1, .int .i64 v2, .int .i64 v3, .slice iA im ic] 54)).heap.size _)
    exact ⟨hbb, B1, ⟨⟨v0, v1, v2, v3⟩, B2⟩, rfl, .inl ⟨rfl, rfl⟩⟩)
  obtain ⟨w1, hw1⟩ : ∃ w1, (w.alloc (.cells #[.string s, .bool any, .slice A n c] 66)).alloc (.cells #[.slice vA vn vc, .int .i64 v0, .int .i64 v1, .int .i64 v2, .int .i64 v3, .slice iA im ic] 54) = w1 := ⟨_, rfl⟩
  rw [hw1] at HST
  have HW := Lib.hid hw1
  clear hw1
  go_enter Tryz.func44, Tryz.ntmps44
  go_wp2_with fail
  rw [HW.out]
  go_loopw [9, 11, 13, 16] (fun pv _ _ k wr => DoRel w s any A n c ⟨vA, vn, vc, iA, im, ic⟩ F l pv k wr) (fun _ _ _ k _ => l.length - (Go.RowKit.intOf k).toNat)
  case atStart => exact ⟨0, Nat.zero_le _, rfl, HST.out⟩
  case round =>
    obtain ⟨k, hk, rfl, hout⟩ := hrel
    have HOUT := Lib.hid hout
    by_cases hlt : k < Nn
    · obtain ⟨y, hy⟩ : ∃ y, l[k]? = some y := get_some (by have := HNL.out; omega)
      obtain ⟨bn, offn, rfl, hbn, e0, e1, e2, e3⟩ := (HNN.out.keep HOUT.out.below).at_ hy
      have hkI : (k : Int) < Nn := by omega
      have HY := Lib.hid hy
      have HO1 := Lib.hid (hout.on (KitC.below_one wr (v4O y)))
      have HVB := Lib.hid (heap_alloc_new wr (v4O y))
      have HO2 := Lib.hid (HO1.out.set y)
      obtain ⟨yy, henv⟩ := HO1.out.env
      obtain ⟨f0, f1, f2, f3, f4, f5⟩ := free_6 henv
      obtain ⟨m0, m1, m2, m3, m4, m5⟩ := cells_6 henv
      have HENV := Lib.hid (st4_block (x := y) henv)
      have HVB2 := Lib.hid (st4_other (x := y) HVB.out (show wr.heap.size ≠ w.heap.size + 1 by have := HOUT.out.size; omega))
      obtain ⟨S, hS⟩ : ∃ S, st4 (wr.alloc (v4O y)) (w.heap.size + 1) y = S := ⟨_, rfl⟩
      have HSS := Lib.hid hS
      rw [hS] at HO2 HENV HVB2
      unfold st4 at HSS
      clear hy hS henv hout
      obtain ⟨B1, B2, B3, B4, B5, B6⟩ := cells_6 HENV.out
      obtain ⟨a0, a1, a2⟩ := cells_3 HO2.out.act
      obtain ⟨bv, ov, rfl, hbv, d0, d1, d2, d3⟩ := (HE.out.vars.keep HO2.out.below).at_ HVI.out
      obtain ⟨z0, z1, z2, z3⟩ := cells_4 HVB.out
      have HG : Hid (∀ W, Below S.heap.size S W → Calls Tryz.prog 77 #[.agg #[.string s, .bool any, .slice A n c], .agg #[.string v.s, .int .i64 v.lo, .int .i64 v.hi, .int .i64 v.ini], .agg #[.slice (some ⟨bv, ov, none⟩) vn vc, .int .i64 y.a, .int .i64 y.b, .int .i64 y.c, .int .i64 y.d, .slice iA im ic]] W (RetIntsN W (givenL (envAt E y) ⟨s, any, x⟩ v))) :=
        Lib.hid (fun W hW => HGV.out y W (envIn_at (HE.out.keep (below_two' HO2.out.below hW)) y) (HT.out.keep (below_two' HO2.out.below hW)))
      have HFY := HF.out y
      obtain ⟨G, hG⟩ : ∃ G, G = givenL (envAt E y) ⟨s, any, x⟩ v := ⟨_, rfl⟩
      rw [← hG] at HG HFY
      have HFYH := Lib.hid HFY
      have HG64 : Hid (G.length ≤ 64) := Lib.hid (by rw [hG]; exact (HGL.out y).2)
      have HDS : Hid (∀ W gv, Below S.heap.size S W → Rd W gv (intV G) → Beyond S.heap.size gv → DoIn w s any A n c ⟨some ⟨bv, ov, none⟩, vn, vc, iA, im, ic⟩ wr.heap.size y i gv G u9 ((l.take k).flatMap F) W) := Lib.hid (fun W gv h1 h2 h3 => doIn_start HOUT.out HO2.out HVB2.out h1 h2 h3)
      clear HFY hG
      obtain ⟨vs, lo, hib, ini⟩ := v
      simp only at d0 d1 d2 d3 HG
      go_wp2_with fail
      rw [HSS.out]
      go_region_held3 (fun w' => w'.cell? ⟨w.heap.size, 0, none⟩ = some (.string s) ∧ w'.cell? ⟨w.heap.size, 1, none⟩ = some (.bool any) ∧ w'.cell? ⟨w.heap.size, 2, none⟩ = some (.slice A n c) ∧ w'.cell? ⟨w.heap.size + 1, 0, none⟩ = some (.slice (some ⟨bv, ov, none⟩) vn vc) ∧ w'.cell? ⟨w.heap.size + 1, 1, none⟩ = some (.int .i64 y.a) ∧ w'.cell? ⟨w.heap.size + 1, 2, none⟩ = some (.int .i64 y.b) ∧ w'.cell? ⟨w.heap.size + 1, 3, none⟩ = some (.int .i64 y.c) ∧ w'.cell? ⟨w.heap.size + 1, 4, none⟩ = some (.int .i64 y.d) ∧ w'.cell? ⟨w.heap.size + 1, 5, none⟩ = some (.slice iA im ic) ∧ w'.cell? ⟨bv, ov + i * 4, none⟩ = some (.string vs) ∧ w'.cell? ⟨bv, ov + i * 4 + 1, none⟩ = some (.int .i64 lo) ∧ w'.cell? ⟨bv, ov + i * 4 + 2, none⟩ = some (.int .i64 hib) ∧ w'.cell? ⟨bv, ov + i * 4 + 3, none⟩ = some (.int .i64 ini)) (go_keep)
        ((go_at_call 77; refine (HG.out _ (Below.refl _ _).drew).mono ?_; rintro e x4 ⟨gv, rfl, hgv, hb4', hbey⟩; have hb4 := undrew hb4'; clear hb4'; have HD4 := Lib.hid (HDS.out x4 gv hb4 hgv hbey); obtain ⟨gA, gn, gc, rfl, hgn, hgc, _⟩ := hgv.ints; have HGN := Lib.hid hgn; obtain ⟨p0, p1, p2⟩ := cells_3 (KitC.block_on HO2.out.act hb4); obtain ⟨q0, q1, q2, q3, q4, q5⟩ := cells_6 (KitC.block_on HENV.out hb4); have s0 := (hb4.cell (p := ⟨bv, ov + i * 4, none⟩) hbv).trans d0; have s1 := (hb4.cell (p := ⟨bv, ov + i * 4 + 1, none⟩) hbv).trans d1; have s2 := (hb4.cell (p := ⟨bv, ov + i * 4 + 2, none⟩) hbv).trans d2; have s3 := (hb4.cell (p := ⟨bv, ov + i * 4 + 3, none⟩) hbv).trans d3; clear hb4 hgv hbey hgn))
      clear p0 p1 p2 q0 q1 q2 q3 q4 q5 s0 s1 s2 s3 f0 f1 f2 f3 f4 f5 m0 m1 m2 m3 m4 m5 B1 B2 B3 B4 B5 B6 a0 a1 a2 d0 d1 d2 d3 z0 z1 z2 z3 e0 e1 e2 e3
      obtain ⟨XS, hXS⟩ : ∃ XS, XS = (l.take k).flatMap F := ⟨_, rfl⟩
      have HXS := Lib.hid hXS
      have HXL : Hid (XS.length ≤ 4096) := Lib.hid (by
        rw [hXS]
        have h1 := flat_le (fun x => (HFL.out x).2) (l.take k)
        have h2 := List.length_take_le k l
        omega)
      rw [← hXS] at HD4
      obtain ⟨vb, hvb⟩ : ∃ vb, wr.heap.size = vb := ⟨_, rfl⟩
      rw [hvb] at HD4 ⊢
      clear HDS HG HSS HO1 HO2 HVB HVB2 HENV hXS hvb HOUT
      go_wp2_with fail
      go_loopw [9, 13, 31] (fun pv _ k wr => DoRel2 w s any A n c ⟨some ⟨bv, ov, none⟩, vn, vc, iA, im, ic⟩ vb y i (.slice gA gn gc) G XS pv k wr) (fun _ _ k _ => G.length - (Go.RowKit.intOf k).toNat)
      case atStart => exact ⟨0, Nat.zero_le _, rfl, by simpa using HD4.out⟩
      case round =>
        obtain ⟨j, hj, rfl, hin⟩ := hrel
        have HIN := Lib.hid hin
        by_cases hjl : j < gn
        · skip -- INNER
          obtain ⟨m, hm⟩ : ∃ m, G[j]? = some m := get_some (by have := HGN.out; omega)
          obtain ⟨gA', gn', gc', heq, hgl, hgc', hgcell⟩ := HIN.out.nums.ints
          injection heq with q1 q2 q3
          subst q1; subst q2; subst q3
          obtain ⟨bg, og, rfl, hbg, hgcell⟩ := hgcell (by omega)
          have hgm := hgcell j m hm
          have hjI : (j : Int) < gn := by omega
          have hj64 : (j : Int) + 1 ≤ 9223372036854775807 := by have := HGN.out; have := HG64.out; omega
          have HM := Lib.hid hm
          obtain ⟨z, hz, hzz⟩ := HIN.out.vals
          have HZ := Lib.hid hzz
          obtain ⟨k0, k1, k2, k3⟩ := cells_4 hz
          obtain ⟨r0, r1, r2, r3⟩ := free_4 hz
          have HIN2 := Lib.hid (HIN.out.put hi4 m).1
          obtain ⟨W2, hW2⟩ : ∃ W2, wr.setCell ⟨vb, i, none⟩ (.int .i64 m) = W2 := ⟨_, rfl⟩
          rw [hW2] at HIN2
          have HW2 := Lib.hid hW2
          have HL0 : Hid ((XS ++ (G.take j).map (y.set i)).length ≤ 5000) := Lib.hid (by
            have h1 := HXL.out
            have h2 := HG64.out
            have h3 := List.length_take_le j G
            rw [List.length_append, List.length_map]
            omega)
          have HL1 : Hid ((XS ++ (G.take j).map (y.set i)).length + 1 ≤ maxLen) := Lib.hid (by have := HL0.out; unfold maxLen; omega)
          have HL2 : Hid (((XS ++ (G.take j).map (y.set i)).length + 1) * 32 ≤ 140737488355328) := Lib.hid (by have := HL0.out; omega)
          clear hm hgl hgcell hz hzz hW2 hin
          rcases HI4.out with rfl | rfl | rfl | rfl
          · have HU : Hid (y.set 0 m = ⟨m, z.b, z.c, z.d⟩) := Lib.hid ((HZ.out m).symm)
            have HXA := Lib.hid (v4_lit (w := W2) (k := wr.heap.size) (x := ⟨m, z.b, z.c, z.d⟩) (by rw [← HW2.out]; simp [World.setCell])).rdk
            have HIN3 := Lib.hid (HIN2.out.on (KitC.below_one W2 (.cells #[.int .i64 m, .int .i64 z.b, .int .i64 z.c, .int .i64 z.d] 51)))
            go_wp2_with (rw [HW2.out]; at_builtin; refine wpList_append_rdk _ rfl (.tmp 38) (.tmp 40) _ rfl (w.heap.size + 2) 51 i0 (.agg #[.int .i64 0, .int .i64 0, .int .i64 0, .int .i64 0]) 4 32 Tryz.underlying56 HI.out.1 HI.out.2.1 HI.out.2.2.1 HI.out.2.2.2 rfl (by decide) _ _ _ rfl HIN3.out.row _ 1 (v4sV [⟨m, z.b, z.c, z.d⟩]) rfl HXA.out (v4sV_one _) HL1.out HL2.out ?_ ?_; (exact HIN3.out.size); intro p2 w2 hrow2 hg2 hob2; have HADD := Lib.hid (HIN3.out.add (x := ⟨m, z.b, z.c, z.d⟩) hrow2 hg2 hob2); clear hrow2 hg2 hob2)
            go_roundw
            case rel => (refine ⟨_, _, _, ?_, rfl, rfl, rfl⟩; exact ⟨j + 1, by have := HGN.out; omega, by go_num, by rw [map_next HM.out, HU.out, ← List.append_assoc]; exact HADD.out⟩)
            case measure => have := HGN.out; simp [Go.RowKit.intOf]; omega
          · have HU : Hid (y.set 1 m = ⟨z.a, m, z.c, z.d⟩) := Lib.hid ((HZ.out m).symm)
            have HXA := Lib.hid (v4_lit (w := W2) (k := wr.heap.size) (x := ⟨z.a, m, z.c, z.d⟩) (by rw [← HW2.out]; simp [World.setCell])).rdk
            have HIN3 := Lib.hid (HIN2.out.on (KitC.below_one W2 (.cells #[.int .i64 z.a, .int .i64 m, .int .i64 z.c, .int .i64 z.d] 51)))
            go_wp2_with (rw [HW2.out]; at_builtin; refine wpList_append_rdk _ rfl (.tmp 38) (.tmp 40) _ rfl (w.heap.size + 2) 51 i0 (.agg #[.int .i64 0, .int .i64 0, .int .i64 0, .int .i64 0]) 4 32 Tryz.underlying56 HI.out.1 HI.out.2.1 HI.out.2.2.1 HI.out.2.2.2 rfl (by decide) _ _ _ rfl HIN3.out.row _ 1 (v4sV [⟨z.a, m, z.c, z.d⟩]) rfl HXA.out (v4sV_one _) HL1.out HL2.out ?_ ?_; (exact HIN3.out.size); intro p2 w2 hrow2 hg2 hob2; have HADD := Lib.hid (HIN3.out.add (x := ⟨z.a, m, z.c, z.d⟩) hrow2 hg2 hob2); clear hrow2 hg2 hob2)
            go_roundw
            case rel => (refine ⟨_, _, _, ?_, rfl, rfl, rfl⟩; exact ⟨j + 1, by have := HGN.out; omega, by go_num, by rw [map_next HM.out, HU.out, ← List.append_assoc]; exact HADD.out⟩)
            case measure => have := HGN.out; simp [Go.RowKit.intOf]; omega
          · have HU : Hid (y.set 2 m = ⟨z.a, z.b, m, z.d⟩) := Lib.hid ((HZ.out m).symm)
            have HXA := Lib.hid (v4_lit (w := W2) (k := wr.heap.size) (x := ⟨z.a, z.b, m, z.d⟩) (by rw [← HW2.out]; simp [World.setCell])).rdk
            have HIN3 := Lib.hid (HIN2.out.on (KitC.below_one W2 (.cells #[.int .i64 z.a, .int .i64 z.b, .int .i64 m, .int .i64 z.d] 51)))
            go_wp2_with (rw [HW2.out]; at_builtin; refine wpList_append_rdk _ rfl (.tmp 38) (.tmp 40) _ rfl (w.heap.size + 2) 51 i0 (.agg #[.int .i64 0, .int .i64 0, .int .i64 0, .int .i64 0]) 4 32 Tryz.underlying56 HI.out.1 HI.out.2.1 HI.out.2.2.1 HI.out.2.2.2 rfl (by decide) _ _ _ rfl HIN3.out.row _ 1 (v4sV [⟨z.a, z.b, m, z.d⟩]) rfl HXA.out (v4sV_one _) HL1.out HL2.out ?_ ?_; (exact HIN3.out.size); intro p2 w2 hrow2 hg2 hob2; have HADD := Lib.hid (HIN3.out.add (x := ⟨z.a, z.b, m, z.d⟩) hrow2 hg2 hob2); clear hrow2 hg2 hob2)
            go_roundw
            case rel => (refine ⟨_, _, _, ?_, rfl, rfl, rfl⟩; exact ⟨j + 1, by have := HGN.out; omega, by go_num, by rw [map_next HM.out, HU.out, ← List.append_assoc]; exact HADD.out⟩)
            case measure => have := HGN.out; simp [Go.RowKit.intOf]; omega
          · have HU : Hid (y.set 3 m = ⟨z.a, z.b, z.c, m⟩) := Lib.hid ((HZ.out m).symm)
            have HXA := Lib.hid (v4_lit (w := W2) (k := wr.heap.size) (x := ⟨z.a, z.b, z.c, m⟩) (by rw [← HW2.out]; simp [World.setCell])).rdk
            have HIN3 := Lib.hid (HIN2.out.on (KitC.below_one W2 (.cells #[.int .i64 z.a, .int .i64 z.b, .int .i64 z.c, .int .i64 m] 51)))
            go_wp2_with (rw [HW2.out]; at_builtin; refine wpList_append_rdk _ rfl (.tmp 38) (.tmp 40) _ rfl (w.heap.size + 2) 51 i0 (.agg #[.int .i64 0, .int .i64 0, .int .i64 0, .int .i64 0]) 4 32 Tryz.underlying56 HI.out.1 HI.out.2.1 HI.out.2.2.1 HI.out.2.2.2 rfl (by decide) _ _ _ rfl HIN3.out.row _ 1 (v4sV [⟨z.a, z.b, z.c, m⟩]) rfl HXA.out (v4sV_one _) HL1.out HL2.out ?_ ?_; (exact HIN3.out.size); intro p2 w2 hrow2 hg2 hob2; have HADD := Lib.hid (HIN3.out.add (x := ⟨z.a, z.b, z.c, m⟩) hrow2 hg2 hob2); clear hrow2 hg2 hob2)
            go_roundw
            case rel => (refine ⟨_, _, _, ?_, rfl, rfl, rfl⟩; exact ⟨j + 1, by have := HGN.out; omega, by go_num, by rw [map_next HM.out, HU.out, ← List.append_assoc]; exact HADD.out⟩)
            case measure => have := HGN.out; simp [Go.RowKit.intOf]; omega
        · skip -- INNERX
          have hjI : ¬ (j : Int) < gn := by omega
          have HEND := Lib.hid hin.toDoOut
          have HGT : Hid (G.take j = G) := Lib.hid (List.take_of_length_le (by have := HGN.out; omega))
          clear hin
          go_wp2_with fail
          go_roundw
          case rel => exact ⟨k + 1, by have := HNL.out; omega, by go_num, by rw [do_next HY.out, HFYH.out, ← HXS.out]; have h := HEND.out; rwa [HGT.out] at h⟩
          case measure => have := HNL.out; simp [Go.RowKit.intOf]; omega
    · skip -- OUTER
      have hkI : ¬ (k : Int) < Nn := by omega
      have hall : l.take k = l := List.take_of_length_le (by have := HNL.out; omega)
      rw [hall] at hout
      have hrow := doOut_len hout
      obtain ⟨xs, hxs⟩ : ∃ xs, xs = l.flatMap F := ⟨_, rfl⟩
      rw [← hxs] at hrow HL
      have HXS := Lib.hid hxs
      obtain ⟨g, cap, cur, rfl, hg, _, hc1, hc2, _, _⟩ := rowV_parts hrow HL.out.1
      have HROW := Lib.hid hrow
      have HSORT := Lib.hid (sort_rowV hrow HL.out.1 (by have := HL.out.2; omega))
      clear hall hout hrow hxs HOUT
      go_wp2_with (go_at_call 78; (with_reducible refine HSORT.out.mono ?_))
      rintro e2 w2 ⟨rfl, ys, hp, hslow, hlen, hrow2⟩
      have HC := Lib.hid (compact_any hrow2 hlen HL.out hp hslow)
      clear hp hslow hrow2 hlen
      go_wp2_with (go_at_call 79; (with_reducible refine HC.out.mono ?_))
      rintro e2 w3 ⟨cv, rfl, hcv, hbc⟩
      have HCV := Lib.hid (And.intro hcv hbc)
      clear hcv hbc
      go_wp2_with fail
      go_ret
      exact ⟨_, rfl, by rw [← HXS.out]; exact HCV.out.1, HCV.out.2⟩
end Go.Proofs.YtcfcpbkeedfbpaaGreatDoor

namespace Go.Proofs.YtcfcpbkeedfbpaaGreatDoor
open Go.RowKit TermSpec EvalSpec ActSpec NamesSpec
set_option maxRecDepth 100000

set_option maxHeartbeats 1000000 in
theorem may_act (a : Ac) (A : Option Addr) (n c : Nat) (hs : SmallA a) (w : World) (h : Tms w (.slice A n c) a.x) :
    Calls Tryz.prog 30 #[.agg #[.string a.s, .bool a.any, .slice A n c]] w (RetI w (oneA a)) := by
  obtain ⟨A', n', c', heq, hn, hnc⟩ := h.shape
  cases heq
  have HIS := Lib.hid (fun w => is_any a.s w hs.1)
  have HC := Lib.hid (fun w h => check_any A n c a.x hn (by have := hs.2.2; omega) hs.2.1 w h)
  have HT := Lib.hid h
  obtain ⟨q, hq⟩ : ∃ q, q = isName a.s.data.toList := ⟨_, rfl⟩
  rw [← hq] at HIS
  obtain ⟨r, hr⟩ : ∃ r, r = oneA a := ⟨_, rfl⟩
  rw [← hr]
  rcases hb : q with _ | _
  · rw [hb] at HIS hq
    have HR := Lib.hid (hr.trans (oneA_name hq.symm))
    obtain ⟨s, any, x⟩ := a
    simp only at HIS HC HT hn ⊢
    clear hs h hq hr hb hn
    go_enter Tryz.func30, Tryz.ntmps30
    go_wp2_with (go_at_call 53; (with_reducible refine (HIS.out _).mono ?_))
    rintro e2 w2 ⟨rfl, hb2⟩
    obtain ⟨B2, hbb, _⟩ := KitC.one_block hb2
    have HB2 := Lib.hid hbb
    obtain ⟨c0, c1, c2⟩ := cells_3 B2
    clear hb2 hbb B2
    go_wp2_with fail
    go_ret
    exact ⟨ret_int HR.out.symm, HB2.out⟩
  · rw [hb] at HIS hq
    rcases ha : a.any with _ | _
    · have HR := Lib.hid (hr.trans (oneA_expr hq.symm ha))
      obtain ⟨s, any, x⟩ := a
      simp only at HIS HC HT HR hn ha ⊢
      subst ha
      obtain ⟨m, hm⟩ : ∃ m, m = chk x := ⟨_, rfl⟩
      rw [← hm] at HR HC
      clear hs h hq hr hb hn hm
      go_enter Tryz.func30, Tryz.ntmps30
      go_wp2_with (go_at_call 53; (with_reducible refine (HIS.out _).mono ?_))
      rintro e2 w2 ⟨rfl, hb2⟩
      obtain ⟨B2, hbb, _⟩ := KitC.one_block hb2
      have HB2 := Lib.hid hbb
      obtain ⟨c0, c1, c2⟩ := cells_3 B2
      clear hb2 hbb B2
      go_wp2_with (go_at_call 54; (with_reducible refine (HC.out _ (HT.out.keep HB2.out)).mono ?_))
      rintro e2 w3 ⟨rfl, hb3⟩
      have HB3 := Lib.hid (below_two' HB2.out hb3)
      clear hb3
      go_wp2_with fail
      go_ret
      exact ⟨ret_int HR.out.symm, HB3.out⟩
    · have HR0 := Lib.hid (hr.trans (oneA_any hq.symm ha))
      rw [← hn] at HR0
      obtain ⟨s, any, x⟩ := a
      simp only at HIS HC HT hn ha ⊢
      subst ha
      by_cases h0 : n = 0
      · have HR : Hid (r = 0) := Lib.hid (by rw [HR0.out, if_pos h0])
        have g : decide (0 < n) = false := by simp; omega
        have g2 : decide (0 < (n : Int)) = false := by simp; omega
        clear hs h hq hr hb hn h0 HR0
        go_enter Tryz.func30, Tryz.ntmps30
        go_wp2_with (go_at_call 53; (with_reducible refine (HIS.out _).mono ?_))
        rintro e2 w2 ⟨rfl, hb2⟩
        obtain ⟨B2, hbb, _⟩ := KitC.one_block hb2
        have HB2 := Lib.hid hbb
        obtain ⟨c0, c1, c2⟩ := cells_3 B2
        clear hb2 hbb B2
        go_wp2_with fail
        go_ret
        exact ⟨ret_int HR.out.symm, HB2.out⟩
      · have HR : Hid (r = 1) := Lib.hid (by rw [HR0.out, if_neg h0])
        have g : decide (0 < n) = true := by simp; omega
        have g2 : decide (0 < (n : Int)) = true := by simp; omega
        clear hs h hq hr hb hn h0 HR0
        go_enter Tryz.func30, Tryz.ntmps30
        go_wp2_with (go_at_call 53; (with_reducible refine (HIS.out _).mono ?_))
        rintro e2 w2 ⟨rfl, hb2⟩
        obtain ⟨B2, hbb, _⟩ := KitC.one_block hb2
        have HB2 := Lib.hid hbb
        obtain ⟨c0, c1, c2⟩ := cells_3 B2
        clear hb2 hbb B2
        go_wp2_with fail
        go_ret
        exact ⟨ret_int HR.out.symm, HB2.out⟩
def PChkRel (W : World) (l : List Ac) (n : Nat) (i : Value) (wr : World) : Prop := ∃ k : Nat, k ≤ n ∧ i = .int .i64 k ∧ firstA (l.take k) = 0 ∧ Below W.heap.size W wr
abbrev acO (a : Ac) (xA : Option Addr) (xn xc : Nat) : Obj := .cells #[.string a.s, .bool a.any, .slice xA xn xc] 66
set_option maxHeartbeats 1000000 in
theorem check_acts (A : Option Addr) (n c : Nat) (l : List Ac) (hs : ∀ a ∈ l, SmallA a) (hl : l.length ≤ 9223372036854775807) (w : World) (h : Acs w (.slice A n c) l) :
    Calls Tryz.prog 10 #[.slice A n c] w (RetI w (chkA l)) := by
  have hn := h.len.1
  have hcap := h.len.2
  have HN := Lib.hid hn
  have HT := Lib.hid h
  have HS := Lib.hid hs
  obtain ⟨r, hr⟩ : ∃ r, r = chkA l := ⟨_, rfl⟩
  rw [← hr]
  by_cases h8 : 8 < n
  · have HR : Hid (r = 8) := Lib.hid (by rw [hr]; unfold chkA; rw [if_pos (by omega)])
    have g : decide (8 < n) = true := by simp; omega
    have h8' : 8 < (n : Int) := by omega
    clear hn h hs hr hl
    go_enter Tryz.func10, Tryz.ntmps10
    go_wp2_with fail
    go_ret
    exact ⟨ret_int HR.out.symm, Below.refl _ _⟩
  · have HR : Hid (r = firstA l) := Lib.hid (by rw [hr]; unfold chkA; rw [if_neg (by omega)])
    have h8' : ¬ 8 < (n : Int) := by omega
    clear hn h hs hr hl
    go_enter Tryz.func10, Tryz.ntmps10
    go_wp2_with fail
    go_loopw [11] (fun i wr => PChkRel w l n i wr) (fun i _ => n - (intOf i).toNat)
    case atStart => exact ⟨0, Nat.zero_le _, rfl, rfl, Below.refl _ _⟩
    case round =>
      obtain ⟨k, hk, rfl, hall, hbw⟩ := hrel
      have HA := Lib.hid hall
      have HB := Lib.hid hbw
      clear hall hbw
      by_cases hlt : k < n
      · obtain ⟨a, ha⟩ : ∃ a, l[k]? = some a := get_some (by rw [← HN.out]; exact hlt)
        obtain ⟨b, off, xA, xn, xc, rfl, hb, htm, c0, c1, c2⟩ := (HT.out.keep HB.out).at_ ha
        have HC : Hid (Calls Tryz.prog 30 #[.agg #[.string a.s, .bool a.any, .slice xA xn xc]] (wr.alloc (acO a xA xn xc)) (RetI (wr.alloc (acO a xA xn xc)) (oneA a))) := Lib.hid (may_act a xA xn xc (HS.out a (List.mem_of_getElem? ha)) _ (htm.keep (KitC.below_one _ _)))
        have HNX := Lib.hid (fun h1 => firstA_next ha HA.out h1)
        have HST := Lib.hid (fun h1 => firstA_stop ha HA.out h1)
        obtain ⟨q, hq⟩ : ∃ q, q = oneA a := ⟨_, rfl⟩
        rw [← hq] at HC HNX HST
        have hkI : (k : Int) < n := by omega
        clear ha hq htm
        obtain ⟨s, any, x⟩ := a
        simp only at c0 c1 c2 HC
        by_cases hq0 : q = 0
        · have HNX' := Lib.hid (HNX.out hq0)
          have g : (q != 0) = false := by simp [hq0]
          clear HNX HST hq0
          go_wp2_with (go_at_call 30; (with_reducible refine HC.out.mono ?_))
          rintro e2 w2 ⟨rfl, hb2⟩
          have HB2 := Lib.hid (below_two' HB.out (below_two' (KitC.below_one _ _) hb2))
          clear hb2
          go_wp2_with fail
          go_roundw
          case rel => exact ⟨k + 1, by omega, by go_num, HNX'.out, HB2.out⟩
          case measure => simp [intOf]; omega
        · have HST' := Lib.hid (HST.out hq0)
          have g : (q != 0) = true := by simp [hq0]
          clear HNX HST hq0
          go_wp2_with (go_at_call 30; (with_reducible refine HC.out.mono ?_))
          rintro e2 w2 ⟨rfl, hb2⟩
          have HB2 := Lib.hid (below_two' HB.out (below_two' (KitC.below_one _ _) hb2))
          clear hb2
          go_wp2_with fail
          go_ret
          exact ⟨ret_int (by rw [HR.out, HST'.out]), HB2.out⟩
      · have HE : Hid (firstA l = 0) := Lib.hid (by
          have h1 := HN.out
          have h2 := HA.out
          rwa [List.take_of_length_le (by omega)] at h2)
        go_wp2_with fail
        go_ret
        exact ⟨ret_int (by rw [HR.out, HE.out]), HB.out⟩
end Go.Proofs.YtcfcpbkeedfbpaaGreatDoor

namespace Go.Proofs.YtcfcpbkeedfbpaaGreatDoor
namespace ActSpec
open TermSpec EvalSpec Go.Lib

theorem chkA_few {l : List Ac} (h : chkA l = 0) : l.length ≤ 8 := by
  unfold chkA at h
  split at h
  · cases h
  · omega
theorem stepA_bad {e : Ev} {a : Ac} {l : List V4} (h : badA e a ≠ 0) : stepA e a l = (badA e a, []) := by unfold stepA; rw [if_pos h]
theorem stepA_some {e : Ev} {a : Ac} {l : List V4} {i : Nat} {v : Vr} (h : badA e a = 0) (hv : varOf e a = some (i, v)) :
    stepA e a l = if 64 < (allV [] (l.flatMap (stepsA e a i v))).length then (12, []) else (0, allV [] (l.flatMap (stepsA e a i v))) := by
  unfold stepA
  rw [if_neg (by omega), hv]
/-- So much is left: from an act on, by these lists. -/
def LeftA (e : Ev) (l : List Ac) (k : Nat) (now : List V4) : Prop := runA e l [vals e] = runA e (l.drop k) now ∧ 0 < now.length ∧ now.length ≤ 64
theorem left_start (e : Ev) (l : List Ac) : LeftA e l 0 [vals e] := ⟨by rw [List.drop_zero], by simp, by simp⟩
theorem drop_ac {l : List Ac} {k : Nat} {a : Ac} (h : l[k]? = some a) : l.drop k = a :: l.drop (k + 1) := by
  obtain ⟨hk, he⟩ := List.getElem?_eq_some_iff.1 h
  rw [List.drop_eq_getElem_cons hk, he]
theorem steps_some (e : Ev) (a : Ac) (i : Nat) (v : Vr) (x : V4) (h : a.any = true → spanB v = true) : stepsA e a i v x ≠ [] := by
  unfold stepsA
  split
  · rename_i ha
    have := h ha
    unfold spanB at this
    simp only [Bool.and_eq_true, decide_eq_true_eq] at this
    intro hc
    have h2 := congrArg List.length hc
    rw [List.length_map, List.length_range] at h2
    simp at h2
    omega
  · simp
theorem bad_span {e : Ev} {a : Ac} {i : Nat} {v : Vr} (h : badA e a = 0) (hv : varOf e a = some (i, v)) : a.any = true → spanB v = true := by
  intro ha
  unfold badA at h
  rw [hv] at h
  simp only at h
  rw [if_pos ha] at h
  rcases hs : spanB v with _ | _
  · rw [hs] at h; simp at h
  · rfl
theorem bad_chk {e : Ev} {a : Ac} {i : Nat} {v : Vr} (h : badA e a = 0) (hv : varOf e a = some (i, v)) : a.any = false → chkE e a.x = 0 := by
  intro ha
  unfold badA at h
  rw [hv] at h
  simp only at h
  rw [if_neg (by simp [ha])] at h
  rcases Decidable.em (chkE e a.x = 0) with h0 | h0
  · exact h0
  · rw [if_pos h0] at h; exact absurd h h0
theorem bad_var {e : Ev} {a : Ac} (h : badA e a = 0) : ∃ i v, varOf e a = some (i, v) := by
  unfold badA at h
  rcases hv : varOf e a with _ | ⟨i, v⟩
  · rw [hv] at h; cases h
  · exact ⟨i, v, rfl⟩
theorem stepA_len {e : Ev} {a : Ac} {now : List V4} (h0 : 0 < now.length) (h : (stepA e a now).1 = 0) : 0 < (stepA e a now).2.length ∧ (stepA e a now).2.length ≤ 64 := by
  rcases Decidable.em (badA e a = 0) with hb | hb
  · obtain ⟨i, v, hv⟩ := bad_var hb
    rw [stepA_some hb hv] at h ⊢
    split at h
    · cases h
    · rename_i h64
      rw [if_neg h64]
      refine ⟨List.length_pos_iff.2 (allV_some fun hc => ?_), by simp only; omega⟩
      cases now with
      | nil => simp at h0
      | cons x r =>
        rw [List.flatMap_cons] at hc
        exact steps_some e a i v x (bad_span hb hv) (List.append_eq_nil_iff.1 hc).1
  · rw [stepA_bad hb] at h
    exact absurd h hb
theorem left_next {e : Ev} {l : List Ac} {k : Nat} {now : List V4} {a : Ac} (h : LeftA e l k now) (ha : l[k]? = some a) (h0 : (stepA e a now).1 = 0) : LeftA e l (k + 1) (stepA e a now).2 := by
  obtain ⟨h1, h2, _⟩ := h
  refine ⟨?_, stepA_len h2 h0⟩
  rw [h1, drop_ac ha]
  unfold runA
  rw [if_pos h0]
  rcases hd : l.drop (k + 1) with _ | ⟨b, r⟩
  · rfl
  · rfl
theorem left_stop {e : Ev} {l : List Ac} {k : Nat} {now : List V4} {a : Ac} (h : LeftA e l k now) (ha : l[k]? = some a) (h0 : (stepA e a now).1 ≠ 0) : runA e l [vals e] = ((stepA e a now).1, []) := by
  rw [h.1, drop_ac ha]
  unfold runA
  rw [if_neg h0]
theorem left_end {e : Ev} {l : List Ac} {k : Nat} {now : List V4} (h : LeftA e l k now) (hk : l.length ≤ k) : runA e l [vals e] = (0, now) := by
  rw [h.1, List.drop_of_length_le hk]
  rfl
end ActSpec
end Go.Proofs.YtcfcpbkeedfbpaaGreatDoor
