/- The document's answer for cursors, in plain words: the next token, going on, the first fault that stays. No program. -/
import Derived.Test.YtoegpieomnpifaaNamesSpec
import Derived.Test.YtoegpieomnpifaaValTextSpec
namespace Go.Proofs.Ytoegpieomnpifaa.CurSpec
open NamesSpec ValSpec

/-- A token: its kind, what it says, its line and byte. -/
structure Tk where
  k : Int
  t : ByteArray
  l : Int
  c : Int
def tz : Tk := ⟨0, ⟨#[]⟩, 0, 0⟩
/-- A cursor: the tokens that are left, the last one's place, the fault's place and the fault. -/
structure Cur where
  L : List Tk
  w1 : Int
  w2 : Int
  a1 : Int
  a2 : Int
  bad : Int
def next (c : Cur) : Tk := if c.bad = 0 then (match c.L with | [] => ⟨0, ⟨#[]⟩, c.w1, c.w2⟩ | t :: _ => t) else tz
def on (c : Cur) : Cur := match c.L with | [] => c | t :: r => ⟨r, t.l, t.c, c.a1, c.a2, c.bad⟩
def fail (c : Cur) (e : Int) : Cur := if c.bad = 0 ∧ e ≠ 0 then ⟨c.L, c.w1, c.w2, (next c).l, (next c).c, e⟩ else c
def isB (c : Cur) (k : Int) (s : ByteArray) : Bool := decide (c.bad = 0) && (decide ((next c).k = k) && decide ((next c).t = s))
def take (c : Cur) (k : Int) (s : ByteArray) : Cur := if isB c k s then on c else c
def want (c : Cur) (k : Int) (s : ByteArray) : Cur := if isB c k s then on c else fail c 2
def nameB (c : Cur) : Bool := decide (c.bad = 0) && (decide ((next c).k = 1) && isName (next c).t.data.toList)
def nameC (c : Cur) : Cur := if nameB c then on c else fail c 2
def nameS (c : Cur) : ByteArray := if nameB c then (next c).t else ⟨#[]⟩
/-- Why the next token is no number that may be (0: it is one). -/
def numE (c : Cur) (m : Int) : Int := if c.bad = 0 ∧ (next c).k = 2 then (if getE (next c).t.data.toList = 0 then (if m < getN (next c).t.data.toList then 3 else 0) else getE (next c).t.data.toList) else 2
def numC (c : Cur) (m : Int) : Cur := if numE c m = 0 then on c else fail c (numE c m)
def numN (c : Cur) (m : Int) : Int := if numE c m = 0 then getN (next c).t.data.toList else 0
/-- The tokens that are left, with the end behind them. -/
def full : List Tk → Int → Int → List Tk
  | [], a, b => [⟨0, ⟨#[]⟩, a, b⟩]
  | t :: r, _, _ => t :: full r t.l t.c
theorem full_length : ∀ (L : List Tk) (a b : Int), (full L a b).length = L.length + 1
  | [], _, _ => rfl
  | _ :: r, _, _ => by rw [full, List.length_cons, full_length r, List.length_cons]
theorem full_head (c : Cur) (h : c.bad = 0) : (full c.L c.w1 c.w2)[0]? = some (next c) := by
  unfold next
  rw [if_pos h]
  cases c.L <;> rfl
theorem on_nil {c : Cur} (h : c.L.length = 0) : on c = c := by
  unfold on
  rw [List.eq_nil_of_length_eq_zero h]
theorem on_full {c : Cur} (h : 0 < c.L.length) : full c.L c.w1 c.w2 = (full c.L c.w1 c.w2).headD tz :: full (on c).L (on c).w1 (on c).w2 := by
  obtain ⟨L, w1, w2, a1, a2, bad⟩ := c
  cases L with
  | nil => simp at h
  | cons t r => rfl
theorem on_bad (c : Cur) : (on c).bad = c.bad ∧ (on c).a1 = c.a1 ∧ (on c).a2 = c.a2 := by
  unfold on
  split <;> exact ⟨rfl, rfl, rfl⟩
theorem on_len (c : Cur) : (on c).L.length = c.L.length - 1 := by
  unfold on
  split
  · rename_i h; rw [h]; rfl
  · rename_i h; rw [h]; rfl
theorem fail_yes {c : Cur} {e : Int} (h : c.bad = 0) (he : e ≠ 0) : fail c e = ⟨c.L, c.w1, c.w2, (next c).l, (next c).c, e⟩ := if_pos ⟨h, he⟩
theorem fail_zero (c : Cur) : fail c 0 = c := if_neg (fun h => h.2 rfl)
theorem fail_dead {c : Cur} (e : Int) (h : c.bad ≠ 0) : fail c e = c := if_neg (fun h' => h h'.1)
theorem isB_dead {c : Cur} (k : Int) (s : ByteArray) (h : c.bad ≠ 0) : isB c k s = false := by simp [isB, h]
theorem next_dead {c : Cur} (h : c.bad ≠ 0) : next c = tz := if_neg h
theorem numE_dead {c : Cur} (m : Int) (h : c.bad ≠ 0) : numE c m = 2 := if_neg (fun h' => h h'.1)
theorem nameB_dead {c : Cur} (h : c.bad ≠ 0) : nameB c = false := by simp [nameB, h]

/-- Texts that memory holds. -/
def Ok (c : Cur) : Prop := ∀ t ∈ c.L, t.t.size ≤ 9223372036854775807
theorem Ok.next {c : Cur} (h : Ok c) : (next c).t.size ≤ 9223372036854775807 := by
  obtain ⟨L, w1, w2, a1, a2, bad⟩ := c
  unfold CurSpec.next
  split
  · cases L with
    | nil => exact (by decide : (⟨#[]⟩ : ByteArray).size ≤ 9223372036854775807)
    | cons t r => exact h t (by simp)
  · exact (by decide : (⟨#[]⟩ : ByteArray).size ≤ 9223372036854775807)
theorem Ok.on {c : Cur} (h : Ok c) : Ok (on c) := by
  obtain ⟨L, w1, w2, a1, a2, bad⟩ := c
  cases L with
  | nil => exact h
  | cons t r => exact fun x hx => h x (by simp [CurSpec.on] at hx ⊢; exact .inr hx)
theorem Ok.fail {c : Cur} (h : Ok c) (e : Int) : Ok (fail c e) := by
  unfold CurSpec.fail
  split
  · exact h
  · exact h
theorem Ok.take {c : Cur} (h : Ok c) (k : Int) (s : ByteArray) : Ok (take c k s) := by
  unfold CurSpec.take
  split
  · exact h.on
  · exact h
theorem Ok.want {c : Cur} (h : Ok c) (k : Int) (s : ByteArray) : Ok (want c k s) := by
  unfold CurSpec.want
  split
  · exact h.on
  · exact h.fail 2
theorem Ok.nameC {c : Cur} (h : Ok c) : Ok (nameC c) := by
  unfold CurSpec.nameC
  split
  · exact h.on
  · exact h.fail 2
theorem Ok.numC {c : Cur} (h : Ok c) (m : Int) : Ok (numC c m) := by
  unfold CurSpec.numC
  split
  · exact h.on
  · exact h.fail _
theorem getE_cases (l : List UInt8) : getE l = 0 ∨ getE l = 2 ∨ getE l = 3 := by
  unfold getE
  split
  · split <;> simp
  · simp
end Go.Proofs.Ytoegpieomnpifaa.CurSpec
