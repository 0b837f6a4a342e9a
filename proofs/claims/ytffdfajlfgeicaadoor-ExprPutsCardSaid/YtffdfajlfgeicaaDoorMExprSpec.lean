/- ExprSpec, joined. -/
import Derived.Test.YtffdfajlfgeicaaDoorMCurA
import Derived.Test.YtffdfajlfgeicaaDoorMTermA
namespace Go.Proofs.YtffdfajlfgeicaaDoor
namespace ExprSpec
open CurSpec TermSpec

/-- A sign between two: its text, what it does, its level, and of which levels those on its sides must be. -/
structure Sg where
  t : ByteArray
  op : Int
  lev : Int
  left : Int
  right : Int
def sgs : List Sg := [⟨⟨#[111, 114]⟩, 20, 1, 1, 2⟩, ⟨⟨#[97, 110, 100]⟩, 19, 2, 2, 3⟩, ⟨⟨#[61, 61]⟩, 13, 4, 5, 5⟩, ⟨⟨#[33, 61]⟩, 14, 4, 5, 5⟩, ⟨⟨#[60]⟩, 15, 4, 5, 5⟩, ⟨⟨#[60, 61]⟩, 16, 4, 5, 5⟩, ⟨⟨#[62]⟩, 17, 4, 5, 5⟩, ⟨⟨#[62, 61]⟩, 18, 4, 5, 5⟩, ⟨⟨#[43]⟩, 4, 5, 5, 6⟩, ⟨⟨#[45]⟩, 5, 5, 5, 6⟩, ⟨⟨#[42]⟩, 6, 6, 6, 7⟩]
def look (t : ByteArray) : Option Sg := sgs.find? fun s => decide (s.t = t)
def fits (lev k : Int) (s : Sg) : Bool := decide (s.left ≤ lev) && decide (k ≤ s.lev)
/-- The sign that is next, and may stand behind what is of a level, in a part of a level at least. -/
def sgn (c : Cur) (lev k : Int) : Option Sg := if (next c).k = 3 ∨ (next c).k = 1 then (look (next c).t).filter (fits lev k) else none

abbrev tNot : ByteArray := ⟨#[110, 111, 116]⟩
abbrev tNeg : ByteArray := ⟨#[45]⟩
abbrev tTrue : ByteArray := ⟨#[116, 114, 117, 101]⟩
abbrev tFalse : ByteArray := ⟨#[102, 97, 108, 115, 101]⟩
abbrev tIn : ByteArray := ⟨#[105, 110]⟩
abbrev tMin : ByteArray := ⟨#[109, 105, 110]⟩
abbrev tMax : ByteArray := ⟨#[109, 97, 120]⟩
abbrev tOpen : ByteArray := ⟨#[40]⟩
abbrev tClose : ByteArray := ⟨#[41]⟩
abbrev tComma : ByteArray := ⟨#[44]⟩

def opT (o : Int) : Tm := ⟨o, 0, ⟨#[]⟩⟩
abbrev Pa := Cur × List Tm
section
variable (rec : Cur → Int → Pa)
/-- What stands behind min or max. -/
def two (c : Cur) (o : Int) : Pa :=
  let p := rec (want c 3 tOpen) 1
  let q := rec (want p.1 3 tComma) 1
  (want q.1 3 tClose, opT o :: (p.2 ++ q.2))
def atom (c : Cur) : Pa :=
  if (next c).k = 2 then (numC c 1000000, [⟨1, numN c 1000000, ⟨#[]⟩⟩])
  else if isB c 1 tTrue then (on c, [opT 9])
  else if isB c 1 tFalse then (on c, [opT 10])
  else if isB c 1 tIn then (want (nameC (want (on c) 3 tOpen)) 3 tClose, [⟨11, 0, nameS (want (on c) 3 tOpen)⟩])
  else if isB c 1 tMin then two rec (on c) 7
  else if isB c 1 tMax then two rec (on c) 8
  else if isB c 3 tOpen then (want (rec (on c) 1).1 3 tClose, (rec (on c) 1).2)
  else (nameC c, [⟨2, 0, nameS c⟩])
/-- What stands ahead of all signs between two; its level. -/
def hd (c : Cur) (k : Int) : Pa × Int :=
  if k ≤ 3 ∧ isB c 1 tNot = true then (((rec (on c) 3).1, opT 12 :: (rec (on c) 3).2), 3)
  else if isB c 3 tNeg then (((rec (on c) 7).1, opT 3 :: (rec (on c) 7).2), 7)
  else (atom rec c, 8)
end
mutual
/-- The part of a level at least that is next. -/
def S : Nat → Cur → Int → Pa
  | 0, c, _ => (c, [])
  | f + 1, c, k => if c.bad ≠ 0 then (c, []) else
    let h := hd (S f) c k
    C f h.2 k h.1.1 h.1.2
/-- The part goes on behind what was read of it, that is of a level. -/
def C : Nat → Int → Int → Cur → List Tm → Pa
  | 0, _, _, c, x => (c, x)
  | f + 1, lev, k, c, x =>
    match sgn c lev k with
    | none => (c, x)
    | some s =>
      let p := S f (on c) s.right
      C f s.lev k p.1 (opT s.op :: (x ++ p.2))
end

theorem S_zero (c : Cur) (k : Int) : S 0 c k = (c, []) := rfl
theorem C_zero (lev k : Int) (c : Cur) (x : List Tm) : C 0 lev k c x = (c, x) := rfl
theorem S_dead {c : Cur} (f : Nat) (k : Int) (h : c.bad ≠ 0) : S f c k = (c, []) := by
  cases f with
  | zero => rfl
  | succ f => rw [S]; exact if_pos h
theorem S_good {c : Cur} (f : Nat) (k : Int) (h : c.bad = 0) : S (f + 1) c k = C f (hd (S f) c k).2 k (hd (S f) c k).1.1 (hd (S f) c k).1.2 := by
  rw [S]; exact if_neg (fun h' => h' h)
theorem C_stop {c : Cur} {lev k : Int} (f : Nat) (x : List Tm) (h : sgn c lev k = none) : C f lev k c x = (c, x) := by
  cases f with
  | zero => rfl
  | succ f => rw [C, h]
theorem C_step {c : Cur} {lev k : Int} {s : Sg} (f : Nat) (x : List Tm) (h : sgn c lev k = some s) :
    C (f + 1) lev k c x = C f s.lev k (S f (on c) s.right).1 (opT s.op :: (x ++ (S f (on c) s.right).2)) := by
  rw [C, h]

def first (k : Int) : Int := if k = 4 then 5 else k
theorem sgs_all : ∀ s ∈ sgs, s.right = s.lev + 1 ∧ s.left = first s.lev ∧ (s.lev = 1 ∨ s.lev = 2 ∨ s.lev = 4 ∨ s.lev = 5 ∨ s.lev = 6) ∧ ar s.op = 2 ∧ s.t.size ≠ 0 := by decide
theorem look_mem {t : ByteArray} {s : Sg} (h : look t = some s) : s ∈ sgs ∧ s.t = t := by
  have := List.find?_some h
  exact ⟨List.mem_of_find?_eq_some h, by simpa using this⟩
theorem sgn_some {c : Cur} {lev k : Int} {s : Sg} (h : sgn c lev k = some s) : look (next c).t = some s ∧ ((next c).k = 3 ∨ (next c).k = 1) ∧ s.left ≤ lev ∧ k ≤ s.lev ∧ s ∈ sgs := by
  unfold sgn at h
  split at h
  · rename_i hk
    rw [Option.filter_eq_some_iff] at h
    obtain ⟨h1, h2⟩ := h
    unfold fits at h2
    simp only [Bool.and_eq_true, decide_eq_true_eq] at h2
    exact ⟨h1, hk, h2.1, h2.2, (look_mem h1).1⟩
  · cases h
theorem sgn_mk {c : Cur} {lev k : Int} {s : Sg} (h1 : look (next c).t = some s) (h2 : (next c).k = 3 ∨ (next c).k = 1) (h3 : s.left ≤ lev) (h4 : k ≤ s.lev) : sgn c lev k = some s := by
  unfold sgn
  rw [if_pos h2, h1, Option.filter_eq_some_iff]
  exact ⟨rfl, by simp [fits, h3, h4]⟩
theorem sgn_none {c : Cur} {lev k : Int} (h : ∀ s, sgn c lev k = some s → False) : sgn c lev k = none := by
  cases hs : sgn c lev k with
  | none => rfl
  | some s => exact absurd hs (fun h' => h s h')
theorem sgn_dead {c : Cur} (lev k : Int) (h : c.bad ≠ 0) : sgn c lev k = none := by
  unfold sgn
  rw [next_dead h]
  rfl
theorem sgn_good {c : Cur} {lev k : Int} {s : Sg} (h : sgn c lev k = some s) : c.bad = 0 := by
  by_cases h0 : c.bad = 0
  · exact h0
  · rw [sgn_dead lev k h0] at h; cases h
theorem next_real {c : Cur} (h : (next c).k ≠ 0) : c.bad = 0 ∧ (on c).L.length + 1 = c.L.length ∧ (on c).bad = 0 := by
  have h0 : c.bad = 0 := by
    by_cases h0 : c.bad = 0
    · exact h0
    · rw [next_dead h0] at h; exact absurd rfl h
  refine ⟨h0, ?_, (on_bad c).1.trans h0⟩
  obtain ⟨L, w1, w2, a1, a2, bad⟩ := c
  cases L with
  | nil => unfold next at h; rw [if_pos h0] at h; exact absurd rfl h
  | cons t r => rfl
theorem sgn_real {c : Cur} {lev k : Int} {s : Sg} (h : sgn c lev k = some s) : c.bad = 0 ∧ (on c).L.length + 1 = c.L.length ∧ (on c).bad = 0 := by
  obtain ⟨_, h2, _⟩ := sgn_some h
  exact next_real (by omega)
theorem isB_next {c : Cur} {k : Int} {s : ByteArray} (h : isB c k s = true) : c.bad = 0 ∧ (next c).k = k ∧ (next c).t = s := by
  unfold isB at h
  simp only [Bool.and_eq_true, decide_eq_true_eq] at h
  exact h
theorem isB_real {c : Cur} {k : Int} {s : ByteArray} (h : isB c k s = true) (hk : k ≠ 0) : c.bad = 0 ∧ (on c).L.length + 1 = c.L.length ∧ (on c).bad = 0 := by
  obtain ⟨_, h1, _⟩ := isB_next h
  exact next_real (by omega)

theorem fail_len (c : Cur) (e : Int) : (fail c e).L = c.L := by unfold fail; split <;> rfl
theorem want_len (c : Cur) (k : Int) (s : ByteArray) : (want c k s).L.length ≤ c.L.length := by
  unfold want
  split
  · rw [on_len]; omega
  · rw [fail_len]; exact Nat.le_refl _
theorem nameC_len (c : Cur) : (nameC c).L.length ≤ c.L.length := by
  unfold nameC
  split
  · rw [on_len]; omega
  · rw [fail_len]; exact Nat.le_refl _
theorem numC_len (c : Cur) (m : Int) : (numC c m).L.length ≤ c.L.length := by
  unfold numC
  split
  · rw [on_len]; omega
  · rw [fail_len]; exact Nat.le_refl _
theorem fail_bad {c : Cur} {e : Int} (he : e ≠ 0) : (fail c e).bad ≠ 0 := by
  by_cases h : c.bad = 0
  · rw [fail_yes h he]; exact he
  · rw [fail_dead e h]; exact h
theorem want_good {c : Cur} {k : Int} {s : ByteArray} (h : (want c k s).bad = 0) : isB c k s = true ∧ want c k s = on c := by
  unfold want at h ⊢
  split
  · rename_i hb; exact ⟨hb, rfl⟩
  · rename_i hb; rw [if_neg hb] at h; exact absurd h (fail_bad (by decide))
theorem nameC_good {c : Cur} (h : (nameC c).bad = 0) : nameB c = true ∧ nameC c = on c := by
  unfold nameC at h ⊢
  split
  · rename_i hb; exact ⟨hb, rfl⟩
  · rename_i hb; rw [if_neg hb] at h; exact absurd h (fail_bad (by decide))
theorem numC_good {c : Cur} {m : Int} (h : (numC c m).bad = 0) : numE c m = 0 ∧ numC c m = on c := by
  unfold numC at h ⊢
  split
  · rename_i hb; exact ⟨hb, rfl⟩
  · rename_i hb; rw [if_neg hb] at h; exact absurd h (fail_bad hb)
theorem nameB_next {c : Cur} (h : nameB c = true) : c.bad = 0 ∧ (next c).k = 1 ∧ NamesSpec.isName (next c).t.data.toList = true := by
  unfold nameB at h
  simp only [Bool.and_eq_true, decide_eq_true_eq] at h
  exact h
theorem numE_next {c : Cur} {m : Int} (h : numE c m = 0) : c.bad = 0 ∧ (next c).k = 2 := by
  unfold numE at h
  split at h
  · assumption
  · omega
theorem want_dead {c : Cur} (k : Int) (s : ByteArray) (h : c.bad ≠ 0) : want c k s = c := by
  unfold want
  rw [if_neg (by rw [isB_dead k s h]; decide), fail_dead _ h]

/-- What is read by a function that never gives tokens back. -/
def Less (rec : Cur → Int → Pa) : Prop := ∀ d j, (rec d j).1.L.length ≤ d.L.length ∧ ((rec d j).1.bad = 0 → d.bad = 0)
theorem two_len {rec : Cur → Int → Pa} (H : Less rec) (c : Cur) (o : Int) : (two rec c o).1.L.length ≤ c.L.length ∧ ((two rec c o).1.bad = 0 → c.bad = 0) := by
  unfold two
  dsimp only
  have h1 := want_len c 3 tOpen
  have h2 := (H (want c 3 tOpen) 1).1
  have h3 := want_len (rec (want c 3 tOpen) 1).1 3 tComma
  have h4 := (H (want (rec (want c 3 tOpen) 1).1 3 tComma) 1).1
  have h5 := want_len (rec (want (rec (want c 3 tOpen) 1).1 3 tComma) 1).1 3 tClose
  refine ⟨by omega, fun h => ?_⟩
  have g1 := (isB_next (want_good h).1).1
  have g2 := (H _ _).2 g1
  have g3 := (isB_next (want_good g2).1).1
  have g4 := (H _ _).2 g3
  exact (isB_next (want_good g4).1).1
theorem atom_len {rec : Cur → Int → Pa} (H : Less rec) (c : Cur) : (atom rec c).1.L.length ≤ c.L.length ∧ ((atom rec c).1.bad = 0 → (atom rec c).1.L.length < c.L.length) := by
  unfold atom
  split
  · refine ⟨numC_len _ _, fun h => ?_⟩
    obtain ⟨h1, h2⟩ := numC_good h
    have := (next_real (c := c) (by have := (numE_next h1).2; omega)).2.1
    dsimp only
    rw [h2]; omega
  split
  · rename_i hb
    have := isB_real hb (by decide)
    exact ⟨by dsimp only; omega, fun _ => by dsimp only; omega⟩
  split
  · rename_i hb
    have := isB_real hb (by decide)
    exact ⟨by dsimp only; omega, fun _ => by dsimp only; omega⟩
  split
  · rename_i hb
    have := isB_real hb (by decide)
    have h1 := want_len (on c) 3 tOpen
    have h2 := nameC_len (want (on c) 3 tOpen)
    have h3 := want_len (nameC (want (on c) 3 tOpen)) 3 tClose
    exact ⟨by dsimp only; omega, fun _ => by dsimp only; omega⟩
  split
  · rename_i hb
    have := isB_real hb (by decide)
    have h1 := (two_len H (on c) 7).1
    exact ⟨by omega, fun _ => by omega⟩
  split
  · rename_i hb
    have := isB_real hb (by decide)
    have h1 := (two_len H (on c) 8).1
    exact ⟨by omega, fun _ => by omega⟩
  split
  · rename_i hb
    have := isB_real hb (by decide)
    have h1 := (H (on c) 1).1
    have h2 := want_len (rec (on c) 1).1 3 tClose
    exact ⟨by dsimp only; omega, fun _ => by dsimp only; omega⟩
  · refine ⟨nameC_len _, fun h => ?_⟩
    obtain ⟨h1, h2⟩ := nameC_good h
    have := (next_real (c := c) (by have := (nameB_next h1).2.1; omega)).2.1
    dsimp only
    rw [h2]; omega
theorem hd_len {rec : Cur → Int → Pa} (H : Less rec) (c : Cur) (k : Int) : (hd rec c k).1.1.L.length ≤ c.L.length ∧ ((hd rec c k).1.1.bad = 0 → (hd rec c k).1.1.L.length < c.L.length) := by
  unfold hd
  split
  · rename_i hb
    have := isB_real hb.2 (by decide)
    have h1 := (H (on c) 3).1
    exact ⟨by dsimp only; omega, fun _ => by dsimp only; omega⟩
  split
  · rename_i hb
    have := isB_real hb (by decide)
    have h1 := (H (on c) 7).1
    exact ⟨by dsimp only; omega, fun _ => by dsimp only; omega⟩
  · exact atom_len H c
theorem len_all : ∀ f, Less (S f) ∧ ∀ lev k c x, (C f lev k c x).1.L.length ≤ c.L.length ∧ ((C f lev k c x).1.bad = 0 → c.bad = 0)
  | 0 => ⟨fun d j => ⟨Nat.le_refl _, id⟩, fun lev k c x => ⟨Nat.le_refl _, id⟩⟩
  | f + 1 => by
    obtain ⟨ih1, ih2⟩ := len_all f
    refine ⟨fun d j => ?_, fun lev k c x => ?_⟩
    · by_cases h : d.bad = 0
      · rw [S_good f j h]
        exact ⟨Nat.le_trans (ih2 _ _ _ _).1 (hd_len ih1 d j).1, fun _ => h⟩
      · rw [S_dead _ j h]; exact ⟨Nat.le_refl _, id⟩
    · cases hs : sgn c lev k with
      | none => rw [C_stop _ x hs]; exact ⟨Nat.le_refl _, id⟩
      | some s =>
        rw [C_step f x hs]
        have h1 := sgn_real hs
        have h2 := (ih1 (on c) s.right).1
        have h3 := ih2 s.lev k (S f (on c) s.right).1 (opT s.op :: (x ++ (S f (on c) s.right).2))
        exact ⟨by omega, fun _ => h1.1⟩
theorem S_less (f : Nat) : Less (S f) := (len_all f).1
theorem C_len (f : Nat) (lev k : Int) (c : Cur) (x : List Tm) : (C f lev k c x).1.L.length ≤ c.L.length := ((len_all f).2 lev k c x).1

/-- The measure is enough. -/
def Fit (f : Nat) (c : Cur) : Prop := c.bad = 0 → c.L.length < f
theorem Fit.zero {c : Cur} (h : Fit 0 c) : c.bad ≠ 0 := fun h' => absurd (h h') (by omega)
theorem Fit.fitHd {f : Nat} {c : Cur} (h : Fit (f + 1) c) (h0 : c.bad = 0) (k : Int) : Fit f (hd (S f) c k).1.1 := fun hb => by
  have := (hd_len (S_less f) c k).2 hb
  have := h h0
  omega
theorem Fit.fitOn {f : Nat} {c : Cur} {lev k : Int} {s : Sg} (h : Fit (f + 1) c) (hs : sgn c lev k = some s) : Fit f (on c) := fun _ => by
  have := sgn_real hs
  have := h this.1
  omega
theorem Fit.fitStep {f : Nat} {c : Cur} {lev k : Int} {s : Sg} (h : Fit (f + 1) c) (hs : sgn c lev k = some s) (j : Int) : Fit f (S f (on c) j).1 := fun _ => by
  have := (S_less f (on c) j).1
  have := sgn_real hs
  have := h this.1
  omega
theorem Fit.le {f : Nat} {c d : Cur} (h : Fit f c) (h0 : c.bad = 0) (hl : d.L.length ≤ c.L.length) : Fit f d := fun _ => by
  have := h h0
  omega
theorem two_congr {rec rec' : Cur → Int → Pa} {c : Cur} {n : Nat} (H : ∀ d j, (d.bad = 0 → d.L.length < n) → rec d j = rec' d j) (HL : Less rec) (hc : c.bad = 0 → c.L.length < n) (o : Int) : two rec c o = two rec' c o := by
  unfold two
  have e1 : rec (want c 3 tOpen) 1 = rec' (want c 3 tOpen) 1 := H _ _ (fun hb => by
    have h1 := want_good hb
    have := want_len c 3 tOpen
    have := hc (isB_next h1.1).1
    omega)
  have e2 : rec (want (rec (want c 3 tOpen) 1).1 3 tComma) 1 = rec' (want (rec (want c 3 tOpen) 1).1 3 tComma) 1 := H _ _ (fun hb => by
    have h1 := isB_next (want_good hb).1
    have h2 := HL (want c 3 tOpen) 1
    have h3 := isB_next (want_good (h2.2 h1.1)).1
    have := want_len c 3 tOpen
    have := want_len (rec (want c 3 tOpen) 1).1 3 tComma
    have := hc h3.1
    omega)
  dsimp only
  rw [e2, e1]
theorem hd_congr {rec rec' : Cur → Int → Pa} {c : Cur} (H : ∀ d j, (d.bad = 0 → d.L.length < c.L.length) → rec d j = rec' d j) (HL : Less rec) (k : Int) : hd rec c k = hd rec' c k := by
  have ho : ∀ {k : Int} {s : ByteArray}, isB c k s = true → k ≠ 0 → (on c).bad = 0 → (on c).L.length < c.L.length := fun hb hk _ => by
    have := isB_real hb hk
    omega
  unfold hd
  split
  · rename_i hb
    rw [H (on c) 3 (ho hb.2 (by decide))]
  split
  · rename_i hb
    rw [H (on c) 7 (ho hb (by decide))]
  · congr 1
    unfold atom
    split
    · rfl
    split
    · rfl
    split
    · rfl
    split
    · rfl
    split
    · rename_i hb; exact two_congr H HL (ho hb (by decide)) 7
    split
    · rename_i hb; exact two_congr H HL (ho hb (by decide)) 8
    split
    · rename_i hb; rw [H (on c) 1 (ho hb (by decide))]
    · rfl
theorem same_all : ∀ f g, (∀ c k, Fit f c → Fit g c → S f c k = S g c k) ∧ (∀ lev k c x, Fit f c → Fit g c → C f lev k c x = C g lev k c x)
  | 0, g => ⟨fun c k h _ => by rw [S_dead 0 k h.zero, S_dead g k h.zero], fun lev k c x h _ => by rw [C_stop 0 x (sgn_dead lev k h.zero), C_stop g x (sgn_dead lev k h.zero)]⟩
  | f + 1, 0 => ⟨fun c k _ h => by rw [S_dead 0 k h.zero, S_dead (f + 1) k h.zero], fun lev k c x _ h => by rw [C_stop 0 x (sgn_dead lev k h.zero), C_stop (f + 1) x (sgn_dead lev k h.zero)]⟩
  | f + 1, g + 1 => by
    obtain ⟨ih1, ih2⟩ := same_all f g
    refine ⟨fun c k hf hg => ?_, fun lev k c x hf hg => ?_⟩
    · by_cases h : c.bad = 0
      · have e : hd (S f) c k = hd (S g) c k := hd_congr (fun d j hd => ih1 d j (fun hb => by have := hd hb; have := hf h; omega) (fun hb => by have := hd hb; have := hg h; omega)) (S_less f) k
        rw [S_good f k h, S_good g k h, e]
        exact ih2 _ _ _ _ (by rw [← e]; exact hf.fitHd h k) (hg.fitHd h k)
      · rw [S_dead _ k h, S_dead _ k h]
    · cases hs : sgn c lev k with
      | none => rw [C_stop _ x hs, C_stop _ x hs]
      | some s =>
        rw [C_step f x hs, C_step g x hs, ih1 (on c) s.right (hf.fitOn hs) (hg.fitOn hs)]
        exact ih2 _ _ _ _ (by rw [← ih1 (on c) s.right (hf.fitOn hs) (hg.fitOn hs)]; exact hf.fitStep hs _) (hg.fitStep hs _)
theorem S_same {f g : Nat} {c : Cur} (k : Int) (hf : Fit f c) (hg : Fit g c) : S f c k = S g c k := (same_all f g).1 c k hf hg
theorem C_same {f g : Nat} {c : Cur} (lev k : Int) (x : List Tm) (hf : Fit f c) (hg : Fit g c) : C f lev k c x = C g lev k c x := (same_all f g).2 lev k c x hf hg
theorem Fit.fitC {f g : Nat} {c : Cur} (h : Fit f c) (lev k : Int) (x : List Tm) : Fit f (C g lev k c x).1 := fun hb => by
  have h1 := (len_all g).2 lev k c x
  have := h (h1.2 hb)
  omega
end ExprSpec
end Go.Proofs.YtffdfajlfgeicaaDoor
