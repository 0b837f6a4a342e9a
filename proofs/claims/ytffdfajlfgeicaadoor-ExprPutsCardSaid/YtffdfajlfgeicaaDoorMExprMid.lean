/- ExprMid, joined. -/
import Derived.Test.YtffdfajlfgeicaaDoorMExprBetween
namespace Go.Proofs.YtffdfajlfgeicaaDoor
open Go.RowKit CurSpec TermSpec ExprSpec NamesSpec
set_option maxRecDepth 100000

/-- What holds of a cursor, and stays where it goes on or tells a fault, holds of all that is read. -/
def Inv (P : Cur → Prop) : Prop := (∀ c, P c → P (on c)) ∧ ∀ c e, P c → P (fail c e)
theorem Inv.want {P : Cur → Prop} (h : Inv P) {c : Cur} (hc : P c) (k : Int) (s : ByteArray) : P (want c k s) := by
  unfold CurSpec.want
  split
  · exact h.1 _ hc
  · exact h.2 _ _ hc
theorem Inv.nameC {P : Cur → Prop} (h : Inv P) {c : Cur} (hc : P c) : P (nameC c) := by
  unfold CurSpec.nameC
  split
  · exact h.1 _ hc
  · exact h.2 _ _ hc
theorem Inv.numC {P : Cur → Prop} (h : Inv P) {c : Cur} (hc : P c) (m : Int) : P (numC c m) := by
  unfold CurSpec.numC
  split
  · exact h.1 _ hc
  · exact h.2 _ _ hc
theorem Inv.hd {P : Cur → Prop} (h : Inv P) {rec : Cur → Int → Pa} (hr : ∀ c k, P c → P (rec c k).1) {c : Cur} (hc : P c) (k : Int) : P (hd rec c k).1.1 := by
  have two_ok : ∀ c o, P c → P (two rec c o).1 := fun c o hc => h.want (hr _ _ (h.want (hr _ _ (h.want hc _ _)) _ _)) _ _
  unfold ExprSpec.hd
  split
  · exact hr _ _ (h.1 _ hc)
  split
  · exact hr _ _ (h.1 _ hc)
  · dsimp only
    unfold atom
    split
    · exact h.numC hc _
    split
    · exact h.1 _ hc
    split
    · exact h.1 _ hc
    split
    · exact h.want (h.nameC (h.want (h.1 _ hc) _ _)) _ _
    split
    · exact two_ok _ _ (h.1 _ hc)
    split
    · exact two_ok _ _ (h.1 _ hc)
    split
    · exact h.want (hr _ _ (h.1 _ hc)) _ _
    · exact h.nameC hc
theorem Inv.all {P : Cur → Prop} (h : Inv P) : ∀ f, (∀ c k, P c → P (S f c k).1) ∧ ∀ lev k c x, P c → P (C f lev k c x).1
  | 0 => ⟨fun c k hc => hc, fun lev k c x hc => hc⟩
  | f + 1 => by
    obtain ⟨ih1, ih2⟩ := Inv.all h f
    refine ⟨fun c k hc => ?_, fun lev k c x hc => ?_⟩
    · by_cases h0 : c.bad = 0
      · rw [S_good f k h0]
        exact ih2 _ _ _ _ (h.hd ih1 hc k)
      · rw [S_dead _ k h0]; exact hc
    · cases hs : sgn c lev k with
      | none => rw [C_stop _ x hs]; exact hc
      | some s => rw [C_step f x hs]; exact ih2 _ _ _ _ (ih1 _ _ (h.1 _ hc))
theorem inv_ok : Inv Ok := ⟨fun _ h => h.on, fun _ e h => h.fail e⟩

/-- The terms that are there, of those that were and those that were read: 41 at most. -/
def CapD (c : Cur) (pre x l : List Tm) : Prop := pre.length ≤ l.length ∧ (c.bad = 0 → (if pre.length + x.length ≤ 41 then l = pre ++ x else l.length = 41))
theorem CapD.start (c : Cur) (pre : List Tm) (h : pre.length ≤ 41) : CapD c pre [] pre := ⟨Nat.le_refl _, fun _ => by simp [h]⟩
theorem CapD.dead {c d : Cur} {pre x y l : List Tm} (h : CapD c pre x l) (hd : d.bad ≠ 0) : CapD d pre y l := ⟨h.1, fun h' => absurd h' hd⟩
theorem CapD.to {c d : Cur} {pre x l : List Tm} (h : CapD c pre x l) (hd : d.bad = 0 → c.bad = 0) : CapD d pre x l := ⟨h.1, fun h' => h.2 (hd h')⟩
theorem CapD.ins {c d : Cur} {pre x l : List Tm} (t : Tm) (hl : l.length ≤ 41) (hd : d.bad = 0 → c.bad = 0) (h : CapD c pre x l) : CapD d pre (t :: x) (ins l pre.length t) := by
  obtain ⟨h1, h2⟩ := h
  refine ⟨?_, fun hb => ?_⟩
  · unfold Go.Proofs.YtffdfajlfgeicaaDoor.ins
    split
    · simp only [List.length_append, List.length_take, List.length_cons, List.length_drop]; omega
    · exact h1
  · have h3 := h2 (hd hb)
    unfold Go.Proofs.YtffdfajlfgeicaaDoor.ins
    by_cases h40 : l.length ≤ 40
    · rw [if_pos h40]
      by_cases hp : pre.length + x.length ≤ 41
      · rw [if_pos hp] at h3
        subst h3
        rw [List.length_append] at h40
        rw [if_pos (by simp only [List.length_cons]; omega), List.take_left, List.drop_left]
      · rw [if_neg hp] at h3; omega
    · rw [if_neg h40]
      by_cases hp : pre.length + x.length ≤ 41
      · rw [if_pos hp] at h3
        subst h3
        rw [List.length_append] at h40 hl
        rw [if_neg (by simp only [List.length_cons]; omega), List.length_append]
        omega
      · rw [if_neg (by simp only [List.length_cons]; omega)]; omega
theorem CapD.join {d e : Cur} {pre y l2 r l3 : List Tm} (hl : l3.length ≤ 41) (he : e.bad = 0 → d.bad = 0) (h1 : CapD d pre y l2) (h2 : CapD e l2 r l3) : CapD e pre (y ++ r) l3 := by
  refine ⟨Nat.le_trans h1.1 h2.1, fun hb => ?_⟩
  have g1 := h1.2 (he hb)
  have g2 := h2.2 hb
  have hle := h2.1
  rw [List.length_append]
  by_cases hp : pre.length + y.length ≤ 41
  · rw [if_pos hp] at g1
    subst g1
    rw [List.length_append] at g2 hle
    by_cases hq : pre.length + y.length + r.length ≤ 41
    · rw [if_pos hq] at g2
      rw [if_pos (by omega), g2, List.append_assoc]
    · rw [if_neg hq] at g2
      rw [if_neg (by omega)]; exact g2
  · rw [if_neg hp] at g1
    rw [if_neg (by omega)]
    omega
theorem SignsIn.hold {w w' : World} {R B : Nat} {v v' : Value} {c : Cur} {l : List Tm} (h : SignsIn w) (hr : RdAt w R B v c l) (hh : Hold R B v v' w w') : SignsIn w' := by
  have hp := h.pos
  refine h.of (hh.block _ hp ?_ ?_ ?_)
  · rintro e
    obtain ⟨T, fr, h⟩ := h
    obtain ⟨b, off, n, cp, hB, _⟩ := hr.cur
    rw [e, hB] at h
    simp only [Option.some.injEq, Obj.cells.injEq] at h
    exact absurd ((congrArg Array.size h.1).symm.trans rfl) (show ¬ signsV.size = _ by rw [show signsV.size = 55 by decide]; simp)
  · rintro e
    obtain ⟨T, fr, h⟩ := h
    rw [e, hr.blk] at h
    simp only [Option.some.injEq, Obj.cells.injEq] at h
    exact absurd ((congrArg Array.size h.1).symm.trans rfl) (show ¬ signsV.size = _ by rw [show signsV.size = 55 by decide]; simp)
  · intro e
    obtain ⟨T, fr, h⟩ := h
    rcases hr.own.2 with ⟨h1, _⟩ | ⟨g, cap, cur, h1, _, h3, _, _, h6, _⟩
    · rw [h1] at e; cases e
    · rw [h1] at e
      cases e
      rw [h3] at h
      simp only [Option.some.injEq, Obj.cells.injEq] at h
      rw [h.1] at h6
      have : signsV.size = 55 := by decide
      omega

def RetPart (W : World) (R B : Nat) (v : Value) (pre : List Tm) (p : Pa) (e : Ending) (w' : World) : Prop :=
  ∃ v' l', e = .returned (.tuple #[]) ∧ RdAt w' R B v' p.1 l' ∧ CapD p.1 pre p.2 l' ∧ Hold R B v v' W w'
def RetHead (W : World) (R B : Nat) (v : Value) (pre : List Tm) (h : Pa × Int) (e : Ending) (w' : World) : Prop :=
  ∃ v' l', e = .returned (.int .i64 h.2) ∧ RdAt w' R B v' h.1.1 l' ∧ CapD h.1.1 pre h.1.2 l' ∧ Hold R B v v' W w'
def PartOk (f : Nat) : Prop := ∀ (R B : Nat) (v : Value) (c : Cur) (l : List Tm) (k : Int) (w : World), SignsIn w → RdAt w R B v c l → Ok c → Fit f c →
  Calls Tryd.prog 24 #[.pointer (some ⟨R, 0, none⟩), .int .i64 k] w (RetPart w R B v l (S f c k))

/-- In a call of the reader: where it stands, what was left of the rest. -/
structure Mid (W : World) (R B : Nat) (v : Value) (pre : List Tm) (c : Cur) (x : List Tm) (v1 : Value) (l1 : List Tm) (w : World) : Prop where
  rd : RdAt w R B v1 c l1
  cap : CapD c pre x l1
  hold : Hold R B v v1 W w
  sig : SignsIn w
theorem Mid.start {w : World} {R B : Nat} {v : Value} {c : Cur} {l : List Tm} (hs : SignsIn w) (h : RdAt w R B v c l) : Mid w R B v l c [] v l w := ⟨h, CapD.start c l h.few, Hold.refl _ _ _ _, hs⟩
theorem Mid.cell {W : World} {R B : Nat} {v : Value} {pre : List Tm} {c : Cur} {x : List Tm} {v1 : Value} {l1 : List Tm} {w : World} (h : Mid W R B v pre c x v1 l1 w) : w.cell? ⟨R, 0, none⟩ = some (.pointer (some ⟨B, 0, none⟩)) := (cells_2 h.rd.blk).1
/-- Behind a call of the cursor. -/
theorem Mid.cur {W : World} {R B : Nat} {v : Value} {pre : List Tm} {c d : Cur} {x : List Tm} {v1 : Value} {l1 : List Tm} {w w' : World} (h : Mid W R B v pre c x v1 l1 w) (hc : CurAt w' B d) (hb : w.grownBy w' (some B)) (hd : d.bad = 0 → c.bad = 0) : Mid W R B v pre d x v1 l1 w' :=
  ⟨h.rd.but hb hc, h.cap.to hd, h.hold.trans (Hold.of_but v1 hb), h.sig.hold h.rd (Hold.of_but v1 hb)⟩
theorem Mid.below {W : World} {R B : Nat} {v : Value} {pre : List Tm} {c : Cur} {x : List Tm} {v1 : Value} {l1 : List Tm} {w w' : World} (h : Mid W R B v pre c x v1 l1 w) (hb : Below w.heap.size w w') : Mid W R B v pre c x v1 l1 w' :=
  ⟨h.rd.keep hb, h.cap, h.hold.trans (Hold.of_below v1 hb), h.sig.keep hb⟩
theorem Mid.alloc {W : World} {R B : Nat} {v : Value} {pre : List Tm} {c : Cur} {x : List Tm} {v1 : Value} {l1 : List Tm} {w : World} (h : Mid W R B v pre c x v1 l1 w) (o : Obj) : Mid W R B v pre c x v1 l1 (w.alloc o) := h.below ((Below.refl _ _).alloc (Nat.le_refl _) _)
/-- Behind an insertion of a term ahead of what was read. -/
theorem Mid.ins {W : World} {R B : Nat} {v : Value} {pre : List Tm} {c : Cur} {x : List Tm} {v1 v2 : Value} {l1 : List Tm} {w w' : World} (h : Mid W R B v pre c x v1 l1 w) (t : Tm) (hr : RdAt w' R B v2 c (ins l1 pre.length t)) (hh : Hold R B v1 v2 w w') : Mid W R B v pre c (t :: x) v2 (ins l1 pre.length t) w' :=
  ⟨hr, h.cap.ins t h.rd.few id, h.hold.trans hh, h.sig.hold h.rd hh⟩
/-- Behind a part. -/
theorem Mid.part {W : World} {R B : Nat} {v : Value} {pre : List Tm} {c : Cur} {x : List Tm} {v1 : Value} {l1 : List Tm} {w w' : World} (h : Mid W R B v pre c x v1 l1 w) {p : Pa} {v2 : Value} {l2 : List Tm} (hp : p.1.bad = 0 → c.bad = 0)
    (hr : RdAt w' R B v2 p.1 l2) (hc : CapD p.1 l1 p.2 l2) (hh : Hold R B v1 v2 w w') : Mid W R B v pre p.1 (x ++ p.2) v2 l2 w' :=
  ⟨hr, h.cap.join hr.few hp hc, h.hold.trans hh, h.sig.hold h.rd hh⟩
theorem Mid.ret {W : World} {R B : Nat} {v : Value} {pre : List Tm} {c : Cur} {x : List Tm} {v1 : Value} {l1 : List Tm} {w : World} (h : Mid W R B v pre c x v1 l1 w) {p : Pa} (hp : p = (c, x)) : RetPart W R B v pre p (.returned (.tuple #[])) w := by
  subst hp
  exact ⟨v1, l1, rfl, h.rd, h.cap, h.hold⟩
theorem Mid.head {W : World} {R B : Nat} {v : Value} {pre : List Tm} {c : Cur} {x : List Tm} {v1 : Value} {l1 : List Tm} {w : World} (h : Mid W R B v pre c x v1 l1 w) {p : Pa × Int} {n : Int} (hp : p = ((c, x), n)) : RetHead W R B v pre p (.returned (.int .i64 n)) w := by
  subst hp
  exact ⟨v1, l1, rfl, h.rd, h.cap, h.hold⟩

/-- What add answers, onto what was there before anything was read. -/
theorem add_mid {W : World} {R B : Nat} {v : Value} {c : Cur} {v1 : Value} {l1 : List Tm} {w : World} (h : Mid W R B v l1 c [] v1 l1 w) (o n : Int) (s : ByteArray) (hs : s.size ≤ 9223372036854775807) :
    Calls Tryd.prog 67 #[.pointer (some ⟨R, 0, none⟩), .agg #[.int .i64 o, .int .i64 n, .string s]] w fun e w' => ∃ v2 l2, e = .returned (.tuple #[]) ∧ Mid W R B v l1 c [⟨o, n, s⟩] v2 l2 w' := by
  refine (add_at R B v1 c l1 ⟨o, n, s⟩ w h.rd hs).mono ?_
  rintro e w' ⟨v2, rfl, hr, hh⟩
  exact ⟨v2, _, rfl, h.ins _ hr hh⟩
theorem part_mid {f : Nat} (hP : PartOk f) {W : World} {R B : Nat} {v : Value} {pre : List Tm} {c : Cur} {x : List Tm} {v1 : Value} {l1 : List Tm} {w : World} (h : Mid W R B v pre c x v1 l1 w) (k : Int) (ok : Ok c) (hf : Fit f c) :
    Calls Tryd.prog 24 #[.pointer (some ⟨R, 0, none⟩), .int .i64 k] w fun e w' => ∃ v2 l2, e = .returned (.tuple #[]) ∧ Mid W R B v pre (S f c k).1 (x ++ (S f c k).2) v2 l2 w' := by
  refine (hP R B v1 c l1 k w h.sig h.rd ok hf).mono ?_
  rintro e w' ⟨v2, l2, rfl, hr, hc, hh⟩
  exact ⟨v2, l2, rfl, h.part (S_less f c k).2 hr hc hh⟩
theorem want_mid {W : World} {R B : Nat} {v : Value} {pre : List Tm} {c : Cur} {x : List Tm} {v1 : Value} {l1 : List Tm} {w : World} (h : Mid W R B v pre c x v1 l1 w) (k : Int) (s : ByteArray) :
    Calls Tryd.prog 21 #[.pointer (some ⟨B, 0, none⟩), .int .i64 k, .string s] w fun e w' => e = .returned (.tuple #[]) ∧ Mid W R B v pre (want c k s) x v1 l1 w' := by
  refine (want_at B c k s w h.rd.cur).mono ?_
  rintro e w' ⟨rfl, hc, hb⟩
  exact ⟨rfl, h.cur hc hb (fun hg => (isB_next (want_good hg).1).1)⟩
theorem take_yes {W : World} {R B : Nat} {v : Value} {pre : List Tm} {c : Cur} {x : List Tm} {v1 : Value} {l1 : List Tm} {w : World} (h : Mid W R B v pre c x v1 l1 w) {k : Int} {s : ByteArray} (hb : isB c k s = true) :
    Calls Tryd.prog 39 #[.pointer (some ⟨B, 0, none⟩), .int .i64 k, .string s] w fun e w' => e = .returned (.bool true) ∧ Mid W R B v pre (on c) x v1 l1 w' := by
  have ht : take c k s = on c := by unfold take; rw [if_pos hb]
  have := take_at B c k s w h.rd.cur
  rw [hb, ht] at this
  refine this.mono ?_
  rintro e w' ⟨rfl, hc, hg⟩
  exact ⟨rfl, h.cur hc hg (fun hg => by rw [(on_bad c).1] at hg; exact hg)⟩
theorem take_no {W : World} {R B : Nat} {v : Value} {pre : List Tm} {c : Cur} {x : List Tm} {v1 : Value} {l1 : List Tm} {w : World} (h : Mid W R B v pre c x v1 l1 w) {k : Int} {s : ByteArray} (hb : isB c k s = false) :
    Calls Tryd.prog 39 #[.pointer (some ⟨B, 0, none⟩), .int .i64 k, .string s] w fun e w' => e = .returned (.bool false) ∧ Mid W R B v pre c x v1 l1 w' := by
  have ht : take c k s = c := by unfold take; rw [if_neg (by rw [hb]; decide)]
  have := take_at B c k s w h.rd.cur
  rw [hb, ht] at this
  refine this.mono ?_
  rintro e w' ⟨rfl, hc, hg⟩
  exact ⟨rfl, h.cur hc hg id⟩
theorem name_mid {W : World} {R B : Nat} {v : Value} {pre : List Tm} {c : Cur} {x : List Tm} {v1 : Value} {l1 : List Tm} {w : World} (h : Mid W R B v pre c x v1 l1 w) (ok : Ok c) :
    Calls Tryd.prog 89 #[.pointer (some ⟨B, 0, none⟩)] w fun e w' => e = .returned (.string (nameS c)) ∧ Mid W R B v pre (nameC c) x v1 l1 w' := by
  refine (name_at B c ok w h.rd.cur).mono ?_
  rintro e w' ⟨rfl, hc, hg⟩
  exact ⟨rfl, h.cur hc hg (fun hg => (nameB_next (nameC_good hg).1).1)⟩
theorem number_mid {W : World} {R B : Nat} {v : Value} {pre : List Tm} {c : Cur} {x : List Tm} {v1 : Value} {l1 : List Tm} {w : World} (h : Mid W R B v pre c x v1 l1 w) (m : Int) (ok : Ok c) :
    Calls Tryd.prog 88 #[.pointer (some ⟨B, 0, none⟩), .int .i64 m] w fun e w' => e = .returned (.int .i64 (numN c m)) ∧ Mid W R B v pre (numC c m) x v1 l1 w' := by
  refine (number_at B c m ok w h.rd.cur).mono ?_
  rintro e w' ⟨rfl, hc, hg⟩
  exact ⟨rfl, h.cur hc hg (fun hg => (numE_next (numC_good hg).1).1)⟩
theorem peek_mid {W : World} {R B : Nat} {v : Value} {pre : List Tm} {c : Cur} {x : List Tm} {v1 : Value} {l1 : List Tm} {w : World} (h : Mid W R B v pre c x v1 l1 w) :
    Calls Tryd.prog 15 #[.pointer (some ⟨B, 0, none⟩)] w fun e w' => e = .returned (.agg #[.int .i64 (next c).k, .string (next c).t, .int .i64 (next c).l, .int .i64 (next c).c]) ∧ Mid W R B v pre c x v1 l1 w' := by
  refine (next_at B c w h.rd.cur).mono ?_
  rintro e w' ⟨rfl, hb⟩
  exact ⟨rfl, h.below hb⟩
theorem nameS_small (c : Cur) (ok : Ok c) : (nameS c).size ≤ 9223372036854775807 := by
  unfold nameS
  split
  · exact ok.next
  · decide

end Go.Proofs.YtffdfajlfgeicaaDoor
