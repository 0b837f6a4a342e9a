/- ExprRefLev, joined. -/
import Derived.Test.YtffdfajlfgeicaaDoorMExprRef
import Derived.Test.YtffdfajlfgeicaaDoorMExprLast
import Derived.Test.YtffdfajlfgeicaaDoorMCurA
namespace Go.Proofs.YtffdfajlfgeicaaDoor
open Go.RowKit CurSpec TermSpec ExprSpec NamesSpec
set_option maxRecDepth 100000

/-- A cursor and terms: the cursor's tokens in the memory of an earlier world, the terms in a new block. -/
def RetLev (W0 W : World) (c : Cur) (p : Pa) (e : Ending) (w' : World) : Prop :=
  ∃ A n cp A2 n2 c2 x, e = .returned (.tuple #[.agg #[.slice A n cp, .int .i64 p.1.w1, .int .i64 p.1.w2, .int .i64 p.1.a1, .int .i64 p.1.a2, .int .i64 p.1.bad], .slice A2 n2 c2]) ∧ Toks W0 (.slice A n cp) p.1.L ∧
    Tms w' (.slice A2 n2 c2) x ∧ (∀ b, (Value.slice A2 n2 c2).ownBlock = some b → W.heap.size ≤ b) ∧ (p.1.bad = 0 → x = p.2) ∧ x.length + 2 * p.1.L.length ≤ 2 * c.L.length + 1 ∧ Below W.heap.size W w'
theorem but_six (b : World) (k : Nat) (u0 u1 u2 u3 u4 u5 : Value) :
    b.grownBy ((((((b.setCell ⟨k, 0, none⟩ u0).setCell ⟨k, 1, none⟩ u1).setCell ⟨k, 2, none⟩ u2).setCell ⟨k, 3, none⟩ u3).setCell ⟨k, 4, none⟩ u4).setCell ⟨k, 5, none⟩ u5) (some k) :=
  but_set (but_set (but_set (but_set (but_set (but_set (but_refl _ _) _ _) _ _) _ _) _ _) _ _) _ _
theorem tms_but {w w' : World} {A : Option Addr} {n cp B : Nat} {l : List Tm} (h : Tms w (.slice A n cp) l) (hb : w.grownBy w' (some B)) (hne : (Value.slice A n cp).ownBlock ≠ some B) : Tms w' (.slice A n cp) l := by
  obtain ⟨m, hm, A', c', heq, hc, hl, hA⟩ := h
  cases heq
  refine ⟨n, hm, A, cp, rfl, hc, hl, fun h0 => ?_⟩
  obtain ⟨b, off, rfl, hlt, hcell⟩ := hA h0
  refine ⟨b, off, rfl, Nat.lt_of_lt_of_le hlt hb.size, fun j u hj => ?_⟩
  rw [← hcell j u hj]
  have := hb.block b hlt (fun e => hne (by rw [← e]; rfl))
  simp [World.cell?, this]
/-- At the end: the result's six cells have been written. -/
theorem ret_lev {W0 W Y : World} {c d : Cur} {p : Pa} {A : Option Addr} {n cp : Nat} {A2 : Option Addr} {n2 c2 k : Nat} {x : List Tm} (hk : W.heap.size ≤ k) (hT : Toks W0 (.slice A n cp) d.L) (hM : Tms Y (.slice A2 n2 c2) x)
    (ho : ∀ b, (Value.slice A2 n2 c2).ownBlock = some b → k < b) (hp : p.1 = d) (hx : d.bad = 0 → x = p.2) (hl : x.length + 2 * d.L.length ≤ 2 * c.L.length + 1) (hB : Below W.heap.size W Y) :
    RetLev W0 W c p (.returned (.tuple #[.agg #[.slice A n cp, .int .i64 d.w1, .int .i64 d.w2, .int .i64 d.a1, .int .i64 d.a2, .int .i64 d.bad], .slice A2 n2 c2]))
      ((((((Y.setCell ⟨k, 0, none⟩ (.slice A n cp)).setCell ⟨k, 1, none⟩ (.int .i64 d.w1)).setCell ⟨k, 2, none⟩ (.int .i64 d.w2)).setCell ⟨k, 3, none⟩ (.int .i64 d.a1)).setCell ⟨k, 4, none⟩ (.int .i64 d.a2)).setCell ⟨k, 5, none⟩ (.int .i64 d.bad)) := by
  subst hp
  exact ⟨A, n, cp, A2, n2, c2, x, rfl, hT, tms_but hM (but_six _ _ _ _ _ _ _ _) (fun e => by have := ho _ e; omega), fun b hb => by have := ho b hb; omega, hx, hl, below_six hB hk _ _ _ _ _ _⟩
theorem tmsNil (w : World) : Tms w (.slice none 0 0) [] := ⟨0, rfl, Rdk.nil 3 w⟩
theorem tms_one {w : World} {t : Tm} {k : Nat} (hk : k = w.heap.size) : Tms (w.alloc (tmO t)) (.slice (some ⟨k, 0, none⟩) 1 1) [t] := tms_lit hk rfl rfl

set_option maxHeartbeats 2000000 in
theorem mark_say (c : Cur) (s : ByteArray) (A : Option Addr) (n cp : Nat) (W0 w : World) (h : Toks W0 (.slice A n cp) c.L) (hw : Below W0.heap.size W0 w) :
    Calls Tryd.prog 75 #[.agg #[.slice A n cp, .int .i64 c.w1, .int .i64 c.w2, .int .i64 c.a1, .int .i64 c.a2, .int .i64 c.bad], .string s] w (RetCur W0 w (want c 3 s)) := by
  have HW := Lib.hid (fun W hw => want_say c 3 s A n cp W0 W h hw)
  have HB := Lib.hid hw
  clear h hw
  obtain ⟨d, hd⟩ : ∃ d, d = want c 3 s := ⟨_, rfl⟩
  rw [← hd] at HW ⊢
  clear hd
  go_enter Tryd.func75, Tryd.ntmps75
  go_wp2_with (go_at_call 23; (with_reducible refine (HW.out _ ((HB.out.alloc HB.out.size _).alloc (Nat.le_trans HB.out.size (by simp)) _)).mono ?_))
  rintro e x2 ⟨A', n', cp', rfl, hT, hb2⟩
  obtain ⟨k1, k2, hB, hz⟩ := pair_blocks hb2
  have HT := Lib.hid hT
  have HB2 := Lib.hid hB
  have HK := Lib.hid (blk_of k2 (n := 6) rfl)
  obtain ⟨d0, d1, d2, d3, d4, d5⟩ := cells_6 k2
  obtain ⟨g0, g1, g2, g3, g4, g5⟩ := free_6 k2
  clear hb2 k1 k2 hB hT
  go_wp2_with fail
  obtain ⟨q0, q1, q2, q3, q4, q5⟩ := store_six HK.out (.slice A' n' cp') (.int .i64 d.w1) (.int .i64 d.w2) (.int .i64 d.a1) (.int .i64 d.a2) (.int .i64 d.bad)
  refine bodyPost_ret (v := .agg #[.slice A' n' cp', .int .i64 d.w1, .int .i64 d.w2, .int .i64 d.a1, .int .i64 d.a2, .int .i64 d.bad]) (by simp [results, Tryd.results75, go_sem, q0, q1, q2, q3, q4, q5]) rfl ?_
  exact ⟨A', n', cp', rfl, HT.out, below_six HB2.out (by omega) _ _ _ _ _ _⟩

abbrev rcO (A : Option Addr) (n cp : Nat) (c : Cur) : Obj := .cells #[.slice A n cp, .int .i64 c.w1, .int .i64 c.w2, .int .i64 c.a1, .int .i64 c.a2, .int .i64 c.bad] 38
abbrev rcZ : Obj := .cells #[.slice none 0 0, .int .i64 0, .int .i64 0, .int .i64 0, .int .i64 0, .int .i64 0] 38
/-- What Level1 answers at a level, of each cursor that so many rounds are enough for. -/
def LevAt (g : Nat) (k : Int) : Prop := ∀ (d : Cur) (A : Option Addr) (n cp : Nat) (W0 W : World), Toks W0 (.slice A n cp) d.L → Below W0.heap.size W0 W → Ok d → Fit g d → d.L.length ≤ 100000 →
  Calls Tryd.prog 28 #[.agg #[.slice A n cp, .int .i64 d.w1, .int .i64 d.w2, .int .i64 d.a1, .int .i64 d.a2, .int .i64 d.bad], .int .i64 k] W (RetLev W0 W d (S g d k))
def LevOk (g : Nat) : Prop := ∀ k, 1 ≤ k → k ≤ 7 → LevAt g k

set_option maxHeartbeats 2000000 in
theorem lev_dead (c : Cur) (h0 : c.bad ≠ 0) (k : Int) (A : Option Addr) (n cp : Nat) (W0 w : World) (h : Toks W0 (.slice A n cp) c.L) :
    Calls Tryd.prog 28 #[.agg #[.slice A n cp, .int .i64 c.w1, .int .i64 c.w2, .int .i64 c.a1, .int .i64 c.a2, .int .i64 c.bad], .int .i64 k] w (RetLev W0 w c (c, [])) := by
  have e0 : (c.bad != 0) = true := by simpa using h0
  have HT := Lib.hid h
  clear h h0
  go_enter Tryd.func28, Tryd.ntmps28
  go_wp2_with fail
  refine bodyPost_ret (v := .tuple #[.agg #[.slice A n cp, .int .i64 c.w1, .int .i64 c.w2, .int .i64 c.a1, .int .i64 c.a2, .int .i64 c.bad], .slice none 0 0]) (by simp [results, Tryd.results28, go_sem]) rfl ?_
  exact ⟨A, n, cp, none, 0, 0, [], rfl, HT.out, tmsNil _, by simp [Value.ownBlock], fun _ => rfl, by simp, below_pair _ _ _⟩
end Go.Proofs.YtffdfajlfgeicaaDoor
