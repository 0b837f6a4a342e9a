/- The plain example of the layer of tokens (awake) answers true, and what was in memory stays. Conditions: what Tokens answers (ToksSay); the table of marks of two bytes holds what it was laid with. -/
import Derived.Test.YthmhlhegmnpagaaDoorScanRefSame
import Derived.Test.YthmhlhegmnpagaaDoorScanToks
namespace Go.Proofs.YthmhlhegmnpagaaDoor
open Go.RowKit ScanSpec

/-- What the program's Tokens is to answer. -/
def ToksSay : Prop := ∀ (s : ByteArray) (w : World), PairsIn w → s.size ≤ 9223372036854775800 → Calls Tryd.prog 6 #[.string s] w (TokPost w s)

def exA : ByteArray := ⟨#[110, 60, 61, 49, 45, 62, 98, 32, 35, 32, 99, 10]⟩
def exAT : List Tok := [⟨1, 0, 1⟩, ⟨3, 1, 2⟩, ⟨2, 3, 1⟩, ⟨3, 4, 2⟩, ⟨1, 6, 1⟩, ⟨0, 12, 0⟩]
def exB : ByteArray := ⟨#[97, 10, 32, 49, 120]⟩
theorem ex_a : scanT exA.data.toList = (exAT, 0, 0) := by rfl
theorem ex_b : scanT exB.data.toList = ([], 3, 2) := by rfl
theorem ex_b_pos : pos exB.data.toList 3 = (2, 2) := by rfl
theorem ex_t1 : tokV exA ⟨3, 1, 2⟩ = [.int .i64 3, .string ⟨#[60, 61]⟩, .int .i64 1, .int .i64 2] := by rfl
theorem ex_t5 : (pos exA.data.toList 12) = (2, 1) := by rfl
theorem ex_toks (H : ToksSay) (w : World) (hp : PairsIn w) : Calls Tryd.prog 6 #[.string ⟨#[110, 60, 61, 49, 45, 62, 98, 32, 35, 32, 99, 10]⟩] w fun e w' =>
    ∃ b off c, e = .returned (.tuple #[.slice (some ⟨b, off, none⟩) 6 c, .agg #[.int .i64 0, .int .i64 0], .int .i64 0]) ∧ b < w'.heap.size ∧ w'.cell? ⟨b, off + 4, none⟩ = some (.int .i64 3) ∧ w'.cell? ⟨b, off + 5, none⟩ = some (.string ⟨#[60, 61]⟩) ∧
      w'.cell? ⟨b, off + 6, none⟩ = some (.int .i64 1) ∧ w'.cell? ⟨b, off + 7, none⟩ = some (.int .i64 2) ∧ w'.cell? ⟨b, off + 22, none⟩ = some (.int .i64 2) ∧ w'.cell? ⟨b, off + 23, none⟩ = some (.int .i64 1) ∧ Below w.heap.size w w' := by
  refine (H exA w hp (by decide)).mono fun e w' ⟨hb, _, hok⟩ => ?_
  rw [ex_a] at hok
  obtain ⟨v, he, A, c, hv, _, _, hA⟩ := hok rfl
  obtain ⟨b, off, hAv, hlt, hcell⟩ := hA (by decide)
  subst hv; subst hAv
  have e5 := ex_t5
  exact ⟨b, off, c, he, hlt, hcell 4 _ rfl, hcell 5 _ rfl, hcell 6 _ rfl, hcell 7 _ rfl, hcell 22 _ rfl, hcell 23 _ rfl, hb⟩
theorem ex_bad (H : ToksSay) (w : World) (hp : PairsIn w) : Calls Tryd.prog 6 #[.string ⟨#[97, 10, 32, 49, 120]⟩] w fun e w' =>
    e = .returned (.tuple #[.slice none 0 0, .agg #[.int .i64 2, .int .i64 2], .int .i64 2]) ∧ Below w.heap.size w w' := by
  refine (H exB w hp (by decide)).mono fun e w' ⟨hb, hbad, _⟩ => ?_
  rw [ex_b] at hbad
  have := hbad (by decide)
  rw [ex_b_pos] at this
  exact ⟨this, hb⟩

set_option maxHeartbeats 1000000 in
theorem awake_any (H : ToksSay) (w : World) (hp : PairsIn w) : Calls Tryd.prog 5 #[] w fun e w' => e = .returned (.bool true) ∧ Below w.heap.size w w' := by
  have HH := Lib.hid (And.intro (ex_toks H) (ex_bad H))
  have HPw := Lib.hid hp
  clear H hp
  go_enter Tryd.func5, Tryd.ntmps5
  go_wp2_with (go_at_call 6; (with_reducible refine (HH.out.1 _ HPw.out).mono ?_))
  rintro e w1 ⟨b, off, c, rfl, hlt, c4, c5, c6, c7, c22, c23, hb1⟩
  go_wp2_with (go_at_call 6; (with_reducible refine (HH.out.2 _ ((HPw.out.keep hb1).alloc _)).mono ?_))
  rintro e w2 ⟨rfl, hb2⟩
  have hk : ∀ o, w2.cell? ⟨b, o, none⟩ = w1.cell? ⟨b, o, none⟩ := fun o => (hb2.cell (p := ⟨b, o, none⟩) (by simp; omega)).trans (World.cell?_alloc_lt w1 _ ⟨b, o, none⟩ hlt)
  have d4 := (hk (off + 4)).trans c4
  have d5 := (hk (off + 5)).trans c5
  have d6 := (hk (off + 6)).trans c6
  have d7 := (hk (off + 7)).trans c7
  have d22 := (hk (off + 22)).trans c22
  have d23 := (hk (off + 23)).trans c23
  have hlt2 : b < w2.heap.size := by have := hb2.size; simp at this; omega
  have HB := Lib.hid (below_two' hb1 (((Below.refl _ _).alloc (Nat.le_refl _) _).trans (hb2.mono (by simp))))
  clear c4 c5 c6 c7 c22 c23 hk hb1 hb2 hlt
  go_wp2_with fail
  go_ret
  exact ⟨rfl, (HB.out).alloc HB.out.size _⟩
end Go.Proofs.YthmhlhegmnpagaaDoor
