/- How the program's cursor lies in memory; what Fault and Good answer, of a cursor that New gave and of nobody's. No condition but that. -/
import Derived.Test.YtoegpieomnpifaaCurMem
import Derived.RegionTactic
import Derived.ChangeAlike
namespace Go.Proofs.Ytoegpieomnpifaa
open Go.RowKit CurSpec

theorem Toks.but {w w' : World} {b off n cp B : Nat} {l : List Tk} (h : Toks w (.slice (some ⟨b, off, none⟩) n cp) l) (hb : w.grownBy w' (some B)) (hne : b ≠ B) : Toks w' (.slice (some ⟨b, off, none⟩) n cp) l := by
  obtain ⟨m, hm, A, c, heq, hc, hl, hA⟩ := h
  cases heq
  refine ⟨n, hm, _, cp, rfl, hc, hl, fun h0 => ?_⟩
  obtain ⟨b', off', h1, hlt, hcell⟩ := hA h0
  cases h1
  refine ⟨b, off, rfl, Nat.lt_of_lt_of_le hlt hb.size, fun j u hj => ?_⟩
  rw [← hcell j u hj]
  have := hb.block b hlt (by simp; omega)
  simp [World.cell?, this]

/-- Block B holds a cursor: the tokens from the next one on, the end behind them; the fault's place and the fault. -/
def CurAt (w : World) (B : Nat) (c : Cur) : Prop :=
  ∃ b off n cp, w.heap[B]? = some (.cells #[.slice (some ⟨b, off, none⟩) (n + 1) cp, .int .i64 c.a1, .int .i64 c.a2, .int .i64 c.bad] 56 (0, 0)) ∧ b < B ∧ n = c.L.length ∧
    Toks w (.slice (some ⟨b, off, none⟩) (n + 1) cp) (full c.L c.w1 c.w2)
theorem CurAt.lt {w : World} {B : Nat} {c : Cur} (h : CurAt w B c) : B < w.heap.size := by
  obtain ⟨b, off, n, cp, h, _⟩ := h
  exact (Array.getElem?_eq_some_iff.1 h).1
theorem CurAt.keep {w w' : World} {B : Nat} {c : Cur} (h : CurAt w B c) (hb : Below w.heap.size w w') : CurAt w' B c := by
  obtain ⟨b, off, n, cp, h, hne, hn, hT⟩ := h
  exact ⟨b, off, n, cp, block_on h hb, hne, hn, hT.keep hb⟩
theorem CurAt.but {w w' : World} {B B2 : Nat} {c : Cur} (h : CurAt w B c) (hb : w.grownBy w' (some B2)) (hlt : B < B2) : CurAt w' B c := by
  obtain ⟨b, off, n, cp, h, hne, hn, hT⟩ := h
  exact ⟨b, off, n, cp, (hb.block _ (Array.getElem?_eq_some_iff.1 h).1 (by simp; omega)).trans h, hne, hn, hT.but hb (by omega)⟩
theorem CurAt.drew {w : World} {B : Nat} {c : Cur} (h : CurAt w B c) : CurAt w.drew B c := h
theorem CurAt.alloc {w : World} {B : Nat} {c : Cur} (h : CurAt w B c) (o : Obj) : CurAt (w.alloc o) B c := h.keep ((Below.refl _ _).alloc (Nat.le_refl _) _)

/-- What a cursor's fault is: of nobody's it is ErrState at 0, 0. -/
def Fl (w : World) (p : Value) (a1 a2 e : Int) : Prop :=
  (p = .pointer none ∧ a1 = 0 ∧ a2 = 0 ∧ e = 10) ∨
  (∃ B, p = .pointer (some ⟨B, 0, none⟩) ∧ w.heap[B]? = some (.cells #[.slice none 0 0, .int .i64 0, .int .i64 0, .int .i64 0] 56 (0, 0)) ∧ a1 = 0 ∧ a2 = 0 ∧ e = 10) ∨
  (∃ B c, p = .pointer (some ⟨B, 0, none⟩) ∧ CurAt w B c ∧ a1 = c.a1 ∧ a2 = c.a2 ∧ e = c.bad)
theorem Fl.keep {w w' : World} {p : Value} {a1 a2 e : Int} (h : Fl w p a1 a2 e) (hb : Below w.heap.size w w') : Fl w' p a1 a2 e := by
  rcases h with h | ⟨B, hp, h, h'⟩ | ⟨B, c, hp, h, h'⟩
  · exact .inl h
  · exact .inr (.inl ⟨B, hp, block_on h hb, h'⟩)
  · exact .inr (.inr ⟨B, c, hp, h.keep hb, h'⟩)
theorem Fl.of {w : World} {B : Nat} {c : Cur} (h : CurAt w B c) : Fl w (.pointer (some ⟨B, 0, none⟩)) c.a1 c.a2 c.bad := .inr (.inr ⟨B, c, rfl, h, rfl, rfl, rfl⟩)

def RetFault (W : World) (a1 a2 er : Int) (e : Ending) (w' : World) : Prop := e = .returned (.tuple #[.agg #[.int .i64 a1, .int .i64 a2], .int .i64 er]) ∧ Below W.heap.size W w'
set_option maxHeartbeats 1000000 in
theorem fault_any (p : Value) (a1 a2 er : Int) (w : World) (h : Fl w p a1 a2 er) : Calls Try.prog 22 #[p] w (RetFault w a1 a2 er) := by
  rcases h with ⟨rfl, rfl, rfl, rfl⟩ | ⟨B, rfl, h, rfl, rfl, rfl⟩ | ⟨B, c, rfl, h, rfl, rfl, rfl⟩
  · go_enter Try.func22, Try.ntmps22
    go_wp2_with fail
    refine bodyPost_ret (v := .tuple #[.agg #[.int .i64 0, .int .i64 0], .int .i64 10]) (by simp [results, Try.results22, go_sem]) rfl ⟨rfl, (Below.refl _ _).alloc (Nat.le_refl _) _⟩
  · obtain ⟨c0, c1, c2, c3⟩ := cells_4 h
    have hlt := (Array.getElem?_eq_some_iff.1 h).1
    clear h
    go_enter Try.func22, Try.ntmps22
    go_wp2_with fail
    refine bodyPost_ret (v := .tuple #[.agg #[.int .i64 0, .int .i64 0], .int .i64 10]) (by simp [results, Try.results22, go_sem]) rfl ⟨rfl, (Below.refl _ _).alloc (Nat.le_refl _) _⟩
  · have hlt := h.lt
    obtain ⟨b, off, n, cp, h, _, _, _⟩ := h
    obtain ⟨c0, c1, c2, c3⟩ := cells_4 h
    have hnI : 0 ≤ (n : Int) := by omega
    clear h
    go_enter Try.func22, Try.ntmps22
    go_wp2_with fail
    go_region
    all_goals
      go_wp2_with fail
      refine bodyPost_ret (v := .tuple #[.agg #[.int .i64 c.a1, .int .i64 c.a2], .int .i64 c.bad]) (by simp [results, Try.results22, go_sem]) rfl ⟨rfl, ((Below.refl _ _).alloc (Nat.le_refl _) _).drew⟩
theorem good_any (p : Value) (a1 a2 er : Int) (w : World) (h : Fl w p a1 a2 er) {b : Bool} (hb : (er == 0) = b) : Calls Try.prog 9 #[p] w (RetBool w b) := by
  have HF := Lib.hid (fun W hW => fault_any p a1 a2 er W (h.keep hW))
  have HV := Lib.hid hb
  clear h hb
  go_enter Try.func9, Try.ntmps9
  go_wp2_with (go_at_call 22; (with_reducible refine (HF.out _ (Below.refl _ _)).mono ?_))
  rintro e x2 ⟨rfl, hb2⟩
  have HB := Lib.hid hb2
  clear hb2
  go_wp2_with fail
  go_ret
  exact ⟨ret_bool HV.out, HB.out.alloc HB.out.size _⟩
end Go.Proofs.Ytoegpieomnpifaa
