/- EvalOpen, joined. -/
import Derived.Test.YtbkgkdfameojfaaMTermOpen
import Derived.Test.YtbkgkdfameojfaaMEvalMem
namespace Go.Proofs.Ytbkgkdfameojfaa
open Go.RowKit Go.ChangeShapes Go.WideShapes Go.Deep TermSpec EvalSpec
set_option maxRecDepth 100000

theorem open_rows_c {α : Type} {f : α → List Value} {Good : α → Prop} {k : Nat} {H : Type} {enc : TypeId × Value → H} {P : Program} {W : World} {base : Nat} {spare : Nat → Bool} {held : Bool} {fuel : Nat} {t e : TypeId} {v : Value} {x : DataW H × List MemPlace}
    (hf : ∀ a, (f a).length = k) (hk0 : 0 < k) (hk : P.cellsOf e = k) (hu : P.underlying t = some (.slice e))
    (hdec : ∀ n cs x, DataW.trod enc P W base spare held n e cs = some x → ∃ a, cs = f a ∧ Good a)
    (h : DataW.trod enc P W base spare held fuel t [v] = some x) :
    ∃ (A : Option Addr) (n cp : Nat) (l : List α), v = .slice A n cp ∧ n = l.length ∧ Rdk k W (.slice A n cp) n (l.flatMap f) ∧ (∀ a ∈ l, Good a) ∧ n ≤ 9223372036854775807 := by
  rcases open_slice hu h with ⟨hcs, _⟩ | ⟨a, len, cap, m, n, D, Pl, hcs, hb, hl, hm, hmm, _, hi⟩
  · cases hcs
    exact ⟨none, 0, 0, [], rfl, rfl, Rdk.nil k W, by simp, by omega⟩
  · cases hcs
    rw [hk] at hi
    have hlm : len ≤ m := by rw [hmm]; split <;> omega
    obtain ⟨l, hll, hR⟩ := list_of (R := fun i (x : α) => (∀ j, j < k → W.cell? ((a.add (i * k)).add j) = (f x)[j]?) ∧ Good x) len (fun i hlt => by
      obtain ⟨cs', hc, ht⟩ := hi i (by omega)
      obtain ⟨x, rfl, hg⟩ := hdec _ _ _ ht
      obtain ⟨_, _, hat⟩ := World.cells?_some hc
      exact ⟨x, hat, hg⟩)
    refine ⟨some a, len, cap, l, rfl, hll.symm, ⟨some a, cap, rfl, hl, by rw [flat_length hf, hll], fun h0 => ?_⟩, fun x hx => ?_, by unfold maxLen at hm; omega⟩
    · obtain ⟨x, hx0⟩ : ∃ x, l[0]? = some x := get_some (by omega)
      obtain ⟨u, hu0⟩ : ∃ u, (f x)[0]? = some u := get_some (by rw [hf]; exact hk0)
      obtain ⟨b, off, spot⟩ := a
      have h00 := (hR 0 x hx0).1 0 hk0
      rw [hu0] at h00
      have hspot : spot = none := by simpa [Addr.add] using World.cell?_spot h00
      subst hspot
      rw [addr_add, addr_add] at h00
      refine ⟨b, off, rfl, cell_there' h00, fun q u hq => ?_⟩
      obtain ⟨y, hy, hu⟩ := flat_at hf hk0 hq
      have := (hR _ y hy).1 (q % k) (Nat.mod_lt q hk0)
      rw [addr_add, addr_add, Nat.add_assoc, Nat.mul_comm (q / k) k, Nat.div_add_mod, hu] at this
      exact this
    · obtain ⟨i, hi⟩ := List.mem_iff_getElem?.1 hx
      exact (hR i x hi).2
theorem open_strs_c {H : Type} {enc : TypeId × Value → H} {P : Program} {W : World} {base : Nat} {spare : Nat → Bool} {held : Bool} {fuel : Nat} {t e : TypeId} {v : Value} {x : DataW H × List MemPlace}
    (hu : P.underlying t = some (.slice e)) (he : P.underlying e = some .string) (hone : P.cellsOf e = 1) (h : DataW.trod enc P W base spare held fuel t [v] = some x) :
    ∃ (A : Option Addr) (n c : Nat) (l : List ByteArray), v = .slice A n c ∧ Rd W (.slice A n c) (strV l) ∧ l.length ≤ 9223372036854775807 := by
  rcases open_strings hu he hone h with ⟨hcs, hx⟩ | ⟨a, len, cap, ss, hcs, _, hl, hm, hz, hx, hcell, hws⟩
  · cases hcs
    exact ⟨none, 0, 0, [], rfl, Rd.nil _, by simp⟩
  · cases hcs
    have hlen : len ≤ ss.length := by rw [hz]; split <;> omega
    have htl : (ss.take len).length = len := by rw [List.length_take]; omega
    refine ⟨some a, len, cap, ss.take len, rfl, ⟨_, len, cap, rfl, by rw [strV_length, htl], hl, fun h0 => ?_⟩, by rw [htl]; unfold maxLen at hm; omega⟩
    obtain ⟨b, off, spot⟩ := a
    have hspot : spot = none := by simpa [Addr.add] using World.cell?_spot (hcell 0 (by omega))
    subst hspot
    have h00 := hcell 0 (by omega)
    rw [addr_add] at h00
    refine ⟨b, off, rfl, cell_there' h00, fun j u hj => ?_⟩
    have hjl := get_lt hj
    rw [strV_length, htl] at hjl
    have := hcell j (by omega)
    rw [addr_add] at this
    rw [this]
    rw [strV_get, List.getElem?_take_of_lt hjl, List.getElem?_eq_getElem (by omega)] at hj
    rw [List.getD_eq_getElem?_getD, List.getElem?_eq_getElem (by omega)]
    exact hj

theorem cells_var : Try.prog.cellsOf 42 = 4 := by kernel_rfl
theorem cells_env : Try.prog.cellsOf 27 = 6 := by kernel_rfl
theorem cells_vars : Try.prog.cellsOf 23 = 1 := by kernel_rfl
theorem cells_strs : Try.prog.cellsOf 25 = 1 := by kernel_rfl
theorem cells_arr4 : Try.prog.cellsOf 24 = 4 := by kernel_rfl
section
variable {H : Type} {enc : TypeId × Value → H} {W : World} {base : Nat} {spare : Nat → Bool} {held : Bool}
theorem dec_var (n : Nat) (cs : List Value) (x : DataW H × List MemPlace) (h : DataW.trod enc Try.prog W base spare held n 42 cs = some x) : ∃ v : Vr, cs = vrV v ∧ True := by
  obtain ⟨xs, m, _, _, hl, hxl, hg⟩ := DataW.trod_struct Try.underlying42 h
  rw [cells_var] at hl
  have hxl' : xs.length = 4 := hxl
  match cs, hl with
  | [c0, c1, c2, c3], _ =>
    have g0 : DataW.trod enc Try.prog W base spare held m 9 (([c0, c1, c2, c3].drop 0).take (Try.prog.cellsOf 9)) = xs[0]? := hg 0 _ rfl
    have g1 : DataW.trod enc Try.prog W base spare held m 3 (([c0, c1, c2, c3].drop 1).take (Try.prog.cellsOf 3)) = xs[1]? := hg 1 _ rfl
    have g2 : DataW.trod enc Try.prog W base spare held m 3 (([c0, c1, c2, c3].drop 2).take (Try.prog.cellsOf 3)) = xs[2]? := hg 2 _ rfl
    have g3 : DataW.trod enc Try.prog W base spare held m 3 (([c0, c1, c2, c3].drop 3).take (Try.prog.cellsOf 3)) = xs[3]? := hg 3 _ rfl
    rw [OpenD.cells_int] at g1 g2 g3
    rw [OpenD.cells_str] at g0
    obtain ⟨s, rfl, _⟩ := OpenD.dec_str g0 (OpenD.some_at (by omega))
    obtain ⟨a, rfl⟩ := OpenD.dec_int g1 (OpenD.some_at (by omega))
    obtain ⟨b, rfl⟩ := OpenD.dec_int g2 (OpenD.some_at (by omega))
    obtain ⟨c, rfl⟩ := OpenD.dec_int g3 (OpenD.some_at (by omega))
    exact ⟨⟨s, a, b, c⟩, rfl, trivial⟩
theorem dec_arr4 {n : Nat} {c0 c1 c2 c3 : Value} {x : Option (DataW H × List MemPlace)} (h : DataW.trod enc Try.prog W base spare held n 24 [c0, c1, c2, c3] = x) (hx : x.isSome) : ∃ a b c d, c0 = .int .i64 a ∧ c1 = .int .i64 b ∧ c2 = .int .i64 c ∧ c3 = .int .i64 d := by
  obtain ⟨y, rfl⟩ := Option.isSome_iff_exists.1 hx
  obtain ⟨xs, m, _, _, _, hxl, hi⟩ := DataW.trod_array Try.underlying24 h
  have g0 := hi 0 (by omega)
  have g1 := hi 1 (by omega)
  have g2 := hi 2 (by omega)
  have g3 := hi 3 (by omega)
  rw [OpenD.cells_int] at g0 g1 g2 g3
  obtain ⟨a, rfl⟩ := OpenD.dec_int (c := c0) g0 (OpenD.some_at (by omega))
  obtain ⟨b, rfl⟩ := OpenD.dec_int (c := c1) g1 (OpenD.some_at (by omega))
  obtain ⟨c, rfl⟩ := OpenD.dec_int (c := c2) g2 (OpenD.some_at (by omega))
  obtain ⟨d, rfl⟩ := OpenD.dec_int (c := c3) g3 (OpenD.some_at (by omega))
  exact ⟨a, b, c, d, rfl, rfl, rfl, rfl⟩
variable {b0 : Nat} {r : Reach} {v : Value} {d : DataW H} {p : List MemPlace}
theorem open_env (hv : Value.okWide Try.prog W r b0 27 v) (h : DataW.Trod enc Try.prog W base spare held 27 v d p) :
    ∃ (q : EP) (e : Ev), v = envV q e ∧ EnvIn W q e := by
  obtain ⟨cs, rfl, _⟩ := okWide_struct Try.underlying27 hv
  obtain ⟨fuel, hx⟩ := h
  obtain ⟨xs, m, _, _, hl, hxl, hg⟩ := DataW.trod_struct Try.underlying27 hx
  rw [cells_env] at hl
  have hxl' : xs.length = 3 := hxl
  obtain ⟨l⟩ := cs
  match l, hl with
  | [c0, c1, c2, c3, c4, c5], _ =>
    have g0 : DataW.trod enc Try.prog W base spare held m 23 (([c0, c1, c2, c3, c4, c5].drop 0).take (Try.prog.cellsOf 23)) = xs[0]? := hg 0 _ rfl
    have g1 : DataW.trod enc Try.prog W base spare held m 24 (([c0, c1, c2, c3, c4, c5].drop 1).take (Try.prog.cellsOf 24)) = xs[1]? := hg 1 _ rfl
    have g2 : DataW.trod enc Try.prog W base spare held m 25 (([c0, c1, c2, c3, c4, c5].drop 5).take (Try.prog.cellsOf 25)) = xs[2]? := hg 2 _ rfl
    rw [cells_vars] at g0
    rw [cells_arr4] at g1
    rw [cells_strs] at g2
    obtain ⟨y0, e0⟩ := Option.isSome_iff_exists.1 (OpenD.some_at (l := xs) (i := 0) (by omega))
    obtain ⟨y2, e2⟩ := Option.isSome_iff_exists.1 (OpenD.some_at (l := xs) (i := 2) (by omega))
    rw [e0] at g0
    rw [e2] at g2
    obtain ⟨A, n, cp, vs, rfl, hn, hR, _, hb⟩ := open_rows_c (v := c0) (f := vrV) (Good := fun _ => True) vrV_length (by decide) cells_var Try.underlying23 dec_var g0
    obtain ⟨a, b, c, d, rfl, rfl, rfl, rfl⟩ := dec_arr4 (c0 := c1) (c1 := c2) (c2 := c3) (c3 := c4) g1 (OpenD.some_at (by omega))
    obtain ⟨A', n', c', is, rfl, hS, hSb⟩ := open_strs_c (v := c5) Try.underlying25 Try.underlying9 OpenD.cells_str g2
    exact ⟨⟨A, n, cp, A', n', c'⟩, ⟨vs, a, b, c, d, is⟩, rfl, ⟨hn, hR⟩, hS, by simp only; omega, hSb⟩
end
end Go.Proofs.Ytbkgkdfameojfaa
