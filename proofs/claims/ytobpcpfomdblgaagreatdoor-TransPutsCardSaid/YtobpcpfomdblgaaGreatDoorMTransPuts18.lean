/- TransLight, OpenN, OpenD, TermOpen, EvalOpen, ActMem, ActVar, ActOpen, TransOpen, TransPutsLaw, Laid, ScanLaid, ExprLaid, joined. -/
import Derived.Test.YtobpcpfomdblgaaGreatDoorMTransPuts11
import Derived.Test.YtobpcpfomdblgaaGreatDoorMTransPuts17
import Derived.Test.YtobpcpfomdblgaaGreatDoorMTransPuts01
import Derived.ProofKit
import Derived.OpenShut
import Derived.Deep.Slices
import Derived.Test.YtobpcpfomdblgaaGreatDoorRows
import Derived.Lib.SmallJoins
import Derived.Test.YtobpcpfomdblgaaGreatDoorMTransPuts02
import Derived.Test.YtobpcpfomdblgaaGreatDoorMTransPuts00
import Derived.BigQuiet
import Derived.Lib.QuietBelow
import Derived.Test.YtobpcpfomdblgaaGreatDoorMTransPuts15
import Derived.Test.YtobpcpfomdblgaaGreatDoorMTransPuts16
import Derived.Test.YtobpcpfomdblgaaGreatDoorMTransPuts09
import Derived.Test.YtobpcpfomdblgaaGreatDoorMTransPuts07
import Derived.LaidLaws
import Derived.ChangeArms
import Derived.Lib.LaidTab
import Derived.Test.YtobpcpfomdblgaaGreatDoorMTransPuts08
import Derived.LaidMore
import Derived.Stop.Joined
import Derived.Test.YtobpcpfomdblgaaGreatDoorMTransPuts04
import Derived.Stop.LaidErr
namespace Go.Proofs.YtobpcpfomdblgaaGreatDoor
open Go.RowKit TermSpec EvalSpec ActSpec NamesSpec ExprSpec TransSpec
set_option maxRecDepth 100000

def lightT (t : Tr) : Bool := decide (t.ev.size ≤ 100) && (decide (t.tg.size ≤ 100) && (lightE noE t.g && lightA t.acts))
theorem lightT_parts {t : Tr} (h : lightT t = true) : t.ev.size ≤ 100 ∧ t.tg.size ≤ 100 ∧ t.g.length ≤ 60 ∧ lightA t.acts = true := by
  unfold lightT at h
  simp only [Bool.and_eq_true, decide_eq_true_eq] at h
  exact ⟨h.1, h.2.1, (light_parts h.2.2.1).1, h.2.2.2⟩
set_option maxHeartbeats 4000000 in
theorem lightT_any (t : Tr) (gA : Option Addr) (gn gc : Nat) (aA : Option Addr) (an ac : Nat) (w : World) (hsa : ∀ a ∈ t.acts, a.s.size ≤ 9223372036854775807) (hev : t.ev.size ≤ 9223372036854775807) (htg : t.tg.size ≤ 9223372036854775807) (h : TrIn w gA gn gc aA an ac t) :
    Calls Tryz.prog 4 #[.agg #[.string t.ev, .slice gA gn gc, .slice aA an ac, .string t.tg]] w (RetB w (lightT t)) := by
  have hgn := h.len.1
  have H3 : Hid (∀ W, Below w.heap.size w W → Calls Tryz.prog 17 #[.slice gA gn gc, .agg #[.slice none 0 0, .int .i64 0, .int .i64 0, .int .i64 0, .int .i64 0, .slice none 0 0]] W (RetB W (lightE noE t.g))) := Lib.hid (fun W hW => elight_any noP noE gA gn gc t.g hgn W (h.g.keep hW) (no_env W))
  have H4 := Lib.hid (fun W (hW : Below w.heap.size w W) => lightA_any aA an ac t.acts hsa W (h.a.keep hW))
  have HE : Hid (lightT t = (decide (t.ev.size ≤ 100) && (decide (t.tg.size ≤ 100) && (lightE noE t.g && lightA t.acts)))) := Lib.hid rfl
  obtain ⟨r, hr⟩ : ∃ r, r = lightT t := ⟨_, rfl⟩
  rw [← hr] at HE ⊢
  obtain ⟨b3, hb3⟩ : ∃ r, r = lightE noE t.g := ⟨_, rfl⟩
  obtain ⟨b4, hb4⟩ : ∃ r, r = lightA t.acts := ⟨_, rfl⟩
  rw [← hb3] at HE H3
  rw [← hb4] at HE H4
  obtain ⟨ev, g, acts, tg⟩ := t
  simp only at H3 H4 HE hev htg ⊢
  clear h hr hb3 hb4 hgn hsa
  by_cases h1 : ev.size ≤ 100
  · have g1 : decide ((ev.size : Int) ≤ 100) = true := by simp; omega
    have g1' : decide (ev.size ≤ 100) = true := by simp; omega
    rw [g1'] at HE
    by_cases h2 : tg.size ≤ 100
    · have g2 : decide ((tg.size : Int) ≤ 100) = true := by simp; omega
      have g2' : decide (tg.size ≤ 100) = true := by simp; omega
      rw [g2'] at HE
      rcases b3 with _ | _
      · have HR : Hid (r = false) := Lib.hid (by rw [HE.out]; rfl)
        clear HE h1 h2
        go_enter Tryz.func4, Tryz.ntmps4
        go_wp2_with (go_at_call 17; (with_reducible refine (H3.out _ (KitC.below_one _ _)).mono ?_))
        rintro e w2 ⟨rfl, hb⟩
        have HB := Lib.hid (below_two' (KitC.below_one _ _) hb)
        clear hb
        go_wp2_with fail
        go_ret
        exact ⟨ret_bool HR.out.symm, HB.out⟩
      · have HR : Hid (r = b4) := Lib.hid (by rw [HE.out]; simp)
        clear HE h1 h2
        go_enter Tryz.func4, Tryz.ntmps4
        go_wp2_with (go_at_call 17; (with_reducible refine (H3.out _ (KitC.below_one _ _)).mono ?_))
        rintro e w2 ⟨rfl, hb⟩
        have HB := Lib.hid (And.intro (KitC.one_block hb).1 (KitC.one_block hb).2.1)
        obtain ⟨c0, c1, c2, c3⟩ := cells_4 HB.out.1
        clear hb
        go_wp2_with (go_at_call 18; (with_reducible refine (H4.out _ HB.out.2).mono ?_))
        rintro e w3 ⟨rfl, hb⟩
        have HB3 := Lib.hid (below_two' HB.out.2 hb)
        clear hb
        go_wp2_with fail
        go_ret
        exact ⟨ret_bool HR.out.symm, HB3.out⟩
    · have g2 : decide ((tg.size : Int) ≤ 100) = false := by simp; omega
      have HR : Hid (r = false) := Lib.hid (by rw [HE.out, show decide (tg.size ≤ 100) = false by simp; omega]; rfl)
      clear HE
      go_enter Tryz.func4, Tryz.ntmps4
      go_wp2_with fail
      go_ret
      exact ⟨ret_bool HR.out.symm, KitC.below_one _ _⟩
  · have g1 : decide ((ev.size : Int) ≤ 100) = false := by simp; omega
    have HR : Hid (r = false) := Lib.hid (by rw [HE.out, show decide (ev.size ≤ 100) = false by simp; omega]; rfl)
    clear HE
    go_enter Tryz.func4, Tryz.ntmps4
    go_wp2_with fail
    go_ret
    exact ⟨ret_bool HR.out.symm, KitC.below_one _ _⟩
end Go.Proofs.YtobpcpfomdblgaaGreatDoor

namespace Go.Proofs.YtobpcpfomdblgaaGreatDoor
open Go.RowKit Go.ChangeShapes Go.WideShapes Go.Deep

theorem cell_there' {w : World} {b o : Nat} {u : Value} (h : w.cell? ⟨b, o, none⟩ = some u) : b < w.heap.size := by
  rcases Nat.lt_or_ge b w.heap.size with hlt | hge
  · exact hlt
  · simp [World.cell?, Array.getElem?_eq_none hge] at h
theorem list_of {α : Type} {R : Nat → α → Prop} : ∀ n, (∀ i, i < n → ∃ a, R i a) → ∃ l : List α, l.length = n ∧ ∀ i a, l[i]? = some a → R i a
  | 0, _ => ⟨[], rfl, fun i a h => by simp at h⟩
  | n + 1, h => by
    obtain ⟨l, hl, hR⟩ := list_of n (fun i hi => h i (by omega))
    obtain ⟨a, ha⟩ := h n (by omega)
    refine ⟨l ++ [a], by simp [hl], fun i b hb => ?_⟩
    rcases Nat.lt_or_ge i l.length with hlt | hge
    · rw [List.getElem?_append_left hlt] at hb
      exact hR i b hb
    · rw [List.getElem?_append_right hge] at hb
      obtain hi : i - l.length = 0 := by
        have := (List.getElem?_eq_some_iff.1 hb).1
        simp at this
        omega
      rw [hi] at hb
      simp at hb
      subst hb
      obtain rfl : i = n := by omega
      exact ha
theorem flat_at {α : Type} {k : Nat} {f : α → List Value} (hf : ∀ a, (f a).length = k) (hk : 0 < k) {l : List α} {q : Nat} {u : Value} (h : (l.flatMap f)[q]? = some u) : ∃ a, l[q / k]? = some a ∧ (f a)[q % k]? = some u := by
  have hq : q < l.length * k := by have := (List.getElem?_eq_some_iff.1 h).1; rwa [flat_length hf] at this
  have hi : q / k < l.length := Nat.div_lt_of_lt_mul (by rwa [Nat.mul_comm] at hq)
  refine ⟨l[q / k], List.getElem?_eq_getElem hi, ?_⟩
  rw [← flat_get hf (List.getElem?_eq_getElem hi) (Nat.mod_lt q hk), Nat.mul_comm (q / k) k, Nat.div_add_mod]
  exact h

end Go.Proofs.YtobpcpfomdblgaaGreatDoor

namespace Go.Proofs.YtobpcpfomdblgaaGreatDoor
namespace OpenD
open Go.RowKit Go.ChangeShapes Go.WideShapes Go.Deep
set_option maxRecDepth 100000

theorem cells_int : Tryz.prog.cellsOf 3 = 1 := by kernel_rfl
theorem cells_str : Tryz.prog.cellsOf 9 = 1 := by kernel_rfl
section
variable {H : Type} {enc : TypeId × Value → H} {W : World} {base : Nat} {spare : Nat → Bool} {held : Bool}
theorem dec_int {n : Nat} {c : Value} {x : Option (DataW H × List MemPlace)} (h : DataW.trod enc Tryz.prog W base spare held n 3 [c] = x) (hx : x.isSome) : ∃ k, c = .int .i64 k := by
  obtain ⟨y, rfl⟩ := Option.isSome_iff_exists.1 hx
  obtain ⟨k, hc, _⟩ := DataW.trod_int Tryz.underlying3 h
  simp at hc
  exact ⟨k, hc⟩
theorem dec_str {n : Nat} {c : Value} {x : Option (DataW H × List MemPlace)} (h : DataW.trod enc Tryz.prog W base spare held n 9 [c] = x) (hx : x.isSome) : ∃ s : ByteArray, c = .string s ∧ s.size ≤ 9223372036854775807 := by
  obtain ⟨y, rfl⟩ := Option.isSome_iff_exists.1 hx
  obtain ⟨s, hc, _, hs⟩ := DataW.trod_string Tryz.underlying9 h
  simp at hc
  exact ⟨s, hc, hs⟩
theorem some_at {α : Type} {l : List α} {i : Nat} (h : i < l.length) : (l[i]?).isSome := by rw [List.getElem?_eq_getElem h]; rfl
end
end OpenD
end Go.Proofs.YtobpcpfomdblgaaGreatDoor

namespace Go.Proofs.YtobpcpfomdblgaaGreatDoor
open Go.RowKit Go.ChangeShapes Go.WideShapes Go.Deep TermSpec OpenD
set_option maxRecDepth 100000

theorem cells_term : Tryz.prog.cellsOf 53 = 3 := by kernel_rfl
section
variable {H : Type} {enc : TypeId × Value → H} {W : World} {base : Nat} {spare : Nat → Bool} {held : Bool}
theorem dec_term (n : Nat) (cs : List Value) (x : DataW H × List MemPlace) (h : DataW.trod enc Tryz.prog W base spare held n 53 cs = some x) : ∃ t : Tm, cs = tmV t ∧ t.s.size ≤ 9223372036854775807 := by
  obtain ⟨xs, m, _, _, hl, hxl, hg⟩ := DataW.trod_struct Tryz.underlying53 h
  rw [cells_term] at hl
  have hxl' : xs.length = 3 := hxl
  match cs, hl with
  | [c0, c1, c2], _ =>
    have g0 : DataW.trod enc Tryz.prog W base spare held m 3 (([c0, c1, c2].drop 0).take (Tryz.prog.cellsOf 3)) = xs[0]? := hg 0 _ rfl
    have g1 : DataW.trod enc Tryz.prog W base spare held m 3 (([c0, c1, c2].drop 1).take (Tryz.prog.cellsOf 3)) = xs[1]? := hg 1 _ rfl
    have g2 : DataW.trod enc Tryz.prog W base spare held m 9 (([c0, c1, c2].drop 2).take (Tryz.prog.cellsOf 9)) = xs[2]? := hg 2 _ rfl
    rw [OpenD.cells_int] at g0 g1
    rw [OpenD.cells_str] at g2
    obtain ⟨a, rfl⟩ := OpenD.dec_int g0 (OpenD.some_at (by omega))
    obtain ⟨b, rfl⟩ := OpenD.dec_int g1 (OpenD.some_at (by omega))
    obtain ⟨s, rfl, hs⟩ := OpenD.dec_str g2 (OpenD.some_at (by omega))
    exact ⟨⟨a, b, s⟩, rfl, hs⟩
variable {b0 : Nat} {r : Reach} {v : Value} {d : DataW H} {p : List MemPlace}
end
end Go.Proofs.YtobpcpfomdblgaaGreatDoor

namespace Go.Proofs.YtobpcpfomdblgaaGreatDoor
open Go.RowKit Go.ChangeShapes Go.WideShapes Go.Deep TermSpec EvalSpec
set_option maxRecDepth 100000

theorem open_rows_c {α : Type} {f : α → List Value} {Good : α → Prop} {k : Nat} {H : Type} {enc : TypeId × Value → H} {P : Program} {W : World} {base : Nat} {spare : Nat → Bool} {held : Bool} {fuel : Nat} {t e : TypeId} {v : Value} {x : DataW H × List MemPlace}
    (hf : ∀ a, (f a).length = k) (hk0 : 0 < k) (hk : P.cellsOf e = k) (hu : P.underlying t = some (.slice e))
    (hdec : ∀ n cs x, DataW.trod enc P W base spare held n e cs = some x → ∃ a, cs = f a ∧ Good a)
    (h : DataW.trod enc P W base spare held fuel t [v] = some x) :
    ∃ (A : Option Addr) (n cp : Nat) (l : List α), v = .slice A n cp ∧ n = l.length ∧ Rdk k W (.slice A n cp) n (l.flatMap f) ∧ (∀ a ∈ l, Good a) ∧ n ≤ 9223372036854775807 := by
  rcases open_slice hu h with ⟨hcs, _⟩ | ⟨a, len, cap, m, n, D, Pl, hcs, hb, hl, hm, hmm, _, hi⟩
  · cases hcs
    exact ⟨none, 0, 0, [], rfl, rfl, Rdk.nil k W, by simp, by omega⟩
  · cases hcs
    rw [hk] at hi
    have hlm : len ≤ m := by rw [hmm]; split <;> omega
    obtain ⟨l, hll, hR⟩ := list_of (R := fun i (x : α) => (∀ j, j < k → W.cell? ((a.add (i * k)).add j) = (f x)[j]?) ∧ Good x) len (fun i hlt => by
      obtain ⟨cs', hc, ht⟩ := hi i (by omega)
      obtain ⟨x, rfl, hg⟩ := hdec _ _ _ ht
      obtain ⟨_, _, hat⟩ := World.cells?_some hc
      exact ⟨x, hat, hg⟩)
    refine ⟨some a, len, cap, l, rfl, hll.symm, ⟨some a, cap, rfl, hl, by rw [flat_length hf, hll], fun h0 => ?_⟩, fun x hx => ?_, by unfold maxLen at hm; omega⟩
    · obtain ⟨x, hx0⟩ : ∃ x, l[0]? = some x := get_some (by omega)
      obtain ⟨u, hu0⟩ : ∃ u, (f x)[0]? = some u := get_some (by rw [hf]; exact hk0)
      obtain ⟨b, off, spot⟩ := a
      have h00 := (hR 0 x hx0).1 0 hk0
      rw [hu0] at h00
      have hspot : spot = none := by simpa [Addr.add] using World.cell?_spot h00
      subst hspot
      rw [addr_add, addr_add] at h00
      refine ⟨b, off, rfl, cell_there' h00, fun q u hq => ?_⟩
      obtain ⟨y, hy, hu⟩ := flat_at hf hk0 hq
      have := (hR _ y hy).1 (q % k) (Nat.mod_lt q hk0)
      rw [addr_add, addr_add, Nat.add_assoc, Nat.mul_comm (q / k) k, Nat.div_add_mod, hu] at this
      exact this
    · obtain ⟨i, hi⟩ := List.mem_iff_getElem?.1 hx
      exact (hR i x hi).2
section
variable {H : Type} {enc : TypeId × Value → H} {W : World} {base : Nat} {spare : Nat → Bool} {held : Bool}
variable {b0 : Nat} {r : Reach} {v : Value} {d : DataW H} {p : List MemPlace}
end
end Go.Proofs.YtobpcpfomdblgaaGreatDoor

namespace Go.Proofs.YtobpcpfomdblgaaGreatDoor
open Go.RowKit Go.Sort TermSpec EvalSpec ActSpec

def v4V (x : V4) : List Value := [.int .i64 x.a, .int .i64 x.b, .int .i64 x.c, .int .i64 x.d]
def v4sV (l : List V4) : List Value := l.flatMap v4V
theorem v4V_length (x : V4) : (v4V x).length = 4 := rfl
theorem v4sV_get {l : List V4} {i : Nat} {x : V4} (h : l[i]? = some x) : (v4sV l)[i * 4]? = some (.int .i64 x.a) ∧ (v4sV l)[i * 4 + 1]? = some (.int .i64 x.b) ∧ (v4sV l)[i * 4 + 2]? = some (.int .i64 x.c) ∧ (v4sV l)[i * 4 + 3]? = some (.int .i64 x.d) :=
  ⟨flat_get (j := 0) v4V_length h (by omega), flat_get (j := 1) v4V_length h (by omega), flat_get (j := 2) v4V_length h (by omega), flat_get (j := 3) v4V_length h (by omega)⟩
/-- The value is a slice of these lists of values. -/
def V4s (w : World) (v : Value) (l : List V4) : Prop := ∃ n, n = l.length ∧ Rdk 4 w v n (v4sV l)
theorem V4s.keep {w w' : World} {v : Value} {l : List V4} (h : V4s w v l) (hb : Below w.heap.size w w') : V4s w' v l := by
  obtain ⟨n, hn, h⟩ := h
  exact ⟨n, hn, h.keep hb⟩
theorem V4s.shape {w : World} {v : Value} {l : List V4} (h : V4s w v l) : ∃ A n c, v = .slice A n c ∧ n = l.length ∧ n ≤ c := by
  obtain ⟨n, hn, A, c, hv, hc, _⟩ := h
  exact ⟨A, n, c, hv, hn, hc⟩
theorem V4s.at_ {w : World} {A : Option Addr} {n c : Nat} {l : List V4} {i : Nat} {x : V4} (h : V4s w (.slice A n c) l) (hi : l[i]? = some x) :
    ∃ b off, A = some ⟨b, off, none⟩ ∧ b < w.heap.size ∧ w.cell? ⟨b, off + i * 4, none⟩ = some (.int .i64 x.a) ∧ w.cell? ⟨b, off + i * 4 + 1, none⟩ = some (.int .i64 x.b) ∧ w.cell? ⟨b, off + i * 4 + 2, none⟩ = some (.int .i64 x.c) ∧ w.cell? ⟨b, off + i * 4 + 3, none⟩ = some (.int .i64 x.d) := by
  obtain ⟨m, hm, A', c', heq, hc, hl, hA⟩ := h
  cases heq
  have := get_lt hi
  obtain ⟨b, off, rfl, hb, hcell⟩ := hA (by omega)
  obtain ⟨g0, g1, g2, g3⟩ := v4sV_get hi
  exact ⟨b, off, rfl, hb, hcell _ _ g0, by rw [Nat.add_assoc]; exact hcell _ _ g1, by rw [Nat.add_assoc]; exact hcell _ _ g2, by rw [Nat.add_assoc]; exact hcell _ _ g3⟩

end Go.Proofs.YtobpcpfomdblgaaGreatDoor

namespace Go.Proofs.YtobpcpfomdblgaaGreatDoor
open Go.RowKit TermSpec EvalSpec ActSpec NamesSpec Go.Lib

end Go.Proofs.YtobpcpfomdblgaaGreatDoor

namespace Go.Proofs.YtobpcpfomdblgaaGreatDoor
open Go.RowKit Go.ChangeShapes Go.WideShapes Go.Deep TermSpec EvalSpec ActSpec
set_option maxRecDepth 100000

theorem cells_act : Tryz.prog.cellsOf 55 = 3 := by kernel_rfl
theorem cells_bool : Tryz.prog.cellsOf 4 = 1 := by kernel_rfl
theorem cells_trms : Tryz.prog.cellsOf 22 = 1 := by kernel_rfl
section
variable {H : Type} {enc : TypeId × Value → H} {W : World} {base : Nat} {spare : Nat → Bool} {held : Bool}
theorem dec_bool {n : Nat} {c : Value} {x : Option (DataW H × List MemPlace)} (h : DataW.trod enc Tryz.prog W base spare held n 4 [c] = x) (hx : x.isSome) : ∃ b, c = .bool b := by
  obtain ⟨y, rfl⟩ := Option.isSome_iff_exists.1 hx
  obtain ⟨k, hc, _⟩ := DataW.trod_bool Tryz.underlying4 h
  simp at hc
  exact ⟨k, hc⟩
/-- An act that came in. -/
def GoodAP (W : World) (p : AP) : Prop := p.a.s.size ≤ 9223372036854775807 ∧ Small p.a.x ∧ p.a.x.length ≤ 9223372036854775807 ∧ Tms W (.slice p.xA p.xn p.xc) p.a.x
theorem dec_act (n : Nat) (cs : List Value) (x : DataW H × List MemPlace) (h : DataW.trod enc Tryz.prog W base spare held n 55 cs = some x) : ∃ p : AP, cs = acV p ∧ GoodAP W p := by
  obtain ⟨xs, m, _, _, hl, hxl, hg⟩ := DataW.trod_struct Tryz.underlying55 h
  rw [cells_act] at hl
  have hxl' : xs.length = 3 := hxl
  match cs, hl with
  | [c0, c1, c2], _ =>
    have g0 : DataW.trod enc Tryz.prog W base spare held m 9 (([c0, c1, c2].drop 0).take (Tryz.prog.cellsOf 9)) = xs[0]? := hg 0 _ rfl
    have g1 : DataW.trod enc Tryz.prog W base spare held m 4 (([c0, c1, c2].drop 1).take (Tryz.prog.cellsOf 4)) = xs[1]? := hg 1 _ rfl
    have g2 : DataW.trod enc Tryz.prog W base spare held m 22 (([c0, c1, c2].drop 2).take (Tryz.prog.cellsOf 22)) = xs[2]? := hg 2 _ rfl
    rw [OpenD.cells_str] at g0
    rw [cells_bool] at g1
    rw [cells_trms] at g2
    obtain ⟨s, rfl, hs⟩ := OpenD.dec_str g0 (OpenD.some_at (by omega))
    obtain ⟨b, rfl⟩ := dec_bool g1 (OpenD.some_at (by omega))
    obtain ⟨y2, e2⟩ := Option.isSome_iff_exists.1 (OpenD.some_at (l := xs) (i := 2) (by omega))
    rw [e2] at g2
    obtain ⟨A, k, cp, l, rfl, hn, hR, hG, hb⟩ := open_rows_c (v := c2) (f := tmV) (Good := fun t => t.s.size ≤ 9223372036854775807) tmV_length (by decide) cells_term Tryz.underlying22 dec_term g2
    exact ⟨⟨⟨s, b, l⟩, A, k, cp⟩, rfl, hs, hG, by simp only; omega, ⟨k, hn, hR⟩⟩
variable {b0 : Nat} {r : Reach} {v : Value} {d : DataW H} {p : List MemPlace}
end
end Go.Proofs.YtobpcpfomdblgaaGreatDoor

namespace Go.Proofs.YtobpcpfomdblgaaGreatDoor
open Go.RowKit Go.ChangeShapes Go.WideShapes Go.Deep TermSpec EvalSpec ActSpec TransSpec
set_option maxRecDepth 100000

theorem cells_trans : Tryz.prog.cellsOf 25 = 4 := by kernel_rfl
theorem cells_acts : Tryz.prog.cellsOf 23 = 1 := by kernel_rfl
/-- What is known of a transition that came in. -/
structure FitT (t : Tr) : Prop where
  ev : t.ev.size ≤ 9223372036854775807
  tg : t.tg.size ≤ 9223372036854775807
  g : Small t.g
  glen : t.g.length ≤ 9223372036854775807
  acts : ∀ a ∈ t.acts, a.s.size ≤ 9223372036854775807 ∧ Small a.x ∧ a.x.length ≤ 9223372036854775807
  alen : t.acts.length ≤ 9223372036854775807
section
variable {H : Type} {enc : TypeId × Value → H} {W : World} {base : Nat} {spare : Nat → Bool} {held : Bool} {b0 : Nat} {r : Reach} {v : Value} {d : DataW H} {p : List MemPlace}
theorem open_trans (hv : Value.okWide Tryz.prog W r b0 25 v) (h : DataW.Trod enc Tryz.prog W base spare held 25 v d p) :
    ∃ (t : Tr) (gA : Option Addr) (gn gc : Nat) (aA : Option Addr) (an ac : Nat), v = .agg #[.string t.ev, .slice gA gn gc, .slice aA an ac, .string t.tg] ∧ TrIn W gA gn gc aA an ac t ∧ FitT t := by
  obtain ⟨cs, rfl, _⟩ := okWide_struct Tryz.underlying25 hv
  obtain ⟨fuel, hx⟩ := h
  obtain ⟨xs, m, _, _, hl, hxl, hg⟩ := DataW.trod_struct Tryz.underlying25 hx
  rw [cells_trans] at hl
  have hxl' : xs.length = 4 := hxl
  obtain ⟨l⟩ := cs
  match l, hl with
  | [c0, c1, c2, c3], _ =>
    have g0 : DataW.trod enc Tryz.prog W base spare held m 9 (([c0, c1, c2, c3].drop 0).take (Tryz.prog.cellsOf 9)) = xs[0]? := hg 0 _ rfl
    have g1 : DataW.trod enc Tryz.prog W base spare held m 22 (([c0, c1, c2, c3].drop 1).take (Tryz.prog.cellsOf 22)) = xs[1]? := hg 1 _ rfl
    have g2 : DataW.trod enc Tryz.prog W base spare held m 23 (([c0, c1, c2, c3].drop 2).take (Tryz.prog.cellsOf 23)) = xs[2]? := hg 2 _ rfl
    have g3 : DataW.trod enc Tryz.prog W base spare held m 9 (([c0, c1, c2, c3].drop 3).take (Tryz.prog.cellsOf 9)) = xs[3]? := hg 3 _ rfl
    rw [OpenD.cells_str] at g0 g3
    rw [cells_trms] at g1
    rw [cells_acts] at g2
    obtain ⟨ev, rfl, hev⟩ := OpenD.dec_str g0 (OpenD.some_at (by omega))
    obtain ⟨tg, rfl, htg⟩ := OpenD.dec_str g3 (OpenD.some_at (by omega))
    obtain ⟨y1, e1⟩ := Option.isSome_iff_exists.1 (OpenD.some_at (l := xs) (i := 1) (by omega))
    obtain ⟨y2, e2⟩ := Option.isSome_iff_exists.1 (OpenD.some_at (l := xs) (i := 2) (by omega))
    rw [e1] at g1
    rw [e2] at g2
    obtain ⟨gA, gn, gc, g, rfl, hgn, hgR, hgG, hgb⟩ := open_rows_c (v := c1) (f := tmV) (Good := fun t => t.s.size ≤ 9223372036854775807) tmV_length (by decide) cells_term Tryz.underlying22 dec_term g1
    obtain ⟨aA, an, ac, ps, rfl, han, haR, haG, hab⟩ := open_rows_c (v := c2) (f := acV) (Good := GoodAP W) acV_length (by decide) cells_act Tryz.underlying23 dec_act g2
    refine ⟨⟨ev, g, ps.map (·.a), tg⟩, gA, gn, gc, aA, an, ac, rfl, ⟨⟨gn, hgn, hgR⟩, ⟨ps, rfl, by rw [List.length_map, ← han]; exact haR, fun p hp => (haG p hp).2.2.2⟩⟩, hev, htg, hgG, by simp only; omega, fun a ha => ?_, by simp only [List.length_map]; omega⟩
    obtain ⟨p, hp, rfl⟩ := List.mem_map.1 ha
    exact ⟨(haG p hp).1, (haG p hp).2.1, (haG p hp).2.2.1⟩
end
end Go.Proofs.YtobpcpfomdblgaaGreatDoor

namespace Go.Proofs.YtobpcpfomdblgaaGreatDoor
open Go.RowKit Go.Sort CurSpec TermSpec EvalSpec ActSpec NamesSpec ExprSpec ScanSpec TransSpec Go.BigFrame
set_option maxRecDepth 100000

theorem ttoks_of {s : ByteArray} {W w : World} {e : Ending} (h : TokPost W s e w) (h0 : (scanT s.data.toList).2.2 = 0) :
    ∃ A n cp, e = .returned (.tuple #[.slice A n cp, .agg #[.int .i64 0, .int .i64 0], .int .i64 0]) ∧ Toks w (.slice A n cp) (tkAll s) ∧ n ≤ 4001 ∧ Below W.heap.size W w := by
  obtain ⟨hb, -, hv⟩ := h
  obtain ⟨v, rfl, A, cp, rfl, hrest⟩ := hv h0
  refine ⟨A, _, cp, rfl, ?_, scanT_len _, hb⟩
  exact ⟨_, by simp [tkAll], A, cp, rfl, hrest.1, by rw [show tkAll s = (scanT s.data.toList).1.map (tokOf s) from rfl, ← toks_map]; exact hrest.2.1, by rw [show tkAll s = (scanT s.data.toList).1.map (tokOf s) from rfl, ← toks_map]; exact hrest.2.2⟩
theorem tbelow_but {w w1 x : World} {E : Nat} (h1 : Below w.heap.size w w1) (h : w1.grownBy x (some E)) (hE : w.heap.size ≤ E) : Below w.heap.size w x := h1.grown h h1.size fun j hj => by injection hj with hj; omega
theorem small_of {t : Tr} (f : FitT t) (h : lightT t = true) : SmallT t := by
  obtain ⟨h1, h2, h3, h4⟩ := lightT_parts h
  exact ⟨f.ev, f.tg, f.g, by omega, fun a ha => ⟨(f.acts a ha).1, (f.acts a ha).2.1, by have := ((lightA_parts h4).2 a ha).2.1; omega⟩, f.alen⟩

set_option maxRecDepth 100000 in
set_option maxHeartbeats 8000000 in
theorem tputs_no1 (t u : Tr) (gA : Option Addr) (gn gc : Nat) (aA : Option Addr) (an ac : Nat) (gA' : Option Addr) (gn' gc' : Nat) (aA' : Option Addr) (an' ac' : Nat) (w : World) (_hp : PairsIn w) (hg : SignsIn w) (h1 : TrIn w gA gn gc aA an ac t) (f1 : FitT t) (_h2 : TrIn w gA' gn' gc' aA' an' ac' u) (_f2 : FitT u) (l1 : lightT t = false) :
    Calls Tryz.prog 3 #[.agg #[.string t.ev, .slice gA gn gc, .slice aA an ac, .string t.tg], .agg #[.string u.ev, .slice gA' gn' gc', .slice aA' an' ac', .string u.tg]] w fun e w' => e = .returned (.bool true) ∧ Below w.heap.size w w' := by
  have HAW := Lib.hid (fun W (hW : Below w.heap.size w W) => tawake_any W (hg.keep hW))
  have HLT := Lib.hid (fun W (hW : Below w.heap.size w W) => lightT_any t gA gn gc aA an ac W (fun a ha => (f1.acts a ha).1) f1.ev f1.tg (h1.keep hW))
  rw [l1] at HLT
  clear _hp hg h1 f1 _h2 _f2 l1
  obtain ⟨ev, g, acts, tg⟩ := t
  obtain ⟨ev', g', acts', tg'⟩ := u
  simp only at *
  go_enter Tryz.func3, Tryz.ntmps3
  go_wp2_with (go_at_call 4; (with_reducible refine (HLT.out _ (KitC.below_pair _ _ _)).mono ?_))
  rintro e w2 ⟨rfl, hb⟩
  have HB2 := Lib.hid (KitC.pair_blocks hb)
  obtain ⟨c0, c1, c2, c3⟩ := cells_4 HB2.out.1
  obtain ⟨d0, d1, d2, d3⟩ := cells_4 HB2.out.2.1
  clear hb
  go_wp2_with (go_at_call 5; (with_reducible refine (HAW.out _ HB2.out.2.2.1).mono ?_))
  rintro e w3 ⟨rfl, hb⟩
  have HB3 := Lib.hid (below_two' HB2.out.2.2.1 hb)
  clear hb
  go_wp2_with fail
  go_ret
  exact ⟨rfl, HB3.out⟩
set_option maxRecDepth 100000 in
set_option maxHeartbeats 8000000 in
theorem tputs_no2 (t u : Tr) (gA : Option Addr) (gn gc : Nat) (aA : Option Addr) (an ac : Nat) (gA' : Option Addr) (gn' gc' : Nat) (aA' : Option Addr) (an' ac' : Nat) (w : World) (_hp : PairsIn w) (hg : SignsIn w) (h1 : TrIn w gA gn gc aA an ac t) (f1 : FitT t) (h2 : TrIn w gA' gn' gc' aA' an' ac' u) (f2 : FitT u) (l1 : lightT t = true) (l2 : lightT u = false) :
    Calls Tryz.prog 3 #[.agg #[.string t.ev, .slice gA gn gc, .slice aA an ac, .string t.tg], .agg #[.string u.ev, .slice gA' gn' gc', .slice aA' an' ac', .string u.tg]] w fun e w' => e = .returned (.bool true) ∧ Below w.heap.size w w' := by
  have HAW := Lib.hid (fun W (hW : Below w.heap.size w W) => tawake_any W (hg.keep hW))
  have HLT := Lib.hid (fun W (hW : Below w.heap.size w W) => lightT_any t gA gn gc aA an ac W (fun a ha => (f1.acts a ha).1) f1.ev f1.tg (h1.keep hW))
  rw [l1] at HLT
  have HLU := Lib.hid (fun W (hW : Below w.heap.size w W) => lightT_any u gA' gn' gc' aA' an' ac' W (fun a ha => (f2.acts a ha).1) f2.ev f2.tg (h2.keep hW))
  rw [l2] at HLU
  clear _hp hg h1 f1 h2 f2 l1 l2
  obtain ⟨ev, g, acts, tg⟩ := t
  obtain ⟨ev', g', acts', tg'⟩ := u
  simp only at *
  go_enter Tryz.func3, Tryz.ntmps3
  go_wp2_with (go_at_call 4; (with_reducible refine (HLT.out _ (KitC.below_pair _ _ _)).mono ?_))
  rintro e w2 ⟨rfl, hb⟩
  have HB2 := Lib.hid (KitC.pair_blocks hb)
  obtain ⟨c0, c1, c2, c3⟩ := cells_4 HB2.out.1
  obtain ⟨d0, d1, d2, d3⟩ := cells_4 HB2.out.2.1
  clear hb
  go_wp2_with (go_at_call 4; (with_reducible refine (HLU.out _ HB2.out.2.2.1).mono ?_))
  rintro e w3 ⟨rfl, hb⟩
  have HB3 := Lib.hid (And.intro (KitC.block_on HB2.out.1 hb) (And.intro (KitC.block_on HB2.out.2.1 hb) (below_two' HB2.out.2.2.1 hb)))
  clear hb c0 c1 c2 c3 d0 d1 d2 d3
  obtain ⟨c0, c1, c2, c3⟩ := cells_4 HB3.out.1
  obtain ⟨d0, d1, d2, d3⟩ := cells_4 HB3.out.2.1
  go_wp2_with (go_at_call 5; (with_reducible refine (HAW.out _ HB3.out.2.2).mono ?_))
  rintro e w4 ⟨rfl, hb⟩
  have HB4 := Lib.hid (below_two' HB3.out.2.2 hb)
  clear hb
  go_wp2_with fail
  go_ret
  exact ⟨rfl, HB4.out⟩
set_option maxRecDepth 100000 in
set_option maxHeartbeats 8000000 in
theorem tputs_bad (t u : Tr) (gA : Option Addr) (gn gc : Nat) (aA : Option Addr) (an ac : Nat) (gA' : Option Addr) (gn' gc' : Nat) (aA' : Option Addr) (an' ac' : Nat) (w : World) (_hp : PairsIn w) (hg : SignsIn w) (h1 : TrIn w gA gn gc aA an ac t) (f1 : FitT t) (h2 : TrIn w gA' gn' gc' aA' an' ac' u) (f2 : FitT u) (l1 : lightT t = true) (l2 : lightT u = true) (hk : chkT t ≠ 0) :
    Calls Tryz.prog 3 #[.agg #[.string t.ev, .slice gA gn gc, .slice aA an ac, .string t.tg], .agg #[.string u.ev, .slice gA' gn' gc', .slice aA' an' ac', .string u.tg]] w fun e w' => e = .returned (.bool true) ∧ Below w.heap.size w w' := by
  have HAW := Lib.hid (fun W (hW : Below w.heap.size w W) => tawake_any W (hg.keep hW))
  have HLT := Lib.hid (fun W (hW : Below w.heap.size w W) => lightT_any t gA gn gc aA an ac W (fun a ha => (f1.acts a ha).1) f1.ev f1.tg (h1.keep hW))
  rw [l1] at HLT
  have HLU := Lib.hid (fun W (hW : Below w.heap.size w W) => lightT_any u gA' gn' gc' aA' an' ac' W (fun a ha => (f2.acts a ha).1) f2.ev f2.tg (h2.keep hW))
  rw [l2] at HLU
  have hsm := small_of f1 l1
  obtain ⟨r, hr⟩ := some_bool (t = u)
  have HRC := Lib.hid (fun W (hW : Below w.heap.size w W) => trcheck_any t gA gn gc aA an ac W hsm (h1.keep hW))
  have HCK := Lib.hid (fun W (hW : Below w.heap.size w W) => tcheck_any t gA gn gc aA an ac W hsm (h1.keep hW))
  have hfw : ∀ a ∈ t.acts, a.x.length ≤ 4398046511104 := fun a ha => (hsm.acts a ha).2.2
  have hal : t.acts.length ≤ 4398046511104 := by have := (lightA_parts (lightT_parts l1).2.2.2).1; omega
  have HSA := Lib.hid (fun W (hW : Below w.heap.size w W) => tsame_any t u r hr gA gn gc aA an ac gA' gn' gc' aA' an' ac' W (h1.keep hW) (h2.keep hW) hsm.glen hal hfw)
  have HRS := Lib.hid (fun W (hW : Below w.heap.size w W) => trsame_any t u r hr gA gn gc aA an ac gA' gn' gc' aA' an' ac' W (h1.keep hW) (h2.keep hW) hsm.glen hal hfw)
  have HPUT := Lib.hid (fun W (hW : Below w.heap.size w W) => tput_bad t gA gn gc aA an ac W hsm (h1.keep hW) hk)
  obtain ⟨k, hkk⟩ : ∃ k, k = chkT t := ⟨_, rfl⟩
  rw [← hkk] at HPUT HRC HCK hk
  have e1 : (k != 0) = true := by simpa using hk
  clear _hp hg h1 f1 h2 f2 l1 l2 hsm hr hfw hal hkk hk
  obtain ⟨ev, g, acts, tg⟩ := t
  obtain ⟨ev', g', acts', tg'⟩ := u
  simp only at *
  go_enter Tryz.func3, Tryz.ntmps3
  go_wp2_with (go_at_call 4; (with_reducible refine (HLT.out _ (KitC.below_pair _ _ _)).mono ?_))
  rintro e w2 ⟨rfl, hb⟩
  have HB2 := Lib.hid (KitC.pair_blocks hb)
  obtain ⟨c0, c1, c2, c3⟩ := cells_4 HB2.out.1
  obtain ⟨d0, d1, d2, d3⟩ := cells_4 HB2.out.2.1
  clear hb
  go_wp2_with (go_at_call 4; (with_reducible refine (HLU.out _ HB2.out.2.2.1).mono ?_))
  rintro e w3 ⟨rfl, hb⟩
  have HB3 := Lib.hid (And.intro (KitC.block_on HB2.out.1 hb) (And.intro (KitC.block_on HB2.out.2.1 hb) (below_two' HB2.out.2.2.1 hb)))
  clear hb c0 c1 c2 c3 d0 d1 d2 d3
  obtain ⟨c0, c1, c2, c3⟩ := cells_4 HB3.out.1
  obtain ⟨d0, d1, d2, d3⟩ := cells_4 HB3.out.2.1
  go_wp2_with (go_at_call 6; (with_reducible refine (HPUT.out _ HB3.out.2.2).mono ?_))
  rintro e w4 ⟨rfl, hb⟩
  have HB4 := Lib.hid (And.intro (KitC.block_on HB3.out.1 hb) (And.intro (KitC.block_on HB3.out.2.1 hb) (below_two' HB3.out.2.2 hb)))
  clear hb c0 c1 c2 c3 d0 d1 d2 d3
  obtain ⟨c0, c1, c2, c3⟩ := cells_4 HB4.out.1
  obtain ⟨d0, d1, d2, d3⟩ := cells_4 HB4.out.2.1
  go_wp2_with (go_at_call 7; (with_reducible refine (HRC.out _ HB4.out.2.2).mono ?_))
  rintro e w5 ⟨rfl, hb⟩
  have HB5 := Lib.hid (And.intro (KitC.block_on HB4.out.1 hb) (And.intro (KitC.block_on HB4.out.2.1 hb) (below_two' HB4.out.2.2 hb)))
  clear hb c0 c1 c2 c3 d0 d1 d2 d3
  obtain ⟨c0, c1, c2, c3⟩ := cells_4 HB5.out.1
  obtain ⟨d0, d1, d2, d3⟩ := cells_4 HB5.out.2.1
  have HQC : Hid (∀ d os, Calls Tryz.prog 8 #[.agg #[.string ev, .slice gA gn gc, .slice aA an ac, .string tg]] (grow (redrawn w5 d) os) fun e w'' => e = .returned (.int .i64 k) ∧ ∃ p : Regrown, w'' = grow (redrawn w5 p.d) p.os) := Lib.hid (fun d os => Calls.regrown_of (HCK.out _ (below_two' HB5.out.2.2 (below_regrown w5 d os))))
  have HQS : Hid (∀ d os, Calls Tryz.prog 9 #[.agg #[.string ev, .slice gA gn gc, .slice aA an ac, .string tg], .agg #[.string ev', .slice gA' gn' gc', .slice aA' an' ac', .string tg']] (grow (redrawn w5 d) os) fun e w'' => e = .returned (.bool r) ∧ ∃ p : Regrown, w'' = grow (redrawn w5 p.d) p.os) := Lib.hid (fun d os => Calls.regrown_of (HSA.out _ (below_two' HB5.out.2.2 (below_regrown w5 d os))))
  have HQR : Hid (∀ d os, Calls Tryz.prog 10 #[.agg #[.string ev, .slice gA gn gc, .slice aA an ac, .string tg], .agg #[.string ev', .slice gA' gn' gc', .slice aA' an' ac', .string tg']] (grow (redrawn w5 d) os) fun e w'' => e = .returned (.bool r) ∧ ∃ p : Regrown, w'' = grow (redrawn w5 p.d) p.os) := Lib.hid (fun d os => Calls.regrown_of (HRS.out _ (below_two' HB5.out.2.2 (below_regrown w5 d os))))
  have rc0 := cell_regrown c0
  have rc1 := cell_regrown c1
  have rc2 := cell_regrown c2
  have rc3 := cell_regrown c3
  have rd0 := cell_regrown d0
  have rd1 := cell_regrown d1
  have rd2 := cell_regrown d2
  have rd3 := cell_regrown d3
  clear c0 c1 c2 c3 d0 d1 d2 d3
  go_wp2_with fail
  refine wp_region_quiet_below (by kernel_rfl) (by kernel_rfl) ?_
  repeat (go_big_quiet_step (first | exact HQC.out _ _ | exact HQS.out _ _ | exact HQR.out _ _))
  refine wpQuiet_nil ?_
  intro _ hw'
  obtain ⟨⟨dq, osq⟩, hw''⟩ := hw'
  subst hw''
  simp only
  have hb := below_regrown w5 dq osq
  have HB6 := Lib.hid (And.intro (KitC.block_on HB5.out.1 hb) (And.intro (KitC.block_on HB5.out.2.1 hb) (below_two' HB5.out.2.2 hb)))
  clear hb rc0 rc1 rc2 rc3 rd0 rd1 rd2 rd3 HQC HQS HQR
  obtain ⟨c0, c1, c2, c3⟩ := cells_4 HB6.out.1
  obtain ⟨W6, hW6⟩ : ∃ W6, grow (redrawn w5 dq) osq = W6 := ⟨_, rfl⟩
  rw [hW6] at HB6 c0 c1 c2 c3 ⊢
  clear hW6
  go_wp2_with (go_at_call 5; (with_reducible refine (HAW.out _ HB6.out.2.2).mono ?_))
  rintro e w7 ⟨rfl, hb⟩
  have HB7 := Lib.hid (below_two' HB6.out.2.2 hb)
  clear hb
  go_wp2_with fail
  go_ret
  exact ⟨rfl, HB7.out⟩
set_option maxRecDepth 100000 in
set_option maxHeartbeats 8000000 in
theorem tputs_ok (t u : Tr) (gA : Option Addr) (gn gc : Nat) (aA : Option Addr) (an ac : Nat) (gA' : Option Addr) (gn' gc' : Nat) (aA' : Option Addr) (an' ac' : Nat) (w : World) (hp : PairsIn w) (hg : SignsIn w) (h1 : TrIn w gA gn gc aA an ac t) (f1 : FitT t) (h2 : TrIn w gA' gn' gc' aA' an' ac' u) (f2 : FitT u) (l1 : lightT t = true) (l2 : lightT u = true) (hk : chkT t = 0) :
    Calls Tryz.prog 3 #[.agg #[.string t.ev, .slice gA gn gc, .slice aA an ac, .string t.tg], .agg #[.string u.ev, .slice gA' gn' gc', .slice aA' an' ac', .string u.tg]] w fun e w' => e = .returned (.bool true) ∧ Below w.heap.size w w' := by
  have HAW := Lib.hid (fun W (hW : Below w.heap.size w W) => tawake_any W (hg.keep hW))
  have HLT := Lib.hid (fun W (hW : Below w.heap.size w W) => lightT_any t gA gn gc aA an ac W (fun a ha => (f1.acts a ha).1) f1.ev f1.tg (h1.keep hW))
  rw [l1] at HLT
  have HLU := Lib.hid (fun W (hW : Below w.heap.size w W) => lightT_any u gA' gn' gc' aA' an' ac' W (fun a ha => (f2.acts a ha).1) f2.ev f2.tg (h2.keep hW))
  rw [l2] at HLU
  have hsm := small_of f1 l1
  obtain ⟨r, hr⟩ := some_bool (t = u)
  have HRC := Lib.hid (fun W (hW : Below w.heap.size w W) => trcheck_any t gA gn gc aA an ac W hsm (h1.keep hW))
  have HCK := Lib.hid (fun W (hW : Below w.heap.size w W) => tcheck_any t gA gn gc aA an ac W hsm (h1.keep hW))
  have hfw : ∀ a ∈ t.acts, a.x.length ≤ 4398046511104 := fun a ha => (hsm.acts a ha).2.2
  have hal : t.acts.length ≤ 4398046511104 := by have := (lightA_parts (lightT_parts l1).2.2.2).1; omega
  have HSA := Lib.hid (fun W (hW : Below w.heap.size w W) => tsame_any t u r hr gA gn gc aA an ac gA' gn' gc' aA' an' ac' W (h1.keep hW) (h2.keep hW) hsm.glen hal hfw)
  have HRS := Lib.hid (fun W (hW : Below w.heap.size w W) => trsame_any t u r hr gA gn gc aA an ac gA' gn' gc' aA' an' ac' W (h1.keep hW) (h2.keep hW) hsm.glen hal hfw)
  rw [hk] at HRC HCK
  obtain ⟨x, hx, hok⟩ := tt_of hk
  have ex1 : x.ev = t.ev := by rw [← hx]; rfl
  have ex2 : x.tg = t.tg := by rw [← hx]; rfl
  have HPUT := Lib.hid (fun W (hW : Below w.heap.size w W) => tput_ok x hok gA gn gc aA an ac W (by rw [hx]; exact hsm) (by rw [hx]; exact h1.keep hW) (hg.keep hW))
  have HRP := Lib.hid (fun W (hW : Below w.heap.size w W) => trput_any x hok gA gn gc aA an ac W (by rw [hx]; exact h1.keep hW) (hg.keep hW))
  rw [ex1, ex2] at HPUT HRP
  have hsz := txT_size hok
  have HTK := Lib.hid (fun W (hW : Below w.heap.size w W) => stoks_any (txT x) W (hp.keep hW))
  have HRD := Lib.hid (read_trans hok)
  have HSM := Lib.hid (fun (gB : Option Addr) (bn bc : Nat) (aB : Option Addr) (ban bac : Nat) W (hW : Below w.heap.size w W) (hT : TrIn W gB bn bc aB ban bac t) => trsame_any t t true (by simp) gB bn bc aB ban bac gA gn gc aA an ac W hT (h1.keep hW) hsm.glen hal hfw)
  have HXT := Lib.hid hx
  have HGG := Lib.hid hg
  obtain ⟨s, hss⟩ : ∃ s, s = txT x := ⟨_, rfl⟩
  rw [← hss] at HPUT HRP HTK HRD hsz
  have hs20 : s.size ≤ 20000 := by omega
  have g1 : (s.toList == s.toList) = true := by simp
  obtain ⟨c9, hc9⟩ : ∃ c, c = readT (cur0 (tkAll s)) := ⟨_, rfl⟩
  have HRA : Hid ((scanT s.data.toList).2.2 = 0 ∧ c9.2 = t ∧ c9.1.bad = 0 ∧ (next c9.1).k = 0) := Lib.hid (by rw [hc9]; have := HRD.out; exact ⟨this.1, this.2.1.trans hx, this.2.2.1, this.2.2.2⟩)
  have HC9 := Lib.hid hc9
  clear hp hg h1 f1 h2 f2 l1 l2 hsm hr hfw hal hk hx hok ex1 ex2 hss hc9 HRD HXT hsz
  obtain ⟨ev, g, acts, tg⟩ := t
  obtain ⟨ev', g', acts', tg'⟩ := u
  simp only at *
  go_enter Tryz.func3, Tryz.ntmps3
  go_wp2_with (go_at_call 4; (with_reducible refine (HLT.out _ (KitC.below_pair _ _ _)).mono ?_))
  rintro e w2 ⟨rfl, hb⟩
  have HB2 := Lib.hid (KitC.pair_blocks hb)
  obtain ⟨c0, c1, c2, c3⟩ := cells_4 HB2.out.1
  obtain ⟨d0, d1, d2, d3⟩ := cells_4 HB2.out.2.1
  clear hb
  go_wp2_with (go_at_call 4; (with_reducible refine (HLU.out _ HB2.out.2.2.1).mono ?_))
  rintro e w3 ⟨rfl, hb⟩
  have HB3 := Lib.hid (And.intro (KitC.block_on HB2.out.1 hb) (And.intro (KitC.block_on HB2.out.2.1 hb) (below_two' HB2.out.2.2.1 hb)))
  clear hb c0 c1 c2 c3 d0 d1 d2 d3
  obtain ⟨c0, c1, c2, c3⟩ := cells_4 HB3.out.1
  obtain ⟨d0, d1, d2, d3⟩ := cells_4 HB3.out.2.1
  go_wp2_with (go_at_call 6; (with_reducible refine (HPUT.out _ HB3.out.2.2).mono ?_))
  rintro e w4 ⟨rfl, hb⟩
  have HB4 := Lib.hid (And.intro (KitC.block_on HB3.out.1 hb) (And.intro (KitC.block_on HB3.out.2.1 hb) (below_two' HB3.out.2.2 hb)))
  clear hb c0 c1 c2 c3 d0 d1 d2 d3
  obtain ⟨c0, c1, c2, c3⟩ := cells_4 HB4.out.1
  obtain ⟨d0, d1, d2, d3⟩ := cells_4 HB4.out.2.1
  go_wp2_with (go_at_call 7; (with_reducible refine (HRC.out _ HB4.out.2.2).mono ?_))
  rintro e w5 ⟨rfl, hb⟩
  have HB5 := Lib.hid (And.intro (KitC.block_on HB4.out.1 hb) (And.intro (KitC.block_on HB4.out.2.1 hb) (below_two' HB4.out.2.2 hb)))
  clear hb c0 c1 c2 c3 d0 d1 d2 d3
  obtain ⟨c0, c1, c2, c3⟩ := cells_4 HB5.out.1
  obtain ⟨d0, d1, d2, d3⟩ := cells_4 HB5.out.2.1
  have HQC : Hid (∀ d os, Calls Tryz.prog 8 #[.agg #[.string ev, .slice gA gn gc, .slice aA an ac, .string tg]] (grow (redrawn w5 d) os) fun e w'' => e = .returned (.int .i64 0) ∧ ∃ p : Regrown, w'' = grow (redrawn w5 p.d) p.os) := Lib.hid (fun d os => Calls.regrown_of (HCK.out _ (below_two' HB5.out.2.2 (below_regrown w5 d os))))
  have HQS : Hid (∀ d os, Calls Tryz.prog 9 #[.agg #[.string ev, .slice gA gn gc, .slice aA an ac, .string tg], .agg #[.string ev', .slice gA' gn' gc', .slice aA' an' ac', .string tg']] (grow (redrawn w5 d) os) fun e w'' => e = .returned (.bool r) ∧ ∃ p : Regrown, w'' = grow (redrawn w5 p.d) p.os) := Lib.hid (fun d os => Calls.regrown_of (HSA.out _ (below_two' HB5.out.2.2 (below_regrown w5 d os))))
  have HQR : Hid (∀ d os, Calls Tryz.prog 10 #[.agg #[.string ev, .slice gA gn gc, .slice aA an ac, .string tg], .agg #[.string ev', .slice gA' gn' gc', .slice aA' an' ac', .string tg']] (grow (redrawn w5 d) os) fun e w'' => e = .returned (.bool r) ∧ ∃ p : Regrown, w'' = grow (redrawn w5 p.d) p.os) := Lib.hid (fun d os => Calls.regrown_of (HRS.out _ (below_two' HB5.out.2.2 (below_regrown w5 d os))))
  have rc0 := cell_regrown c0
  have rc1 := cell_regrown c1
  have rc2 := cell_regrown c2
  have rc3 := cell_regrown c3
  have rd0 := cell_regrown d0
  have rd1 := cell_regrown d1
  have rd2 := cell_regrown d2
  have rd3 := cell_regrown d3
  clear c0 c1 c2 c3 d0 d1 d2 d3
  go_wp2_with fail
  refine wp_region_quiet_below (by kernel_rfl) (by kernel_rfl) ?_
  repeat (go_big_quiet_step (first | exact HQC.out _ _ | exact HQS.out _ _ | exact HQR.out _ _))
  refine wpQuiet_nil ?_
  intro _ hw'
  obtain ⟨⟨dq, osq⟩, hw''⟩ := hw'
  subst hw''
  simp only
  have hb := below_regrown w5 dq osq
  have HB6 := Lib.hid (And.intro (KitC.block_on HB5.out.1 hb) (And.intro (KitC.block_on HB5.out.2.1 hb) (below_two' HB5.out.2.2 hb)))
  clear hb rc0 rc1 rc2 rc3 rd0 rd1 rd2 rd3 HQC HQS HQR
  obtain ⟨c0, c1, c2, c3⟩ := cells_4 HB6.out.1
  obtain ⟨W6, hW6⟩ : ∃ W6, grow (redrawn w5 dq) osq = W6 := ⟨_, rfl⟩
  rw [hW6] at HB6 c0 c1 c2 c3 ⊢
  clear hW6
  clear HLT HLU HPUT HRC HCK HSA HRS
  go_wp2_with (go_at_call 11; (with_reducible refine (HTK.out _ HB6.out.2.2).mono ?_))
  rintro e w7 hpost
  obtain ⟨At, nt, ct, rfl, hT7, hn7, hb⟩ := ttoks_of hpost HRA.out.1
  have HB7 := Lib.hid (And.intro (KitC.block_on HB6.out.1 hb) (below_two' HB6.out.2.2 hb))
  have HNEW := Lib.hid (fun W (hW : Below w7.heap.size w7 W) => new_any At nt ct (tkAll s) W (hT7.keep hW) (by omega))
  clear hpost hT7 hb c0 c1 c2 c3
  go_wp2_with (go_at_call 12; (with_reducible refine (HNEW.out _ (KitC.below_one _ _)).mono ?_))
  rintro e w8 ⟨B, rfl, hBs, hC8, hb8⟩
  have hb78 := below_two' (KitC.below_one w7 (.cells #[.int .i64 0, .int .i64 0] 35)) hb8
  have HB8 := Lib.hid (And.intro (KitC.block_on HB7.out.1 hb78) (below_two' HB7.out.2 hb78))
  have hBB : w7.heap.size < B := by
    have := hBs
    rw [World.size_alloc] at this
    omega
  have hBK : w.heap.size < B := by have := (Array.getElem?_eq_some_iff.1 HB7.out.1).1; omega
  have HBS := Lib.hid hBK
  have HR := Lib.hid (tread_at B (cur0 (tkAll s)) w8 (HGG.out.keep HB8.out.2) hC8 (tkAll_ok s (by omega)))
  rw [← HC9.out] at HR
  clear hBs hC8 hb8 hb78 hBB hBK
  go_wp2_with (go_at_call 13; (with_reducible refine HR.out.mono ?_))
  rintro e w9 ⟨gB, bn, bc, aB, ban, bac, rfl, hC9, hT9, hb9⟩
  have HB9 := Lib.hid (And.intro (grown_block HB8.out.1 hb9 (by have := HBS.out; omega)) (tbelow_but HB8.out.2 hb9 (by have := HBS.out; omega)))
  rw [HRA.out.2.1] at hT9 ⊢
  simp only at hT9 ⊢
  have H9 := Lib.hid (And.intro hC9 hT9)
  clear hC9 hT9 hb9
  obtain ⟨c0, c1, c2, c3⟩ := cells_4 (KitC.block_on HB9.out.1 (KitC.below_one w9 (.cells #[.string ev, .slice gB bn bc, .slice aB ban bac, .string tg] 25)))
  have hlt9 : w.heap.size < w9.heap.size := (Array.getElem?_eq_some_iff.1 HB9.out.1).1
  have HGD := Lib.hid (fun W (hW : Below w9.heap.size w9 W) => good_any (b := true) _ _ _ _ W (Fl.of (H9.out.1.keep hW)) (by rw [HRA.out.2.2.1]; rfl))
  have HNX := Lib.hid (fun W (hW : Below w9.heap.size w9 W) => next_at B c9.1 W (H9.out.1.keep hW))
  rw [HRA.out.2.2.2] at HNX
  have hfld : ∀ (u0 u1 u2 u3 : Value) W, (Instr.field 43 (.agg #[u0, u1, u2, u3]) 0).run Tryz.prog W = .ok u0 W := fun u0 u1 u2 u3 W => by kernel_rfl
  go_wp2_with (go_at_call 14; (with_reducible refine (HRP.out _ (below_two' HB9.out.2 (KitC.below_one _ _))).mono ?_))
  rintro e y1 ⟨rfl, hb⟩
  have HY1 := Lib.hid (And.intro (KitC.one_block hb).1 (KitC.one_block hb).2.1)
  clear hb c0 c1 c2 c3
  obtain ⟨c0, c1, c2, c3⟩ := cells_4 (KitC.block_on HB9.out.1 HY1.out.2)
  obtain ⟨d0, d1, d2, d3⟩ := cells_4 HY1.out.1
  have HSM1 := Lib.hid (HSM.out gB bn bc aB ban bac y1 (below_two' HB9.out.2 HY1.out.2) (H9.out.2.keep HY1.out.2))
  go_wp2_with (go_at_call 10; (with_reducible refine HSM1.out.mono ?_))
  rintro e y2 ⟨rfl, hb⟩
  have HY2 := Lib.hid (below_two' HY1.out.2 hb)
  clear hb c0 c1 c2 c3 d0 d1 d2 d3
  go_wp2_with (go_at_call 15; (with_reducible refine (HGD.out _ HY2.out).mono ?_))
  rintro e y3 ⟨rfl, hb⟩
  have HY3 := Lib.hid (below_two' HY2.out hb)
  clear hb
  go_wp2_with (go_at_call 16; (with_reducible refine (HNX.out _ HY3.out).mono ?_))
  rintro e y4 ⟨rfl, hb⟩
  have HY4 := Lib.hid (below_two' HY3.out hb)
  clear hb
  go_wp2_with (go_at_call 5; (with_reducible refine (HAW.out _ (below_two' HB9.out.2 HY4.out)).mono ?_))
  rintro e y5 ⟨rfl, hb⟩
  have HY5 := Lib.hid (below_two' HY4.out hb)
  clear hb
  go_wp2_with fail
  go_ret
  exact ⟨rfl, below_two' HB9.out.2 HY5.out⟩
theorem walk_TransPuts (t : Tr) (gA : Option Addr) (gn gc : Nat) (aA : Option Addr) (an ac : Nat) (u : Tr) (gA' : Option Addr) (gn' gc' : Nat) (aA' : Option Addr) (an' ac' : Nat) (w : World) (hp : PairsIn w) (hg : SignsIn w) (h1 : TrIn w gA gn gc aA an ac t) (f1 : FitT t) (h2 : TrIn w gA' gn' gc' aA' an' ac' u) (f2 : FitT u) :
    Calls Tryz.prog 3 #[.agg #[.string t.ev, .slice gA gn gc, .slice aA an ac, .string t.tg], .agg #[.string u.ev, .slice gA' gn' gc', .slice aA' an' ac', .string u.tg]] w fun e w' => e = .returned (.bool true) ∧ Below w.heap.size w w' := by
  rcases l1 : lightT t with _ | _
  · exact tputs_no1 t u gA gn gc aA an ac gA' gn' gc' aA' an' ac' w hp hg h1 f1 h2 f2 l1
  · rcases l2 : lightT u with _ | _
    · exact tputs_no2 t u gA gn gc aA an ac gA' gn' gc' aA' an' ac' w hp hg h1 f1 h2 f2 l1 l2
    · by_cases hk : chkT t = 0
      · exact tputs_ok t u gA gn gc aA an ac gA' gn' gc' aA' an' ac' w hp hg h1 f1 h2 f2 l1 l2 hk
      · exact tputs_bad t u gA gn gc aA an ac gA' gn' gc' aA' an' ac' w hp hg h1 f1 h2 f2 l1 l2 hk
end Go.Proofs.YtobpcpfomdblgaaGreatDoor

namespace Go.Proofs.YtobpcpfomdblgaaGreatDoor
open Go.RowKit

theorem cells_of_strs {H : Type} {enc : TypeId × Value → H} {P : Program} {w : World} {base : Nat} {sp : Nat → Bool} {held : Bool} {fuel : Nat} {t e : TypeId} {n : Nat} {cs : List Value} {bs : List (List UInt8)} {p : List MemPlace}
    (ht : P.underlying t = some (.array n e)) (he : P.underlying e = some .string) (hce : P.cellsOf e = 1) (hct : P.cellsOf t = n)
    (h : DataW.trod enc P w base sp held fuel t cs = some (.agg (bs.map fun b => .lit (.string b)), p)) : cs = bs.map fun b => Value.string ⟨b.toArray⟩ := by
  obtain ⟨xs, m, rfl, hx, hl, hxl, hel⟩ := DataW.trod_array ht h
  simp only [Prod.mk.injEq, DataW.agg.injEq] at hx
  have hxs := hx.1
  have hbl : bs.length = n := by
    have := congrArg List.length hxs
    simp at this
    omega
  rw [hct] at hl
  apply List.ext_getElem?
  intro i
  by_cases hi : i < n
  · obtain ⟨b, hb⟩ : ∃ b, xs[i]? = some b := get_some (by omega)
    have hf := (hel i hi).trans hb
    rw [hce, Nat.mul_one] at hf
    obtain ⟨s, hc, rfl, _⟩ := DataW.trod_string he hf
    have h1 : cs[i]? = some (.string s) := by
      have := congrArg (·[0]?) hc
      simpa [List.getElem?_take, List.getElem?_drop] using this
    have h2 : (xs.map (·.1))[i]? = some (DataW.lit (.string s.data.toList) : DataW H) := by simp [hb]
    rw [← hxs] at h2
    simp only [List.getElem?_map, Option.map_eq_some_iff, DataW.lit.injEq, Lit.string.injEq] at h2
    obtain ⟨z, hz, rfl⟩ := h2
    simp [h1, hz]
  · rw [List.getElem?_eq_none (by omega), List.getElem?_eq_none (by simp; omega)]
end Go.Proofs.YtobpcpfomdblgaaGreatDoor

namespace Go.Proofs.YtobpcpfomdblgaaGreatDoor
open Go.RowKit ScanSpec
set_option maxRecDepth 100000

def pairsB : List (List UInt8) := [[45, 62], [58, 61], [60, 61], [62, 61], [33, 61], [61, 61], [46, 46]]
theorem gPairs : Tryz.prog.globalNamed "semblance/scan.pairs" = some 0 := by kernel_rfl
theorem tPairs : (Tryz.prog.globals[0]?).map (·.type) = some 135 := by kernel_rfl
theorem pairs_in {W : World} {rest : List (String × DataW Unit)} (h : laidMet Tryz.prog (("semblance/scan.pairs", Rows.laid_semblance_scan_pairs) :: rest) W) : PairsIn W := by
  obtain ⟨ps, ⟨g', t', cs, fuel, p, q, hg', ht', hvar, hd, _, _⟩, _⟩ := h
  obtain rfl := Option.some.inj (gPairs.symm.trans hg')
  obtain rfl := Option.some.inj (tPairs.symm.trans ht')
  have hc := cells_of_strs (bs := pairsB) Tryz.underlying135 Tryz.underlying9 (by kernel_rfl) (by kernel_rfl) hd
  have e : cs = pairsV := Array.toList_inj.mp hc
  subst e
  unfold World.var? at hvar
  rw [gPairs] at hvar
  simp only [Option.bind_some] at hvar
  split at hvar
  · rename_i cs' T fr hb
    cases hvar
    exact ⟨T, fr, hb⟩
  · cases hvar
end Go.Proofs.YtobpcpfomdblgaaGreatDoor

namespace Go.Proofs.YtobpcpfomdblgaaGreatDoor
open Go.RowKit ExprSpec
set_option maxRecDepth 100000

theorem list5 {α : Type} {l : List α} (h : l.length = 5) : ∃ a b c d e, l = [a, b, c, d, e] := by
  match l, h with
  | [a, b, c, d, e], _ => exact ⟨a, b, c, d, e, rfl⟩
def sgD {H : Type} (s : Sg) : DataW H := .agg [.lit (.string s.t.data.toList), .lit (.int .i64 s.op), .lit (.int .i64 s.lev), .lit (.int .i64 s.left), .lit (.int .i64 s.right)]
theorem sg_cells : Tryz.prog.cellsOf 124 = 5 := by kernel_rfl
theorem sg_table : Tryz.prog.cellsOf 138 = 55 := by kernel_rfl
theorem sg_str : Tryz.prog.cellsOf 9 = 1 := by kernel_rfl
theorem sg_int : Tryz.prog.cellsOf 3 = 1 := by kernel_rfl
theorem sign_part {H : Type} {enc : TypeId × Value → H} {w : World} {base : Nat} {sp : Nat → Bool} {held : Bool} {fuel : Nat} {cs : List Value} {s : Sg} {p : List MemPlace}
    (h : DataW.trod enc Tryz.prog w base sp held fuel 124 cs = some (sgD s, p)) : cs = sgC s := by
  obtain ⟨xs, n, _, hx, hl, hlen, hf⟩ := DataW.trod_struct Tryz.underlying124 h
  obtain ⟨a, b, c, d, e, rfl⟩ := list5 (hl.trans sg_cells)
  obtain ⟨y0, y1, y2, y3, y4, rfl⟩ := list5 hlen
  have g0 : DataW.trod enc Tryz.prog w base sp held n 9 (([a, b, c, d, e].drop 0).take (Tryz.prog.cellsOf 9)) = some y0 := hf 0 _ rfl
  rw [sg_str] at g0
  have g1 : DataW.trod enc Tryz.prog w base sp held n 3 (([a, b, c, d, e].drop 1).take (Tryz.prog.cellsOf 3)) = some y1 := hf 1 _ rfl
  rw [sg_int] at g1
  have g2 : DataW.trod enc Tryz.prog w base sp held n 3 (([a, b, c, d, e].drop 2).take (Tryz.prog.cellsOf 3)) = some y2 := hf 2 _ rfl
  rw [sg_int] at g2
  have g3 : DataW.trod enc Tryz.prog w base sp held n 3 (([a, b, c, d, e].drop 3).take (Tryz.prog.cellsOf 3)) = some y3 := hf 3 _ rfl
  rw [sg_int] at g3
  have g4 : DataW.trod enc Tryz.prog w base sp held n 3 (([a, b, c, d, e].drop 4).take (Tryz.prog.cellsOf 3)) = some y4 := hf 4 _ rfl
  rw [sg_int] at g4
  obtain ⟨s0, c0, rfl, -⟩ := DataW.trod_string Tryz.underlying9 g0
  obtain ⟨n1, c1, rfl, -⟩ := DataW.trod_int Tryz.underlying3 g1
  obtain ⟨n2, c2, rfl, -⟩ := DataW.trod_int Tryz.underlying3 g2
  obtain ⟨n3, c3, rfl, -⟩ := DataW.trod_int Tryz.underlying3 g3
  obtain ⟨n4, c4, rfl, -⟩ := DataW.trod_int Tryz.underlying3 g4
  simp at c0 c1 c2 c3 c4
  subst c0 c1 c2 c3 c4
  simp only [sgD, List.map_cons, List.map_nil, Prod.mk.injEq, DataW.agg.injEq, List.cons.injEq, DataW.lit.injEq, Lit.string.injEq, Lit.int.injEq, true_and, and_true] at hx
  obtain ⟨⟨h0, h1, h2, h3, h4⟩, -⟩ := hx
  have h0' : s.t = s0 := ByteArray.ext (Array.toList_inj.mp h0)
  subst h0' h1 h2 h3 h4
  rfl
theorem flat_parts {α β : Type} {g : α → List β} {k : Nat} (hg : ∀ a, (g a).length = k) : ∀ (L : List α) (cs : List β), cs.length = L.length * k → (∀ i a, L[i]? = some a → (cs.drop (i * k)).take k = g a) → cs = L.flatMap g
  | [], cs, hl, _ => by simpa using hl
  | a :: L, cs, hl, h => by
    have h0 := h 0 a rfl
    rw [Nat.zero_mul, List.drop_zero] at h0
    rw [List.length_cons, Nat.succ_mul] at hl
    have ih := flat_parts hg L (cs.drop k) (by rw [List.length_drop]; omega) (fun i b hb => by
      rw [List.drop_drop, show k + i * k = (i + 1) * k by rw [Nat.succ_mul]; omega]
      exact h (i + 1) b hb)
    rw [List.flatMap_cons, ← ih, ← h0, List.take_append_drop]
theorem gSigns : Tryz.prog.globalNamed "semblance/expr.signs" = some 1 := by kernel_rfl
theorem tSigns : (Tryz.prog.globals[1]?).map (·.type) = some 138 := by kernel_rfl
theorem laid_signs {H : Type} : (Rows.laid_semblance_expr_signs : DataW H) = .agg (sgs.map sgD) := rfl
theorem signs_one {W : World} {rest : List (String × DataW Unit)} (h : laidMet Tryz.prog (("semblance/expr.signs", Rows.laid_semblance_expr_signs) :: rest) W) : SignsIn W := by
  obtain ⟨ps, ⟨g', t', cs, fuel, p, q, hg', ht', hvar, hd, _, _⟩, _⟩ := h
  obtain rfl := Option.some.inj (gSigns.symm.trans hg')
  obtain rfl := Option.some.inj (tSigns.symm.trans ht')
  rw [laid_signs] at hd
  obtain ⟨xs, m, _, hx, hl, hxl, hel⟩ := DataW.trod_array Tryz.underlying138 hd
  simp only [Prod.mk.injEq, DataW.agg.injEq] at hx
  have hxs := hx.1
  rw [sg_table] at hl
  have hc : cs.toList = sgs.flatMap sgC := by
    refine flat_parts (k := 5) (fun s => rfl) sgs _ (by rw [hl]; rfl) (fun i s hs => ?_)
    have hi : i < 11 := by have := get_lt hs; rwa [sgs_len] at this
    obtain ⟨y, hy⟩ : ∃ y, xs[i]? = some y := get_some (by omega)
    have hf := (hel i hi).trans hy
    rw [sg_cells] at hf
    have h2 : (xs.map (·.1))[i]? = some y.1 := by simp [hy]
    rw [← hxs, List.getElem?_map, hs] at h2
    have h3 : sgD s = y.1 := Option.some.inj h2
    obtain ⟨y1, y2⟩ := y
    subst h3
    exact sign_part hf
  have e : cs = signsV := Array.toList_inj.mp hc
  subst e
  unfold World.var? at hvar
  rw [gSigns] at hvar
  simp only [Option.bind_some] at hvar
  split at hvar
  · rename_i cs' T fr hb
    cases hvar
    exact ⟨T, fr, hb⟩
  · cases hvar
theorem signs_in {W : World} {x : String × DataW Unit} {rest : List (String × DataW Unit)} (h : laidMet Tryz.prog (x :: ("semblance/expr.signs", Rows.laid_semblance_expr_signs) :: rest) W) : SignsIn W := signs_one (laidMet.tail h)
end Go.Proofs.YtobpcpfomdblgaaGreatDoor
