/- EvalReckon, joined. -/
import Derived.Test.YtbkgkdfameojfaaMEvalNone
import Derived.BigQuiet
import Derived.Deep.QuietTactic
namespace Go.Proofs.Ytbkgkdfameojfaa
open Go.RowKit TermSpec EvalSpec NamesSpec Go.Lib ValSpec
set_option maxRecDepth 100000

theorem quiet_sameI {P : Program} {f : FuncId} {args : Array Value} {n : Int} (h : ∀ w, Calls P f args w (SameI w n)) (W : World) (k : Nat) : Calls P f args (W.drewN k) fun e w'' => e = .returned (.int .i64 n) ∧ ∃ m, w'' = W.drewN m :=
  (h _).mono fun _ _ ⟨he, hw⟩ => ⟨he, k, hw.symm⟩
set_option maxHeartbeats 1000000 in
theorem reckon_0 (p : EP) (e : Ev) (t : Tm) (w : World) (A : Option Addr) (c : Nat) (h : EnvIn w p e) (h4 : e.vars.length ≤ 4) (hk : t.op = 2 → hasS (vnames e) t.s = true) :
    Calls Try.prog 18 #[.agg #[.int .i64 t.op, .int .i64 t.n, .string t.s], .slice A 0 c, envV p e] w (RetI w (ev0 e t)) := by
  have HN := Lib.hid (fun w h => ofNone_any p e t w h h4 hk)
  have HEN := Lib.hid h
  obtain ⟨vA, vn, vc, iA, im, ic⟩ := p
  obtain ⟨r, hr⟩ : ∃ r, r = ev0 e t := ⟨_, rfl⟩
  rw [← hr] at HN ⊢
  obtain ⟨vars, v0, v1, v2, v3, ins⟩ := e
  obtain ⟨o, n, s⟩ := t
  change Calls _ _ #[.agg #[.int .i64 o, .int .i64 n, .string s], .slice A 0 c, .agg #[.slice vA vn vc, .int .i64 v0, .int .i64 v1, .int .i64 v2, .int .i64 v3, .slice iA im ic]] _ _
  simp only at HN
  clear h h4 hk hr
  go_enter Try.func18, Try.ntmps18
  go_wp2_with (go_at_call 30; (with_reducible refine (HN.out _ (HEN.out.keep (KitC.below_pair _ _ _))).mono ?_))
  rintro e2 w3 ⟨rfl, hb3⟩
  obtain ⟨-, -, hb, -⟩ := KitC.pair_blocks hb3
  have HB := Lib.hid hb
  clear hb hb3
  go_wp2_with fail
  go_ret
  exact ⟨rfl, HB.out⟩
set_option maxHeartbeats 1000000 in
theorem reckon_1 (p : EP) (e : Ev) (t : Tm) (w : World) (b off c : Nat) (x : Int) (hb : b < w.heap.size) (h0 : w.cell? ⟨b, off, none⟩ = some (.int .i64 x)) (hc : 1 ≤ c) (h1 : -1000000 ≤ x) (h2 : x ≤ 1000000) :
    Calls Try.prog 18 #[.agg #[.int .i64 t.op, .int .i64 t.n, .string t.s], .slice (some ⟨b, off, none⟩) 1 c, envV p e] w (RetI w (ev1 t.op x)) := by
  have HQ := Lib.hid (fun W k => quiet_sameI (fun w => ofOne_any t.op x w h1 h2) W k)
  obtain ⟨vA, vn, vc, iA, im, ic⟩ := p
  obtain ⟨r, hr⟩ : ∃ r, r = ev1 t.op x := ⟨_, rfl⟩
  rw [← hr] at HQ ⊢
  obtain ⟨vars, v0, v1, v2, v3, ins⟩ := e
  obtain ⟨o, n, s⟩ := t
  change Calls _ _ #[.agg #[.int .i64 o, .int .i64 n, .string s], .slice (some ⟨b, off, none⟩) 1 c, .agg #[.slice vA vn vc, .int .i64 v0, .int .i64 v1, .int .i64 v2, .int .i64 v3, .slice iA im ic]] _ _
  simp only at HQ
  have hcell := ((KitC.below_pair w (.cells #[.int .i64 o, .int .i64 n, .string s] 39) (.cells #[.slice vA vn vc, .int .i64 v0, .int .i64 v1, .int .i64 v2, .int .i64 v3, .slice iA im ic] 27)).cell (p := ⟨b, off, none⟩) hb).trans h0
  clear hr h1 h2
  go_enter Try.func18, Try.ntmps18
  go_wp2_with fail
  go_quiet ((go_at_call 31; exact HQ.out _ _))
  go_wp2_with fail
  go_ret
  exact ⟨rfl, below_drewN (KitC.below_pair _ _ _) _⟩
set_option maxHeartbeats 1000000 in
theorem reckon_2 (p : EP) (e : Ev) (t : Tm) (w : World) (b off c : Nat) (x y : Int) (hb : b < w.heap.size) (h0 : w.cell? ⟨b, off, none⟩ = some (.int .i64 y)) (h00 : w.cell? ⟨b, off + 1, none⟩ = some (.int .i64 x)) (hc : 2 ≤ c) (g1 : -1000000 ≤ x) (g2 : x ≤ 1000000) (g3 : -1000000 ≤ y) (g4 : y ≤ 1000000)
    (o4 : 4 ≤ t.op) (o20 : t.op ≤ 20) (o9 : t.op ≤ 8 ∨ 13 ≤ t.op) :
    Calls Try.prog 18 #[.agg #[.int .i64 t.op, .int .i64 t.n, .string t.s], .slice (some ⟨b, off, none⟩) 2 c, envV p e] w (RetI w (ev2 t.op x y)) := by
  have HQ := Lib.hid (fun W k => quiet_sameI (fun w => ofTwo_any t.op x y w o4 o20 o9 g1 g2 g3 g4) W k)
  obtain ⟨vA, vn, vc, iA, im, ic⟩ := p
  obtain ⟨r, hr⟩ : ∃ r, r = ev2 t.op x y := ⟨_, rfl⟩
  rw [← hr] at HQ ⊢
  obtain ⟨vars, v0, v1, v2, v3, ins⟩ := e
  obtain ⟨o, n, s⟩ := t
  change Calls _ _ #[.agg #[.int .i64 o, .int .i64 n, .string s], .slice (some ⟨b, off, none⟩) 2 c, .agg #[.slice vA vn vc, .int .i64 v0, .int .i64 v1, .int .i64 v2, .int .i64 v3, .slice iA im ic]] _ _
  simp only at HQ
  have hcell := ((KitC.below_pair w (.cells #[.int .i64 o, .int .i64 n, .string s] 39) (.cells #[.slice vA vn vc, .int .i64 v0, .int .i64 v1, .int .i64 v2, .int .i64 v3, .slice iA im ic] 27)).cell (p := ⟨b, off, none⟩) hb).trans h0
  have hcell2 := ((KitC.below_pair w (.cells #[.int .i64 o, .int .i64 n, .string s] 39) (.cells #[.slice vA vn vc, .int .i64 v0, .int .i64 v1, .int .i64 v2, .int .i64 v3, .slice iA im ic] 27)).cell (p := ⟨b, off + 1, none⟩) hb).trans h00
  clear hr g1 g2 g3 g4 o4 o20 o9
  go_enter Try.func18, Try.ntmps18
  go_wp2_with fail
  go_quiet ((go_at_call 32; exact HQ.out _ _))
  go_wp2_with fail
  go_ret
  exact ⟨rfl, below_drewN (KitC.below_pair _ _ _) _⟩
theorem ar_two {o : Int} (h : ar o = 2) : 4 ≤ o ∧ o ≤ 20 ∧ (o ≤ 8 ∨ 13 ≤ o) := by
  unfold ar at h
  split at h
  · omega
  · split at h
    · omega
    · split at h <;> omega
theorem reckon_any (p : EP) (e : Ev) (t : Tm) (w : World) (v : Value) (bs : List Int) (h : EnvIn w p e) (h4 : e.vars.length ≤ 4) (hk : t.op = 2 → hasS (vnames e) t.s = true) (h0 : 0 ≤ ar t.op) (hl : bs.length = arN t.op) (hv : Rd w v (intV bs.reverse)) (hbd : ∀ x ∈ bs, -1000000 ≤ x ∧ x ≤ 1000000) :
    Calls Try.prog 18 #[.agg #[.int .i64 t.op, .int .i64 t.n, .string t.s], v, envV p e] w (RetI w (evF e t bs)) := by
  obtain ⟨A, n, c, rfl, hn, hc, hA⟩ := hv.ints
  rw [List.length_reverse] at hn
  have ha := arN_of h0
  have hb2 := (ar_bd t.op).2
  match bs, hl, hn, hA, hbd with
  | [], hl, hn, hA, hbd =>
    have e0 : ar t.op = 0 := by simp at hl; omega
    have : evF e t [] = ev0 e t := by unfold evF evT; rw [if_pos e0]
    rw [this, ← hn]
    exact reckon_0 p e t w A c h h4 hk
  | [x], hl, hn, hA, hbd =>
    have e1 : ar t.op = 1 := by simp at hl; omega
    have : evF e t [x] = ev1 t.op x := by unfold evF evT; rw [if_neg (by omega), if_pos e1]; rfl
    rw [this, ← hn]
    obtain ⟨b, off, rfl, hb, hcell⟩ := hA (by rw [← hn]; simp)
    have := hbd x (by simp)
    exact reckon_1 p e t w b off c x hb (hcell 0 x rfl) (by simp at hn; omega) this.1 this.2
  | [x, y], hl, hn, hA, hbd =>
    have e2 : ar t.op = 2 := by simp at hl; omega
    have : evF e t [x, y] = ev2 t.op x y := by unfold evF evT; rw [if_neg (by omega), if_neg (by omega)]; rfl
    rw [this, ← hn]
    obtain ⟨b, off, rfl, hb, hcell⟩ := hA (by rw [← hn]; simp)
    have b1 := hbd x (by simp)
    have b2 := hbd y (by simp)
    obtain ⟨o4, o20, o9⟩ := ar_two e2
    exact reckon_2 p e t w b off c x y hb (hcell 0 y rfl) (hcell 1 x rfl) (by simp at hn; omega) b1.1 b1.2 b2.1 b2.2 o4 o20 o9
  | x :: y :: z :: r, hl, hn, hA, hbd => simp at hl; omega
end Go.Proofs.Ytbkgkdfameojfaa
