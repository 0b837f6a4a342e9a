/- EvalRefAt, joined. -/
import Derived.Test.YtbkgkdfameojfaaMEvalCheck
import Derived.Test.YtbkgkdfameojfaaMTermA
import Derived.BigQuiet
namespace Go.Proofs.Ytbkgkdfameojfaa
open Go.RowKit Go.Sort TermSpec EvalSpec NamesSpec Go.Lib ValSpec
set_option maxRecDepth 100000

/-- What is known of the terms and the Env. -/
structure Comes (p : EP) (e : Ev) (A : Option Addr) (n c : Nat) (l : List Tm) : Prop where
  hn : n = l.length
  hn62 : n ≤ 4398046511104
  may : l.all mayB = true
  known : knownB e l = true
  few : e.vars.length ≤ 4
theorem Comes.has {p : EP} {e : Ev} {A : Option Addr} {n c : Nat} {l : List Tm} (h : Comes p e A n c l) {k : Nat} {t : Tm} (ht : l[k]? = some t) (h2 : t.op = 2) : hasS (vnames e) t.s = true := by
  have := h.known
  unfold knownB at this
  rw [List.all_eq_true] at this
  have := this t (List.mem_of_getElem? ht)
  simpa [h2] using this
theorem Comes.bd {p : EP} {e : Ev} {A : Option Addr} {n c : Nat} {l : List Tm} (h : Comes p e A n c l) (k : Nat) : -1000000 ≤ comeE e (l.drop k) ∧ comeE e (l.drop k) ≤ 1000000 := by
  refine comeE_bd ?_
  have := h.may
  rw [List.all_eq_true] at this ⊢
  exact fun u hu => this u (List.mem_of_mem_drop hu)
theorem below_placeE {e : Ev} {l : List Tm} {a q m k : Nat} (h : cnt q (l.drop (a + 1)) = some m) (hk : k < q) :
    ∃ x, (belows l a q)[k]? = some ((a + 1 + x : Nat) : Int) ∧ 0 ≤ endA l ((a + 1 + x : Nat) : Int) ∧ a + 1 + x ≤ max l.length (a + 1) ∧ (stackE e (l.drop (a + 1)))[k]? = some (comeE e (l.drop (a + 1 + x))) := by
  have h' := h
  rw [show q = (k + 1) + (q - (k + 1)) by omega] at h'
  obtain ⟨z, _, hz, _, _⟩ := cnt_split h'
  obtain ⟨x, y, hx, hy, _⟩ := cnt_split hz
  have hle := (cnt_le hx).1
  rw [List.length_drop] at hle
  refine ⟨x, ?_, ?_, by omega, ?_⟩
  · rw [belows_get hk, hx]; rfl
  · have := (below_next h hk).1
    rw [hx] at this
    simp only [Option.getD_some] at this
    rw [this]; omega
  · obtain ⟨x', hx', hg⟩ := stackE_get (e := e) hz
    rw [hx] at hx'
    cases hx'
    rwa [List.drop_drop] at hg
theorem comeE_0 {e : Ev} {l : List Tm} {a : Nat} {t : Tm} (ht : l[a]? = some t) (h : ar t.op = 0) : comeE e (l.drop a) = ev0 e t := by
  rw [comeE_at ht]; unfold evF evT; rw [if_pos h]
theorem comeE_1 {e : Ev} {l : List Tm} {a : Nat} {t : Tm} {x : Int} (ht : l[a]? = some t) (h : ar t.op = 1) (hx : (stackE e (l.drop (a + 1)))[0]? = some x) : comeE e (l.drop a) = ev1 t.op x := by
  rw [comeE_at ht]; unfold evF evT
  rw [if_neg (by omega), if_pos h, List.getElem?_take_of_lt (by unfold arN; omega), hx]; rfl
theorem comeE_2 {e : Ev} {l : List Tm} {a : Nat} {t : Tm} {x y : Int} (ht : l[a]? = some t) (h : ar t.op = 2) (hx : (stackE e (l.drop (a + 1)))[0]? = some x) (hy : (stackE e (l.drop (a + 1)))[1]? = some y) : comeE e (l.drop a) = ev2 t.op x y := by
  rw [comeE_at ht]; unfold evF evT
  rw [if_neg (by omega), if_neg (by omega), List.getElem?_take_of_lt (by unfold arN; omega), List.getElem?_take_of_lt (by unfold arN; omega), hx, hy]; rfl
/-- The cells of the Env and of the term that the call has boxed. -/
def RAH (p : EP) (e : Ev) (A : Option Addr) (n c : Nat) (l : List Tm) (a : Nat) (x : Int) : Prop := ∀ w, Tms w (.slice A n c) l → EnvIn w p e → Calls Try.prog 12 #[.slice A n c, .int .i64 a, envV p e] w (RetI w x)
set_option maxHeartbeats 2000000 in
theorem rat_op1 (p : EP) (e : Ev) (A : Option Addr) (n c : Nat) (l : List Tm) (k0 : Nat) (w : World) (hC : Comes p e A n c l) (h : Tms w (.slice A n c) l) (he : EnvIn w p e) (tn : Int) (s : ByteArray) (ht : l[k0]? = some ⟨1, tn, s⟩) (hend : 0 ≤ endA l k0) :
    Calls Try.prog 12 #[.slice A n c, .int .i64 k0, envV p e] w (RetI w (comeE e (l.drop k0))) := by
  rw [comeE_0 ht rfl]
  have HBL := Lib.hid (fun w h => rbelow_any A n c l k0 w h hC.hn (by have := hC.hn62; omega) _ ht hend)
  obtain ⟨r, hr⟩ : ∃ r, r = ev0 e ⟨1, tn, s⟩ := ⟨_, rfl⟩
  rw [← hr]
  have HR := Lib.hid hr
  have hk := get_lt ht
  rw [← hC.hn] at hk
  have hkI : (k0 : Int) < n := by omega
  have HT := Lib.hid h
  have HEN := Lib.hid he
  obtain ⟨vA, vn, vc, iA, im, ic⟩ := p
  obtain ⟨E, hE⟩ : ∃ E, E = e := ⟨_, rfl⟩
  rw [← hE] at HR HEN
  have HE := Lib.hid hE
  obtain ⟨b, off, rfl, hb, c0, c1, c2⟩ := h.at_ ht
  simp only at c0 c1 c2
  obtain ⟨vars, v0, v1, v2, v3, ins⟩ := e
  change Calls _ _ #[.slice (some ⟨b, off, none⟩) n c, .int .i64 k0, .agg #[.slice vA vn vc, .int .i64 v0, .int .i64 v1, .int .i64 v2, .int .i64 v3, .slice iA im ic]] _ _
  have d0 := ((KitC.below_one w (.cells #[.slice vA vn vc, .int .i64 v0, .int .i64 v1, .int .i64 v2, .int .i64 v3, .slice iA im ic] 27)).cell (p := ⟨b, off + k0 * 3, none⟩) hb).trans c0
  have d1 := ((KitC.below_one w (.cells #[.slice vA vn vc, .int .i64 v0, .int .i64 v1, .int .i64 v2, .int .i64 v3, .slice iA im ic] 27)).cell (p := ⟨b, off + k0 * 3 + 1, none⟩) hb).trans c1
  have d2 := ((KitC.below_one w (.cells #[.slice vA vn vc, .int .i64 v0, .int .i64 v1, .int .i64 v2, .int .i64 v3, .slice iA im ic] 27)).cell (p := ⟨b, off + k0 * 3 + 2, none⟩) hb).trans c2
  clear hr h he ht hend hE hC c0 c1 c2
  go_enter Try.func12, Try.ntmps12
  go_wp2_with (go_at_call 25; (with_reducible refine (HBL.out _ (HT.out.keep (KitC.below_pair _ _ _))).mono ?_))
  rintro e2 w1 ⟨vv, rfl, hr2, hb1⟩
  obtain ⟨A2, n2, c2', rfl, hn2, hc2, hA2⟩ := hr2.ints
  rw [belows_length] at hn2
  obtain rfl : 0 = n2 := hn2
  obtain ⟨B1, B2, hbw, hz⟩ := KitC.pair_blocks hb1
  have HBW := Lib.hid hbw
  obtain ⟨t0, t1, t2⟩ := cells_3 B2
  obtain ⟨z0, z1, z2, z3, z4, z5⟩ := cells_6 B1
  clear hr2 hb1 hA2 hc2 B2 hbw d0 d1 d2
  clear B1
  go_wp2_with fail
  go_ret
  exact ⟨ret_int (by rw [HR.out]; simp [ev0]), HBW.out⟩
set_option maxHeartbeats 2000000 in
theorem rat_op9 (p : EP) (e : Ev) (A : Option Addr) (n c : Nat) (l : List Tm) (k0 : Nat) (w : World) (hC : Comes p e A n c l) (h : Tms w (.slice A n c) l) (he : EnvIn w p e) (tn : Int) (s : ByteArray) (ht : l[k0]? = some ⟨9, tn, s⟩) (hend : 0 ≤ endA l k0) :
    Calls Try.prog 12 #[.slice A n c, .int .i64 k0, envV p e] w (RetI w (comeE e (l.drop k0))) := by
  rw [comeE_0 ht rfl]
  have HBL := Lib.hid (fun w h => rbelow_any A n c l k0 w h hC.hn (by have := hC.hn62; omega) _ ht hend)
  obtain ⟨r, hr⟩ : ∃ r, r = ev0 e ⟨9, tn, s⟩ := ⟨_, rfl⟩
  rw [← hr]
  have HR := Lib.hid hr
  have hk := get_lt ht
  rw [← hC.hn] at hk
  have hkI : (k0 : Int) < n := by omega
  have HT := Lib.hid h
  have HEN := Lib.hid he
  obtain ⟨vA, vn, vc, iA, im, ic⟩ := p
  obtain ⟨E, hE⟩ : ∃ E, E = e := ⟨_, rfl⟩
  rw [← hE] at HR HEN
  have HE := Lib.hid hE
  obtain ⟨b, off, rfl, hb, c0, c1, c2⟩ := h.at_ ht
  simp only at c0 c1 c2
  obtain ⟨vars, v0, v1, v2, v3, ins⟩ := e
  change Calls _ _ #[.slice (some ⟨b, off, none⟩) n c, .int .i64 k0, .agg #[.slice vA vn vc, .int .i64 v0, .int .i64 v1, .int .i64 v2, .int .i64 v3, .slice iA im ic]] _ _
  have d0 := ((KitC.below_one w (.cells #[.slice vA vn vc, .int .i64 v0, .int .i64 v1, .int .i64 v2, .int .i64 v3, .slice iA im ic] 27)).cell (p := ⟨b, off + k0 * 3, none⟩) hb).trans c0
  have d1 := ((KitC.below_one w (.cells #[.slice vA vn vc, .int .i64 v0, .int .i64 v1, .int .i64 v2, .int .i64 v3, .slice iA im ic] 27)).cell (p := ⟨b, off + k0 * 3 + 1, none⟩) hb).trans c1
  have d2 := ((KitC.below_one w (.cells #[.slice vA vn vc, .int .i64 v0, .int .i64 v1, .int .i64 v2, .int .i64 v3, .slice iA im ic] 27)).cell (p := ⟨b, off + k0 * 3 + 2, none⟩) hb).trans c2
  clear hr h he ht hend hE hC c0 c1 c2
  go_enter Try.func12, Try.ntmps12
  go_wp2_with (go_at_call 25; (with_reducible refine (HBL.out _ (HT.out.keep (KitC.below_pair _ _ _))).mono ?_))
  rintro e2 w1 ⟨vv, rfl, hr2, hb1⟩
  obtain ⟨A2, n2, c2', rfl, hn2, hc2, hA2⟩ := hr2.ints
  rw [belows_length] at hn2
  obtain rfl : 0 = n2 := hn2
  obtain ⟨B1, B2, hbw, hz⟩ := KitC.pair_blocks hb1
  have HBW := Lib.hid hbw
  obtain ⟨t0, t1, t2⟩ := cells_3 B2
  obtain ⟨z0, z1, z2, z3, z4, z5⟩ := cells_6 B1
  clear hr2 hb1 hA2 hc2 B2 hbw d0 d1 d2
  clear B1
  go_wp2_with fail
  go_ret
  exact ⟨ret_int (by rw [HR.out]; simp [ev0, tru]), HBW.out⟩
set_option maxHeartbeats 2000000 in
theorem rat_op10 (p : EP) (e : Ev) (A : Option Addr) (n c : Nat) (l : List Tm) (k0 : Nat) (w : World) (hC : Comes p e A n c l) (h : Tms w (.slice A n c) l) (he : EnvIn w p e) (tn : Int) (s : ByteArray) (ht : l[k0]? = some ⟨10, tn, s⟩) (hend : 0 ≤ endA l k0) :
    Calls Try.prog 12 #[.slice A n c, .int .i64 k0, envV p e] w (RetI w (comeE e (l.drop k0))) := by
  rw [comeE_0 ht rfl]
  have HBL := Lib.hid (fun w h => rbelow_any A n c l k0 w h hC.hn (by have := hC.hn62; omega) _ ht hend)
  obtain ⟨r, hr⟩ : ∃ r, r = ev0 e ⟨10, tn, s⟩ := ⟨_, rfl⟩
  rw [← hr]
  have HR := Lib.hid hr
  have hk := get_lt ht
  rw [← hC.hn] at hk
  have hkI : (k0 : Int) < n := by omega
  have HT := Lib.hid h
  have HEN := Lib.hid he
  obtain ⟨vA, vn, vc, iA, im, ic⟩ := p
  obtain ⟨E, hE⟩ : ∃ E, E = e := ⟨_, rfl⟩
  rw [← hE] at HR HEN
  have HE := Lib.hid hE
  obtain ⟨b, off, rfl, hb, c0, c1, c2⟩ := h.at_ ht
  simp only at c0 c1 c2
  obtain ⟨vars, v0, v1, v2, v3, ins⟩ := e
  change Calls _ _ #[.slice (some ⟨b, off, none⟩) n c, .int .i64 k0, .agg #[.slice vA vn vc, .int .i64 v0, .int .i64 v1, .int .i64 v2, .int .i64 v3, .slice iA im ic]] _ _
  have d0 := ((KitC.below_one w (.cells #[.slice vA vn vc, .int .i64 v0, .int .i64 v1, .int .i64 v2, .int .i64 v3, .slice iA im ic] 27)).cell (p := ⟨b, off + k0 * 3, none⟩) hb).trans c0
  have d1 := ((KitC.below_one w (.cells #[.slice vA vn vc, .int .i64 v0, .int .i64 v1, .int .i64 v2, .int .i64 v3, .slice iA im ic] 27)).cell (p := ⟨b, off + k0 * 3 + 1, none⟩) hb).trans c1
  have d2 := ((KitC.below_one w (.cells #[.slice vA vn vc, .int .i64 v0, .int .i64 v1, .int .i64 v2, .int .i64 v3, .slice iA im ic] 27)).cell (p := ⟨b, off + k0 * 3 + 2, none⟩) hb).trans c2
  clear hr h he ht hend hE hC c0 c1 c2
  go_enter Try.func12, Try.ntmps12
  go_wp2_with (go_at_call 25; (with_reducible refine (HBL.out _ (HT.out.keep (KitC.below_pair _ _ _))).mono ?_))
  rintro e2 w1 ⟨vv, rfl, hr2, hb1⟩
  obtain ⟨A2, n2, c2', rfl, hn2, hc2, hA2⟩ := hr2.ints
  rw [belows_length] at hn2
  obtain rfl : 0 = n2 := hn2
  obtain ⟨B1, B2, hbw, hz⟩ := KitC.pair_blocks hb1
  have HBW := Lib.hid hbw
  obtain ⟨t0, t1, t2⟩ := cells_3 B2
  obtain ⟨z0, z1, z2, z3, z4, z5⟩ := cells_6 B1
  clear hr2 hb1 hA2 hc2 B2 hbw d0 d1 d2
  clear B1
  go_wp2_with fail
  go_ret
  exact ⟨ret_int (by rw [HR.out]; simp [ev0, tru]), HBW.out⟩
set_option maxHeartbeats 2000000 in
theorem rat_op2 (p : EP) (e : Ev) (A : Option Addr) (n c : Nat) (l : List Tm) (k0 : Nat) (w : World) (hC : Comes p e A n c l) (h : Tms w (.slice A n c) l) (he : EnvIn w p e) (tn : Int) (s : ByteArray) (ht : l[k0]? = some ⟨2, tn, s⟩) (hend : 0 ≤ endA l k0) :
    Calls Try.prog 12 #[.slice A n c, .int .i64 k0, envV p e] w (RetI w (comeE e (l.drop k0))) := by
  rw [comeE_0 ht rfl]
  obtain ⟨k, hik, hk4⟩ := known_place (hC.has ht rfl) hC.few
  obtain ⟨x, hx⟩ : ∃ x, x = valAt e k := ⟨_, rfl⟩
  have HNR := Lib.hid (rnear_any x)
  have HX := Lib.hid hx
  have HRX0 := Lib.hid (show ev0 e ⟨2, tn, s⟩ = near x by unfold ev0; simp [hik, hx])
  have HV0 := Lib.hid (fun w h => rvariable_any p e s w h)
  rw [hik] at HV0
  clear hik hx
  have HBL := Lib.hid (fun w h => rbelow_any A n c l k0 w h hC.hn (by have := hC.hn62; omega) _ ht hend)
  obtain ⟨r, hr⟩ : ∃ r, r = ev0 e ⟨2, tn, s⟩ := ⟨_, rfl⟩
  rw [← hr]
  have HR := Lib.hid hr
  have hk := get_lt ht
  rw [← hC.hn] at hk
  have hkI : (k0 : Int) < n := by omega
  have HT := Lib.hid h
  have HEN := Lib.hid he
  obtain ⟨vA, vn, vc, iA, im, ic⟩ := p
  obtain ⟨E, hE⟩ : ∃ E, E = e := ⟨_, rfl⟩
  rw [← hE] at HR HEN HX
  have HE := Lib.hid hE
  have HRX : Hid (r = near x) := Lib.hid (by rw [hr]; exact HRX0.out)
  obtain ⟨b, off, rfl, hb, c0, c1, c2⟩ := h.at_ ht
  simp only at c0 c1 c2
  obtain ⟨vars, v0, v1, v2, v3, ins⟩ := e
  have HV : Hid (∀ w, EnvIn w ⟨vA, vn, vc, iA, im, ic⟩ E → Calls Try.prog 20 #[.agg #[.slice vA vn vc, .int .i64 v0, .int .i64 v1, .int .i64 v2, .int .i64 v3, .slice iA im ic], .string s] w (RetI w (k : Int))) := Lib.hid (fun w h => HV0.out w (by rw [← HE.out]; exact h))
  have HX : Hid (x = if k = 0 then v0 else if k = 1 then v1 else if k = 2 then v2 else v3) := Lib.hid (by have := HX.out; rw [HE.out] at this; rw [this]; unfold valAt; rcases (show k = 0 ∨ k = 1 ∨ k = 2 ∨ k = 3 by omega) with h | h | h | h <;> simp [h])
  change Calls _ _ #[.slice (some ⟨b, off, none⟩) n c, .int .i64 k0, .agg #[.slice vA vn vc, .int .i64 v0, .int .i64 v1, .int .i64 v2, .int .i64 v3, .slice iA im ic]] _ _
  have d0 := ((KitC.below_one w (.cells #[.slice vA vn vc, .int .i64 v0, .int .i64 v1, .int .i64 v2, .int .i64 v3, .slice iA im ic] 27)).cell (p := ⟨b, off + k0 * 3, none⟩) hb).trans c0
  have d1 := ((KitC.below_one w (.cells #[.slice vA vn vc, .int .i64 v0, .int .i64 v1, .int .i64 v2, .int .i64 v3, .slice iA im ic] 27)).cell (p := ⟨b, off + k0 * 3 + 1, none⟩) hb).trans c1
  have d2 := ((KitC.below_one w (.cells #[.slice vA vn vc, .int .i64 v0, .int .i64 v1, .int .i64 v2, .int .i64 v3, .slice iA im ic] 27)).cell (p := ⟨b, off + k0 * 3 + 2, none⟩) hb).trans c2
  clear hr h he ht hend hE hC c0 c1 c2 HV0 HRX0 HR
  go_enter Try.func12, Try.ntmps12
  go_wp2_with (go_at_call 25; (with_reducible refine (HBL.out _ (HT.out.keep (KitC.below_pair _ _ _))).mono ?_))
  rintro e2 w1 ⟨vv, rfl, hr2, hb1⟩
  obtain ⟨A2, n2, c2', rfl, hn2, hc2, hA2⟩ := hr2.ints
  rw [belows_length] at hn2
  obtain rfl : 0 = n2 := hn2
  obtain ⟨B1, B2, hbw, hz⟩ := KitC.pair_blocks hb1
  have HBW := Lib.hid hbw
  obtain ⟨t0, t1, t2⟩ := cells_3 B2
  obtain ⟨z0, z1, z2, z3, z4, z5⟩ := cells_6 B1
  clear hr2 hb1 hA2 hc2 B2 hbw d0 d1 d2
  go_wp2_with (go_at_call 20; (with_reducible refine (HV.out _ (HEN.out.keep HBW.out)).mono ?_))
  rintro e2 w3 ⟨rfl, hb3⟩
  have HB3 := Lib.hid (below_two' HBW.out hb3)
  have hcell : w3.cell? ⟨w.heap.size, 1 + k, none⟩ = some (.int .i64 x) := by
    obtain ⟨-, q1, q2, q3, q4, -⟩ := cells_6 (KitC.block_on B1 hb3)
    have := HX.out
    rcases (show k = 0 ∨ k = 1 ∨ k = 2 ∨ k = 3 by omega) with rfl | rfl | rfl | rfl
    · rw [this]; exact q1
    · rw [this]; exact q2
    · rw [this]; exact q3
    · rw [this]; exact q4
  clear t0 t1 t2 z0 z1 z2 z3 z4 z5 B1 hb3
  go_wp2_with (go_at_call 26; (with_reducible refine (HNR.out _).mono ?_); rintro e w' ⟨rfl, rfl⟩)
  go_ret
  exact ⟨ret_int HRX.out.symm, HB3.out⟩
set_option maxHeartbeats 2000000 in
theorem rat_op11 (p : EP) (e : Ev) (A : Option Addr) (n c : Nat) (l : List Tm) (k0 : Nat) (w : World) (hC : Comes p e A n c l) (h : Tms w (.slice A n c) l) (he : EnvIn w p e) (tn : Int) (s : ByteArray) (ht : l[k0]? = some ⟨11, tn, s⟩) (hend : 0 ≤ endA l k0) :
    Calls Try.prog 12 #[.slice A n c, .int .i64 k0, envV p e] w (RetI w (comeE e (l.drop k0))) := by
  rw [comeE_0 ht rfl]
  have HP := Lib.hid (fun w h => rplace_any (.slice p.iA p.im p.ic) e.ins s w h he.ibd)
  have HINS := Lib.hid he.ins
  have HIS := Lib.hid (fun b => eis_any b)
  obtain ⟨x, hx⟩ : ∃ x, x = idxOfS e.ins s := ⟨_, rfl⟩
  rw [← hx] at HP
  have HRX0 := Lib.hid (show ev0 e ⟨11, tn, s⟩ = tru (decide (0 ≤ x)) by unfold ev0; simp [hx])
  clear hx
  have HBL := Lib.hid (fun w h => rbelow_any A n c l k0 w h hC.hn (by have := hC.hn62; omega) _ ht hend)
  obtain ⟨r, hr⟩ : ∃ r, r = ev0 e ⟨11, tn, s⟩ := ⟨_, rfl⟩
  rw [← hr]
  have HR := Lib.hid hr
  have hk := get_lt ht
  rw [← hC.hn] at hk
  have hkI : (k0 : Int) < n := by omega
  have HT := Lib.hid h
  have HEN := Lib.hid he
  obtain ⟨vA, vn, vc, iA, im, ic⟩ := p
  obtain ⟨E, hE⟩ : ∃ E, E = e := ⟨_, rfl⟩
  rw [← hE] at HR HEN
  have HE := Lib.hid hE
  have HRX : Hid (r = tru (decide (0 ≤ x))) := Lib.hid (by rw [hr]; exact HRX0.out)
  obtain ⟨b, off, rfl, hb, c0, c1, c2⟩ := h.at_ ht
  simp only at c0 c1 c2
  obtain ⟨vars, v0, v1, v2, v3, ins⟩ := e
  simp only at HP HINS
  change Calls _ _ #[.slice (some ⟨b, off, none⟩) n c, .int .i64 k0, .agg #[.slice vA vn vc, .int .i64 v0, .int .i64 v1, .int .i64 v2, .int .i64 v3, .slice iA im ic]] _ _
  have d0 := ((KitC.below_one w (.cells #[.slice vA vn vc, .int .i64 v0, .int .i64 v1, .int .i64 v2, .int .i64 v3, .slice iA im ic] 27)).cell (p := ⟨b, off + k0 * 3, none⟩) hb).trans c0
  have d1 := ((KitC.below_one w (.cells #[.slice vA vn vc, .int .i64 v0, .int .i64 v1, .int .i64 v2, .int .i64 v3, .slice iA im ic] 27)).cell (p := ⟨b, off + k0 * 3 + 1, none⟩) hb).trans c1
  have d2 := ((KitC.below_one w (.cells #[.slice vA vn vc, .int .i64 v0, .int .i64 v1, .int .i64 v2, .int .i64 v3, .slice iA im ic] 27)).cell (p := ⟨b, off + k0 * 3 + 2, none⟩) hb).trans c2
  clear hr h he ht hend hE hC c0 c1 c2 HRX0 HR
  go_enter Try.func12, Try.ntmps12
  go_wp2_with (go_at_call 25; (with_reducible refine (HBL.out _ (HT.out.keep (KitC.below_pair _ _ _))).mono ?_))
  rintro e2 w1 ⟨vv, rfl, hr2, hb1⟩
  obtain ⟨A2, n2, c2', rfl, hn2, hc2, hA2⟩ := hr2.ints
  rw [belows_length] at hn2
  obtain rfl : 0 = n2 := hn2
  obtain ⟨B1, B2, hbw, hz⟩ := KitC.pair_blocks hb1
  have HBW := Lib.hid hbw
  obtain ⟨t0, t1, t2⟩ := cells_3 B2
  obtain ⟨z0, z1, z2, z3, z4, z5⟩ := cells_6 B1
  clear hr2 hb1 hA2 hc2 B2 hbw d0 d1 d2
  clear B1
  go_wp2_with (first
    | (go_at_call 28; (with_reducible refine (HP.out _ (HINS.out.keep HBW.out)).mono ?_); rintro e w' ⟨rfl, rfl⟩)
    | (go_at_call 27; (with_reducible refine (HIS.out _ _).mono ?_); rintro e w' ⟨rfl, rfl⟩))
  go_ret
  exact ⟨ret_int (by rw [HRX.out]), HBW.out⟩
end Go.Proofs.Ytbkgkdfameojfaa
