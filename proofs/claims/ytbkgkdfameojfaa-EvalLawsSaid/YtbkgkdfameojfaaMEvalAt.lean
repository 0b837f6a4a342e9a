/- EvalAt, joined. -/
import Derived.Test.YtbkgkdfameojfaaMEvalAtMem
import Derived.Lib.QuietBelowIn
namespace Go.Proofs.Ytbkgkdfameojfaa
open Go.RowKit Go.Shelf Go.Sort TermSpec EvalSpec
set_option maxRecDepth 100000

attribute [local go_sem] Oper.semAt_some

set_option maxRecDepth 100000 in
set_option maxHeartbeats 4000000 in
theorem at_yes (p : EP) (e : Ev) (A : Option Addr) (n c : Nat) (l : List Tm) (hn : n = l.length) (hn62 : n ≤ 4398046511104) (hs : Small l) (w : World) (h : Tms w (.slice A n c) l) (he : EnvIn w p e) (hc : chkE e l = 0) :
    Calls Try.prog 7 #[.slice A n c, envV p e] w fun e2 w' => e2 = .returned (.tuple #[.int .i64 (comeE e l), .int .i64 0]) ∧ Below w.heap.size w w' := by
  have HC := Lib.hid (fun w h h' => echeck_any p e A n c l hn hn62 hs w h h')
  rw [hc] at HC
  have HT := Lib.hid h
  have HN := Lib.hid hn
  have HEN := Lib.hid he
  obtain ⟨vA, vn, vc, iA, im, ic⟩ := p
  obtain ⟨E, hE⟩ : ∃ E, E = e := ⟨_, rfl⟩
  obtain ⟨vars, v0, v1, v2, v3, ins⟩ := e
  change Calls _ _ #[.slice A n c, .agg #[.slice vA vn vc, .int .i64 v0, .int .i64 v1, .int .i64 v2, .int .i64 v3, .slice iA im ic]] _ _
  have HCE := Lib.hid hc
  have HEE := Lib.hid hE
  clear h hn he hc hE
  refine (callsIn_wide (n := 5)).1 ?_
  refine callsIn_of_wp_marks Try.func7 rfl trivial ?_ rfl
  simp only [Try.ntmps7, List.size_toArray, List.length_cons, List.length_nil, Nat.reduceAdd, Nat.reduceSub, Array.replicate_succ, Array.replicate_zero, List.push_toArray, List.append_toArray, List.nil_append, List.cons_append]
  gi_wp2_with (refine ⟨trivial, ?_⟩; gi_at_call 9; (with_reducible refine (callsIn_wide.2 (HC.out _ (HT.out.keep (KitC.below_one _ _)) (HEN.out.keep (KitC.below_one _ _)))).mono ?_))
  rintro e2 w2 ⟨rfl, hb2⟩
  obtain ⟨B2, hw2, hz2⟩ := KitC.one_block hb2
  have HB2 := Lib.hid B2
  have HW2 := Lib.hid hw2
  clear hb2 B2 hw2
  gi_wp2_with (refine ⟨trivial, ?_⟩; gi_at_call 16; (with_reducible refine (back_in _ _ trivial rfl _ _ _ _).mono ?_); rintro e w' ⟨rfl, rfl⟩)
  have bC := (Boxed.new w2 37 (.slice none 0 0)).alloc (.cells #[.slice A n c] 22)
  have bS := Boxed.new (w2.alloc (.cells #[.slice none 0 0] 37)) 22 (.slice A n c)
  rw [World.size_alloc] at bS
  have hB0 : Below w.heap.size w ((w2.alloc (.cells #[.slice none 0 0] 37)).alloc (.cells #[.slice A n c] 22)) := below_two' HW2.out (KitC.below_pair _ _ _)
  have bE : ((w2.alloc (.cells #[.slice none 0 0] 37)).alloc (.cells #[.slice A n c] 22)).heap[w.heap.size]? = some (.cells #[.slice vA vn vc, .int .i64 v0, .int .i64 v1, .int .i64 v2, .int .i64 v3, .slice iA im ic] 27) := KitC.block_on HB2.out (KitC.below_pair _ _ _)
  have hsz : ((w2.alloc (.cells #[.slice none 0 0] 37)).alloc (.cells #[.slice A n c] 22)).heap.size = w2.heap.size + 2 := by simp
  obtain ⟨W0, hW0⟩ : ∃ W0, (w2.alloc (.cells #[.slice none 0 0] 37)).alloc (.cells #[.slice A n c] 22) = W0 := ⟨_, rfl⟩
  rw [hW0] at bC bS hB0 bE hsz ⊢
  clear hW0
  have HI0 : Hid (AtI w w2.heap.size (w2.heap.size + 1) (.cells #[.slice vA vn vc, .int .i64 v0, .int .i64 v1, .int .i64 v2, .int .i64 v3, .slice iA im ic] 27) (.slice A n c) (stackE E (l.drop (n - 0))) W0) := Lib.hid (by
    have e0 : stackE E (l.drop (n - 0)) = [] := by rw [Nat.sub_zero, HN.out, List.drop_length]; rfl
    rw [e0]
    exact ⟨⟨⟨_, bC, World.ownsRow_nil _ _ _ _, trivial⟩, bE, bS⟩, hB0⟩)
  have HCNT : Hid (cnt 1 l = some l.length) := Lib.hid (wholeB_iff.1 (chk_ok (chkE_ok HCE.out).2.1).1).2
  have HBS := Lib.hid bS
  clear bC bE hB0 bS
  refine range_seq rfl (by omega) (gf := 29) (lb := #[.pointer (some ⟨w2.heap.size + 1, 0, none⟩)]) rfl trivial (enters_of Try.func29 (by kernel_rfl) rfl)
    (back_hands Fence.wide (5 - 1) trivial rfl (by omega) (w2.heap.size + 1) w.heap.size A n c l HN.out (by omega) W0 HBS.out w HT.out HI0.out.2 (Nat.le_refl _)) (fun h k => h.trans k) (KpB.turn (by omega) (by omega)) (fun _ => rfl)
    (fun k W => AtI w w2.heap.size (w2.heap.size + 1) (.cells #[.slice vA vn vc, .int .i64 v0, .int .i64 v1, .int .i64 v2, .int .i64 v3, .slice iA im ic] 27) (.slice A n c) (stackE E (l.drop (n - k))) W)
    (AtI.own _ _ _ _ _ _ _ _ (by omega)) HI0.out
    (fun k a' W => ∃ Bx, W0.heap.size ≤ Bx ∧ W.heap[Bx]? = some (.cells #[.int .i64 (backAt l k).2.op, .int .i64 (backAt l k).2.n, .string (backAt l k).2.s] 39) ∧ a' = { tmps := #[.slice A n c, .agg #[.slice vA vn vc, .int .i64 v0, .int .i64 v1, .int .i64 v2, .int .i64 v3, .slice iA im ic], undef, .pointer (some ⟨w.heap.size, 0, none⟩), .int .i64 0, .int .i64 0, .int .i64 0, .pointer (some ⟨w2.heap.size, 0, none⟩), undef, .pointer (some ⟨Bx, 0, none⟩), undef, undef, .slice A n c, .agg #[.slice vA vn vc, .int .i64 v0, .int .i64 v1, .int .i64 v2, .int .i64 v3, .slice iA im ic], .int .i64 0, .int .i64 0, .bool false, undef, .slice A n c, .func (.func 29) #[] #[.pointer (some ⟨w2.heap.size + 1, 0, none⟩)], .int .i64 ((backAt l k).1 : Int), .agg #[.int .i64 (backAt l k).2.op, .int .i64 (backAt l k).2.n, .string (backAt l k).2.s], undef, undef, undef, undef, undef, undef, undef, undef, undef, undef, undef, undef, undef, undef, undef, undef, undef, undef, undef, undef, undef], defers := [] })
    (fun a' k X Y row hs hg hr => by
      obtain ⟨Bx, h1, h2, h3⟩ := hs
      exact ⟨Bx, h1, heap_own (β := Unit) W0.heap.size Bx _ rfl () X Y row h2 hg hr, h3⟩)
    ?assign ?body ?done
  case assign =>
    rintro lp k W K hk hI hK
    have hsW : w2.heap.size + 2 ≤ W.heap.size := by have := hI.1.2.2.lt; omega
    have HI := Lib.hid hI
    obtain ⟨x, hx⟩ : ∃ x, x = backAt l k := ⟨_, rfl⟩
    rw [← hx] at hK ⊢
    obtain ⟨bi, ⟨bo, bn, bs⟩⟩ := x
    have HK := Lib.hid hK
    clear hI hK hx
    simp only [encB]
    gi_wp2
    exact HK.out _ _ ((KeepsOthers.alloc _ _).from _) (kpB_below (KitC.below_one _ _) (by omega)) (HI.out.keep (KitC.below_one _ _)) ⟨W.heap.size, by omega, heap_alloc_new _ _, rfl⟩
  case body =>
    rintro lp k a' W hk hI ⟨Bx, hBx, hX, rfl⟩
    obtain ⟨t, ht⟩ : ∃ t, l[n - (k + 1)]? = some t := get_some (by have := HN.out; omega)
    have hba : backAt l k = (n - (k + 1), t) := by
      have hl := HN.out
      unfold backAt
      rw [← hl, show n - 1 - k = n - (k + 1) by omega, ht]
      rfl
    rw [hba] at hX ⊢
    obtain ⟨har, hle, hnext⟩ := stackE_next (e := E) HCNT.out ht
    rw [show n - (k + 1) + 1 = n - k by omega] at hle hnext
    rw [hnext]
    obtain ⟨st, hst⟩ : ∃ st, st = stackE E (l.drop (n - k)) := ⟨_, rfl⟩
    rw [← hst] at hI hle ⊢
    obtain ⟨hv4, hck, _, hkn⟩ := chkE_ok HCE.out
    obtain ⟨_, hmay, _⟩ := chk_ok hck
    have HBD : Hid (∀ x ∈ st, -1000000 ≤ x ∧ x ≤ 1000000) := Lib.hid (by
      rw [hst]
      refine stackE_bd ?_
      rw [List.all_eq_true] at hmay ⊢
      exact fun u hu => hmay u (List.mem_of_mem_drop hu))
    have HKT : Hid (t.op = 2 → NamesSpec.hasS (vnames E) t.s = true) := Lib.hid (fun h2 => by
      unfold knownB at hkn
      rw [List.all_eq_true] at hkn
      have := hkn t (List.mem_of_getElem? ht)
      rw [HEE.out]
      simpa [h2] using this)
    have HV4 : Hid (E.vars.length ≤ 4) := Lib.hid (by rw [HEE.out]; exact hv4)
    have HI := Lib.hid hI
    obtain ⟨⟨⟨v, hv1, hv2, _⟩, hen, hbs⟩, hbel⟩ := hI
    obtain ⟨A1, cap, rfl⟩ := own_shape hv2
    have HROW := Lib.hid hv2
    obtain ⟨m, hm⟩ : ∃ m, m = st.length := ⟨_, rfl⟩
    obtain ⟨q, hq⟩ : ∃ q, q = arN t.op := ⟨_, rfl⟩
    have hqi : ar t.op = (q : Int) := by rw [hq, arN_of har]
    have HAR := Lib.hid (arity_any t.op)
    rw [hqi] at HAR
    have hqm : q ≤ m := by omega
    have hm63 : m ≤ 4398046511104 := by
      have h1 := stackE_size E (l.drop (n - k))
      rw [← hst, List.length_drop] at h1
      have := HN.out
      omega
    rw [← hm] at hv1
    have HC0 := Lib.hid hv1.cell
    have HC1 : Hid (∀ d os, (grow (redrawn W d) os).cell? ⟨w2.heap.size, 0, none⟩ = some (.slice A1 m cap)) := Lib.hid (cell_regrown hv1.cell)
    obtain ⟨x0, x1, x2⟩ := cells_3 hX
    have hc1 := HC1.out
    have hx0 := cell_regrown x0
    have hsub : IntKind.i64.wrap ((m : Int) - (q : Int)) = ((m - q : Nat) : Int) := by rw [IntWalk.i64_in _ (by omega)]; omega
    obtain ⟨rest, hrest⟩ : ∃ rest, rest = m - q := ⟨_, rfl⟩
    rw [← hrest] at hsub
    have HAQ : Hid (∀ d os, CallsIn Fence.wide 2 Try.prog 17 #[.int .i64 t.op] (grow (redrawn W d) os) fun e w'' => e = .returned (.int .i64 q) ∧ ∃ p : Regrown, w'' = grow (redrawn W p.d) p.os) := Lib.hid (fun d os => callsIn_wide.2 ((HAR.out _).mono fun e w'' ⟨he, hw⟩ => ⟨he, ⟨d, os⟩, hw.symm⟩))
    have HREST := Lib.hid hrest
    have HM := Lib.hid hm
    have HQ := Lib.hid hq
    have HST := Lib.hid hst
    have HX := Lib.hid hX
    have HXT := Lib.hid hnext
    have HARI := Lib.hid har
    obtain ⟨o, tn, ts⟩ := t
    simp only at HAQ hx0 ⊢
    clear hrest hm hq hst hX hba ht hnext hck hkn hv4 hmay x0 x1 x2 hv1 hv2 hen hbs hqi har hle hbel
    gi_wp2
    refine quiet_below_round rfl (by kernel_rfl) (by kernel_rfl) (by kernel_rfl) ?_
    repeat ((refine wpQuietIn_step (fun _ _ _ _ => trivial) (fun K hK => ?_)); go_simp; first | ((refine hK _ ?_); clear hK K) | ((apply Exists.intro); (refine ⟨fun _ => ?_, hK _ ?_⟩); (first | exact ⟨fun _ => by omega, HAQ.out _ _⟩ | exact HAQ.out _ _); clear hK K))
    refine wpQuietIn_nil ?_
    intro _ hw'
    obtain ⟨⟨dq, osq⟩, hw''⟩ := hw'
    subst hw''
    have hb1 := below_regrown W dq osq
    obtain ⟨W1, hW1⟩ : ∃ W1, grow (redrawn W dq) osq = W1 := ⟨_, rfl⟩
    simp only
    rw [hW1] at hb1 ⊢
    have HI1 := Lib.hid (HI.out.keep hb1)
    have HX1 := Lib.hid (KitC.block_on HX.out hb1)
    have HB1 := Lib.hid hb1
    have HROW1 := Lib.hid (own_keep HROW.out hb1)
    have HRR : Hid ((intV st.reverse).drop rest = intV (st.take q).reverse ∧ (intV st.reverse).take rest = intV (st.drop q).reverse) := Lib.hid (by
      have h1 := HREST.out
      have h2 := HM.out
      unfold intV
      rw [← List.map_drop, ← List.map_take, List.drop_reverse, List.take_reverse, show st.length - rest = q by omega]
      exact ⟨rfl, rfl⟩)
    rw [← HM.out] at HROW1
    have hrm : rest ≤ m := by have := HREST.out; omega
    obtain ⟨vr, hsl, A2, c2, rfl, hrd⟩ := slice_rest HROW1.out hrm
    rw [HRR.out.1] at hrd
    obtain ⟨hup, hpr⟩ := slice_upto HROW1.out hrm
    rw [HRR.out.2] at hpr
    obtain ⟨r, hr⟩ : ∃ r, r = evF E ⟨o, tn, ts⟩ (st.take q) := ⟨_, rfl⟩
    have HRK : Hid (∀ d os, CallsIn Fence.wide 2 Try.prog 18 #[.agg #[.int .i64 o, .int .i64 tn, .string ts], .slice A2 (m - rest) c2, .agg #[.slice vA vn vc, .int .i64 v0, .int .i64 v1, .int .i64 v2, .int .i64 v3, .slice iA im ic]] (grow (redrawn W1 d) os) fun e w'' => e = .returned (.int .i64 r) ∧ ∃ p : Regrown, w'' = grow (redrawn W1 p.d) p.os) := Lib.hid (fun d os => callsIn_wide.2 (by
      have hen := HEN.out.keep (below_two' HI1.out.2 (below_regrown W1 d os))
      rw [← HEE.out] at hen
      have h := reckon_any ⟨vA, vn, vc, iA, im, ic⟩ E ⟨o, tn, ts⟩ (grow (redrawn W1 d) os) _ (st.take q) hen HV4.out HKT.out HARI.out (by rw [List.length_take]; have := HQ.out; have := HM.out; simp only at *; omega) (hrd.keep (below_regrown W1 d os)) (fun x hx => HBD.out x (List.mem_of_mem_take hx))
      rw [← hr, HEE.out] at h
      exact h.mono fun e w'' ⟨he, hb⟩ => ⟨he, regrown_of_below (below_two' (below_regrown W1 d os) hb)⟩))
    have HSL := Lib.hid hsl
    obtain ⟨⟨⟨v, hv1, hv2, _⟩, hen, hbs⟩, hbel⟩ := HI1.out
    have HEQ : Hid (v = .slice A1 m cap) := Lib.hid (by
      have h1 := hv1.cell
      rw [(HB1.out.cell (p := ⟨w2.heap.size, 0, none⟩) (block_lt_of_cell HC0.out)).trans HC0.out] at h1
      injection h1 with h1
      exact h1.symm)
    rw [HEQ.out] at hv1
    obtain ⟨y0, y1, y2⟩ := cells_3 HX1.out
    obtain ⟨z0, z1, z2, z3, z4, z5⟩ := cells_6 hen
    have k0 := cell_regrown hv1.cell
    have k1 := cell_regrown y0
    have k2 := cell_regrown y1
    have k3 := cell_regrown y2
    have k4 := cell_regrown z0
    have k5 := cell_regrown z1
    have k6 := cell_regrown z2
    have k7 := cell_regrown z3
    have k8 := cell_regrown z4
    have k9 := cell_regrown z5
    have HR := Lib.hid hr
    have HPR := Lib.hid hpr
    have HUP := Lib.hid hup
    clear y0 y1 y2 z0 z1 z2 z3 z4 z5 hr hpr hup hrd hv1 hv2 hen hbs hbel hb1 hW1
    gi_wp2
    refine quiet_below_round rfl (by kernel_rfl) (by kernel_rfl) (by kernel_rfl) ?_
    repeat ((refine wpQuietIn_step (fun _ _ _ _ => trivial) (fun K hK => ?_)); go_simp; first | ((refine hK _ ?_); clear hK K) | ((apply Exists.intro); (refine ⟨fun _ => ?_, hK _ ?_⟩); (first | exact ⟨fun _ => by omega, HRK.out _ _⟩ | exact HRK.out _ _); clear hK K))
    refine wpQuietIn_nil ?_
    intro _ hw'
    obtain ⟨⟨dq2, osq2⟩, hw''⟩ := hw'
    subst hw''
    have hb2 := below_regrown W1 dq2 osq2
    obtain ⟨W2, hW2⟩ : ∃ W2, grow (redrawn W1 dq2) osq2 = W2 := ⟨_, rfl⟩
    simp only
    rw [hW2] at hb2 ⊢
    have HI2 := Lib.hid (HI1.out.keep hb2)
    have HB2' := Lib.hid hb2
    have HPR2 := Lib.hid (own_keep HPR.out hb2)
    have hcell : W2.cell? ⟨w2.heap.size, 0, none⟩ = some (.slice A1 m cap) := by rw [← hW2]; exact k0 dq2 osq2
    have hup := HUP.out
    have hszW : w.heap.size ≤ W2.heap.size := HI2.out.2.size
    obtain ⟨i0, hi, hz0, hz1, hz2⟩ := info_parts inf_int
    have HINF := Lib.hid (And.intro hi (And.intro hz0 (And.intro hz1 hz2)))
    have HEB : Hid (w2.heap.size ≠ w2.heap.size + 1 ∧ w2.heap.size ≠ w.heap.size ∧ w.heap.size ≤ w2.heap.size) := Lib.hid (by omega)
    have hL1 : rest + 1 ≤ maxLen := by unfold maxLen; omega
    have hL2 : (rest + 1) * 8 ≤ 140737488355328 := by omega
    have HSE : Hid (evF E ⟨o, tn, ts⟩ (st.take (arN o)) :: st.drop (arN o) = r :: st.drop q) := Lib.hid (by rw [HR.out, HQ.out])
    have HNI : Hid (∀ cs T, Obj.cells #[.slice vA vn vc, .int .i64 v0, .int .i64 v1, .int .i64 v2, .int .i64 v3, .slice iA im ic] 27 = .cells cs T → T ≠ 3) := Lib.hid (fun cs T h => by cases h; decide)
    have HIW : Hid (w.heap.size ≤ W.heap.size) := Lib.hid HI.out.2.size
    have HST' : Hid ((r :: st.drop q).length = rest + 1 ∧ intV (r :: st.drop q).reverse = intV (st.drop q).reverse ++ [.int .i64 r]) := Lib.hid (by
      have h1 := HREST.out
      have h2 := HM.out
      refine ⟨by rw [List.length_cons, List.length_drop]; omega, ?_⟩
      unfold intV
      simp)
    clear k0 k1 k2 k3 k4 k5 k6 k7 k8 k9 hW2 hb2 hi hz0 hz1 hz2 hsub hc1 hx0
    gi_wp2_with (gi_at_builtin; refine wpListIn_append_own _ rfl _ _ 37 rfl w.heap.size 3 i0 (.int .i64 0) 1 8 Try.underlying37 HINF.out.1 HINF.out.2.1 HINF.out.2.2.1 HINF.out.2.2.2 rfl (by decide) _ _ _ rfl (HPR2.out.alloc _) ⟨W2.heap.size, 0, none⟩ 1 1 [.int .i64 r] rfl rfl (cell_one_new _ _ _) (by simp [Value.oneCell']) hL1 hL2 (by simp; omega) ?_; intro v' w1 hown' hgrow _; obtain ⟨g', cap', rfl⟩ := ownsRow_succ hown'; obtain ⟨⟨u, hu1⟩, hI', hkf, hkp⟩ := AtI.appended (st' := r :: st.drop q) (A := A1) (j := rest) (cap := cap) HI2.out HEB.out.1 HEB.out.2.1 HEB.out.2.2 HNI.out HPR2.out (by rw [HST'.out.1, HST'.out.2]; exact hown') hgrow; have hc1 := hu1.cell; have hf1 := hu1.frozen; have HI' := Lib.hid hI'; have HKF := Lib.hid hkf; have HKP := Lib.hid hkp; clear hI' hkf hkp hown' hgrow hu1)
    refine ⟨(KeepsFrom.trans (keepsFrom_below HB1.out) (keepsFrom_below HB2'.out)).trans (HKF.out _), ((kpB_below HB1.out HIW.out).trans (kpB_below HB2'.out HI1.out.2.size)).trans HKP.out, ?_⟩
    have h := HI'.out
    rw [← HSE.out] at h
    exact h
  case done =>
    rintro D W hD hI hK
    rw [show n - n = 0 by omega, List.drop_zero, stackE_nil_of HCNT.out] at hI
    obtain ⟨⟨⟨v, hv1, hv2, _⟩, -, -⟩, hbel⟩ := hI
    obtain ⟨g, cap, rfl⟩ := ownsRow_succ (k := 0) hv2
    have hrd : Rd W (.slice (some ⟨g, 0, none⟩) 1 cap) (intV [comeE E l].reverse) := Rd.own hv2
    obtain ⟨A', n', c', heq, _, hcc, hA⟩ := hrd.ints
    cases heq
    obtain ⟨b, off, heq, _, hcell⟩ := hA (by omega)
    cases heq
    have c0 : W.cell? ⟨g, 0, none⟩ = some (.int .i64 (comeE E l)) := hcell 0 _ rfl
    have hc1 := hv1.cell
    have HE := Lib.hid HEE.out
    obtain ⟨x, hx⟩ : ∃ x, x = comeE E l := ⟨_, rfl⟩
    rw [← hx] at c0
    have HX := Lib.hid hx
    have HBEL := Lib.hid hbel
    clear hx hrd hA hcell hv1 hv2 hbel
    gi_wp2
    refine ⟨by simp, .inl ⟨_, _, rfl, run_takeDeferred hK, ?_⟩⟩
    refine ⟨.tuple #[.int .i64 x, .int .i64 0], by simp [results, Try.results7, go_sem], ?_, HBEL.out.trans (belowK_b (w := w) (Nat.le_refl _) W D _ _ (by omega) hK rfl rfl)⟩
    rw [HX.out, HE.out]
end Go.Proofs.Ytbkgkdfameojfaa
