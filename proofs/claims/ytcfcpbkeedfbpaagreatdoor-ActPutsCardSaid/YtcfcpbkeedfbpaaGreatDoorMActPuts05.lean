/- EvalAt, EvalHolds, ActRefWith, ActGiven, EvalRefCheck, ActRefOne, ActOneMem, ActDoMem, ActCmp, ActSortSpec, joined. -/
import Derived.Test.YtcfcpbkeedfbpaaGreatDoorMActPuts04
import Derived.Lib.QuietBelowIn
import Derived.Test.YtcfcpbkeedfbpaaGreatDoorMActPuts03
import Derived.Test.YtcfcpbkeedfbpaaGreatDoorMActPuts02
import Derived.Laws.StructEq
import Derived.DeepKeys
import Derived.BigQuiet
import Derived.Test.YtcfcpbkeedfbpaaGreatDoorMActPuts01
import Derived.Lib.SlicesCompact
namespace Go.Proofs.YtcfcpbkeedfbpaaGreatDoor
open Go.RowKit Go.Shelf Go.Sort TermSpec EvalSpec
set_option maxRecDepth 100000

attribute [local go_sem] Oper.semAt_some

set_option maxRecDepth 100000 in
set_option maxHeartbeats 4000000 in
theorem at_yes (p : EP) (e : Ev) (A : Option Addr) (n c : Nat) (l : List Tm) (hn : n = l.length) (hn62 : n ≤ 4398046511104) (hs : Small l) (w : World) (h : Tms w (.slice A n c) l) (he : EnvIn w p e) (hc : chkE e l = 0) :
    Calls Tryz.prog 114 #[.slice A n c, envV p e] w fun e2 w' => e2 = .returned (.tuple #[.int .i64 (comeE e l), .int .i64 0]) ∧ Below w.heap.size w w' := by
  have HC := Lib.hid (fun w h h' => echeck_any p e A n c l hn hn62 hs w h h')
  rw [hc] at HC
  have HT := Lib.hid h
  have HN := Lib.hid hn
  have HEN := Lib.hid he
  obtain ⟨vA, vn, vc, iA, im, ic⟩ := p
  obtain ⟨E, hE⟩ : ∃ E, E = e := ⟨_, rfl⟩
  obtain ⟨vars, v0, v1, v2, v3, ins⟩ := e
  change Calls _ _ #[.slice A n c, .agg #[.slice vA vn vc, .int .i64 v0, .int .i64 v1, .int .i64 v2, .int .i64 v3, .slice iA im ic]] _ _
  have HCE := Lib.hid hc
  have HEE := Lib.hid hE
  clear h hn he hc hE
  refine (callsIn_wide (n := 5)).1 ?_
  refine callsIn_of_wp_marks Tryz.func114 rfl trivial ?_ rfl
  simp only [Tryz.ntmps114, List.size_toArray, List.length_cons, List.length_nil, Nat.reduceAdd, Nat.reduceSub, Array.replicate_succ, Array.replicate_zero, List.push_toArray, List.append_toArray, List.nil_append, List.cons_append]
  gi_wp2_with (refine ⟨trivial, ?_⟩; gi_at_call 75; (with_reducible refine (callsIn_wide.2 (HC.out _ (HT.out.keep (KitC.below_one _ _)) (HEN.out.keep (KitC.below_one _ _)))).mono ?_))
  rintro e2 w2 ⟨rfl, hb2⟩
  obtain ⟨B2, hw2, hz2⟩ := KitC.one_block hb2
  have HB2 := Lib.hid B2
  have HW2 := Lib.hid hw2
  clear hb2 B2 hw2
  gi_wp2_with (refine ⟨trivial, ?_⟩; gi_at_call 139; (with_reducible refine (back_in _ _ trivial rfl _ _ _ _).mono ?_); rintro e w' ⟨rfl, rfl⟩)
  have bC := (Boxed.new w2 110 (.slice none 0 0)).alloc (.cells #[.slice A n c] 64)
  have bS := Boxed.new (w2.alloc (.cells #[.slice none 0 0] 110)) 64 (.slice A n c)
  rw [World.size_alloc] at bS
  have hB0 : Below w.heap.size w ((w2.alloc (.cells #[.slice none 0 0] 110)).alloc (.cells #[.slice A n c] 64)) := below_two' HW2.out (KitC.below_pair _ _ _)
  have bE : ((w2.alloc (.cells #[.slice none 0 0] 110)).alloc (.cells #[.slice A n c] 64)).heap[w.heap.size]? = some (.cells #[.slice vA vn vc, .int .i64 v0, .int .i64 v1, .int .i64 v2, .int .i64 v3, .slice iA im ic] 54) := KitC.block_on HB2.out (KitC.below_pair _ _ _)
  have hsz : ((w2.alloc (.cells #[.slice none 0 0] 110)).alloc (.cells #[.slice A n c] 64)).heap.size = w2.heap.size + 2 := by simp
  obtain ⟨W0, hW0⟩ : ∃ W0, (w2.alloc (.cells #[.slice none 0 0] 110)).alloc (.cells #[.slice A n c] 64) = W0 := ⟨_, rfl⟩
  rw [hW0] at bC bS hB0 bE hsz ⊢
  clear hW0
  have HI0 : Hid (AtI w w2.heap.size (w2.heap.size + 1) (.cells #[.slice vA vn vc, .int .i64 v0, .int .i64 v1, .int .i64 v2, .int .i64 v3, .slice iA im ic] 54) (.slice A n c) (stackE E (l.drop (n - 0))) W0) := Lib.hid (by
    have e0 : stackE E (l.drop (n - 0)) = [] := by rw [Nat.sub_zero, HN.out, List.drop_length]; rfl
    rw [e0]
    exact ⟨⟨⟨_, bC, World.ownsRow_nil _ _ _ _, trivial⟩, bE, bS⟩, hB0⟩)
  have HCNT : Hid (cnt 1 l = some l.length) := Lib.hid (wholeB_iff.1 (chk_ok (chkE_ok HCE.out).2.1).1).2
  have HBS := Lib.hid bS
  clear bC bE hB0 bS
  refine range_seq rfl (by omega) (gf := 161) (lb := #[.pointer (some ⟨w2.heap.size + 1, 0, none⟩)]) rfl trivial (enters_of Tryz.func161 (by kernel_rfl) rfl)
    (back_hands Fence.wide (5 - 1) trivial rfl (by omega) (w2.heap.size + 1) w.heap.size A n c l HN.out (by omega) W0 HBS.out w HT.out HI0.out.2 (Nat.le_refl _)) (fun h k => h.trans k) (KpB.turn (by omega) (by omega)) (fun _ => rfl)
    (fun k W => AtI w w2.heap.size (w2.heap.size + 1) (.cells #[.slice vA vn vc, .int .i64 v0, .int .i64 v1, .int .i64 v2, .int .i64 v3, .slice iA im ic] 54) (.slice A n c) (stackE E (l.drop (n - k))) W)
    (AtI.own _ _ _ _ _ _ _ _ (by omega)) HI0.out
    (fun k a' W => ∃ Bx, W0.heap.size ≤ Bx ∧ W.heap[Bx]? = some (.cells #[.int .i64 (backAt l k).2.op, .int .i64 (backAt l k).2.n, .string (backAt l k).2.s] 68) ∧ a' = { tmps := #[.slice A n c, .agg #[.slice vA vn vc, .int .i64 v0, .int .i64 v1, .int .i64 v2, .int .i64 v3, .slice iA im ic], undef, .pointer (some ⟨w.heap.size, 0, none⟩), .int .i64 0, .int .i64 0, .int .i64 0, .pointer (some ⟨w2.heap.size, 0, none⟩), undef, .pointer (some ⟨Bx, 0, none⟩), undef, undef, .slice A n c, .agg #[.slice vA vn vc, .int .i64 v0, .int .i64 v1, .int .i64 v2, .int .i64 v3, .slice iA im ic], .int .i64 0, .int .i64 0, .bool false, undef, .slice A n c, .func (.func 161) #[] #[.pointer (some ⟨w2.heap.size + 1, 0, none⟩)], .int .i64 ((backAt l k).1 : Int), .agg #[.int .i64 (backAt l k).2.op, .int .i64 (backAt l k).2.n, .string (backAt l k).2.s], undef, undef, undef, undef, undef, undef, undef, undef, undef, undef, undef, undef, undef, undef, undef, undef, undef, undef, undef, undef, undef], defers := [] })
    (fun a' k X Y row hs hg hr => by
      obtain ⟨Bx, h1, h2, h3⟩ := hs
      exact ⟨Bx, h1, heap_own (β := Unit) W0.heap.size Bx _ rfl () X Y row h2 hg hr, h3⟩)
    ?assign ?body ?done
  case assign =>
    rintro lp k W K hk hI hK
    have hsW : w2.heap.size + 2 ≤ W.heap.size := by have := hI.1.2.2.lt; omega
    have HI := Lib.hid hI
    obtain ⟨x, hx⟩ : ∃ x, x = backAt l k := ⟨_, rfl⟩
    rw [← hx] at hK ⊢
    obtain ⟨bi, ⟨bo, bn, bs⟩⟩ := x
    have HK := Lib.hid hK
    clear hI hK hx
    simp only [encB]
    gi_wp2
    exact HK.out _ _ ((KeepsOthers.alloc _ _).from _) (kpB_below (KitC.below_one _ _) (by omega)) (HI.out.keep (KitC.below_one _ _)) ⟨W.heap.size, by omega, heap_alloc_new _ _, rfl⟩
  case body =>
    rintro lp k a' W hk hI ⟨Bx, hBx, hX, rfl⟩
    obtain ⟨t, ht⟩ : ∃ t, l[n - (k + 1)]? = some t := get_some (by have := HN.out; omega)
    have hba : backAt l k = (n - (k + 1), t) := by
      have hl := HN.out
      unfold backAt
      rw [← hl, show n - 1 - k = n - (k + 1) by omega, ht]
      rfl
    rw [hba] at hX ⊢
    obtain ⟨har, hle, hnext⟩ := stackE_next (e := E) HCNT.out ht
    rw [show n - (k + 1) + 1 = n - k by omega] at hle hnext
    rw [hnext]
    obtain ⟨st, hst⟩ : ∃ st, st = stackE E (l.drop (n - k)) := ⟨_, rfl⟩
    rw [← hst] at hI hle ⊢
    obtain ⟨hv4, hck, _, hkn⟩ := chkE_ok HCE.out
    obtain ⟨_, hmay, _⟩ := chk_ok hck
    have HBD : Hid (∀ x ∈ st, -1000000 ≤ x ∧ x ≤ 1000000) := Lib.hid (by
      rw [hst]
      refine stackE_bd ?_
      rw [List.all_eq_true] at hmay ⊢
      exact fun u hu => hmay u (List.mem_of_mem_drop hu))
    have HKT : Hid (t.op = 2 → NamesSpec.hasS (vnames E) t.s = true) := Lib.hid (fun h2 => by
      unfold knownB at hkn
      rw [List.all_eq_true] at hkn
      have := hkn t (List.mem_of_getElem? ht)
      rw [HEE.out]
      simpa [h2] using this)
    have HV4 : Hid (E.vars.length ≤ 4) := Lib.hid (by rw [HEE.out]; exact hv4)
    have HI := Lib.hid hI
    obtain ⟨⟨⟨v, hv1, hv2, _⟩, hen, hbs⟩, hbel⟩ := hI
    obtain ⟨A1, cap, rfl⟩ := own_shape hv2
    have HROW := Lib.hid hv2
    obtain ⟨m, hm⟩ : ∃ m, m = st.length := ⟨_, rfl⟩
    obtain ⟨q, hq⟩ : ∃ q, q = arN t.op := ⟨_, rfl⟩
    have hqi : ar t.op = (q : Int) := by rw [hq, arN_of har]
    have HAR := Lib.hid (arity_any t.op)
    rw [hqi] at HAR
    have hqm : q ≤ m := by omega
    have hm63 : m ≤ 4398046511104 := by
      have h1 := stackE_size E (l.drop (n - k))
      rw [← hst, List.length_drop] at h1
      have := HN.out
      omega
    rw [← hm] at hv1
    have HC0 := Lib.hid hv1.cell
    have HC1 : Hid (∀ d os, (grow (redrawn W d) os).cell? ⟨w2.heap.size, 0, none⟩ = some (.slice A1 m cap)) := Lib.hid (cell_regrown hv1.cell)
    obtain ⟨x0, x1, x2⟩ := cells_3 hX
    have hc1 := HC1.out
    have hx0 := cell_regrown x0
    have hsub : IntKind.i64.wrap ((m : Int) - (q : Int)) = ((m - q : Nat) : Int) := by rw [IntWalk.i64_in _ (by omega)]; omega
    obtain ⟨rest, hrest⟩ : ∃ rest, rest = m - q := ⟨_, rfl⟩
    rw [← hrest] at hsub
    have HAQ : Hid (∀ d os, CallsIn Fence.wide 2 Tryz.prog 140 #[.int .i64 t.op] (grow (redrawn W d) os) fun e w'' => e = .returned (.int .i64 q) ∧ ∃ p : Regrown, w'' = grow (redrawn W p.d) p.os) := Lib.hid (fun d os => callsIn_wide.2 ((HAR.out _).mono fun e w'' ⟨he, hw⟩ => ⟨he, ⟨d, os⟩, hw.symm⟩))
    have HREST := Lib.hid hrest
    have HM := Lib.hid hm
    have HQ := Lib.hid hq
    have HST := Lib.hid hst
    have HX := Lib.hid hX
    have HXT := Lib.hid hnext
    have HARI := Lib.hid har
    obtain ⟨o, tn, ts⟩ := t
    simp only at HAQ hx0 ⊢
    clear hrest hm hq hst hX hba ht hnext hck hkn hv4 hmay x0 x1 x2 hv1 hv2 hen hbs hqi har hle hbel
    gi_wp2
    refine quiet_below_round rfl (by kernel_rfl) (by kernel_rfl) (by kernel_rfl) ?_
    repeat ((refine wpQuietIn_step (fun _ _ _ _ => trivial) (fun K hK => ?_)); go_simp; first | ((refine hK _ ?_); clear hK K) | ((apply Exists.intro); (refine ⟨fun _ => ?_, hK _ ?_⟩); (first | exact ⟨fun _ => by omega, HAQ.out _ _⟩ | exact HAQ.out _ _); clear hK K))
    refine wpQuietIn_nil ?_
    intro _ hw'
    obtain ⟨⟨dq, osq⟩, hw''⟩ := hw'
    subst hw''
    have hb1 := below_regrown W dq osq
    obtain ⟨W1, hW1⟩ : ∃ W1, grow (redrawn W dq) osq = W1 := ⟨_, rfl⟩
    simp only
    rw [hW1] at hb1 ⊢
    have HI1 := Lib.hid (HI.out.keep hb1)
    have HX1 := Lib.hid (KitC.block_on HX.out hb1)
    have HB1 := Lib.hid hb1
    have HROW1 := Lib.hid (own_keep HROW.out hb1)
    have HRR : Hid ((intV st.reverse).drop rest = intV (st.take q).reverse ∧ (intV st.reverse).take rest = intV (st.drop q).reverse) := Lib.hid (by
      have h1 := HREST.out
      have h2 := HM.out
      unfold intV
      rw [← List.map_drop, ← List.map_take, List.drop_reverse, List.take_reverse, show st.length - rest = q by omega]
      exact ⟨rfl, rfl⟩)
    rw [← HM.out] at HROW1
    have hrm : rest ≤ m := by have := HREST.out; omega
    obtain ⟨vr, hsl, A2, c2, rfl, hrd⟩ := slice_rest HROW1.out hrm
    rw [HRR.out.1] at hrd
    obtain ⟨hup, hpr⟩ := slice_upto HROW1.out hrm
    rw [HRR.out.2] at hpr
    obtain ⟨r, hr⟩ : ∃ r, r = evF E ⟨o, tn, ts⟩ (st.take q) := ⟨_, rfl⟩
    have HRK : Hid (∀ d os, CallsIn Fence.wide 2 Tryz.prog 141 #[.agg #[.int .i64 o, .int .i64 tn, .string ts], .slice A2 (m - rest) c2, .agg #[.slice vA vn vc, .int .i64 v0, .int .i64 v1, .int .i64 v2, .int .i64 v3, .slice iA im ic]] (grow (redrawn W1 d) os) fun e w'' => e = .returned (.int .i64 r) ∧ ∃ p : Regrown, w'' = grow (redrawn W1 p.d) p.os) := Lib.hid (fun d os => callsIn_wide.2 (by
      have hen := HEN.out.keep (below_two' HI1.out.2 (below_regrown W1 d os))
      rw [← HEE.out] at hen
      have h := reckon_any ⟨vA, vn, vc, iA, im, ic⟩ E ⟨o, tn, ts⟩ (grow (redrawn W1 d) os) _ (st.take q) hen HV4.out HKT.out HARI.out (by rw [List.length_take]; have := HQ.out; have := HM.out; simp only at *; omega) (hrd.keep (below_regrown W1 d os)) (fun x hx => HBD.out x (List.mem_of_mem_take hx))
      rw [← hr, HEE.out] at h
      exact h.mono fun e w'' ⟨he, hb⟩ => ⟨he, regrown_of_below (below_two' (below_regrown W1 d os) hb)⟩))
    have HSL := Lib.hid hsl
    obtain ⟨⟨⟨v, hv1, hv2, _⟩, hen, hbs⟩, hbel⟩ := HI1.out
    have HEQ : Hid (v = .slice A1 m cap) := Lib.hid (by
      have h1 := hv1.cell
      rw [(HB1.out.cell (p := ⟨w2.heap.size, 0, none⟩) (block_lt_of_cell HC0.out)).trans HC0.out] at h1
      injection h1 with h1
      exact h1.symm)
    rw [HEQ.out] at hv1
    obtain ⟨y0, y1, y2⟩ := cells_3 HX1.out
    obtain ⟨z0, z1, z2, z3, z4, z5⟩ := cells_6 hen
    have k0 := cell_regrown hv1.cell
    have k1 := cell_regrown y0
    have k2 := cell_regrown y1
    have k3 := cell_regrown y2
    have k4 := cell_regrown z0
    have k5 := cell_regrown z1
    have k6 := cell_regrown z2
    have k7 := cell_regrown z3
    have k8 := cell_regrown z4
    have k9 := cell_regrown z5
    have HR := Lib.hid hr
    have HPR := Lib.hid hpr
    have HUP := Lib.hid hup
    clear y0 y1 y2 z0 z1 z2 z3 z4 z5 hr hpr hup hrd hv1 hv2 hen hbs hbel hb1 hW1
    gi_wp2
    refine quiet_below_round rfl (by kernel_rfl) (by kernel_rfl) (by kernel_rfl) ?_
    repeat ((refine wpQuietIn_step (fun _ _ _ _ => trivial) (fun K hK => ?_)); go_simp; first | ((refine hK _ ?_); clear hK K) | ((apply Exists.intro); (refine ⟨fun _ => ?_, hK _ ?_⟩); (first | exact ⟨fun _ => by omega, HRK.out _ _⟩ | exact HRK.out _ _); clear hK K))
    refine wpQuietIn_nil ?_
    intro _ hw'
    obtain ⟨⟨dq2, osq2⟩, hw''⟩ := hw'
    subst hw''
    have hb2 := below_regrown W1 dq2 osq2
    obtain ⟨W2, hW2⟩ : ∃ W2, grow (redrawn W1 dq2) osq2 = W2 := ⟨_, rfl⟩
    simp only
    rw [hW2] at hb2 ⊢
    have HI2 := Lib.hid (HI1.out.keep hb2)
    have HB2' := Lib.hid hb2
    have HPR2 := Lib.hid (own_keep HPR.out hb2)
    have hcell : W2.cell? ⟨w2.heap.size, 0, none⟩ = some (.slice A1 m cap) := by rw [← hW2]; exact k0 dq2 osq2
    have hup := HUP.out
    have hszW : w.heap.size ≤ W2.heap.size := HI2.out.2.size
    obtain ⟨i0, hi, hz0, hz1, hz2⟩ := info_parts inf_int
    have HINF := Lib.hid (And.intro hi (And.intro hz0 (And.intro hz1 hz2)))
    have HEB : Hid (w2.heap.size ≠ w2.heap.size + 1 ∧ w2.heap.size ≠ w.heap.size ∧ w.heap.size ≤ w2.heap.size) := Lib.hid (by omega)
    have hL1 : rest + 1 ≤ maxLen := by unfold maxLen; omega
    have hL2 : (rest + 1) * 8 ≤ 140737488355328 := by omega
    have HSE : Hid (evF E ⟨o, tn, ts⟩ (st.take (arN o)) :: st.drop (arN o) = r :: st.drop q) := Lib.hid (by rw [HR.out, HQ.out])
    have HNI : Hid (∀ cs T, Obj.cells #[.slice vA vn vc, .int .i64 v0, .int .i64 v1, .int .i64 v2, .int .i64 v3, .slice iA im ic] 54 = .cells cs T → T ≠ 3) := Lib.hid (fun cs T h => by cases h; decide)
    have HIW : Hid (w.heap.size ≤ W.heap.size) := Lib.hid HI.out.2.size
    have HST' : Hid ((r :: st.drop q).length = rest + 1 ∧ intV (r :: st.drop q).reverse = intV (st.drop q).reverse ++ [.int .i64 r]) := Lib.hid (by
      have h1 := HREST.out
      have h2 := HM.out
      refine ⟨by rw [List.length_cons, List.length_drop]; omega, ?_⟩
      unfold intV
      simp)
    clear k0 k1 k2 k3 k4 k5 k6 k7 k8 k9 hW2 hb2 hi hz0 hz1 hz2 hsub hc1 hx0
    gi_wp2_with (gi_at_builtin; refine wpListIn_append_own _ rfl _ _ 110 rfl w.heap.size 3 i0 (.int .i64 0) 1 8 Tryz.underlying110 HINF.out.1 HINF.out.2.1 HINF.out.2.2.1 HINF.out.2.2.2 rfl (by decide) _ _ _ rfl (HPR2.out.alloc _) ⟨W2.heap.size, 0, none⟩ 1 1 [.int .i64 r] rfl rfl (cell_one_new _ _ _) (by simp [Value.oneCell']) hL1 hL2 (by simp; omega) ?_; intro v' w1 hown' hgrow _; obtain ⟨g', cap', rfl⟩ := ownsRow_succ hown'; obtain ⟨⟨u, hu1⟩, hI', hkf, hkp⟩ := AtI.appended (st' := r :: st.drop q) (A := A1) (j := rest) (cap := cap) HI2.out HEB.out.1 HEB.out.2.1 HEB.out.2.2 HNI.out HPR2.out (by rw [HST'.out.1, HST'.out.2]; exact hown') hgrow; have hc1 := hu1.cell; have hf1 := hu1.frozen; have HI' := Lib.hid hI'; have HKF := Lib.hid hkf; have HKP := Lib.hid hkp; clear hI' hkf hkp hown' hgrow hu1)
    refine ⟨(KeepsFrom.trans (keepsFrom_below HB1.out) (keepsFrom_below HB2'.out)).trans (HKF.out _), ((kpB_below HB1.out HIW.out).trans (kpB_below HB2'.out HI1.out.2.size)).trans HKP.out, ?_⟩
    have h := HI'.out
    rw [← HSE.out] at h
    exact h
  case done =>
    rintro D W hD hI hK
    rw [show n - n = 0 by omega, List.drop_zero, stackE_nil_of HCNT.out] at hI
    obtain ⟨⟨⟨v, hv1, hv2, _⟩, -, -⟩, hbel⟩ := hI
    obtain ⟨g, cap, rfl⟩ := ownsRow_succ (k := 0) hv2
    have hrd : Rd W (.slice (some ⟨g, 0, none⟩) 1 cap) (intV [comeE E l].reverse) := Rd.own hv2
    obtain ⟨A', n', c', heq, _, hcc, hA⟩ := hrd.ints
    cases heq
    obtain ⟨b, off, heq, _, hcell⟩ := hA (by omega)
    cases heq
    have c0 : W.cell? ⟨g, 0, none⟩ = some (.int .i64 (comeE E l)) := hcell 0 _ rfl
    have hc1 := hv1.cell
    have HE := Lib.hid HEE.out
    obtain ⟨x, hx⟩ : ∃ x, x = comeE E l := ⟨_, rfl⟩
    rw [← hx] at c0
    have HX := Lib.hid hx
    have HBEL := Lib.hid hbel
    clear hx hrd hA hcell hv1 hv2 hbel
    gi_wp2
    refine ⟨by simp, .inl ⟨_, _, rfl, run_takeDeferred hK, ?_⟩⟩
    refine ⟨.tuple #[.int .i64 x, .int .i64 0], by simp [results, Tryz.results114, go_sem], ?_, HBEL.out.trans (belowK_b (w := w) (Nat.le_refl _) W D _ _ (by omega) hK rfl rfl)⟩
    rw [HX.out, HE.out]
end Go.Proofs.YtcfcpbkeedfbpaaGreatDoor

namespace Go.Proofs.YtcfcpbkeedfbpaaGreatDoor
open Go.RowKit TermSpec EvalSpec
set_option maxRecDepth 100000

/-- What At answers. -/
def ERetAt (W : World) (x e : Int) (e2 : Ending) (w' : World) : Prop := e2 = .returned (.tuple #[.int .i64 x, .int .i64 e]) ∧ Below W.heap.size W w'
end Go.Proofs.YtcfcpbkeedfbpaaGreatDoor

namespace Go.Proofs.YtcfcpbkeedfbpaaGreatDoor
open Go.RowKit Go.Sort TermSpec EvalSpec ActSpec
set_option maxRecDepth 100000

theorem elem_v4s : Tryz.prog.elem 56 = 51 := by kernel_rfl
theorem inf_v4 : (Tryz.prog.info? 51).map (fun i => (i.zero, i.size, i.bytes)) = some (some (.agg #[.int .i64 0, .int .i64 0, .int .i64 0, .int .i64 0]), 4, 32) := by kernel_rfl
/-- A list of values' lists of the call's own. -/
def RowV (W wr : World) (p : Value) (xs : List V4) : Prop := wr.ownsRow W.heap.size 51 4 p xs.length (v4sV xs) ∧ Below W.heap.size W wr
theorem RowV.keep {W w w' : World} {p : Value} {xs : List V4} (h : RowV W w p xs) (hb : Below w.heap.size w w') : RowV W w' p xs := ⟨own_keep h.1 hb, below_two' h.2 hb⟩
theorem RowV.add {W wr w2 : World} {p p' : Value} {xs ys : List V4} (h : RowV W wr p xs) (hrow : w2.ownsRow W.heap.size 51 4 p' (xs.length + ys.length) (v4sV xs ++ v4sV ys)) (hg : wr.grownBy w2 p.ownBlock) : RowV W w2 p' (xs ++ ys) := by
  refine ⟨?_, h.2.grown hg h.2.size (fun j hj => (own_block_bd h.1 j hj).1)⟩
  rw [← v4sV_append, List.length_append]
  exact hrow
theorem RowV.v4s {W wr : World} {p : Value} {xs : List V4} (h : RowV W wr p xs) : V4s wr p xs := ⟨xs.length, rfl, Rdk.own h.1⟩
theorem v4_lit {w : World} {k : Nat} {x : V4} (hk : k = w.heap.size) : V4s (w.alloc (.cells #[.int .i64 x.a, .int .i64 x.b, .int .i64 x.c, .int .i64 x.d] 51)) (.slice (some ⟨k, 0, none⟩) 1 1) [x] := by
  subst hk
  refine ⟨1, rfl, _, 1, rfl, Nat.le_refl _, rfl, fun _ => ⟨w.heap.size, 0, rfl, by simp, fun j u hj => ?_⟩⟩
  rw [World.cell?_alloc_at _ _ _ _ rfl, Nat.zero_add, ← Array.getElem?_toList]
  exact hj
theorem eq_v4 (x y : V4) (w : World) : (Op.equalIn 10000 51 (v4A x) (v4A y)).run Tryz.prog w = .ok (decide (x = y)) w := by
  have u3 := Tryz.underlying3
  obtain ⟨i0, hi, hz0, hz1, hz2⟩ := info_parts inf_int
  have hc : Tryz.prog.cellsOf 3 = 1 := by kernel_rfl
  rw [show (10000 : Nat) = 9999 + 1 from rfl, run_equalIn_array w 9999 _ _ Tryz.underlying51 hi, hc]
  simp only [List.range, List.range.loop, Op.eqItems, Sem.run_bind]
  go_simp
  obtain ⟨a, b, c, d⟩ := x
  obtain ⟨a', b', c', d'⟩ := y
  by_cases h1 : a = a' <;> by_cases h2 : b = b' <;> by_cases h3 : c = c' <;> by_cases h4 : d = d' <;> simp [h1, h2, h3, h4]
/-- A slice's cells, if it has any, lie no lower. -/
def Beyond (base : Nat) (v : Value) : Prop := ∀ b off n c, v = .slice (some ⟨b, off, none⟩) n c → 0 < n → base ≤ b
theorem Beyond.row {W wr : World} {p : Value} {xs : List V4} (h : RowV W wr p xs) {base : Nat} (hb : base ≤ W.heap.size) : Beyond base p := by
  intro b off n c he _
  subst he
  have := (own_block_bd h.1 b (by simp [Value.ownBlock])).1
  omega
theorem V4s.but {w w' : World} {v : Value} {l : List V4} {base E : Nat} (h : V4s w v l) (hB : Beyond base v) (hE : E < base) (hg : w.grownBy w' (some E)) : V4s w' v l := by
  obtain ⟨n, hn, A, c, rfl, hc, hl, hA⟩ := h
  refine ⟨n, hn, A, c, rfl, hc, hl, fun h0 => ?_⟩
  obtain ⟨b, off, rfl, hb, hcell⟩ := hA h0
  refine ⟨b, off, rfl, Nat.lt_of_lt_of_le hb hg.size, fun j u hj => ?_⟩
  have hbe := hB b off n c rfl h0
  have hblk := hg.block b hb (fun e => by injection e with e; omega)
  have := hcell j u hj
  simp only [World.cell?] at this ⊢
  rw [hblk]
  exact this
end Go.Proofs.YtcfcpbkeedfbpaaGreatDoor

namespace Go.Proofs.YtcfcpbkeedfbpaaGreatDoor
open Go.RowKit TermSpec EvalSpec ActSpec NamesSpec ValSpec Go.Lib
set_option maxRecDepth 100000

/-- What a call answers that gives numbers in a slice of its own. -/
def RetIntsN (W : World) (l : List Int) (e : Ending) (w' : World) : Prop := ∃ v, e = .returned v ∧ Rd w' v (intV l) ∧ Below W.heap.size W w' ∧ Beyond W.heap.size v
theorem beyond_rowI {W wr : World} {p : Value} {xs : List Int} (h : RowI W wr p xs) {base : Nat} (hb : base ≤ W.heap.size) : Beyond base p := by
  intro b off n c he _
  subst he
  have := (own_block_bd h.1 b (by simp [Value.ownBlock])).1
  omega
theorem beyond_lit {k n c base : Nat} (h : base ≤ k) : Beyond base (.slice (some ⟨k, 0, none⟩) n c) := by
  intro b off n' c' he _
  injection he with e1 _ _
  injection e1 with e1
  injection e1 with e1
  omega
/-- The numbers that an act gives its variable. -/
def givenL (e : Ev) (a : Ac) (v : Vr) : List Int := if a.any then (List.range ((v.hi - v.lo + 1).toNat)).map fun (k : Nat) => v.lo + k else [clampI (comeE e a.x) v.lo v.hi]
theorem clampI_eq (n lo hi : Int) : clampI n lo hi = if n < lo then lo else if hi < n then hi else n := rfl
theorem stepsA_given (e : Ev) (a : Ac) (i : Nat) (v : Vr) (x : V4) : stepsA e a i v x = (givenL (envAt e x) a v).map (x.set i) := by
  unfold stepsA givenL
  split
  · rw [List.map_map]; rfl
  · rw [clampI_eq]; rfl
theorem three_blocks {w w2 : World} {o p q : Obj} (hb : Below (((w.alloc o).alloc p).alloc q).heap.size (((w.alloc o).alloc p).alloc q) w2) :
    w2.heap[w.heap.size]? = some o ∧ w2.heap[w.heap.size + 1]? = some p ∧ w2.heap[w.heap.size + 2]? = some q ∧ Below w.heap.size w w2 := by
  have h1 := KitC.one_block hb
  have h2 := KitC.pair_blocks h1.2.1
  rw [World.size_alloc, World.size_alloc] at h1
  exact ⟨h2.1, h2.2.1, h1.1, h2.2.2.1⟩
set_option maxHeartbeats 2000000 in
theorem given_expr (p : EP) (e : Ev) (a : Ac) (v : Vr) (A : Option Addr) (n c : Nat) (w : World) (he : EnvIn w p e) (hs : SmallA a) (ht : Tms w (.slice A n c) a.x) (ha : a.any = false) (hc : chkE e a.x = 0) :
    Calls Tryz.prog 77 #[.agg #[.string a.s, .bool a.any, .slice A n c], .agg #[.string v.s, .int .i64 v.lo, .int .i64 v.hi, .int .i64 v.ini], envV p e] w (RetIntsN w (givenL e a v)) := by
  obtain ⟨A', n', c', heq, hn, hnc⟩ := ht.shape
  cases heq
  have HT := Lib.hid ht
  have HE := Lib.hid he
  have HAT := Lib.hid (fun w h h' => at_yes p e A n c a.x hn (by have := hs.2.2; omega) hs.2.1 w h h' hc)
  have HG : Hid (givenL e a v = [clampI (comeE e a.x) v.lo v.hi]) := Lib.hid (by unfold givenL; rw [if_neg (by simp [ha])])
  obtain ⟨G, hG⟩ : ∃ G, G = givenL e a v := ⟨_, rfl⟩
  rw [← hG] at HG ⊢
  obtain ⟨m, hm⟩ : ∃ m, m = comeE e a.x := ⟨_, rfl⟩
  rw [← hm] at HAT HG
  obtain ⟨s, any, x⟩ := a
  simp only at HT HAT ha ⊢
  subst ha
  obtain ⟨vs, lo, hi, ini⟩ := v
  simp only at HG ⊢
  have HCL := Lib.hid (fun w => clamp_any m lo hi w)
  obtain ⟨z, hz⟩ : ∃ z, z = clampI m lo hi := ⟨_, rfl⟩
  rw [← hz] at HCL HG
  obtain ⟨E, hE⟩ : ∃ E, E = e := ⟨_, rfl⟩
  rw [← hE] at HE
  obtain ⟨vA, vn, vc, iA, im, ic⟩ := p
  obtain ⟨vars, v0, v1, v2, v3, ins⟩ := e
  have HAT' : Hid (∀ w, Tms w (.slice A n c) x → EnvIn w ⟨vA, vn, vc, iA, im, ic⟩ E → Calls Tryz.prog 114 #[.slice A n c, .agg #[.slice vA vn vc, .int .i64 v0, .int .i64 v1, .int .i64 v2, .int .i64 v3, .slice iA im ic]] w (ERetAt w m 0)) := Lib.hid (fun w h h' => by rw [hE] at h'; exact HAT.out w h h')
  clear hE HAT he hs ht hn hnc hc hm hz hG
  change Calls _ _ #[_, _, .agg #[.slice vA vn vc, .int .i64 v0, .int .i64 v1, .int .i64 v2, .int .i64 v3, .slice iA im ic]] _ _
  have HBP := Lib.hid (below_two' (KitC.below_pair w (.cells #[.string s, .bool false, .slice A n c] 66) (.cells #[.string vs, .int .i64 lo, .int .i64 hi, .int .i64 ini] 62)) (KitC.below_one _ (.cells #[.slice vA vn vc, .int .i64 v0, .int .i64 v1, .int .i64 v2, .int .i64 v3, .slice iA im ic] 54)))
  go_enter Tryz.func77, Tryz.ntmps77
  go_wp2_with (go_at_call 114; (with_reducible refine (HAT'.out _ (HT.out.keep HBP.out) (HE.out.keep HBP.out)).mono ?_))
  rintro e2 w2 ⟨rfl, hb2⟩
  obtain ⟨B1, B2, B3, hbb⟩ := three_blocks hb2
  have HB2 := Lib.hid hbb
  obtain ⟨c0, c1, c2, c3⟩ := cells_4 B2
  clear hb2 hbb B1 B2 B3
  go_wp2_with (go_at_call 115; refine (HCL.out _).mono ?_; rintro e w' ⟨rfl, rfl⟩)
  go_ret
  exact ⟨_, rfl, by rw [HG.out]; exact lit_here rfl rfl rfl, below_two' HB2.out (KitC.below_one _ _), beyond_lit HB2.out.size⟩
def GivRel (W : World) (lo : Int) (n : Nat) (p i : Value) (wr : World) : Prop := ∃ k : Nat, k ≤ n ∧ i = .int .i64 k ∧ RowI W wr p ((List.range k).map fun (j : Nat) => lo + j)
theorem range_next (lo : Int) (k : Nat) : ((List.range (k + 1)).map fun (j : Nat) => lo + j) = ((List.range k).map fun (j : Nat) => lo + j) ++ [lo + k] := by rw [List.range_succ, List.map_append]; rfl
set_option maxHeartbeats 2000000 in
theorem given_span (p : EP) (e : Ev) (a : Ac) (v : Vr) (A : Option Addr) (n c : Nat) (w : World) (ha : a.any = true) (hf : VFit v) (hsp : spanB v = true) :
    Calls Tryz.prog 77 #[.agg #[.string a.s, .bool a.any, .slice A n c], .agg #[.string v.s, .int .i64 v.lo, .int .i64 v.hi, .int .i64 v.ini], envV p e] w (RetIntsN w (givenL e a v)) := by
  have hg : givenL e a v = (List.range ((v.hi - v.lo + 1).toNat)).map fun (k : Nat) => v.lo + k := by unfold givenL; rw [if_pos ha]
  rw [hg]
  obtain ⟨i0, hi, hz0, hz1, hz2⟩ := info_parts inf_int
  have HI := Lib.hid (And.intro hi (And.intro hz0 (And.intro hz1 hz2)))
  obtain ⟨s, any, x⟩ := a
  simp only at ha ⊢
  subst ha
  obtain ⟨vs, lo, hb, ini⟩ := v
  obtain ⟨f1, f2, f3, f4⟩ := hf
  unfold spanB at hsp
  simp only [Bool.and_eq_true, decide_eq_true_eq] at f1 f2 f3 f4 hsp ⊢
  obtain ⟨s1, s2⟩ := hsp
  obtain ⟨m, hm⟩ : ∃ m, m = (hb - lo + 1).toNat := ⟨_, rfl⟩
  rw [← hm]
  have hmI : (m : Int) = hb - lo + 1 := by omega
  have HM : Hid (m ≤ 64) := Lib.hid (by omega)
  obtain ⟨vA, vn, vc, iA, im, ic⟩ := p
  obtain ⟨vars, v0, v1, v2, v3, ins⟩ := e
  clear hg hi hz0 hz1 hz2 hm
  change Calls _ _ #[_, _, .agg #[.slice vA vn vc, .int .i64 v0, .int .i64 v1, .int .i64 v2, .int .i64 v3, .slice iA im ic]] _ _
  obtain ⟨w1, hw1⟩ : ∃ w1, ((w.alloc (.cells #[.string s, .bool true, .slice A n c] 66)).alloc (.cells #[.string vs, .int .i64 lo, .int .i64 hb, .int .i64 ini] 62)).alloc (.cells #[.slice vA vn vc, .int .i64 v0, .int .i64 v1, .int .i64 v2, .int .i64 v3, .slice iA im ic] 54) = w1 := ⟨_, rfl⟩
  obtain ⟨B1, B2, B3, hbb⟩ := three_blocks (w := w) (o := .cells #[.string s, .bool true, .slice A n c] 66) (p := .cells #[.string vs, .int .i64 lo, .int .i64 hb, .int .i64 ini] 62) (q := .cells #[.slice vA vn vc, .int .i64 v0, .int .i64 v1, .int .i64 v2, .int .i64 v3, .slice iA im ic] 54) (Below.refl _ _)
  rw [hw1] at B2 hbb
  have HW := Lib.hid hw1
  have HK := Lib.hid B2
  have HBB := Lib.hid hbb
  clear hw1 B1 B2 B3 hbb
  go_enter Tryz.func77, Tryz.ntmps77
  go_wp2_with fail
  rw [HW.out]
  go_loopw [9, 34] (fun p i wr => GivRel w1 lo m p i wr) (fun _ i _ => m - (Go.RowKit.intOf i).toNat)
  case atStart => exact ⟨0, Nat.zero_le _, rfl, RowI.nil _ _ (Below.refl _ _)⟩
  case round =>
    obtain ⟨k, hk, rfl, hrow⟩ := hrel
    have HR0 := Lib.hid hrow
    obtain ⟨c0, c1, c2, c3⟩ := cells_4 (KitC.block_on HK.out hrow.2)
    clear hrow
    by_cases hlt : k < m
    · have hltI : (k : Int) < hb - lo + 1 := by omega
      have hsum1 : -9223372036854775808 ≤ lo + k := by omega
      have hsum2 : lo + k ≤ 9223372036854775807 := by omega
      obtain ⟨z, hz⟩ : ∃ z, z = lo + (k : Int) := ⟨_, rfl⟩
      have HZ := Lib.hid hz
      have HL1 : Hid (((List.range k).map fun (j : Nat) => lo + j).length + (intV [z]).length ≤ maxLen) := Lib.hid (by have := HM.out; simp [maxLen]; omega)
      have HL2 : Hid ((((List.range k).map fun (j : Nat) => lo + j).length + (intV [z]).length) * 8 ≤ 140737488355328) := Lib.hid (by have := HM.out; simp; omega)
      have HSZ : Hid (w1.heap.size ≤ wr.heap.size) := Lib.hid HR0.out.2.size
      have HRA := Lib.hid HR0.out.1
      go_wp2_with (rw [← HZ.out]; at_builtin; refine wpList_append_rd _ rfl (.tmp 37) (.tmp 42) _ rfl w1.heap.size 3 i0 (.int .i64 0) 8 Tryz.underlying110 HI.out.1 HI.out.2.1 HI.out.2.2.1 HI.out.2.2.2 rfl _ _ _ rfl (own_keep HRA.out (KitC.below_one _ _)) _ (intV [z]) rfl (lit_here rfl rfl rfl) (intV_one _) HL1.out HL2.out ?_ ?_; (have := HSZ.out; simp; omega); intro p2 w2 hrow2 hg2 _; have HR2 := Lib.hid (RowI.add HR0.out hrow2 hg2); clear hrow2 hg2)
      go_roundw
      case rel => exact ⟨k + 1, by omega, by go_num, by rw [range_next, ← HZ.out]; exact HR2.out⟩
      case measure => simp [Go.RowKit.intOf]; omega
    · have hltI : ¬ (k : Int) < hb - lo + 1 := by omega
      obtain rfl : k = m := by omega
      go_wp2_with fail
      go_ret
      exact ⟨_, rfl, HR0.out.read, below_two' HBB.out HR0.out.2, beyond_rowI HR0.out HBB.out.size⟩
theorem given_any (p : EP) (e : Ev) (a : Ac) (v : Vr) (A : Option Addr) (n c : Nat) (w : World) (he : EnvIn w p e) (hs : SmallA a) (ht : Tms w (.slice A n c) a.x) (hf : VFit v) (h1 : a.any = false → chkE e a.x = 0) (h2 : a.any = true → spanB v = true) :
    Calls Tryz.prog 77 #[.agg #[.string a.s, .bool a.any, .slice A n c], .agg #[.string v.s, .int .i64 v.lo, .int .i64 v.hi, .int .i64 v.ini], envV p e] w (RetIntsN w (givenL e a v)) := by
  rcases h : a.any with _ | _
  · have := given_expr p e a v A n c w he hs ht h (h1 h)
    rwa [h] at this
  · have := given_span p e a v A n c w h hf (h2 h)
    rwa [h] at this
theorem givenL_length (e : Ev) (a : Ac) (v : Vr) (h2 : a.any = true → spanB v = true) : 0 < (givenL e a v).length ∧ (givenL e a v).length ≤ 64 := by
  unfold givenL
  split
  · rename_i h
    have := h2 h
    unfold spanB at this
    simp only [Bool.and_eq_true, decide_eq_true_eq] at this
    rw [List.length_map, List.length_range]
    omega
  · simp
end Go.Proofs.YtcfcpbkeedfbpaaGreatDoor

namespace Go.Proofs.YtcfcpbkeedfbpaaGreatDoor
open Go.RowKit Go.Sort TermSpec EvalSpec NamesSpec
set_option maxRecDepth 100000

end Go.Proofs.YtcfcpbkeedfbpaaGreatDoor

namespace Go.Proofs.YtcfcpbkeedfbpaaGreatDoor
open Go.RowKit TermSpec EvalSpec ActSpec NamesSpec Go.Lib
set_option maxRecDepth 100000

end Go.Proofs.YtcfcpbkeedfbpaaGreatDoor

namespace Go.Proofs.YtcfcpbkeedfbpaaGreatDoor
open Go.RowKit TermSpec EvalSpec ActSpec NamesSpec

/-- The values of an Env's box, overwritten. -/
def st4 (w : World) (E : Nat) (x : V4) : World :=
  (((w.setCell ⟨E, 1, none⟩ (.int .i64 x.a)).setCell ⟨E, 2, none⟩ (.int .i64 x.b)).setCell ⟨E, 3, none⟩ (.int .i64 x.c)).setCell ⟨E, 4, none⟩ (.int .i64 x.d)
theorem st4_block {w : World} {E : Nat} {x : V4} {T : TypeId} {q0 q1 q2 q3 q4 q5 : Value} (h : w.heap[E]? = some (.cells #[q0, q1, q2, q3, q4, q5] T (0, 0))) :
    (st4 w E x).heap[E]? = some (.cells #[q0, .int .i64 x.a, .int .i64 x.b, .int .i64 x.c, .int .i64 x.d, q5] T (0, 0)) :=
  block_setCell' (block_setCell' (block_setCell' (block_setCell' h 1 _) 2 _) 3 _) 4 _
theorem st4_but (w : World) (E : Nat) (x : V4) : w.grownBy (st4 w E x) (some E) := but_set (but_set (but_set (but_set (but_refl _ _) 1 _) 2 _) 3 _) 4 _
theorem st4_other {w : World} {E b : Nat} {x : V4} {o : Obj} (h : w.heap[b]? = some o) (hne : b ≠ E) : (st4 w E x).heap[b]? = some o :=
  ((st4_but w E x).block b (Array.getElem?_eq_some_iff.1 h).1 (by simp; omega)).trans h
theorem st4_below {w w0 : World} {E B : Nat} {x : V4} (h : Below B w0 w) (hB : B ≤ E) : Below B w0 (st4 w E x) :=
  (((h.setCell hB _).setCell hB _).setCell hB _).setCell hB _
theorem st4_size (w : World) (E : Nat) (x : V4) : (st4 w E x).heap.size = w.heap.size := by simp [st4, World.setCell]
theorem envIn_at {w : World} {p : EP} {e : Ev} (h : EnvIn w p e) (x : V4) : EnvIn w p (envAt e x) := ⟨h.vars, h.ins, h.vbd, h.ibd⟩
/-- What the loop of one act keeps. -/
structure OneMem (w0 : World) (s : ByteArray) (any : Bool) (A : Option Addr) (n c : Nat) (p : EP) (v : Vr) (vb : Nat) (wr : World) : Prop where
  below : Below w0.heap.size w0 wr
  act : wr.heap[w0.heap.size]? = some (.cells #[.string s, .bool any, .slice A n c] 66 (0, 0))
  env : ∃ y : V4, wr.heap[w0.heap.size + 1]? = some (.cells #[.slice p.vA p.vn p.vc, .int .i64 y.a, .int .i64 y.b, .int .i64 y.c, .int .i64 y.d, .slice p.iA p.im p.ic] 54 (0, 0))
  var : wr.heap[vb]? = some (.cells #[.string v.s, .int .i64 v.lo, .int .i64 v.hi, .int .i64 v.ini] 62 (0, 0))
  beyond : w0.heap.size + 1 < vb
  there : vb < wr.heap.size
section
variable {w0 : World} {s : ByteArray} {any : Bool} {A : Option Addr} {n c : Nat} {p : EP} {v : Vr} {vb : Nat} {wr : World}
theorem OneMem.on {w' : World} (h : OneMem w0 s any A n c p v vb wr) (hb : Below wr.heap.size wr w') : OneMem w0 s any A n c p v vb w' := by
  obtain ⟨h1, h2, ⟨y, h3⟩, h4, h5, h6⟩ := h
  exact ⟨below_two' h1 hb, KitC.block_on h2 hb, ⟨y, KitC.block_on h3 hb⟩, KitC.block_on h4 hb, h5, Nat.lt_of_lt_of_le h6 hb.size⟩
theorem OneMem.set (h : OneMem w0 s any A n c p v vb wr) (x : V4) : OneMem w0 s any A n c p v vb (st4 wr (w0.heap.size + 1) x) := by
  obtain ⟨h1, h2, ⟨y, h3⟩, h4, h5, h6⟩ := h
  exact ⟨st4_below h1 (by omega), st4_other h2 (by omega), ⟨x, st4_block h3⟩, st4_other h4 (by omega), h5, by rw [st4_size]; exact h6⟩
end
end Go.Proofs.YtcfcpbkeedfbpaaGreatDoor

namespace Go.Proofs.YtcfcpbkeedfbpaaGreatDoor
open Go.RowKit TermSpec EvalSpec ActSpec NamesSpec

theorem own_other {w w' : World} {base n k B : Nat} {e : TypeId} {v : Value} {xs : List Value} (h : w.ownsRow base e k v n xs) (hb : w.grownBy w' (some B)) (hne : v.ownBlock ≠ some B) : w'.ownsRow base e k v n xs := by
  refine ⟨h.1, ?_⟩
  rcases h.2 with h | ⟨g, cap, cur, h1, h2, h3, h4⟩
  · exact .inl h
  · subst h1
    exact .inr ⟨g, cap, cur, rfl, h2, (hb.block g (Array.getElem?_eq_some_iff.1 h3).1 (fun e => hne e)).trans h3, h4⟩
theorem rd_other {w w' : World} {v : Value} {xs : List Value} {ob : Option Nat} (h : Rd w v xs) (hb : w.grownBy w' ob) (hne : ∀ b off n c, v = .slice (some ⟨b, off, none⟩) n c → 0 < n → ob ≠ some b) : Rd w' v xs := by
  obtain ⟨A, n, c, rfl, hn, hc, hA⟩ := h
  refine ⟨A, n, c, rfl, hn, hc, fun h0 => ?_⟩
  obtain ⟨b, off, rfl, hlt, hcell⟩ := hA h0
  refine ⟨b, off, rfl, Nat.lt_of_lt_of_le hlt hb.size, fun j u hj => ?_⟩
  have hblk := hb.block b hlt (fun e => hne b off _ _ rfl h0 e.symm)
  have := hcell j u hj
  simp only [World.cell?] at this ⊢
  rw [hblk]
  exact this
theorem block_other {w w' : World} {b : Nat} {ob : Option Nat} {o : Obj} (h : w.heap[b]? = some o) (hb : w.grownBy w' ob) (hne : ob ≠ some b) : w'.heap[b]? = some o :=
  (hb.block b (Array.getElem?_eq_some_iff.1 h).1 (fun e => hne e.symm)).trans h
abbrev v4B (x : V4) (T : TypeId) : Obj := .cells #[.int .i64 x.a, .int .i64 x.b, .int .i64 x.c, .int .i64 x.d] T (0, 0)
theorem v4_put {w : World} {b i : Nat} {x : V4} {T : TypeId} (h : w.heap[b]? = some (v4B x T)) (hi : i < 4) (n : Int) : (w.setCell ⟨b, i, none⟩ (.int .i64 n)).heap[b]? = some (v4B (x.set i n) T) := by
  have := block_setCell' h i (.int .i64 n)
  rw [this]
  rcases (show i = 0 ∨ i = 1 ∨ i = 2 ∨ i = 3 by omega) with rfl | rfl | rfl | rfl <;> rfl
theorem set_set (x : V4) (i : Nat) (a b : Int) : (x.set i a).set i b = x.set i b := by
  unfold V4.set
  split
  · rfl
  · split
    · rfl
    · split <;> rfl
section
variable (w0 : World) (s : ByteArray) (any : Bool) (A : Option Addr) (n c : Nat) (p : EP)
/-- What the loop over the lists keeps. -/
structure DoOut (pv : Value) (xs : List V4) (wr : World) : Prop where
  below : Below w0.heap.size w0 wr
  act : wr.heap[w0.heap.size]? = some (.cells #[.string s, .bool any, .slice A n c] 66 (0, 0))
  env : ∃ y : V4, wr.heap[w0.heap.size + 1]? = some (.cells #[.slice p.vA p.vn p.vc, .int .i64 y.a, .int .i64 y.b, .int .i64 y.c, .int .i64 y.d, .slice p.iA p.im p.ic] 54 (0, 0))
  row : wr.ownsRow (w0.heap.size + 2) 51 4 pv xs.length (v4sV xs)
/-- What the loop over the numbers keeps. -/
structure DoIn (vb : Nat) (y : V4) (i : Nat) (gv : Value) (G : List Int) (pv : Value) (xs : List V4) (wr : World) : Prop extends DoOut w0 s any A n c p pv xs wr where
  beyond : w0.heap.size + 2 ≤ vb
  there : vb < wr.heap.size
  vals : ∃ z : V4, wr.heap[vb]? = some (v4B z 51) ∧ ∀ m, z.set i m = y.set i m
  rowne : pv.ownBlock ≠ some vb
  nums : Rd wr gv (intV G)
  numsne : ∀ b off n c, gv = .slice (some ⟨b, off, none⟩) n c → 0 < n → b ≠ vb ∧ pv.ownBlock ≠ some b
end
section
variable {w0 : World} {s : ByteArray} {any : Bool} {A : Option Addr} {n c : Nat} {p : EP} {pv : Value} {xs : List V4} {wr w' : World} {vb : Nat} {y : V4} {i : Nat} {gv : Value} {G : List Int}
theorem DoOut.on (h : DoOut w0 s any A n c p pv xs wr) (hb : Below wr.heap.size wr w') : DoOut w0 s any A n c p pv xs w' := by
  obtain ⟨h1, h2, ⟨y, h3⟩, h4⟩ := h
  exact ⟨below_two' h1 hb, KitC.block_on h2 hb, ⟨y, KitC.block_on h3 hb⟩, own_keep h4 hb⟩
theorem DoOut.size (h : DoOut w0 s any A n c p pv xs wr) : w0.heap.size + 2 ≤ wr.heap.size := by
  obtain ⟨y, h3⟩ := h.env
  exact (Array.getElem?_eq_some_iff.1 h3).1
theorem DoOut.set (h : DoOut w0 s any A n c p pv xs wr) (x : V4) : DoOut w0 s any A n c p pv xs (st4 wr (w0.heap.size + 1) x) := by
  obtain ⟨h1, h2, ⟨y, h3⟩, h4⟩ := h
  exact ⟨st4_below h1 (by omega), st4_other h2 (by omega), ⟨x, st4_block h3⟩, own_but h4 (st4_but wr _ x) (by omega)⟩
theorem DoIn.on (h : DoIn w0 s any A n c p vb y i gv G pv xs wr) (hb : Below wr.heap.size wr w') : DoIn w0 s any A n c p vb y i gv G pv xs w' := by
  obtain ⟨h0, h1, h2, ⟨z, h3, h4⟩, h5, h6, h7⟩ := h
  exact ⟨h0.on hb, h1, Nat.lt_of_lt_of_le h2 hb.size, ⟨z, KitC.block_on h3 hb, h4⟩, h5, h6.keep hb, h7⟩
theorem DoIn.put (h : DoIn w0 s any A n c p vb y i gv G pv xs wr) (hi : i < 4) (m : Int) :
    DoIn w0 s any A n c p vb y i gv G pv xs (wr.setCell ⟨vb, i, none⟩ (.int .i64 m)) ∧ (wr.setCell ⟨vb, i, none⟩ (.int .i64 m)).heap[vb]? = some (v4B (y.set i m) 51) := by
  obtain ⟨⟨h1, h2, ⟨y', h3⟩, h4⟩, h5, h6, ⟨z, h7, h8⟩, h9, h10, h11⟩ := h
  have hg : wr.grownBy (wr.setCell ⟨vb, i, none⟩ (.int .i64 m)) (some vb) := but_set (but_refl _ _) i _
  have hv := v4_put h7 hi m
  rw [h8 m] at hv
  exact ⟨⟨⟨h1.setCell (show w0.heap.size ≤ vb by omega) _, block_other h2 hg (by simp; omega), ⟨y', block_other h3 hg (by simp; omega)⟩, own_other h4 hg h9⟩, h5, Nat.lt_of_lt_of_le h6 hg.size, ⟨_, hv, fun k => by rw [set_set]⟩, h9, rd_other h10 hg fun b off n c he h0 e => (h11 b off n c he h0).1 (by injection e with e; exact e.symm), h11⟩, hv⟩
theorem DoIn.add {w2 : World} {pv' : Value} {x : V4} (h : DoIn w0 s any A n c p vb y i gv G pv xs wr) (hrow : w2.ownsRow (w0.heap.size + 2) 51 4 pv' (xs.length + 1) (v4sV xs ++ v4sV [x])) (hg : wr.grownBy w2 pv.ownBlock) (hob : pv'.ownBlock = pv.ownBlock ∨ pv'.ownBlock = some wr.heap.size) :
    DoIn w0 s any A n c p vb y i gv G pv' (xs ++ [x]) w2 := by
  obtain ⟨⟨h1, h2, ⟨y', h3⟩, h4⟩, h5, h6, ⟨z, h7, h8⟩, h9, h10, h11⟩ := h
  have hbd := fun j hj => (own_block_bd h4 j hj).1
  refine ⟨⟨h1.grown hg h1.size fun j hj => by have := hbd j hj; omega, block_other h2 hg (fun e => by have := hbd _ e; omega), ⟨y', block_other h3 hg (fun e => by have := hbd _ e; omega)⟩, ?_⟩, h5, Nat.lt_of_lt_of_le h6 hg.size, ⟨z, block_other h7 hg h9, h8⟩, ?_, rd_other h10 hg fun b off n c he h0 => (h11 b off n c he h0).2, fun b off n c he h0 => ⟨(h11 b off n c he h0).1, ?_⟩⟩
  · rw [← v4sV_append, List.length_append]
    exact hrow
  · rcases hob with e | e
    · rw [e]; exact h9
    · rw [e]; intro e; injection e with e; omega
  · rcases hob with e | e
    · rw [e]; exact (h11 b off n c he h0).2
    · rw [e]
      intro e
      injection e with e
      obtain ⟨A', n', c', heq, _, _, hA⟩ := h10
      rw [he] at heq
      injection heq with e1 e2 e3
      subst e1
      obtain ⟨b', off', e4, hlt, _⟩ := hA (by rw [← e2]; exact h0)
      injection e4 with e4
      injection e4 with e4
      omega
end
theorem flat_le {α : Type} {f : V4 → List α} {m : Nat} (hf : ∀ x, (f x).length ≤ m) : ∀ l : List V4, (l.flatMap f).length ≤ l.length * m
  | [] => by simp
  | x :: r => by
    have h1 := hf x
    have h2 := flat_le hf r
    rw [List.flatMap_cons, List.length_append, List.length_cons, Nat.add_mul]
    omega
theorem flat_pos {α : Type} {f : V4 → List α} (hf : ∀ x, 0 < (f x).length) {l : List V4} (h : 0 < l.length) : 0 < (l.flatMap f).length := by
  cases l with
  | nil => simp at h
  | cons x r =>
    have := hf x
    rw [List.flatMap_cons, List.length_append]
    omega
end Go.Proofs.YtcfcpbkeedfbpaaGreatDoor

namespace Go.Proofs.YtcfcpbkeedfbpaaGreatDoor
open Go.RowKit Go.Sort TermSpec EvalSpec ActSpec
set_option maxRecDepth 100000

theorem nan_int (x : Int) (w : World) : Calls Tryz.prog 152 #[.int .i64 x] w fun e w' => e = .returned (.bool false) ∧ w' = w := by
  go_enter Tryz.func152, Tryz.ntmps152
  go_wp2
  go_ret
  exact ⟨by simp, rfl⟩
set_option maxHeartbeats 1000000 in
theorem cmp_int (x y : Int) (w : World) : Calls Tryz.prog 120 #[.int .i64 x, .int .i64 y] w fun e w' => e = .returned (.int .i64 (Lib.compareInt x y)) ∧ w' = w := by
  go_enter Tryz.func120, Tryz.ntmps120
  go_wp2_with (go_at_call 152; refine (nan_int _ _).mono ?_; rintro e w' ⟨rfl, hw⟩; rw [hw])
  all_goals (go_ret; refine ⟨?_, rfl⟩; unfold Lib.compareInt; (repeat' split) <;> first | rfl | (exfalso; omega))
/-- What the comparison of two lists of values tells. -/
def cmpV (x y : V4) : Int := if x.a ≠ y.a then Lib.compareInt x.a y.a else if x.b ≠ y.b then Lib.compareInt x.b y.b else if x.c ≠ y.c then Lib.compareInt x.c y.c else if x.d ≠ y.d then Lib.compareInt x.d y.d else 0
theorem compareInt_neg (x y : Int) : decide (Lib.compareInt x y < 0) = decide (x < y) := by
  unfold Lib.compareInt
  split
  · simp [*]
  · split <;> simp [*]
theorem compareInt_zero {x y : Int} : Lib.compareInt x y = 0 ↔ x = y := by
  unfold Lib.compareInt
  split
  · constructor
    · intro h; cases h
    · intro h; omega
  · split
    · constructor
      · intro h; cases h
      · intro h; omega
    · constructor
      · intro _; omega
      · intro _; rfl
theorem cmpV_less (x y : V4) : decide (cmpV x y < 0) = lessV x y := by
  unfold cmpV lessV
  split
  · exact compareInt_neg _ _
  · split
    · exact compareInt_neg _ _
    · split
      · exact compareInt_neg _ _
      · split
        · exact compareInt_neg _ _
        · rename_i h
          have : x.d = y.d := Decidable.not_not.1 h
          rw [this]; simp
theorem cmpV_at {x y : V4} {k : Nat} (hk : k < 4) (h : ∀ j, j < k → x.get j = y.get j) (hne : x.get k ≠ y.get k) : cmpV x y = Lib.compareInt (x.get k) (y.get k) := by
  unfold cmpV
  rcases (show k = 0 ∨ k = 1 ∨ k = 2 ∨ k = 3 by omega) with rfl | rfl | rfl | rfl
  · rw [if_pos (show x.a ≠ y.a from hne)]; rfl
  · rw [if_neg (by have : x.a = y.a := h 0 (by omega); simp [this]), if_pos (show x.b ≠ y.b from hne)]; rfl
  · rw [if_neg (by have : x.a = y.a := h 0 (by omega); simp [this]), if_neg (by have : x.b = y.b := h 1 (by omega); simp [this]), if_pos (show x.c ≠ y.c from hne)]; rfl
  · rw [if_neg (by have : x.a = y.a := h 0 (by omega); simp [this]), if_neg (by have : x.b = y.b := h 1 (by omega); simp [this]), if_neg (by have : x.c = y.c := h 2 (by omega); simp [this]), if_pos (show x.d ≠ y.d from hne)]; rfl
theorem cmpV_same {x y : V4} (h : ∀ j, j < 4 → x.get j = y.get j) : cmpV x y = 0 := by
  unfold cmpV
  rw [if_neg (by have : x.a = y.a := h 0 (by omega); simp [this]), if_neg (by have : x.b = y.b := h 1 (by omega); simp [this]), if_neg (by have : x.c = y.c := h 2 (by omega); simp [this]), if_neg (by have : x.d = y.d := h 3 (by omega); simp [this])]

def CmpRel (x y : V4) (i : Value) : Prop := ∃ k : Nat, k ≤ 4 ∧ i = .int .i64 k ∧ (∀ j, j < k → x.get j = y.get j)
set_option maxHeartbeats 1000000 in
theorem scompare_any (x y : V4) (b1 b2 c1 c2 : Nat) (T1 T2 : TypeId) (w : World) (h1 : w.heap[b1]? = some (.cells #[.int .i64 x.a, .int .i64 x.b, .int .i64 x.c, .int .i64 x.d] T1 (0, 0))) (h2 : w.heap[b2]? = some (.cells #[.int .i64 y.a, .int .i64 y.b, .int .i64 y.c, .int .i64 y.d] T2 (0, 0))) (_hc1 : 4 ≤ c1) (_hc2 : 4 ≤ c2) :
    Calls Tryz.prog 85 #[.slice (some ⟨b1, 0, none⟩) 4 c1, .slice (some ⟨b2, 0, none⟩) 4 c2] w fun e w' => e = .returned (.int .i64 (cmpV x y)) ∧ w' = w := by
  have H1 := Lib.hid h1
  have H2 := Lib.hid h2
  obtain ⟨r, hr⟩ : ∃ r, r = cmpV x y := ⟨_, rfl⟩
  rw [← hr]
  have HR := Lib.hid hr
  clear h1 h2 hr
  go_enter Tryz.func85, Tryz.ntmps85
  go_wp2_with fail
  go_loop [11] (fun i => CmpRel x y i) (fun i => 4 - (intOf i).toNat)
  case atStart => exact ⟨0, Nat.zero_le _, rfl, by simp⟩
  case round =>
    obtain ⟨k, hk, rfl, hsame⟩ := hrel
    have HSAME := Lib.hid hsame
    by_cases hlt : k < 4
    · have d1 := v4_cell H1.out hlt
      have d2 := v4_cell H2.out hlt
      rw [Nat.zero_add] at d1 d2
      obtain ⟨p, hp⟩ : ∃ p, p = x.get k := ⟨_, rfl⟩
      obtain ⟨q, hq⟩ : ∃ q, q = y.get k := ⟨_, rfl⟩
      rw [← hp] at d1
      rw [← hq] at d2
      have HP := Lib.hid hp
      have HQ := Lib.hid hq
      have hkI : (k : Int) < 4 := by omega
      obtain ⟨z, hz⟩ : ∃ z, z = Lib.compareInt p q := ⟨_, rfl⟩
      have HC := Lib.hid (fun w => cmp_int p q w)
      rw [← hz] at HC
      have HZ := Lib.hid hz
      clear hp hq hsame hz
      by_cases hz0 : z = 0
      · have g : (z != 0) = false := by simp [hz0]
        have HE : Hid (p = q) := Lib.hid (compareInt_zero.1 (by rw [← HZ.out]; exact hz0))
        clear hz0
        go_wp2_with (go_at_call 120; refine (HC.out _).mono ?_; rintro e w' ⟨rfl, hw⟩; rw [hw])
        go_round
        case rel =>
          refine ⟨k + 1, by omega, by go_num, fun j hj => ?_⟩
          rcases Nat.lt_or_ge j k with h | h
          · exact HSAME.out j h
          · rw [show j = k by omega, ← HP.out, ← HQ.out]; exact HE.out
        case measure => simp [intOf]; omega
      · have g : (z != 0) = true := by simp [hz0]
        have HL : Hid (r = z) := Lib.hid (by
          rw [HR.out, HZ.out, HP.out, HQ.out]
          refine cmpV_at hlt HSAME.out fun h => hz0 ?_
          rw [HZ.out, HP.out, HQ.out]
          exact compareInt_zero.2 h)
        clear hz0
        go_wp2_with (go_at_call 120; refine (HC.out _).mono ?_; rintro e w' ⟨rfl, hw⟩; rw [hw])
        go_ret
        exact ⟨ret_int HL.out.symm, rfl⟩
    · have HL : Hid (r = 0) := Lib.hid (by rw [HR.out]; exact cmpV_same fun j hj => HSAME.out j (by omega))
      have hkI : ¬ (k : Int) < 4 := by omega
      clear hsame
      go_wp2_with fail
      go_ret
      exact ⟨ret_int HL.out.symm, rfl⟩
abbrev v4O (x : V4) : Obj := .cells #[.int .i64 x.a, .int .i64 x.b, .int .i64 x.c, .int .i64 x.d] 51
theorem slice_arr4 (B : Nat) (W : World) : (Instr.sliceAt 51 (.pointer (some ⟨B, 0, none⟩)) none none none).run Tryz.prog W = .ok (.slice (some ⟨B, 0, none⟩) 4 4) W := by
  have hal : Tryz.prog.arrayLen 51 = 4 := by simp [Program.arrayLen, Tryz.underlying51]
  rw [run_sliceAt_array_all W 51 ⟨B, 0, none⟩ (by simp [Program.arrayLen, Program.elem, Tryz.underlying51]), hal, show Tryz.prog.elem 51 = 3 by kernel_rfl, Tryz.sizeOf3]
  simp [slicedAt, Result.andThen, Addr.add]
set_option maxHeartbeats 1000000 in
theorem vcompare_any (x y : V4) (w : World) : Calls Tryz.prog 46 #[v4A x, v4A y] w fun e w' => e = .returned (.int .i64 (cmpV x y)) ∧ ∃ q, w' = ((w.alloc (v4O x)).alloc (v4O y)).drewN q := by
  have B : Hid (∀ q, ((((w.alloc (v4O x)).alloc (v4O y)).drewN q).heap[w.heap.size]? = some (.cells #[.int .i64 x.a, .int .i64 x.b, .int .i64 x.c, .int .i64 x.d] 51 (0, 0))) ∧ ((((w.alloc (v4O x)).alloc (v4O y)).drewN q).heap[w.heap.size + 1]? = some (.cells #[.int .i64 y.a, .int .i64 y.b, .int .i64 y.c, .int .i64 y.d] 51 (0, 0)))) := Lib.hid (fun q => by
    obtain ⟨b1, b2, _, _⟩ := KitC.pair_blocks (Below.refl ((w.alloc (v4O x)).alloc (v4O y)).heap.size ((w.alloc (v4O x)).alloc (v4O y)))
    exact ⟨b1, b2⟩)
  have HC := Lib.hid (fun q => scompare_any x y w.heap.size (w.heap.size + 1) 4 4 _ _ _ (B.out q).1 (B.out q).2 (Nat.le_refl _) (Nat.le_refl _))
  have hs1 := slice_arr4 w.heap.size
  have hs2 := slice_arr4 (w.heap.size + 1)
  obtain ⟨r, hr⟩ : ∃ r, r = cmpV x y := ⟨_, rfl⟩
  rw [← hr] at HC ⊢
  clear hr B
  obtain ⟨x0, x1, x2, x3⟩ := x
  obtain ⟨y0, y1, y2, y3⟩ := y
  go_enter Tryz.func46, Tryz.ntmps46
  go_wp2_with fail
  go_quiet ((go_at_call 85; exact Calls.quiet_of_same (HC.out _)))
  go_wp2_with fail
  go_ret
  exact ⟨rfl, _, rfl⟩
theorem compare_grown (x y : V4) (w : World) : Calls Tryz.prog 46 #[v4A x, v4A y] w fun e w' => e = .returned (.int .i64 (cmpV x y)) ∧ ∃ q os, w' = grow (w.drewN q) os :=
  (vcompare_any x y w).mono fun _ _ ⟨h, q, hw⟩ => ⟨h, q, #[v4O x, v4O y], by rw [hw, alloc_eq_grow, alloc_eq_grow, grow_grow]; rfl⟩
set_option maxHeartbeats 1000000 in
theorem less_any (x y : V4) (w : World) : Calls Tryz.prog 26 #[v4A x, v4A y] w (RetB w (lessV x y)) := by
  have HC := Lib.hid (fun w => vcompare_any x y w)
  have HL := Lib.hid (cmpV_less x y)
  obtain ⟨r, hr⟩ : ∃ r, r = cmpV x y := ⟨_, rfl⟩
  rw [← hr] at HC HL
  obtain ⟨l, hl⟩ : ∃ l, l = lessV x y := ⟨_, rfl⟩
  rw [← hl] at HL ⊢
  clear hr hl
  have HB := Lib.hid (KitC.below_pair w (v4O x) (v4O y))
  obtain ⟨x0, x1, x2, x3⟩ := x
  obtain ⟨y0, y1, y2, y3⟩ := y
  go_enter Tryz.func26, Tryz.ntmps26
  go_wp2_with (go_at_call 46; (with_reducible refine (HC.out _).mono ?_))
  rintro e2 w2 ⟨rfl, q, hw⟩
  have HB2 := Lib.hid (below_two' HB.out (below_drewN (KitC.below_pair ((w.alloc (v4O ⟨x0, x1, x2, x3⟩)).alloc (v4O ⟨y0, y1, y2, y3⟩)) (v4O ⟨x0, x1, x2, x3⟩) (v4O ⟨y0, y1, y2, y3⟩)) q))
  rw [← hw] at HB2
  clear hw
  go_wp2_with fail
  go_ret
  exact ⟨ret_bool HL.out, HB2.out⟩
end Go.Proofs.YtcfcpbkeedfbpaaGreatDoor

namespace Go.Proofs.YtcfcpbkeedfbpaaGreatDoor
namespace ActSpec
open TermSpec EvalSpec Go.Lib

instance inhV4 : Inhabited V4 := ⟨⟨0, 0, 0, 0⟩⟩
/-- In order, some perhaps more than once. -/
def Slow (l : List V4) : Prop := l.Pairwise fun x y => lessV y x = false
theorem lessV_not (x y : V4) : lessV x y = false ↔ ¬ (x.a < y.a ∨ (x.a = y.a ∧ (x.b < y.b ∨ (x.b = y.b ∧ (x.c < y.c ∨ (x.c = y.c ∧ x.d < y.d)))))) := by
  rw [← lessV_iff]; simp
theorem lessV_ntrans {x y z : V4} (h : lessV x y = false) (h' : lessV y z = false) : lessV x z = false := by
  rw [lessV_not] at *
  omega
theorem lessV_le_lt {x y z : V4} (h : lessV y x = false) (h' : lessV y z = true) : lessV x z = true := by
  rw [lessV_not] at h
  rw [lessV_iff] at *
  omega
theorem nextV {l : List V4} {k : Nat} {x : V4} (h : l[k]? = some x) : l.take (k + 1) = l.take k ++ [x] := by
  rw [List.take_add_one, h]; rfl
theorem compactV_upto (d : Array V4) (hs : Slow d.toList) : ∀ m, m ≤ d.size →
    Up (compactUpTo d m) ∧ (∀ x, x ∈ compactUpTo d m ↔ x ∈ d.toList.take m) ∧ (0 < m → d[m - 1]! ∈ compactUpTo d m) := by
  have hget : ∀ i, i < d.size → d.toList[i]? = some d[i]! := fun i hi => by
    rw [List.getElem?_eq_getElem (by simpa using hi), getElem!_pos d i hi]; rfl
  have hle : ∀ i j, i < j → j < d.size → lessV d[j]! d[i]! = false := fun i j hij hj => by
    have := List.pairwise_iff_getElem.1 hs i j (by simp; omega) (by simpa using hj) hij
    rw [getElem!_pos d i (by omega), getElem!_pos d j hj]
    simpa using this
  intro m
  induction m with
  | zero => intro _; exact ⟨List.Pairwise.nil, by simp [compactUpTo], fun h => absurd h (by omega)⟩
  | succ m ih =>
    intro hm
    obtain ⟨h1, h2, h3⟩ := ih (by omega)
    have htake : d.toList.take (m + 1) = d.toList.take m ++ [d[m]!] := nextV (hget m (by omega))
    rw [compactUpTo_succ, htake]
    by_cases hk : keeps d m = true
    · rw [if_pos hk]
      refine ⟨?_, ?_, fun _ => by simp⟩
      · unfold Up
        rw [List.pairwise_append]
        refine ⟨h1, by simp, fun x hx y hy => ?_⟩
        rw [List.mem_singleton] at hy
        subst hy
        obtain ⟨i, hi⟩ := List.mem_iff_getElem?.1 ((h2 x).1 hx)
        have hil : i < m := by
          have := (List.getElem?_eq_some_iff.1 hi).1
          rw [List.length_take] at this
          omega
        rw [List.getElem?_take_of_lt hil, hget i (by omega)] at hi
        injection hi with hi
        subst hi
        have hne : d[m]! ≠ d[m - 1]! ∧ m ≠ 0 := by
          unfold keeps at hk
          have hk := of_decide_eq_true hk
          rcases hk with hk | hk
          · omega
          · exact ⟨hk, by omega⟩
        have hlt : lessV d[m - 1]! d[m]! = true := by
          rcases lessV_tri hne.1 with h | h
          · rw [hle (m - 1) m (by omega) (by omega)] at h
            cases h
          · exact h
        rcases Nat.lt_or_ge i (m - 1) with hc | hc
        · exact lessV_le_lt (hle i (m - 1) hc (by omega)) hlt
        · obtain rfl : i = m - 1 := by omega
          exact hlt
      · intro x
        simp only [List.mem_append, h2 x]
    · rw [if_neg hk, List.append_nil]
      have hm0 : m ≠ 0 := by
        rintro rfl
        exact hk (by simp [keeps])
      have he : d[m]! = d[m - 1]! := by
        unfold keeps at hk
        simp only [decide_eq_true_eq] at hk
        by_cases e : d[m]! = d[m - 1]!
        · exact e
        · exact absurd (.inr e) hk
      refine ⟨h1, fun x => ?_, fun _ => ?_⟩
      · rw [h2 x, List.mem_append, List.mem_singleton]
        constructor
        · exact .inl
        · rintro (hx | hx)
          · exact hx
          · rw [hx, he]; exact (h2 _).1 (h3 (by omega))
      · rw [Nat.add_sub_cancel, he]; exact h3 (by omega)
theorem compactV_up {ys : List V4} (hs : Slow ys) : Up (compact ys) ∧ ∀ x, x ∈ compact ys ↔ x ∈ ys := by
  obtain ⟨h1, h2, _⟩ := compactV_upto ys.toArray hs ys.length (by simp)
  refine ⟨h1, fun x => (h2 x).trans ?_⟩
  rw [List.take_of_length_le (by simp)]
/-- Sorted and compacted: put where they stand, one behind the other. -/
theorem compactV_all {xs ys : List V4} (hp : ys.Perm xs) (hs : Slow ys) : compact ys = allV [] xs :=
  up_eq (compactV_up hs).1 (allV_up List.Pairwise.nil) fun x => by rw [(compactV_up hs).2, hp.mem_iff, allV_mem]; simp
theorem allV_some {xs : List V4} (h : xs ≠ []) : allV [] xs ≠ [] := by
  cases xs with
  | nil => exact absurd rfl h
  | cons x r =>
    intro he
    have : x ∈ allV [] (x :: r) := allV_mem.2 (.inr (by simp))
    rw [he] at this
    cases this
end ActSpec
end Go.Proofs.YtcfcpbkeedfbpaaGreatDoor
