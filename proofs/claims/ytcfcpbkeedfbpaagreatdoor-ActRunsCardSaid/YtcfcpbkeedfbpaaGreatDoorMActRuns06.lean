/- ActGiven, EvalRefCheck, ActRefOne, ActOneMem, ActDoMem, ActCmp, ActSortSpec, joined. -/
import Derived.Test.YtcfcpbkeedfbpaaGreatDoorMActRuns04
import Derived.Test.YtcfcpbkeedfbpaaGreatDoorMActRuns05
import Derived.Test.YtcfcpbkeedfbpaaGreatDoorMActRuns02
import Derived.BigQuiet
import Derived.Test.YtcfcpbkeedfbpaaGreatDoorMActRuns03
import Derived.Test.YtcfcpbkeedfbpaaGreatDoorMActRuns01
import Derived.Lib.SlicesCompact
namespace Go.Proofs.YtcfcpbkeedfbpaaGreatDoor
open Go.RowKit TermSpec EvalSpec ActSpec NamesSpec ValSpec Go.Lib
set_option maxRecDepth 100000

/-- What a call answers that gives numbers in a slice of its own. -/
def RetIntsN (W : World) (l : List Int) (e : Ending) (w' : World) : Prop := ∃ v, e = .returned v ∧ Rd w' v (intV l) ∧ Below W.heap.size W w' ∧ Beyond W.heap.size v
theorem beyond_rowI {W wr : World} {p : Value} {xs : List Int} (h : RowI W wr p xs) {base : Nat} (hb : base ≤ W.heap.size) : Beyond base p := by
  intro b off n c he _
  subst he
  have := (own_block_bd h.1 b (by simp [Value.ownBlock])).1
  omega
theorem beyond_lit {k n c base : Nat} (h : base ≤ k) : Beyond base (.slice (some ⟨k, 0, none⟩) n c) := by
  intro b off n' c' he _
  injection he with e1 _ _
  injection e1 with e1
  injection e1 with e1
  omega
/-- The numbers that an act gives its variable. -/
def givenL (e : Ev) (a : Ac) (v : Vr) : List Int := if a.any then (List.range ((v.hi - v.lo + 1).toNat)).map fun (k : Nat) => v.lo + k else [clampI (comeE e a.x) v.lo v.hi]
theorem clampI_eq (n lo hi : Int) : clampI n lo hi = if n < lo then lo else if hi < n then hi else n := rfl
theorem stepsA_given (e : Ev) (a : Ac) (i : Nat) (v : Vr) (x : V4) : stepsA e a i v x = (givenL (envAt e x) a v).map (x.set i) := by
  unfold stepsA givenL
  split
  · rw [List.map_map]; rfl
  · rw [clampI_eq]; rfl
theorem three_blocks {w w2 : World} {o p q : Obj} (hb : Below (((w.alloc o).alloc p).alloc q).heap.size (((w.alloc o).alloc p).alloc q) w2) :
    w2.heap[w.heap.size]? = some o ∧ w2.heap[w.heap.size + 1]? = some p ∧ w2.heap[w.heap.size + 2]? = some q ∧ Below w.heap.size w w2 := by
  have h1 := KitC.one_block hb
  have h2 := KitC.pair_blocks h1.2.1
  rw [World.size_alloc, World.size_alloc] at h1
  exact ⟨h2.1, h2.2.1, h1.1, h2.2.2.1⟩
set_option maxHeartbeats 2000000 in
theorem given_expr (p : EP) (e : Ev) (a : Ac) (v : Vr) (A : Option Addr) (n c : Nat) (w : World) (he : EnvIn w p e) (hs : SmallA a) (ht : Tms w (.slice A n c) a.x) (ha : a.any = false) (hc : chkE e a.x = 0) :
    Calls Tryz.prog 77 #[.agg #[.string a.s, .bool a.any, .slice A n c], .agg #[.string v.s, .int .i64 v.lo, .int .i64 v.hi, .int .i64 v.ini], envV p e] w (RetIntsN w (givenL e a v)) := by
  obtain ⟨A', n', c', heq, hn, hnc⟩ := ht.shape
  cases heq
  have HT := Lib.hid ht
  have HE := Lib.hid he
  have HAT := Lib.hid (fun w h h' => at_yes p e A n c a.x hn (by have := hs.2.2; omega) hs.2.1 w h h' hc)
  have HG : Hid (givenL e a v = [clampI (comeE e a.x) v.lo v.hi]) := Lib.hid (by unfold givenL; rw [if_neg (by simp [ha])])
  obtain ⟨G, hG⟩ : ∃ G, G = givenL e a v := ⟨_, rfl⟩
  rw [← hG] at HG ⊢
  obtain ⟨m, hm⟩ : ∃ m, m = comeE e a.x := ⟨_, rfl⟩
  rw [← hm] at HAT HG
  obtain ⟨s, any, x⟩ := a
  simp only at HT HAT ha ⊢
  subst ha
  obtain ⟨vs, lo, hi, ini⟩ := v
  simp only at HG ⊢
  have HCL := Lib.hid (fun w => clamp_any m lo hi w)
  obtain ⟨z, hz⟩ : ∃ z, z = clampI m lo hi := ⟨_, rfl⟩
  rw [← hz] at HCL HG
  obtain ⟨E, hE⟩ : ∃ E, E = e := ⟨_, rfl⟩
  rw [← hE] at HE
  obtain ⟨vA, vn, vc, iA, im, ic⟩ := p
  obtain ⟨vars, v0, v1, v2, v3, ins⟩ := e
  have HAT' : Hid (∀ w, Tms w (.slice A n c) x → EnvIn w ⟨vA, vn, vc, iA, im, ic⟩ E → Calls Tryz.prog 114 #[.slice A n c, .agg #[.slice vA vn vc, .int .i64 v0, .int .i64 v1, .int .i64 v2, .int .i64 v3, .slice iA im ic]] w (ERetAt w m 0)) := Lib.hid (fun w h h' => by rw [hE] at h'; exact HAT.out w h h')
  clear hE HAT he hs ht hn hnc hc hm hz hG
  change Calls _ _ #[_, _, .agg #[.slice vA vn vc, .int .i64 v0, .int .i64 v1, .int .i64 v2, .int .i64 v3, .slice iA im ic]] _ _
  have HBP := Lib.hid (below_two' (KitC.below_pair w (.cells #[.string s, .bool false, .slice A n c] 66) (.cells #[.string vs, .int .i64 lo, .int .i64 hi, .int .i64 ini] 62)) (KitC.below_one _ (.cells #[.slice vA vn vc, .int .i64 v0, .int .i64 v1, .int .i64 v2, .int .i64 v3, .slice iA im ic] 54)))
  go_enter Tryz.func77, Tryz.ntmps77
  go_wp2_with (go_at_call 114; (with_reducible refine (HAT'.out _ (HT.out.keep HBP.out) (HE.out.keep HBP.out)).mono ?_))
  rintro e2 w2 ⟨rfl, hb2⟩
  obtain ⟨B1, B2, B3, hbb⟩ := three_blocks hb2
  have HB2 := Lib.hid hbb
  obtain ⟨c0, c1, c2, c3⟩ := cells_4 B2
  clear hb2 hbb B1 B2 B3
  go_wp2_with (go_at_call 115; refine (HCL.out _).mono ?_; rintro e w' ⟨rfl, rfl⟩)
  go_ret
  exact ⟨_, rfl, by rw [HG.out]; exact lit_here rfl rfl rfl, below_two' HB2.out (KitC.below_one _ _), beyond_lit HB2.out.size⟩
def GivRel (W : World) (lo : Int) (n : Nat) (p i : Value) (wr : World) : Prop := ∃ k : Nat, k ≤ n ∧ i = .int .i64 k ∧ RowI W wr p ((List.range k).map fun (j : Nat) => lo + j)
theorem range_next (lo : Int) (k : Nat) : ((List.range (k + 1)).map fun (j : Nat) => lo + j) = ((List.range k).map fun (j : Nat) => lo + j) ++ [lo + k] := by rw [List.range_succ, List.map_append]; rfl
set_option maxHeartbeats 2000000 in
theorem given_span (p : EP) (e : Ev) (a : Ac) (v : Vr) (A : Option Addr) (n c : Nat) (w : World) (ha : a.any = true) (hf : VFit v) (hsp : spanB v = true) :
    Calls Tryz.prog 77 #[.agg #[.string a.s, .bool a.any, .slice A n c], .agg #[.string v.s, .int .i64 v.lo, .int .i64 v.hi, .int .i64 v.ini], envV p e] w (RetIntsN w (givenL e a v)) := by
  have hg : givenL e a v = (List.range ((v.hi - v.lo + 1).toNat)).map fun (k : Nat) => v.lo + k := by unfold givenL; rw [if_pos ha]
  rw [hg]
  obtain ⟨i0, hi, hz0, hz1, hz2⟩ := info_parts inf_int
  have HI := Lib.hid (And.intro hi (And.intro hz0 (And.intro hz1 hz2)))
  obtain ⟨s, any, x⟩ := a
  simp only at ha ⊢
  subst ha
  obtain ⟨vs, lo, hb, ini⟩ := v
  obtain ⟨f1, f2, f3, f4⟩ := hf
  unfold spanB at hsp
  simp only [Bool.and_eq_true, decide_eq_true_eq] at f1 f2 f3 f4 hsp ⊢
  obtain ⟨s1, s2⟩ := hsp
  obtain ⟨m, hm⟩ : ∃ m, m = (hb - lo + 1).toNat := ⟨_, rfl⟩
  rw [← hm]
  have hmI : (m : Int) = hb - lo + 1 := by omega
  have HM : Hid (m ≤ 64) := Lib.hid (by omega)
  obtain ⟨vA, vn, vc, iA, im, ic⟩ := p
  obtain ⟨vars, v0, v1, v2, v3, ins⟩ := e
  clear hg hi hz0 hz1 hz2 hm
  change Calls _ _ #[_, _, .agg #[.slice vA vn vc, .int .i64 v0, .int .i64 v1, .int .i64 v2, .int .i64 v3, .slice iA im ic]] _ _
  obtain ⟨w1, hw1⟩ : ∃ w1, ((w.alloc (.cells #[.string s, .bool true, .slice A n c] 66)).alloc (.cells #[.string vs, .int .i64 lo, .int .i64 hb, .int .i64 ini] 62)).alloc (.cells #[.slice vA vn vc, .int .i64 v0, .int .i64 v1, .int .i64 v2, .int .i64 v3, .slice iA im ic] 54) = w1 := ⟨_, rfl⟩
  obtain ⟨B1, B2, B3, hbb⟩ := three_blocks (w := w) (o := .cells #[.string s, .bool true, .slice A n c] 66) (p := .cells #[.string vs, .int .i64 lo, .int .i64 hb, .int .i64 ini] 62) (q := .cells #[.slice vA vn vc, .int .i64 v0, .int .i64 v1, .int .i64 v2, .int .i64 v3, .slice iA im ic] 54) (Below.refl _ _)
  rw [hw1] at B2 hbb
  have HW := Lib.hid hw1
  have HK := Lib.hid B2
  have HBB := Lib.hid hbb
  clear hw1 B1 B2 B3 hbb
  go_enter Tryz.func77, Tryz.ntmps77
  go_wp2_with fail
  rw [HW.out]
  go_loopw [9, 34] (fun p i wr => GivRel w1 lo m p i wr) (fun _ i _ => m - (Go.RowKit.intOf i).toNat)
  case atStart => exact ⟨0, Nat.zero_le _, rfl, RowI.nil _ _ (Below.refl _ _)⟩
  case round =>
    obtain ⟨k, hk, rfl, hrow⟩ := hrel
    have HR0 := Lib.hid hrow
    obtain ⟨c0, c1, c2, c3⟩ := cells_4 (KitC.block_on HK.out hrow.2)
    clear hrow
    by_cases hlt : k < m
    · have hltI : (k : Int) < hb - lo + 1 := by omega
      have hsum1 : -9223372036854775808 ≤ lo + k := by omega
      have hsum2 : lo + k ≤ 9223372036854775807 := by omega
      obtain ⟨z, hz⟩ : ∃ z, z = lo + (k : Int) := ⟨_, rfl⟩
      have HZ := Lib.hid hz
      have HL1 : Hid (((List.range k).map fun (j : Nat) => lo + j).length + (intV [z]).length ≤ maxLen) := Lib.hid (by have := HM.out; simp [maxLen]; omega)
      have HL2 : Hid ((((List.range k).map fun (j : Nat) => lo + j).length + (intV [z]).length) * 8 ≤ 140737488355328) := Lib.hid (by have := HM.out; simp; omega)
      have HSZ : Hid (w1.heap.size ≤ wr.heap.size) := Lib.hid HR0.out.2.size
      have HRA := Lib.hid HR0.out.1
      go_wp2_with (rw [← HZ.out]; at_builtin; refine wpList_append_rd _ rfl (.tmp 37) (.tmp 42) _ rfl w1.heap.size 3 i0 (.int .i64 0) 8 Tryz.underlying110 HI.out.1 HI.out.2.1 HI.out.2.2.1 HI.out.2.2.2 rfl _ _ _ rfl (own_keep HRA.out (KitC.below_one _ _)) _ (intV [z]) rfl (lit_here rfl rfl rfl) (intV_one _) HL1.out HL2.out ?_ ?_; (have := HSZ.out; simp; omega); intro p2 w2 hrow2 hg2 _; have HR2 := Lib.hid (RowI.add HR0.out hrow2 hg2); clear hrow2 hg2)
      go_roundw
      case rel => exact ⟨k + 1, by omega, by go_num, by rw [range_next, ← HZ.out]; exact HR2.out⟩
      case measure => simp [Go.RowKit.intOf]; omega
    · have hltI : ¬ (k : Int) < hb - lo + 1 := by omega
      obtain rfl : k = m := by omega
      go_wp2_with fail
      go_ret
      exact ⟨_, rfl, HR0.out.read, below_two' HBB.out HR0.out.2, beyond_rowI HR0.out HBB.out.size⟩
theorem given_any (p : EP) (e : Ev) (a : Ac) (v : Vr) (A : Option Addr) (n c : Nat) (w : World) (he : EnvIn w p e) (hs : SmallA a) (ht : Tms w (.slice A n c) a.x) (hf : VFit v) (h1 : a.any = false → chkE e a.x = 0) (h2 : a.any = true → spanB v = true) :
    Calls Tryz.prog 77 #[.agg #[.string a.s, .bool a.any, .slice A n c], .agg #[.string v.s, .int .i64 v.lo, .int .i64 v.hi, .int .i64 v.ini], envV p e] w (RetIntsN w (givenL e a v)) := by
  rcases h : a.any with _ | _
  · have := given_expr p e a v A n c w he hs ht h (h1 h)
    rwa [h] at this
  · have := given_span p e a v A n c w h hf (h2 h)
    rwa [h] at this
theorem givenL_length (e : Ev) (a : Ac) (v : Vr) (h2 : a.any = true → spanB v = true) : 0 < (givenL e a v).length ∧ (givenL e a v).length ≤ 64 := by
  unfold givenL
  split
  · rename_i h
    have := h2 h
    unfold spanB at this
    simp only [Bool.and_eq_true, decide_eq_true_eq] at this
    rw [List.length_map, List.length_range]
    omega
  · simp
end Go.Proofs.YtcfcpbkeedfbpaaGreatDoor

namespace Go.Proofs.YtcfcpbkeedfbpaaGreatDoor
open Go.RowKit Go.Sort TermSpec EvalSpec NamesSpec
set_option maxRecDepth 100000

theorem rcheck_wide (p : EP) (e : Ev) (A : Option Addr) (n c : Nat) (l : List Tm) (w : World) (he : EnvIn w p e) (h4 : 4 < e.vars.length) :
    Calls Tryz.prog 81 #[.slice A n c, envV p e] w (RetI w (chkE e l)) := by
  have HE := Lib.hid (chkE_wide (l := l) h4)
  have hv := he.vars.1
  obtain ⟨vA, vn, vc, iA, im, ic⟩ := p
  obtain ⟨r, hr⟩ : ∃ r, r = chkE e l := ⟨_, rfl⟩
  rw [← hr] at HE ⊢
  have hvn : 4 < (vn : Int) := by have : vn = e.vars.length := hv; omega
  obtain ⟨vars, v0, v1, v2, v3, ins⟩ := e
  change Calls _ _ #[.slice A n c, .agg #[.slice vA vn vc, .int .i64 v0, .int .i64 v1, .int .i64 v2, .int .i64 v3, .slice iA im ic]] _ _
  clear hr he h4 hv
  go_enter Tryz.func81, Tryz.ntmps81
  go_wp2_with fail
  go_ret
  exact ⟨ret_int HE.out.symm, KitC.below_one _ _⟩
theorem rcheck_bad (p : EP) (e : Ev) (A : Option Addr) (n c : Nat) (l : List Tm) (hn : n = l.length) (hn62 : n ≤ 4398046511104) (hs : Small l) (w : World) (h : Tms w (.slice A n c) l) (he : EnvIn w p e) (h4 : ¬ 4 < e.vars.length) (hc : chk l ≠ 0) :
    Calls Tryz.prog 81 #[.slice A n c, envV p e] w (RetI w (chkE e l)) := by
  have HE := Lib.hid (chkE_bad h4 hc)
  have hv := he.vars.1
  have HC := Lib.hid (fun w h => rcheck_any A n c l hn (by omega) hs w h)
  have HT := Lib.hid h
  obtain ⟨vA, vn, vc, iA, im, ic⟩ := p
  obtain ⟨r, hr⟩ : ∃ r, r = chkE e l := ⟨_, rfl⟩
  rw [← hr] at HE ⊢
  obtain ⟨q, hq⟩ : ∃ q, q = chk l := ⟨_, rfl⟩
  rw [← hq] at HE HC hc
  have hvn : ¬ 4 < (vn : Int) := by have : vn = e.vars.length := hv; omega
  have g : (q != 0) = true := by simp [hc]
  obtain ⟨vars, v0, v1, v2, v3, ins⟩ := e
  change Calls _ _ #[.slice A n c, .agg #[.slice vA vn vc, .int .i64 v0, .int .i64 v1, .int .i64 v2, .int .i64 v3, .slice iA im ic]] _ _
  clear hr he h4 hv hq hc h hn hs
  go_enter Tryz.func81, Tryz.ntmps81
  go_wp2_with (go_at_call 52; (with_reducible refine (HC.out _ (HT.out.keep (KitC.below_one _ _))).mono ?_))
  rintro e2 w2 ⟨rfl, hb2⟩
  have HB2 := Lib.hid (below_two' (KitC.below_one _ _) hb2)
  clear hb2
  go_wp2_with fail
  go_ret
  exact ⟨ret_int HE.out.symm, HB2.out⟩
def RCkRel (W : World) (e : Ev) (l : List Tm) (n : Nat) (i : Value) (wr : World) : Prop := ∃ k : Nat, k ≤ n ∧ i = .int .i64 k ∧ knownB e (l.take k) = true ∧ Below W.heap.size W wr
theorem known_next {e : Ev} {l : List Tm} {k : Nat} {t : Tm} (h : l[k]? = some t) : knownB e (l.take (k + 1)) = (knownB e (l.take k) && (!(decide (t.op = 2)) || hasS (vnames e) t.s)) := by
  unfold knownB
  rw [take_next h, List.all_append]
  simp
theorem known_stop {e : Ev} {l : List Tm} {k : Nat} {t : Tm} (h : l[k]? = some t) (h2 : t.op = 2) (hh : hasS (vnames e) t.s = false) : knownB e l = false := by
  unfold knownB
  rw [List.all_eq_false]
  exact ⟨t, List.mem_of_getElem? h, by simp [h2, hh]⟩
set_option maxHeartbeats 2000000 in
theorem rcheck_last (p : EP) (e : Ev) (A : Option Addr) (n c : Nat) (l : List Tm) (hn : n = l.length) (hn62 : n ≤ 4398046511104) (hs : Small l) (w : World) (h : Tms w (.slice A n c) l) (he : EnvIn w p e) (h4 : ¬ 4 < e.vars.length) (hc : chk l = 0) :
    Calls Tryz.prog 81 #[.slice A n c, envV p e] w (RetI w (chkE e l)) := by
  have HE0 := Lib.hid (fun h => chkE_typ (e := e) h4 hc h)
  have HE1 := Lib.hid (fun h => chkE_last (e := e) h4 hc h)
  have hv := he.vars.1
  have HC := Lib.hid (fun w h => rcheck_any A n c l hn (by omega) hs w h)
  rw [hc] at HC
  have HTY := Lib.hid (fun w h => rtyp_zero A n c l hn (by omega) w h (chk_ok hc).1)
  have HN := Lib.hid hn
  have HT := Lib.hid h
  have HV := Lib.hid (fun s w h => rvariable_any p e s w h)
  have HEN := Lib.hid he
  have HPG := Lib.hid (fun s => place_ge (vnames e) s)
  obtain ⟨vA, vn, vc, iA, im, ic⟩ := p
  obtain ⟨r, hr⟩ : ∃ r, r = chkE e l := ⟨_, rfl⟩
  rw [← hr] at HE0 HE1 ⊢
  obtain ⟨q, hq⟩ : ∃ q, q = typ l := ⟨_, rfl⟩
  rw [← hq] at HE0 HE1 HTY
  have hvn : ¬ 4 < (vn : Int) := by have : vn = e.vars.length := hv; omega
  obtain ⟨f, hf⟩ : ∃ f : ByteArray → Int, f = fun s => Lib.idxOfS (vnames e) s := ⟨_, rfl⟩
  have HF : Hid (∀ s, Lib.idxOfS (vnames e) s = f s) := Lib.hid (fun s => by rw [hf])
  have HV' : Hid (∀ s w, EnvIn w ⟨vA, vn, vc, iA, im, ic⟩ e → Calls Tryz.prog 80 #[envV ⟨vA, vn, vc, iA, im, ic⟩ e, .string s] w (RetI w (f s))) := Lib.hid (fun s w h => by rw [← HF.out]; exact HV.out s w h)
  clear hr he h4 hv hq hc h hn hs hf
  obtain ⟨E, hE⟩ : ∃ E, E = e := ⟨_, rfl⟩
  rw [← hE] at HPG HF HEN HV' HE1
  obtain ⟨vars, v0, v1, v2, v3, ins⟩ := e
  have HV2 : Hid (∀ s w, EnvIn w ⟨vA, vn, vc, iA, im, ic⟩ E → Calls Tryz.prog 80 #[.agg #[.slice vA vn vc, .int .i64 v0, .int .i64 v1, .int .i64 v2, .int .i64 v3, .slice iA im ic], .string s] w (RetI w (f s))) := Lib.hid (fun s w h => by have := HV'.out s w h; rw [hE] at this; exact this)
  change Calls _ _ #[.slice A n c, .agg #[.slice vA vn vc, .int .i64 v0, .int .i64 v1, .int .i64 v2, .int .i64 v3, .slice iA im ic]] _ _
  clear hE HV HV'
  by_cases hq0 : q = 0
  · have g : (q == 0) = true := by simp [hq0]
    have HEE := Lib.hid (HE0.out hq0)
    clear hq0 HE0 HE1
    go_enter Tryz.func81, Tryz.ntmps81
    go_wp2_with (go_at_call 52; (with_reducible refine (HC.out _ (HT.out.keep (KitC.below_one _ _))).mono ?_))
    rintro e2 w2 ⟨rfl, hb2⟩
    have HB2 := Lib.hid (below_two' (KitC.below_one _ _) hb2)
    clear hb2
    go_wp2_with (go_at_call 82; (with_reducible refine (HTY.out _ (HT.out.keep HB2.out)).mono ?_))
    rintro e2 w3 ⟨rfl, hb3⟩
    have HB3 := Lib.hid (below_two' HB2.out hb3)
    clear hb3
    go_wp2_with fail
    go_ret
    exact ⟨ret_int HEE.out.symm, HB3.out⟩
  · have g : (q == 0) = false := by simp [hq0]
    have HEE := Lib.hid (HE1.out hq0)
    clear hq0 HE0 HE1
    go_enter Tryz.func81, Tryz.ntmps81
    go_wp2_with (go_at_call 52; (with_reducible refine (HC.out _ (HT.out.keep (KitC.below_one _ _))).mono ?_))
    rintro e2 w2 ⟨rfl, hb2⟩
    obtain ⟨B2, hbb, _⟩ := KitC.one_block hb2
    have HB2 := Lib.hid hbb
    have HBK2 := Lib.hid B2
    clear hb2 hbb B2
    go_wp2_with (go_at_call 82; (with_reducible refine (HTY.out _ (HT.out.keep HB2.out)).mono ?_))
    rintro e2 w3 ⟨rfl, hb3⟩
    have HB3 := Lib.hid (below_two' HB2.out hb3)
    have HBK3 := Lib.hid (KitC.block_on HBK2.out hb3)
    clear hb3
    go_wp2_with fail
    go_loopw [6] (fun i wr => RCkRel w3 E l n i wr) (fun i _ => n - (intOf i).toNat)
    case atStart => exact ⟨0, Nat.zero_le _, rfl, rfl, Below.refl _ _⟩
    case round =>
      obtain ⟨k, hk, rfl, hall, hbw⟩ := hrel
      have HBW := Lib.hid hbw
      have HALL := Lib.hid hall
      clear hbw hall
      by_cases hlt : k < n
      · obtain ⟨t, ht⟩ : ∃ t, l[k]? = some t := get_some (by have := HN.out; omega)
        obtain ⟨b, off, rfl, hb, c0, c1, c2⟩ := (HT.out.keep (below_two' HB3.out HBW.out)).at_ ht
        obtain ⟨z0, z1, z2, z3, z4, z5⟩ := cells_6 (KitC.block_on HBK3.out HBW.out)
        have k0 := cell_regrown z0
        have k1 := cell_regrown z1
        have k2 := cell_regrown z2
        have k3 := cell_regrown z3
        have k4 := cell_regrown z4
        have k5 := cell_regrown z5
        have j0 := cell_regrown c0
        have j2 := cell_regrown c2
        have HKN := Lib.hid (known_next (e := E) ht)
        have HST := Lib.hid (fun h2 hh => known_stop (e := E) ht h2 hh)
        obtain ⟨o, tn, s⟩ := t
        simp only at c0 c1 c2 j0 j2 HKN HST
        have HVV : Hid (∀ d os, Calls Tryz.prog 80 #[.agg #[.slice vA vn vc, .int .i64 v0, .int .i64 v1, .int .i64 v2, .int .i64 v3, .slice iA im ic], .string s] (grow (redrawn wr d) os) fun e w'' => e = .returned (.int .i64 (f s)) ∧ ∃ p : Regrown, w'' = grow (redrawn wr p.d) p.os) := Lib.hid (fun d os => Calls.regrown_of (HV2.out s _ (HEN.out.keep (below_two' (below_two' HB3.out HBW.out) (below_regrown wr d os)))))
        have hdec := tru_neg (HPG.out s)
        rw [HF.out] at hdec
        have hnk : (k : Int) < n := by omega
        clear c0 c1 c2 z0 z1 z2 z3 z4 z5 ht
        rcases ho : (o == 2) with _ | _
        · have HO : Hid (decide (o = 2) = false) := Lib.hid (by simpa using ho)
          clear hdec
          go_wp2_with fail
          refine wp_region_quiet_below (by kernel_rfl) (by kernel_rfl) ?_
          repeat (go_big_quiet_step (exact HVV.out _ _))
          refine wpQuiet_nil ?_
          intro _ hw'
          obtain ⟨⟨dq, osq⟩, hw''⟩ := hw'
          subst hw''
          have HBG := Lib.hid (below_two' HBW.out (below_regrown wr dq osq))
          simp only
          go_wp2_with fail
          go_roundw
          case rel => exact ⟨k + 1, by omega, by simp, by rw [HKN.out, HALL.out, HO.out]; rfl, HBG.out⟩
          case measure => simp [intOf]; omega
        · have HO : Hid (decide (o = 2) = true) := Lib.hid (by simpa using ho)
          rcases hh : hasS (vnames E) s with _ | _
          · rw [hh] at hdec
            have hdec' : decide (f s < 0) = true := hdec
            have HH := Lib.hid hh
            clear hdec hh
            go_wp2_with fail
            refine wp_region_quiet_below (by kernel_rfl) (by kernel_rfl) ?_
            repeat (go_big_quiet_step (exact HVV.out _ _))
            refine wpQuiet_nil ?_
            intro _ hw'
            obtain ⟨⟨dq, osq⟩, hw''⟩ := hw'
            subst hw''
            have HBG := Lib.hid (below_two' (below_two' HB3.out HBW.out) (below_regrown wr dq osq))
            simp only
            go_wp2_with fail
            go_ret
            exact ⟨ret_int (by rw [HEE.out, HST.out (by simpa using HO.out) HH.out]; rfl), HBG.out⟩
          · rw [hh] at hdec
            have hdec' : decide (f s < 0) = false := hdec
            have HH := Lib.hid hh
            clear hdec hh
            go_wp2_with fail
            refine wp_region_quiet_below (by kernel_rfl) (by kernel_rfl) ?_
            repeat (go_big_quiet_step (exact HVV.out _ _))
            refine wpQuiet_nil ?_
            intro _ hw'
            obtain ⟨⟨dq, osq⟩, hw''⟩ := hw'
            subst hw''
            have HBG := Lib.hid (below_two' HBW.out (below_regrown wr dq osq))
            simp only
            go_wp2_with fail
            go_roundw
            case rel => exact ⟨k + 1, by omega, by simp, by rw [HKN.out, HALL.out, HH.out]; simp, HBG.out⟩
            case measure => simp [intOf]; omega
      · have HAL : Hid (knownB E l = true) := Lib.hid (by
          have := HALL.out
          rwa [List.take_of_length_le (by have := HN.out; omega)] at this)
        go_wp2_with fail
        go_ret
        exact ⟨ret_int (by rw [HEE.out, if_pos HAL.out]), below_two' HB3.out HBW.out⟩
theorem rechk_any (p : EP) (e : Ev) (A : Option Addr) (n c : Nat) (l : List Tm) (hn : n = l.length) (hn62 : n ≤ 4398046511104) (hs : Small l) (w : World) (h : Tms w (.slice A n c) l) (he : EnvIn w p e) :
    Calls Tryz.prog 81 #[.slice A n c, envV p e] w (RetI w (chkE e l)) := by
  by_cases h4 : 4 < e.vars.length
  · exact rcheck_wide p e A n c l w he h4
  · by_cases hc : chk l = 0
    · exact rcheck_last p e A n c l hn hn62 hs w h he h4 hc
    · exact rcheck_bad p e A n c l hn hn62 hs w h he h4 hc
end Go.Proofs.YtcfcpbkeedfbpaaGreatDoor

namespace Go.Proofs.YtcfcpbkeedfbpaaGreatDoor
open Go.RowKit TermSpec EvalSpec ActSpec NamesSpec Go.Lib
set_option maxRecDepth 100000

set_option maxHeartbeats 1000000 in
theorem rone_none (p : EP) (e : Ev) (a : Ac) (A : Option Addr) (n c : Nat) (N : Value) (w : World) (he : EnvIn w p e) (hv : varOf e a = none) :
    Calls Tryz.prog 45 #[.agg #[.string a.s, .bool a.any, .slice A n c], envV p e, N] w (RetVE w (7, [])) := by
  have HP := Lib.hid (fun w h => rvariable_any p e a.s w h)
  rw [varOf_none hv] at HP
  have HE := Lib.hid he
  obtain ⟨s, any, x⟩ := a
  simp only at HP ⊢
  obtain ⟨E, hE⟩ : ∃ E, E = e := ⟨_, rfl⟩
  rw [← hE] at HE
  obtain ⟨vA, vn, vc, iA, im, ic⟩ := p
  obtain ⟨vars, v0, v1, v2, v3, ins⟩ := e
  rw [hE] at HE
  clear hE E hv he
  change Calls _ _ #[_, .agg #[.slice vA vn vc, .int .i64 v0, .int .i64 v1, .int .i64 v2, .int .i64 v3, .slice iA im ic], N] _ _
  go_enter Tryz.func45, Tryz.ntmps45
  go_wp2_with (go_at_call 80; (with_reducible refine (HP.out _ (HE.out.keep (KitC.below_pair _ _ _))).mono ?_))
  rintro e2 w2 ⟨rfl, hb2⟩
  have HB2 := Lib.hid (below_two' (KitC.below_pair _ _ _) hb2)
  clear hb2
  go_wp2_with fail
  refine bodyPost_ret (v := .tuple #[.slice none 0 0, .int .i64 7]) (by simp [results, Tryz.results45, go_sem]) rfl ⟨_, rfl, v4s_nil _, HB2.out⟩
set_option maxHeartbeats 1000000 in
theorem rone_span (p : EP) (e : Ev) (a : Ac) (i : Nat) (v : Vr) (A : Option Addr) (n c : Nat) (N : Value) (w : World) (he : EnvIn w p e) (hv : varOf e a = some (i, v)) (hf : VFit v) (ha : a.any = true) (hsp : spanB v = false) :
    Calls Tryz.prog 45 #[.agg #[.string a.s, .bool a.any, .slice A n c], envV p e, N] w (RetVE w (1, [])) := by
  have HP := Lib.hid (fun w h => rvariable_any p e a.s w h)
  obtain ⟨hp, hvi⟩ := varOf_some hv
  rw [hp] at HP
  have HE := Lib.hid he
  have HVI := Lib.hid hvi
  have hin := get_lt hvi
  obtain ⟨s, any, x⟩ := a
  simp only at HP ha ⊢
  subst ha
  obtain ⟨E, hE⟩ : ∃ E, E = e := ⟨_, rfl⟩
  rw [← hE] at HE HVI hin
  obtain ⟨vA, vn, vc, iA, im, ic⟩ := p
  have HVN : Hid (vn = E.vars.length) := Lib.hid (HE.out.vars.1)
  have hcap := HE.out.vars.cap
  simp only at hcap
  obtain ⟨vars, v0, v1, v2, v3, ins⟩ := e
  have HP' : Hid (∀ w, EnvIn w ⟨vA, vn, vc, iA, im, ic⟩ E → Calls Tryz.prog 80 #[.agg #[.slice vA vn vc, .int .i64 v0, .int .i64 v1, .int .i64 v2, .int .i64 v3, .slice iA im ic], .string s] w (RetI w i)) := Lib.hid (fun w h => by rw [hE] at h; exact HP.out w h)
  clear hE HP hv he hvi hp
  change Calls _ _ #[_, .agg #[.slice vA vn vc, .int .i64 v0, .int .i64 v1, .int .i64 v2, .int .i64 v3, .slice iA im ic], N] _ _
  go_enter Tryz.func45, Tryz.ntmps45
  go_wp2_with (go_at_call 80; (with_reducible refine (HP'.out _ (HE.out.keep (KitC.below_pair _ _ _))).mono ?_))
  rintro e2 w2 ⟨rfl, hb2⟩
  obtain ⟨B1, B2, hbb, hsz⟩ := KitC.pair_blocks hb2
  have HB2 := Lib.hid hbb
  obtain ⟨c0, c1, c2⟩ := cells_3 B1
  obtain ⟨z0, z1, z2, z3, z4, z5⟩ := cells_6 B2
  obtain ⟨b, off, rfl, hb, d0, d1, d2, d3⟩ := (HE.out.vars.keep hbb).at_ HVI.out
  have hiI : ¬ (i : Int) < 0 := by omega
  have hin' : (i : Int) < vn := by have := HVN.out; omega
  obtain ⟨vs, lo, hi, ini⟩ := v
  simp only at d0 d1 d2 d3
  obtain ⟨VO, hVO⟩ : ∃ VO, VO = Obj.cells #[.string vs, .int .i64 lo, .int .i64 hi, .int .i64 ini] 62 := ⟨_, rfl⟩
  have hbv := KitC.below_one w2 VO
  have B3 := heap_alloc_new w2 VO
  obtain ⟨y0, y1, y2⟩ := cells_3 (KitC.block_on B1 hbv)
  obtain ⟨x0, x1, x2, x3, x4, x5⟩ := cells_6 (KitC.block_on B2 hbv)
  rw [hVO] at y0 y1 y2 x0 x1 x2 x3 x4 x5 B3 hbv
  obtain ⟨u0, u1, u2, u3⟩ := cells_4 B3
  have HSP : Hid (spanB ⟨vs, lo, hi, ini⟩ = false) := Lib.hid hsp
  clear hb2 hbb B1 B2 hsp hVO HVI
  by_cases hlo : hi < lo
  · go_wp2_with fail
    refine bodyPost_ret (v := .tuple #[.slice none 0 0, .int .i64 1]) (by simp [results, Tryz.results45, go_sem]) rfl ⟨_, rfl, v4s_nil _, below_two' HB2.out hbv⟩
  · have hwr := u64_span hf.1 hf.2.2.2 (by omega : lo ≤ hi)
    have hdiff : 63 < hi - lo := by
      have := HSP.out
      unfold spanB at this
      simp at this
      omega
    have g : decide (63 < IntKind.u64.wrap (IntKind.u64.wrap hi - IntKind.u64.wrap lo)) = true := by rw [hwr]; simp; omega
    have g2 : 63 < IntKind.u64.wrap (IntKind.u64.wrap hi - IntKind.u64.wrap lo) := by rw [hwr]; omega
    clear hwr hdiff
    go_wp2_with fail
    refine bodyPost_ret (v := .tuple #[.slice none 0 0, .int .i64 1]) (by simp [results, Tryz.results45, go_sem]) rfl ⟨_, rfl, v4s_nil _, below_two' HB2.out hbv⟩
set_option maxHeartbeats 2000000 in
theorem rone_expr (p : EP) (e : Ev) (a : Ac) (i : Nat) (v : Vr) (A : Option Addr) (n c : Nat) (N : Value) (w : World) (he : EnvIn w p e) (hv : varOf e a = some (i, v)) (hs : SmallA a) (ht : Tms w (.slice A n c) a.x) (ha : a.any = false) (hbad : badA e a ≠ 0) :
    Calls Tryz.prog 45 #[.agg #[.string a.s, .bool a.any, .slice A n c], envV p e, N] w (RetVE w (badA e a, [])) := by
  obtain ⟨A', n', c', heq, hn, hnc⟩ := ht.shape
  cases heq
  have HT := Lib.hid ht
  have HCK := Lib.hid (fun w h h' => rechk_any p e A n c a.x hn (by have := hs.2.2; omega) hs.2.1 w h h')
  have HTY := Lib.hid (fun hw w h => rtyp_zero A n c a.x hn (by have := hs.2.2; omega) w h hw)
  have HW := Lib.hid (fun h => (chk_ok (chkE_ok (e := e) (l := a.x) h).2.1).1)
  have HB1 := Lib.hid (fun h => badA_chk hv ha h)
  have HB0 := Lib.hid (fun h => badA_typ hv ha h)
  obtain ⟨r, hr⟩ : ∃ r, r = badA e a := ⟨_, rfl⟩
  rw [← hr] at HB1 HB0 hbad ⊢
  obtain ⟨q, hq⟩ : ∃ q, q = chkE e a.x := ⟨_, rfl⟩
  rw [← hq] at HCK HB1 HB0
  obtain ⟨t, ht2⟩ : ∃ t, t = typ a.x := ⟨_, rfl⟩
  rw [← ht2] at HTY HB0
  clear hr
  have HP := Lib.hid (fun w h => rvariable_any p e a.s w h)
  obtain ⟨hp, hvi⟩ := varOf_some hv
  rw [hp] at HP
  have HE := Lib.hid he
  have HVI := Lib.hid hvi
  have hin := get_lt hvi
  obtain ⟨s, any, x⟩ := a
  simp only at HP ha HT HCK HTY HW hn hq ht2 ⊢
  subst ha
  obtain ⟨E, hE⟩ : ∃ E, E = e := ⟨_, rfl⟩
  rw [← hE] at HE HVI hin
  obtain ⟨vA, vn, vc, iA, im, ic⟩ := p
  have HVN : Hid (vn = E.vars.length) := Lib.hid (HE.out.vars.1)
  have hcap := HE.out.vars.cap
  simp only at hcap
  obtain ⟨vars, v0, v1, v2, v3, ins⟩ := e
  have HP' : Hid (∀ w, EnvIn w ⟨vA, vn, vc, iA, im, ic⟩ E → Calls Tryz.prog 80 #[.agg #[.slice vA vn vc, .int .i64 v0, .int .i64 v1, .int .i64 v2, .int .i64 v3, .slice iA im ic], .string s] w (RetI w i)) := Lib.hid (fun w h => by rw [hE] at h; exact HP.out w h)
  have HCK' : Hid (∀ w, Tms w (.slice A n c) x → EnvIn w ⟨vA, vn, vc, iA, im, ic⟩ E → Calls Tryz.prog 81 #[.slice A n c, .agg #[.slice vA vn vc, .int .i64 v0, .int .i64 v1, .int .i64 v2, .int .i64 v3, .slice iA im ic]] w (RetI w q)) := Lib.hid (fun w h h' => by rw [hE] at h'; exact HCK.out w h h')
  clear hE HP HCK hv he hvi hp hs ht hn hnc ht2
  change Calls _ _ #[_, .agg #[.slice vA vn vc, .int .i64 v0, .int .i64 v1, .int .i64 v2, .int .i64 v3, .slice iA im ic], N] _ _
  go_enter Tryz.func45, Tryz.ntmps45
  go_wp2_with (go_at_call 80; (with_reducible refine (HP'.out _ (HE.out.keep (KitC.below_pair _ _ _))).mono ?_))
  rintro e2 w2 ⟨rfl, hb2⟩
  obtain ⟨B1, B2, hbb, hsz⟩ := KitC.pair_blocks hb2
  have HB2 := Lib.hid hbb
  obtain ⟨c0, c1, c2⟩ := cells_3 B1
  obtain ⟨z0, z1, z2, z3, z4, z5⟩ := cells_6 B2
  obtain ⟨b, off, rfl, hb, d0, d1, d2, d3⟩ := (HE.out.vars.keep hbb).at_ HVI.out
  have hiI : ¬ (i : Int) < 0 := by omega
  have hin' : (i : Int) < vn := by have := HVN.out; omega
  obtain ⟨vs, lo, hi, ini⟩ := v
  simp only at d0 d1 d2 d3
  obtain ⟨VO, hVO⟩ : ∃ VO, VO = Obj.cells #[.string vs, .int .i64 lo, .int .i64 hi, .int .i64 ini] 62 := ⟨_, rfl⟩
  have hbv := KitC.below_one w2 VO
  have B3 := heap_alloc_new w2 VO
  obtain ⟨y0, y1, y2⟩ := cells_3 (KitC.block_on B1 hbv)
  obtain ⟨x0, x1, x2, x3, x4, x5⟩ := cells_6 (KitC.block_on B2 hbv)
  rw [hVO] at y0 y1 y2 x0 x1 x2 x3 x4 x5 B3 hbv
  obtain ⟨u0, u1, u2, u3⟩ := cells_4 B3
  have HEV := Lib.hid (HE.out.keep (below_two' HB2.out hbv))
  have HTV := Lib.hid (HT.out.keep (below_two' HB2.out hbv))
  have HBV := Lib.hid (below_two' HB2.out hbv)
  obtain ⟨w3, hw3⟩ : ∃ w3, w2.alloc (Obj.cells #[.string vs, .int .i64 lo, .int .i64 hi, .int .i64 ini] 62) = w3 := ⟨_, rfl⟩
  have HW3 := Lib.hid hw3
  have HCALL := Lib.hid (HCK'.out _ HTV.out HEV.out)
  clear hb2 hbb hVO HVI HCK' hw3
  by_cases hq0 : q = 0
  · have hty := HTY.out (HW.out (hq.symm.trans hq0))
    have HTYP := Lib.hid hty
    have hb0 := HB0.out hq0
    have ht1 : t ≠ 1 := fun h => hbad (by rw [hb0, if_pos h])
    have HR : Hid (r = 4) := Lib.hid (by rw [hb0, if_neg ht1])
    have g : (t != 1) = true := by simp [ht1]
    have BB1 := Lib.hid (KitC.block_on B1 hbv)
    clear hty hb0 HTY HW HB1 HB0 hq hbad B1 B2
    subst hq0
    go_wp2_with (go_at_call 81; (with_reducible refine HCALL.out.mono ?_))
    rintro e2 w4 ⟨rfl, hb4⟩
    have HB4 := Lib.hid (below_two' HBV.out hb4)
    obtain ⟨k0, k1, k2⟩ := cells_3 (KitC.block_on BB1.out hb4)
    have HT4 := Lib.hid (HTV.out.keep hb4)
    clear hb4
    go_wp2_with (go_at_call 82; (with_reducible refine (HTYP.out _ HT4.out).mono ?_))
    rintro e2 w5 ⟨rfl, hb5⟩
    have HB5 := Lib.hid (below_two' HB4.out hb5)
    clear hb5
    go_wp2_with fail
    refine bodyPost_ret (v := .tuple #[.slice none 0 0, .int .i64 4]) (by simp [results, Tryz.results45, go_sem]) rfl ⟨_, by rw [HR.out], v4s_nil _, HB5.out⟩
  · have HR := Lib.hid (HB1.out hq0)
    have g : (q != 0) = true := by simp [hq0]
    clear HTY HW HB1 HB0 hq hbad B1 B2 hq0
    go_wp2_with (go_at_call 81; (with_reducible refine HCALL.out.mono ?_))
    rintro e2 w4 ⟨rfl, hb4⟩
    have HB4 := Lib.hid (below_two' HBV.out hb4)
    clear hb4
    go_wp2_with fail
    refine bodyPost_ret (v := .tuple #[.slice none 0 0, .int .i64 q]) (by simp [results, Tryz.results45, go_sem]) rfl ⟨_, by rw [HR.out], v4s_nil _, HB4.out⟩
end Go.Proofs.YtcfcpbkeedfbpaaGreatDoor

namespace Go.Proofs.YtcfcpbkeedfbpaaGreatDoor
open Go.RowKit TermSpec EvalSpec ActSpec NamesSpec

/-- The values of an Env's box, overwritten. -/
def st4 (w : World) (E : Nat) (x : V4) : World :=
  (((w.setCell ⟨E, 1, none⟩ (.int .i64 x.a)).setCell ⟨E, 2, none⟩ (.int .i64 x.b)).setCell ⟨E, 3, none⟩ (.int .i64 x.c)).setCell ⟨E, 4, none⟩ (.int .i64 x.d)
theorem st4_block {w : World} {E : Nat} {x : V4} {T : TypeId} {q0 q1 q2 q3 q4 q5 : Value} (h : w.heap[E]? = some (.cells #[q0, q1, q2, q3, q4, q5] T (0, 0))) :
    (st4 w E x).heap[E]? = some (.cells #[q0, .int .i64 x.a, .int .i64 x.b, .int .i64 x.c, .int .i64 x.d, q5] T (0, 0)) :=
  block_setCell' (block_setCell' (block_setCell' (block_setCell' h 1 _) 2 _) 3 _) 4 _
theorem st4_but (w : World) (E : Nat) (x : V4) : w.grownBy (st4 w E x) (some E) := but_set (but_set (but_set (but_set (but_refl _ _) 1 _) 2 _) 3 _) 4 _
theorem st4_other {w : World} {E b : Nat} {x : V4} {o : Obj} (h : w.heap[b]? = some o) (hne : b ≠ E) : (st4 w E x).heap[b]? = some o :=
  ((st4_but w E x).block b (Array.getElem?_eq_some_iff.1 h).1 (by simp; omega)).trans h
theorem st4_below {w w0 : World} {E B : Nat} {x : V4} (h : Below B w0 w) (hB : B ≤ E) : Below B w0 (st4 w E x) :=
  (((h.setCell hB _).setCell hB _).setCell hB _).setCell hB _
theorem st4_size (w : World) (E : Nat) (x : V4) : (st4 w E x).heap.size = w.heap.size := by simp [st4, World.setCell]
theorem envIn_at {w : World} {p : EP} {e : Ev} (h : EnvIn w p e) (x : V4) : EnvIn w p (envAt e x) := ⟨h.vars, h.ins, h.vbd, h.ibd⟩
/-- What the loop of one act keeps. -/
structure OneMem (w0 : World) (s : ByteArray) (any : Bool) (A : Option Addr) (n c : Nat) (p : EP) (v : Vr) (vb : Nat) (wr : World) : Prop where
  below : Below w0.heap.size w0 wr
  act : wr.heap[w0.heap.size]? = some (.cells #[.string s, .bool any, .slice A n c] 66 (0, 0))
  env : ∃ y : V4, wr.heap[w0.heap.size + 1]? = some (.cells #[.slice p.vA p.vn p.vc, .int .i64 y.a, .int .i64 y.b, .int .i64 y.c, .int .i64 y.d, .slice p.iA p.im p.ic] 54 (0, 0))
  var : wr.heap[vb]? = some (.cells #[.string v.s, .int .i64 v.lo, .int .i64 v.hi, .int .i64 v.ini] 62 (0, 0))
  beyond : w0.heap.size + 1 < vb
  there : vb < wr.heap.size
section
variable {w0 : World} {s : ByteArray} {any : Bool} {A : Option Addr} {n c : Nat} {p : EP} {v : Vr} {vb : Nat} {wr : World}
theorem OneMem.on {w' : World} (h : OneMem w0 s any A n c p v vb wr) (hb : Below wr.heap.size wr w') : OneMem w0 s any A n c p v vb w' := by
  obtain ⟨h1, h2, ⟨y, h3⟩, h4, h5, h6⟩ := h
  exact ⟨below_two' h1 hb, KitC.block_on h2 hb, ⟨y, KitC.block_on h3 hb⟩, KitC.block_on h4 hb, h5, Nat.lt_of_lt_of_le h6 hb.size⟩
theorem OneMem.set (h : OneMem w0 s any A n c p v vb wr) (x : V4) : OneMem w0 s any A n c p v vb (st4 wr (w0.heap.size + 1) x) := by
  obtain ⟨h1, h2, ⟨y, h3⟩, h4, h5, h6⟩ := h
  exact ⟨st4_below h1 (by omega), st4_other h2 (by omega), ⟨x, st4_block h3⟩, st4_other h4 (by omega), h5, by rw [st4_size]; exact h6⟩
end
def OneRel (w0 : World) (s : ByteArray) (any : Bool) (A : Option Addr) (n c : Nat) (p : EP) (e : Ev) (a : Ac) (i : Nat) (v : Vr) (vb : Nat) (l : List V4) (out k : Value) (wr : World) : Prop :=
  OneMem w0 s any A n c p v vb wr ∧ ∃ m : Nat, m ≤ l.length ∧ k = .int .i64 m ∧ V4s wr out (allV [] ((l.take m).flatMap (stepsA e a i v))) ∧ Beyond vb out
theorem stepA_ok {e : Ev} {a : Ac} {i : Nat} {v : Vr} {l : List V4} (h : varOf e a = some (i, v)) (hb : badA e a = 0) : stepA e a l = if 64 < (allV [] (l.flatMap (stepsA e a i v))).length then (12, []) else (0, allV [] (l.flatMap (stepsA e a i v))) := by
  unfold stepA
  rw [if_neg (by omega), h]
/-- The next list of values, of an expression. -/
theorem steps_next {e : Ev} {a : Ac} {i : Nat} {v : Vr} {l : List V4} {k : Nat} {y : V4} (h : l[k]? = some y) (ha : a.any = false) :
    allV [] ((l.take (k + 1)).flatMap (stepsA e a i v)) = withV (allV [] ((l.take k).flatMap (stepsA e a i v))) (y.set i (let n := comeE (envAt e y) a.x; if n < v.lo then v.lo else if v.hi < n then v.hi else n)) := by
  rw [take_next h, List.flatMap_append, List.flatMap_cons, List.flatMap_nil, List.append_nil]
  rw [show stepsA e a i v y = [y.set i (let n := comeE (envAt e y) a.x; if n < v.lo then v.lo else if v.hi < n then v.hi else n)] by unfold stepsA; rw [if_neg (by simp [ha])]]
  exact allV_snoc _ _ _
theorem withV_length (l : List V4) (x : V4) : (withV l x).length ≤ l.length + 1 := by
  unfold withV
  split
  · omega
  · simp; omega
theorem allV_length (xs : List V4) : ∀ l : List V4, (allV l xs).length ≤ l.length + xs.length := by
  induction xs with
  | nil => intro l; simp [allV]
  | cons x r ih =>
    intro l
    have h1 := ih (withV l x)
    have h2 := withV_length l x
    show (allV (withV l x) r).length ≤ _
    rw [List.length_cons]
    omega
end Go.Proofs.YtcfcpbkeedfbpaaGreatDoor

namespace Go.Proofs.YtcfcpbkeedfbpaaGreatDoor
open Go.RowKit TermSpec EvalSpec ActSpec NamesSpec

theorem own_other {w w' : World} {base n k B : Nat} {e : TypeId} {v : Value} {xs : List Value} (h : w.ownsRow base e k v n xs) (hb : w.grownBy w' (some B)) (hne : v.ownBlock ≠ some B) : w'.ownsRow base e k v n xs := by
  refine ⟨h.1, ?_⟩
  rcases h.2 with h | ⟨g, cap, cur, h1, h2, h3, h4⟩
  · exact .inl h
  · subst h1
    exact .inr ⟨g, cap, cur, rfl, h2, (hb.block g (Array.getElem?_eq_some_iff.1 h3).1 (fun e => hne e)).trans h3, h4⟩
theorem rd_other {w w' : World} {v : Value} {xs : List Value} {ob : Option Nat} (h : Rd w v xs) (hb : w.grownBy w' ob) (hne : ∀ b off n c, v = .slice (some ⟨b, off, none⟩) n c → 0 < n → ob ≠ some b) : Rd w' v xs := by
  obtain ⟨A, n, c, rfl, hn, hc, hA⟩ := h
  refine ⟨A, n, c, rfl, hn, hc, fun h0 => ?_⟩
  obtain ⟨b, off, rfl, hlt, hcell⟩ := hA h0
  refine ⟨b, off, rfl, Nat.lt_of_lt_of_le hlt hb.size, fun j u hj => ?_⟩
  have hblk := hb.block b hlt (fun e => hne b off _ _ rfl h0 e.symm)
  have := hcell j u hj
  simp only [World.cell?] at this ⊢
  rw [hblk]
  exact this
theorem block_other {w w' : World} {b : Nat} {ob : Option Nat} {o : Obj} (h : w.heap[b]? = some o) (hb : w.grownBy w' ob) (hne : ob ≠ some b) : w'.heap[b]? = some o :=
  (hb.block b (Array.getElem?_eq_some_iff.1 h).1 (fun e => hne e.symm)).trans h
abbrev v4B (x : V4) (T : TypeId) : Obj := .cells #[.int .i64 x.a, .int .i64 x.b, .int .i64 x.c, .int .i64 x.d] T (0, 0)
theorem v4_put {w : World} {b i : Nat} {x : V4} {T : TypeId} (h : w.heap[b]? = some (v4B x T)) (hi : i < 4) (n : Int) : (w.setCell ⟨b, i, none⟩ (.int .i64 n)).heap[b]? = some (v4B (x.set i n) T) := by
  have := block_setCell' h i (.int .i64 n)
  rw [this]
  rcases (show i = 0 ∨ i = 1 ∨ i = 2 ∨ i = 3 by omega) with rfl | rfl | rfl | rfl <;> rfl
theorem set_set (x : V4) (i : Nat) (a b : Int) : (x.set i a).set i b = x.set i b := by
  unfold V4.set
  split
  · rfl
  · split
    · rfl
    · split <;> rfl
section
variable (w0 : World) (s : ByteArray) (any : Bool) (A : Option Addr) (n c : Nat) (p : EP)
/-- What the loop over the lists keeps. -/
structure DoOut (pv : Value) (xs : List V4) (wr : World) : Prop where
  below : Below w0.heap.size w0 wr
  act : wr.heap[w0.heap.size]? = some (.cells #[.string s, .bool any, .slice A n c] 66 (0, 0))
  env : ∃ y : V4, wr.heap[w0.heap.size + 1]? = some (.cells #[.slice p.vA p.vn p.vc, .int .i64 y.a, .int .i64 y.b, .int .i64 y.c, .int .i64 y.d, .slice p.iA p.im p.ic] 54 (0, 0))
  row : wr.ownsRow (w0.heap.size + 2) 51 4 pv xs.length (v4sV xs)
/-- What the loop over the numbers keeps. -/
structure DoIn (vb : Nat) (y : V4) (i : Nat) (gv : Value) (G : List Int) (pv : Value) (xs : List V4) (wr : World) : Prop extends DoOut w0 s any A n c p pv xs wr where
  beyond : w0.heap.size + 2 ≤ vb
  there : vb < wr.heap.size
  vals : ∃ z : V4, wr.heap[vb]? = some (v4B z 51) ∧ ∀ m, z.set i m = y.set i m
  rowne : pv.ownBlock ≠ some vb
  nums : Rd wr gv (intV G)
  numsne : ∀ b off n c, gv = .slice (some ⟨b, off, none⟩) n c → 0 < n → b ≠ vb ∧ pv.ownBlock ≠ some b
end
section
variable {w0 : World} {s : ByteArray} {any : Bool} {A : Option Addr} {n c : Nat} {p : EP} {pv : Value} {xs : List V4} {wr w' : World} {vb : Nat} {y : V4} {i : Nat} {gv : Value} {G : List Int}
theorem DoOut.on (h : DoOut w0 s any A n c p pv xs wr) (hb : Below wr.heap.size wr w') : DoOut w0 s any A n c p pv xs w' := by
  obtain ⟨h1, h2, ⟨y, h3⟩, h4⟩ := h
  exact ⟨below_two' h1 hb, KitC.block_on h2 hb, ⟨y, KitC.block_on h3 hb⟩, own_keep h4 hb⟩
theorem DoOut.size (h : DoOut w0 s any A n c p pv xs wr) : w0.heap.size + 2 ≤ wr.heap.size := by
  obtain ⟨y, h3⟩ := h.env
  exact (Array.getElem?_eq_some_iff.1 h3).1
theorem DoOut.set (h : DoOut w0 s any A n c p pv xs wr) (x : V4) : DoOut w0 s any A n c p pv xs (st4 wr (w0.heap.size + 1) x) := by
  obtain ⟨h1, h2, ⟨y, h3⟩, h4⟩ := h
  exact ⟨st4_below h1 (by omega), st4_other h2 (by omega), ⟨x, st4_block h3⟩, own_but h4 (st4_but wr _ x) (by omega)⟩
theorem DoIn.on (h : DoIn w0 s any A n c p vb y i gv G pv xs wr) (hb : Below wr.heap.size wr w') : DoIn w0 s any A n c p vb y i gv G pv xs w' := by
  obtain ⟨h0, h1, h2, ⟨z, h3, h4⟩, h5, h6, h7⟩ := h
  exact ⟨h0.on hb, h1, Nat.lt_of_lt_of_le h2 hb.size, ⟨z, KitC.block_on h3 hb, h4⟩, h5, h6.keep hb, h7⟩
theorem DoIn.put (h : DoIn w0 s any A n c p vb y i gv G pv xs wr) (hi : i < 4) (m : Int) :
    DoIn w0 s any A n c p vb y i gv G pv xs (wr.setCell ⟨vb, i, none⟩ (.int .i64 m)) ∧ (wr.setCell ⟨vb, i, none⟩ (.int .i64 m)).heap[vb]? = some (v4B (y.set i m) 51) := by
  obtain ⟨⟨h1, h2, ⟨y', h3⟩, h4⟩, h5, h6, ⟨z, h7, h8⟩, h9, h10, h11⟩ := h
  have hg : wr.grownBy (wr.setCell ⟨vb, i, none⟩ (.int .i64 m)) (some vb) := but_set (but_refl _ _) i _
  have hv := v4_put h7 hi m
  rw [h8 m] at hv
  exact ⟨⟨⟨h1.setCell (show w0.heap.size ≤ vb by omega) _, block_other h2 hg (by simp; omega), ⟨y', block_other h3 hg (by simp; omega)⟩, own_other h4 hg h9⟩, h5, Nat.lt_of_lt_of_le h6 hg.size, ⟨_, hv, fun k => by rw [set_set]⟩, h9, rd_other h10 hg fun b off n c he h0 e => (h11 b off n c he h0).1 (by injection e with e; exact e.symm), h11⟩, hv⟩
theorem DoIn.add {w2 : World} {pv' : Value} {x : V4} (h : DoIn w0 s any A n c p vb y i gv G pv xs wr) (hrow : w2.ownsRow (w0.heap.size + 2) 51 4 pv' (xs.length + 1) (v4sV xs ++ v4sV [x])) (hg : wr.grownBy w2 pv.ownBlock) (hob : pv'.ownBlock = pv.ownBlock ∨ pv'.ownBlock = some wr.heap.size) :
    DoIn w0 s any A n c p vb y i gv G pv' (xs ++ [x]) w2 := by
  obtain ⟨⟨h1, h2, ⟨y', h3⟩, h4⟩, h5, h6, ⟨z, h7, h8⟩, h9, h10, h11⟩ := h
  have hbd := fun j hj => (own_block_bd h4 j hj).1
  refine ⟨⟨h1.grown hg h1.size fun j hj => by have := hbd j hj; omega, block_other h2 hg (fun e => by have := hbd _ e; omega), ⟨y', block_other h3 hg (fun e => by have := hbd _ e; omega)⟩, ?_⟩, h5, Nat.lt_of_lt_of_le h6 hg.size, ⟨z, block_other h7 hg h9, h8⟩, ?_, rd_other h10 hg fun b off n c he h0 => (h11 b off n c he h0).2, fun b off n c he h0 => ⟨(h11 b off n c he h0).1, ?_⟩⟩
  · rw [← v4sV_append, List.length_append]
    exact hrow
  · rcases hob with e | e
    · rw [e]; exact h9
    · rw [e]; intro e; injection e with e; omega
  · rcases hob with e | e
    · rw [e]; exact (h11 b off n c he h0).2
    · rw [e]
      intro e
      injection e with e
      obtain ⟨A', n', c', heq, _, _, hA⟩ := h10
      rw [he] at heq
      injection heq with e1 e2 e3
      subst e1
      obtain ⟨b', off', e4, hlt, _⟩ := hA (by rw [← e2]; exact h0)
      injection e4 with e4
      injection e4 with e4
      omega
end
theorem flat_le {α : Type} {f : V4 → List α} {m : Nat} (hf : ∀ x, (f x).length ≤ m) : ∀ l : List V4, (l.flatMap f).length ≤ l.length * m
  | [] => by simp
  | x :: r => by
    have h1 := hf x
    have h2 := flat_le hf r
    rw [List.flatMap_cons, List.length_append, List.length_cons, Nat.add_mul]
    omega
theorem flat_pos {α : Type} {f : V4 → List α} (hf : ∀ x, 0 < (f x).length) {l : List V4} (h : 0 < l.length) : 0 < (l.flatMap f).length := by
  cases l with
  | nil => simp at h
  | cons x r =>
    have := hf x
    rw [List.flatMap_cons, List.length_append]
    omega
end Go.Proofs.YtcfcpbkeedfbpaaGreatDoor

namespace Go.Proofs.YtcfcpbkeedfbpaaGreatDoor
open Go.RowKit Go.Sort TermSpec EvalSpec ActSpec
set_option maxRecDepth 100000

theorem nan_int (x : Int) (w : World) : Calls Tryz.prog 152 #[.int .i64 x] w fun e w' => e = .returned (.bool false) ∧ w' = w := by
  go_enter Tryz.func152, Tryz.ntmps152
  go_wp2
  go_ret
  exact ⟨by simp, rfl⟩
set_option maxHeartbeats 1000000 in
theorem cmp_int (x y : Int) (w : World) : Calls Tryz.prog 120 #[.int .i64 x, .int .i64 y] w fun e w' => e = .returned (.int .i64 (Lib.compareInt x y)) ∧ w' = w := by
  go_enter Tryz.func120, Tryz.ntmps120
  go_wp2_with (go_at_call 152; refine (nan_int _ _).mono ?_; rintro e w' ⟨rfl, hw⟩; rw [hw])
  all_goals (go_ret; refine ⟨?_, rfl⟩; unfold Lib.compareInt; (repeat' split) <;> first | rfl | (exfalso; omega))
/-- What the comparison of two lists of values tells. -/
def cmpV (x y : V4) : Int := if x.a ≠ y.a then Lib.compareInt x.a y.a else if x.b ≠ y.b then Lib.compareInt x.b y.b else if x.c ≠ y.c then Lib.compareInt x.c y.c else if x.d ≠ y.d then Lib.compareInt x.d y.d else 0
theorem compareInt_neg (x y : Int) : decide (Lib.compareInt x y < 0) = decide (x < y) := by
  unfold Lib.compareInt
  split
  · simp [*]
  · split <;> simp [*]
theorem compareInt_zero {x y : Int} : Lib.compareInt x y = 0 ↔ x = y := by
  unfold Lib.compareInt
  split
  · constructor
    · intro h; cases h
    · intro h; omega
  · split
    · constructor
      · intro h; cases h
      · intro h; omega
    · constructor
      · intro _; omega
      · intro _; rfl
theorem cmpV_less (x y : V4) : decide (cmpV x y < 0) = lessV x y := by
  unfold cmpV lessV
  split
  · exact compareInt_neg _ _
  · split
    · exact compareInt_neg _ _
    · split
      · exact compareInt_neg _ _
      · split
        · exact compareInt_neg _ _
        · rename_i h
          have : x.d = y.d := Decidable.not_not.1 h
          rw [this]; simp
theorem cmpV_at {x y : V4} {k : Nat} (hk : k < 4) (h : ∀ j, j < k → x.get j = y.get j) (hne : x.get k ≠ y.get k) : cmpV x y = Lib.compareInt (x.get k) (y.get k) := by
  unfold cmpV
  rcases (show k = 0 ∨ k = 1 ∨ k = 2 ∨ k = 3 by omega) with rfl | rfl | rfl | rfl
  · rw [if_pos (show x.a ≠ y.a from hne)]; rfl
  · rw [if_neg (by have : x.a = y.a := h 0 (by omega); simp [this]), if_pos (show x.b ≠ y.b from hne)]; rfl
  · rw [if_neg (by have : x.a = y.a := h 0 (by omega); simp [this]), if_neg (by have : x.b = y.b := h 1 (by omega); simp [this]), if_pos (show x.c ≠ y.c from hne)]; rfl
  · rw [if_neg (by have : x.a = y.a := h 0 (by omega); simp [this]), if_neg (by have : x.b = y.b := h 1 (by omega); simp [this]), if_neg (by have : x.c = y.c := h 2 (by omega); simp [this]), if_pos (show x.d ≠ y.d from hne)]; rfl
theorem cmpV_same {x y : V4} (h : ∀ j, j < 4 → x.get j = y.get j) : cmpV x y = 0 := by
  unfold cmpV
  rw [if_neg (by have : x.a = y.a := h 0 (by omega); simp [this]), if_neg (by have : x.b = y.b := h 1 (by omega); simp [this]), if_neg (by have : x.c = y.c := h 2 (by omega); simp [this]), if_neg (by have : x.d = y.d := h 3 (by omega); simp [this])]

def CmpRel (x y : V4) (i : Value) : Prop := ∃ k : Nat, k ≤ 4 ∧ i = .int .i64 k ∧ (∀ j, j < k → x.get j = y.get j)
set_option maxHeartbeats 1000000 in
theorem scompare_any (x y : V4) (b1 b2 c1 c2 : Nat) (T1 T2 : TypeId) (w : World) (h1 : w.heap[b1]? = some (.cells #[.int .i64 x.a, .int .i64 x.b, .int .i64 x.c, .int .i64 x.d] T1 (0, 0))) (h2 : w.heap[b2]? = some (.cells #[.int .i64 y.a, .int .i64 y.b, .int .i64 y.c, .int .i64 y.d] T2 (0, 0))) (_hc1 : 4 ≤ c1) (_hc2 : 4 ≤ c2) :
    Calls Tryz.prog 85 #[.slice (some ⟨b1, 0, none⟩) 4 c1, .slice (some ⟨b2, 0, none⟩) 4 c2] w fun e w' => e = .returned (.int .i64 (cmpV x y)) ∧ w' = w := by
  have H1 := Lib.hid h1
  have H2 := Lib.hid h2
  obtain ⟨r, hr⟩ : ∃ r, r = cmpV x y := ⟨_, rfl⟩
  rw [← hr]
  have HR := Lib.hid hr
  clear h1 h2 hr
  go_enter Tryz.func85, Tryz.ntmps85
  go_wp2_with fail
  go_loop [11] (fun i => CmpRel x y i) (fun i => 4 - (intOf i).toNat)
  case atStart => exact ⟨0, Nat.zero_le _, rfl, by simp⟩
  case round =>
    obtain ⟨k, hk, rfl, hsame⟩ := hrel
    have HSAME := Lib.hid hsame
    by_cases hlt : k < 4
    · have d1 := v4_cell H1.out hlt
      have d2 := v4_cell H2.out hlt
      rw [Nat.zero_add] at d1 d2
      obtain ⟨p, hp⟩ : ∃ p, p = x.get k := ⟨_, rfl⟩
      obtain ⟨q, hq⟩ : ∃ q, q = y.get k := ⟨_, rfl⟩
      rw [← hp] at d1
      rw [← hq] at d2
      have HP := Lib.hid hp
      have HQ := Lib.hid hq
      have hkI : (k : Int) < 4 := by omega
      obtain ⟨z, hz⟩ : ∃ z, z = Lib.compareInt p q := ⟨_, rfl⟩
      have HC := Lib.hid (fun w => cmp_int p q w)
      rw [← hz] at HC
      have HZ := Lib.hid hz
      clear hp hq hsame hz
      by_cases hz0 : z = 0
      · have g : (z != 0) = false := by simp [hz0]
        have HE : Hid (p = q) := Lib.hid (compareInt_zero.1 (by rw [← HZ.out]; exact hz0))
        clear hz0
        go_wp2_with (go_at_call 120; refine (HC.out _).mono ?_; rintro e w' ⟨rfl, hw⟩; rw [hw])
        go_round
        case rel =>
          refine ⟨k + 1, by omega, by go_num, fun j hj => ?_⟩
          rcases Nat.lt_or_ge j k with h | h
          · exact HSAME.out j h
          · rw [show j = k by omega, ← HP.out, ← HQ.out]; exact HE.out
        case measure => simp [intOf]; omega
      · have g : (z != 0) = true := by simp [hz0]
        have HL : Hid (r = z) := Lib.hid (by
          rw [HR.out, HZ.out, HP.out, HQ.out]
          refine cmpV_at hlt HSAME.out fun h => hz0 ?_
          rw [HZ.out, HP.out, HQ.out]
          exact compareInt_zero.2 h)
        clear hz0
        go_wp2_with (go_at_call 120; refine (HC.out _).mono ?_; rintro e w' ⟨rfl, hw⟩; rw [hw])
        go_ret
        exact ⟨ret_int HL.out.symm, rfl⟩
    · have HL : Hid (r = 0) := Lib.hid (by rw [HR.out]; exact cmpV_same fun j hj => HSAME.out j (by omega))
      have hkI : ¬ (k : Int) < 4 := by omega
      clear hsame
      go_wp2_with fail
      go_ret
      exact ⟨ret_int HL.out.symm, rfl⟩
abbrev v4O (x : V4) : Obj := .cells #[.int .i64 x.a, .int .i64 x.b, .int .i64 x.c, .int .i64 x.d] 51
theorem slice_arr4 (B : Nat) (W : World) : (Instr.sliceAt 51 (.pointer (some ⟨B, 0, none⟩)) none none none).run Tryz.prog W = .ok (.slice (some ⟨B, 0, none⟩) 4 4) W := by
  have hal : Tryz.prog.arrayLen 51 = 4 := by simp [Program.arrayLen, Tryz.underlying51]
  rw [run_sliceAt_array_all W 51 ⟨B, 0, none⟩ (by simp [Program.arrayLen, Program.elem, Tryz.underlying51]), hal, show Tryz.prog.elem 51 = 3 by kernel_rfl, Tryz.sizeOf3]
  simp [slicedAt, Result.andThen, Addr.add]
set_option maxHeartbeats 1000000 in
theorem vcompare_any (x y : V4) (w : World) : Calls Tryz.prog 46 #[v4A x, v4A y] w fun e w' => e = .returned (.int .i64 (cmpV x y)) ∧ ∃ q, w' = ((w.alloc (v4O x)).alloc (v4O y)).drewN q := by
  have B : Hid (∀ q, ((((w.alloc (v4O x)).alloc (v4O y)).drewN q).heap[w.heap.size]? = some (.cells #[.int .i64 x.a, .int .i64 x.b, .int .i64 x.c, .int .i64 x.d] 51 (0, 0))) ∧ ((((w.alloc (v4O x)).alloc (v4O y)).drewN q).heap[w.heap.size + 1]? = some (.cells #[.int .i64 y.a, .int .i64 y.b, .int .i64 y.c, .int .i64 y.d] 51 (0, 0)))) := Lib.hid (fun q => by
    obtain ⟨b1, b2, _, _⟩ := KitC.pair_blocks (Below.refl ((w.alloc (v4O x)).alloc (v4O y)).heap.size ((w.alloc (v4O x)).alloc (v4O y)))
    exact ⟨b1, b2⟩)
  have HC := Lib.hid (fun q => scompare_any x y w.heap.size (w.heap.size + 1) 4 4 _ _ _ (B.out q).1 (B.out q).2 (Nat.le_refl _) (Nat.le_refl _))
  have hs1 := slice_arr4 w.heap.size
  have hs2 := slice_arr4 (w.heap.size + 1)
  obtain ⟨r, hr⟩ : ∃ r, r = cmpV x y := ⟨_, rfl⟩
  rw [← hr] at HC ⊢
  clear hr B
  obtain ⟨x0, x1, x2, x3⟩ := x
  obtain ⟨y0, y1, y2, y3⟩ := y
  go_enter Tryz.func46, Tryz.ntmps46
  go_wp2_with fail
  go_quiet ((go_at_call 85; exact Calls.quiet_of_same (HC.out _)))
  go_wp2_with fail
  go_ret
  exact ⟨rfl, _, rfl⟩
theorem compare_grown (x y : V4) (w : World) : Calls Tryz.prog 46 #[v4A x, v4A y] w fun e w' => e = .returned (.int .i64 (cmpV x y)) ∧ ∃ q os, w' = grow (w.drewN q) os :=
  (vcompare_any x y w).mono fun _ _ ⟨h, q, hw⟩ => ⟨h, q, #[v4O x, v4O y], by rw [hw, alloc_eq_grow, alloc_eq_grow, grow_grow]; rfl⟩
set_option maxHeartbeats 1000000 in
theorem less_any (x y : V4) (w : World) : Calls Tryz.prog 26 #[v4A x, v4A y] w (RetB w (lessV x y)) := by
  have HC := Lib.hid (fun w => vcompare_any x y w)
  have HL := Lib.hid (cmpV_less x y)
  obtain ⟨r, hr⟩ : ∃ r, r = cmpV x y := ⟨_, rfl⟩
  rw [← hr] at HC HL
  obtain ⟨l, hl⟩ : ∃ l, l = lessV x y := ⟨_, rfl⟩
  rw [← hl] at HL ⊢
  clear hr hl
  have HB := Lib.hid (KitC.below_pair w (v4O x) (v4O y))
  obtain ⟨x0, x1, x2, x3⟩ := x
  obtain ⟨y0, y1, y2, y3⟩ := y
  go_enter Tryz.func26, Tryz.ntmps26
  go_wp2_with (go_at_call 46; (with_reducible refine (HC.out _).mono ?_))
  rintro e2 w2 ⟨rfl, q, hw⟩
  have HB2 := Lib.hid (below_two' HB.out (below_drewN (KitC.below_pair ((w.alloc (v4O ⟨x0, x1, x2, x3⟩)).alloc (v4O ⟨y0, y1, y2, y3⟩)) (v4O ⟨x0, x1, x2, x3⟩) (v4O ⟨y0, y1, y2, y3⟩)) q))
  rw [← hw] at HB2
  clear hw
  go_wp2_with fail
  go_ret
  exact ⟨ret_bool HL.out, HB2.out⟩
end Go.Proofs.YtcfcpbkeedfbpaaGreatDoor

namespace Go.Proofs.YtcfcpbkeedfbpaaGreatDoor
namespace ActSpec
open TermSpec EvalSpec Go.Lib

instance inhV4 : Inhabited V4 := ⟨⟨0, 0, 0, 0⟩⟩
/-- In order, some perhaps more than once. -/
def Slow (l : List V4) : Prop := l.Pairwise fun x y => lessV y x = false
theorem lessV_not (x y : V4) : lessV x y = false ↔ ¬ (x.a < y.a ∨ (x.a = y.a ∧ (x.b < y.b ∨ (x.b = y.b ∧ (x.c < y.c ∨ (x.c = y.c ∧ x.d < y.d)))))) := by
  rw [← lessV_iff]; simp
theorem lessV_ntrans {x y z : V4} (h : lessV x y = false) (h' : lessV y z = false) : lessV x z = false := by
  rw [lessV_not] at *
  omega
theorem lessV_le_lt {x y z : V4} (h : lessV y x = false) (h' : lessV y z = true) : lessV x z = true := by
  rw [lessV_not] at h
  rw [lessV_iff] at *
  omega
theorem nextV {l : List V4} {k : Nat} {x : V4} (h : l[k]? = some x) : l.take (k + 1) = l.take k ++ [x] := by
  rw [List.take_add_one, h]; rfl
theorem compactV_upto (d : Array V4) (hs : Slow d.toList) : ∀ m, m ≤ d.size →
    Up (compactUpTo d m) ∧ (∀ x, x ∈ compactUpTo d m ↔ x ∈ d.toList.take m) ∧ (0 < m → d[m - 1]! ∈ compactUpTo d m) := by
  have hget : ∀ i, i < d.size → d.toList[i]? = some d[i]! := fun i hi => by
    rw [List.getElem?_eq_getElem (by simpa using hi), getElem!_pos d i hi]; rfl
  have hle : ∀ i j, i < j → j < d.size → lessV d[j]! d[i]! = false := fun i j hij hj => by
    have := List.pairwise_iff_getElem.1 hs i j (by simp; omega) (by simpa using hj) hij
    rw [getElem!_pos d i (by omega), getElem!_pos d j hj]
    simpa using this
  intro m
  induction m with
  | zero => intro _; exact ⟨List.Pairwise.nil, by simp [compactUpTo], fun h => absurd h (by omega)⟩
  | succ m ih =>
    intro hm
    obtain ⟨h1, h2, h3⟩ := ih (by omega)
    have htake : d.toList.take (m + 1) = d.toList.take m ++ [d[m]!] := nextV (hget m (by omega))
    rw [compactUpTo_succ, htake]
    by_cases hk : keeps d m = true
    · rw [if_pos hk]
      refine ⟨?_, ?_, fun _ => by simp⟩
      · unfold Up
        rw [List.pairwise_append]
        refine ⟨h1, by simp, fun x hx y hy => ?_⟩
        rw [List.mem_singleton] at hy
        subst hy
        obtain ⟨i, hi⟩ := List.mem_iff_getElem?.1 ((h2 x).1 hx)
        have hil : i < m := by
          have := (List.getElem?_eq_some_iff.1 hi).1
          rw [List.length_take] at this
          omega
        rw [List.getElem?_take_of_lt hil, hget i (by omega)] at hi
        injection hi with hi
        subst hi
        have hne : d[m]! ≠ d[m - 1]! ∧ m ≠ 0 := by
          unfold keeps at hk
          have hk := of_decide_eq_true hk
          rcases hk with hk | hk
          · omega
          · exact ⟨hk, by omega⟩
        have hlt : lessV d[m - 1]! d[m]! = true := by
          rcases lessV_tri hne.1 with h | h
          · rw [hle (m - 1) m (by omega) (by omega)] at h
            cases h
          · exact h
        rcases Nat.lt_or_ge i (m - 1) with hc | hc
        · exact lessV_le_lt (hle i (m - 1) hc (by omega)) hlt
        · obtain rfl : i = m - 1 := by omega
          exact hlt
      · intro x
        simp only [List.mem_append, h2 x]
    · rw [if_neg hk, List.append_nil]
      have hm0 : m ≠ 0 := by
        rintro rfl
        exact hk (by simp [keeps])
      have he : d[m]! = d[m - 1]! := by
        unfold keeps at hk
        simp only [decide_eq_true_eq] at hk
        by_cases e : d[m]! = d[m - 1]!
        · exact e
        · exact absurd (.inr e) hk
      refine ⟨h1, fun x => ?_, fun _ => ?_⟩
      · rw [h2 x, List.mem_append, List.mem_singleton]
        constructor
        · exact .inl
        · rintro (hx | hx)
          · exact hx
          · rw [hx, he]; exact (h2 _).1 (h3 (by omega))
      · rw [Nat.add_sub_cancel, he]; exact h3 (by omega)
theorem compactV_up {ys : List V4} (hs : Slow ys) : Up (compact ys) ∧ ∀ x, x ∈ compact ys ↔ x ∈ ys := by
  obtain ⟨h1, h2, _⟩ := compactV_upto ys.toArray hs ys.length (by simp)
  refine ⟨h1, fun x => (h2 x).trans ?_⟩
  rw [List.take_of_length_le (by simp)]
/-- Sorted and compacted: put where they stand, one behind the other. -/
theorem compactV_all {xs ys : List V4} (hp : ys.Perm xs) (hs : Slow ys) : compact ys = allV [] xs :=
  up_eq (compactV_up hs).1 (allV_up List.Pairwise.nil) fun x => by rw [(compactV_up hs).2, hp.mem_iff, allV_mem]; simp
theorem allV_some {xs : List V4} (h : xs ≠ []) : allV [] xs ≠ [] := by
  cases xs with
  | nil => exact absurd rfl h
  | cons x r =>
    intro he
    have : x ∈ allV [] (x :: r) := allV_mem.2 (.inr (by simp))
    rw [he] at this
    cases this
end ActSpec
end Go.Proofs.YtcfcpbkeedfbpaaGreatDoor
