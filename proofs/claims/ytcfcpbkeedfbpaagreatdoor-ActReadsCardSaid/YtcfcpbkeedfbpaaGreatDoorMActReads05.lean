/- ActGiven, EvalRefCheck, ActRefOne, ActOneMem, ActDoMem, ActCmp, ActSortSpec, ActSort, ActCompact, joined. -/
import Derived.Test.YtcfcpbkeedfbpaaGreatDoorMActReads04
import Derived.Test.YtcfcpbkeedfbpaaGreatDoorMActReads02
import Derived.Test.YtcfcpbkeedfbpaaGreatDoorMActReads03
import Derived.BigQuiet
import Derived.Test.YtcfcpbkeedfbpaaGreatDoorMActReads01
import Derived.Lib.SlicesCompact
import Derived.Test.YtcfcpbkeedfbpaaGreatDoorShelf2
import Derived.Lib.SliceRun
import Derived.Deep.LoopGhost
namespace Go.Proofs.YtcfcpbkeedfbpaaGreatDoor
open Go.RowKit TermSpec EvalSpec ActSpec NamesSpec ValSpec Go.Lib
set_option maxRecDepth 100000

/-- What a call answers that gives numbers in a slice of its own. -/
def RetIntsN (W : World) (l : List Int) (e : Ending) (w' : World) : Prop := ∃ v, e = .returned v ∧ Rd w' v (intV l) ∧ Below W.heap.size W w' ∧ Beyond W.heap.size v
theorem beyond_rowI {W wr : World} {p : Value} {xs : List Int} (h : RowI W wr p xs) {base : Nat} (hb : base ≤ W.heap.size) : Beyond base p := by
  intro b off n c he _
  subst he
  have := (own_block_bd h.1 b (by simp [Value.ownBlock])).1
  omega
theorem beyond_lit {k n c base : Nat} (h : base ≤ k) : Beyond base (.slice (some ⟨k, 0, none⟩) n c) := by
  intro b off n' c' he _
  injection he with e1 _ _
  injection e1 with e1
  injection e1 with e1
  omega
/-- The numbers that an act gives its variable. -/
def givenL (e : Ev) (a : Ac) (v : Vr) : List Int := if a.any then (List.range ((v.hi - v.lo + 1).toNat)).map fun (k : Nat) => v.lo + k else [clampI (comeE e a.x) v.lo v.hi]
theorem clampI_eq (n lo hi : Int) : clampI n lo hi = if n < lo then lo else if hi < n then hi else n := rfl
theorem stepsA_given (e : Ev) (a : Ac) (i : Nat) (v : Vr) (x : V4) : stepsA e a i v x = (givenL (envAt e x) a v).map (x.set i) := by
  unfold stepsA givenL
  split
  · rw [List.map_map]; rfl
  · rw [clampI_eq]; rfl
theorem three_blocks {w w2 : World} {o p q : Obj} (hb : Below (((w.alloc o).alloc p).alloc q).heap.size (((w.alloc o).alloc p).alloc q) w2) :
    w2.heap[w.heap.size]? = some o ∧ w2.heap[w.heap.size + 1]? = some p ∧ w2.heap[w.heap.size + 2]? = some q ∧ Below w.heap.size w w2 := by
  have h1 := KitC.one_block hb
  have h2 := KitC.pair_blocks h1.2.1
  rw [World.size_alloc, World.size_alloc] at h1
  exact ⟨h2.1, h2.2.1, h1.1, h2.2.2.1⟩
set_option maxHeartbeats 2000000 in
theorem given_expr (p : EP) (e : Ev) (a : Ac) (v : Vr) (A : Option Addr) (n c : Nat) (w : World) (he : EnvIn w p e) (hs : SmallA a) (ht : Tms w (.slice A n c) a.x) (ha : a.any = false) (hc : chkE e a.x = 0) :
    Calls Tryz.prog 77 #[.agg #[.string a.s, .bool a.any, .slice A n c], .agg #[.string v.s, .int .i64 v.lo, .int .i64 v.hi, .int .i64 v.ini], envV p e] w (RetIntsN w (givenL e a v)) := by
  obtain ⟨A', n', c', heq, hn, hnc⟩ := ht.shape
  cases heq
  have HT := Lib.hid ht
  have HE := Lib.hid he
  have HAT := Lib.hid (fun w h h' => at_yes p e A n c a.x hn (by have := hs.2.2; omega) hs.2.1 w h h' hc)
  have HG : Hid (givenL e a v = [clampI (comeE e a.x) v.lo v.hi]) := Lib.hid (by unfold givenL; rw [if_neg (by simp [ha])])
  obtain ⟨G, hG⟩ : ∃ G, G = givenL e a v := ⟨_, rfl⟩
  rw [← hG] at HG ⊢
  obtain ⟨m, hm⟩ : ∃ m, m = comeE e a.x := ⟨_, rfl⟩
  rw [← hm] at HAT HG
  obtain ⟨s, any, x⟩ := a
  simp only at HT HAT ha ⊢
  subst ha
  obtain ⟨vs, lo, hi, ini⟩ := v
  simp only at HG ⊢
  have HCL := Lib.hid (fun w => clamp_any m lo hi w)
  obtain ⟨z, hz⟩ : ∃ z, z = clampI m lo hi := ⟨_, rfl⟩
  rw [← hz] at HCL HG
  obtain ⟨E, hE⟩ : ∃ E, E = e := ⟨_, rfl⟩
  rw [← hE] at HE
  obtain ⟨vA, vn, vc, iA, im, ic⟩ := p
  obtain ⟨vars, v0, v1, v2, v3, ins⟩ := e
  have HAT' : Hid (∀ w, Tms w (.slice A n c) x → EnvIn w ⟨vA, vn, vc, iA, im, ic⟩ E → Calls Tryz.prog 114 #[.slice A n c, .agg #[.slice vA vn vc, .int .i64 v0, .int .i64 v1, .int .i64 v2, .int .i64 v3, .slice iA im ic]] w (ERetAt w m 0)) := Lib.hid (fun w h h' => by rw [hE] at h'; exact HAT.out w h h')
  clear hE HAT he hs ht hn hnc hc hm hz hG
  change Calls _ _ #[_, _, .agg #[.slice vA vn vc, .int .i64 v0, .int .i64 v1, .int .i64 v2, .int .i64 v3, .slice iA im ic]] _ _
  have HBP := Lib.hid (below_two' (KitC.below_pair w (.cells #[.string s, .bool false, .slice A n c] 66) (.cells #[.string vs, .int .i64 lo, .int .i64 hi, .int .i64 ini] 62)) (KitC.below_one _ (.cells #[.slice vA vn vc, .int .i64 v0, .int .i64 v1, .int .i64 v2, .int .i64 v3, .slice iA im ic] 54)))
  go_enter Tryz.func77, Tryz.ntmps77
  go_wp2_with (go_at_call 114; (with_reducible refine (HAT'.out _ (HT.out.keep HBP.out) (HE.out.keep HBP.out)).mono ?_))
  rintro e2 w2 ⟨rfl, hb2⟩
  obtain ⟨B1, B2, B3, hbb⟩ := three_blocks hb2
  have HB2 := Lib.hid hbb
  obtain ⟨c0, c1, c2, c3⟩ := cells_4 B2
  clear hb2 hbb B1 B2 B3
  go_wp2_with (go_at_call 115; refine (HCL.out _).mono ?_; rintro e w' ⟨rfl, rfl⟩)
  go_ret
  exact ⟨_, rfl, by rw [HG.out]; exact lit_here rfl rfl rfl, below_two' HB2.out (KitC.below_one _ _), beyond_lit HB2.out.size⟩
def GivRel (W : World) (lo : Int) (n : Nat) (p i : Value) (wr : World) : Prop := ∃ k : Nat, k ≤ n ∧ i = .int .i64 k ∧ RowI W wr p ((List.range k).map fun (j : Nat) => lo + j)
theorem range_next (lo : Int) (k : Nat) : ((List.range (k + 1)).map fun (j : Nat) => lo + j) = ((List.range k).map fun (j : Nat) => lo + j) ++ [lo + k] := by rw [List.range_succ, List.map_append]; rfl
set_option maxHeartbeats 2000000 in
theorem given_span (p : EP) (e : Ev) (a : Ac) (v : Vr) (A : Option Addr) (n c : Nat) (w : World) (ha : a.any = true) (hf : VFit v) (hsp : spanB v = true) :
    Calls Tryz.prog 77 #[.agg #[.string a.s, .bool a.any, .slice A n c], .agg #[.string v.s, .int .i64 v.lo, .int .i64 v.hi, .int .i64 v.ini], envV p e] w (RetIntsN w (givenL e a v)) := by
  have hg : givenL e a v = (List.range ((v.hi - v.lo + 1).toNat)).map fun (k : Nat) => v.lo + k := by unfold givenL; rw [if_pos ha]
  rw [hg]
  obtain ⟨i0, hi, hz0, hz1, hz2⟩ := info_parts inf_int
  have HI := Lib.hid (And.intro hi (And.intro hz0 (And.intro hz1 hz2)))
  obtain ⟨s, any, x⟩ := a
  simp only at ha ⊢
  subst ha
  obtain ⟨vs, lo, hb, ini⟩ := v
  obtain ⟨f1, f2, f3, f4⟩ := hf
  unfold spanB at hsp
  simp only [Bool.and_eq_true, decide_eq_true_eq] at f1 f2 f3 f4 hsp ⊢
  obtain ⟨s1, s2⟩ := hsp
  obtain ⟨m, hm⟩ : ∃ m, m = (hb - lo + 1).toNat := ⟨_, rfl⟩
  rw [← hm]
  have hmI : (m : Int) = hb - lo + 1 := by omega
  have HM : Hid (m ≤ 64) := Lib.hid (by omega)
  obtain ⟨vA, vn, vc, iA, im, ic⟩ := p
  obtain ⟨vars, v0, v1, v2, v3, ins⟩ := e
  clear hg hi hz0 hz1 hz2 hm
  change Calls _ _ #[_, _, .agg #[.slice vA vn vc, .int .i64 v0, .int .i64 v1, .int .i64 v2, .int .i64 v3, .slice iA im ic]] _ _
  obtain ⟨w1, hw1⟩ : ∃ w1, ((w.alloc (.cells #[.string s, .bool true, .slice A n c] 66)).alloc (.cells #[.string vs, .int .i64 lo, .int .i64 hb, .int .i64 ini] 62)).alloc (.cells #[.slice vA vn vc, .int .i64 v0, .int .i64 v1, .int .i64 v2, .int .i64 v3, .slice iA im ic] 54) = w1 := ⟨_, rfl⟩
  obtain ⟨B1, B2, B3, hbb⟩ := three_blocks (w := w) (o := .cells #[.string s, .bool true, .slice A n c] 66) (p := .cells #[.string vs, .int .i64 lo, .int .i64 hb, .int .i64 ini] 62) (q := .cells #[.slice vA vn vc, .int .i64 v0, .int .i64 v1, .int .i64 v2, .int .i64 v3, .slice iA im ic] 54) (Below.refl _ _)
  rw [hw1] at B2 hbb
  have HW := Lib.hid hw1
  have HK := Lib.hid B2
  have HBB := Lib.hid hbb
  clear hw1 B1 B2 B3 hbb
  go_enter Tryz.func77, Tryz.ntmps77
  go_wp2_with fail
  rw [HW.out]
  go_loopw [9, 34] (fun p i wr => GivRel w1 lo m p i wr) (fun _ i _ => m - (Go.RowKit.intOf i).toNat)
  case atStart => exact ⟨0, Nat.zero_le _, rfl, RowI.nil _ _ (Below.refl _ _)⟩
  case round =>
    obtain ⟨k, hk, rfl, hrow⟩ := hrel
    have HR0 := Lib.hid hrow
    obtain ⟨c0, c1, c2, c3⟩ := cells_4 (KitC.block_on HK.out hrow.2)
    clear hrow
    by_cases hlt : k < m
    · have hltI : (k : Int) < hb - lo + 1 := by omega
      have hsum1 : -9223372036854775808 ≤ lo + k := by omega
      have hsum2 : lo + k ≤ 9223372036854775807 := by omega
      obtain ⟨z, hz⟩ : ∃ z, z = lo + (k : Int) := ⟨_, rfl⟩
      have HZ := Lib.hid hz
      have HL1 : Hid (((List.range k).map fun (j : Nat) => lo + j).length + (intV [z]).length ≤ maxLen) := Lib.hid (by have := HM.out; simp [maxLen]; omega)
      have HL2 : Hid ((((List.range k).map fun (j : Nat) => lo + j).length + (intV [z]).length) * 8 ≤ 140737488355328) := Lib.hid (by have := HM.out; simp; omega)
      have HSZ : Hid (w1.heap.size ≤ wr.heap.size) := Lib.hid HR0.out.2.size
      have HRA := Lib.hid HR0.out.1
      go_wp2_with (rw [← HZ.out]; at_builtin; refine wpList_append_rd _ rfl (.tmp 37) (.tmp 42) _ rfl w1.heap.size 3 i0 (.int .i64 0) 8 Tryz.underlying110 HI.out.1 HI.out.2.1 HI.out.2.2.1 HI.out.2.2.2 rfl _ _ _ rfl (own_keep HRA.out (KitC.below_one _ _)) _ (intV [z]) rfl (lit_here rfl rfl rfl) (intV_one _) HL1.out HL2.out ?_ ?_; (have := HSZ.out; simp; omega); intro p2 w2 hrow2 hg2 _; have HR2 := Lib.hid (RowI.add HR0.out hrow2 hg2); clear hrow2 hg2)
      go_roundw
      case rel => exact ⟨k + 1, by omega, by go_num, by rw [range_next, ← HZ.out]; exact HR2.out⟩
      case measure => simp [Go.RowKit.intOf]; omega
    · have hltI : ¬ (k : Int) < hb - lo + 1 := by omega
      obtain rfl : k = m := by omega
      go_wp2_with fail
      go_ret
      exact ⟨_, rfl, HR0.out.read, below_two' HBB.out HR0.out.2, beyond_rowI HR0.out HBB.out.size⟩
theorem given_any (p : EP) (e : Ev) (a : Ac) (v : Vr) (A : Option Addr) (n c : Nat) (w : World) (he : EnvIn w p e) (hs : SmallA a) (ht : Tms w (.slice A n c) a.x) (hf : VFit v) (h1 : a.any = false → chkE e a.x = 0) (h2 : a.any = true → spanB v = true) :
    Calls Tryz.prog 77 #[.agg #[.string a.s, .bool a.any, .slice A n c], .agg #[.string v.s, .int .i64 v.lo, .int .i64 v.hi, .int .i64 v.ini], envV p e] w (RetIntsN w (givenL e a v)) := by
  rcases h : a.any with _ | _
  · have := given_expr p e a v A n c w he hs ht h (h1 h)
    rwa [h] at this
  · have := given_span p e a v A n c w h hf (h2 h)
    rwa [h] at this
theorem givenL_length (e : Ev) (a : Ac) (v : Vr) (h2 : a.any = true → spanB v = true) : 0 < (givenL e a v).length ∧ (givenL e a v).length ≤ 64 := by
  unfold givenL
  split
  · rename_i h
    have := h2 h
    unfold spanB at this
    simp only [Bool.and_eq_true, decide_eq_true_eq] at this
    rw [List.length_map, List.length_range]
    omega
  · simp
end Go.Proofs.YtcfcpbkeedfbpaaGreatDoor

namespace Go.Proofs.YtcfcpbkeedfbpaaGreatDoor
open Go.RowKit Go.Sort TermSpec EvalSpec NamesSpec
set_option maxRecDepth 100000

end Go.Proofs.YtcfcpbkeedfbpaaGreatDoor

namespace Go.Proofs.YtcfcpbkeedfbpaaGreatDoor
open Go.RowKit TermSpec EvalSpec ActSpec NamesSpec Go.Lib
set_option maxRecDepth 100000

end Go.Proofs.YtcfcpbkeedfbpaaGreatDoor

namespace Go.Proofs.YtcfcpbkeedfbpaaGreatDoor
open Go.RowKit TermSpec EvalSpec ActSpec NamesSpec

/-- The values of an Env's box, overwritten. -/
def st4 (w : World) (E : Nat) (x : V4) : World :=
  (((w.setCell ⟨E, 1, none⟩ (.int .i64 x.a)).setCell ⟨E, 2, none⟩ (.int .i64 x.b)).setCell ⟨E, 3, none⟩ (.int .i64 x.c)).setCell ⟨E, 4, none⟩ (.int .i64 x.d)
theorem st4_block {w : World} {E : Nat} {x : V4} {T : TypeId} {q0 q1 q2 q3 q4 q5 : Value} (h : w.heap[E]? = some (.cells #[q0, q1, q2, q3, q4, q5] T (0, 0))) :
    (st4 w E x).heap[E]? = some (.cells #[q0, .int .i64 x.a, .int .i64 x.b, .int .i64 x.c, .int .i64 x.d, q5] T (0, 0)) :=
  block_setCell' (block_setCell' (block_setCell' (block_setCell' h 1 _) 2 _) 3 _) 4 _
theorem st4_but (w : World) (E : Nat) (x : V4) : w.grownBy (st4 w E x) (some E) := but_set (but_set (but_set (but_set (but_refl _ _) 1 _) 2 _) 3 _) 4 _
theorem st4_other {w : World} {E b : Nat} {x : V4} {o : Obj} (h : w.heap[b]? = some o) (hne : b ≠ E) : (st4 w E x).heap[b]? = some o :=
  ((st4_but w E x).block b (Array.getElem?_eq_some_iff.1 h).1 (by simp; omega)).trans h
theorem st4_below {w w0 : World} {E B : Nat} {x : V4} (h : Below B w0 w) (hB : B ≤ E) : Below B w0 (st4 w E x) :=
  (((h.setCell hB _).setCell hB _).setCell hB _).setCell hB _
theorem st4_size (w : World) (E : Nat) (x : V4) : (st4 w E x).heap.size = w.heap.size := by simp [st4, World.setCell]
theorem envIn_at {w : World} {p : EP} {e : Ev} (h : EnvIn w p e) (x : V4) : EnvIn w p (envAt e x) := ⟨h.vars, h.ins, h.vbd, h.ibd⟩
/-- What the loop of one act keeps. -/
structure OneMem (w0 : World) (s : ByteArray) (any : Bool) (A : Option Addr) (n c : Nat) (p : EP) (v : Vr) (vb : Nat) (wr : World) : Prop where
  below : Below w0.heap.size w0 wr
  act : wr.heap[w0.heap.size]? = some (.cells #[.string s, .bool any, .slice A n c] 66 (0, 0))
  env : ∃ y : V4, wr.heap[w0.heap.size + 1]? = some (.cells #[.slice p.vA p.vn p.vc, .int .i64 y.a, .int .i64 y.b, .int .i64 y.c, .int .i64 y.d, .slice p.iA p.im p.ic] 54 (0, 0))
  var : wr.heap[vb]? = some (.cells #[.string v.s, .int .i64 v.lo, .int .i64 v.hi, .int .i64 v.ini] 62 (0, 0))
  beyond : w0.heap.size + 1 < vb
  there : vb < wr.heap.size
section
variable {w0 : World} {s : ByteArray} {any : Bool} {A : Option Addr} {n c : Nat} {p : EP} {v : Vr} {vb : Nat} {wr : World}
theorem OneMem.on {w' : World} (h : OneMem w0 s any A n c p v vb wr) (hb : Below wr.heap.size wr w') : OneMem w0 s any A n c p v vb w' := by
  obtain ⟨h1, h2, ⟨y, h3⟩, h4, h5, h6⟩ := h
  exact ⟨below_two' h1 hb, KitC.block_on h2 hb, ⟨y, KitC.block_on h3 hb⟩, KitC.block_on h4 hb, h5, Nat.lt_of_lt_of_le h6 hb.size⟩
theorem OneMem.set (h : OneMem w0 s any A n c p v vb wr) (x : V4) : OneMem w0 s any A n c p v vb (st4 wr (w0.heap.size + 1) x) := by
  obtain ⟨h1, h2, ⟨y, h3⟩, h4, h5, h6⟩ := h
  exact ⟨st4_below h1 (by omega), st4_other h2 (by omega), ⟨x, st4_block h3⟩, st4_other h4 (by omega), h5, by rw [st4_size]; exact h6⟩
end
end Go.Proofs.YtcfcpbkeedfbpaaGreatDoor

namespace Go.Proofs.YtcfcpbkeedfbpaaGreatDoor
open Go.RowKit TermSpec EvalSpec ActSpec NamesSpec

theorem own_other {w w' : World} {base n k B : Nat} {e : TypeId} {v : Value} {xs : List Value} (h : w.ownsRow base e k v n xs) (hb : w.grownBy w' (some B)) (hne : v.ownBlock ≠ some B) : w'.ownsRow base e k v n xs := by
  refine ⟨h.1, ?_⟩
  rcases h.2 with h | ⟨g, cap, cur, h1, h2, h3, h4⟩
  · exact .inl h
  · subst h1
    exact .inr ⟨g, cap, cur, rfl, h2, (hb.block g (Array.getElem?_eq_some_iff.1 h3).1 (fun e => hne e)).trans h3, h4⟩
theorem rd_other {w w' : World} {v : Value} {xs : List Value} {ob : Option Nat} (h : Rd w v xs) (hb : w.grownBy w' ob) (hne : ∀ b off n c, v = .slice (some ⟨b, off, none⟩) n c → 0 < n → ob ≠ some b) : Rd w' v xs := by
  obtain ⟨A, n, c, rfl, hn, hc, hA⟩ := h
  refine ⟨A, n, c, rfl, hn, hc, fun h0 => ?_⟩
  obtain ⟨b, off, rfl, hlt, hcell⟩ := hA h0
  refine ⟨b, off, rfl, Nat.lt_of_lt_of_le hlt hb.size, fun j u hj => ?_⟩
  have hblk := hb.block b hlt (fun e => hne b off _ _ rfl h0 e.symm)
  have := hcell j u hj
  simp only [World.cell?] at this ⊢
  rw [hblk]
  exact this
theorem block_other {w w' : World} {b : Nat} {ob : Option Nat} {o : Obj} (h : w.heap[b]? = some o) (hb : w.grownBy w' ob) (hne : ob ≠ some b) : w'.heap[b]? = some o :=
  (hb.block b (Array.getElem?_eq_some_iff.1 h).1 (fun e => hne e.symm)).trans h
abbrev v4B (x : V4) (T : TypeId) : Obj := .cells #[.int .i64 x.a, .int .i64 x.b, .int .i64 x.c, .int .i64 x.d] T (0, 0)
theorem v4_put {w : World} {b i : Nat} {x : V4} {T : TypeId} (h : w.heap[b]? = some (v4B x T)) (hi : i < 4) (n : Int) : (w.setCell ⟨b, i, none⟩ (.int .i64 n)).heap[b]? = some (v4B (x.set i n) T) := by
  have := block_setCell' h i (.int .i64 n)
  rw [this]
  rcases (show i = 0 ∨ i = 1 ∨ i = 2 ∨ i = 3 by omega) with rfl | rfl | rfl | rfl <;> rfl
theorem set_set (x : V4) (i : Nat) (a b : Int) : (x.set i a).set i b = x.set i b := by
  unfold V4.set
  split
  · rfl
  · split
    · rfl
    · split <;> rfl
section
variable (w0 : World) (s : ByteArray) (any : Bool) (A : Option Addr) (n c : Nat) (p : EP)
/-- What the loop over the lists keeps. -/
structure DoOut (pv : Value) (xs : List V4) (wr : World) : Prop where
  below : Below w0.heap.size w0 wr
  act : wr.heap[w0.heap.size]? = some (.cells #[.string s, .bool any, .slice A n c] 66 (0, 0))
  env : ∃ y : V4, wr.heap[w0.heap.size + 1]? = some (.cells #[.slice p.vA p.vn p.vc, .int .i64 y.a, .int .i64 y.b, .int .i64 y.c, .int .i64 y.d, .slice p.iA p.im p.ic] 54 (0, 0))
  row : wr.ownsRow (w0.heap.size + 2) 51 4 pv xs.length (v4sV xs)
/-- What the loop over the numbers keeps. -/
structure DoIn (vb : Nat) (y : V4) (i : Nat) (gv : Value) (G : List Int) (pv : Value) (xs : List V4) (wr : World) : Prop extends DoOut w0 s any A n c p pv xs wr where
  beyond : w0.heap.size + 2 ≤ vb
  there : vb < wr.heap.size
  vals : ∃ z : V4, wr.heap[vb]? = some (v4B z 51) ∧ ∀ m, z.set i m = y.set i m
  rowne : pv.ownBlock ≠ some vb
  nums : Rd wr gv (intV G)
  numsne : ∀ b off n c, gv = .slice (some ⟨b, off, none⟩) n c → 0 < n → b ≠ vb ∧ pv.ownBlock ≠ some b
end
section
variable {w0 : World} {s : ByteArray} {any : Bool} {A : Option Addr} {n c : Nat} {p : EP} {pv : Value} {xs : List V4} {wr w' : World} {vb : Nat} {y : V4} {i : Nat} {gv : Value} {G : List Int}
theorem DoOut.on (h : DoOut w0 s any A n c p pv xs wr) (hb : Below wr.heap.size wr w') : DoOut w0 s any A n c p pv xs w' := by
  obtain ⟨h1, h2, ⟨y, h3⟩, h4⟩ := h
  exact ⟨below_two' h1 hb, KitC.block_on h2 hb, ⟨y, KitC.block_on h3 hb⟩, own_keep h4 hb⟩
theorem DoOut.size (h : DoOut w0 s any A n c p pv xs wr) : w0.heap.size + 2 ≤ wr.heap.size := by
  obtain ⟨y, h3⟩ := h.env
  exact (Array.getElem?_eq_some_iff.1 h3).1
theorem DoOut.set (h : DoOut w0 s any A n c p pv xs wr) (x : V4) : DoOut w0 s any A n c p pv xs (st4 wr (w0.heap.size + 1) x) := by
  obtain ⟨h1, h2, ⟨y, h3⟩, h4⟩ := h
  exact ⟨st4_below h1 (by omega), st4_other h2 (by omega), ⟨x, st4_block h3⟩, own_but h4 (st4_but wr _ x) (by omega)⟩
theorem DoIn.on (h : DoIn w0 s any A n c p vb y i gv G pv xs wr) (hb : Below wr.heap.size wr w') : DoIn w0 s any A n c p vb y i gv G pv xs w' := by
  obtain ⟨h0, h1, h2, ⟨z, h3, h4⟩, h5, h6, h7⟩ := h
  exact ⟨h0.on hb, h1, Nat.lt_of_lt_of_le h2 hb.size, ⟨z, KitC.block_on h3 hb, h4⟩, h5, h6.keep hb, h7⟩
theorem DoIn.put (h : DoIn w0 s any A n c p vb y i gv G pv xs wr) (hi : i < 4) (m : Int) :
    DoIn w0 s any A n c p vb y i gv G pv xs (wr.setCell ⟨vb, i, none⟩ (.int .i64 m)) ∧ (wr.setCell ⟨vb, i, none⟩ (.int .i64 m)).heap[vb]? = some (v4B (y.set i m) 51) := by
  obtain ⟨⟨h1, h2, ⟨y', h3⟩, h4⟩, h5, h6, ⟨z, h7, h8⟩, h9, h10, h11⟩ := h
  have hg : wr.grownBy (wr.setCell ⟨vb, i, none⟩ (.int .i64 m)) (some vb) := but_set (but_refl _ _) i _
  have hv := v4_put h7 hi m
  rw [h8 m] at hv
  exact ⟨⟨⟨h1.setCell (show w0.heap.size ≤ vb by omega) _, block_other h2 hg (by simp; omega), ⟨y', block_other h3 hg (by simp; omega)⟩, own_other h4 hg h9⟩, h5, Nat.lt_of_lt_of_le h6 hg.size, ⟨_, hv, fun k => by rw [set_set]⟩, h9, rd_other h10 hg fun b off n c he h0 e => (h11 b off n c he h0).1 (by injection e with e; exact e.symm), h11⟩, hv⟩
theorem DoIn.add {w2 : World} {pv' : Value} {x : V4} (h : DoIn w0 s any A n c p vb y i gv G pv xs wr) (hrow : w2.ownsRow (w0.heap.size + 2) 51 4 pv' (xs.length + 1) (v4sV xs ++ v4sV [x])) (hg : wr.grownBy w2 pv.ownBlock) (hob : pv'.ownBlock = pv.ownBlock ∨ pv'.ownBlock = some wr.heap.size) :
    DoIn w0 s any A n c p vb y i gv G pv' (xs ++ [x]) w2 := by
  obtain ⟨⟨h1, h2, ⟨y', h3⟩, h4⟩, h5, h6, ⟨z, h7, h8⟩, h9, h10, h11⟩ := h
  have hbd := fun j hj => (own_block_bd h4 j hj).1
  refine ⟨⟨h1.grown hg h1.size fun j hj => by have := hbd j hj; omega, block_other h2 hg (fun e => by have := hbd _ e; omega), ⟨y', block_other h3 hg (fun e => by have := hbd _ e; omega)⟩, ?_⟩, h5, Nat.lt_of_lt_of_le h6 hg.size, ⟨z, block_other h7 hg h9, h8⟩, ?_, rd_other h10 hg fun b off n c he h0 => (h11 b off n c he h0).2, fun b off n c he h0 => ⟨(h11 b off n c he h0).1, ?_⟩⟩
  · rw [← v4sV_append, List.length_append]
    exact hrow
  · rcases hob with e | e
    · rw [e]; exact h9
    · rw [e]; intro e; injection e with e; omega
  · rcases hob with e | e
    · rw [e]; exact (h11 b off n c he h0).2
    · rw [e]
      intro e
      injection e with e
      obtain ⟨A', n', c', heq, _, _, hA⟩ := h10
      rw [he] at heq
      injection heq with e1 e2 e3
      subst e1
      obtain ⟨b', off', e4, hlt, _⟩ := hA (by rw [← e2]; exact h0)
      injection e4 with e4
      injection e4 with e4
      omega
end
theorem flat_le {α : Type} {f : V4 → List α} {m : Nat} (hf : ∀ x, (f x).length ≤ m) : ∀ l : List V4, (l.flatMap f).length ≤ l.length * m
  | [] => by simp
  | x :: r => by
    have h1 := hf x
    have h2 := flat_le hf r
    rw [List.flatMap_cons, List.length_append, List.length_cons, Nat.add_mul]
    omega
theorem flat_pos {α : Type} {f : V4 → List α} (hf : ∀ x, 0 < (f x).length) {l : List V4} (h : 0 < l.length) : 0 < (l.flatMap f).length := by
  cases l with
  | nil => simp at h
  | cons x r =>
    have := hf x
    rw [List.flatMap_cons, List.length_append]
    omega
end Go.Proofs.YtcfcpbkeedfbpaaGreatDoor

namespace Go.Proofs.YtcfcpbkeedfbpaaGreatDoor
open Go.RowKit Go.Sort TermSpec EvalSpec ActSpec
set_option maxRecDepth 100000

theorem nan_int (x : Int) (w : World) : Calls Tryz.prog 152 #[.int .i64 x] w fun e w' => e = .returned (.bool false) ∧ w' = w := by
  go_enter Tryz.func152, Tryz.ntmps152
  go_wp2
  go_ret
  exact ⟨by simp, rfl⟩
set_option maxHeartbeats 1000000 in
theorem cmp_int (x y : Int) (w : World) : Calls Tryz.prog 120 #[.int .i64 x, .int .i64 y] w fun e w' => e = .returned (.int .i64 (Lib.compareInt x y)) ∧ w' = w := by
  go_enter Tryz.func120, Tryz.ntmps120
  go_wp2_with (go_at_call 152; refine (nan_int _ _).mono ?_; rintro e w' ⟨rfl, hw⟩; rw [hw])
  all_goals (go_ret; refine ⟨?_, rfl⟩; unfold Lib.compareInt; (repeat' split) <;> first | rfl | (exfalso; omega))
/-- What the comparison of two lists of values tells. -/
def cmpV (x y : V4) : Int := if x.a ≠ y.a then Lib.compareInt x.a y.a else if x.b ≠ y.b then Lib.compareInt x.b y.b else if x.c ≠ y.c then Lib.compareInt x.c y.c else if x.d ≠ y.d then Lib.compareInt x.d y.d else 0
theorem compareInt_neg (x y : Int) : decide (Lib.compareInt x y < 0) = decide (x < y) := by
  unfold Lib.compareInt
  split
  · simp [*]
  · split <;> simp [*]
theorem compareInt_zero {x y : Int} : Lib.compareInt x y = 0 ↔ x = y := by
  unfold Lib.compareInt
  split
  · constructor
    · intro h; cases h
    · intro h; omega
  · split
    · constructor
      · intro h; cases h
      · intro h; omega
    · constructor
      · intro _; omega
      · intro _; rfl
theorem cmpV_less (x y : V4) : decide (cmpV x y < 0) = lessV x y := by
  unfold cmpV lessV
  split
  · exact compareInt_neg _ _
  · split
    · exact compareInt_neg _ _
    · split
      · exact compareInt_neg _ _
      · split
        · exact compareInt_neg _ _
        · rename_i h
          have : x.d = y.d := Decidable.not_not.1 h
          rw [this]; simp
theorem cmpV_at {x y : V4} {k : Nat} (hk : k < 4) (h : ∀ j, j < k → x.get j = y.get j) (hne : x.get k ≠ y.get k) : cmpV x y = Lib.compareInt (x.get k) (y.get k) := by
  unfold cmpV
  rcases (show k = 0 ∨ k = 1 ∨ k = 2 ∨ k = 3 by omega) with rfl | rfl | rfl | rfl
  · rw [if_pos (show x.a ≠ y.a from hne)]; rfl
  · rw [if_neg (by have : x.a = y.a := h 0 (by omega); simp [this]), if_pos (show x.b ≠ y.b from hne)]; rfl
  · rw [if_neg (by have : x.a = y.a := h 0 (by omega); simp [this]), if_neg (by have : x.b = y.b := h 1 (by omega); simp [this]), if_pos (show x.c ≠ y.c from hne)]; rfl
  · rw [if_neg (by have : x.a = y.a := h 0 (by omega); simp [this]), if_neg (by have : x.b = y.b := h 1 (by omega); simp [this]), if_neg (by have : x.c = y.c := h 2 (by omega); simp [this]), if_pos (show x.d ≠ y.d from hne)]; rfl
theorem cmpV_same {x y : V4} (h : ∀ j, j < 4 → x.get j = y.get j) : cmpV x y = 0 := by
  unfold cmpV
  rw [if_neg (by have : x.a = y.a := h 0 (by omega); simp [this]), if_neg (by have : x.b = y.b := h 1 (by omega); simp [this]), if_neg (by have : x.c = y.c := h 2 (by omega); simp [this]), if_neg (by have : x.d = y.d := h 3 (by omega); simp [this])]

def CmpRel (x y : V4) (i : Value) : Prop := ∃ k : Nat, k ≤ 4 ∧ i = .int .i64 k ∧ (∀ j, j < k → x.get j = y.get j)
set_option maxHeartbeats 1000000 in
theorem scompare_any (x y : V4) (b1 b2 c1 c2 : Nat) (T1 T2 : TypeId) (w : World) (h1 : w.heap[b1]? = some (.cells #[.int .i64 x.a, .int .i64 x.b, .int .i64 x.c, .int .i64 x.d] T1 (0, 0))) (h2 : w.heap[b2]? = some (.cells #[.int .i64 y.a, .int .i64 y.b, .int .i64 y.c, .int .i64 y.d] T2 (0, 0))) (_hc1 : 4 ≤ c1) (_hc2 : 4 ≤ c2) :
    Calls Tryz.prog 85 #[.slice (some ⟨b1, 0, none⟩) 4 c1, .slice (some ⟨b2, 0, none⟩) 4 c2] w fun e w' => e = .returned (.int .i64 (cmpV x y)) ∧ w' = w := by
  have H1 := Lib.hid h1
  have H2 := Lib.hid h2
  obtain ⟨r, hr⟩ : ∃ r, r = cmpV x y := ⟨_, rfl⟩
  rw [← hr]
  have HR := Lib.hid hr
  clear h1 h2 hr
  go_enter Tryz.func85, Tryz.ntmps85
  go_wp2_with fail
  go_loop [11] (fun i => CmpRel x y i) (fun i => 4 - (intOf i).toNat)
  case atStart => exact ⟨0, Nat.zero_le _, rfl, by simp⟩
  case round =>
    obtain ⟨k, hk, rfl, hsame⟩ := hrel
    have HSAME := Lib.hid hsame
    by_cases hlt : k < 4
    · have d1 := v4_cell H1.out hlt
      have d2 := v4_cell H2.out hlt
      rw [Nat.zero_add] at d1 d2
      obtain ⟨p, hp⟩ : ∃ p, p = x.get k := ⟨_, rfl⟩
      obtain ⟨q, hq⟩ : ∃ q, q = y.get k := ⟨_, rfl⟩
      rw [← hp] at d1
      rw [← hq] at d2
      have HP := Lib.hid hp
      have HQ := Lib.hid hq
      have hkI : (k : Int) < 4 := by omega
      obtain ⟨z, hz⟩ : ∃ z, z = Lib.compareInt p q := ⟨_, rfl⟩
      have HC := Lib.hid (fun w => cmp_int p q w)
      rw [← hz] at HC
      have HZ := Lib.hid hz
      clear hp hq hsame hz
      by_cases hz0 : z = 0
      · have g : (z != 0) = false := by simp [hz0]
        have HE : Hid (p = q) := Lib.hid (compareInt_zero.1 (by rw [← HZ.out]; exact hz0))
        clear hz0
        go_wp2_with (go_at_call 120; refine (HC.out _).mono ?_; rintro e w' ⟨rfl, hw⟩; rw [hw])
        go_round
        case rel =>
          refine ⟨k + 1, by omega, by go_num, fun j hj => ?_⟩
          rcases Nat.lt_or_ge j k with h | h
          · exact HSAME.out j h
          · rw [show j = k by omega, ← HP.out, ← HQ.out]; exact HE.out
        case measure => simp [intOf]; omega
      · have g : (z != 0) = true := by simp [hz0]
        have HL : Hid (r = z) := Lib.hid (by
          rw [HR.out, HZ.out, HP.out, HQ.out]
          refine cmpV_at hlt HSAME.out fun h => hz0 ?_
          rw [HZ.out, HP.out, HQ.out]
          exact compareInt_zero.2 h)
        clear hz0
        go_wp2_with (go_at_call 120; refine (HC.out _).mono ?_; rintro e w' ⟨rfl, hw⟩; rw [hw])
        go_ret
        exact ⟨ret_int HL.out.symm, rfl⟩
    · have HL : Hid (r = 0) := Lib.hid (by rw [HR.out]; exact cmpV_same fun j hj => HSAME.out j (by omega))
      have hkI : ¬ (k : Int) < 4 := by omega
      clear hsame
      go_wp2_with fail
      go_ret
      exact ⟨ret_int HL.out.symm, rfl⟩
abbrev v4O (x : V4) : Obj := .cells #[.int .i64 x.a, .int .i64 x.b, .int .i64 x.c, .int .i64 x.d] 51
theorem slice_arr4 (B : Nat) (W : World) : (Instr.sliceAt 51 (.pointer (some ⟨B, 0, none⟩)) none none none).run Tryz.prog W = .ok (.slice (some ⟨B, 0, none⟩) 4 4) W := by
  have hal : Tryz.prog.arrayLen 51 = 4 := by simp [Program.arrayLen, Tryz.underlying51]
  rw [run_sliceAt_array_all W 51 ⟨B, 0, none⟩ (by simp [Program.arrayLen, Program.elem, Tryz.underlying51]), hal, show Tryz.prog.elem 51 = 3 by kernel_rfl, Tryz.sizeOf3]
  simp [slicedAt, Result.andThen, Addr.add]
set_option maxHeartbeats 1000000 in
theorem vcompare_any (x y : V4) (w : World) : Calls Tryz.prog 46 #[v4A x, v4A y] w fun e w' => e = .returned (.int .i64 (cmpV x y)) ∧ ∃ q, w' = ((w.alloc (v4O x)).alloc (v4O y)).drewN q := by
  have B : Hid (∀ q, ((((w.alloc (v4O x)).alloc (v4O y)).drewN q).heap[w.heap.size]? = some (.cells #[.int .i64 x.a, .int .i64 x.b, .int .i64 x.c, .int .i64 x.d] 51 (0, 0))) ∧ ((((w.alloc (v4O x)).alloc (v4O y)).drewN q).heap[w.heap.size + 1]? = some (.cells #[.int .i64 y.a, .int .i64 y.b, .int .i64 y.c, .int .i64 y.d] 51 (0, 0)))) := Lib.hid (fun q => by
    obtain ⟨b1, b2, _, _⟩ := KitC.pair_blocks (Below.refl ((w.alloc (v4O x)).alloc (v4O y)).heap.size ((w.alloc (v4O x)).alloc (v4O y)))
    exact ⟨b1, b2⟩)
  have HC := Lib.hid (fun q => scompare_any x y w.heap.size (w.heap.size + 1) 4 4 _ _ _ (B.out q).1 (B.out q).2 (Nat.le_refl _) (Nat.le_refl _))
  have hs1 := slice_arr4 w.heap.size
  have hs2 := slice_arr4 (w.heap.size + 1)
  obtain ⟨r, hr⟩ : ∃ r, r = cmpV x y := ⟨_, rfl⟩
  rw [← hr] at HC ⊢
  clear hr B
  obtain ⟨x0, x1, x2, x3⟩ := x
  obtain ⟨y0, y1, y2, y3⟩ := y
  go_enter Tryz.func46, Tryz.ntmps46
  go_wp2_with fail
  go_quiet ((go_at_call 85; exact Calls.quiet_of_same (HC.out _)))
  go_wp2_with fail
  go_ret
  exact ⟨rfl, _, rfl⟩
theorem compare_grown (x y : V4) (w : World) : Calls Tryz.prog 46 #[v4A x, v4A y] w fun e w' => e = .returned (.int .i64 (cmpV x y)) ∧ ∃ q os, w' = grow (w.drewN q) os :=
  (vcompare_any x y w).mono fun _ _ ⟨h, q, hw⟩ => ⟨h, q, #[v4O x, v4O y], by rw [hw, alloc_eq_grow, alloc_eq_grow, grow_grow]; rfl⟩
set_option maxHeartbeats 1000000 in
theorem less_any (x y : V4) (w : World) : Calls Tryz.prog 26 #[v4A x, v4A y] w (RetB w (lessV x y)) := by
  have HC := Lib.hid (fun w => vcompare_any x y w)
  have HL := Lib.hid (cmpV_less x y)
  obtain ⟨r, hr⟩ : ∃ r, r = cmpV x y := ⟨_, rfl⟩
  rw [← hr] at HC HL
  obtain ⟨l, hl⟩ : ∃ l, l = lessV x y := ⟨_, rfl⟩
  rw [← hl] at HL ⊢
  clear hr hl
  have HB := Lib.hid (KitC.below_pair w (v4O x) (v4O y))
  obtain ⟨x0, x1, x2, x3⟩ := x
  obtain ⟨y0, y1, y2, y3⟩ := y
  go_enter Tryz.func26, Tryz.ntmps26
  go_wp2_with (go_at_call 46; (with_reducible refine (HC.out _).mono ?_))
  rintro e2 w2 ⟨rfl, q, hw⟩
  have HB2 := Lib.hid (below_two' HB.out (below_drewN (KitC.below_pair ((w.alloc (v4O ⟨x0, x1, x2, x3⟩)).alloc (v4O ⟨y0, y1, y2, y3⟩)) (v4O ⟨x0, x1, x2, x3⟩) (v4O ⟨y0, y1, y2, y3⟩)) q))
  rw [← hw] at HB2
  clear hw
  go_wp2_with fail
  go_ret
  exact ⟨ret_bool HL.out, HB2.out⟩
end Go.Proofs.YtcfcpbkeedfbpaaGreatDoor

namespace Go.Proofs.YtcfcpbkeedfbpaaGreatDoor
namespace ActSpec
open TermSpec EvalSpec Go.Lib

instance inhV4 : Inhabited V4 := ⟨⟨0, 0, 0, 0⟩⟩
/-- In order, some perhaps more than once. -/
def Slow (l : List V4) : Prop := l.Pairwise fun x y => lessV y x = false
theorem lessV_not (x y : V4) : lessV x y = false ↔ ¬ (x.a < y.a ∨ (x.a = y.a ∧ (x.b < y.b ∨ (x.b = y.b ∧ (x.c < y.c ∨ (x.c = y.c ∧ x.d < y.d)))))) := by
  rw [← lessV_iff]; simp
theorem lessV_ntrans {x y z : V4} (h : lessV x y = false) (h' : lessV y z = false) : lessV x z = false := by
  rw [lessV_not] at *
  omega
theorem lessV_le_lt {x y z : V4} (h : lessV y x = false) (h' : lessV y z = true) : lessV x z = true := by
  rw [lessV_not] at h
  rw [lessV_iff] at *
  omega
theorem nextV {l : List V4} {k : Nat} {x : V4} (h : l[k]? = some x) : l.take (k + 1) = l.take k ++ [x] := by
  rw [List.take_add_one, h]; rfl
theorem compactV_upto (d : Array V4) (hs : Slow d.toList) : ∀ m, m ≤ d.size →
    Up (compactUpTo d m) ∧ (∀ x, x ∈ compactUpTo d m ↔ x ∈ d.toList.take m) ∧ (0 < m → d[m - 1]! ∈ compactUpTo d m) := by
  have hget : ∀ i, i < d.size → d.toList[i]? = some d[i]! := fun i hi => by
    rw [List.getElem?_eq_getElem (by simpa using hi), getElem!_pos d i hi]; rfl
  have hle : ∀ i j, i < j → j < d.size → lessV d[j]! d[i]! = false := fun i j hij hj => by
    have := List.pairwise_iff_getElem.1 hs i j (by simp; omega) (by simpa using hj) hij
    rw [getElem!_pos d i (by omega), getElem!_pos d j hj]
    simpa using this
  intro m
  induction m with
  | zero => intro _; exact ⟨List.Pairwise.nil, by simp [compactUpTo], fun h => absurd h (by omega)⟩
  | succ m ih =>
    intro hm
    obtain ⟨h1, h2, h3⟩ := ih (by omega)
    have htake : d.toList.take (m + 1) = d.toList.take m ++ [d[m]!] := nextV (hget m (by omega))
    rw [compactUpTo_succ, htake]
    by_cases hk : keeps d m = true
    · rw [if_pos hk]
      refine ⟨?_, ?_, fun _ => by simp⟩
      · unfold Up
        rw [List.pairwise_append]
        refine ⟨h1, by simp, fun x hx y hy => ?_⟩
        rw [List.mem_singleton] at hy
        subst hy
        obtain ⟨i, hi⟩ := List.mem_iff_getElem?.1 ((h2 x).1 hx)
        have hil : i < m := by
          have := (List.getElem?_eq_some_iff.1 hi).1
          rw [List.length_take] at this
          omega
        rw [List.getElem?_take_of_lt hil, hget i (by omega)] at hi
        injection hi with hi
        subst hi
        have hne : d[m]! ≠ d[m - 1]! ∧ m ≠ 0 := by
          unfold keeps at hk
          have hk := of_decide_eq_true hk
          rcases hk with hk | hk
          · omega
          · exact ⟨hk, by omega⟩
        have hlt : lessV d[m - 1]! d[m]! = true := by
          rcases lessV_tri hne.1 with h | h
          · rw [hle (m - 1) m (by omega) (by omega)] at h
            cases h
          · exact h
        rcases Nat.lt_or_ge i (m - 1) with hc | hc
        · exact lessV_le_lt (hle i (m - 1) hc (by omega)) hlt
        · obtain rfl : i = m - 1 := by omega
          exact hlt
      · intro x
        simp only [List.mem_append, h2 x]
    · rw [if_neg hk, List.append_nil]
      have hm0 : m ≠ 0 := by
        rintro rfl
        exact hk (by simp [keeps])
      have he : d[m]! = d[m - 1]! := by
        unfold keeps at hk
        simp only [decide_eq_true_eq] at hk
        by_cases e : d[m]! = d[m - 1]!
        · exact e
        · exact absurd (.inr e) hk
      refine ⟨h1, fun x => ?_, fun _ => ?_⟩
      · rw [h2 x, List.mem_append, List.mem_singleton]
        constructor
        · exact .inl
        · rintro (hx | hx)
          · exact hx
          · rw [hx, he]; exact (h2 _).1 (h3 (by omega))
      · rw [Nat.add_sub_cancel, he]; exact h3 (by omega)
theorem compactV_up {ys : List V4} (hs : Slow ys) : Up (compact ys) ∧ ∀ x, x ∈ compact ys ↔ x ∈ ys := by
  obtain ⟨h1, h2, _⟩ := compactV_upto ys.toArray hs ys.length (by simp)
  refine ⟨h1, fun x => (h2 x).trans ?_⟩
  rw [List.take_of_length_le (by simp)]
/-- Sorted and compacted: put where they stand, one behind the other. -/
theorem compactV_all {xs ys : List V4} (hp : ys.Perm xs) (hs : Slow ys) : compact ys = allV [] xs :=
  up_eq (compactV_up hs).1 (allV_up List.Pairwise.nil) fun x => by rw [(compactV_up hs).2, hp.mem_iff, allV_mem]; simp
theorem allV_some {xs : List V4} (h : xs ≠ []) : allV [] xs ≠ [] := by
  cases xs with
  | nil => exact absurd rfl h
  | cons x r =>
    intro he
    have : x ∈ allV [] (x :: r) := allV_mem.2 (.inr (by simp))
    rw [he] at this
    cases this
end ActSpec
end Go.Proofs.YtcfcpbkeedfbpaaGreatDoor

namespace Go.Proofs.YtcfcpbkeedfbpaaGreatDoor
open Go.RowKit Go.Sort TermSpec EvalSpec ActSpec
set_option maxRecDepth 100000

section
variable {w : World} {g n : Nat} {os : Array Obj} {cur : Array Value} {e : TypeId} {fr : Nat × Nat}
theorem heap_sortedV (F : Array Value) (hb : w.heap[g]? = some (.cells cur e fr)) : (grow (putRow id (Sort.ahead w n) g 0 F) os).heap[g]? = some (.cells (putCells id 0 F cur) e fr) := by
  have hg : g < w.heap.size := (Array.getElem?_eq_some_iff.1 hb).1
  rw [heap_grow_old _ _ (by simpa using hg)]
  simp [putRow, mapBlock, Sort.ahead, Array.getElem?_modify, hb, onCells]
theorem grownBy_sortedV (F : Array Value) : w.grownBy (grow (putRow id (Sort.ahead w n) g 0 F) os) (some g) := by
  refine ⟨rfl, rfl, rfl, by simp, fun k hk hne => ?_⟩
  rw [heap_grow_old _ _ (by simpa using hk)]
  have : g ≠ k := fun e => hne (by rw [e])
  simp [putRow, mapBlock, Sort.ahead, Array.getElem?_modify, this]
theorem take_putCellsV (cur : Array Value) (ts : List Value) (h : ts.length ≤ cur.size) : (putCells id 0 ts.toArray cur).toList.take ts.length = ts := by
  apply List.ext_getElem?
  intro j
  by_cases hj : j < ts.length
  · rw [List.getElem?_take_of_lt hj, Array.getElem?_toList]
    simp [putCells, hj, show j < cur.size by omega]
  · rw [List.getElem?_take_eq_none (by omega), List.getElem?_eq_none (by omega)]
theorem flatK_v4 (l : List V4) : flatK v4V 4 l.toArray = (v4sV l).toArray := by
  refine ext_get! (by simp [v4sV_length]) fun t ht => ?_
  have ht' : t < l.length * 4 := by simpa using ht
  rw [get_flatK _ _ _ _ (by simpa using ht')]
  have hd : t / 4 < l.length := by omega
  have h1 : l[t / 4]? = some l[t / 4] := List.getElem?_eq_getElem hd
  have h2 := flat_get (f := v4V) (j := t % 4) v4V_length h1 (by omega)
  rw [show t / 4 * 4 + t % 4 = t by omega] at h2
  have h3 : (v4sV l)[t]? = (v4V l[t / 4])[t % 4]? := h2
  rw [show l.toArray[t / 4]! = l[t / 4] by simp [hd]]
  have h4 : t % 4 < (v4V l[t / 4]).length := by rw [v4V_length]; omega
  rw [List.getElem?_eq_getElem h4] at h3
  have h5 : t < (v4sV l).length := by rw [v4sV_length]; omega
  rw [getElem!_pos (v4V l[t / 4]) (t % 4) h4, getElem!_pos (v4sV l).toArray t (by simpa using h5)]
  rw [List.getElem?_eq_getElem h5] at h3
  injection h3 with h3
  simp [h3]
theorem holdsK_v4 {l : List V4} (hb : w.heap[g]? = some (.cells cur e (0, 0))) (ht : cur.toList.take (l.length * 4) = v4sV l) : HoldsK v4V 4 w g 0 l.toArray := by
  unfold HoldsK
  rw [flatK_v4]
  intro j hj
  have hj' : j < (v4sV l).length := by simpa using hj
  refine ⟨?_, by simp [World.frozen?, hb]⟩
  have h1 : (cur.toList.take (l.length * 4))[j]? = (v4sV l)[j]? := by rw [ht]
  rw [List.getElem?_take_of_lt (by rw [v4sV_length] at hj'; exact hj')] at h1
  simp only [World.cell?, hb, Nat.zero_add]
  simp only [Option.isSome_none, Bool.false_eq_true, if_false]
  rw [← Array.getElem?_toList, h1]
  simp [hj']
end
theorem rowV_parts {W w : World} {p : Value} {xs : List V4} (h : RowV W w p xs) (h0 : 0 < xs.length) :
    ∃ g cap cur, p = .slice (some ⟨g, 0, none⟩) xs.length cap ∧ W.heap.size ≤ g ∧ w.heap[g]? = some (.cells cur 51 (0, 0)) ∧ xs.length ≤ cap ∧ cap ≤ maxLen ∧ cur.size = cap * 4 ∧ cur.toList.take (xs.length * 4) = v4sV xs := by
  obtain ⟨⟨hl, hv⟩, _⟩ := h
  rcases hv with ⟨_, he⟩ | ⟨g, cap, cur, rfl, hb, hh, h1, h2, h3, h4⟩
  · omega
  · exact ⟨g, cap, cur, rfl, hb, hh, h1, h2, h3, h4⟩
theorem rowV_of {W w w' : World} {g cap : Nat} {xs ys : List V4} {F : Array Value} {n : Nat} {os : Array Obj} {cur : Array Value} (h : Below W.heap.size W w) (hF : F = (v4sV ys).toArray) (hl : ys.length = xs.length) (hg : W.heap.size ≤ g) (hb : w.heap[g]? = some (.cells cur 51 (0, 0))) (h1 : xs.length ≤ cap) (h2 : cap ≤ maxLen) (h3 : cur.size = cap * 4)
    (hw : w' = grow (putRow id (Sort.ahead w n) g 0 F) os) : RowV W w' (.slice (some ⟨g, 0, none⟩) ys.length cap) ys := by
  subst hw
  subst hF
  refine ⟨⟨by rw [v4sV_length], .inr ⟨g, cap, _, rfl, hg, heap_sortedV _ hb, by omega, h2, by simp [putCells, h3], ?_⟩⟩, h.grown (grownBy_sortedV _) h.size fun j hj => by injection hj with hj; omega⟩
  rw [← v4sV_length]
  exact take_putCellsV cur _ (by rw [v4sV_length]; omega)
theorem ltOf_v4 : ltOf cmpV = lessV := by
  funext x y
  exact cmpV_less x y
theorem swo_v4 : SWO (ltOf cmpV) where
  irrefl x := by rw [ltOf_v4]; exact lessV_irr x
  trans x y z h1 h2 := by rw [ltOf_v4] at *; exact lessV_trans h1 h2
  ntrans x y z h1 h2 := by rw [ltOf_v4] at *; exact lessV_ntrans h1 h2
def SortV4Post (W : World) (g cap : Nat) (xs : List V4) (e : Ending) (w' : World) : Prop :=
  e = .returned (.tuple #[]) ∧ ∃ ys, ys.Perm xs ∧ Slow ys ∧ ys.length = xs.length ∧ RowV W w' (.slice (some ⟨g, 0, none⟩) ys.length cap) ys
theorem sort_rowV {W w : World} {g cap : Nat} {xs : List V4} (h : RowV W w (.slice (some ⟨g, 0, none⟩) xs.length cap) xs) (h0 : 0 < xs.length) (h62 : xs.length < 4611686018427387904) :
    Calls Tryz.prog 78 #[.slice (some ⟨g, 0, none⟩) xs.length cap, .func (.func 46) #[] #[]] w (SortV4Post W g cap xs) := by
  obtain ⟨g', cap', cur, heq, hg, hb, h1, h2, h3, h4⟩ := rowV_parts h h0
  injection heq with e1 e2 e3
  injection e1 with e1
  injection e1 with e1
  subst e1; subst e3
  have eg : ∀ args w, (callFunc 46 args).run Tryz.prog w = .ok (.enter 46 args) w := enters_of Tryz.func46 (by kernel_rfl) rfl
  have hcon := Tryz.zslices_SortFunc 4 Tryz.isAgg51 Tryz.sizeOf51 v4V v4V_length v4V_one cmpV swo_v4 46 #[] g 0 cap xs.toArray w eg (fun _ _ _ _ x y => compare_grown x y _) (holdsK_v4 hb h4) (Array.getElem?_eq_some_iff.1 hb).1 (by simpa using h62)
  rw [List.size_toArray] at hcon
  refine hcon.mono ?_
  rintro e w' ⟨he, d', n, os, ⟨hps, _, hp⟩, hs, hw⟩
  have hsz : d'.size = xs.length := by rw [hps]; simp
  refine ⟨he, d'.toList, ?_, ?_, by simpa using hsz, ?_⟩
  · have e1 : d'.extract 0 xs.length = d' := by rw [← hsz]; simp
    have e2 : xs.toArray.extract 0 xs.length = xs.toArray := by simp
    rw [e1, e2] at hp
    simpa using hp
  · refine List.pairwise_iff_getElem.2 fun i j hi hj hij => ?_
    have := hs i j (Nat.zero_le _) hij (by simpa [hsz] using hj)
    rw [ltOf_v4] at this
    rw [getElem!_pos d' i (by simpa using hi), getElem!_pos d' j (by simpa using hj)] at this
    simpa using this
  · refine rowV_of h.2 (ys := d'.toList) (F := flatK v4V 4 d') ?_ (by simpa using hsz) hg hb h1 h2 h3 hw
    have := flatK_v4 d'.toList
    rwa [Array.toArray_toList] at this
end Go.Proofs.YtcfcpbkeedfbpaaGreatDoor

namespace Go.Proofs.YtcfcpbkeedfbpaaGreatDoor
open Go.RowKit Go.Sort TermSpec EvalSpec ActSpec
set_option maxRecDepth 100000

section
open Go.Lib
theorem run_clear_v4 (w : World) (ty : TypeId) (b o n c : Nat) (hn : 0 < n)
    (hc : ∀ j, j < n * 4 → (w.cell? ⟨b, o + j, none⟩).isSome = true) (hf : ∀ j, j < n * 4 → w.frozen? ⟨b, o + j, none⟩ = false) :
    (Builtin.clear_ #[56] ty #[.slice (some ⟨b, o, none⟩) n c]).run Tryz.prog w = .ok (.tuple #[]) (w.setCells b o (List.replicate (n * 4) (.int .i64 0))) := by
  have hzc : (Builtin.zeroCells (Value.agg #[.int .i64 0, .int .i64 0, .int .i64 0, .int .i64 0]).cells n).toList = List.replicate (n * 4) (.int .i64 0) := by
    apply List.ext_getElem
    · simp [Builtin.zeroCells, Value.cells]
    · intro i h1 h2
      have h3 : i % 4 = 0 ∨ i % 4 = 1 ∨ i % 4 = 2 ∨ i % 4 = 3 := by omega
      rcases h3 with h | h | h | h <;> simp [Builtin.zeroCells, Value.cells, h]
  have hst := run_storeCells_cells (P := Tryz.prog) b o (List.replicate (n * 4) (.int .i64 0)) 0 w (by simpa using hc) (by simpa using hf) (by intro v hv'; rw [List.eq_of_mem_replicate hv']; rfl)
  simp only [Nat.add_zero] at hst
  obtain ⟨m, rfl⟩ : ∃ m, n = m + 1 := ⟨n - 1, by omega⟩
  simp [Builtin.clear_, run_underlying Tryz.underlying56, Tryz.zeroValue51, hzc, hst]
end
theorem v4_rest (g n cap k : Nat) (h1 : k ≤ n) (h2 : k < cap) (W : World) : (Instr.slice 56 (.slice (some ⟨g, 0, none⟩) n cap) (some (.int .i64 (k : Int))) none none).run Tryz.prog W = .ok (.slice (some ⟨g, k * 4, none⟩) (n - k) (cap - k)) W := by
  rw [run_slice_l (P := Tryz.prog) W 56 _ n cap (by rw [elem_v4s]; exact Tryz.underlying56) .i64 (k : Int) (by omega) (by omega), elem_v4s, Tryz.sizeOf51]
  simp [sliced, Result.andThen, Addr.add, show ¬ cap = k by omega]
  omega
theorem v4_head (g n cap k : Nat) (h1 : k ≤ cap) (W : World) : (Instr.slice 56 (.slice (some ⟨g, 0, none⟩) n cap) none (some (.int .i64 (k : Int))) none).run Tryz.prog W = .ok (.slice (some ⟨g, 0, none⟩) k cap) W := by
  rw [run_slice_h (P := Tryz.prog) W 56 _ n cap (by rw [elem_v4s]; exact Tryz.underlying56) .i64 (k : Int) (by omega) (by omega), elem_v4s, Tryz.sizeOf51]
  simp [sliced, Result.andThen, Addr.add]
/-- The row as it was, draws aside, but for its cells, which hold these. -/
def CW (w wr : World) (g : Nat) (dk : Array V4) : Prop := ∃ q, wr = putRowK v4V 4 (Sort.ahead w q) g 0 dk
section
variable {w wr : World} {g i : Nat} {d dk : Array V4}
theorem CW.drewN (h : CW w wr g dk) (m : Nat) : CW w (wr.drewN m) g dk := by
  obtain ⟨q, rfl⟩ := h
  exact ⟨q + m, putRowK_drewN v4V 4 w q m g 0 dk⟩
theorem CW.start (h : HoldsK v4V 4 w g 0 d) (q : Nat) : CW w (w.drewN q) g d := ⟨q, (putRowK_self v4V 4 (Sort.ahead w q) g 0 d (holdsK_ahead v4V 4 w q g 0 d h)).symm⟩
theorem CW.holds (h : CW w wr g dk) (h0 : HoldsK v4V 4 w g 0 d) (hs : dk.size = d.size) : HoldsK v4V 4 wr g 0 dk := by
  obtain ⟨q, rfl⟩ := h
  exact holdsK_putRowK v4V 4 _ g 0 d dk (holdsK_ahead v4V 4 w q g 0 d h0) hs
theorem CW.grown (h : CW w wr g dk) : w.grownBy wr (some g) := by
  obtain ⟨q, rfl⟩ := h
  have := grownBy_sortedV (w := w) (g := g) (n := q) (os := #[]) (flatK v4V 4 dk)
  rwa [grow_empty] at this
theorem holds_cells (h : HoldsK v4V 4 w g 0 d) (hi : i < d.size) :
    w.cell? ⟨g, i * 4, none⟩ = some (.int .i64 d[i]!.a) ∧ w.cell? ⟨g, i * 4 + 1, none⟩ = some (.int .i64 d[i]!.b) ∧ w.cell? ⟨g, i * 4 + 2, none⟩ = some (.int .i64 d[i]!.c) ∧ w.cell? ⟨g, i * 4 + 3, none⟩ = some (.int .i64 d[i]!.d) := by
  have h0 := (h.cell hi (show 0 < 4 by omega)).1
  have h1 := (h.cell hi (show 1 < 4 by omega)).1
  have h2 := (h.cell hi (show 2 < 4 by omega)).1
  have h3 := (h.cell hi (show 3 < 4 by omega)).1
  rw [Nat.zero_add] at h0 h1 h2 h3
  exact ⟨h0, h1, h2, h3⟩
theorem holds_free (h : HoldsK v4V 4 w g 0 d) (hi : i < d.size) :
    w.frozen? ⟨g, i * 4, none⟩ = false ∧ w.frozen? ⟨g, i * 4 + 1, none⟩ = false ∧ w.frozen? ⟨g, i * 4 + 2, none⟩ = false ∧ w.frozen? ⟨g, i * 4 + 3, none⟩ = false := by
  have h0 := (h.cell hi (show 0 < 4 by omega)).2
  have h1 := (h.cell hi (show 1 < 4 by omega)).2
  have h2 := (h.cell hi (show 2 < 4 by omega)).2
  have h3 := (h.cell hi (show 3 < 4 by omega)).2
  rw [Nat.zero_add] at h0 h1 h2 h3
  exact ⟨h0, h1, h2, h3⟩
theorem setMany_v4 (hi : i < dk.size) (u : V4) : setMany (flatK v4V 4 dk) (i * 4) (v4V u) = flatK v4V 4 (dk.setIfInBounds i u) := by
  refine ext_get! (by simp) fun t ht => ?_
  have ht' : t < dk.size * 4 := by simpa using ht
  rw [get_setMany _ _ _ t (by simpa using ht'), get_flatK _ _ _ t ht', get_flatK _ _ _ t (by simpa using ht'), v4V_length]
  by_cases h : t / 4 = i
  · rw [if_pos (by omega), h, getElem!_set_same dk i u hi, show t - i * 4 = t % 4 by omega]
  · rw [if_neg (by omega), getElem!_set_other dk i (t / 4) u h]
theorem CW.put (h : CW w wr g dk) (hi : i < dk.size) (u : V4) :
    CW w ((((wr.setCell ⟨g, i * 4, none⟩ (.int .i64 u.a)).setCell ⟨g, i * 4 + 1, none⟩ (.int .i64 u.b)).setCell ⟨g, i * 4 + 2, none⟩ (.int .i64 u.c)).setCell ⟨g, i * 4 + 3, none⟩ (.int .i64 u.d)) g (dk.setIfInBounds i u) := by
  obtain ⟨q, rfl⟩ := h
  refine ⟨q, ?_⟩
  have h1 := setCells_putRow (Sort.ahead w q) g 0 (v4V u) (i * 4) (flatK v4V 4 dk) (by rw [v4V_length, size_flatK]; omega)
  rw [setMany_v4 hi] at h1
  rw [Nat.zero_add] at h1
  exact h1
end
theorem keep_clear (w : World) (b : Nat) : ∀ (vs : List Value) (o : Nat), w.grownBy (w.setCells b o vs) (some b) ∧ ∀ j, j < o → (w.setCells b o vs).cell? ⟨b, j, none⟩ = w.cell? ⟨b, j, none⟩ := by
  intro vs o
  refine ⟨?_, fun j hj => World.cell?_setCells_out b vs o w ⟨b, j, none⟩ fun _ _ => .inl hj⟩
  induction vs generalizing w o with
  | nil => exact but_refl _ _
  | cons v r ih => exact but_trans (but_set (but_refl w (some b)) o v) (ih _ _)
/-- What Compact answers: a slice that reads as the list, each once. -/
def CompV4Post (W _w : World) (l : List V4) (e : Ending) (w' : World) : Prop := ∃ v, e = .returned v ∧ V4s w' v l ∧ Below W.heap.size W w'
def CompRel (w : World) (d : Array V4) (g : Nat) (s3 : Value) (wr : World) : Prop := ∃ k q : Nat, 1 ≤ k ∧ k ≤ d.size ∧ d.size - k ≤ g ∧ s3 = .int .i64 k ∧ wr = w.drewN q ∧ ∀ j, j < k → Lib.keeps d j = true
def CompRel2 (w : World) (b : Nat) (d : Array V4) (k g : Nat) (s3 s5 : Value) (wr : World) : Prop := ∃ (kk k2 : Nat) (dk : Array V4), s3 = .int .i64 kk ∧ s5 = .int .i64 k2 ∧ 1 ≤ k2 ∧ k + k2 ≤ d.size ∧ d.size - (k + k2) ≤ g ∧ CW w wr b dk ∧ Lib.CompInv d (k + k2) kk dk
theorem comp_here {W w : World} {g cap q : Nat} {d : Array V4} (h : RowV W w (.slice (some ⟨g, 0, none⟩) d.size cap) d.toList) (hall : ∀ j, j < d.size → Lib.keeps d j = true) : CompV4Post W w (Lib.compactUpTo d d.size) (.returned (.slice (some ⟨g, 0, none⟩) d.size cap)) (w.drewN q) := by
  rw [Lib.compactUpTo_all d _ hall, Lib.range_map_get]
  exact ⟨_, rfl, h.v4s.keep (below_drewN (Below.refl _ _) _), below_drewN h.2 _⟩
theorem comp_done {W w wr : World} {g cap k : Nat} {d dk : Array V4} {vs : List Value} (h : RowV W w (.slice (some ⟨g, 0, none⟩) d.size cap) d.toList) (h0 : HoldsK v4V 4 w g 0 d) (hg : W.heap.size ≤ g) (hgl : g < w.heap.size) (hcap : d.size ≤ cap) (hc : CW w wr g dk) (hI : Lib.CompInv d d.size k dk) :
    CompV4Post W w (Lib.compactUpTo d d.size) (.returned (.slice (some ⟨g, 0, none⟩) k cap)) (wr.setCells g (k * 4) vs) := by
  have hk := hI.lt
  have hs := hI.size
  have hl := hI.len
  obtain ⟨hgr, hkeep⟩ := keep_clear wr g vs (k * 4)
  have hgw := hc.grown
  have hH := hc.holds h0 hs
  have hB : Below W.heap.size W wr := h.2.grown hgw h.2.size fun j hj => by injection hj with hj; omega
  refine ⟨_, rfl, ⟨k, hl.symm, some ⟨g, 0, none⟩, cap, rfl, by omega, by rw [v4sV_length, hl], fun _ => ⟨g, 0, rfl, Nat.lt_of_lt_of_le (Nat.lt_of_lt_of_le hgl hgw.4) hgr.4, fun j u hj => ?_⟩⟩, hB.grown hgr hB.size fun j hj => by injection hj with hj; omega⟩
  have hj' : j < k * 4 := by
    have := (List.getElem?_eq_some_iff.1 hj).1
    rwa [v4sV_length, hl] at this
  rw [Nat.zero_add, hkeep j hj']
  have h1 := hI.low (j / 4) (by omega)
  have h2 := flat_get (f := v4V) (j := j % 4) v4V_length h1 (by omega)
  rw [show j / 4 * 4 + j % 4 = j by omega] at h2
  have h3 := (hH.cell (i := j / 4) (c := j % 4) (by omega) (by omega)).1
  rw [Nat.zero_add, show j / 4 * 4 + j % 4 = j by omega] at h3
  rw [h3]
  have h4 : (v4sV (Lib.compactUpTo d d.size))[j]? = (v4V dk[j / 4]!)[j % 4]? := h2
  rw [hj] at h4
  rw [getElem!_pos (v4V dk[j / 4]!) (j % 4) (by rw [v4V_length]; omega)]
  rw [List.getElem?_eq_getElem (by rw [v4V_length]; omega)] at h4
  exact h4.symm
set_option maxHeartbeats 4000000 in
theorem compact_arr {W w : World} {g cap : Nat} (d : Array V4) (h : RowV W w (.slice (some ⟨g, 0, none⟩) d.size cap) d.toList) (h1 : 1 ≤ d.size) (h62 : d.size < 4611686018427387904) :
    Calls Tryz.prog 79 #[.slice (some ⟨g, 0, none⟩) d.size cap] w (CompV4Post W w (Lib.compactUpTo d d.size)) := by
  obtain ⟨g', cap', cur, heq, hg, hb, hc1, hc2, hc3, hc4⟩ := rowV_parts h (by rw [Array.length_toList]; omega)
  injection heq with e1 e2 e3
  injection e1 with e1
  injection e1 with e1
  subst e1; subst e3
  have hH := holdsK_v4 hb hc4
  rw [Array.toArray_toList] at hH
  rw [Array.length_toList] at hc1
  have HH := Lib.hid hH
  have HEQ := Lib.hid (fun y x w => eq_v4 y x w)
  have HERE := Lib.hid (fun q hall => comp_here (q := q) h hall)
  have HDONE := Lib.hid (fun wr k dk vs hc hI => comp_done (wr := wr) (k := k) (dk := dk) (vs := vs) h hH hg (Array.getElem?_eq_some_iff.1 hb).1 hc1 hc hI)
  obtain ⟨R, hR⟩ : ∃ R, R = Lib.compactUpTo d d.size := ⟨_, rfl⟩
  rw [← hR] at HERE HDONE ⊢
  clear h hH hb hc4 hc3 hc2 hg hR e2
  by_cases h2 : d.size < 2
  · have h2I : (d.size : Int) < 2 := by omega
    go_enter Tryz.func79, Tryz.ntmps79
    go_wp2_with fail

    go_ret
    exact HERE.out 0 fun j hj => Lib.keeps_lt_one d j (by omega)
  · have h2I : ¬ (d.size : Int) < 2 := by omega
    go_enter Tryz.func79, Tryz.ntmps79
    go_wp2_with fail
    go_loopg [3] d.size (fun gh s3 wr => CompRel w d gh s3 wr)
    case atStart => exact ⟨1, 0, Nat.le_refl _, by omega, by omega, rfl, rfl, Lib.keeps_lt_one d⟩
    case round =>
      obtain ⟨k, q, hk1, hk, hgh, rfl, rfl, hall⟩ := hrel
      have HALL := Lib.hid hall
      have HQ := Lib.hid hgh
      clear hall hgh
      by_cases hlt : k < d.size
      · have hltI : (k : Int) < d.size := by omega
        obtain ⟨c0, c1, c2, c3⟩ := holds_cells HH.out hlt
        obtain ⟨p0, p1, p2, p3⟩ := holds_cells HH.out (show k - 1 < d.size by omega)
        obtain ⟨x, hx⟩ : ∃ x, x = d[k]! := ⟨_, rfl⟩
        obtain ⟨y, hy⟩ : ∃ y, y = d[k - 1]! := ⟨_, rfl⟩
        rw [← hx] at c0 c1 c2 c3
        rw [← hy] at p0 p1 p2 p3
        have HX := Lib.hid hx
        have HY := Lib.hid hy
        clear hx hy
        have heq := HEQ.out x y
        by_cases hdup : x = y
        · rw [show decide (x = y) = true by simp [hdup]] at heq
          have HD := Lib.hid hdup
          clear hdup
          have hrest := v4_rest g d.size cap k (by omega) (by omega)
          go_wp2_with fail
          go_big_quiet (fail)
          go_wp2_with fail
          clear c0 c1 c2 c3 p0 p1 p2 p3 heq hrest
          go_loopg [3, 5] d.size (fun gh s3 s5 wr => CompRel2 w g d k gh s3 s5 wr)
          case atStart => exact ⟨k, 1, d, rfl, rfl, Nat.le_refl _, by omega, by omega, CW.start HH.out _, Lib.CompInv.start HALL.out (Lib.keeps_neg (by omega) (by rw [← HX.out, ← HY.out]; exact HD.out))⟩
          case round =>
            obtain ⟨kk, k2, dk, rfl, rfl, hk21, hle, hg2, hcw, hI⟩ := hrel
            have hkk := hI.lt
            have hds := hI.size
            have hHk := hcw.holds HH.out hds
            have HCW := Lib.hid hcw
            have HI := Lib.hid hI
            by_cases hlt2 : k + k2 < d.size
            · have hlt2I : (k2 : Int) < ((d.size - k : Nat) : Int) := by omega
              obtain ⟨c0, c1, c2, c3⟩ := holds_cells hHk (show k + k2 < dk.size by omega)
              obtain ⟨p0, p1, p2, p3⟩ := holds_cells hHk (show k + k2 - 1 < dk.size by omega)
              rw [hI.high (k + k2) (by omega)] at c0 c1 c2 c3
              rw [hI.high (k + k2 - 1) (by omega)] at p0 p1 p2 p3
              obtain ⟨x2, hx2⟩ : ∃ x, x = d[k + k2]! := ⟨_, rfl⟩
              obtain ⟨y2, hy2⟩ : ∃ y, y = d[k + k2 - 1]! := ⟨_, rfl⟩
              rw [← hx2, show (k + k2) * 4 = k * 4 + k2 * 4 by omega] at c0 c1 c2 c3
              rw [← hy2, show (k + k2 - 1) * 4 = k * 4 + (k2 - 1) * 4 by omega] at p0 p1 p2 p3
              obtain ⟨o0, o1, o2, o3⟩ := holds_cells hHk (show kk < dk.size by omega)
              obtain ⟨f0, f1, f2, f3⟩ := holds_free hHk (show kk < dk.size by omega)
              obtain ⟨oo, hoo⟩ : ∃ oo, oo = dk[kk]! := ⟨_, rfl⟩
              rw [← hoo] at o0 o1 o2 o3
              have HX2 := Lib.hid hx2
              have HY2 := Lib.hid hy2
              have heq := HEQ.out x2 y2
              have hkkI : (kk : Int) < d.size := by omega
              clear hx2 hy2 hoo hcw hI hHk
              by_cases hxy : x2 = y2
              · rw [show decide (x2 = y2) = true by simp [hxy]] at heq
                have HD2 := Lib.hid hxy
                clear hxy
                go_wp2_with fail
                go_big_quiet (fail)
                go_wp2_with fail
                go_roundg (d.size - (k + (k2 + 1)))
                case measure => omega
                case rel => exact ⟨kk, k2 + 1, dk, rfl, by go_num, by omega, by omega, Nat.le_refl _, HCW.out.drewN _, HI.out.skip (Lib.keeps_neg (by omega) (by rw [← HX2.out, ← HY2.out]; exact HD2.out))⟩
              · rw [show decide (x2 = y2) = false by simp [hxy]] at heq
                have HD2 := Lib.hid hxy
                clear hxy
                go_wp2_with fail
                go_big_quiet (fail)
                go_wp2_with fail
                go_roundg (d.size - (k + (k2 + 1)))
                case measure => omega
                case rel => exact ⟨kk + 1, k2 + 1, dk.setIfInBounds kk x2, by go_num, by go_num, by omega, by omega, Nat.le_refl _, (HCW.out.drewN _).put (by omega) x2, by have := HI.out.keep hlt2 (Lib.keeps_pos (by rw [← HX2.out, ← HY2.out]; exact HD2.out)); rwa [← HX2.out] at this⟩
            · have hend : k + k2 = d.size := by omega
              have hlt2I : ¬ (k2 : Int) < ((d.size - k : Nat) : Int) := by omega
              have hrest := v4_rest g d.size cap kk (by omega) (by omega)
              have hhead := v4_head g d.size cap kk (by omega)
              have hcl := fun ty => run_clear_v4 wr ty g (kk * 4) (d.size - kk) (cap - kk) (by omega) (fun j hj => by
                have := (hHk.cell (i := (kk * 4 + j) / 4) (c := (kk * 4 + j) % 4) (by omega) (by omega)).1
                rw [Nat.zero_add, show (kk * 4 + j) / 4 * 4 + (kk * 4 + j) % 4 = kk * 4 + j by omega] at this
                rw [this]; rfl) (fun j hj => by
                have := (hHk.cell (i := (kk * 4 + j) / 4) (c := (kk * 4 + j) % 4) (by omega) (by omega)).2
                rwa [Nat.zero_add, show (kk * 4 + j) / 4 * 4 + (kk * 4 + j) % 4 = kk * 4 + j by omega] at this)
              rw [hend] at hI
              have HF := Lib.hid (fun vs => HDONE.out wr kk dk vs hcw hI)
              clear hHk hcw hI HI HCW
              go_wp2_with fail
              go_ret
              exact HF.out _
        · rw [show decide (x = y) = false by simp [hdup]] at heq
          have HD := Lib.hid hdup
          clear hdup
          go_wp2_with fail
          go_big_quiet (fail)
          go_wp2_with fail
          go_roundg (d.size - (k + 1))
          case measure => have := HQ.out; omega
          case rel =>
            refine ⟨k + 1, _, by omega, by omega, Nat.le_refl _, by go_num, rfl, fun j hj => ?_⟩
            by_cases e : j = k
            · subst e
              exact Lib.keeps_pos (by rw [← HX.out, ← HY.out]; exact HD.out)
            · exact HALL.out j (by omega)
      · have hltI : ¬ (k : Int) < d.size := by omega
        have hke : k = d.size := by omega
        go_wp2_with fail
        go_ret
        exact HERE.out q fun j hj => HALL.out j (by omega)
end Go.Proofs.YtcfcpbkeedfbpaaGreatDoor
