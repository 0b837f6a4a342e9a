/- ActRefRead, ExprSame, joined. -/
import Derived.Test.YtcfcpbkeedfbpaaGreatDoorMActReads14
import Derived.Test.YtcfcpbkeedfbpaaGreatDoorMActReads09
import Derived.Test.YtcfcpbkeedfbpaaGreatDoorMActReads15
import Derived.Test.YtcfcpbkeedfbpaaGreatDoorMActReads18
import Derived.Deep.Cut
import Derived.Test.YtcfcpbkeedfbpaaGreatDoorMActReads02
namespace Go.Proofs.YtcfcpbkeedfbpaaGreatDoor
open Go.RowKit CurSpec TermSpec EvalSpec ActSpec NamesSpec ExprSpec
set_option maxRecDepth 100000

abbrev arO (A : Option Addr) (n cp : Nat) (c : Cur) : Obj := .cells #[.slice A n cp, .int .i64 c.w1, .int .i64 c.w2, .int .i64 c.a1, .int .i64 c.a2, .int .i64 c.bad] 43
abbrev arZ : Obj := .cells #[.slice none 0 0, .int .i64 0, .int .i64 0, .int .i64 0, .int .i64 0, .int .i64 0] 43
abbrev aaO (s : ByteArray) (any : Bool) (A : Option Addr) (n cp : Nat) : Obj := .cells #[.string s, .bool any, .slice A n cp] 66
theorem rb_none (w : World) : (Instr.build 66 #[]).run Tryz.prog w = .ok (.agg #[.string ⟨#[]⟩, .bool false, .slice none 0 0]) w := run_build w 66 _ _ (by kernel_rfl)
/-- A cursor's box, overwritten. -/
def setR (x : World) (E : Nat) (A : Option Addr) (n cp : Nat) (c : Cur) : World :=
  (((((x.setCell ⟨E, 0, none⟩ (.slice A n cp)).setCell ⟨E, 1, none⟩ (.int .i64 c.w1)).setCell ⟨E, 2, none⟩ (.int .i64 c.w2)).setCell ⟨E, 3, none⟩ (.int .i64 c.a1)).setCell ⟨E, 4, none⟩ (.int .i64 c.a2)).setCell ⟨E, 5, none⟩ (.int .i64 c.bad)
theorem setR_but (x : World) (E : Nat) (A : Option Addr) (n cp : Nat) (c : Cur) : x.grownBy (setR x E A n cp c) (some E) := but_set (but_set (but_set (but_set (but_set (but_set (but_refl _ _) 0 _) 1 _) 2 _) 3 _) 4 _) 5 _
theorem setR_block {x : World} {E : Nat} {A A0 : Option Addr} {n cp n0 cp0 : Nat} {c c0 : Cur} (h : x.heap[E]? = some (arO A0 n0 cp0 c0)) : (setR x E A n cp c).heap[E]? = some (arO A n cp c) :=
  block_setCell' (block_setCell' (block_setCell' (block_setCell' (block_setCell' (block_setCell' h 0 _) 1 _) 2 _) 3 _) 4 _) 5 _
theorem setR_other {x : World} {E b : Nat} {A : Option Addr} {n cp : Nat} {c : Cur} {o : Obj} (h : x.heap[b]? = some o) (hne : b ≠ E) : (setR x E A n cp c).heap[b]? = some o := ((setR_but x E A n cp c).block b (Array.getElem?_eq_some_iff.1 h).1 (by simpa using hne)).trans h
theorem set_other {x : World} {K b i : Nat} {u : Value} {o : Obj} (h : x.heap[b]? = some o) (hne : b ≠ K) : (x.setCell ⟨K, i, none⟩ u).heap[b]? = some o := (Below.heap_setCell _ _ _ _ (fun e => hne e)).trans h
/-- What lies below: seen from ahead of the boxes. -/
theorem below_but {w w1 x : World} {E : Nat} (h1 : Below w.heap.size w w1) (h : w1.grownBy x (some E)) (hE : w.heap.size ≤ E) : Below w.heap.size w x := h1.grown h h1.size fun j hj => by injection hj with hj; omega
theorem row_block {w x y : World} {o o' : Obj} {b : Nat} {pv : Value} {n : Nat} {xs : List Value} (h : x.heap[b]? = some o) (hrow : (x.alloc o').ownsRow w.heap.size 66 3 pv n xs) (hb : b < w.heap.size) (hg : (x.alloc o').grownBy y pv.ownBlock) : y.heap[b]? = some o := by
  have h1 := KitC.block_on h (KitC.below_one x o')
  exact (hg.block b (Array.getElem?_eq_some_iff.1 h1).1 fun e => by have := (own_block_bd hrow b e.symm).1; omega).trans h1
theorem take_le (c : Cur) (k : Int) (s : ByteArray) : (take c k s).L.length ≤ c.L.length := by
  unfold take
  split
  · exact on_le c
  · exact Nat.le_refl _
/-- What a step comes to: whether one more is wanted, and by which cursor. -/
structure StepIs (d : Cur) (out : List Ac) (F : Cur × List Ac) (c2 : Cur) (a : Ac) : Prop where
  ok : Ok (take c2 3 wCom)
  len : (take c2 3 wCom).L.length ≤ d.L.length
  less : isB c2 3 wCom = true → (take c2 3 wCom).L.length + 1 ≤ d.L.length
  more : isB c2 3 wCom = true → out.length + 1 ≤ 8 ∧ allR (take c2 3 wCom) (out ++ [a]) = F
  done : isB c2 3 wCom = false → (take c2 3 wCom, out ++ [a]) = F
theorem step_is {d D : Cur} {out : List Ac} {F : Cur × List Ac} {c2 : Cur} {a : Ac} (hok : Ok d) (h8 : out.length ≤ 8) (hF : allR d out = F) (hD : fullR d out = D) (hone : (c2, a) = oneR D) : StepIs d out F c2 a := by
  have hs : stepR d out = (c2, out ++ [a]) := by unfold stepR; rw [hD, ← hone]
  have h1 := stepR_le d out
  have h2 := stepR_ok out hok
  have h3 := allR_step d out
  rw [hs] at h1 h2 h3
  refine ⟨h2.take _ _, Nat.le_trans (take_le _ _ _) h1.1, fun hb => ?_, fun hb => ⟨?_, ?_⟩, fun hb => ?_⟩
  · have h4 := (isB_real hb (by decide)).2.1
    have h5 := h1.1
    rw [show take c2 3 wCom = on c2 by unfold take; rw [if_pos hb]]
    simp only at h5
    omega
  · have h4 := (isB_real hb (by decide)).1
    rcases Nat.lt_or_ge out.length 8 with h | h
    · omega
    · exact absurd h4 (h1.2.2.1 (by omega))
  · rw [show take c2 3 wCom = on c2 by unfold take; rw [if_pos hb], ← hF, h3]
    unfold tailR
    rw [if_pos hb]
  · have hb' : ¬ isB c2 3 wCom = true := by rw [hb]; decide
    rw [show take c2 3 wCom = c2 by unfold take; rw [if_neg hb'], ← hF, h3, tailR_no hb']
theorem row_six {W wr : World} {B : Nat} {pv : Value} {ps : List AP} (h : RowA W B wr pv ps) {k : Nat} (hk : k + 1 = W.heap.size) (hne : ∀ p ∈ ps, 0 < p.xn → (Value.slice p.xA p.xn p.xc).ownBlock ≠ some k) (u0 u1 u2 u3 u4 u5 : Value) :
    Acs ((((((wr.setCell ⟨k, 0, none⟩ u0).setCell ⟨k, 1, none⟩ u1).setCell ⟨k, 2, none⟩ u2).setCell ⟨k, 3, none⟩ u3).setCell ⟨k, 4, none⟩ u4).setCell ⟨k, 5, none⟩ u5) pv (ps.map (·.a)) := by
  have hg := but_six wr k u0 u1 u2 u3 u4 u5
  refine ⟨ps, rfl, by rw [List.length_map]; exact Rdk.own (own_but h.own hg (by omega)), fun p hp => tms_row (h.tms p hp) hg fun h0 b hb e => hne p hp h0 (by rw [hb]; injection e with e; rw [e])⟩
/-- What the loop keeps. -/
def RReadRel (w w1 : World) (F : Cur × List Ac) (gh : Nat) (out more : Value) (wr : World) : Prop :=
  ∃ (c : Cur) (ps : List AP) (A : Option Addr) (n cp : Nat) (b : Bool), more = .bool b ∧ Ok c ∧ c.L.length ≤ 100000 ∧ wr.heap[w.heap.size]? = some (arO A n cp c) ∧ Toks w (.slice A n cp) c.L ∧ wr.heap[w.heap.size + 1]? = some arZ ∧ RowA w1 w.heap.size wr out ps ∧ (∀ p ∈ ps, 0 < p.xn → (Value.slice p.xA p.xn p.xc).ownBlock ≠ some (w.heap.size + 1)) ∧
    (b = true → ps.length ≤ 8 ∧ allR c (ps.map (·.a)) = F ∧ c.L.length < gh) ∧ (b = false → (c, ps.map (·.a)) = F)
def RetAR (W : World) (p : Cur × List Ac) (e : Ending) (w' : World) : Prop :=
  ∃ A n cp A2 n2 c2, e = .returned (.tuple #[.agg #[.slice A n cp, .int .i64 p.1.w1, .int .i64 p.1.w2, .int .i64 p.1.a1, .int .i64 p.1.a2, .int .i64 p.1.bad], .slice A2 n2 c2]) ∧ Toks W (.slice A n cp) p.1.L ∧ Acs w' (.slice A2 n2 c2) p.2 ∧ Below W.heap.size W w'
set_option maxRecDepth 100000 in
set_option maxHeartbeats 16000000 in
theorem rread_acts (c : Cur) (A : Option Addr) (n cp : Nat) (w : World) (ok : Ok c) (hlen : c.L.length ≤ 100000) (hT : Toks w (.slice A n cp) c.L) :
    Calls Tryz.prog 18 #[.agg #[.slice A n cp, .int .i64 c.w1, .int .i64 c.w2, .int .i64 c.a1, .int .i64 c.a2, .int .i64 c.bad]] w (RetAR w (readA c)) := by
  have b0 := rb_none
  obtain ⟨i0, hi, hz0, hz1, hz2⟩ := info_parts inf_act
  have HI := Lib.hid (And.intro hi (And.intro hz0 (And.intro hz1 hz2)))
  obtain ⟨F, hF⟩ : ∃ F, F = allR c [] := ⟨_, rfl⟩
  have HR : Hid (readA c = if F.1.bad = 0 then F else (F.1, [])) := Lib.hid (by rw [hF]; rfl)
  obtain ⟨R, hR⟩ : ∃ R, R = readA c := ⟨_, rfl⟩
  rw [← hR] at HR ⊢
  obtain ⟨w1, hw1⟩ : ∃ w1, (w.alloc (arO A n cp c)).alloc arZ = w1 := ⟨_, rfl⟩
  obtain ⟨k1, k2, hb1, hz⟩ := KitC.pair_blocks (Below.refl ((w.alloc (arO A n cp c)).alloc arZ).heap.size ((w.alloc (arO A n cp c)).alloc arZ))
  rw [hw1] at k1 k2 hb1 hz
  have HB1 := Lib.hid hb1
  have hs1 : w1.heap.size = w.heap.size + 2 := by rw [← hw1]; simp
  have HS1 := Lib.hid hs1
  have HST : Hid (RReadRel w w1 F (c.L.length + 1) (.slice (some ⟨w1.heap.size, 0, none⟩) 0 0) (.bool true) (w1.alloc (.cells #[] 66))) := Lib.hid (by
    refine ⟨c, [], A, n, cp, true, rfl, ok, hlen, KitC.block_on k1 (KitC.below_one _ _), hT, KitC.block_on k2 (KitC.below_one _ _), ⟨World.ownsRow_lit w1 #[] 0 (Nat.le_refl _) (Nat.zero_le _) rfl, by simp, by simp, but_below (KitC.below_one _ _), by omega⟩, by simp, fun _ => ⟨by simp, hF.symm, by omega⟩, fun h => by cases h⟩)
  rw [hs1] at HST
  have HW1 := Lib.hid hw1
  clear hi hz0 hz1 hz2 hF hR hw1 k1 k2 hb1 hz hs1 ok hlen hT
  go_enter Tryz.func18, Tryz.ntmps18
  go_wp2_with fail
  rw [HW1.out]
  go_loopg [4, 5, 6, 7, 8] (c.L.length + 1) (fun gh out more _ _ _ wr => RReadRel w w1 F gh out more wr)
  case atStart => exact HST.out
  case round =>
    obtain ⟨d, ps, A0, n0, cp0, b, rfl, hok, hlen, hbox, hT0, hres, hrow, hap, htr, hfa⟩ := hrel
    have HOK := Lib.hid hok
    have HLEN := Lib.hid hlen
    have HBOX := Lib.hid hbox
    have HT0 := Lib.hid hT0
    have HRES := Lib.hid hres
    have HROW := Lib.hid hrow
    have HAP := Lib.hid hap
    have HBW := Lib.hid (below_but HB1.out hrow.grown (Nat.le_refl _))
    obtain ⟨pA, pc, rfl⟩ := own_shape hrow.own
    obtain ⟨n, hn⟩ : ∃ n, n = ps.length := ⟨_, rfl⟩
    rw [← hn]
    have HN := Lib.hid hn
    rcases b with _ | _
    · have HF := Lib.hid (hfa rfl)
      obtain ⟨c0, c1, c2, c3, c4, c5⟩ := cells_6 hbox
      obtain ⟨r0, r1, r2, r3, r4, r5⟩ := cells_6 hres
      obtain ⟨f0, f1, f2, f3, f4, f5⟩ := free_6 hres
      have HBLK := Lib.hid (blk_of hres (n := 6) rfl)
      have hE1 : ¬ w.heap.size = w.heap.size + 1 := by omega
      clear hok hlen hbox hT0 hres hrow hap htr hfa hn
      by_cases hd0 : d.bad = 0
      · have g : (d.bad != 0) = false := by simp [hd0]
        have HR2 : Hid (R = (d, ps.map (·.a))) := Lib.hid (by rw [HR.out, ← HF.out, if_pos hd0])
        clear hd0
        go_wp2_with fail
        obtain ⟨q0, q1, q2, q3, q4, q5⟩ := store_six HBLK.out (.slice A0 n0 cp0) (.int .i64 d.w1) (.int .i64 d.w2) (.int .i64 d.a1) (.int .i64 d.a2) (.int .i64 d.bad)
        refine bodyPost_ret (v := .tuple #[.agg #[.slice A0 n0 cp0, .int .i64 d.w1, .int .i64 d.w2, .int .i64 d.a1, .int .i64 d.a2, .int .i64 d.bad], .slice pA n pc]) (by simp [results, Tryz.results18, go_sem, q0, q1, q2, q3, q4, q5]) rfl ?_
        exact ⟨A0, n0, cp0, pA, n, pc, by rw [HR2.out], by rw [HR2.out]; exact HT0.out, by rw [HR2.out, HN.out]; exact row_six HROW.out (by have := HS1.out; omega) HAP.out _ _ _ _ _ _, below_six HBW.out (by omega) _ _ _ _ _ _⟩
      · have g : (d.bad != 0) = true := by simp [hd0]
        have HR2 : Hid (R = (d, [])) := Lib.hid (by rw [HR.out, ← HF.out, if_neg hd0])
        clear hd0
        go_wp2_with fail
        obtain ⟨q0, q1, q2, q3, q4, q5⟩ := store_six HBLK.out (.slice A0 n0 cp0) (.int .i64 d.w1) (.int .i64 d.w2) (.int .i64 d.a1) (.int .i64 d.a2) (.int .i64 d.bad)
        refine bodyPost_ret (v := .tuple #[.agg #[.slice A0 n0 cp0, .int .i64 d.w1, .int .i64 d.w2, .int .i64 d.a1, .int .i64 d.a2, .int .i64 d.bad], .slice none 0 0]) (by simp [results, Tryz.results18, go_sem, q0, q1, q2, q3, q4, q5]) rfl ?_
        exact ⟨A0, n0, cp0, none, 0, 0, by rw [HR2.out], by rw [HR2.out]; exact HT0.out, by rw [HR2.out]; exact ⟨[], rfl, Rdk.nil 3 _, by simp⟩, below_six HBW.out (by omega) _ _ _ _ _ _⟩
    · obtain ⟨h8, hF, hgh⟩ := htr rfl
      have HGH := Lib.hid hgh
      have HSI := Lib.hid (fun c2 a hone => step_is (c2 := c2) (a := a) hok (by rw [List.length_map]; exact h8) hF rfl hone)
      have HOKD := Lib.hid (fullR_ok (ps.map (·.a)) hok)
      have HFU : Hid (fullR d (ps.map (·.a)) = if n = 8 then fail d 8 else d) := Lib.hid (by unfold fullR; rw [List.length_map, hn])
      have HDL : Hid ((fullR d (ps.map (·.a))).L.length ≤ 100000) := Lib.hid (Nat.le_trans (fullR_le d (ps.map (·.a))).1 hlen)
      obtain ⟨D, hD⟩ : ∃ D, D = fullR d (ps.map (·.a)) := ⟨_, rfl⟩
      rw [← hD] at HSI HOKD HFU HDL
      have HL1 : Hid (n + 1 ≤ maxLen) := Lib.hid (by unfold maxLen; omega)
      have HL2 : Hid ((n + 1) * 48 ≤ 140737488355328) := Lib.hid (by omega)
      have hElt := (Array.getElem?_eq_some_iff.1 hbox).1
      have HTAKE := Lib.hid (fun A n cp W hT hW => take_say D 1 wAny A n cp w W hT hW)
      have hpb : ∀ j, (Value.slice pA n pc).ownBlock = some j → j < wr.heap.size := fun j hj => by rw [hn] at hj; exact (own_block_bd hrow.own j hj).2
      have HPB := Lib.hid hpb
      have HSZ0 : Hid (w1.heap.size ≤ wr.heap.size) := Lib.hid hrow.grown.size
      clear hok hlen hrow hap htr hfa hF hgh hpb
      by_cases h8e : n = 8
      · have g1 : ((n : Int) == 8) = true := by simp; omega
        have g1' : (n == 8) = true := by simp; omega
        have HFD : Hid (D = fail d 8) := Lib.hid (by rw [HFU.out, if_pos h8e])
        have HFL := Lib.hid (fail_say d 8 A0 n0 cp0 w wr HT0.out HBW.out)
        rw [← HFD.out] at HFL
        have hbad : D.bad ≠ 0 := by rw [HFD.out]; exact (fail_L d 8).2.2 (by decide)
        have hany : isB D 1 wAny = false := isB_dead 1 wAny hbad
        obtain ⟨k0, k1, k2, k3, k4, k5⟩ := cells_6 hbox
        clear hbad h8e hn hD
        go_wp2_with (go_at_call 37; (with_reducible refine HFL.out.mono ?_))
        rintro e x1 ⟨A1, n1, cp1, rfl, hT1, hb1⟩
        have HT1 := Lib.hid hT1
        have HBX1 := Lib.hid (KitC.block_on hbox hb1)
        have HVB := Lib.hid (setR_block (A := A1) (n := n1) (cp := cp1) (c := D) HBX1.out)
        have HVZ := Lib.hid (setR_other (E := w.heap.size) (A := A1) (n := n1) (cp := cp1) (c := D) (KitC.block_on HRES.out hb1) (show w.heap.size + 1 ≠ w.heap.size by omega))
        have HGV := Lib.hid (but_trans (but_below (B := w.heap.size) hb1) (setR_but x1 w.heap.size A1 n1 cp1 D))
        clear k0 k1 k2 k3 k4 k5
        obtain ⟨m0, m1, m2, m3, m4, m5⟩ := cells_6 HBX1.out
        obtain ⟨l0, l1, l2, l3, l4, l5⟩ := free_6 HBX1.out
        obtain ⟨k0, k1, k2, k3, k4, k5⟩ := cells_6 HVB.out
        obtain ⟨V, hV⟩ : ∃ V, setR x1 w.heap.size A1 n1 cp1 D = V := ⟨_, rfl⟩
        rw [hV] at HVB HVZ HGV k0 k1 k2 k3 k4 k5
        have HKA : Hid (V.heap.size = V.heap.size) := Lib.hid rfl
        have HVW := Lib.hid hV
        unfold setR at HVW
        clear hV hT1 hb1 hbox HBOX
        have HVlt := Lib.hid (Array.getElem?_eq_some_iff.1 HVB.out).1
        have HVz : Hid (w.heap.size + 1 < V.heap.size) := Lib.hid (by have h := (Array.getElem?_eq_some_iff.1 HVZ.out).1; have h2 := HKA.out; omega)
        have HVs : Hid (wr.heap.size ≤ V.heap.size) := Lib.hid HGV.out.size
        have hKE : ¬ w.heap.size = V.heap.size := by have := HVz.out; omega
        have hKE2 : ¬ V.heap.size = w.heap.size := by have := HVz.out; omega
        have hKlt : w.heap.size < V.heap.size := by have := HVz.out; omega
        have HBV := Lib.hid (below_but HB1.out (but_trans HROW.out.grown HGV.out) (Nat.le_refl _))
        have HBA := Lib.hid (below_two' HBV.out (KitC.below_one V (aaO ⟨#[]⟩ false none 0 0)))
        go_upto_region 6 with (fail)
        rw [HVW.out]
        have HPD : Hid (((rdE (want (nameC D) 3 wSet)).1, (⟨nameS D, false, (rdE (want (nameC D) 3 wSet)).2⟩ : Ac)) = oneR D) := Lib.hid (by unfold oneR; rw [if_neg (by rw [hany]; decide)])
        have HSTEP := Lib.hid (HSI.out _ _ HPD.out)
        have HNAME := Lib.hid (fun A n cp W hT hW => name_say D HOKD.out A n cp w W hT hW)
        have HMARK := Lib.hid (fun A n cp W hT hW => mark_say (nameC D) wSet A n cp w W hT hW)
        have HREAD := Lib.hid (fun A n cp W hT hW => rread_rr ((want (nameC D) 3 wSet).L.length + 1) (want (nameC D) 3 wSet) (lev_all _ 1 (by decide) (by decide)) (HOKD.out.nameC.want 3 wSet) (fit_self _) (Nat.le_trans (want_le (nameC D) 3 wSet).1 (Nat.le_trans (nameC_le D).1 HDL.out)) A n cp w W hT hW)
        rw [hany, show take D 1 wAny = D by unfold take; rw [if_neg (by rw [hany]; decide)]] at HTAKE
        obtain ⟨r, hr⟩ : ∃ r, r = rdE (want (nameC D) 3 wSet) := ⟨_, rfl⟩
        have hr' : readP ((want (nameC D) 3 wSet).L.length + 1) (want (nameC D) 3 wSet) = r := hr.symm
        rw [hr'] at HREAD
        obtain ⟨C3, hC3⟩ : ∃ C3, C3 = want (nameC D) 3 wSet := ⟨_, rfl⟩
        obtain ⟨C1, hC1⟩ : ∃ C1, C1 = nameC D := ⟨_, rfl⟩
        obtain ⟨s, hs⟩ : ∃ s, s = nameS D := ⟨_, rfl⟩
        rw [← hr, ← hs] at HSTEP
        rw [← hC1, ← hs] at HNAME
        rw [← hC3] at HMARK HREAD
        rw [← hC1] at HMARK
        obtain ⟨C2, xt⟩ := r
        simp only at HSTEP HREAD
        clear hany hr hr' hC3 hC1 hs HPD hT0 h8 hres
        go_wp2_with ( go_at_call 38; (with_reducible refine (HTAKE.out _ _ _ _ HT1.out HBA.out).mono ?_))
        rintro e x2 ⟨A2, n2, cp2, rfl, hT2, hb2⟩
        have HB2 := Lib.hid (KitC.block_on (KitC.block_on (KitC.block_on HVB.out (KitC.below_one _ _)) hb2) (KitC.below_one x2 (arO A2 n2 cp2 D)))
        have HZ2 := Lib.hid (KitC.block_on (KitC.block_on (KitC.block_on HVZ.out (KitC.below_one _ _)) hb2) (KitC.below_one x2 (arO A2 n2 cp2 D)))
        have hka2 := KitC.block_on (KitC.block_on (heap_alloc_new V (aaO ⟨#[]⟩ false none 0 0)) hb2) (KitC.below_one x2 (arO A2 n2 cp2 D))
        try rw [HKA.out] at hka2
        have HKA2 := Lib.hid hka2
        have HG2 := Lib.hid (but_alloc (but_trans HGV.out (but_below (B := w.heap.size) (below_two' (KitC.below_one V (aaO ⟨#[]⟩ false none 0 0)) hb2))) (arO A2 n2 cp2 D))
        obtain ⟨g0, g1, g2, g3, g4, g5⟩ := cells_6 HB2.out
        obtain ⟨X2, hX2⟩ : ∃ X2, x2.alloc (arO A2 n2 cp2 D) = X2 := ⟨_, rfl⟩
        rw [hX2] at HB2 HZ2 HKA2 HG2
        have HX2 := Lib.hid hX2
        have HBX2 := Lib.hid (below_but HB1.out (but_trans HROW.out.grown HG2.out) (Nat.le_refl _))
        clear hT2 hb2 hka2 hX2
        go_wp2_with (rw [HX2.out]; go_at_call 39; (with_reducible refine (HNAME.out _ _ _ _ HT1.out HBX2.out).mono ?_))
        rintro e x4 ⟨A4, n4, cp4, rfl, hT4, hb4⟩
        have HT4 := Lib.hid hT4
        have HB4 := Lib.hid (KitC.block_on HB2.out hb4)
        have HZ4 := Lib.hid (KitC.block_on HZ2.out hb4)
        have HK4 := Lib.hid (KitC.block_on HKA2.out hb4)
        have HG4 := Lib.hid (but_trans HG2.out (but_below (B := w.heap.size) hb4))
        clear g0 g1 g2 g3 g4 g5
        obtain ⟨g0, g1, g2, g3, g4, g5⟩ := cells_6 HB4.out
        obtain ⟨l0, l1, l2, l3, l4, l5⟩ := free_6 HB4.out
        obtain ⟨a0, a1, a2⟩ := cells_3 HK4.out
        obtain ⟨f0, f1, f2⟩ := free_3 HK4.out
        have HB5 := Lib.hid (set_other (K := V.heap.size) (i := 0) (u := .string s) (setR_block (A := A4) (n := n4) (cp := cp4) (c := C1) HB4.out) (by omega : w.heap.size ≠ V.heap.size))
        have HZ5 := Lib.hid (set_other (K := V.heap.size) (i := 0) (u := .string s) (setR_other (E := w.heap.size) (A := A4) (n := n4) (cp := cp4) (c := C1) HZ4.out (show w.heap.size + 1 ≠ w.heap.size by omega)) (by have := HVz.out; omega : w.heap.size + 1 ≠ V.heap.size))
        have HK5 : Hid (((setR x4 w.heap.size A4 n4 cp4 C1).setCell ⟨V.heap.size, 0, none⟩ (.string s)).heap[V.heap.size]? = some (aaO s false none 0 0)) := Lib.hid (block_setCell' (setR_other (E := w.heap.size) (A := A4) (n := n4) (cp := cp4) (c := C1) HK4.out (by omega : V.heap.size ≠ w.heap.size)) 0 _)
        have HG5 : Hid (wr.grownBy ((setR x4 w.heap.size A4 n4 cp4 C1).setCell ⟨V.heap.size, 0, none⟩ (.string s)) (some w.heap.size)) := Lib.hid (but_set_new (but_trans HG4.out (setR_but _ _ _ _ _ _)) (by have := HVs.out; have := HKA.out; omega) 0 _)
        obtain ⟨j0, j1, j2, j3, j4, j5⟩ := cells_6 HB5.out
        obtain ⟨X5, hX5⟩ : ∃ X5, (setR x4 w.heap.size A4 n4 cp4 C1).setCell ⟨V.heap.size, 0, none⟩ (.string s) = X5 := ⟨_, rfl⟩
        rw [hX5] at HB5 HZ5 HK5 HG5 j0 j1 j2 j3 j4 j5
        have HX5 := Lib.hid hX5
        unfold setR at HX5
        have HBX5 := Lib.hid (below_but HB1.out (but_trans HROW.out.grown HG5.out) (Nat.le_refl _))
        clear hT4 hb4 hX5
        go_upto_region 12 with (fail)
        rw [HX5.out]
        go_wp2_with (go_at_call 40; (with_reducible refine (HMARK.out _ _ _ _ HT4.out HBX5.out).mono ?_))
        rintro e x6 ⟨A6, n6, cp6, rfl, hT6, hb6⟩
        have HT6 := Lib.hid hT6
        have HB6 := Lib.hid (KitC.block_on HB5.out hb6)
        have HZ6 := Lib.hid (KitC.block_on HZ5.out hb6)
        have HK6 := Lib.hid (KitC.block_on HK5.out hb6)
        have HG6 := Lib.hid (but_trans HG5.out (but_below (B := w.heap.size) hb6))
        clear g0 g1 g2 g3 g4 g5 l0 l1 l2 l3 l4 l5 a0 a1 a2 f0 f1 f2 j0 j1 j2 j3 j4 j5
        obtain ⟨g0, g1, g2, g3, g4, g5⟩ := cells_6 HB6.out
        obtain ⟨l0, l1, l2, l3, l4, l5⟩ := free_6 HB6.out
        have HB7 := Lib.hid (setR_block (A := A6) (n := n6) (cp := cp6) (c := C3) HB6.out)
        have HZ7 := Lib.hid (setR_other (E := w.heap.size) (A := A6) (n := n6) (cp := cp6) (c := C3) HZ6.out (show w.heap.size + 1 ≠ w.heap.size by omega))
        have HK7 := Lib.hid (setR_other (E := w.heap.size) (A := A6) (n := n6) (cp := cp6) (c := C3) HK6.out (by omega : V.heap.size ≠ w.heap.size))
        have HG7 := Lib.hid (but_trans HG6.out (setR_but x6 w.heap.size A6 n6 cp6 C3))
        obtain ⟨j0, j1, j2, j3, j4, j5⟩ := cells_6 HB7.out
        obtain ⟨X7, hX7⟩ : ∃ X7, setR x6 w.heap.size A6 n6 cp6 C3 = X7 := ⟨_, rfl⟩
        rw [hX7] at HB7 HZ7 HK7 HG7 j0 j1 j2 j3 j4 j5
        have HX7 := Lib.hid hX7
        unfold setR at HX7
        have HBX7 := Lib.hid (below_but HB1.out (but_trans HROW.out.grown HG7.out) (Nat.le_refl _))
        clear hT6 hb6 hX7
        go_upto_region 13 with (fail)
        rw [HX7.out]
        go_wp2_with (go_at_call 41; (with_reducible refine (HREAD.out _ _ _ _ HT6.out HBX7.out).mono ?_))
        rintro e x8 ⟨A9, n9, cp9, xA, xn, xc, rfl, hT8, hM8, hbd8, hfew8, hb8⟩
        have HT9 := Lib.hid hT8
        have HB8 := Lib.hid (KitC.block_on HB7.out hb8)
        have HZ8 := Lib.hid (KitC.block_on HZ7.out hb8)
        have HK8 := Lib.hid (KitC.block_on HK7.out hb8)
        have HG8 := Lib.hid (but_trans HG7.out (but_below (B := w.heap.size) hb8))
        have HAPX : Hid (∀ b, (Value.slice xA xn xc).ownBlock = some b → wr.heap.size ≤ b) := Lib.hid (fun b hb => Nat.le_trans HG7.out.size (hbd8 b hb))
        have hkx : V.heap.size < X7.heap.size := (Array.getElem?_eq_some_iff.1 HK7.out).1
        have HTX0 := Lib.hid (tms_but (tms_but hM8 (setR_but x8 w.heap.size A9 n9 cp9 C2) (fun e => by have := hbd8 _ e; omega)) (but_set (but_refl _ _) 2 (.slice xA xn xc)) (fun e => by have := hbd8 _ e; omega : (Value.slice xA xn xc).ownBlock ≠ some V.heap.size))
        clear g0 g1 g2 g3 g4 g5 l0 l1 l2 l3 l4 l5 j0 j1 j2 j3 j4 j5
        obtain ⟨g0, g1, g2, g3, g4, g5⟩ := cells_6 HB8.out
        obtain ⟨l0, l1, l2, l3, l4, l5⟩ := free_6 HB8.out
        obtain ⟨a0, a1, a2⟩ := cells_3 HK8.out
        obtain ⟨f0, f1, f2⟩ := free_3 HK8.out
        have HB9 := Lib.hid (set_other (K := V.heap.size) (i := 2) (u := .slice xA xn xc) (setR_block (A := A9) (n := n9) (cp := cp9) (c := C2) HB8.out) (by omega : w.heap.size ≠ V.heap.size))
        have HZ9 := Lib.hid (set_other (K := V.heap.size) (i := 2) (u := .slice xA xn xc) (setR_other (E := w.heap.size) (A := A9) (n := n9) (cp := cp9) (c := C2) HZ8.out (show w.heap.size + 1 ≠ w.heap.size by omega)) (by have := HVz.out; omega : w.heap.size + 1 ≠ V.heap.size))
        have hk9 : ((setR x8 w.heap.size A9 n9 cp9 C2).setCell ⟨V.heap.size, 2, none⟩ (.slice xA xn xc)).heap[V.heap.size]? = some (aaO s false xA xn xc) := block_setCell' (setR_other (E := w.heap.size) (A := A9) (n := n9) (cp := cp9) (c := C2) HK8.out (by omega : V.heap.size ≠ w.heap.size)) 2 _
        have HG9 : Hid (wr.grownBy ((setR x8 w.heap.size A9 n9 cp9 C2).setCell ⟨V.heap.size, 2, none⟩ (.slice xA xn xc)) (some w.heap.size)) := Lib.hid (but_set_new (but_trans HG8.out (setR_but _ _ _ _ _ _)) (by have := HVs.out; have := HKA.out; omega) 2 _)
        obtain ⟨j0, j1, j2⟩ := cells_3 hk9
        obtain ⟨X9, hX9⟩ : ∃ X9, (setR x8 w.heap.size A9 n9 cp9 C2).setCell ⟨V.heap.size, 2, none⟩ (.slice xA xn xc) = X9 := ⟨_, rfl⟩
        rw [hX9] at HB9 HZ9 HG9 j0 j1 j2
        have HTX : Hid (Tms X9 (.slice xA xn xc) xt) := Lib.hid (by rw [← hX9]; exact HTX0.out)
        have HX9 := Lib.hid hX9
        have HSZ9 : Hid (x8.heap.size = X9.heap.size) := Lib.hid (by rw [← hX9]; simp [setR, World.setCell])
        unfold setR at HX9
        clear hT8 hb8 hX9 hk9 hM8 hbd8 hfew8 HTX0
        have hrow9 := HROW.out.but HG9.out
        have HADD := Lib.hid (fun (pv' : Value) (w' : World) hrow hg hob => hrow9.add (w' := w') (p := ⟨⟨s, false, xt⟩, xA, xn, xc⟩) (pv' := pv') (o := aaO s false xA xn xc) HTX.out (fun b hb => ⟨by have := HAPX.out b hb; have := HSZ0.out; have := HS1.out; omega, fun e => by have h1 := HAPX.out b hb; have h2 := HPB.out b (by rw [HN.out]; exact e); omega⟩) hrow hg hob)
        have HROWX := Lib.hid (own_keep hrow9.own (KitC.below_one X9 (aaO s false xA xn xc)))
        have HLITX := Lib.hid (acs_lit (wr := X9) (p := ⟨⟨s, false, xt⟩, xA, xn, xc⟩) (k := X9.heap.size) rfl)
        have HSZX := Lib.hid hrow9.grown.size
        rw [← HN.out] at HROWX
        clear hrow9
        go_upto_region 14 with (fail)
        rw [HX9.out]
        go_wp2_with (at_builtin; refine wpList_append_rdk _ rfl (.tmp 44) (.tmp 46) _ rfl w1.heap.size 66 i0 (.agg #[.string ByteArray.empty, .bool false, .slice none 0 0]) 3 48 Tryz.underlying22 HI.out.1 HI.out.2.1 HI.out.2.2.1 HI.out.2.2.2 rfl (by decide) _ _ _ rfl HROWX.out _ 1 (acsV [⟨⟨s, false, xt⟩, xA, xn, xc⟩]) rfl HLITX.out (acsV_one _) HL1.out HL2.out ?_ ?_; (have := HSZX.out; simp; omega); intro p2 w2 hrow2 hg2 hob2; have HE : Hid (w2.ownsRow w1.heap.size 66 3 p2 (n + 1) (acsV ps ++ acsV [⟨⟨s, false, xt⟩, xA, xn, xc⟩]) ∧ (X9.alloc (aaO s false xA xn xc)).grownBy w2 (Value.slice pA n pc).ownBlock ∧ (p2.ownBlock = (Value.slice pA n pc).ownBlock ∨ p2.ownBlock = some (X9.alloc (aaO s false xA xn xc)).heap.size)) := Lib.hid ⟨hrow2, hg2, hob2⟩; obtain ⟨v0, v1, v2, v3, v4, v5⟩ := cells_6 (row_block HB9.out HROWX.out (by have := HS1.out; omega) HE.out.2.1); clear hrow2 hg2 hob2)
        have hrow5 := HE.out
        rw [HN.out] at hrow5
        have HR5 := Lib.hid (HADD.out _ _ hrow5.1 hrow5.2.1 hrow5.2.2)
        have HB5 := Lib.hid (row_block HB9.out HROWX.out (by have := HS1.out; omega) HE.out.2.1)
        have HZ5 := Lib.hid (row_block HZ9.out HROWX.out (by have := HS1.out; omega) HE.out.2.1)
        have HBW5 := Lib.hid (below_but HB1.out HR5.out.grown (Nat.le_refl _))
        have HTK2 := Lib.hid (fun A n cp W hT hW => take_say C2 3 wCom A n cp w W hT hW)
        clear hrow5
        go_wp2_with (go_at_call 38; (with_reducible refine (HTK2.out _ _ _ _ HT9.out HBW5.out).mono ?_))
        rintro e x7 ⟨A7, n7, cp7, rfl, hT7, hb7⟩
        have HT7 := Lib.hid hT7
        have HR7 := Lib.hid (HR5.out.keep hb7)
        have HB7 := Lib.hid (KitC.block_on HB5.out hb7)
        have HZ7 := Lib.hid (KitC.block_on HZ5.out hb7)
        obtain ⟨z0, z1, z2, z3, z4, z5⟩ := cells_6 HB7.out
        obtain ⟨y0, y1, y2, y3, y4, y5⟩ := free_6 HB7.out
        clear hT7 hb7 v0 v1 v2 v3 v4 v5
        have HEND := Lib.hid (And.intro (setR_block (A := A7) (n := n7) (cp := cp7) (c := take C2 3 wCom) HB7.out) (And.intro (setR_other (E := w.heap.size) (A := A7) (n := n7) (cp := cp7) (c := take C2 3 wCom) HZ7.out (show w.heap.size + 1 ≠ w.heap.size by omega)) (HR7.out.but (setR_but x7 w.heap.size A7 n7 cp7 (take C2 3 wCom)))))
        unfold setR at HEND
        have HAP7 : Hid (∀ p ∈ ps ++ [(⟨⟨s, false, xt⟩, xA, xn, xc⟩ : AP)], 0 < p.xn → (Value.slice p.xA p.xn p.xc).ownBlock ≠ some (w.heap.size + 1)) := Lib.hid (fun p hp h0 => by
          rcases List.mem_append.1 hp with hp | hp
          · exact HAP.out p hp h0
          · rw [List.mem_singleton] at hp
            subst hp
            intro e
            have h1 := HAPX.out _ e
            have h2 := HSZ0.out
            have h3 := HS1.out
            omega)
        obtain ⟨T2, hT2e⟩ : ∃ T2, T2 = take C2 3 wCom := ⟨_, rfl⟩
        obtain ⟨bm, hbm⟩ : ∃ bm, bm = isB C2 3 wCom := ⟨_, rfl⟩
        rw [← hT2e] at HT7 HEND ⊢
        rw [← hbm]
        have HTT := Lib.hid hT2e
        have HBM := Lib.hid hbm
        clear hT2e hbm
        go_wp2_with fail
        go_roundg (if bm = true then T2.L.length + 1 else 0)
        case measure => have h1 := HGH.out; have h2 := HSTEP.out.less; rw [← HBM.out, ← HTT.out] at h2; split <;> (try have := h2 ‹_›) <;> omega
        case rel =>
          have h1 := HSTEP.out.ok
          have h2 := HSTEP.out.len
          have h3 := HSTEP.out.more
          have h4 := HSTEP.out.done
          rw [← HTT.out] at h1 h2 h3 h4
          rw [← HBM.out] at h3 h4
          exact ⟨T2, ps ++ [⟨⟨s, false, xt⟩, xA, xn, xc⟩], A7, n7, cp7, bm, rfl, h1, by have := HLEN.out; omega, HEND.out.1, HT7.out, HEND.out.2.1, HEND.out.2.2, HAP7.out, fun hb => by rw [if_pos hb, List.map_append, List.length_append]; rw [List.length_map] at h3; exact ⟨(h3 hb).1, (h3 hb).2, Nat.lt_succ_self _⟩, fun hb => by rw [List.map_append]; exact h4 hb⟩
      · have g1 : ((n : Int) == 8) = false := by simp; omega
        have g1' : (n == 8) = false := by simp; omega
        obtain ⟨V, hV⟩ : ∃ V, V = wr := ⟨_, rfl⟩
        have HFD : Hid (D = d) := Lib.hid (by rw [HFU.out, if_neg h8e])
        have hbox1 := hbox
        have HVB : Hid (V.heap[w.heap.size]? = some (arO A0 n0 cp0 D)) := Lib.hid (by rw [hV, HFD.out]; exact hbox)
        have HVZ : Hid (V.heap[w.heap.size + 1]? = some arZ) := Lib.hid (by rw [hV]; exact HRES.out)
        have HGV : Hid (wr.grownBy V (some w.heap.size)) := Lib.hid (by rw [hV]; exact but_refl _ _)
        have HT1 : Hid (Toks w (.slice A0 n0 cp0) D.L) := Lib.hid (by rw [HFD.out]; exact HT0.out)
        have HKA : Hid (V.heap.size = V.heap.size) := Lib.hid rfl
        obtain ⟨k0, k1, k2, k3, k4, k5⟩ := cells_6 HVB.out
        rw [← hV]
        have HVW := Lib.hid hV
        clear hV h8e hbox hbox1 HBOX
        have HVlt := Lib.hid (Array.getElem?_eq_some_iff.1 HVB.out).1
        have HVz : Hid (w.heap.size + 1 < V.heap.size) := Lib.hid (by have h := (Array.getElem?_eq_some_iff.1 HVZ.out).1; have h2 := HKA.out; omega)
        have HVs : Hid (wr.heap.size ≤ V.heap.size) := Lib.hid HGV.out.size
        have hKE : ¬ w.heap.size = V.heap.size := by have := HVz.out; omega
        have hKE2 : ¬ V.heap.size = w.heap.size := by have := HVz.out; omega
        have hKlt : w.heap.size < V.heap.size := by have := HVz.out; omega
        have HBV := Lib.hid (below_but HB1.out (but_trans HROW.out.grown HGV.out) (Nat.le_refl _))
        have HBA := Lib.hid (below_two' HBV.out (KitC.below_one V (aaO ⟨#[]⟩ false none 0 0)))
        rcases hany : isB D 1 wAny with _ | _
        · have HPD : Hid (((rdE (want (nameC D) 3 wSet)).1, (⟨nameS D, false, (rdE (want (nameC D) 3 wSet)).2⟩ : Ac)) = oneR D) := Lib.hid (by unfold oneR; rw [if_neg (by rw [hany]; decide)])
          have HSTEP := Lib.hid (HSI.out _ _ HPD.out)
          have HNAME := Lib.hid (fun A n cp W hT hW => name_say D HOKD.out A n cp w W hT hW)
          have HMARK := Lib.hid (fun A n cp W hT hW => mark_say (nameC D) wSet A n cp w W hT hW)
          have HREAD := Lib.hid (fun A n cp W hT hW => rread_rr ((want (nameC D) 3 wSet).L.length + 1) (want (nameC D) 3 wSet) (lev_all _ 1 (by decide) (by decide)) (HOKD.out.nameC.want 3 wSet) (fit_self _) (Nat.le_trans (want_le (nameC D) 3 wSet).1 (Nat.le_trans (nameC_le D).1 HDL.out)) A n cp w W hT hW)
          rw [hany, show take D 1 wAny = D by unfold take; rw [if_neg (by rw [hany]; decide)]] at HTAKE
          obtain ⟨r, hr⟩ : ∃ r, r = rdE (want (nameC D) 3 wSet) := ⟨_, rfl⟩
          have hr' : readP ((want (nameC D) 3 wSet).L.length + 1) (want (nameC D) 3 wSet) = r := hr.symm
          rw [hr'] at HREAD
          obtain ⟨C3, hC3⟩ : ∃ C3, C3 = want (nameC D) 3 wSet := ⟨_, rfl⟩
          obtain ⟨C1, hC1⟩ : ∃ C1, C1 = nameC D := ⟨_, rfl⟩
          obtain ⟨s, hs⟩ : ∃ s, s = nameS D := ⟨_, rfl⟩
          rw [← hr, ← hs] at HSTEP
          rw [← hC1, ← hs] at HNAME
          rw [← hC3] at HMARK HREAD
          rw [← hC1] at HMARK
          obtain ⟨C2, xt⟩ := r
          simp only at HSTEP HREAD
          clear hany hr hr' hC3 hC1 hs HPD hn hT0 hD h8 hres
          go_wp2_with ( go_at_call 38; (with_reducible refine (HTAKE.out _ _ _ _ HT1.out HBA.out).mono ?_))
          rintro e x2 ⟨A2, n2, cp2, rfl, hT2, hb2⟩
          have HB2 := Lib.hid (KitC.block_on (KitC.block_on (KitC.block_on HVB.out (KitC.below_one _ _)) hb2) (KitC.below_one x2 (arO A2 n2 cp2 D)))
          have HZ2 := Lib.hid (KitC.block_on (KitC.block_on (KitC.block_on HVZ.out (KitC.below_one _ _)) hb2) (KitC.below_one x2 (arO A2 n2 cp2 D)))
          have hka2 := KitC.block_on (KitC.block_on (heap_alloc_new V (aaO ⟨#[]⟩ false none 0 0)) hb2) (KitC.below_one x2 (arO A2 n2 cp2 D))
          try rw [HKA.out] at hka2
          have HKA2 := Lib.hid hka2
          have HG2 := Lib.hid (but_alloc (but_trans HGV.out (but_below (B := w.heap.size) (below_two' (KitC.below_one V (aaO ⟨#[]⟩ false none 0 0)) hb2))) (arO A2 n2 cp2 D))
          obtain ⟨g0, g1, g2, g3, g4, g5⟩ := cells_6 HB2.out
          obtain ⟨X2, hX2⟩ : ∃ X2, x2.alloc (arO A2 n2 cp2 D) = X2 := ⟨_, rfl⟩
          rw [hX2] at HB2 HZ2 HKA2 HG2
          have HX2 := Lib.hid hX2
          have HBX2 := Lib.hid (below_but HB1.out (but_trans HROW.out.grown HG2.out) (Nat.le_refl _))
          clear hT2 hb2 hka2 hX2
          go_wp2_with (rw [HX2.out]; go_at_call 39; (with_reducible refine (HNAME.out _ _ _ _ HT1.out HBX2.out).mono ?_))
          rintro e x4 ⟨A4, n4, cp4, rfl, hT4, hb4⟩
          have HT4 := Lib.hid hT4
          have HB4 := Lib.hid (KitC.block_on HB2.out hb4)
          have HZ4 := Lib.hid (KitC.block_on HZ2.out hb4)
          have HK4 := Lib.hid (KitC.block_on HKA2.out hb4)
          have HG4 := Lib.hid (but_trans HG2.out (but_below (B := w.heap.size) hb4))
          clear g0 g1 g2 g3 g4 g5
          obtain ⟨g0, g1, g2, g3, g4, g5⟩ := cells_6 HB4.out
          obtain ⟨l0, l1, l2, l3, l4, l5⟩ := free_6 HB4.out
          obtain ⟨a0, a1, a2⟩ := cells_3 HK4.out
          obtain ⟨f0, f1, f2⟩ := free_3 HK4.out
          have HB5 := Lib.hid (set_other (K := V.heap.size) (i := 0) (u := .string s) (setR_block (A := A4) (n := n4) (cp := cp4) (c := C1) HB4.out) (by omega : w.heap.size ≠ V.heap.size))
          have HZ5 := Lib.hid (set_other (K := V.heap.size) (i := 0) (u := .string s) (setR_other (E := w.heap.size) (A := A4) (n := n4) (cp := cp4) (c := C1) HZ4.out (show w.heap.size + 1 ≠ w.heap.size by omega)) (by have := HVz.out; omega : w.heap.size + 1 ≠ V.heap.size))
          have HK5 : Hid (((setR x4 w.heap.size A4 n4 cp4 C1).setCell ⟨V.heap.size, 0, none⟩ (.string s)).heap[V.heap.size]? = some (aaO s false none 0 0)) := Lib.hid (block_setCell' (setR_other (E := w.heap.size) (A := A4) (n := n4) (cp := cp4) (c := C1) HK4.out (by omega : V.heap.size ≠ w.heap.size)) 0 _)
          have HG5 : Hid (wr.grownBy ((setR x4 w.heap.size A4 n4 cp4 C1).setCell ⟨V.heap.size, 0, none⟩ (.string s)) (some w.heap.size)) := Lib.hid (but_set_new (but_trans HG4.out (setR_but _ _ _ _ _ _)) (by have := HVs.out; have := HKA.out; omega) 0 _)
          obtain ⟨j0, j1, j2, j3, j4, j5⟩ := cells_6 HB5.out
          obtain ⟨X5, hX5⟩ : ∃ X5, (setR x4 w.heap.size A4 n4 cp4 C1).setCell ⟨V.heap.size, 0, none⟩ (.string s) = X5 := ⟨_, rfl⟩
          rw [hX5] at HB5 HZ5 HK5 HG5 j0 j1 j2 j3 j4 j5
          have HX5 := Lib.hid hX5
          unfold setR at HX5
          have HBX5 := Lib.hid (below_but HB1.out (but_trans HROW.out.grown HG5.out) (Nat.le_refl _))
          clear hT4 hb4 hX5
          go_upto_region 12 with (fail)
          rw [HX5.out]
          go_wp2_with (go_at_call 40; (with_reducible refine (HMARK.out _ _ _ _ HT4.out HBX5.out).mono ?_))
          rintro e x6 ⟨A6, n6, cp6, rfl, hT6, hb6⟩
          have HT6 := Lib.hid hT6
          have HB6 := Lib.hid (KitC.block_on HB5.out hb6)
          have HZ6 := Lib.hid (KitC.block_on HZ5.out hb6)
          have HK6 := Lib.hid (KitC.block_on HK5.out hb6)
          have HG6 := Lib.hid (but_trans HG5.out (but_below (B := w.heap.size) hb6))
          clear g0 g1 g2 g3 g4 g5 l0 l1 l2 l3 l4 l5 a0 a1 a2 f0 f1 f2 j0 j1 j2 j3 j4 j5
          obtain ⟨g0, g1, g2, g3, g4, g5⟩ := cells_6 HB6.out
          obtain ⟨l0, l1, l2, l3, l4, l5⟩ := free_6 HB6.out
          have HB7 := Lib.hid (setR_block (A := A6) (n := n6) (cp := cp6) (c := C3) HB6.out)
          have HZ7 := Lib.hid (setR_other (E := w.heap.size) (A := A6) (n := n6) (cp := cp6) (c := C3) HZ6.out (show w.heap.size + 1 ≠ w.heap.size by omega))
          have HK7 := Lib.hid (setR_other (E := w.heap.size) (A := A6) (n := n6) (cp := cp6) (c := C3) HK6.out (by omega : V.heap.size ≠ w.heap.size))
          have HG7 := Lib.hid (but_trans HG6.out (setR_but x6 w.heap.size A6 n6 cp6 C3))
          obtain ⟨j0, j1, j2, j3, j4, j5⟩ := cells_6 HB7.out
          obtain ⟨X7, hX7⟩ : ∃ X7, setR x6 w.heap.size A6 n6 cp6 C3 = X7 := ⟨_, rfl⟩
          rw [hX7] at HB7 HZ7 HK7 HG7 j0 j1 j2 j3 j4 j5
          have HX7 := Lib.hid hX7
          unfold setR at HX7
          have HBX7 := Lib.hid (below_but HB1.out (but_trans HROW.out.grown HG7.out) (Nat.le_refl _))
          clear hT6 hb6 hX7
          go_upto_region 13 with (fail)
          rw [HX7.out]
          go_wp2_with (go_at_call 41; (with_reducible refine (HREAD.out _ _ _ _ HT6.out HBX7.out).mono ?_))
          rintro e x8 ⟨A9, n9, cp9, xA, xn, xc, rfl, hT8, hM8, hbd8, hfew8, hb8⟩
          have HT9 := Lib.hid hT8
          have HB8 := Lib.hid (KitC.block_on HB7.out hb8)
          have HZ8 := Lib.hid (KitC.block_on HZ7.out hb8)
          have HK8 := Lib.hid (KitC.block_on HK7.out hb8)
          have HG8 := Lib.hid (but_trans HG7.out (but_below (B := w.heap.size) hb8))
          have HAPX : Hid (∀ b, (Value.slice xA xn xc).ownBlock = some b → wr.heap.size ≤ b) := Lib.hid (fun b hb => Nat.le_trans HG7.out.size (hbd8 b hb))
          have hkx : V.heap.size < X7.heap.size := (Array.getElem?_eq_some_iff.1 HK7.out).1
          have HTX0 := Lib.hid (tms_but (tms_but hM8 (setR_but x8 w.heap.size A9 n9 cp9 C2) (fun e => by have := hbd8 _ e; omega)) (but_set (but_refl _ _) 2 (.slice xA xn xc)) (fun e => by have := hbd8 _ e; omega : (Value.slice xA xn xc).ownBlock ≠ some V.heap.size))
          clear g0 g1 g2 g3 g4 g5 l0 l1 l2 l3 l4 l5 j0 j1 j2 j3 j4 j5
          obtain ⟨g0, g1, g2, g3, g4, g5⟩ := cells_6 HB8.out
          obtain ⟨l0, l1, l2, l3, l4, l5⟩ := free_6 HB8.out
          obtain ⟨a0, a1, a2⟩ := cells_3 HK8.out
          obtain ⟨f0, f1, f2⟩ := free_3 HK8.out
          have HB9 := Lib.hid (set_other (K := V.heap.size) (i := 2) (u := .slice xA xn xc) (setR_block (A := A9) (n := n9) (cp := cp9) (c := C2) HB8.out) (by omega : w.heap.size ≠ V.heap.size))
          have HZ9 := Lib.hid (set_other (K := V.heap.size) (i := 2) (u := .slice xA xn xc) (setR_other (E := w.heap.size) (A := A9) (n := n9) (cp := cp9) (c := C2) HZ8.out (show w.heap.size + 1 ≠ w.heap.size by omega)) (by have := HVz.out; omega : w.heap.size + 1 ≠ V.heap.size))
          have hk9 : ((setR x8 w.heap.size A9 n9 cp9 C2).setCell ⟨V.heap.size, 2, none⟩ (.slice xA xn xc)).heap[V.heap.size]? = some (aaO s false xA xn xc) := block_setCell' (setR_other (E := w.heap.size) (A := A9) (n := n9) (cp := cp9) (c := C2) HK8.out (by omega : V.heap.size ≠ w.heap.size)) 2 _
          have HG9 : Hid (wr.grownBy ((setR x8 w.heap.size A9 n9 cp9 C2).setCell ⟨V.heap.size, 2, none⟩ (.slice xA xn xc)) (some w.heap.size)) := Lib.hid (but_set_new (but_trans HG8.out (setR_but _ _ _ _ _ _)) (by have := HVs.out; have := HKA.out; omega) 2 _)
          obtain ⟨j0, j1, j2⟩ := cells_3 hk9
          obtain ⟨X9, hX9⟩ : ∃ X9, (setR x8 w.heap.size A9 n9 cp9 C2).setCell ⟨V.heap.size, 2, none⟩ (.slice xA xn xc) = X9 := ⟨_, rfl⟩
          rw [hX9] at HB9 HZ9 HG9 j0 j1 j2
          have HTX : Hid (Tms X9 (.slice xA xn xc) xt) := Lib.hid (by rw [← hX9]; exact HTX0.out)
          have HX9 := Lib.hid hX9
          have HSZ9 : Hid (x8.heap.size = X9.heap.size) := Lib.hid (by rw [← hX9]; simp [setR, World.setCell])
          unfold setR at HX9
          clear hT8 hb8 hX9 hk9 hM8 hbd8 hfew8 HTX0
          have hrow9 := HROW.out.but HG9.out
          have HADD := Lib.hid (fun (pv' : Value) (w' : World) hrow hg hob => hrow9.add (w' := w') (p := ⟨⟨s, false, xt⟩, xA, xn, xc⟩) (pv' := pv') (o := aaO s false xA xn xc) HTX.out (fun b hb => ⟨by have := HAPX.out b hb; have := HSZ0.out; have := HS1.out; omega, fun e => by have h1 := HAPX.out b hb; have h2 := HPB.out b (by rw [HN.out]; exact e); omega⟩) hrow hg hob)
          have HROWX := Lib.hid (own_keep hrow9.own (KitC.below_one X9 (aaO s false xA xn xc)))
          have HLITX := Lib.hid (acs_lit (wr := X9) (p := ⟨⟨s, false, xt⟩, xA, xn, xc⟩) (k := X9.heap.size) rfl)
          have HSZX := Lib.hid hrow9.grown.size
          rw [← HN.out] at HROWX
          clear hrow9
          go_upto_region 14 with (fail)
          rw [HX9.out]
          go_wp2_with (at_builtin; refine wpList_append_rdk _ rfl (.tmp 44) (.tmp 46) _ rfl w1.heap.size 66 i0 (.agg #[.string ByteArray.empty, .bool false, .slice none 0 0]) 3 48 Tryz.underlying22 HI.out.1 HI.out.2.1 HI.out.2.2.1 HI.out.2.2.2 rfl (by decide) _ _ _ rfl HROWX.out _ 1 (acsV [⟨⟨s, false, xt⟩, xA, xn, xc⟩]) rfl HLITX.out (acsV_one _) HL1.out HL2.out ?_ ?_; (have := HSZX.out; simp; omega); intro p2 w2 hrow2 hg2 hob2; have HE : Hid (w2.ownsRow w1.heap.size 66 3 p2 (n + 1) (acsV ps ++ acsV [⟨⟨s, false, xt⟩, xA, xn, xc⟩]) ∧ (X9.alloc (aaO s false xA xn xc)).grownBy w2 (Value.slice pA n pc).ownBlock ∧ (p2.ownBlock = (Value.slice pA n pc).ownBlock ∨ p2.ownBlock = some (X9.alloc (aaO s false xA xn xc)).heap.size)) := Lib.hid ⟨hrow2, hg2, hob2⟩; obtain ⟨v0, v1, v2, v3, v4, v5⟩ := cells_6 (row_block HB9.out HROWX.out (by have := HS1.out; omega) HE.out.2.1); clear hrow2 hg2 hob2)
          have hrow5 := HE.out
          rw [HN.out] at hrow5
          have HR5 := Lib.hid (HADD.out _ _ hrow5.1 hrow5.2.1 hrow5.2.2)
          have HB5 := Lib.hid (row_block HB9.out HROWX.out (by have := HS1.out; omega) HE.out.2.1)
          have HZ5 := Lib.hid (row_block HZ9.out HROWX.out (by have := HS1.out; omega) HE.out.2.1)
          have HBW5 := Lib.hid (below_but HB1.out HR5.out.grown (Nat.le_refl _))
          have HTK2 := Lib.hid (fun A n cp W hT hW => take_say C2 3 wCom A n cp w W hT hW)
          clear hrow5
          go_wp2_with (go_at_call 38; (with_reducible refine (HTK2.out _ _ _ _ HT9.out HBW5.out).mono ?_))
          rintro e x7 ⟨A7, n7, cp7, rfl, hT7, hb7⟩
          have HT7 := Lib.hid hT7
          have HR7 := Lib.hid (HR5.out.keep hb7)
          have HB7 := Lib.hid (KitC.block_on HB5.out hb7)
          have HZ7 := Lib.hid (KitC.block_on HZ5.out hb7)
          obtain ⟨z0, z1, z2, z3, z4, z5⟩ := cells_6 HB7.out
          obtain ⟨y0, y1, y2, y3, y4, y5⟩ := free_6 HB7.out
          clear hT7 hb7 v0 v1 v2 v3 v4 v5
          have HEND := Lib.hid (And.intro (setR_block (A := A7) (n := n7) (cp := cp7) (c := take C2 3 wCom) HB7.out) (And.intro (setR_other (E := w.heap.size) (A := A7) (n := n7) (cp := cp7) (c := take C2 3 wCom) HZ7.out (show w.heap.size + 1 ≠ w.heap.size by omega)) (HR7.out.but (setR_but x7 w.heap.size A7 n7 cp7 (take C2 3 wCom)))))
          unfold setR at HEND
          have HAP7 : Hid (∀ p ∈ ps ++ [(⟨⟨s, false, xt⟩, xA, xn, xc⟩ : AP)], 0 < p.xn → (Value.slice p.xA p.xn p.xc).ownBlock ≠ some (w.heap.size + 1)) := Lib.hid (fun p hp h0 => by
            rcases List.mem_append.1 hp with hp | hp
            · exact HAP.out p hp h0
            · rw [List.mem_singleton] at hp
              subst hp
              intro e
              have h1 := HAPX.out _ e
              have h2 := HSZ0.out
              have h3 := HS1.out
              omega)
          obtain ⟨T2, hT2e⟩ : ∃ T2, T2 = take C2 3 wCom := ⟨_, rfl⟩
          obtain ⟨bm, hbm⟩ : ∃ bm, bm = isB C2 3 wCom := ⟨_, rfl⟩
          rw [← hT2e] at HT7 HEND ⊢
          rw [← hbm]
          have HTT := Lib.hid hT2e
          have HBM := Lib.hid hbm
          clear hT2e hbm
          go_wp2_with fail
          go_roundg (if bm = true then T2.L.length + 1 else 0)
          case measure => have h1 := HGH.out; have h2 := HSTEP.out.less; rw [← HBM.out, ← HTT.out] at h2; split <;> (try have := h2 ‹_›) <;> omega
          case rel =>
            have h1 := HSTEP.out.ok
            have h2 := HSTEP.out.len
            have h3 := HSTEP.out.more
            have h4 := HSTEP.out.done
            rw [← HTT.out] at h1 h2 h3 h4
            rw [← HBM.out] at h3 h4
            exact ⟨T2, ps ++ [⟨⟨s, false, xt⟩, xA, xn, xc⟩], A7, n7, cp7, bm, rfl, h1, by have := HLEN.out; omega, HEND.out.1, HT7.out, HEND.out.2.1, HEND.out.2.2, HAP7.out, fun hb => by rw [if_pos hb, List.map_append, List.length_append]; rw [List.length_map] at h3; exact ⟨(h3 hb).1, (h3 hb).2, Nat.lt_succ_self _⟩, fun hb => by rw [List.map_append]; exact h4 hb⟩
        · have HPD : Hid ((nameC (on D), (⟨nameS (on D), true, []⟩ : Ac)) = oneR D) := Lib.hid (by unfold oneR; rw [if_pos hany])
          have HSTEP := Lib.hid (HSI.out _ _ HPD.out)
          have HNAME := Lib.hid (fun A n cp W hT hW => name_say (on D) HOKD.out.on A n cp w W hT hW)
          rw [hany, show take D 1 wAny = on D by unfold take; rw [if_pos hany]] at HTAKE
          obtain ⟨C2, hC2⟩ : ∃ C2, C2 = nameC (on D) := ⟨_, rfl⟩
          obtain ⟨s, hs⟩ : ∃ s, s = nameS (on D) := ⟨_, rfl⟩
          rw [← hC2, ← hs] at HSTEP HNAME
          obtain ⟨OD, hOD⟩ : ∃ OD, OD = on D := ⟨_, rfl⟩
          rw [← hOD] at HTAKE HNAME
          clear hany hC2 hs HPD hOD hn hT0 hD h8 hres
          go_wp2_with ( go_at_call 38; (with_reducible refine (HTAKE.out _ _ _ _ HT1.out HBA.out).mono ?_))
          rintro e x2 ⟨A2, n2, cp2, rfl, hT2, hb2⟩
          have HT2 := Lib.hid hT2
          have HB2 := Lib.hid (KitC.block_on (KitC.block_on HVB.out (KitC.below_one _ _)) hb2)
          have HZ2 := Lib.hid (KitC.block_on (KitC.block_on HVZ.out (KitC.below_one _ _)) hb2)
          have hka2 := KitC.block_on (heap_alloc_new V (aaO ⟨#[]⟩ false none 0 0)) hb2
          have HG2 := Lib.hid (but_trans HGV.out (but_below (B := w.heap.size) (below_two' (KitC.below_one V (aaO ⟨#[]⟩ false none 0 0)) hb2)))
          try rw [HKA.out] at hka2
          have HKA2 := Lib.hid hka2
          have hk2lt : V.heap.size < x2.heap.size := (Array.getElem?_eq_some_iff.1 hka2).1
          have hk2ne : ¬ V.heap.size = x2.heap.size := by omega
          have hk2ne2 : ¬ x2.heap.size = V.heap.size := by omega
          obtain ⟨a0, a1, a2⟩ := cells_3 hka2
          obtain ⟨f0, f1, f2⟩ := free_3 hka2
          have HX3a := Lib.hid (KitC.block_on (set_other (K := V.heap.size) (i := 1) (u := .bool true) HB2.out (by omega : w.heap.size ≠ V.heap.size)) (KitC.below_one (x2.setCell ⟨V.heap.size, 1, none⟩ (.bool true)) (arO A2 n2 cp2 OD)))
          have HX3z := Lib.hid (KitC.block_on (set_other (K := V.heap.size) (i := 1) (u := .bool true) HZ2.out (by have := HVz.out; omega : w.heap.size + 1 ≠ V.heap.size)) (KitC.below_one (x2.setCell ⟨V.heap.size, 1, none⟩ (.bool true)) (arO A2 n2 cp2 OD)))
          have HX3k : Hid (((x2.setCell ⟨V.heap.size, 1, none⟩ (.bool true)).alloc (arO A2 n2 cp2 OD)).heap[V.heap.size]? = some (aaO ⟨#[]⟩ true none 0 0)) := Lib.hid (KitC.block_on (block_setCell' HKA2.out 1 _) (KitC.below_one _ _))
          have HG3 : Hid (wr.grownBy ((x2.setCell ⟨V.heap.size, 1, none⟩ (.bool true)).alloc (arO A2 n2 cp2 OD)) (some w.heap.size)) := Lib.hid (but_alloc (but_set_new HG2.out (by have := HVs.out; have := HKA.out; omega) 1 _) _)
          obtain ⟨X3, hX3⟩ : ∃ X3, (x2.setCell ⟨V.heap.size, 1, none⟩ (.bool true)).alloc (arO A2 n2 cp2 OD) = X3 := ⟨_, rfl⟩
          rw [hX3] at HX3a HX3z HX3k HG3
          have HX3 := Lib.hid hX3
          have HBX3 := Lib.hid (below_but HB1.out (but_trans HROW.out.grown HG3.out) (Nat.le_refl _))
          clear hT2 hb2 hka2 hX3
          go_wp2_with (rw [HX3.out]; go_at_call 39; (with_reducible refine (HNAME.out _ _ _ _ HT2.out HBX3.out).mono ?_))
          rintro e x4 ⟨A9, n9, cp9, rfl, hT4, hb4⟩
          have HT9 := Lib.hid hT4
          have HB4 := Lib.hid (KitC.block_on HX3a.out hb4)
          have HZ4 := Lib.hid (KitC.block_on HX3z.out hb4)
          have HK4 := Lib.hid (KitC.block_on HX3k.out hb4)
          have HG4 := Lib.hid (but_trans HG3.out (but_below (B := w.heap.size) hb4))
          obtain ⟨g0, g1, g2, g3, g4, g5⟩ := cells_6 HB4.out
          obtain ⟨l0, l1, l2, l3, l4, l5⟩ := free_6 HB4.out
          obtain ⟨a0, a1, a2⟩ := cells_3 HK4.out
          obtain ⟨f0, f1, f2⟩ := free_3 HK4.out
          have HB9 := Lib.hid (set_other (K := V.heap.size) (i := 0) (u := .string s) (setR_block (A := A9) (n := n9) (cp := cp9) (c := C2) HB4.out) (by omega : w.heap.size ≠ V.heap.size))
          have HZ9 := Lib.hid (set_other (K := V.heap.size) (i := 0) (u := .string s) (setR_other (E := w.heap.size) (A := A9) (n := n9) (cp := cp9) (c := C2) HZ4.out (show w.heap.size + 1 ≠ w.heap.size by omega)) (by have := HVz.out; omega : w.heap.size + 1 ≠ V.heap.size))
          have hk9 : ((setR x4 w.heap.size A9 n9 cp9 C2).setCell ⟨V.heap.size, 0, none⟩ (.string s)).heap[V.heap.size]? = some (aaO s true none 0 0) := block_setCell' (setR_other (E := w.heap.size) (A := A9) (n := n9) (cp := cp9) (c := C2) HK4.out (by omega : V.heap.size ≠ w.heap.size)) 0 _
          have HG9 : Hid (wr.grownBy ((setR x4 w.heap.size A9 n9 cp9 C2).setCell ⟨V.heap.size, 0, none⟩ (.string s)) (some w.heap.size)) := Lib.hid (but_set_new (but_trans HG4.out (setR_but _ _ _ _ _ _)) (by have := HVs.out; have := HKA.out; omega) 0 _)
          obtain ⟨j0, j1, j2⟩ := cells_3 hk9
          obtain ⟨X9, hX9⟩ : ∃ X9, (setR x4 w.heap.size A9 n9 cp9 C2).setCell ⟨V.heap.size, 0, none⟩ (.string s) = X9 := ⟨_, rfl⟩
          rw [hX9] at HB9 HZ9 HG9 j0 j1 j2
          have HX9 := Lib.hid hX9
          have HSZ9 : Hid (x4.heap.size = X9.heap.size) := Lib.hid (by rw [← hX9]; simp [setR, World.setCell])
          unfold setR at HX9
          have HTX : Hid (Tms X9 (.slice none 0 0) []) := Lib.hid ⟨0, rfl, Rdk.nil 3 _⟩
          have HAPX : Hid (∀ b, (Value.slice none 0 0).ownBlock = some b → wr.heap.size ≤ b) := Lib.hid (fun b hb => by cases hb)
          clear hT4 hb4 hX9 hk9
          have hrow9 := HROW.out.but HG9.out
          have HADD := Lib.hid (fun (pv' : Value) (w' : World) hrow hg hob => hrow9.add (w' := w') (p := ⟨⟨s, true, []⟩, none, 0, 0⟩) (pv' := pv') (o := aaO s true none 0 0) HTX.out (fun b hb => ⟨by have := HAPX.out b hb; have := HSZ0.out; have := HS1.out; omega, fun e => by have h1 := HAPX.out b hb; have h2 := HPB.out b (by rw [HN.out]; exact e); omega⟩) hrow hg hob)
          have HROWX := Lib.hid (own_keep hrow9.own (KitC.below_one X9 (aaO s true none 0 0)))
          have HLITX := Lib.hid (acs_lit (wr := X9) (p := ⟨⟨s, true, []⟩, none, 0, 0⟩) (k := X9.heap.size) rfl)
          have HSZX := Lib.hid hrow9.grown.size
          rw [← HN.out] at HROWX
          clear hrow9
          go_upto_region 14 with (fail)
          rw [HX9.out]
          go_wp2_with (at_builtin; refine wpList_append_rdk _ rfl (.tmp 44) (.tmp 46) _ rfl w1.heap.size 66 i0 (.agg #[.string ByteArray.empty, .bool false, .slice none 0 0]) 3 48 Tryz.underlying22 HI.out.1 HI.out.2.1 HI.out.2.2.1 HI.out.2.2.2 rfl (by decide) _ _ _ rfl HROWX.out _ 1 (acsV [⟨⟨s, true, []⟩, none, 0, 0⟩]) rfl HLITX.out (acsV_one _) HL1.out HL2.out ?_ ?_; (have := HSZX.out; simp; omega); intro p2 w2 hrow2 hg2 hob2; have HE : Hid (w2.ownsRow w1.heap.size 66 3 p2 (n + 1) (acsV ps ++ acsV [⟨⟨s, true, []⟩, none, 0, 0⟩]) ∧ (X9.alloc (aaO s true none 0 0)).grownBy w2 (Value.slice pA n pc).ownBlock ∧ (p2.ownBlock = (Value.slice pA n pc).ownBlock ∨ p2.ownBlock = some (X9.alloc (aaO s true none 0 0)).heap.size)) := Lib.hid ⟨hrow2, hg2, hob2⟩; obtain ⟨v0, v1, v2, v3, v4, v5⟩ := cells_6 (row_block HB9.out HROWX.out (by have := HS1.out; omega) HE.out.2.1); clear hrow2 hg2 hob2)
          have hrow5 := HE.out
          rw [HN.out] at hrow5
          have HR5 := Lib.hid (HADD.out _ _ hrow5.1 hrow5.2.1 hrow5.2.2)
          have HB5 := Lib.hid (row_block HB9.out HROWX.out (by have := HS1.out; omega) HE.out.2.1)
          have HZ5 := Lib.hid (row_block HZ9.out HROWX.out (by have := HS1.out; omega) HE.out.2.1)
          have HBW5 := Lib.hid (below_but HB1.out HR5.out.grown (Nat.le_refl _))
          have HTK2 := Lib.hid (fun A n cp W hT hW => take_say C2 3 wCom A n cp w W hT hW)
          clear hrow5
          go_wp2_with (go_at_call 38; (with_reducible refine (HTK2.out _ _ _ _ HT9.out HBW5.out).mono ?_))
          rintro e x7 ⟨A7, n7, cp7, rfl, hT7, hb7⟩
          have HT7 := Lib.hid hT7
          have HR7 := Lib.hid (HR5.out.keep hb7)
          have HB7 := Lib.hid (KitC.block_on HB5.out hb7)
          have HZ7 := Lib.hid (KitC.block_on HZ5.out hb7)
          obtain ⟨z0, z1, z2, z3, z4, z5⟩ := cells_6 HB7.out
          obtain ⟨y0, y1, y2, y3, y4, y5⟩ := free_6 HB7.out
          clear hT7 hb7 v0 v1 v2 v3 v4 v5
          have HEND := Lib.hid (And.intro (setR_block (A := A7) (n := n7) (cp := cp7) (c := take C2 3 wCom) HB7.out) (And.intro (setR_other (E := w.heap.size) (A := A7) (n := n7) (cp := cp7) (c := take C2 3 wCom) HZ7.out (show w.heap.size + 1 ≠ w.heap.size by omega)) (HR7.out.but (setR_but x7 w.heap.size A7 n7 cp7 (take C2 3 wCom)))))
          unfold setR at HEND
          have HAP7 : Hid (∀ p ∈ ps ++ [(⟨⟨s, true, []⟩, none, 0, 0⟩ : AP)], 0 < p.xn → (Value.slice p.xA p.xn p.xc).ownBlock ≠ some (w.heap.size + 1)) := Lib.hid (fun p hp h0 => by
            rcases List.mem_append.1 hp with hp | hp
            · exact HAP.out p hp h0
            · rw [List.mem_singleton] at hp
              subst hp
              intro e
              have h1 := HAPX.out _ e
              have h2 := HSZ0.out
              have h3 := HS1.out
              omega)
          obtain ⟨T2, hT2e⟩ : ∃ T2, T2 = take C2 3 wCom := ⟨_, rfl⟩
          obtain ⟨bm, hbm⟩ : ∃ bm, bm = isB C2 3 wCom := ⟨_, rfl⟩
          rw [← hT2e] at HT7 HEND ⊢
          rw [← hbm]
          have HTT := Lib.hid hT2e
          have HBM := Lib.hid hbm
          clear hT2e hbm
          go_wp2_with fail
          go_roundg (if bm = true then T2.L.length + 1 else 0)
          case measure => have h1 := HGH.out; have h2 := HSTEP.out.less; rw [← HBM.out, ← HTT.out] at h2; split <;> (try have := h2 ‹_›) <;> omega
          case rel =>
            have h1 := HSTEP.out.ok
            have h2 := HSTEP.out.len
            have h3 := HSTEP.out.more
            have h4 := HSTEP.out.done
            rw [← HTT.out] at h1 h2 h3 h4
            rw [← HBM.out] at h3 h4
            exact ⟨T2, ps ++ [⟨⟨s, true, []⟩, none, 0, 0⟩], A7, n7, cp7, bm, rfl, h1, by have := HLEN.out; omega, HEND.out.1, HT7.out, HEND.out.2.1, HEND.out.2.2, HAP7.out, fun hb => by rw [if_pos hb, List.map_append, List.length_append]; rw [List.length_map] at h3; exact ⟨(h3 hb).1, (h3 hb).2, Nat.lt_succ_self _⟩, fun hb => by rw [List.map_append]; exact h4 hb⟩
end Go.Proofs.YtcfcpbkeedfbpaaGreatDoor

namespace Go.Proofs.YtcfcpbkeedfbpaaGreatDoor
open Go.RowKit TermSpec Go.BigFrame
set_option maxRecDepth 100000

def TmSameRel (W : World) (n : Nat) (v : Value) (w : World) : Prop := ∃ k : Nat, k ≤ n ∧ v = .int .i64 k ∧ Below W.heap.size W w
set_option maxHeartbeats 2000000 in
theorem tmsame_any (A1 A2 : Option Addr) (n1 n2 c1 c2 : Nat) (l : List Tm) (w : World) (h1 : Tms w (.slice A1 n1 c1) l) (h2 : Tms w (.slice A2 n2 c2) l) (hn1 : n1 = l.length) (hn2 : n2 = l.length) (hm : n1 ≤ 9223372036854775806) :
    Calls Tryz.prog 36 #[.slice A1 n1 c1, .slice A2 n2 c2] w (RetB w true) := by
  obtain rfl : n2 = n1 := hn2.trans hn1.symm
  have HT := Lib.hid (And.intro h1 h2)
  have HN := Lib.hid hn1
  clear h1 h2 hn1 hn2
  go_enter Tryz.func36, Tryz.ntmps36
  go_wp2_with fail
  go_loopw [5] (fun v wr => TmSameRel w n2 v wr) (fun v _ => n2 - (intOf v).toNat)
  case atStart => exact ⟨0, Nat.zero_le _, rfl, Below.refl _ _⟩
  case round =>
    obtain ⟨k, hk, rfl, hbw⟩ := hrel
    by_cases hlt : k < n2
    · obtain ⟨t, ht⟩ : ∃ t, l[k]? = some t := get_some (by rw [← HN.out]; exact hlt)
      obtain ⟨b1, off1, rfl, hb1, x0, x1, x2⟩ := (HT.out.1.keep hbw).at_ ht
      obtain ⟨b2, off2, rfl, hb2, y0, y1, y2⟩ := (HT.out.2.keep hbw).at_ ht
      obtain ⟨o, ho⟩ : ∃ o, o = t.op := ⟨_, rfl⟩
      obtain ⟨nn, hnn⟩ : ∃ nn, nn = t.n := ⟨_, rfl⟩
      obtain ⟨s, hs⟩ : ∃ s, s = t.s := ⟨_, rfl⟩
      rw [← ho] at x0 y0
      rw [← hnn] at x1 y1
      rw [← hs] at x2 y2
      have hltI : (k : Int) < (n2 : Int) := by omega
      have HW := Lib.hid hbw
      clear ho hnn hs ht hbw
      go_wp2_with fail
      go_big_quiet (fail)
      go_wp2_with fail
      go_roundw
      case rel => exact ⟨k + 1, hlt, by simp, below_drewN HW.out _⟩
      case measure => simp [intOf]; omega
    · go_wp2_with fail
      go_ret
      exact ⟨rfl, hbw⟩
end Go.Proofs.YtcfcpbkeedfbpaaGreatDoor
