/- ActDo, ActCheck, ActRunSpec, ActRun, joined. -/
import Derived.Test.YtcfcpbkeedfbpaaGreatDoorMActPuts05
import Derived.Test.YtcfcpbkeedfbpaaGreatDoorMActPuts06
import Derived.Deep.RegionHeld3
import Derived.Test.YtcfcpbkeedfbpaaGreatDoorMActPuts03
import Derived.Test.YtcfcpbkeedfbpaaGreatDoorMActPuts01
import Derived.Test.YtcfcpbkeedfbpaaGreatDoorMActPuts04
namespace Go.Proofs.YtcfcpbkeedfbpaaGreatDoor
open Go.RowKit Go.Sort TermSpec EvalSpec ActSpec NamesSpec
set_option maxRecDepth 100000

def DoRel (w0 : World) (s : ByteArray) (any : Bool) (A : Option Addr) (n c : Nat) (p : EP) (F : V4 → List V4) (l : List V4) (pv k : Value) (wr : World) : Prop :=
  ∃ m : Nat, m ≤ l.length ∧ k = .int .i64 m ∧ DoOut w0 s any A n c p pv ((l.take m).flatMap F) wr
def DoRel2 (w0 : World) (s : ByteArray) (any : Bool) (A : Option Addr) (n c : Nat) (p : EP) (vb : Nat) (y : V4) (i : Nat) (gv : Value) (G : List Int) (xs : List V4) (pv k : Value) (wr : World) : Prop :=
  ∃ m : Nat, m ≤ G.length ∧ k = .int .i64 m ∧ DoIn w0 s any A n c p vb y i gv G pv (xs ++ (G.take m).map (y.set i)) wr
theorem do_next {F : V4 → List V4} {l : List V4} {k : Nat} {y : V4} (h : l[k]? = some y) : (l.take (k + 1)).flatMap F = (l.take k).flatMap F ++ F y := by
  rw [take_next h, List.flatMap_append, List.flatMap_cons, List.flatMap_nil, List.append_nil]
theorem map_next {G : List Int} {j : Nat} {m : Int} {f : Int → V4} (h : G[j]? = some m) : (G.take (j + 1)).map f = (G.take j).map f ++ [f m] := by
  rw [take_next h, List.map_append]; rfl
theorem doOut_len {w0 : World} {s : ByteArray} {any : Bool} {A : Option Addr} {n c : Nat} {p : EP} {pv : Value} {xs : List V4} {wr : World} (h : DoOut w0 s any A n c p pv xs wr) : RowV w0 wr pv xs := ⟨own_weak h.row (by omega), h.below⟩
theorem compact_any {W w : World} {g cap : Nat} {xs ys : List V4} (h : RowV W w (.slice (some ⟨g, 0, none⟩) ys.length cap) ys) (hl : ys.length = xs.length) (hL : 0 < xs.length ∧ xs.length ≤ 4096) (hp : ys.Perm xs) (hs : Slow ys) :
    Calls Tryz.prog 79 #[.slice (some ⟨g, 0, none⟩) xs.length cap] w (CompV4Post W w (allV [] xs)) := by
  have h1 := compact_arr (W := W) (w := w) (g := g) (cap := cap) ys.toArray (by simpa using h) (by simp; omega) (by simp; omega)
  have h2 : Lib.compactUpTo ys.toArray ys.toArray.size = allV [] xs := by
    rw [← compactV_all hp hs]
    rfl
  rw [h2] at h1
  rw [← hl]
  simpa using h1
/-- Where the inner loop begins. -/
theorem doIn_start {w0 : World} {s : ByteArray} {any : Bool} {A : Option Addr} {n c : Nat} {p : EP} {pv : Value} {xs : List V4} {wr V W : World} {y : V4} {i : Nat} {gv : Value} {G : List Int}
    (h : DoOut w0 s any A n c p pv xs wr) (hV : DoOut w0 s any A n c p pv xs V) (hvb : V.heap[wr.heap.size]? = some (v4B y 51)) (hb : Below V.heap.size V W) (hg : Rd W gv (intV G)) (hbey : Beyond V.heap.size gv) :
    DoIn w0 s any A n c p wr.heap.size y i gv G pv xs W := by
  have hlt := (Array.getElem?_eq_some_iff.1 hvb).1
  have hbd := fun j hj => (own_block_bd h.row j hj).2
  refine ⟨hV.on hb, h.size, Nat.lt_of_lt_of_le hlt hb.size, ⟨y, KitC.block_on hvb hb, fun _ => rfl⟩, fun e => by have := hbd _ e; omega, hg, fun b off n c he h0 => ?_⟩
  have := hbey b off n c he h0
  exact ⟨by omega, fun e => by have := hbd _ e; omega⟩
set_option maxHeartbeats 8000000 in
theorem do_any (p : EP) (e : Ev) (a : Ac) (i : Nat) (v : Vr) (A : Option Addr) (n c : Nat) (w : World) (he : EnvIn w p e) (hs : SmallA a) (ht : Tms w (.slice A n c) a.x) (hv : varOf e a = some (i, v)) (hi4 : i < 4) (hf : VFit v)
    (h1 : a.any = false → chkE e a.x = 0) (h2 : a.any = true → spanB v = true) (N : Value) (l : List V4) (hN : V4s w N l) (h0 : 0 < l.length) (h64 : l.length ≤ 64) :
    Calls Tryz.prog 44 #[.agg #[.string a.s, .bool a.any, .slice A n c], .int .i64 i, envV p e, N] w (CompV4Post w w (allV [] (l.flatMap (stepsA e a i v)))) := by
  obtain ⟨NA, Nn, Nc, rfl, hNn, hNc⟩ := hN.shape
  obtain ⟨i0, hi, hz0, hz1, hz2⟩ := info_parts inf_v4
  have HI := Lib.hid (And.intro hi (And.intro hz0 (And.intro hz1 hz2)))
  have HNN := Lib.hid hN
  have HNL := Lib.hid hNn
  have HT := Lib.hid ht
  have HE := Lib.hid he
  have hvi := varOf_lt hv
  have HVI := Lib.hid hvi
  have hin := get_lt hvi
  have HGV := Lib.hid (fun y w he ht => given_any p (envAt e y) a v A n c w he hs ht hf h1 h2)
  have HGL := Lib.hid (fun y => givenL_length (envAt e y) a v h2)
  obtain ⟨F, hF⟩ : ∃ F, F = stepsA e a i v := ⟨_, rfl⟩
  have HF : Hid (∀ y, F y = (givenL (envAt e y) a v).map (y.set i)) := Lib.hid (fun y => by rw [hF]; exact stepsA_given e a i v y)
  rw [← hF]
  have HFL : Hid (∀ y, 0 < (F y).length ∧ (F y).length ≤ 64) := Lib.hid (fun y => by rw [HF.out, List.length_map]; exact HGL.out y)
  have HL : Hid (0 < (l.flatMap F).length ∧ (l.flatMap F).length ≤ 4096) := Lib.hid (by
    refine ⟨flat_pos (fun x => (HFL.out x).1) h0, ?_⟩
    have := flat_le (fun x => (HFL.out x).2) l
    omega)
  have HI4 : Hid (i = 0 ∨ i = 1 ∨ i = 2 ∨ i = 3) := Lib.hid (by omega)
  obtain ⟨s, any, x⟩ := a
  simp only at HT HGV HGL HF ⊢
  obtain ⟨E, hE⟩ : ∃ E, E = e := ⟨_, rfl⟩
  rw [← hE] at HE HVI hin HGV HGL HF
  obtain ⟨vA, vn, vc, iA, im, ic⟩ := p
  have HVN : Hid (vn = E.vars.length) := Lib.hid (HE.out.vars.1)
  have hcap := HE.out.vars.cap
  simp only at hcap
  obtain ⟨vars, v0, v1, v2, v3, ins⟩ := e
  clear hE hv he hvi hs ht hf h1 h2 hi hz0 hz1 hz2 hF hN hNn
  change Calls _ _ #[_, _, .agg #[.slice vA vn vc, .int .i64 v0, .int .i64 v1, .int .i64 v2, .int .i64 v3, .slice iA im ic], .slice NA Nn Nc] _ _
  have hin' : (i : Int) < vn := by have := HVN.out; omega
  have HST : Hid (DoOut w s any A n c ⟨vA, vn, vc, iA, im, ic⟩ (.slice none 0 0) [] ((w.alloc (.cells #[.string s, .bool any, .slice A n c] 66)).alloc (.cells #[.slice vA vn vc, .int .i64 v0, .int .i64 v1, .int .i64 v2, .int .i64 v3, .slice iA im ic] 54))) := Lib.hid (by
    obtain ⟨B1, B2, hbb, _⟩ := KitC.pair_blocks (Below.refl ((w.alloc (.cells #[.string s, .bool any, .slice A n c] 66)).alloc (.cells #[.slice vA vn vc, .int .i64 v0, .int .i64 v1, .int .i64 v2, .int .i64 v3, .slice iA im ic] 54)).heap.size _)
    exact ⟨hbb, B1, ⟨⟨v0, v1, v2, v3⟩, B2⟩, rfl, .inl ⟨rfl, rfl⟩⟩)
  obtain ⟨w1, hw1⟩ : ∃ w1, (w.alloc (.cells #[.string s, .bool any, .slice A n c] 66)).alloc (.cells #[.slice vA vn vc, .int .i64 v0, .int .i64 v1, .int .i64 v2, .int .i64 v3, .slice iA im ic] 54) = w1 := ⟨_, rfl⟩
  rw [hw1] at HST
  have HW := Lib.hid hw1
  clear hw1
  go_enter Tryz.func44, Tryz.ntmps44
  go_wp2_with fail
  rw [HW.out]
  go_loopw [9, 11, 13, 16] (fun pv _ _ k wr => DoRel w s any A n c ⟨vA, vn, vc, iA, im, ic⟩ F l pv k wr) (fun _ _ _ k _ => l.length - (Go.RowKit.intOf k).toNat)
  case atStart => exact ⟨0, Nat.zero_le _, rfl, HST.out⟩
  case round =>
    obtain ⟨k, hk, rfl, hout⟩ := hrel
    have HOUT := Lib.hid hout
    by_cases hlt : k < Nn
    · obtain ⟨y, hy⟩ : ∃ y, l[k]? = some y := get_some (by have := HNL.out; omega)
      obtain ⟨bn, offn, rfl, hbn, e0, e1, e2, e3⟩ := (HNN.out.keep HOUT.out.below).at_ hy
      have hkI : (k : Int) < Nn := by omega
      have HY := Lib.hid hy
      have HO1 := Lib.hid (hout.on (KitC.below_one wr (v4O y)))
      have HVB := Lib.hid (heap_alloc_new wr (v4O y))
      have HO2 := Lib.hid (HO1.out.set y)
      obtain ⟨yy, henv⟩ := HO1.out.env
      obtain ⟨f0, f1, f2, f3, f4, f5⟩ := free_6 henv
      obtain ⟨m0, m1, m2, m3, m4, m5⟩ := cells_6 henv
      have HENV := Lib.hid (st4_block (x := y) henv)
      have HVB2 := Lib.hid (st4_other (x := y) HVB.out (show wr.heap.size ≠ w.heap.size + 1 by have := HOUT.out.size; omega))
      obtain ⟨S, hS⟩ : ∃ S, st4 (wr.alloc (v4O y)) (w.heap.size + 1) y = S := ⟨_, rfl⟩
      have HSS := Lib.hid hS
      rw [hS] at HO2 HENV HVB2
      unfold st4 at HSS
      clear hy hS henv hout
      obtain ⟨B1, B2, B3, B4, B5, B6⟩ := cells_6 HENV.out
      obtain ⟨a0, a1, a2⟩ := cells_3 HO2.out.act
      obtain ⟨bv, ov, rfl, hbv, d0, d1, d2, d3⟩ := (HE.out.vars.keep HO2.out.below).at_ HVI.out
      obtain ⟨z0, z1, z2, z3⟩ := cells_4 HVB.out
      have HG : Hid (∀ W, Below S.heap.size S W → Calls Tryz.prog 77 #[.agg #[.string s, .bool any, .slice A n c], .agg #[.string v.s, .int .i64 v.lo, .int .i64 v.hi, .int .i64 v.ini], .agg #[.slice (some ⟨bv, ov, none⟩) vn vc, .int .i64 y.a, .int .i64 y.b, .int .i64 y.c, .int .i64 y.d, .slice iA im ic]] W (RetIntsN W (givenL (envAt E y) ⟨s, any, x⟩ v))) :=
        Lib.hid (fun W hW => HGV.out y W (envIn_at (HE.out.keep (below_two' HO2.out.below hW)) y) (HT.out.keep (below_two' HO2.out.below hW)))
      have HFY := HF.out y
      obtain ⟨G, hG⟩ : ∃ G, G = givenL (envAt E y) ⟨s, any, x⟩ v := ⟨_, rfl⟩
      rw [← hG] at HG HFY
      have HFYH := Lib.hid HFY
      have HG64 : Hid (G.length ≤ 64) := Lib.hid (by rw [hG]; exact (HGL.out y).2)
      have HDS : Hid (∀ W gv, Below S.heap.size S W → Rd W gv (intV G) → Beyond S.heap.size gv → DoIn w s any A n c ⟨some ⟨bv, ov, none⟩, vn, vc, iA, im, ic⟩ wr.heap.size y i gv G u9 ((l.take k).flatMap F) W) := Lib.hid (fun W gv h1 h2 h3 => doIn_start HOUT.out HO2.out HVB2.out h1 h2 h3)
      clear HFY hG
      obtain ⟨vs, lo, hib, ini⟩ := v
      simp only at d0 d1 d2 d3 HG
      go_wp2_with fail
      rw [HSS.out]
      go_region_held3 (fun w' => w'.cell? ⟨w.heap.size, 0, none⟩ = some (.string s) ∧ w'.cell? ⟨w.heap.size, 1, none⟩ = some (.bool any) ∧ w'.cell? ⟨w.heap.size, 2, none⟩ = some (.slice A n c) ∧ w'.cell? ⟨w.heap.size + 1, 0, none⟩ = some (.slice (some ⟨bv, ov, none⟩) vn vc) ∧ w'.cell? ⟨w.heap.size + 1, 1, none⟩ = some (.int .i64 y.a) ∧ w'.cell? ⟨w.heap.size + 1, 2, none⟩ = some (.int .i64 y.b) ∧ w'.cell? ⟨w.heap.size + 1, 3, none⟩ = some (.int .i64 y.c) ∧ w'.cell? ⟨w.heap.size + 1, 4, none⟩ = some (.int .i64 y.d) ∧ w'.cell? ⟨w.heap.size + 1, 5, none⟩ = some (.slice iA im ic) ∧ w'.cell? ⟨bv, ov + i * 4, none⟩ = some (.string vs) ∧ w'.cell? ⟨bv, ov + i * 4 + 1, none⟩ = some (.int .i64 lo) ∧ w'.cell? ⟨bv, ov + i * 4 + 2, none⟩ = some (.int .i64 hib) ∧ w'.cell? ⟨bv, ov + i * 4 + 3, none⟩ = some (.int .i64 ini)) (go_keep)
        ((go_at_call 77; refine (HG.out _ (Below.refl _ _).drew).mono ?_; rintro e x4 ⟨gv, rfl, hgv, hb4', hbey⟩; have hb4 := undrew hb4'; clear hb4'; have HD4 := Lib.hid (HDS.out x4 gv hb4 hgv hbey); obtain ⟨gA, gn, gc, rfl, hgn, hgc, _⟩ := hgv.ints; have HGN := Lib.hid hgn; obtain ⟨p0, p1, p2⟩ := cells_3 (KitC.block_on HO2.out.act hb4); obtain ⟨q0, q1, q2, q3, q4, q5⟩ := cells_6 (KitC.block_on HENV.out hb4); have s0 := (hb4.cell (p := ⟨bv, ov + i * 4, none⟩) hbv).trans d0; have s1 := (hb4.cell (p := ⟨bv, ov + i * 4 + 1, none⟩) hbv).trans d1; have s2 := (hb4.cell (p := ⟨bv, ov + i * 4 + 2, none⟩) hbv).trans d2; have s3 := (hb4.cell (p := ⟨bv, ov + i * 4 + 3, none⟩) hbv).trans d3; clear hb4 hgv hbey hgn))
      clear p0 p1 p2 q0 q1 q2 q3 q4 q5 s0 s1 s2 s3 f0 f1 f2 f3 f4 f5 m0 m1 m2 m3 m4 m5 B1 B2 B3 B4 B5 B6 a0 a1 a2 d0 d1 d2 d3 z0 z1 z2 z3 e0 e1 e2 e3
      obtain ⟨XS, hXS⟩ : ∃ XS, XS = (l.take k).flatMap F := ⟨_, rfl⟩
      have HXS := Lib.hid hXS
      have HXL : Hid (XS.length ≤ 4096) := Lib.hid (by
        rw [hXS]
        have h1 := flat_le (fun x => (HFL.out x).2) (l.take k)
        have h2 := List.length_take_le k l
        omega)
      rw [← hXS] at HD4
      obtain ⟨vb, hvb⟩ : ∃ vb, wr.heap.size = vb := ⟨_, rfl⟩
      rw [hvb] at HD4 ⊢
      clear HDS HG HSS HO1 HO2 HVB HVB2 HENV hXS hvb HOUT
      go_wp2_with fail
      go_loopw [9, 13, 31] (fun pv _ k wr => DoRel2 w s any A n c ⟨some ⟨bv, ov, none⟩, vn, vc, iA, im, ic⟩ vb y i (.slice gA gn gc) G XS pv k wr) (fun _ _ k _ => G.length - (Go.RowKit.intOf k).toNat)
      case atStart => exact ⟨0, Nat.zero_le _, rfl, by simpa using HD4.out⟩
      case round =>
        obtain ⟨j, hj, rfl, hin⟩ := hrel
        have HIN := Lib.hid hin
        by_cases hjl : j < gn
        · skip -- INNER
          obtain ⟨m, hm⟩ : ∃ m, G[j]? = some m := get_some (by have := HGN.out; omega)
          obtain ⟨gA', gn', gc', heq, hgl, hgc', hgcell⟩ := HIN.out.nums.ints
          injection heq with q1 q2 q3
          subst q1; subst q2; subst q3
          obtain ⟨bg, og, rfl, hbg, hgcell⟩ := hgcell (by omega)
          have hgm := hgcell j m hm
          have hjI : (j : Int) < gn := by omega
          have hj64 : (j : Int) + 1 ≤ 9223372036854775807 := by have := HGN.out; have := HG64.out; omega
          have HM := Lib.hid hm
          obtain ⟨z, hz, hzz⟩ := HIN.out.vals
          have HZ := Lib.hid hzz
          obtain ⟨k0, k1, k2, k3⟩ := cells_4 hz
          obtain ⟨r0, r1, r2, r3⟩ := free_4 hz
          have HIN2 := Lib.hid (HIN.out.put hi4 m).1
          obtain ⟨W2, hW2⟩ : ∃ W2, wr.setCell ⟨vb, i, none⟩ (.int .i64 m) = W2 := ⟨_, rfl⟩
          rw [hW2] at HIN2
          have HW2 := Lib.hid hW2
          have HL0 : Hid ((XS ++ (G.take j).map (y.set i)).length ≤ 5000) := Lib.hid (by
            have h1 := HXL.out
            have h2 := HG64.out
            have h3 := List.length_take_le j G
            rw [List.length_append, List.length_map]
            omega)
          have HL1 : Hid ((XS ++ (G.take j).map (y.set i)).length + 1 ≤ maxLen) := Lib.hid (by have := HL0.out; unfold maxLen; omega)
          have HL2 : Hid (((XS ++ (G.take j).map (y.set i)).length + 1) * 32 ≤ 140737488355328) := Lib.hid (by have := HL0.out; omega)
          clear hm hgl hgcell hz hzz hW2 hin
          rcases HI4.out with rfl | rfl | rfl | rfl
          · have HU : Hid (y.set 0 m = ⟨m, z.b, z.c, z.d⟩) := Lib.hid ((HZ.out m).symm)
            have HXA := Lib.hid (v4_lit (w := W2) (k := wr.heap.size) (x := ⟨m, z.b, z.c, z.d⟩) (by rw [← HW2.out]; simp [World.setCell])).rdk
            have HIN3 := Lib.hid (HIN2.out.on (KitC.below_one W2 (.cells #[.int .i64 m, .int .i64 z.b, .int .i64 z.c, .int .i64 z.d] 51)))
            go_wp2_with (rw [HW2.out]; at_builtin; refine wpList_append_rdk _ rfl (.tmp 38) (.tmp 40) _ rfl (w.heap.size + 2) 51 i0 (.agg #[.int .i64 0, .int .i64 0, .int .i64 0, .int .i64 0]) 4 32 Tryz.underlying56 HI.out.1 HI.out.2.1 HI.out.2.2.1 HI.out.2.2.2 rfl (by decide) _ _ _ rfl HIN3.out.row _ 1 (v4sV [⟨m, z.b, z.c, z.d⟩]) rfl HXA.out (v4sV_one _) HL1.out HL2.out ?_ ?_; (exact HIN3.out.size); intro p2 w2 hrow2 hg2 hob2; have HADD := Lib.hid (HIN3.out.add (x := ⟨m, z.b, z.c, z.d⟩) hrow2 hg2 hob2); clear hrow2 hg2 hob2)
            go_roundw
            case rel => (refine ⟨_, _, _, ?_, rfl, rfl, rfl⟩; exact ⟨j + 1, by have := HGN.out; omega, by go_num, by rw [map_next HM.out, HU.out, ← List.append_assoc]; exact HADD.out⟩)
            case measure => have := HGN.out; simp [Go.RowKit.intOf]; omega
          · have HU : Hid (y.set 1 m = ⟨z.a, m, z.c, z.d⟩) := Lib.hid ((HZ.out m).symm)
            have HXA := Lib.hid (v4_lit (w := W2) (k := wr.heap.size) (x := ⟨z.a, m, z.c, z.d⟩) (by rw [← HW2.out]; simp [World.setCell])).rdk
            have HIN3 := Lib.hid (HIN2.out.on (KitC.below_one W2 (.cells #[.int .i64 z.a, .int .i64 m, .int .i64 z.c, .int .i64 z.d] 51)))
            go_wp2_with (rw [HW2.out]; at_builtin; refine wpList_append_rdk _ rfl (.tmp 38) (.tmp 40) _ rfl (w.heap.size + 2) 51 i0 (.agg #[.int .i64 0, .int .i64 0, .int .i64 0, .int .i64 0]) 4 32 Tryz.underlying56 HI.out.1 HI.out.2.1 HI.out.2.2.1 HI.out.2.2.2 rfl (by decide) _ _ _ rfl HIN3.out.row _ 1 (v4sV [⟨z.a, m, z.c, z.d⟩]) rfl HXA.out (v4sV_one _) HL1.out HL2.out ?_ ?_; (exact HIN3.out.size); intro p2 w2 hrow2 hg2 hob2; have HADD := Lib.hid (HIN3.out.add (x := ⟨z.a, m, z.c, z.d⟩) hrow2 hg2 hob2); clear hrow2 hg2 hob2)
            go_roundw
            case rel => (refine ⟨_, _, _, ?_, rfl, rfl, rfl⟩; exact ⟨j + 1, by have := HGN.out; omega, by go_num, by rw [map_next HM.out, HU.out, ← List.append_assoc]; exact HADD.out⟩)
            case measure => have := HGN.out; simp [Go.RowKit.intOf]; omega
          · have HU : Hid (y.set 2 m = ⟨z.a, z.b, m, z.d⟩) := Lib.hid ((HZ.out m).symm)
            have HXA := Lib.hid (v4_lit (w := W2) (k := wr.heap.size) (x := ⟨z.a, z.b, m, z.d⟩) (by rw [← HW2.out]; simp [World.setCell])).rdk
            have HIN3 := Lib.hid (HIN2.out.on (KitC.below_one W2 (.cells #[.int .i64 z.a, .int .i64 z.b, .int .i64 m, .int .i64 z.d] 51)))
            go_wp2_with (rw [HW2.out]; at_builtin; refine wpList_append_rdk _ rfl (.tmp 38) (.tmp 40) _ rfl (w.heap.size + 2) 51 i0 (.agg #[.int .i64 0, .int .i64 0, .int .i64 0, .int .i64 0]) 4 32 Tryz.underlying56 HI.out.1 HI.out.2.1 HI.out.2.2.1 HI.out.2.2.2 rfl (by decide) _ _ _ rfl HIN3.out.row _ 1 (v4sV [⟨z.a, z.b, m, z.d⟩]) rfl HXA.out (v4sV_one _) HL1.out HL2.out ?_ ?_; (exact HIN3.out.size); intro p2 w2 hrow2 hg2 hob2; have HADD := Lib.hid (HIN3.out.add (x := ⟨z.a, z.b, m, z.d⟩) hrow2 hg2 hob2); clear hrow2 hg2 hob2)
            go_roundw
            case rel => (refine ⟨_, _, _, ?_, rfl, rfl, rfl⟩; exact ⟨j + 1, by have := HGN.out; omega, by go_num, by rw [map_next HM.out, HU.out, ← List.append_assoc]; exact HADD.out⟩)
            case measure => have := HGN.out; simp [Go.RowKit.intOf]; omega
          · have HU : Hid (y.set 3 m = ⟨z.a, z.b, z.c, m⟩) := Lib.hid ((HZ.out m).symm)
            have HXA := Lib.hid (v4_lit (w := W2) (k := wr.heap.size) (x := ⟨z.a, z.b, z.c, m⟩) (by rw [← HW2.out]; simp [World.setCell])).rdk
            have HIN3 := Lib.hid (HIN2.out.on (KitC.below_one W2 (.cells #[.int .i64 z.a, .int .i64 z.b, .int .i64 z.c, .int .i64 m] 51)))
            go_wp2_with (rw [HW2.out]; at_builtin; refine wpList_append_rdk _ rfl (.tmp 38) (.tmp 40) _ rfl (w.heap.size + 2) 51 i0 (.agg #[.int .i64 0, .int .i64 0, .int .i64 0, .int .i64 0]) 4 32 Tryz.underlying56 HI.out.1 HI.out.2.1 HI.out.2.2.1 HI.out.2.2.2 rfl (by decide) _ _ _ rfl HIN3.out.row _ 1 (v4sV [⟨z.a, z.b, z.c, m⟩]) rfl HXA.out (v4sV_one _) HL1.out HL2.out ?_ ?_; (exact HIN3.out.size); intro p2 w2 hrow2 hg2 hob2; have HADD := Lib.hid (HIN3.out.add (x := ⟨z.a, z.b, z.c, m⟩) hrow2 hg2 hob2); clear hrow2 hg2 hob2)
            go_roundw
            case rel => (refine ⟨_, _, _, ?_, rfl, rfl, rfl⟩; exact ⟨j + 1, by have := HGN.out; omega, by go_num, by rw [map_next HM.out, HU.out, ← List.append_assoc]; exact HADD.out⟩)
            case measure => have := HGN.out; simp [Go.RowKit.intOf]; omega
        · skip -- INNERX
          have hjI : ¬ (j : Int) < gn := by omega
          have HEND := Lib.hid hin.toDoOut
          have HGT : Hid (G.take j = G) := Lib.hid (List.take_of_length_le (by have := HGN.out; omega))
          clear hin
          go_wp2_with fail
          go_roundw
          case rel => exact ⟨k + 1, by have := HNL.out; omega, by go_num, by rw [do_next HY.out, HFYH.out, ← HXS.out]; have h := HEND.out; rwa [HGT.out] at h⟩
          case measure => have := HNL.out; simp [Go.RowKit.intOf]; omega
    · skip -- OUTER
      have hkI : ¬ (k : Int) < Nn := by omega
      have hall : l.take k = l := List.take_of_length_le (by have := HNL.out; omega)
      rw [hall] at hout
      have hrow := doOut_len hout
      obtain ⟨xs, hxs⟩ : ∃ xs, xs = l.flatMap F := ⟨_, rfl⟩
      rw [← hxs] at hrow HL
      have HXS := Lib.hid hxs
      obtain ⟨g, cap, cur, rfl, hg, _, hc1, hc2, _, _⟩ := rowV_parts hrow HL.out.1
      have HROW := Lib.hid hrow
      have HSORT := Lib.hid (sort_rowV hrow HL.out.1 (by have := HL.out.2; omega))
      clear hall hout hrow hxs HOUT
      go_wp2_with (go_at_call 78; (with_reducible refine HSORT.out.mono ?_))
      rintro e2 w2 ⟨rfl, ys, hp, hslow, hlen, hrow2⟩
      have HC := Lib.hid (compact_any hrow2 hlen HL.out hp hslow)
      clear hp hslow hrow2 hlen
      go_wp2_with (go_at_call 79; (with_reducible refine HC.out.mono ?_))
      rintro e2 w3 ⟨cv, rfl, hcv, hbc⟩
      have HCV := Lib.hid (And.intro hcv hbc)
      clear hcv hbc
      go_wp2_with fail
      go_ret
      exact ⟨_, rfl, by rw [← HXS.out]; exact HCV.out.1, HCV.out.2⟩
end Go.Proofs.YtcfcpbkeedfbpaaGreatDoor

namespace Go.Proofs.YtcfcpbkeedfbpaaGreatDoor
open Go.RowKit TermSpec EvalSpec ActSpec NamesSpec
set_option maxRecDepth 100000

set_option maxHeartbeats 1000000 in
theorem may_act (a : Ac) (A : Option Addr) (n c : Nat) (hs : SmallA a) (w : World) (h : Tms w (.slice A n c) a.x) :
    Calls Tryz.prog 30 #[.agg #[.string a.s, .bool a.any, .slice A n c]] w (RetI w (oneA a)) := by
  obtain ⟨A', n', c', heq, hn, hnc⟩ := h.shape
  cases heq
  have HIS := Lib.hid (fun w => is_any a.s w hs.1)
  have HC := Lib.hid (fun w h => check_any A n c a.x hn (by have := hs.2.2; omega) hs.2.1 w h)
  have HT := Lib.hid h
  obtain ⟨q, hq⟩ : ∃ q, q = isName a.s.data.toList := ⟨_, rfl⟩
  rw [← hq] at HIS
  obtain ⟨r, hr⟩ : ∃ r, r = oneA a := ⟨_, rfl⟩
  rw [← hr]
  rcases hb : q with _ | _
  · rw [hb] at HIS hq
    have HR := Lib.hid (hr.trans (oneA_name hq.symm))
    obtain ⟨s, any, x⟩ := a
    simp only at HIS HC HT hn ⊢
    clear hs h hq hr hb hn
    go_enter Tryz.func30, Tryz.ntmps30
    go_wp2_with (go_at_call 53; (with_reducible refine (HIS.out _).mono ?_))
    rintro e2 w2 ⟨rfl, hb2⟩
    obtain ⟨B2, hbb, _⟩ := KitC.one_block hb2
    have HB2 := Lib.hid hbb
    obtain ⟨c0, c1, c2⟩ := cells_3 B2
    clear hb2 hbb B2
    go_wp2_with fail
    go_ret
    exact ⟨ret_int HR.out.symm, HB2.out⟩
  · rw [hb] at HIS hq
    rcases ha : a.any with _ | _
    · have HR := Lib.hid (hr.trans (oneA_expr hq.symm ha))
      obtain ⟨s, any, x⟩ := a
      simp only at HIS HC HT HR hn ha ⊢
      subst ha
      obtain ⟨m, hm⟩ : ∃ m, m = chk x := ⟨_, rfl⟩
      rw [← hm] at HR HC
      clear hs h hq hr hb hn hm
      go_enter Tryz.func30, Tryz.ntmps30
      go_wp2_with (go_at_call 53; (with_reducible refine (HIS.out _).mono ?_))
      rintro e2 w2 ⟨rfl, hb2⟩
      obtain ⟨B2, hbb, _⟩ := KitC.one_block hb2
      have HB2 := Lib.hid hbb
      obtain ⟨c0, c1, c2⟩ := cells_3 B2
      clear hb2 hbb B2
      go_wp2_with (go_at_call 54; (with_reducible refine (HC.out _ (HT.out.keep HB2.out)).mono ?_))
      rintro e2 w3 ⟨rfl, hb3⟩
      have HB3 := Lib.hid (below_two' HB2.out hb3)
      clear hb3
      go_wp2_with fail
      go_ret
      exact ⟨ret_int HR.out.symm, HB3.out⟩
    · have HR0 := Lib.hid (hr.trans (oneA_any hq.symm ha))
      rw [← hn] at HR0
      obtain ⟨s, any, x⟩ := a
      simp only at HIS HC HT hn ha ⊢
      subst ha
      by_cases h0 : n = 0
      · have HR : Hid (r = 0) := Lib.hid (by rw [HR0.out, if_pos h0])
        have g : decide (0 < n) = false := by simp; omega
        have g2 : decide (0 < (n : Int)) = false := by simp; omega
        clear hs h hq hr hb hn h0 HR0
        go_enter Tryz.func30, Tryz.ntmps30
        go_wp2_with (go_at_call 53; (with_reducible refine (HIS.out _).mono ?_))
        rintro e2 w2 ⟨rfl, hb2⟩
        obtain ⟨B2, hbb, _⟩ := KitC.one_block hb2
        have HB2 := Lib.hid hbb
        obtain ⟨c0, c1, c2⟩ := cells_3 B2
        clear hb2 hbb B2
        go_wp2_with fail
        go_ret
        exact ⟨ret_int HR.out.symm, HB2.out⟩
      · have HR : Hid (r = 1) := Lib.hid (by rw [HR0.out, if_neg h0])
        have g : decide (0 < n) = true := by simp; omega
        have g2 : decide (0 < (n : Int)) = true := by simp; omega
        clear hs h hq hr hb hn h0 HR0
        go_enter Tryz.func30, Tryz.ntmps30
        go_wp2_with (go_at_call 53; (with_reducible refine (HIS.out _).mono ?_))
        rintro e2 w2 ⟨rfl, hb2⟩
        obtain ⟨B2, hbb, _⟩ := KitC.one_block hb2
        have HB2 := Lib.hid hbb
        obtain ⟨c0, c1, c2⟩ := cells_3 B2
        clear hb2 hbb B2
        go_wp2_with fail
        go_ret
        exact ⟨ret_int HR.out.symm, HB2.out⟩
def PChkRel (W : World) (l : List Ac) (n : Nat) (i : Value) (wr : World) : Prop := ∃ k : Nat, k ≤ n ∧ i = .int .i64 k ∧ firstA (l.take k) = 0 ∧ Below W.heap.size W wr
abbrev acO (a : Ac) (xA : Option Addr) (xn xc : Nat) : Obj := .cells #[.string a.s, .bool a.any, .slice xA xn xc] 66
set_option maxHeartbeats 1000000 in
theorem check_acts (A : Option Addr) (n c : Nat) (l : List Ac) (hs : ∀ a ∈ l, SmallA a) (hl : l.length ≤ 9223372036854775807) (w : World) (h : Acs w (.slice A n c) l) :
    Calls Tryz.prog 10 #[.slice A n c] w (RetI w (chkA l)) := by
  have hn := h.len.1
  have hcap := h.len.2
  have HN := Lib.hid hn
  have HT := Lib.hid h
  have HS := Lib.hid hs
  obtain ⟨r, hr⟩ : ∃ r, r = chkA l := ⟨_, rfl⟩
  rw [← hr]
  by_cases h8 : 8 < n
  · have HR : Hid (r = 8) := Lib.hid (by rw [hr]; unfold chkA; rw [if_pos (by omega)])
    have g : decide (8 < n) = true := by simp; omega
    have h8' : 8 < (n : Int) := by omega
    clear hn h hs hr hl
    go_enter Tryz.func10, Tryz.ntmps10
    go_wp2_with fail
    go_ret
    exact ⟨ret_int HR.out.symm, Below.refl _ _⟩
  · have HR : Hid (r = firstA l) := Lib.hid (by rw [hr]; unfold chkA; rw [if_neg (by omega)])
    have h8' : ¬ 8 < (n : Int) := by omega
    clear hn h hs hr hl
    go_enter Tryz.func10, Tryz.ntmps10
    go_wp2_with fail
    go_loopw [11] (fun i wr => PChkRel w l n i wr) (fun i _ => n - (intOf i).toNat)
    case atStart => exact ⟨0, Nat.zero_le _, rfl, rfl, Below.refl _ _⟩
    case round =>
      obtain ⟨k, hk, rfl, hall, hbw⟩ := hrel
      have HA := Lib.hid hall
      have HB := Lib.hid hbw
      clear hall hbw
      by_cases hlt : k < n
      · obtain ⟨a, ha⟩ : ∃ a, l[k]? = some a := get_some (by rw [← HN.out]; exact hlt)
        obtain ⟨b, off, xA, xn, xc, rfl, hb, htm, c0, c1, c2⟩ := (HT.out.keep HB.out).at_ ha
        have HC : Hid (Calls Tryz.prog 30 #[.agg #[.string a.s, .bool a.any, .slice xA xn xc]] (wr.alloc (acO a xA xn xc)) (RetI (wr.alloc (acO a xA xn xc)) (oneA a))) := Lib.hid (may_act a xA xn xc (HS.out a (List.mem_of_getElem? ha)) _ (htm.keep (KitC.below_one _ _)))
        have HNX := Lib.hid (fun h1 => firstA_next ha HA.out h1)
        have HST := Lib.hid (fun h1 => firstA_stop ha HA.out h1)
        obtain ⟨q, hq⟩ : ∃ q, q = oneA a := ⟨_, rfl⟩
        rw [← hq] at HC HNX HST
        have hkI : (k : Int) < n := by omega
        clear ha hq htm
        obtain ⟨s, any, x⟩ := a
        simp only at c0 c1 c2 HC
        by_cases hq0 : q = 0
        · have HNX' := Lib.hid (HNX.out hq0)
          have g : (q != 0) = false := by simp [hq0]
          clear HNX HST hq0
          go_wp2_with (go_at_call 30; (with_reducible refine HC.out.mono ?_))
          rintro e2 w2 ⟨rfl, hb2⟩
          have HB2 := Lib.hid (below_two' HB.out (below_two' (KitC.below_one _ _) hb2))
          clear hb2
          go_wp2_with fail
          go_roundw
          case rel => exact ⟨k + 1, by omega, by go_num, HNX'.out, HB2.out⟩
          case measure => simp [intOf]; omega
        · have HST' := Lib.hid (HST.out hq0)
          have g : (q != 0) = true := by simp [hq0]
          clear HNX HST hq0
          go_wp2_with (go_at_call 30; (with_reducible refine HC.out.mono ?_))
          rintro e2 w2 ⟨rfl, hb2⟩
          have HB2 := Lib.hid (below_two' HB.out (below_two' (KitC.below_one _ _) hb2))
          clear hb2
          go_wp2_with fail
          go_ret
          exact ⟨ret_int (by rw [HR.out, HST'.out]), HB2.out⟩
      · have HE : Hid (firstA l = 0) := Lib.hid (by
          have h1 := HN.out
          have h2 := HA.out
          rwa [List.take_of_length_le (by omega)] at h2)
        go_wp2_with fail
        go_ret
        exact ⟨ret_int (by rw [HR.out, HE.out]), HB.out⟩
end Go.Proofs.YtcfcpbkeedfbpaaGreatDoor

namespace Go.Proofs.YtcfcpbkeedfbpaaGreatDoor
namespace ActSpec
open TermSpec EvalSpec Go.Lib

theorem chkA_few {l : List Ac} (h : chkA l = 0) : l.length ≤ 8 := by
  unfold chkA at h
  split at h
  · cases h
  · omega
theorem stepA_bad {e : Ev} {a : Ac} {l : List V4} (h : badA e a ≠ 0) : stepA e a l = (badA e a, []) := by unfold stepA; rw [if_pos h]
theorem stepA_some {e : Ev} {a : Ac} {l : List V4} {i : Nat} {v : Vr} (h : badA e a = 0) (hv : varOf e a = some (i, v)) :
    stepA e a l = if 64 < (allV [] (l.flatMap (stepsA e a i v))).length then (12, []) else (0, allV [] (l.flatMap (stepsA e a i v))) := by
  unfold stepA
  rw [if_neg (by omega), hv]
/-- So much is left: from an act on, by these lists. -/
def LeftA (e : Ev) (l : List Ac) (k : Nat) (now : List V4) : Prop := runA e l [vals e] = runA e (l.drop k) now ∧ 0 < now.length ∧ now.length ≤ 64
theorem left_start (e : Ev) (l : List Ac) : LeftA e l 0 [vals e] := ⟨by rw [List.drop_zero], by simp, by simp⟩
theorem drop_ac {l : List Ac} {k : Nat} {a : Ac} (h : l[k]? = some a) : l.drop k = a :: l.drop (k + 1) := by
  obtain ⟨hk, he⟩ := List.getElem?_eq_some_iff.1 h
  rw [List.drop_eq_getElem_cons hk, he]
theorem steps_some (e : Ev) (a : Ac) (i : Nat) (v : Vr) (x : V4) (h : a.any = true → spanB v = true) : stepsA e a i v x ≠ [] := by
  unfold stepsA
  split
  · rename_i ha
    have := h ha
    unfold spanB at this
    simp only [Bool.and_eq_true, decide_eq_true_eq] at this
    intro hc
    have h2 := congrArg List.length hc
    rw [List.length_map, List.length_range] at h2
    simp at h2
    omega
  · simp
theorem bad_span {e : Ev} {a : Ac} {i : Nat} {v : Vr} (h : badA e a = 0) (hv : varOf e a = some (i, v)) : a.any = true → spanB v = true := by
  intro ha
  unfold badA at h
  rw [hv] at h
  simp only at h
  rw [if_pos ha] at h
  rcases hs : spanB v with _ | _
  · rw [hs] at h; simp at h
  · rfl
theorem bad_chk {e : Ev} {a : Ac} {i : Nat} {v : Vr} (h : badA e a = 0) (hv : varOf e a = some (i, v)) : a.any = false → chkE e a.x = 0 := by
  intro ha
  unfold badA at h
  rw [hv] at h
  simp only at h
  rw [if_neg (by simp [ha])] at h
  rcases Decidable.em (chkE e a.x = 0) with h0 | h0
  · exact h0
  · rw [if_pos h0] at h; exact absurd h h0
theorem bad_var {e : Ev} {a : Ac} (h : badA e a = 0) : ∃ i v, varOf e a = some (i, v) := by
  unfold badA at h
  rcases hv : varOf e a with _ | ⟨i, v⟩
  · rw [hv] at h; cases h
  · exact ⟨i, v, rfl⟩
theorem stepA_len {e : Ev} {a : Ac} {now : List V4} (h0 : 0 < now.length) (h : (stepA e a now).1 = 0) : 0 < (stepA e a now).2.length ∧ (stepA e a now).2.length ≤ 64 := by
  rcases Decidable.em (badA e a = 0) with hb | hb
  · obtain ⟨i, v, hv⟩ := bad_var hb
    rw [stepA_some hb hv] at h ⊢
    split at h
    · cases h
    · rename_i h64
      rw [if_neg h64]
      refine ⟨List.length_pos_iff.2 (allV_some fun hc => ?_), by simp only; omega⟩
      cases now with
      | nil => simp at h0
      | cons x r =>
        rw [List.flatMap_cons] at hc
        exact steps_some e a i v x (bad_span hb hv) (List.append_eq_nil_iff.1 hc).1
  · rw [stepA_bad hb] at h
    exact absurd h hb
theorem left_next {e : Ev} {l : List Ac} {k : Nat} {now : List V4} {a : Ac} (h : LeftA e l k now) (ha : l[k]? = some a) (h0 : (stepA e a now).1 = 0) : LeftA e l (k + 1) (stepA e a now).2 := by
  obtain ⟨h1, h2, _⟩ := h
  refine ⟨?_, stepA_len h2 h0⟩
  rw [h1, drop_ac ha]
  unfold runA
  rw [if_pos h0]
  rcases hd : l.drop (k + 1) with _ | ⟨b, r⟩
  · rfl
  · rfl
theorem left_stop {e : Ev} {l : List Ac} {k : Nat} {now : List V4} {a : Ac} (h : LeftA e l k now) (ha : l[k]? = some a) (h0 : (stepA e a now).1 ≠ 0) : runA e l [vals e] = ((stepA e a now).1, []) := by
  rw [h.1, drop_ac ha]
  unfold runA
  rw [if_neg h0]
theorem left_end {e : Ev} {l : List Ac} {k : Nat} {now : List V4} (h : LeftA e l k now) (hk : l.length ≤ k) : runA e l [vals e] = (0, now) := by
  rw [h.1, List.drop_of_length_le hk]
  rfl
end ActSpec
end Go.Proofs.YtcfcpbkeedfbpaaGreatDoor

namespace Go.Proofs.YtcfcpbkeedfbpaaGreatDoor
open Go.RowKit Go.Sort TermSpec EvalSpec ActSpec NamesSpec Go.Lib
set_option maxRecDepth 100000

/-- Two numbers of an act: where its variable is, and why it comes to nothing. -/
theorem fits_any (p : EP) (e : Ev) (a : Ac) (A : Option Addr) (n c : Nat) (w : World) (he : EnvIn w p e) (hf : ∀ v ∈ e.vars, VFit v) (hs : SmallA a) (ht : Tms w (.slice A n c) a.x) :
    Calls Tryz.prog 43 #[.agg #[.string a.s, .bool a.any, .slice A n c], .int .i64 (idxOfS (vnames e) a.s), envV p e] w (RetI w (badA e a)) := by
  rcases hv : varOf e a with _ | ⟨i, v⟩
  · rw [varOf_none hv, badA_none hv]
    exact fits_none p e a A n c w
  · rw [(varOf_some hv).1]
    exact fits_some p e a i v A n c w he hv (hf v (List.mem_of_getElem? (varOf_lt hv))) hs ht
theorem do_all (p : EP) (e : Ev) (a : Ac) (A : Option Addr) (n c : Nat) (w : World) (he : EnvIn w p e) (h4 : e.vars.length ≤ 4) (hf : ∀ v ∈ e.vars, VFit v) (hs : SmallA a) (ht : Tms w (.slice A n c) a.x) (hb : badA e a = 0) (N : Value) (l : List V4) (hN : V4s w N l) (h0 : 0 < l.length) (h64 : l.length ≤ 64) :
    ∃ r, stepA e a l = (if 64 < r.length then (12, []) else (0, r)) ∧ Calls Tryz.prog 44 #[.agg #[.string a.s, .bool a.any, .slice A n c], .int .i64 (idxOfS (vnames e) a.s), envV p e, N] w (CompV4Post w w r) := by
  obtain ⟨i, v, hv⟩ := bad_var hb
  have hvi := varOf_lt hv
  refine ⟨_, stepA_some hb hv, ?_⟩
  rw [(varOf_some hv).1]
  exact do_any p e a i v A n c w he hs ht hv (by have := get_lt hvi; omega) (hf v (List.mem_of_getElem? hvi)) (bad_chk hb hv) (bad_span hb hv) N l hN h0 h64
/-- What the loop over the acts keeps. -/
def PRunRel (W : World) (w1 : World) (e : Ev) (l : List Ac) (now i : Value) (wr : World) : Prop := ∃ (k : Nat) (xs : List V4), k ≤ l.length ∧ i = .int .i64 k ∧ LeftA e l k xs ∧ V4s wr now xs ∧ Below w1.heap.size w1 wr ∧ Below W.heap.size W w1
abbrev acB (s : ByteArray) (any : Bool) (xA : Option Addr) (xn xc : Nat) : Obj := .cells #[.string s, .bool any, .slice xA xn xc] 66
set_option maxHeartbeats 8000000 in
theorem run_any (p : EP) (e : Ev) (A : Option Addr) (n c : Nat) (l : List Ac) (w : World) (he : EnvIn w p e) (hf : ∀ v ∈ e.vars, VFit v) (hs : ∀ a ∈ l, SmallA a) (hl : l.length ≤ 9223372036854775807) (h : Acs w (.slice A n c) l) :
    Calls Tryz.prog 22 #[.slice A n c, envV p e] w (RetVE w (runE e l)) := by
  have HT := Lib.hid h
  have HN := Lib.hid h.len.1
  have hcap := h.len.2
  have HE := Lib.hid he
  have HCK := Lib.hid (fun w h => check_acts A n c l hs hl w h)
  have HVA := Lib.hid (fun s w h => avariable_any p e s w h)
  have HFI := Lib.hid (fun (a : Ac) (ha : a ∈ l) (B : Option Addr) (m d : Nat) (w : World) he ht => fits_any p e a B m d w he hf (hs a ha) ht)
  have HDO := Lib.hid (fun (h4 : e.vars.length ≤ 4) (a : Ac) (ha : a ∈ l) (B : Option Addr) (m d : Nat) (N : Value) (w : World) he ht hb xs hN h0 hx => do_all p e a B m d w he h4 hf (hs a ha) ht hb N xs hN h0 hx)
  obtain ⟨R, hR⟩ : ∃ R, R = runE e l := ⟨_, rfl⟩
  rw [← hR]
  have HR4 : Hid (4 < e.vars.length → R = (1, [])) := Lib.hid (fun h => by rw [hR]; unfold runE; rw [if_pos h])
  have HRC : Hid (¬ 4 < e.vars.length → chkA l ≠ 0 → R = (chkA l, [])) := Lib.hid (fun h h2 => by rw [hR]; unfold runE; rw [if_neg h, if_pos h2])
  have HRR : Hid (¬ 4 < e.vars.length → chkA l = 0 → R = runA e l [vals e]) := Lib.hid (fun h h2 => by rw [hR]; unfold runE; rw [if_neg h, if_neg (by omega)])
  obtain ⟨q, hq⟩ : ∃ q, q = chkA l := ⟨_, rfl⟩
  rw [← hq] at HCK HRC HRR
  have HQ8 : Hid (q = 0 → l.length ≤ 8) := Lib.hid (fun h => chkA_few (hq.symm.trans h))
  obtain ⟨E, hE⟩ : ∃ E, E = e := ⟨_, rfl⟩
  rw [← hE] at HE HR4 HRC HRR
  obtain ⟨vA, vn, vc, iA, im, ic⟩ := p
  have HVN : Hid (vn = E.vars.length) := Lib.hid (HE.out.vars.1)
  obtain ⟨vars, v0, v1, v2, v3, ins⟩ := e
  have HV : Hid (vals E = ⟨v0, v1, v2, v3⟩) := Lib.hid (by rw [hE]; rfl)
  have HVA' : Hid (∀ s w, EnvIn w ⟨vA, vn, vc, iA, im, ic⟩ E → Calls Tryz.prog 42 #[.agg #[.slice vA vn vc, .int .i64 v0, .int .i64 v1, .int .i64 v2, .int .i64 v3, .slice iA im ic], .string s] w (RetI w (idxOfS (vnames E) s))) := Lib.hid (fun s w h => by
    rw [hE] at h ⊢
    exact HVA.out s w h)
  have HFI' : Hid (∀ a ∈ l, ∀ (B : Option Addr) (m d : Nat) (w : World), EnvIn w ⟨vA, vn, vc, iA, im, ic⟩ E → Tms w (.slice B m d) a.x → Calls Tryz.prog 43 #[.agg #[.string a.s, .bool a.any, .slice B m d], .int .i64 (idxOfS (vnames E) a.s), .agg #[.slice vA vn vc, .int .i64 v0, .int .i64 v1, .int .i64 v2, .int .i64 v3, .slice iA im ic]] w (RetI w (badA E a))) := Lib.hid (fun a ha B m d w he ht => by
    rw [hE] at he ⊢
    exact HFI.out a ha B m d w he ht)
  have HDO' : Hid (E.vars.length ≤ 4 → ∀ a ∈ l, badA E a = 0 → ∀ (B : Option Addr) (m d : Nat) (N : Value) (w : World), EnvIn w ⟨vA, vn, vc, iA, im, ic⟩ E → Tms w (.slice B m d) a.x → ∀ xs, V4s w N xs → 0 < xs.length → xs.length ≤ 64 → ∃ r, stepA E a xs = (if 64 < r.length then (12, []) else (0, r)) ∧ Calls Tryz.prog 44 #[.agg #[.string a.s, .bool a.any, .slice B m d], .int .i64 (idxOfS (vnames E) a.s), .agg #[.slice vA vn vc, .int .i64 v0, .int .i64 v1, .int .i64 v2, .int .i64 v3, .slice iA im ic], N] w (CompV4Post w w r)) := Lib.hid (fun h4 a ha hb B m d N w he ht xs hN h0 hx => by
    rw [hE] at he h4 hb ⊢
    exact HDO.out h4 a ha B m d N w he ht hb xs hN h0 hx)
  clear hE HVA HFI HDO he hf hs h hR hq hl
  change Calls _ _ #[_, .agg #[.slice vA vn vc, .int .i64 v0, .int .i64 v1, .int .i64 v2, .int .i64 v3, .slice iA im ic]] _ _
  have HB1 := Lib.hid (KitC.below_one w (.cells #[.slice vA vn vc, .int .i64 v0, .int .i64 v1, .int .i64 v2, .int .i64 v3, .slice iA im ic] 54))
  by_cases h4 : 4 < vn
  · have h4I : (4 : Int) < vn := by omega
    have HR : Hid (R = (1, [])) := Lib.hid (HR4.out (by rw [← HVN.out]; exact h4))
    go_enter Tryz.func22, Tryz.ntmps22
    go_wp2_with fail
    refine bodyPost_ret (v := .tuple #[.slice none 0 0, .int .i64 1]) (by simp [results, Tryz.results22, go_sem]) rfl ⟨_, by rw [HR.out], by rw [HR.out]; exact v4s_nil _, HB1.out⟩
  · have h4I : ¬ (4 : Int) < vn := by omega
    have H4 : Hid (¬ 4 < E.vars.length) := Lib.hid (by rw [← HVN.out]; exact h4)
    by_cases hq0 : q = 0
    · have g : (q != 0) = false := by simp [hq0]
      have HR : Hid (R = runA E l [vals E]) := Lib.hid (HRR.out H4.out hq0)
      have H8 := Lib.hid (HQ8.out hq0)
      clear HR4 HRC HRR hq0 HQ8
      go_enter Tryz.func22, Tryz.ntmps22
      go_wp2_with (go_at_call 10; (with_reducible refine (HCK.out _ (HT.out.keep HB1.out)).mono ?_))
      rintro e2 w2 ⟨rfl, hb2⟩
      obtain ⟨B1, hbb, _⟩ := KitC.one_block hb2
      obtain ⟨c0, c1, c2, c3, c4, c5⟩ := cells_6 B1
      obtain ⟨w3, hw3⟩ : ∃ w3, w2.alloc (.cells #[.int .i64 v0, .int .i64 v1, .int .i64 v2, .int .i64 v3] 51) = w3 := ⟨_, rfl⟩
      have HST : Hid (PRunRel w w3 E l (.slice (some ⟨w2.heap.size, 0, none⟩) 1 1) (.int .i64 0) w3) := Lib.hid (by
        refine ⟨0, [vals E], Nat.zero_le _, rfl, left_start E l, ?_, Below.refl _ _, by rw [← hw3]; exact below_two' hbb (KitC.below_one _ _)⟩
        rw [← hw3, HV.out]
        exact v4_lit rfl)
      have HK : Hid (w3.heap[w.heap.size]? = some (.cells #[.slice vA vn vc, .int .i64 v0, .int .i64 v1, .int .i64 v2, .int .i64 v3, .slice iA im ic] 54 (0, 0))) := Lib.hid (by rw [← hw3]; exact KitC.block_on B1 (KitC.below_one _ _))
      have HW3 := Lib.hid hw3
      clear hb2 hbb B1 hw3
      go_wp2_with fail
      rw [HW3.out]
      clear c0 c1 c2 c3 c4 c5 HW3
      go_loopw [7, 9, 10, 11, 26] (fun now _ _ _ i wr => PRunRel w w3 E l now i wr) (fun _ _ _ _ i _ => l.length - (Go.RowKit.intOf i).toNat)
      case atStart => exact HST.out
      case round =>
        obtain ⟨k, xs, hk, rfl, hleft, hxs, hbw, hb0⟩ := hrel
        obtain ⟨xA, xn, xc, rfl, hxn, hxc⟩ := hxs.shape
        have HL := Lib.hid hleft
        have HX := Lib.hid hxs
        have HBW2 := Lib.hid hbw
        have HB00 := Lib.hid hb0
        have HWB := Lib.hid (below_two' hb0 hbw)
        by_cases hlt : k < n
        · have hkI : (k : Int) < n := by omega
          have hk8 : (k : Int) ≤ 8 := by have := H8.out; omega
          obtain ⟨a, ha⟩ : ∃ a, l[k]? = some a := get_some (by have := HN.out; omega)
          obtain ⟨b, off, tA, tn, tc, rfl, hb, htm, d0, d1, d2⟩ := (HT.out.keep HWB.out).at_ ha
          obtain ⟨tA', tn', tc', heq, htn, htc⟩ := htm.shape
          cases heq
          have hbo := KitC.below_one wr (acB a.s a.any tA tn tc)
          have hact := heap_alloc_new wr (acB a.s a.any tA tn tc)
          have henv := KitC.block_on HK.out hbw
          have henv2 := KitC.block_on henv hbo
          obtain ⟨V, hV⟩ : ∃ V, wr.alloc (acB a.s a.any tA tn tc) = V := ⟨_, rfl⟩
          rw [hV] at hbo hact henv2
          obtain ⟨m0, m1, m2, m3, m4, m5⟩ := cells_6 henv
          have hsz := (Array.getElem?_eq_some_iff.1 henv).1
          have hszn : ¬ w.heap.size = wr.heap.size := Nat.ne_of_lt hsz
          have HEV := Lib.hid (HE.out.keep (below_two' HWB.out hbo))
          have HVV := Lib.hid (fun W (hW : Below V.heap.size V W) => HVA'.out a.s W (HEV.out.keep hW))
          have HFF := Lib.hid (fun W (hW : Below V.heap.size V W) => HFI'.out a (List.mem_of_getElem? ha) tA tn tc W (HEV.out.keep hW) ((htm.keep hbo).keep hW))
          have HDD := Lib.hid (fun (hb0 : badA E a = 0) W (hW : Below V.heap.size V W) => HDO'.out (by have := H4.out; omega) a (List.mem_of_getElem? ha) hb0 tA tn tc (.slice xA xn xc) W (HEV.out.keep hW) ((htm.keep hbo).keep hW) xs ((HX.out.keep hbo).keep hW) hleft.2.1 hleft.2.2)
          have HNX := Lib.hid (fun h0 => left_next hleft ha h0)
          have HSP := Lib.hid (fun h0 => left_stop hleft ha h0)
          have HBAD := Lib.hid (fun h0 => stepA_bad (e := E) (a := a) (l := xs) h0)
          have HBO := Lib.hid hbo
          have HACT := Lib.hid hact
          have HENV := Lib.hid henv2
          obtain ⟨r, hr⟩ : ∃ r, r = stepA E a xs := ⟨_, rfl⟩
          rw [← hr] at HDD HNX HSP HBAD
          have HVB := Lib.hid hV
          obtain ⟨at', hat⟩ : ∃ at', at' = idxOfS (vnames E) a.s := ⟨_, rfl⟩
          rw [← hat] at HVV HFF HDD
          obtain ⟨bd, hbd⟩ : ∃ bd, bd = badA E a := ⟨_, rfl⟩
          rw [← hbd] at HFF HDD HBAD
          clear ha htm htn hr hleft hxs hbw hb0 henv henv2 hxn HX HL hat hbd hbo hact hV
          obtain ⟨sa, aany, ax⟩ := a
          simp only at d0 d1 d2 HVV HFF HDD HACT HVB
          by_cases hbd0 : bd = 0
          · have g2 : (bd != 0) = false := by simp [hbd0]
            have HD := Lib.hid (HDD.out hbd0)
            clear HDD HBAD hbd0
            go_wp2_with (rw [HVB.out]; go_at_call 42; (with_reducible refine (HVV.out _ (Below.refl _ _)).mono ?_))
            rintro e2 w4 ⟨rfl, hb4⟩
            have HB4 := Lib.hid hb4
            obtain ⟨c0, c1, c2, c3, c4, c5⟩ := cells_6 (KitC.block_on HENV.out hb4)
            obtain ⟨a0, a1, a2⟩ := cells_3 (KitC.block_on HACT.out hb4)
            clear hb4
            go_wp2_with (go_at_call 43; (with_reducible refine (HFF.out _ HB4.out).mono ?_))
            rintro e2 w5 ⟨rfl, hb5⟩
            have HB5 := Lib.hid (below_two' HB4.out hb5)
            obtain ⟨c0, c1, c2, c3, c4, c5⟩ := cells_6 (KitC.block_on HENV.out HB5.out)
            obtain ⟨a0, a1, a2⟩ := cells_3 (KitC.block_on HACT.out HB5.out)
            clear hb5
            obtain ⟨rl, hrl, hcall⟩ := HD.out _ HB5.out
            have HCALL := Lib.hid hcall
            have HRL := Lib.hid hrl
            clear hcall hrl
            go_wp2_with (go_at_call 44; (with_reducible refine HCALL.out.mono ?_))
            rintro e2 w6 ⟨dv, rfl, hdv, hb6⟩
            have HB6 := Lib.hid (below_two' HB5.out hb6)
            have HDV := Lib.hid hdv
            obtain ⟨dA, dn, dc, rfl, hdn, hdc⟩ := hdv.shape
            have HDN := Lib.hid hdn
            clear hb6 hdv hdn
            by_cases h64 : 64 < dn
            · have h64I : (64 : Int) < dn := by omega
              have HRS : Hid (R = (12, [])) := Lib.hid (by
                have h1 := HRL.out
                rw [if_pos (by rw [← HDN.out]; exact h64)] at h1
                have h2 := HSP.out (by rw [h1]; decide)
                rw [HR.out, h2, h1])
              go_wp2_with fail
              refine bodyPost_ret (v := .tuple #[.slice none 0 0, .int .i64 12]) (by simp [results, Tryz.results22, go_sem]) rfl ⟨_, by rw [HRS.out], by rw [HRS.out]; exact v4s_nil _, below_two' (below_two' HWB.out HBO.out) HB6.out⟩
            · have h64I : ¬ (64 : Int) < dn := by omega
              have HN1 : Hid (LeftA E l (k + 1) rl) := Lib.hid (by
                have h1 := HRL.out
                rw [if_neg (by rw [← HDN.out]; exact h64)] at h1
                have h2 := HNX.out (by rw [h1])
                rw [h1] at h2
                exact h2)
              go_wp2_with fail
              go_roundw
              case rel => first | exact ⟨k + 1, rl, by have := HN.out; omega, by go_num, HN1.out, HDV.out, below_two' (below_two' HBW2.out HBO.out) HB6.out, HB00.out⟩ | ((repeat apply Exists.intro); exact ⟨⟨k + 1, rl, by have := HN.out; omega, by go_num, HN1.out, HDV.out, below_two' (below_two' HBW2.out HBO.out) HB6.out, HB00.out⟩, rfl⟩)
              case measure => have := HN.out; simp [Go.RowKit.intOf]; omega
          · have g2 : (bd != 0) = true := by simp [hbd0]
            have HRS : Hid (R = (bd, [])) := Lib.hid (by
              have h1 := HBAD.out hbd0
              have h2 := HSP.out (by rw [h1]; exact hbd0)
              rw [HR.out, h2, h1])
            clear HDD HBAD hbd0
            go_wp2_with (rw [HVB.out]; go_at_call 42; (with_reducible refine (HVV.out _ (Below.refl _ _)).mono ?_))
            rintro e2 w4 ⟨rfl, hb4⟩
            have HB4 := Lib.hid hb4
            obtain ⟨c0, c1, c2, c3, c4, c5⟩ := cells_6 (KitC.block_on HENV.out hb4)
            obtain ⟨a0, a1, a2⟩ := cells_3 (KitC.block_on HACT.out hb4)
            clear hb4
            go_wp2_with (go_at_call 43; (with_reducible refine (HFF.out _ HB4.out).mono ?_))
            rintro e2 w5 ⟨rfl, hb5⟩
            have HB5 := Lib.hid (below_two' HB4.out hb5)
            clear hb5
            go_wp2_with fail
            refine bodyPost_ret (v := .tuple #[.slice none 0 0, .int .i64 bd]) (by simp [results, Tryz.results22, go_sem]) rfl ⟨_, by rw [HRS.out], by rw [HRS.out]; exact v4s_nil _, below_two' (below_two' HWB.out HBO.out) HB5.out⟩
        · have hkI : ¬ (k : Int) < n := by omega
          have HS1 := Lib.hid (left_end hleft (by have := HN.out; omega))
          clear hleft hxs hbw hb0 hxn
          go_wp2_with fail
          refine bodyPost_ret (v := .tuple #[.slice xA xn xc, .int .i64 0]) (by simp [results, Tryz.results22, go_sem]) rfl ⟨_, by rw [HR.out, HS1.out], by rw [HR.out, HS1.out]; exact HX.out, HWB.out⟩
    · have g : (q != 0) = true := by simp [hq0]
      have HR : Hid (R = (q, [])) := Lib.hid (HRC.out H4.out hq0)
      clear HR4 HRC HRR hq0
      go_enter Tryz.func22, Tryz.ntmps22
      go_wp2_with (go_at_call 10; (with_reducible refine (HCK.out _ (HT.out.keep HB1.out)).mono ?_))
      rintro e2 w2 ⟨rfl, hb2⟩
      have HB2 := Lib.hid (below_two' HB1.out hb2)
      clear hb2
      go_wp2_with fail
      refine bodyPost_ret (v := .tuple #[.slice none 0 0, .int .i64 q]) (by simp [results, Tryz.results22, go_sem]) rfl ⟨_, by rw [HR.out], by rw [HR.out]; exact v4s_nil _, HB2.out⟩
end Go.Proofs.YtcfcpbkeedfbpaaGreatDoor
