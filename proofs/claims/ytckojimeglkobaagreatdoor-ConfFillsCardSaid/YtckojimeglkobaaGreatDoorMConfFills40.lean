/- ConfFillsLaw, TransOpen, ShapeOpen, PrintOpen, joined. -/
import Derived.Test.YtckojimeglkobaaGreatDoorMConfFills39
import Derived.Test.YtckojimeglkobaaGreatDoorMConfFills15
import Derived.BigQuiet
import Derived.Test.YtckojimeglkobaaGreatDoorMConfFills10
import Derived.Test.YtckojimeglkobaaGreatDoorMConfFills05
import Derived.Test.YtckojimeglkobaaGreatDoorMConfFills11
namespace Go.Proofs.YtckojimeglkobaaGreatDoor
open Go.RowKit Go.Sort TermSpec EvalSpec ActSpec NamesSpec ExprSpec TransSpec SynSpec CurSpec ShapeSpec GroupSpec AtlasSpec PrintSpec ConfSpec RulesSpec SoundSpec
set_option maxRecDepth 100000
section
variable (x:Cx) (eA:Option Addr) (en ec:Nat) (vA:Option Addr) (vn vc:Nat) (sA:Option Addr) (sn sc:Nat) (m:Nat) (w:World) (hT:TabIn w) (h:ChIn w (.slice eA en ec) (.slice vA vn vc) (.slice sA sn sc) x) (hf:FitC x) (hv:∀ v ∈ x.vars,VFit v) (h64:m < 18446744073709551616)
include hT h hf hv
omit hv in
set_option maxRecDepth 100000 in
set_option maxHeartbeats 16000000 in
theorem confFills_no (hl:lightC x = false):Calls Tryz.prog 4 #[.agg #[.string x.s,.slice eA en ec,.slice vA vn vc,.slice sA sn sc],.int .u64 m] w fun e w' => e = .returned (.bool true) ∧ Below w.heap.size w w':=by
 have HL:=Lib.hid (fun W (hW:Below w.heap.size w W) => lightC_any x eA en ec vA vn vc sA sn sc W (h.keep hW) hf)
 rw [hl] at HL
 have HAW:=Lib.hid (fun W (hW:Below w.heap.size w W) => awake18 W (hT.keep hW))
 obtain ⟨nm,hnm⟩:∃ nm,nm = x.s:=⟨_,rfl⟩
 have HNM:Hid (x.s = nm):=Lib.hid hnm.symm
 obtain ⟨W1,hW1⟩:∃ W1,w.alloc (chO18 nm eA en ec vA vn vc sA sn sc) = W1:=⟨_,rfl⟩
 have hb1:Below w.heap.size w W1:=by rw [← hW1]; exact KitC.below_one _ _
 have k1:W1.heap[w.heap.size]? = some (chO18 nm eA en ec vA vn vc sA sn sc):=by rw [← hW1]; exact heap_alloc_new _ _
 have HK:Hid (∀ W,Below W1.heap.size W1 W → W.heap[w.heap.size]? = some (chO18 nm eA en ec vA vn vc sA sn sc)):=Lib.hid fun W hW => KitC.block_on k1 hW
 have HW1:=Lib.hid hW1
 have HB1:=Lib.hid hb1
 obtain ⟨c0,c1,c2,c3⟩:=cells_4 k1
 rw [HNM.out] at HL ⊢
 clear h hf hl hnm hT hW1 k1 hb1
 go_enter Tryz.func4,Tryz.ntmps4
 go_wp2_with ((try rw [HW1.out]); go_at_call 6; go_fit (HL.out _ HB1.out))
 rintro e w2 ⟨rfl,hb⟩
 have HB2:=Lib.hid (below_two' HB1.out hb)
 clear hb c0 c1 c2 c3
 go_wp2_with (go_at_call 7; go_fit (HAW.out _ HB2.out))
 rintro e wz ⟨rfl,hb⟩
 have HBZ:=Lib.hid (below_two' HB2.out hb)
 clear hb
 go_wp2_with fail
 go_ret
 exact ⟨rfl,HBZ.out⟩
include h64
set_option maxRecDepth 100000 in
set_option maxHeartbeats 16000000 in
theorem confFills_yes (hl:lightC x = true):Calls Tryz.prog 4 #[.agg #[.string x.s,.slice eA en ec,.slice vA vn vc,.slice sA sn sc],.int .u64 m] w fun e w' => e = .returned (.bool true) ∧ Below w.heap.size w w':=by
 have hlc:=chart_light hl
 have hfr:=fewR_of hlc hf hv
 have hfm:=chart_fit hlc hf
 have hsn:=h.sts.len.1
 have HL:=Lib.hid (fun W (hW:Below w.heap.size w W) => lightC_any x eA en ec vA vn vc sA sn sc W (h.keep hW) hf)
 rw [hl] at HL
 have HIS:=Lib.hid (fun W (hW:Below w.heap.size w W) => rsis_any x eA en ec vA vn vc sA sn sc W (h.keep hW) hfm hfr)
 have HNN:=Lib.hid (fun (hd:soundC x = false) W (hW:Below w.heap.size w W) => new_no x eA en ec vA vn vc sA sn sc W (h.keep hW) hfm hfr hd)
 have HNY:=Lib.hid (fun (hd:soundC x = true) W (hW:Below w.heap.size w W) => new_yes x eA en ec vA vn vc sA sn sc W (h.keep hW) hfm hfr hd)
 have HP:=Lib.hid (fun (hd:soundC x = true) => sound_parts hd)
 have HAW:=Lib.hid (fun W (hW:Below w.heap.size w W) => awake18 W (hT.keep hW))
 have HTT:=Lib.hid (And.intro hT hT.pos)
 have hev:x.evs.length ≤ 1000000:=by have:=hfr.evl; omega
 have hsm:sn ≤ 1000000:=by have:=hfr.stl; omega
 have HRF:=Lib.hid (fun (hd:soundC x = true) W (hW:Below w.heap.size w W) => rfill18 x eA en ec vA vn vc sA sn sc W (h.keep hW) (sound_parts hd).1 (sound_parts hd).2.1 m h64)
 have HRI:=Lib.hid (fun (hd:soundC x = true) W (hW:Below w.heap.size w W) => rfirst18 x eA en ec vA vn vc sA sn sc W (h.keep hW) (sound_parts hd).1 (sound_parts hd).2.1 (sound_parts hd).2.2.1)
 have HF1:=Lib.hid (fun (hd:soundC x = true) B W (hA:AtIn W B x) => fill18 B x W hA (sound_parts hd).1 (sound_parts hd).2.1 hev m h64 hfr)
 have HF2:=Lib.hid (fun (hd:soundC x = true) B W (hA:AtIn W B x) => fill18 B x W hA (sound_parts hd).1 (sound_parts hd).2.1 hev (fillG (x.sts.map shOf) m) (fillG_lt h64) hfr)
 have HAG:Hid (soundC x = true → fillG (x.sts.map shOf) (fillG (x.sts.map shOf) m) = fillG (x.sts.map shOf) m):=Lib.hid fun hd => fill_again (sound_parts hd).1 (sound_parts hd).2.1 h64
 have HFI:=Lib.hid (fun (hd:soundC x = true) B W (hA:AtIn W B x) => first18 B x W hA (sound_parts hd).1 (sound_parts hd).2.1 hev hfr (sound_parts hd).2.2.1)
 have HCK:=Lib.hid (fun (hd:soundC x = true) B W (hW:Below w.heap.size w W) (hA:AtIn W B x) (hB:w.heap.size ≤ B) => check18 B x W hA (sound_parts hd).1 hfr (hT.keep hW) (Nat.lt_of_lt_of_le hT.pos hB) ⟨fillG (x.sts.map shOf) 1,firstV x.vars⟩ (fillG_lt (by decide)))
 have HMY:Hid (soundC x = true → mayCf (x.sts.map shOf) x.vars ⟨fillG (x.sts.map shOf) 1,firstV x.vars⟩ = true):=Lib.hid fun hd => by
  unfold mayCf
  rw [first_may (sound_parts hd).1 (sound_parts hd).2.1,firstV_ok (sound_parts hd).2.2.2]
  rfl
 obtain ⟨my,hmy⟩:∃ my,my = mayCf (x.sts.map shOf) x.vars ⟨fillG (x.sts.map shOf) 1,firstV x.vars⟩:=⟨_,rfl⟩
 rw [← hmy] at HMY HCK
 obtain ⟨fc,hfc⟩:∃ fc:Cf,fc = ⟨fillG (x.sts.map shOf) 1,firstV x.vars⟩:=⟨_,rfl⟩
 rw [← hfc] at HRI HFI HCK
 obtain ⟨fm,hfm'⟩:∃ fm,fm = fillG (x.sts.map shOf) m:=⟨_,rfl⟩
 rw [← hfm'] at HRF HF1 HF2 HAG
 obtain ⟨fg,hfg⟩:∃ fg,fg = fillG (x.sts.map shOf) fm:=⟨_,rfl⟩
 rw [← hfg] at HF2 HAG
 obtain ⟨sd,hsd⟩:∃ sd,sd = soundC x:=⟨_,rfl⟩
 rw [← hsd] at HNN HNY HCK HIS HRF HRI HF1 HF2 HAG HFI HMY
 obtain ⟨nm,hnm⟩:∃ nm,nm = x.s:=⟨_,rfl⟩
 have HNM:Hid (x.s = nm):=Lib.hid hnm.symm
 have hbz:=cf_build0
 have hez:∀ w,(Op.equalIn 9999 28 (.agg #[.int .i64 0,.int .i64 0,.int .i64 0,.int .i64 0]) (.agg #[.int .i64 0,.int .i64 0,.int .i64 0,.int .i64 0])).run Tryz.prog w = .ok true w:=fun w => eq_v4n 9997 ⟨0,0,0,0⟩ ⟨0,0,0,0⟩ w
 have hef:∀ w,(Op.equalIn 9999 28 (v4A fc.v) (v4A fc.v)).run Tryz.prog w = .ok true w:=fun w => by
  have:=eq_v4n 9997 fc.v fc.v w
  rwa [decide_eq_true rfl] at this
 obtain ⟨W1,hW1⟩:∃ W1,w.alloc (chO18 nm eA en ec vA vn vc sA sn sc) = W1:=⟨_,rfl⟩
 have hb1:Below w.heap.size w W1:=by rw [← hW1]; exact KitC.below_one _ _
 have k1:W1.heap[w.heap.size]? = some (chO18 nm eA en ec vA vn vc sA sn sc):=by rw [← hW1]; exact heap_alloc_new _ _
 have HK:Hid (∀ W,Below W1.heap.size W1 W → W.heap[w.heap.size]? = some (chO18 nm eA en ec vA vn vc sA sn sc)):=Lib.hid fun W hW => KitC.block_on k1 hW
 have HW1:=Lib.hid hW1
 have HB1:=Lib.hid hb1
 obtain ⟨c0,c1,c2,c3⟩:=cells_4 k1
 rw [HNM.out] at HL HIS HNN HNY HRF HRI ⊢
 clear hlc hfr hfm hsn hev hsm h hf hv hl hnm hT h64 hW1 k1 hb1 hmy hfc hfm' hfg hsd HP
 go_enter Tryz.func4,Tryz.ntmps4
 go_wp2_with ((try rw [HW1.out]); go_at_call 6; go_fit (HL.out _ HB1.out))
 rintro e w2 ⟨rfl,hb⟩
 have HBK2:=Lib.hid hb
 have HB2:=Lib.hid (below_two' HB1.out hb)
 clear hb c0 c1 c2 c3
 obtain ⟨c0,c1,c2,c3⟩:=cells_4 (HK.out _ HBK2.out)
 rcases bool_two sd with rfl | rfl
 ·clear hef
  go_wp2_with (go_at_call 8; go_fit (HNN.out (by trivial) _ HB2.out))
  rintro e w3 ⟨rfl,hb⟩
  have HBK3:=Lib.hid (below_two' HBK2.out hb)
  have HB3:=Lib.hid (below_two' HB2.out hb)
  clear hb c0 c1 c2 c3
  obtain ⟨c0,c1,c2,c3⟩:=cells_4 (HK.out _ HBK3.out)
  go_wp2_with (go_at_call 9; go_fit (HIS.out _ HB3.out))
  rintro e w4 ⟨rfl,hb⟩
  have HB4:=Lib.hid (below_two' HB3.out hb)
  clear hb c0 c1 c2 c3
  go_wp2_with (go_at_call 12; go_fit (fill_no w4 m))
  rintro e w5 ⟨rfl,hb⟩
  have HB5:=Lib.hid (below_two' HB4.out hb)
  clear hb
  go_wp2_with (go_at_call 13; go_fit (first_no w5))
  rintro e w6 ⟨rfl,hb⟩
  have HB6:=Lib.hid (below_two' HB5.out hb)
  clear hb
  go_wp2_with (go_at_call 7; go_fit (HAW.out _ HB6.out))
  rintro e wz ⟨rfl,hb⟩
  have HBZ:=Lib.hid (below_two' HB6.out hb)
  clear hb
  go_wp2_with fail
  go_ret
  exact ⟨rfl,HBZ.out⟩
 ·clear hez hbz
  have hmt:my = true:=HMY.out (by trivial)
  have hgt:fg = fm:=HAG.out (by trivial)
  subst hmt hgt
  go_wp2_with (go_at_call 8; go_fit (HNY.out (by trivial) _ HB2.out))
  rintro e w3 ⟨B,rfl,hat,hB,hb⟩
  have HA3:=Lib.hid hat
  have HBB:Hid (W1.heap.size ≤ B):=Lib.hid (Nat.le_trans HBK2.out.size hB)
  have HBW:Hid (w.heap.size ≤ B):=Lib.hid (Nat.le_trans HB1.out.size HBB.out)
  have HBK3:=Lib.hid (below_two' HBK2.out hb)
  have HB3:=Lib.hid (below_two' HB2.out hb)
  clear hat hB hb c0 c1 c2 c3
  obtain ⟨c0,c1,c2,c3⟩:=cells_4 (HK.out _ HBK3.out)
  go_wp2_with (go_at_call 9; go_fit (HIS.out _ HB3.out))
  rintro e w4 ⟨rfl,hb⟩
  have HA4:=Lib.hid (HA3.out.keep hb)
  have HBK4:=Lib.hid (below_two' HBK3.out hb)
  have HB4:=Lib.hid (below_two' HB3.out hb)
  clear hb c0 c1 c2 c3
  go_wp2_with (go_at_call 12; go_fit (HF1.out (by trivial) B _ HA4.out))
  rintro e w5 ⟨v,rfl,rfl,hat,hg⟩
  have HBK5:=Lib.hid (at_below HBK4.out HBK4.out.size hg HBB.out)
  have HGK:Hid (∀ W W',Below W1.heap.size W1 W → W.grownBy W' (some B) → Below W1.heap.size W1 W'):=Lib.hid fun W W' h1 h2 => at_below h1 h1.size h2 HBB.out
  have HKA:Hid (∀ W,Below W1.heap.size W1 W → W.cell? ⟨w.heap.size,0,none⟩ = some (.string nm) ∧ W.cell? ⟨w.heap.size,1,none⟩ = some (.slice eA en ec) ∧ W.cell? ⟨w.heap.size,2,none⟩ = some (.slice vA vn vc) ∧ W.cell? ⟨w.heap.size,3,none⟩ = some (.slice sA sn sc)):=Lib.hid fun W hW => cells_4 (HK.out _ hW)
  have HWW:Hid (∀ W,Below W1.heap.size W1 W → Below w.heap.size w W):=Lib.hid fun W hW => below_two' HB1.out hW
  have hdr:Below w5.heap.size w5 w5.drew:=(Below.refl _ _).drew
  have a5:AtIn w5.drew B x:=AtIn.keep (.inr hat) hdr
  have b5:=below_two' HBK5.out hdr
  obtain ⟨c0,c1,c2,c3⟩:=HKA.out _ b5
  clear hat hg hdr
  go_wp2_with fail
  go_region_held3 (fun w' => w'.cell? ⟨w.heap.size,0,none⟩ = some (.string nm) ∧ w'.cell? ⟨w.heap.size,1,none⟩ = some (.slice eA en ec) ∧ w'.cell? ⟨w.heap.size,2,none⟩ = some (.slice vA vn vc) ∧ w'.cell? ⟨w.heap.size,3,none⟩ = some (.slice sA sn sc)) (go_keep)
   ((first
     | (go_at_call 14; (with_reducible refine (HRF.out (by trivial) _ (HWW.out _ b5)).mono ?_); rintro e y6 ⟨rfl,hb6⟩; have a6:=a5.keep hb6; have b6:=below_two' b5 hb6; obtain ⟨d0,d1,d2,d3⟩:=HKA.out _ b6)
     | (go_at_call 12; (with_reducible refine (HF2.out (by trivial) B _ a6).mono ?_); rintro e y7 ⟨v7,rfl,rfl,q7,g7⟩; have a7:AtIn y7 B x:=.inr q7; have b7:=HGK.out _ _ b6 g7; obtain ⟨e0,e1,e2,e3⟩:=HKA.out _ b7)
     | (go_at_call 13; (with_reducible refine (HFI.out (by trivial) B _ a7).mono ?_); rintro e y8 ⟨v8,rfl,rfl,q8,g8⟩; have a8:AtIn y8 B x:=.inr q8; have b8:=HGK.out _ _ b7 g8; obtain ⟨f0,f1,f2,f3⟩:=HKA.out _ b8)
     | (go_at_call 15; (with_reducible refine (HRI.out (by trivial) _ (HWW.out _ b8)).mono ?_); rintro e y9 ⟨rfl,hb9⟩; have a9:=a8.keep hb9; have b9:=below_two' b8 hb9; obtain ⟨g0,g1,g2,g3⟩:=HKA.out _ b9)
     | (go_at_call 13; (with_reducible refine (HFI.out (by trivial) B _ a9).mono ?_); rintro e ya ⟨va,rfl,rfl,qa,ga⟩; have aa:AtIn ya B x:=.inr qa; have ba:=HGK.out _ _ b9 ga; obtain ⟨h0,h1,h2,h3⟩:=HKA.out _ ba)
     | (go_at_call 10; (with_reducible refine (HCK.out (by trivial) B _ (HWW.out _ ba) aa HBW.out).mono ?_); rintro e yb ⟨vb,rfl,rfl,ab,gb⟩; have bb:=HGK.out _ _ ba gb; obtain ⟨i0,i1,i2,i3⟩:=HKA.out _ bb)
     | (go_at_call 7; (with_reducible refine (HAW.out _ (HWW.out _ bb)).mono ?_); rintro e yc ⟨rfl,hbc⟩; have bc:=below_two' bb hbc; obtain ⟨j0,j1,j2,j3⟩:=HKA.out _ bc)))
  have HBZ:=Lib.hid (HWW.out _ bc)
  clear bc
  go_wp2_with fail
  go_ret
  exact ⟨rfl,HBZ.out⟩
end
theorem walk_ConfFills (x:Cx) (eA:Option Addr) (en ec:Nat) (vA:Option Addr) (vn vc:Nat) (sA:Option Addr) (sn sc:Nat) (n:Int) (w:World) (hT:TabIn w) (h:ChIn w (.slice eA en ec) (.slice vA vn vc) (.slice sA sn sc) x) (hf:FitC x ∧ ∀ v ∈ x.vars,VFit v) (hn:(Lit.int .u64 n).wf = true) :
 Calls Tryz.prog 4 #[.agg #[.string x.s,.slice eA en ec,.slice vA vn vc,.slice sA sn sc],.int .u64 n] w fun e w' => e = .returned (.bool true) ∧ Below w.heap.size w w':=by
 obtain ⟨m,rfl,h64⟩:∃ m:Nat,n = m ∧ m < 18446744073709551616:=by
  have e1:IntKind.u64.min = 0:=by kernel_rfl
  have e2:IntKind.u64.max = 18446744073709551615:=by kernel_rfl
  simp [Lit.wf,e1,e2] at hn
  exact ⟨n.toNat,by omega,by omega⟩
 cases hl:lightC x with
 | false => exact confFills_no x eA en ec vA vn vc sA sn sc m w hT h hf.1 hl
 | true => exact confFills_yes x eA en ec vA vn vc sA sn sc m w hT h hf.1 hf.2 h64 hl
end Go.Proofs.YtckojimeglkobaaGreatDoor
namespace Go.Proofs.YtckojimeglkobaaGreatDoor
open Go.RowKit Go.ChangeShapes Go.WideShapes Go.Deep TermSpec EvalSpec ActSpec TransSpec
set_option maxRecDepth 100000
theorem cells_trans:Tryz.prog.cellsOf 62 = 4:=by kernel_rfl
theorem cells_acts:Tryz.prog.cellsOf 55 = 1:=by kernel_rfl
section
variable {H:Type} {enc:TypeId × Value → H} {W:World} {base:Nat} {spare:Nat → Bool} {held:Bool} {b0:Nat} {r:Reach} {v:Value} {d:DataW H} {p:List MemPlace}
end
end Go.Proofs.YtckojimeglkobaaGreatDoor
namespace Go.Proofs.YtckojimeglkobaaGreatDoor
open Go.RowKit Go.ChangeShapes Go.WideShapes Go.Deep ShapeSpec OpenD
set_option maxRecDepth 100000
theorem cells_state:Tryz.prog.cellsOf 58 = 6:=by kernel_rfl
theorem cells_sacts:Tryz.prog.cellsOf 55 = 1:=by kernel_rfl
theorem shcells_strs:Tryz.prog.cellsOf 56 = 1:=by kernel_rfl
section
variable {H:Type} {enc:TypeId × Value → H} {W:World} {base:Nat} {spare:Nat → Bool} {held:Bool}
variable {b0:Nat} {r:Reach} {v:Value} {d:DataW H} {p:List MemPlace}
end
end Go.Proofs.YtckojimeglkobaaGreatDoor
namespace Go.Proofs.YtckojimeglkobaaGreatDoor
open Go.RowKit Go.ChangeShapes Go.WideShapes Go.Deep TermSpec EvalSpec ActSpec TransSpec SynSpec PrintSpec
set_option maxRecDepth 100000
theorem cells_chart:Tryz.prog.cellsOf 26 = 4:=by kernel_rfl
theorem cells_lvars:Tryz.prog.cellsOf 23 = 1:=by kernel_rfl
theorem cells_lsts:Tryz.prog.cellsOf 24 = 1:=by kernel_rfl
theorem cells_levs:Tryz.prog.cellsOf 22 = 1:=by kernel_rfl
section
variable {H:Type} {enc:TypeId × Value → H} {W:World} {base:Nat} {spare:Nat → Bool} {held:Bool}
theorem dec_text (n:Nat) (cs:List Value) (x:DataW H × List MemPlace) (h:DataW.trod enc Tryz.prog W base spare held n 9 cs = some x):∃ s:ByteArray,cs = sC s ∧ s.size ≤ 9223372036854775807:=by
 obtain ⟨s,hc,_,hw⟩:=DataW.trod_string Tryz.underlying9 h
 exact ⟨s,hc,hw⟩
theorem dec_variable (n:Nat) (cs:List Value) (x:DataW H × List MemPlace) (h:DataW.trod enc Tryz.prog W base spare held n 52 cs = some x):∃ v:Vr,cs = vrV v ∧ (v.s.size ≤ 9223372036854775807 ∧ VFit v):=by
 obtain ⟨xs,m,_,_,hl,hxl,hg⟩:=DataW.trod_struct Tryz.underlying52 h
 rw [cells_var] at hl
 have hxl':xs.length = 4:=hxl
 match cs,hl with
 | [c0,c1,c2,c3],_ =>
   have g0:DataW.trod enc Tryz.prog W base spare held m 9 (([c0,c1,c2,c3].drop 0).take (Tryz.prog.cellsOf 9)) = xs[0]?:=hg 0 _ rfl
   have g1:DataW.trod enc Tryz.prog W base spare held m 3 (([c0,c1,c2,c3].drop 1).take (Tryz.prog.cellsOf 3)) = xs[1]?:=hg 1 _ rfl
   have g2:DataW.trod enc Tryz.prog W base spare held m 3 (([c0,c1,c2,c3].drop 2).take (Tryz.prog.cellsOf 3)) = xs[2]?:=hg 2 _ rfl
   have g3:DataW.trod enc Tryz.prog W base spare held m 3 (([c0,c1,c2,c3].drop 3).take (Tryz.prog.cellsOf 3)) = xs[3]?:=hg 3 _ rfl
   rw [OpenD.cells_int] at g1 g2 g3
   rw [OpenD.cells_str] at g0
   obtain ⟨s,rfl,hs⟩:=OpenD.dec_str g0 (OpenD.some_at (by omega))
   obtain ⟨a,rfl,a1,a2⟩:=dec_int_fit g1 (OpenD.some_at (by omega))
   obtain ⟨b,rfl,b1,b2⟩:=dec_int_fit g2 (OpenD.some_at (by omega))
   obtain ⟨c,rfl⟩:=OpenD.dec_int g3 (OpenD.some_at (by omega))
   exact ⟨⟨s,a,b,c⟩,rfl,hs,a1,a2,b1,b2⟩
theorem dec_acts {m:Nat} {c:Value} {x:Option (DataW H × List MemPlace)} (h:DataW.trod enc Tryz.prog W base spare held m 55 [c] = x) (hx:x.isSome) :
 ∃ (A:Option Addr) (n cp:Nat) (l:List Ac),c = .slice A n cp ∧ Acs W (.slice A n cp) l ∧ ∀ a ∈ l,a.s.size ≤ 9223372036854775807 ∧ Small a.x:=by
 obtain ⟨y,rfl⟩:=Option.isSome_iff_exists.1 hx
 obtain ⟨A,n,cp,ps,rfl,hn,hR,hG,-⟩:=open_rows_c (v:=c) (f:=acV) (Good:=GoodAP W) acV_length (by decide) cells_act Tryz.underlying55 dec_act h
 refine ⟨A,n,cp,ps.map (·.a),rfl,⟨ps,rfl,by rw [List.length_map,← hn]; exact hR,fun p hp => (hG p hp).2.2.2⟩,fun a ha => ?_⟩
 obtain ⟨p,hp,rfl⟩:=List.mem_map.1 ha
 exact ⟨(hG p hp).1,(hG p hp).2.1⟩
def GoodTP (W:World) (p:TP):Prop:=tpN p W ∧ p.t.ev.size ≤ 9223372036854775807 ∧ p.t.tg.size ≤ 9223372036854775807 ∧ Small p.t.g ∧ ∀ a ∈ p.t.acts,a.s.size ≤ 9223372036854775807 ∧ Small a.x
theorem dec_trans (n:Nat) (cs:List Value) (x:DataW H × List MemPlace) (h:DataW.trod enc Tryz.prog W base spare held n 62 cs = some x):∃ p:TP,cs = tpV p ∧ GoodTP W p:=by
 obtain ⟨xs,m,_,_,hl,hxl,hg⟩:=DataW.trod_struct Tryz.underlying62 h
 rw [cells_trans] at hl
 have hxl':xs.length = 4:=hxl
 match cs,hl with
 | [c0,c1,c2,c3],_ =>
   have g0:DataW.trod enc Tryz.prog W base spare held m 9 (([c0,c1,c2,c3].drop 0).take (Tryz.prog.cellsOf 9)) = xs[0]?:=hg 0 _ rfl
   have g1:DataW.trod enc Tryz.prog W base spare held m 60 (([c0,c1,c2,c3].drop 1).take (Tryz.prog.cellsOf 60)) = xs[1]?:=hg 1 _ rfl
   have g2:DataW.trod enc Tryz.prog W base spare held m 55 (([c0,c1,c2,c3].drop 2).take (Tryz.prog.cellsOf 55)) = xs[2]?:=hg 2 _ rfl
   have g3:DataW.trod enc Tryz.prog W base spare held m 9 (([c0,c1,c2,c3].drop 3).take (Tryz.prog.cellsOf 9)) = xs[3]?:=hg 3 _ rfl
   rw [OpenD.cells_str] at g0 g3
   rw [cells_trms] at g1
   rw [cells_acts] at g2
   obtain ⟨ev,rfl,hev⟩:=OpenD.dec_str g0 (OpenD.some_at (by omega))
   obtain ⟨tg,rfl,htg⟩:=OpenD.dec_str g3 (OpenD.some_at (by omega))
   obtain ⟨y1,e1⟩:=Option.isSome_iff_exists.1 (OpenD.some_at (l:=xs) (i:=1) (by omega))
   rw [e1] at g1
   obtain ⟨gA,gn,gc,g,rfl,hgn,hgR,hgG,hgb⟩:=open_rows_c (v:=c1) (f:=tmV) (Good:=fun t => t.s.size ≤ 9223372036854775807) tmV_length (by decide) cells_term Tryz.underlying60 dec_term g1
   obtain ⟨aA,an,ac,l,rfl,haR,haG⟩:=dec_acts g2 (OpenD.some_at (by omega))
   exact ⟨⟨⟨ev,g,l,tg⟩,gA,gn,gc,aA,an,ac⟩,rfl,⟨⟨gn,hgn,hgR⟩,haR⟩,hev,htg,hgG,haG⟩
def GoodSP (W:World) (p:SP):Prop:=spN p W ∧ p.x.s.size ≤ 9223372036854775807 ∧ (∀ a ∈ p.x.en,a.s.size ≤ 9223372036854775807 ∧ Small a.x) ∧ (∀ a ∈ p.x.ex,a.s.size ≤ 9223372036854775807 ∧ Small a.x) ∧
    ∀ t ∈ p.x.tr,t.ev.size ≤ 9223372036854775807 ∧ t.tg.size ≤ 9223372036854775807 ∧ Small t.g ∧ ∀ a ∈ t.acts,a.s.size ≤ 9223372036854775807 ∧ Small a.x
theorem dec_sp (n:Nat) (cs:List Value) (x:DataW H × List MemPlace) (h:DataW.trod enc Tryz.prog W base spare held n 58 cs = some x):∃ p:SP,cs = spV p ∧ GoodSP W p:=by
 obtain ⟨xs,m,_,_,hl,hxl,hg⟩:=DataW.trod_struct Tryz.underlying58 h
 rw [cells_state] at hl
 have hxl':xs.length = 6:=hxl
 match cs,hl with
 | [c0,c1,c2,c3,c4,c5],_ =>
   have g0:DataW.trod enc Tryz.prog W base spare held m 9 (([c0,c1,c2,c3,c4,c5].drop 0).take (Tryz.prog.cellsOf 9)) = xs[0]?:=hg 0 _ rfl
   have g1:DataW.trod enc Tryz.prog W base spare held m 3 (([c0,c1,c2,c3,c4,c5].drop 1).take (Tryz.prog.cellsOf 3)) = xs[1]?:=hg 1 _ rfl
   have g2:DataW.trod enc Tryz.prog W base spare held m 3 (([c0,c1,c2,c3,c4,c5].drop 2).take (Tryz.prog.cellsOf 3)) = xs[2]?:=hg 2 _ rfl
   have g3:DataW.trod enc Tryz.prog W base spare held m 55 (([c0,c1,c2,c3,c4,c5].drop 3).take (Tryz.prog.cellsOf 55)) = xs[3]?:=hg 3 _ rfl
   have g4:DataW.trod enc Tryz.prog W base spare held m 55 (([c0,c1,c2,c3,c4,c5].drop 4).take (Tryz.prog.cellsOf 55)) = xs[4]?:=hg 4 _ rfl
   have g5:DataW.trod enc Tryz.prog W base spare held m 56 (([c0,c1,c2,c3,c4,c5].drop 5).take (Tryz.prog.cellsOf 56)) = xs[5]?:=hg 5 _ rfl
   rw [OpenD.cells_str] at g0
   rw [OpenD.cells_int] at g1 g2
   rw [cells_sacts] at g3 g4
   rw [shcells_strs] at g5
   obtain ⟨s,rfl,hs⟩:=OpenD.dec_str g0 (OpenD.some_at (by omega))
   obtain ⟨a,rfl⟩:=OpenD.dec_int g1 (OpenD.some_at (by omega))
   obtain ⟨b,rfl⟩:=OpenD.dec_int g2 (OpenD.some_at (by omega))
   obtain ⟨a3,n3,k3,l3,rfl,r3,q3⟩:=dec_acts g3 (OpenD.some_at (by omega))
   obtain ⟨a4,n4,k4,l4,rfl,r4,q4⟩:=dec_acts g4 (OpenD.some_at (by omega))
   obtain ⟨y5,e5⟩:=Option.isSome_iff_exists.1 (OpenD.some_at (l:=xs) (i:=5) (by omega))
   rw [e5] at g5
   obtain ⟨a5,n5,k5,ps,rfl,hn5,hR5,hG5,-⟩:=open_rows_c (v:=c5) (f:=tpV) (Good:=GoodTP W) tpV_length (by decide) cells_trans Tryz.underlying56 dec_trans g5
   refine ⟨⟨⟨s,a,b,l3,l4,ps.map (·.t)⟩,a3,n3,k3,a4,n4,k4,a5,n5,k5⟩,rfl,⟨r3,r4,ps,rfl,by rw [← hn5]; exact hR5,fun p hp => (hG5 p hp).1⟩,hs,q3,q4,fun t ht => ?_⟩
   obtain ⟨p,hp,rfl⟩:=List.mem_map.1 ht
   exact (hG5 p hp).2
variable {b0:Nat} {r:Reach} {v:Value} {d:DataW H} {p:List MemPlace}
theorem open_chart (hv:Value.okWide Tryz.prog W r b0 26 v) (h:DataW.Trod enc Tryz.prog W base spare held 26 v d p) :
 ∃ (x:Cx) (eA:Option Addr) (en ec:Nat) (vA:Option Addr) (vn vc:Nat) (sA:Option Addr) (sn sc:Nat),v = .agg #[.string x.s,.slice eA en ec,.slice vA vn vc,.slice sA sn sc] ∧ ChIn W (.slice eA en ec) (.slice vA vn vc) (.slice sA sn sc) x ∧ (FitC x ∧ ∀ v ∈ x.vars,VFit v):=by
 obtain ⟨cs,rfl,_⟩:=okWide_struct Tryz.underlying26 hv
 obtain ⟨fuel,hx⟩:=h
 obtain ⟨xs,m,_,_,hl,hxl,hg⟩:=DataW.trod_struct Tryz.underlying26 hx
 rw [cells_chart] at hl
 have hxl':xs.length = 4:=hxl
 obtain ⟨l⟩:=cs
 match l,hl with
 | [c0,c1,c2,c3],_ =>
   have g0:DataW.trod enc Tryz.prog W base spare held m 9 (([c0,c1,c2,c3].drop 0).take (Tryz.prog.cellsOf 9)) = xs[0]?:=hg 0 _ rfl
   have g1:DataW.trod enc Tryz.prog W base spare held m 22 (([c0,c1,c2,c3].drop 1).take (Tryz.prog.cellsOf 22)) = xs[1]?:=hg 1 _ rfl
   have g2:DataW.trod enc Tryz.prog W base spare held m 23 (([c0,c1,c2,c3].drop 2).take (Tryz.prog.cellsOf 23)) = xs[2]?:=hg 2 _ rfl
   have g3:DataW.trod enc Tryz.prog W base spare held m 24 (([c0,c1,c2,c3].drop 3).take (Tryz.prog.cellsOf 24)) = xs[3]?:=hg 3 _ rfl
   rw [OpenD.cells_str] at g0
   rw [cells_levs] at g1
   rw [cells_lvars] at g2
   rw [cells_lsts] at g3
   obtain ⟨s,rfl,hs⟩:=OpenD.dec_str g0 (OpenD.some_at (by omega))
   obtain ⟨y1,e1⟩:=Option.isSome_iff_exists.1 (OpenD.some_at (l:=xs) (i:=1) (by omega))
   obtain ⟨y2,e2⟩:=Option.isSome_iff_exists.1 (OpenD.some_at (l:=xs) (i:=2) (by omega))
   obtain ⟨y3,e3⟩:=Option.isSome_iff_exists.1 (OpenD.some_at (l:=xs) (i:=3) (by omega))
   rw [e1] at g1
   rw [e2] at g2
   rw [e3] at g3
   obtain ⟨eA,en,ec,es,rfl,hen,heR,heG,heb⟩:=open_rows_c (v:=c1) (f:=sC) (Good:=fun s => s.size ≤ 9223372036854775807) (fun _ => rfl) (by decide) OpenD.cells_str Tryz.underlying22 dec_text g1
   obtain ⟨vA,vn,vc,vs,rfl,hvn,hvR,hvG,hvb⟩:=open_rows_c (v:=c2) (f:=vrV) (Good:=fun v => v.s.size ≤ 9223372036854775807 ∧ VFit v) vrV_length (by decide) cells_var Tryz.underlying23 dec_variable g2
   obtain ⟨sA,sn,sc,ps,rfl,hsn,hsR,hsG,hsb⟩:=open_rows_c (v:=c3) (f:=spV) (Good:=GoodSP W) spV_length (by decide) cells_state Tryz.underlying24 dec_sp g3
   refine ⟨⟨s,es,vs,ps.map (·.x)⟩,eA,en,ec,vA,vn,vc,sA,sn,sc,rfl,⟨?_,?_,ps,rfl,by rw [← hsn]; exact hsR,fun p hp => (hsG p hp).1⟩,⟨hs,heG,by simp only; omega,fun v hv => (hvG v hv).1,fun t ht => ?_⟩,fun v hv => (hvG v hv).2⟩
   ·rw [sC_flat] at heR
    exact rd_one heR
   ·show Rdk 4 W _ vs.length (vrsV vs)
    rw [← hvn]
    exact hvR
   ·obtain ⟨p,hp,rfl⟩:=List.mem_map.1 ht
    exact (hsG p hp).2
end
end Go.Proofs.YtckojimeglkobaaGreatDoor