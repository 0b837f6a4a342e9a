/- ConfVals, ConfCheck, ConfFirst, ConfEnv, AtlasNob, ConfNob, KitW, AtlasAwake, joined. -/
import Derived.Test.YtckojimeglkobaaGreatDoorMConfFills12
import Derived.Test.YtckojimeglkobaaGreatDoorMConfFills37
import Derived.Test.YtckojimeglkobaaGreatDoorMConfFills35
import Derived.Test.YtckojimeglkobaaGreatDoorMConfFills34
import Derived.Test.YtckojimeglkobaaGreatDoorMConfFills00
namespace Go.Proofs.YtckojimeglkobaaGreatDoor
open Go.RowKit Go.Sort TermSpec EvalSpec ActSpec NamesSpec ExprSpec TransSpec SynSpec CurSpec ShapeSpec GroupSpec PrintSpec ConfSpec
set_option maxRecDepth 100000
theorem ix_v4 (v:V4) {k:Nat} (hk:k < 4) (W:World):(Instr.index 28 (.agg #[.int .i64 v.a,.int .i64 v.b,.int .i64 v.c,.int .i64 v.d]) (.int .i64 (k:Int))).run Tryz.prog W = .ok (.int .i64 (v.get k)) W:=by
 rcases (show k = 0 ∨ k = 1 ∨ k = 2 ∨ k = 3 by omega) with rfl | rfl | rfl | rfl
 ·kernel_rfl
 ·kernel_rfl
 ·kernel_rfl
 ·kernel_rfl
section
variable (vA:Option Addr) (vn vc:Nat) (vs:List Vr) (v:V4) (w:World) (h:RdV w (.slice vA vn vc) vs)
include h
set_option maxRecDepth 100000 in
set_option maxHeartbeats 8000000 in
theorem vals18:Calls Tryz.prog 32 #[.slice vA vn vc,v4A v] w (RetB w (valsB vs v)):=by
 have HVS:Hid (∀ W,Below w.heap.size w W → VarsIn W vA vn vc vs):=Lib.hid fun W hW => RdV.vars (Rdk.keep h hW)
 have HVN:Hid (vn = vs.length):=Lib.hid (HVS.out w (Below.refl _ _)).1
 obtain ⟨W1,hW1⟩:∃ W1,w.alloc (v4O v) = W1:=⟨_,rfl⟩
 have HB1:Hid (Below w.heap.size w W1):=Lib.hid (by rw [← hW1]; exact KitC.below_one _ _)
 have HW1:=Lib.hid hW1
 have hk1:W1.heap[w.heap.size]? = some (v4O v):=by rw [← hW1]; exact heap_alloc_new _ _
 obtain ⟨c0,c1,c2,c3⟩:=cells_4 hk1
 clear h hW1 hk1
 go_enter Tryz.func32,Tryz.ntmps32
 go_wp2_with fail
 rw [HW1.out]
 go_loopw [10] (fun i wq => ValRel W1 vs v i wq) (fun i _ => 4 - (intOf i).toNat)
 case atStart => exact ⟨0,Nat.zero_le _,rfl,fun j hj => absurd hj (by omega),Lib.hid (Below.refl _ _)⟩
 case round =>
  obtain ⟨k,hk,rfl,hp,HQ⟩:=hrel
  have HV:=Lib.hid hp
  have HBQ:=Lib.hid (below_two' HB1.out HQ.out)
  by_cases hlt:k < 4
  ·have hltI:(k:Int) < 4:=by omega
   have hix:=ix_v4 v hlt
   obtain ⟨u,hu⟩:∃ u,u = v.get k:=⟨_,rfl⟩
   rw [← hu] at hix
   have HU:=Lib.hid hu
   clear hp hu
   by_cases hkv:k < vn
   ·have hkvI:(k:Int) < (vn:Int):=by omega
    obtain ⟨q,hq⟩:∃ q,vs[k]? = some q:=get_some (by have:=HVN.out; omega)
    obtain ⟨b,off,rfl,hbl,-,x1,x2,-⟩:=(HVS.out _ HBQ.out).at_ hq
    have HB4:Hid (valB vs k u = (decide (q.lo ≤ u) && decide (u ≤ q.hi))):=Lib.hid (by unfold valB; rw [hq]; rfl)
    obtain ⟨lo,hlo⟩:∃ lo,lo = q.lo:=⟨_,rfl⟩
    obtain ⟨hi,hhi⟩:∃ hi,hi = q.hi:=⟨_,rfl⟩
    rw [← hlo] at x1 HB4
    rw [← hhi] at x2 HB4
    clear hq hlo hhi
    rcases (show u < lo ∨ (¬ u < lo ∧ hi < u) ∨ (¬ u < lo ∧ ¬ hi < u) by omega) with g1 | ⟨g1,g2⟩ | ⟨g1,g2⟩
    ·have HF:Hid (valB vs k (v.get k) = false):=Lib.hid (by rw [← HU.out,HB4.out,decide_eq_false (by omega),Bool.false_and])
     go_wp2_with fail
     go_quiet (fail)
     go_wp2_with fail
     go_ret
     exact ⟨ret_bool (all_not hlt HF.out).symm,below_drewN HBQ.out _⟩
    ·have HF:Hid (valB vs k (v.get k) = false):=Lib.hid (by rw [← HU.out,HB4.out,decide_eq_false (show ¬ u ≤ hi by omega),Bool.and_false])
     go_wp2_with fail
     go_quiet (fail)
     go_wp2_with fail
     go_ret
     exact ⟨ret_bool (all_not hlt HF.out).symm,below_drewN HBQ.out _⟩
    ·have HN:=Lib.hid (rel_next HV.out (show valB vs k (v.get k) = true by rw [← HU.out,HB4.out,decide_eq_true (show lo ≤ u by omega),decide_eq_true (show u ≤ hi by omega)]; rfl))
     go_wp2_with fail
     go_quiet (fail)
     go_wp2_with fail
     go_roundw
     case rel => exact ⟨k + 1,by omega,by go_num,HN.out,Lib.hid (below_drewN HQ.out _)⟩
     case measure => simp [intOf]; omega
   ·have hkvI:¬ (k:Int) < (vn:Int):=by omega
    have HB4:Hid (valB vs k u = decide (u = 0)):=Lib.hid (by unfold valB; rw [List.getElem?_eq_none (by have:=HVN.out; omega)]; rfl)
    rcases (show u < 0 ∨ (¬ u < 0 ∧ 0 < u) ∨ u = 0 by omega) with g1 | ⟨g1,g2⟩ | rfl
    ·have HF:Hid (valB vs k (v.get k) = false):=Lib.hid (by rw [← HU.out,HB4.out,decide_eq_false (by omega)])
     go_wp2_with fail
     go_ret
     exact ⟨ret_bool (all_not hlt HF.out).symm,HBQ.out⟩
    ·have HF:Hid (valB vs k (v.get k) = false):=Lib.hid (by rw [← HU.out,HB4.out,decide_eq_false (by omega)])
     go_wp2_with fail
     go_ret
     exact ⟨ret_bool (all_not hlt HF.out).symm,HBQ.out⟩
    ·have HN:=Lib.hid (rel_next HV.out (show valB vs k (v.get k) = true by rw [← HU.out,HB4.out]; rfl))
     go_wp2_with fail
     go_roundw
     case rel => exact ⟨k + 1,by omega,by go_num,HN.out,HQ⟩
     case measure => simp [intOf]; omega
  ·obtain rfl:k = 4:=by omega
   have HVB:Hid (valsB vs v = true):=Lib.hid (all_to HV.out)
   go_wp2_with fail
   go_ret
   exact ⟨ret_bool HVB.out.symm,HBQ.out⟩
end
end Go.Proofs.YtckojimeglkobaaGreatDoor
namespace Go.Proofs.YtckojimeglkobaaGreatDoor
open Go.RowKit Go.Sort TermSpec EvalSpec ActSpec NamesSpec ExprSpec TransSpec SynSpec CurSpec ShapeSpec GroupSpec AtlasSpec PrintSpec ConfSpec
set_option maxRecDepth 100000
section
variable (B:Nat) (x:Cx) (w:World) (h:AtIn w B x) (hk:chk (x.sts.map shOf) = 0) (hf:FewR x) (hT:TabIn w) (hTB:0 < B) (y:Cf) (h64:y.m < 18446744073709551616)
include h hk hf hT hTB h64
set_option maxRecDepth 100000 in
set_option maxHeartbeats 8000000 in
theorem check18:Calls Tryz.prog 10 #[.pointer (some ⟨B,0,none⟩),cfA y] w (RetIn w B x (fun _ v => v = .int .i64 (if mayCf (x.sts.map shOf) x.vars y = true then 0 else 1))):=by
 obtain ⟨W1,hW1⟩:∃ W1,w.alloc (cfO y) = W1:=⟨_,rfl⟩
 have hb1:Below w.heap.size w W1:=by rw [← hW1]; exact KitC.below_one _ _
 have hk1:W1.heap[w.heap.size]? = some (cfO y):=by rw [← hW1]; exact heap_alloc_new _ _
 have HGD:=Lib.hid (AtIn.good B x W1 (h.keep hb1))
 have HCH:=Lib.hid (chart17 B x W1 (h.keep hb1) hf)
 have HSM:=Lib.hid (fun W (hW:Below w.heap.size w W) sA sn sc hl => states18 B x W (h.keep hW) hk (by have:=hf.evl; omega) (hT.keep hW) hTB y.m h64 sA sn sc hl)
 rw [states_eq hk] at HSM
 have HBW:Hid (B < w.heap.size):=Lib.hid h.lt
 have HAT:=Lib.hid h
 have HME:Hid (mayCf (x.sts.map shOf) x.vars y = (statesR (x.sts.map shOf) y.m && valsB x.vars y.v)):=Lib.hid rfl
 obtain ⟨sp,hsp⟩:∃ sp,sp = statesR (x.sts.map shOf) y.m:=⟨_,rfl⟩
 rw [← hsp] at HSM HME
 obtain ⟨vp,hvp⟩:∃ vp,vp = valsB x.vars y.v:=⟨_,rfl⟩
 have HVP:=Lib.hid hvp
 rw [← hvp] at HME
 have HW1:=Lib.hid hW1
 have HB1:=Lib.hid hb1
 have HK1:=Lib.hid hk1
 obtain ⟨nm,hnm⟩:∃ nm,nm = x.s:=⟨_,rfl⟩
 have HNM:Hid (x.s = nm):=Lib.hid hnm.symm
 rw [HME.out]
 clear h hk hf hT hTB h64 hW1 hb1 hk1 hsp hvp hnm
 obtain ⟨m,v⟩:=y
 simp only at HSM HVP ⊢
 go_enter Tryz.func10,Tryz.ntmps10
 go_wp2_with ((try rw [HW1.out]); go_at_call 29; go_fit HGD.out)
 rintro e wg ⟨rfl,rfl⟩
 go_wp2_with ((try rw [HW1.out]); go_at_call 30; go_fit HCH.out)
 rintro e w2 ⟨eA,ec,vA,vc,sA,sc,rfl,hdep,hb2⟩
 obtain ⟨en,hen⟩:∃ en,en = x.evs.length:=⟨_,rfl⟩
 obtain ⟨vn,hvn⟩:∃ vn,vn = x.vars.length:=⟨_,rfl⟩
 obtain ⟨sn,hsn⟩:∃ sn,sn = x.sts.length:=⟨_,rfl⟩
 rw [← hen,← hvn,← hsn] at hdep
 rw [← hen,← hvn,← hsn,HNM.out]
 have HD:=Lib.hid hdep
 have HB2:=Lib.hid (below_two' HB1.out hb2)
 obtain ⟨W3,hW3⟩:∃ W3,w2.alloc (chO18 nm eA en ec vA vn vc sA sn sc) = W3:=⟨_,rfl⟩
 have hb3:Below w2.heap.size w2 W3:=by rw [← hW3]; exact KitC.below_one _ _
 have hk3:W3.heap[w2.heap.size]? = some (chO18 nm eA en ec vA vn vc sA sn sc):=by rw [← hW3]; exact heap_alloc_new _ _
 have hkc:=KitC.block_on (KitC.block_on HK1.out hb2) hb3
 have HB3:=Lib.hid (below_two' HB2.out hb3)
 have HKC:=Lib.hid (And.intro hk3 hkc)
 obtain ⟨d0,d1,d2,d3,d4⟩:=cells_5c hkc
 obtain ⟨c0,c1,c2,c3⟩:=cells_4 hk3
 rw [← hW3] at d0 c3
 have HSN:=Lib.hid (HSM.out W3 HB3.out sA sn sc (((HD.out.imp fun X g => g.sts).keep hb3).mono fun b _ hb e => by have:=HBW.out; have:=HB1.out.size; omega))
 have HW3:=Lib.hid hW3
 have HDK:Hid (∀ W',W3.grownBy W' (some B) → RdV W' (.slice vA vn vc) x.vars):=Lib.hid fun W' g => (((hdep.imp fun X g => g.vars).keep hb3).go g fun b hb e => by injection e with e; have:=HBW.out; have:=HB1.out.size; omega).now
 clear hdep hb2 hen hvn hsn hW3 hb3 hk3 hkc d1 d2 d3 d4 c0 c1 c2
 go_wp2_with ((try rw [HW3.out]); go_at_call 31; go_fit HSN.out)
 rintro e w4 ⟨v4,rfl,rfl,hat,hg⟩
 have HA4:=Lib.hid hat
 have HG4:=Lib.hid (gr_any (gr_none HB3.out (some B)) hg (fun j e => .inl e))
 obtain ⟨d0,d1,d2,d3,d4⟩:=cells_5c (blk_go HKC.out.2 hg (fun e => by injection e with e; have:=HBW.out; omega))
 obtain ⟨c0,c1,c2,c3⟩:=cells_4 (blk_go HKC.out.1 hg (fun e => by injection e with e; have:=HBW.out; have:=HB2.out.size; omega))
 have HVL:=Lib.hid (vals18 vA vn vc x.vars v w4 (HDK.out _ hg))
 rw [← HVP.out] at HVL
 clear hat hg
 rcases bool_two sp with rfl | rfl
 ·simp only
  go_wp2_with fail
  go_ret
  exact ⟨_,rfl,rfl,HA4.out,HG4.out⟩
 ·simp only
  rcases bool_two vp with rfl | rfl
  ·go_wp2_with (go_at_call 32; go_fit HVL.out)
   rintro e w5 ⟨rfl,hb5⟩
   have HB5:=Lib.hid hb5
   clear hb5
   go_wp2_with fail
   go_ret
   exact ⟨_,rfl,rfl,HA4.out.keep HB5.out,gr_any HG4.out (gr_none HB5.out none) (by simp)⟩
  ·go_wp2_with (go_at_call 32; go_fit HVL.out)
   rintro e w5 ⟨rfl,hb5⟩
   have HB5:=Lib.hid hb5
   clear hb5
   go_wp2_with fail
   go_ret
   exact ⟨_,rfl,rfl,HA4.out.keep HB5.out,gr_any HG4.out (gr_none HB5.out none) (by simp)⟩
end
end Go.Proofs.YtckojimeglkobaaGreatDoor
namespace Go.Proofs.YtckojimeglkobaaGreatDoor
open Go.RowKit Go.Sort TermSpec EvalSpec ActSpec NamesSpec ExprSpec TransSpec SynSpec CurSpec ShapeSpec GroupSpec AtlasSpec PrintSpec ConfSpec
set_option maxRecDepth 100000
def FsA (W:World) (B R:Nat) (x:Cx) (fm:Nat) (p:Value) (wx:World):Prop:=∃ C,p = .pointer (some ⟨C,0,none⟩) ∧ W.heap.size ≤ C ∧ Hid (wx.heap[C]? = some (cfO ⟨fm,⟨0,0,0,0⟩⟩)) ∧ Hid (AtX (fun b => b = R ∨ b = C) wx B x) ∧ Hid (W.grownBy wx (some B))
theorem fsA {w W y1:World} {B fm:Nat} {x:Cx} (hw:w.heap.size < W.heap.size) (hat:AtX (fun b => w.heap.size ≤ b ∧ b < W.drew.heap.size) y1 B x) (hg:W.drew.grownBy y1 (some B)) :
 FsA W B w.heap.size x fm (.pointer (some ⟨y1.heap.size,0,none⟩)) (y1.alloc (cfO ⟨fm,⟨0,0,0,0⟩⟩)):=by
 have hdr:Below W.heap.size W W.drew:=(Below.refl _ _).drew
 have hb:Below y1.heap.size y1 (y1.alloc (cfO ⟨fm,⟨0,0,0,0⟩⟩)):=KitC.below_one _ _
 refine ⟨_,rfl,Nat.le_trans hdr.size hg.size,Lib.hid (heap_alloc_new _ _),Lib.hid ?_,Lib.hid (gr_any (gr_any (gr_none hdr (some B)) hg (fun j e => .inl e)) (gr_none hb none) (by simp))⟩
 refine (hat.weak (X':=fun b => b = w.heap.size ∨ b = y1.heap.size) ?_).keep hb
 rintro b hb' (rfl | rfl)
 ·exact ⟨Nat.le_refl _,Nat.lt_of_lt_of_le hw hdr.size⟩
 ·omega
theorem fsB {w W V y1:World} {B fm:Nat} {x:Cx} (hw:w.heap.size < W.heap.size) (hB:B < w.heap.size) (hv:Below W.heap.size W V) (hvs:W.heap.size < V.heap.size) (hat:AtX (fun b => w.heap.size ≤ b ∧ b < V.heap.size) y1 B x) (hg:V.grownBy y1 (some B)) (hk:y1.heap[W.heap.size]? = some cfZ) :
 FsA W B w.heap.size x fm (.pointer (some ⟨W.heap.size,0,none⟩)) (set5 y1 W.heap.size (.int .u64 fm) (.int .i64 0) (.int .i64 0) (.int .i64 0) (.int .i64 0)):=by
 have hs:y1.grownBy (set5 y1 W.heap.size (.int .u64 fm) (.int .i64 0) (.int .i64 0) (.int .i64 0) (.int .i64 0)) (some W.heap.size):=but_set (but_set (but_set (but_set (but_set (but_refl _ _) _ _) _ _) _ _) _ _) _ _
 refine ⟨_,rfl,Nat.le_refl _,Lib.hid (set5_blk hk _ _ _ _ _),Lib.hid ?_,Lib.hid (gr_any (gr_any (gr_none hv (some B)) hg (fun j e => .inl e)) hs (fun j e => .inr (by injection e with e; omega)))⟩
 refine (hat.weak (X':=fun b => b = w.heap.size ∨ b = W.heap.size) ?_).goX hs (.inr rfl) (by omega)
 rintro b hb' (rfl | rfl)
 ·exact ⟨Nat.le_refl _,by omega⟩
 ·exact ⟨by omega,hvs⟩
def UpG (W3:World) (b m:Nat) (vs:List Vr) (v:Value) (wr:World):Prop:=∃ k:Nat,k ≤ vs.length ∧ v = .int .i64 k ∧ Hid (wr.heap[b]? = some (cfO ⟨m,upV vs k⟩)) ∧ Hid (W3.grownBy wr (some b))
section
variable (B:Nat) (x:Cx) (w:World) (h:AtIn w B x) (hk:chk (x.sts.map shOf) = 0) (hne:∀ i,i < (x.sts.map shOf).length → kind (x.sts.map shOf) i = 2 → kids (x.sts.map shOf) i ≠ []) (hev:x.evs.length ≤ 1000000) (hf:FewR x) (hv4:x.vars.length ≤ 4)
include h hk hne hev hf hv4
set_option maxRecDepth 100000 in
set_option maxHeartbeats 16000000 in
theorem first18:Calls Tryz.prog 13 #[.pointer (some ⟨B,0,none⟩)] w (RetAt w B x (fun _ v => v = cfA ⟨fillG (x.sts.map shOf) 1,firstV x.vars⟩)):=by
 obtain ⟨W1,hW1⟩:∃ W1,w.alloc cfZ = W1:=⟨_,rfl⟩
 have hb1:Below w.heap.size w W1:=by rw [← hW1]; exact KitC.below_one _ _
 have hk1:W1.heap[w.heap.size]? = some cfZ:=by rw [← hW1]; exact heap_alloc_new _ _
 have HCH:=Lib.hid (chart17 B x W1 (h.keep hb1) hf)
 have HAT:=Lib.hid h
 have HBW:Hid (B < w.heap.size):=Lib.hid h.lt
 have HFI:Hid (∀ (X:Nat → Prop) W,AtIX X W B x → (∀ b,X b → B < b ∧ b < W.heap.size) → ∀ sA sn sc,Dep W (fun b => b ≠ B) (fun X => StsP X (.slice sA sn sc) x.sts) → Calls Tryz.prog 35 #[.pointer (some ⟨B,0,none⟩),.slice sA sn sc,.int .u64 1] W (RetAtX X W B x (fun _ v => v = .int .u64 (fillG (x.sts.map shOf) 1)))) :=
  Lib.hid fun X W hW hX sA sn sc hl => filledX X B x W hW hX hk hne hev 1 (by decide) sA sn sc hl
 have HWI:Hid (∀ W,Calls Tryz.prog 36 #[.int .u64 0,.int .i64 0] W fun e w' => e = .returned (.int .u64 1) ∧ W = w'):=Lib.hid fun W => with_any 0 0 (by decide) W
 obtain ⟨fm,hfm⟩:∃ fm,fm = fillG (x.sts.map shOf) 1:=⟨_,rfl⟩
 rw [← hfm] at HFI ⊢
 obtain ⟨nm,hnm⟩:∃ nm,nm = x.s:=⟨_,rfl⟩
 have HNM:Hid (x.s = nm):=Lib.hid hnm.symm
 have hbd:=cf_build
 have HW1:=Lib.hid hW1
 have HB1:=Lib.hid hb1
 have HK1:=Lib.hid hk1
 have HV4:=Lib.hid hv4
 obtain ⟨vs,hvs⟩:∃ vs,vs = x.vars:=⟨_,rfl⟩
 have HVS:Hid (x.vars = vs):=Lib.hid hvs.symm
 rw [← hvs]
 clear h hk hne hev hf hv4 hfm hnm hW1 hb1 hk1 hvs
 go_enter Tryz.func13,Tryz.ntmps13
 go_wp2_with ((try rw [HW1.out]); go_at_call 30; go_fit HCH.out)
 rintro e w2 ⟨eA,ec,vA,vc,sA,sc,rfl,hdep,hb2⟩
 rw [HNM.out,HVS.out]
 obtain ⟨sn,hsn⟩:∃ sn,sn = x.sts.length:=⟨_,rfl⟩
 obtain ⟨en,hen⟩:∃ en,en = x.evs.length:=⟨_,rfl⟩
 obtain ⟨vn,hvn⟩:∃ vn,vn = vs.length:=⟨_,rfl⟩
 rw [HVS.out] at hdep
 rw [← hsn,← hen,← hvn] at hdep ⊢
 have HD:=Lib.hid hdep
 have HVN:=Lib.hid hvn
 have HB2:=Lib.hid (below_two' HB1.out hb2)
 have HK2:=Lib.hid (KitC.block_on HK1.out hb2)
 obtain ⟨W3,hW3⟩:∃ W3,w2.alloc (chO18 nm eA en ec vA vn vc sA sn sc) = W3:=⟨_,rfl⟩
 have hb3:Below w2.heap.size w2 W3:=by rw [← hW3]; exact KitC.below_one _ _
 have hk3:W3.heap[w2.heap.size]? = some (chO18 nm eA en ec vA vn vc sA sn sc):=by rw [← hW3]; exact heap_alloc_new _ _
 have HW3:=Lib.hid hW3
 have HB3:=Lib.hid hb3
 have HK3:=Lib.hid hk3
 clear hdep hvn hsn hen hb2 hW3 hb3 hk3
 have HWL:Hid (w.heap.size < W3.heap.size):=Lib.hid (Nat.lt_of_lt_of_le (Array.getElem?_eq_some_iff.1 HK2.out).1 HB3.out.size)
 have HDV:Hid (Dep W3 (fun b => W1.heap.size ≤ b ∧ b < w2.heap.size) (fun X => RdV X (.slice vA vn vc) vs)):=Lib.hid (((HD.out.imp fun X g => (HVS.out ▸ g.vars:RdV X (.slice vA vn vc) vs)).mono fun b hb h => ⟨h,hb⟩).keep HB3.out)
 have hdr:Below W3.heap.size W3 W3.drew:=(Below.refl _ _).drew
 obtain ⟨V2,hV2⟩:∃ V2,(W3.alloc cfZ).drew = V2:=⟨_,rfl⟩
 have hbv:Below W3.heap.size W3 V2:=by rw [← hV2]; exact (KitC.below_one W3 cfZ).drew
 have hkv:V2.heap[W3.heap.size]? = some cfZ:=by rw [← hV2]; exact heap_alloc_new W3 _
 have hdp:∀ W,Below W3.heap.size W3 W → Dep W (fun b => b ≠ B) (fun X => StsP X (.slice sA sn sc) x.sts):=fun W hW => ((HD.out.imp fun X g => g.sts).keep (below_two' HB3.out hW)).mono fun b _ hb e => by have:=HBW.out; have:=HB1.out.size; omega
 have HFA:=Lib.hid (HFI.out _ W3.drew (HAT.out.freeX (below_two' (below_two' HB2.out HB3.out) hdr)) (fun b hb => ⟨by have:=HBW.out; omega,hb.2⟩) sA sn sc (hdp _ hdr))
 have HFB:=Lib.hid (HFI.out _ V2 (HAT.out.freeX (below_two' (below_two' HB2.out HB3.out) hbv)) (fun b hb => ⟨by have:=HBW.out; omega,hb.2⟩) sA sn sc (hdp _ hbv))
 have HV2:=Lib.hid hV2
 have HKV:=Lib.hid hkv
 have HBV:=Lib.hid hbv
 have HVZ:Hid (W3.heap.size < V2.heap.size):=Lib.hid (Array.getElem?_eq_some_iff.1 hkv).1
 obtain ⟨c0,c1,c2,c3⟩:=cells_4 HK3.out
 obtain ⟨e0,e1,e2,e3⟩:=cells_4 (KitC.block_on HK3.out (KitC.below_one W3 cfZ))
 clear hbv hkv hV2 hdp c0 c1 c2 e0 e1 e2
 go_wp2_with fail
 rw [HW3.out]
 go_cut [4] from 9 (fun p wx => FsA W3 B w.heap.size x fm p wx)
 case first =>
  go_region_law (first
   | (go_simp; go_at_call 36; (with_reducible refine (HWI.out _).mono ?_); rintro e y0 ⟨rfl,rfl⟩)
   | (go_simp; go_at_call 35; (with_reducible refine (HFA.out).mono ?_); rintro e y1 ⟨v1,rfl,rfl,at1,g1⟩)
   | (go_simp; rw [HV2.out]; go_at_call 35; (with_reducible refine (HFB.out).mono ?_); rintro e y1 ⟨v1,rfl,rfl,at1,g1⟩; have kc:=blk_go HKV.out g1 (fun e => by injection e with e; have:=HBW.out; have:=HB2.out.size; have:=HB3.out.size; omega); obtain ⟨p0,p1,p2,p3,p4⟩:=cells_5c (x:=⟨0,0,0,0⟩) kc; obtain ⟨q0,q1,q2,q3,q4⟩:=free_5c kc))
  all_goals
   go_wp2_with fail
   go_meet
   first
    | (have hq:=fsB (fm:=fm) HWL.out HBW.out HBV.out HVZ.out at1 g1 kc; exact hq)
    | (have hq:=fsA (fm:=fm) HWL.out at1 g1; exact hq)
 case rest =>
  obtain ⟨C,rfl,hC,HKC,HAX,HG⟩:=hcut
  have HCB:Hid (B < C ∧ w.heap.size < C ∧ w2.heap.size < C ∧ w.heap.size < w2.heap.size ∧ w.heap.size ≤ W1.heap.size):=Lib.hid (by
   have h1:=HBW.out
   have h2:=HWL.out
   have h3:=(Array.getElem?_eq_some_iff.1 HK3.out).1
   have h4:=(Array.getElem?_eq_some_iff.1 HK2.out).1
   have h5:=HB1.out.size
   omega)
  have hkx:=blk_go HK3.out HG.out (fun e => by injection e with e; have:=HCB.out; have:=HBW.out; omega)
  have HKX:=Lib.hid hkx
  have HKR:=Lib.hid (blk_go (KitC.block_on HK2.out HB3.out) HG.out (fun e => by injection e with e; have:=HBW.out; omega))
  have HDW:=Lib.hid (HDV.out.go HG.out (fun b hb e => by injection e with e; have:=HBW.out; have:=HCB.out; omega))
  have HGS:Hid (w.grownBy wc (some B)):=Lib.hid (gr_any (gr_none (below_two' HB2.out HB3.out) (some B)) HG.out (fun j e => .inl e))
  have HCL:Hid (C < wc.heap.size):=Lib.hid (Array.getElem?_eq_some_iff.1 HKC.out).1
  obtain ⟨c0,c1,c2,c3⟩:=cells_4 hkx
  clear hkx hC e3 hdr
  go_wp2_with fail
  go_loopw [18] (fun v wr => UpG wc C fm vs v wr) (fun v _ => vs.length - (intOf v).toNat)
  case atStart => exact ⟨0,Nat.zero_le _,rfl,HKC,Lib.hid (but_refl _ _)⟩
  case round =>
   obtain ⟨k,hk,rfl,HKB,HGR⟩:=hrel
   by_cases hlt:k < vs.length
   ·have hkI:(k:Int) < (vn:Int):=by have:=HVN.out; omega
    have hk4:k < 4:=by have:=HV4.out; rw [HVS.out] at this; omega
    have hk4I:(k:Int) < 4:=by omega
    obtain ⟨q,hq⟩:∃ q,vs[k]? = some q:=get_some hlt
    obtain ⟨b,off,rfl,hbl,x0,x1,x2,x3⟩:=(RdV.vars (HVN.out ▸ (HDW.out.go HGR.out (fun b hb e => by injection e with e; have:=HCB.out; omega)).now)).at_ hq
    have HIN:Hid (iniV vs k = q.ini):=Lib.hid (by unfold iniV; rw [hq]; rfl)
    obtain ⟨qs,ql,qh,qi⟩:=q
    simp only at x0 x1 x2 x3 HIN
    obtain ⟨W7,hW7⟩:∃ W7,wr.alloc (.cells #[.string qs,.int .i64 ql,.int .i64 qh,.int .i64 qi] 52) = W7:=⟨_,rfl⟩
    have hb7:Below wr.heap.size wr W7:=by rw [← hW7]; exact KitC.below_one _ _
    have hkc7:=KitC.block_on HKB.out hb7
    have HKC7:=Lib.hid hkc7
    have HB7:=Lib.hid hb7
    have HW7:=Lib.hid hW7
    have y1:=v5_cell hkc7 hk4
    have z1:=free_of_block' hkc7 (1 + k)
    rw [← hW7] at y1 z1
    clear hq hW7 hb7 hkc7
    go_wp2_with fail
    (try rw [HW7.out])
    go_roundw
    case rel => exact ⟨k + 1,by omega,by go_num,Lib.hid (by rw [← HIN.out]; exact up_set HKC7.out hk4),Lib.hid (gr_any (gr_any HGR.out (gr_none HB7.out none) (by simp)) (but_set (but_refl W7 (some C)) (1 + k) (.int .i64 qi)) (fun j e => .inl e))⟩
    case measure => simp [intOf]; omega
   ·have hkI:¬ (k:Int) < (vn:Int):=by have:=HVN.out; omega
    have hkb:=HKB.out
    rw [upV_end (by omega:vs.length ≤ k)] at hkb
    obtain ⟨fv,hfv⟩:∃ fv,fv = firstV vs:=⟨_,rfl⟩
    rw [← hfv] at hkb
    have HFV:Hid (firstV vs = fv):=Lib.hid hfv.symm
    obtain ⟨y0,y1,y2,y3,y4⟩:=cells_5c hkb
    have hkr:=blk_go HKR.out HGR.out (fun e => by injection e with e; have:=HCB.out; omega)
    obtain ⟨z0,z1,z2,z3,z4⟩:=free_5c hkr
    obtain ⟨v0,v1,v2,v3,v4⟩:=cells_5c (x:=⟨0,0,0,0⟩) hkr
    obtain ⟨a,b,c,d⟩:=fv
    obtain ⟨q0,q1,q2,q3,q4⟩:=store_5 (blk_of hkr (n:=5) rfl) (.int .u64 fm) (.int .i64 a) (.int .i64 b) (.int .i64 c) (.int .i64 d)
    have HS5:Hid (wr.grownBy (set5 wr w.heap.size (.int .u64 fm) (.int .i64 a) (.int .i64 b) (.int .i64 c) (.int .i64 d)) (some w.heap.size)):=Lib.hid (but_set (but_set (but_set (but_set (but_set (but_refl _ _) _ _) _ _) _ _) _ _) _ _)
    simp only at y0 y1 y2 y3 y4
    clear hkb hfv hkr
    go_wp2_with fail
    refine bodyPost_ret (v:=.agg #[.int .u64 fm,.int .i64 a,.int .i64 b,.int .i64 c,.int .i64 d]) (by simp [results,Tryz.results13,go_sem,q0,q1,q2,q3,q4]) rfl ?_
    refine ⟨_,rfl,by rw [HFV.out],((HAX.out.goX HGR.out (.inr rfl) (by have:=HCB.out; omega)).go HS5.out (.inl rfl) (by have:=HBW.out; omega)),gr_any (gr_any HGS.out HGR.out (fun j e => .inr (by injection e with e; have:=HCB.out; omega))) HS5.out (fun j e => .inr (by injection e with e; omega))⟩
end
end Go.Proofs.YtckojimeglkobaaGreatDoor
namespace Go.Proofs.YtckojimeglkobaaGreatDoor
open Go.RowKit Go.Sort TermSpec EvalSpec ActSpec NamesSpec ExprSpec TransSpec SynSpec CurSpec ShapeSpec GroupSpec AtlasSpec PrintSpec ConfSpec
set_option maxRecDepth 100000
theorem own_go1 {w w':World} {N n i:Nat} {p:Value} {xs:List Value} (h:w.ownsRow N 9 1 p n xs) (g:w.grownBy w' (some i)) (hne:p.ownBlock ≠ some i):w'.ownsRow N 9 1 p n xs:=by
 refine ⟨h.1,?_⟩
 rcases h.2 with h1 | ⟨g0,cap,cur,h1,h2,h3,h4⟩
 ·exact .inl h1
 ·exact .inr ⟨g0,cap,cur,h1,h2,(g.block g0 (Array.getElem?_eq_some_iff.1 h3).1 fun e => hne (by injection e with e; rw [h1,e]; rfl)).trans h3,h4⟩
section
variable (B:Nat) (x:Cx) (w:World) (h:AtIn w B x) (hf:FewR x) (y:Cf) (h64:y.m < 18446744073709551616)
include h hf h64
end
end Go.Proofs.YtckojimeglkobaaGreatDoor
namespace Go.Proofs.YtckojimeglkobaaGreatDoor
open Go.RowKit TermSpec EvalSpec ActSpec NamesSpec ExprSpec TransSpec SynSpec CurSpec ShapeSpec GroupSpec AtlasSpec PrintSpec
set_option maxRecDepth 100000
theorem row_build0 (w:World):(Instr.build 137 #[]).run Tryz.prog w = .ok (.agg #[.slice none 0 0,.int .u64 0,.int .u64 0,.int .i64 0]) w:=run_build w 137 _ _ (by kernel_rfl)
def RetV17 (W:World) (v:Value) (e:Ending) (w':World):Prop:=e = .returned v ∧ Below W.heap.size W w'
section
variable (p:Value) (w:World) (h:∀ W,Below w.heap.size w W → Calls Tryz.prog 29 #[p] W (SameB W false))
include h
set_option maxRecDepth 100000 in
set_option maxHeartbeats 4000000 in
theorem nchart:Calls Tryz.prog 30 #[p] w (RetV17 w (.agg #[.string ⟨#[]⟩,.slice none 0 0,.slice none 0 0,.slice none 0 0])):=by
 have HG:=Lib.hid h
 have hcb:=cb_zero
 clear h
 go_enter Tryz.func30,Tryz.ntmps30
 go_wp2_with (go_at_call 29; go_fit (HG.out _ (KitC.below_one _ _)))
 rintro e w2 ⟨rfl,rfl⟩
 go_wp2_with fail
 refine bodyPost_ret (v:=.agg #[.string ⟨#[]⟩,.slice none 0 0,.slice none 0 0,.slice none 0 0]) (by simp [results,Tryz.results30,go_sem]) rfl ?_
 exact ⟨rfl,KitC.below_one _ _⟩
set_option maxRecDepth 100000 in
set_option maxHeartbeats 4000000 in
theorem nrow (i:Int):Calls Tryz.prog 80 #[p,.int .i64 i] w (RetV17 w (.agg #[.slice none 0 0,.int .u64 0,.int .u64 0,.int .i64 0])):=by
 have HG:=Lib.hid h
 have hcb:=row_build0
 clear h
 go_enter Tryz.func80,Tryz.ntmps80
 go_wp2_with (go_at_call 29; go_fit (HG.out _ (KitC.below_one _ _)))
 rintro e w2 ⟨rfl,rfl⟩
 go_wp2_with fail
 refine bodyPost_ret (v:=.agg #[.slice none 0 0,.int .u64 0,.int .u64 0,.int .i64 0]) (by simp [results,Tryz.results80,go_sem]) rfl ?_
 exact ⟨rfl,KitC.below_one _ _⟩
set_option maxRecDepth 100000 in
set_option maxHeartbeats 4000000 in
theorem nbelow (i:Int):Calls Tryz.prog 60 #[p,.int .i64 i] w (RetV17 w (.int .u64 0)):=by
 have HR:=Lib.hid (nrow p w h i)
 have hfl:=row_fld2
 clear h
 go_enter Tryz.func60,Tryz.ntmps60
 go_wp2_with (go_at_call 80; go_fit HR.out)
 rintro e w2 ⟨rfl,hb⟩
 have HB:=Lib.hid hb
 clear hb
 go_wp2_with fail
 go_ret
 exact ⟨rfl,HB.out⟩
end
end Go.Proofs.YtckojimeglkobaaGreatDoor
namespace Go.Proofs.YtckojimeglkobaaGreatDoor
open Go.RowKit Go.Sort TermSpec EvalSpec ActSpec NamesSpec ExprSpec TransSpec SynSpec CurSpec ShapeSpec GroupSpec AtlasSpec PrintSpec ConfSpec
set_option maxRecDepth 100000
section
variable (w:World)
theorem no_good:∀ W,Below w.heap.size w W → Calls Tryz.prog 29 #[.pointer none] W (SameB W false):=fun W _ => good_nil17 W
set_option maxRecDepth 100000 in
set_option maxHeartbeats 4000000 in
theorem check_no (y:Cf):Calls Tryz.prog 10 #[.pointer none,cfA y] w (RetI w 10):=by
 have HB:=Lib.hid (KitC.below_one w (cfO y))
 go_enter Tryz.func10,Tryz.ntmps10
 go_wp2_with (go_at_call 29; go_fit (good_nil17 _))
 rintro e w2 ⟨rfl,rfl⟩
 go_wp2_with fail
 go_ret
 exact ⟨rfl,HB.out⟩
set_option maxRecDepth 100000 in
set_option maxHeartbeats 4000000 in
theorem filled_no (m:Nat):Calls Tryz.prog 35 #[.pointer none,.slice none 0 0,.int .u64 m] w (RetV17 w (.int .u64 0)):=by
 have HN:=Lib.hid (nbelow (.pointer none) w (no_good w) 0)
 have hba:bits .and .u64 (m:Int) 0 = 0:=by
  have h1:bits .and .u64 (m:Int) 0 = ((0:Nat):Int):=by
   simp [bits]
   rfl
  exact h1
 go_enter Tryz.func35,Tryz.ntmps35
 go_wp2_with (go_at_call 60; go_fit HN.out)
 rintro e w2 ⟨rfl,hb⟩
 have HB:=Lib.hid hb
 clear hb
 go_wp2_with fail
 go_loop [2,16] (fun u v => u = .int .u64 0 ∧ v = .int .i64 0) (fun _ _ => 0)
 case atStart => exact ⟨rfl,rfl⟩
 case round =>
  obtain ⟨rfl,rfl⟩:=hrel
  go_wp2_with fail
  go_ret
  exact ⟨rfl,HB.out⟩
set_option maxRecDepth 100000 in
set_option maxHeartbeats 4000000 in
theorem fill_no (m:Nat):Calls Tryz.prog 12 #[.pointer none,.int .u64 m] w (RetV17 w (.int .u64 0)):=by
 have HN:=Lib.hid (nchart (.pointer none) w (no_good w))
 have hfl:=ch_fld3
 go_enter Tryz.func12,Tryz.ntmps12
 go_wp2_with (go_at_call 30; go_fit HN.out)
 rintro e w2 ⟨rfl,hb⟩
 have HB:=Lib.hid hb
 clear hb
 go_wp2_with (go_at_call 35; go_fit (filled_no w2 m))
 rintro e w3 ⟨rfl,hb⟩
 have HB3:=Lib.hid (below_two' HB.out hb)
 clear hb
 go_wp2_with fail
 go_ret
 exact ⟨rfl,HB3.out⟩
set_option maxRecDepth 100000 in
set_option maxHeartbeats 8000000 in
theorem first_no:Calls Tryz.prog 13 #[.pointer none] w (RetV17 w (.agg #[.int .u64 0,.int .i64 0,.int .i64 0,.int .i64 0,.int .i64 0])):=by
 obtain ⟨W1,hW1⟩:∃ W1,w.alloc cfZ = W1:=⟨_,rfl⟩
 have hb1:Below w.heap.size w W1:=by rw [← hW1]; exact KitC.below_one _ _
 have hk1:W1.heap[w.heap.size]? = some cfZ:=by rw [← hW1]; exact heap_alloc_new _ _
 have HCH:=Lib.hid (nchart (.pointer none) W1 (no_good _))
 have HWI:Hid (∀ W,Calls Tryz.prog 36 #[.int .u64 0,.int .i64 0] W fun e w' => e = .returned (.int .u64 1) ∧ W = w'):=Lib.hid fun W => with_any 0 0 (by decide) W
 have hbd:=cf_build
 have HW1:=Lib.hid hW1
 have HB1:=Lib.hid hb1
 have HK1:=Lib.hid hk1
 clear hW1 hb1 hk1
 go_enter Tryz.func13,Tryz.ntmps13
 go_wp2_with ((try rw [HW1.out]); go_at_call 30; go_fit HCH.out)
 rintro e w2 ⟨rfl,hb2⟩
 have HB2:=Lib.hid (below_two' HB1.out hb2)
 have HK2:=Lib.hid (KitC.block_on HK1.out hb2)
 obtain ⟨W3,hW3⟩:∃ W3,w2.alloc chZ17 = W3:=⟨_,rfl⟩
 have hb3:Below w2.heap.size w2 W3:=by rw [← hW3]; exact KitC.below_one _ _
 have hk3:W3.heap[w2.heap.size]? = some chZ17:=by rw [← hW3]; exact heap_alloc_new _ _
 have HW3:=Lib.hid hW3
 have HB3:=Lib.hid hb3
 have HK3:=Lib.hid hk3
 have hdr:Below W3.heap.size W3 W3.drew:=(Below.refl _ _).drew
 obtain ⟨V2,hV2⟩:∃ V2,(W3.alloc cfZ).drew = V2:=⟨_,rfl⟩
 have hbv:Below W3.heap.size W3 V2:=by rw [← hV2]; exact (KitC.below_one W3 cfZ).drew
 have hkv:V2.heap[W3.heap.size]? = some cfZ:=by rw [← hV2]; exact heap_alloc_new W3 _
 have HFA:=Lib.hid (show Calls Tryz.prog 35 #[.pointer none,.slice none 0 0,.int .u64 1] W3.drew (RetV17 W3.drew (.int .u64 0)) from filled_no W3.drew 1)
 have HFB:=Lib.hid (show Calls Tryz.prog 35 #[.pointer none,.slice none 0 0,.int .u64 1] V2 (RetV17 V2 (.int .u64 0)) from filled_no V2 1)
 have HV2:=Lib.hid hV2
 have HKV:=Lib.hid hkv
 have HBV:=Lib.hid hbv
 obtain ⟨c0,c1,c2,c3⟩:=cells_4 hk3
 obtain ⟨e0,e1,e2,e3⟩:=cells_4 (KitC.block_on hk3 (KitC.below_one W3 cfZ))
 clear hb2 hW3 hb3 hk3 hbv hkv hV2 c0 c1 c2 e0 e1 e2
 go_wp2_with fail
 (try rw [HW3.out])
 go_cut [4] from 9 (fun p wx => ∃ C,p = .pointer (some ⟨C,0,none⟩) ∧ W3.heap.size ≤ C ∧ Hid (wx.heap[C]? = some cfZ) ∧ Hid (Below W3.heap.size W3 wx))
 case first =>
  go_region_law (first
   | (go_simp; go_at_call 36; (with_reducible refine (HWI.out _).mono ?_); rintro e y0 ⟨rfl,rfl⟩)
   | (go_simp; go_at_call 35; (with_reducible refine (HFA.out).mono ?_); rintro e y1 ⟨rfl,hy⟩)
   | (go_simp; rw [HV2.out]; go_at_call 35; (with_reducible refine (HFB.out).mono ?_); rintro e y1 ⟨rfl,hy⟩; have kc:=KitC.block_on HKV.out hy; obtain ⟨p0,p1,p2,p3,p4⟩:=cells_5c (x:=⟨0,0,0,0⟩) kc; obtain ⟨q0,q1,q2,q3,q4⟩:=free_5c kc))
  all_goals
   go_wp2_with fail
   go_meet
   first
    | (have hq:=set5_blk kc (.int .u64 0) (.int .i64 0) (.int .i64 0) (.int .i64 0) (.int .i64 0); exact ⟨_,rfl,Nat.le_refl _,Lib.hid hq,Lib.hid (set5_below (below_two' HBV.out hy) (Nat.le_refl _) _ _ _ _ _)⟩)
    | exact ⟨_,rfl,Nat.le_trans hdr.size hy.size,Lib.hid (heap_alloc_new _ _),Lib.hid (below_two' (below_two' hdr hy) (KitC.below_one _ _))⟩
 case rest =>
  obtain ⟨C,rfl,hC,HKC,HBC⟩:=hcut
  have hbx:=below_two' HB3.out HBC.out
  have hkx:=KitC.block_on HK3.out HBC.out
  have hkr:=KitC.block_on HK2.out hbx
  have HKR:=Lib.hid hkr
  have HBX:=Lib.hid (below_two' HB2.out hbx)
  obtain ⟨c0,c1,c2,c3⟩:=cells_4 hkx
  obtain ⟨y0,y1,y2,y3,y4⟩:=cells_5c (x:=⟨0,0,0,0⟩) HKC.out
  obtain ⟨z0,z1,z2,z3,z4⟩:=free_5c hkr
  obtain ⟨v0,v1,v2,v3,v4⟩:=cells_5c (x:=⟨0,0,0,0⟩) hkr
  obtain ⟨q0,q1,q2,q3,q4⟩:=store_5 (blk_of hkr (n:=5) rfl) (.int .u64 0) (.int .i64 0) (.int .i64 0) (.int .i64 0) (.int .i64 0)
  clear hbx hkx hkr hC e3 hdr
  go_wp2_with fail
  go_loop [18] (fun v => v = .int .i64 0) (fun _ => 0)
  case atStart => rfl
  case round =>
   subst hrel
   go_wp2_with fail
   refine bodyPost_ret (v:=.agg #[.int .u64 0,.int .i64 0,.int .i64 0,.int .i64 0,.int .i64 0]) (by simp [results,Tryz.results13,go_sem,q0,q1,q2,q3,q4]) rfl ?_
   exact ⟨rfl,set5_below HBX.out (Nat.le_refl _) _ _ _ _ _⟩
end
end Go.Proofs.YtckojimeglkobaaGreatDoor
namespace Go.Proofs.YtckojimeglkobaaGreatDoor
open Go.RowKit
theorem rdk_whole {k n c b:Nat} {w:World} {cs:Array Value} {T:TypeId} {fr:Nat × Nat} {xs:List Value} (h:w.heap[b]? = some (.cells cs T fr)) (hx:cs.toList = xs) (hl:xs.length = n * k) (hc:n ≤ c):Rdk k w (.slice (some ⟨b,0,none⟩) n c) n xs:=by
 refine ⟨_,c,rfl,hc,hl,fun _ => ⟨b,0,rfl,(Array.getElem?_eq_some_iff.1 h).1,fun j u hj => ?_⟩⟩
 rw [← hx,Array.getElem?_toList] at hj
 simp [World.cell?,h,hj]
end Go.Proofs.YtckojimeglkobaaGreatDoor
namespace Go.Proofs.YtckojimeglkobaaGreatDoor
open Go.RowKit TermSpec EvalSpec ActSpec NamesSpec ExprSpec TransSpec SynSpec CurSpec ShapeSpec GroupSpec AtlasSpec PrintSpec RulesSpec SoundSpec
set_option maxRecDepth 100000
theorem at_below {N B:Nat} {w0 w w':World} (hb:Below N w0 w) (hN:N ≤ w.heap.size) (hg:w.grownBy w' (some B)) (hB:N ≤ B):Below N w0 w':=hb.grown hg hN (fun j e => by injection e with e; omega)
def sx17 (s:UInt8) (k p:Int):Sx:=⟨⟨#[s]⟩,k,p,[],[],[]⟩
def x17:Cx:=⟨⟨#[99]⟩,[⟨#[122]⟩,⟨#[121]⟩],[],[sx17 116 2 (-1),sx17 97 1 0,sx17 98 1 0]⟩
theorem few17 {s:Sx} (h:s ∈ x17.sts):s.s.size = 1 ∧ s.en = [] ∧ s.ex = [] ∧ s.tr = []:=by
 rcases List.mem_cons.1 h with rfl | h
 ·exact ⟨rfl,rfl,rfl,rfl⟩
 rcases List.mem_cons.1 h with rfl | h
 ·exact ⟨rfl,rfl,rfl,rfl⟩
 rw [List.mem_singleton.1 h]
 exact ⟨rfl,rfl,rfl,rfl⟩
theorem sb17a (s:ByteArray) (a b:Int) (w:World):(Instr.build 58 #[(0,.string s),(1,.int .i64 a),(2,.int .i64 b)]).run Tryz.prog w = .ok (.agg #[.string s,.int .i64 a,.int .i64 b,.slice none 0 0,.slice none 0 0,.slice none 0 0]) w:=run_build w 58 _ _ (by kernel_rfl)
theorem sb17b (s:ByteArray) (a:Int) (w:World):(Instr.build 58 #[(0,.string s),(1,.int .i64 a)]).run Tryz.prog w = .ok (.agg #[.string s,.int .i64 a,.int .i64 0,.slice none 0 0,.slice none 0 0,.slice none 0 0]) w:=run_build w 58 _ _ (by kernel_rfl)
abbrev stO17:Obj:=.cells #[.string ⟨#[116]⟩,.int .i64 2,.int .i64 (-1),.slice none 0 0,.slice none 0 0,.slice none 0 0,.string ⟨#[97]⟩,.int .i64 1,.int .i64 0,.slice none 0 0,.slice none 0 0,.slice none 0 0,.string ⟨#[98]⟩,.int .i64 1,.int .i64 0,.slice none 0 0,.slice none 0 0,.slice none 0 0] 58
section
variable {B:Nat} {W:World} (h:AtIn W B x17)
include h
end
end Go.Proofs.YtckojimeglkobaaGreatDoor