/- AtlasMake, AtlasCalls, joined. -/
import Derived.Test.YtckojimeglkobaaGreatDoorMConfFills18
import Derived.Deep.CutRange
import Derived.Deep.RegionLaw
import Derived.Test.YtckojimeglkobaaGreatDoorMConfFills00
namespace Go.Proofs.YtckojimeglkobaaGreatDoor
open Go.RowKit TermSpec EvalSpec ActSpec NamesSpec ExprSpec TransSpec SynSpec CurSpec ShapeSpec GroupSpec AtlasSpec PrintSpec
set_option maxRecDepth 100000
theorem inf_row:(Tryz.prog.info? 137).map (fun i => (i.zero,i.size,i.bytes)) = some (some (.agg #[.slice none 0 0,.int .u64 0,.int .u64 0,.int .i64 0]),4,48):=by kernel_rfl
theorem infs_str:(Tryz.prog.info? 9).map (fun i => (i.zero,i.size,i.bytes)) = some (some (.string ByteArray.empty),1,16):=by kernel_rfl
def MkRel (W:World) (B:Nat) (nm:ByteArray) (e v s:Value) (l:List Sh) (ns:List ByteArray) (n:Nat) (i:Value) (wr:World):Prop :=
 ∃ (k:Nat) (pl rw:Value) (ps:List RwP),k ≤ n ∧ i = .int .i64 k ∧ Hid (Tb none W wr B nm e v s pl rw (ns.take k) ps) ∧ Hid (ps.length = k) ∧ Hid (RwsAt l k (fun _ => false) ps)
def MiRel (W w6:World) (B:Nat) (nm:ByteArray) (e v s pl:Value) (rA:Option Addr) (rn rc:Nat) (l:List Sh) (ns:List ByteArray) (k m:Nat) (ks:List Int) (i:Value) (wr:World):Prop :=
 ∃ (t:Nat) (ps:List RwP),t ≤ m ∧ i = .int .i64 t ∧ Hid (Tb none W wr B nm e v s pl (.slice rA rn rc) ns ps) ∧ Hid (ps.length = k + 1) ∧ Hid (RwsAt l k (fun j => decide ((j:Int) ∈ ks.take t)) ps) ∧ Hid (w6.grownBy wr (Value.slice rA rn rc).ownBlock)
section
variable (B:Nat) (x:Cx) (w:World) (eA:Option Addr) (en ec:Nat) (v:Value) (sA:Option Addr) (n sc:Nat)
 (h:w.heap[B]? = some (atO x.s (.slice eA en ec) v (.slice sA n sc) 0 1 (.slice none 0 0) (.slice none 0 0) (.slice none 0 0))) (hc:Dep w (fun b => b < B) (fun X => ChIn X (.slice eA en ec) v (.slice sA n sc) x)) (hk:chk (x.sts.map shOf) = 0) (hev:x.evs.length ≤ 1000000)
include h hc hk hev
set_option maxRecDepth 100000 in
set_option maxHeartbeats 8000000 in
theorem make_any:Calls Tryz.prog 101 #[.pointer (some ⟨B,0,none⟩)] w fun r w' => r = .returned (.tuple #[]) ∧ ∃ pl' rw' ev',w'.heap[B]? = some (atO x.s (.slice eA en ec) v (.slice sA n sc) 0 1 pl' rw' ev') ∧ w.grownBy w' (some B) ∧
 ∃ ps,RowsOf (x.sts.map shOf) ps ∧ Dep w' (fun b => w.heap.size ≤ b) (fun X => RdS X pl' (x.sts.map (·.s)) ∧ RowsIn X rw' ps ∧ RdS X ev' (un x.evs [])):=by
 obtain ⟨l,hl⟩:∃ l,l = x.sts.map shOf:=⟨_,rfl⟩
 obtain ⟨ns,hns⟩:∃ ns,ns = x.sts.map (·.s):=⟨_,rfl⟩
 obtain ⟨hnx,hnc⟩:=(hc.now).sts.len
 have hln:l.length = n:=by rw [hl,List.length_map]; omega
 have hnl:ns.length = n:=by rw [hns,List.length_map]; omega
 rw [← hl] at hk
 have h60:n ≤ 60:=by rw [← hln]; exact (chk_ok hk).1
 have hhas:∀ i:Nat,i < n → hasB l (i:Int) = true:=fun i hi => by
  unfold hasB
  rw [hk,decide_eq_true (show (0:Int) ≤ i by omega),decide_eq_true (show (i:Int) < l.length by omega)]
  rfl
 have HHAS:=Lib.hid hhas
 have HC:Hid (∀ W,w.grownBy W (some B) → ChIn W (.slice eA en ec) v (.slice sA n sc) x):=Lib.hid (fun W hW => (hc.go hW fun b h1 h2 => by injection h2 with h2; omega).now)
 have HT0:=Lib.hid (Tb.start h)
 have HL:=Lib.hid hl
 have HNS:=Lib.hid hns
 have HLN:=Lib.hid hln
 have HNL:=Lib.hid hnl
 have HEV:=Lib.hid hev
 rw [← hl,← hns]
 obtain ⟨nm,hnm⟩:∃ nm,nm = x.s:=⟨_,rfl⟩
 rw [← hnm] at HT0 ⊢
 obtain ⟨-,c1,c2,c3,c4,-,-,c8,c9,c10⟩:=at_cells HT0.out.blk
 obtain ⟨i0,hi,hz0,hz1,hz2⟩:=info_parts infs_str
 have HI:=Lib.hid (And.intro hi (And.intro hz0 (And.intro hz1 hz2)))
 obtain ⟨i1,hi1,hz01,hz11,hz21⟩:=info_parts inf_row
 have HI1:=Lib.hid (And.intro hi1 (And.intro hz01 (And.intro hz11 hz21)))
 obtain ⟨i2,hi2,hz02,hz12,hz22⟩:=info_parts inf_int
 have HI2:=Lib.hid (And.intro hi2 (And.intro hz02 (And.intro hz12 hz22)))
 clear h hc hk hev hl hns hnx hnc hln hnl hhas hnm hi hz0 hz1 hz2 hi1 hz01 hz11 hz21 hi2 hz02 hz12 hz22
 go_enter Tryz.func101,Tryz.ntmps101
 go_wp2_with fail
 go_loopw [15] (fun i wr => MkRel w B nm (.slice eA en ec) v (.slice sA n sc) l ns n i wr) (fun i _ => n - (intOf i).toNat)
 case atStart => exact ⟨0,_,_,[],Nat.zero_le _,rfl,HT0,Lib.hid rfl,Lib.hid (RwsAt.nil _ _ _)⟩
 case round =>
  obtain ⟨k,pl,rw,ps,hkn,rfl,HT,HPL,HRA⟩:=hrel
  by_cases hlt:k < n
  case neg =>
   obtain rfl:k = n:=by omega
   have HCE:=Lib.hid (HC.out wr HT.out.grown).evs
   have HUN:=Lib.hid (union_own (.slice eA en ec) (.slice none 0 0) x.evs [] wr HCE.out (Rd.nil _) (by have:=HEV.out; simp; omega))
   obtain ⟨-,d1,d2,d3,d4,-,-,d8,d9,d10⟩:=at_cells HT.out.blk
   clear c1 c2 c3 c4 c8 c9 c10
   go_wp2_with (go_at_call 118; go_fit HUN.out)
   rintro e w5 ⟨p5,rfl,ho,hb⟩
   obtain ⟨A5,c5,rfl⟩:=own_shape ho
   have HE:=Lib.hid (HT.out.done hb ho)
   obtain ⟨-,-,-,-,-,-,-,-,-,x10⟩:=at_cells (HT.out.keep hb).blk
   have y10:=free_of_block' (HT.out.keep hb).blk 10
   clear ho hb d1 d2 d3 d4 d8 d9 d10
   go_wp2_with fail
   go_end0
   refine ⟨rfl,pl,rw,_,HE.out.1,HE.out.2.1,ps,⟨?_,?_⟩,HE.out.2.2.imp fun X g => ⟨?_,g.2.1,g.2.2⟩⟩
   ·rw [HPL.out,HLN.out]
   ·rw [HLN.out]; exact HRA.out
   ·have:=g.1
    rwa [List.take_of_length_le (Nat.le_of_eq HNL.out)] at this
  obtain ⟨sx,hsx⟩:∃ sx,x.sts[k]? = some sx:=get_some (by have:=(HC.out w (but_refl _ _)).sts.len; omega)
  have HCR:=Lib.hid (HC.out wr HT.out.grown)
  obtain ⟨b,off,a3,n3,m3,a4,n4,m4,a5,n5,m5,rfl,hbl,c0',c1',c2',c3',c4',c5',-,-,-⟩:=StsP.at_ HCR.out.sts hsx
  obtain ⟨nmk,hnmk⟩:∃ t,t = sx.s:=⟨_,rfl⟩
  obtain ⟨q1,hq1⟩:∃ q,q = sx.kind:=⟨_,rfl⟩
  obtain ⟨q2,hq2⟩:∃ q,q = sx.par:=⟨_,rfl⟩
  rw [← hnmk] at c0'
  rw [← hq1] at c1'
  rw [← hq2] at c2'
  have HNK:Hid (ns[k]? = some nmk):=Lib.hid (by rw [HNS.out,List.getElem?_map,hsx,hnmk]; rfl)
  obtain ⟨W1,hW1⟩:∃ W1,wr.alloc (.cells #[.string nmk,.int .i64 q1,.int .i64 q2,.slice a3 n3 m3,.slice a4 n4 m4,.slice a5 n5 m5] 58) = W1:=⟨_,rfl⟩
  have hb1:Below wr.heap.size wr W1:=by rw [← hW1]; exact KitC.below_one _ _
  have hk1:W1.heap[wr.heap.size]? = some (.cells #[.string nmk,.int .i64 q1,.int .i64 q2,.slice a3 n3 m3,.slice a4 n4 m4,.slice a5 n5 m5] 58):=by rw [← hW1]; exact heap_alloc_new _ _
  have HW1:=Lib.hid hW1
  have HT1:=Lib.hid (HT.out.keep hb1)
  have HK1:=Lib.hid hk1
  have HB1:=Lib.hid hb1
  clear hsx hnmk hq1 hq2 hW1 hb1 hk1
  have HZ1:Hid (w.heap.size ≤ W1.heap.size):=Lib.hid HT1.out.size
  have HPT:Hid ((ns.take k).length + 1 ≤ maxLen):=Lib.hid (by simp [maxLen]; omega)
  have HPU:Hid (((ns.take k).length + 1) * 16 ≤ 140737488355328):=Lib.hid (by simp; omega)
  have HS1:Hid (∀ u ∈ sC nmk,u.oneCell' = true):=Lib.hid (by
   intro u hu
   rw [List.mem_singleton.1 hu]
   rfl)
  go_wp2_with fail
  rw [HW1.out]
  obtain ⟨-,d1,d2,d3,d4,-,-,d8,d9,d10⟩:=at_cells HT1.out.blk
  have e0:W1.cell? ⟨wr.heap.size,0,none⟩ = some (.string nmk):=cell_of_block' HK1.out rfl
  have l1:B < W1.heap.size:=(Array.getElem?_eq_some_iff.1 HT1.out.blk).1
  have l2:wr.heap.size < W1.heap.size:=(Array.getElem?_eq_some_iff.1 HK1.out).1
  go_cut [] from 20 to 30 (fun wx => ∃ pl',Tb none w wx B nm (.slice eA en ec) v (.slice (some ⟨b,off,none⟩) n sc) pl' rw (ns.take (k + 1)) ps)
  case first =>
   go_region_law (refine step_append_rowK rfl (.tmp 24) (.tmp 27) _ rfl i0 (.string ByteArray.empty) 16 Tryz.underlying22 HI.out.1 HI.out.2.1 HI.out.2.2.1 HI.out.2.2.2 rfl (by decide) HT1.out.pls HZ1.out nmk (Dep.triv fun _ => trivial) (by simp [Act.eval]) (by simp [Act.eval]) rfl HS1.out HPT.out HPU.out ?_; intro p2 w2 hadd; obtain ⟨A2,m2,q2',rfl⟩:=row_shape3 hadd.1; have HTN:=Lib.hid (HT1.out.name hadd); have f8:=free_of_block' (blk_go HT1.out.blk hadd.2.1 HT1.out.plB) 8; obtain ⟨-,-,-,-,-,-,-,g8,-,-⟩:=at_cells (blk_go HT1.out.blk hadd.2.1 HT1.out.plB); clear hadd)
   all_goals
    go_wp2_with fail
    go_meet
    exact ⟨_,by rw [take_next HNK.out]; exact HTN.out⟩
  case rest =>
   obtain ⟨pl',hTN⟩:=hcut
   have HT2:=Lib.hid hTN
   obtain ⟨N0,hN0⟩:∃ N0,N0 = wc.heap.size:=⟨_,rfl⟩
   have HN0:=Lib.hid hN0
   have HWN:Hid (w.heap.size ≤ N0):=Lib.hid (by rw [hN0]; exact hTN.size)
   clear hN0
   have HC2:=Lib.hid (HC.out wc hTN.grown)
   have hsts:Sts wc (.slice (some ⟨b,off,none⟩) n sc) l:=by rw [HL.out]; exact HC2.out.sts.sts
   have HAB:=Lib.hid (shabove_own (some ⟨b,off,none⟩) n sc l (k:Int) wc hsts (by omega))
   have HSS:=Lib.hid hsts
   have HKI:=Lib.hid (fun W (hW:Below wc.heap.size wc W) => shkids_own (some ⟨b,off,none⟩) n sc l (k:Int) W (hsts.keep hW) (by omega))
   have HDE:=Lib.hid (fun W (hW:Below wc.heap.size wc W) => shdep_any (some ⟨b,off,none⟩) n sc l (k:Int) W (hsts.keep hW) (by omega))
   have hh:=HHAS.out k hlt
   rw [show aboveA l (k:Int) = upI l k by unfold aboveA; rw [if_pos hh]; rfl] at HAB
   rw [show kidsA l (k:Int) = kids l k by unfold kidsA; rw [if_pos hh]; rfl] at HKI
   rw [show depthA l (k:Int) = ((up l k).length + 1:Nat) by unfold depthA; rw [if_pos hh]; rfl] at HDE
   have hul:=up_length_le l k
   have HUL:Hid ((upI l k).length ≤ 60):=Lib.hid (by rw [upI_length]; omega)
   obtain ⟨us,hus⟩:∃ us,us = upI l k:=⟨_,rfl⟩
   obtain ⟨kd,hkd⟩:∃ kd,kd = kids l k:=⟨_,rfl⟩
   obtain ⟨dp,hdp⟩:∃ dp:Nat,dp = (up l k).length + 1:=⟨_,rfl⟩
   rw [← hus] at HAB HUL
   rw [← hkd] at HKI
   rw [← hdp] at HDE
   have HUS:=Lib.hid hus
   have HKD:=Lib.hid hkd
   have HDP:=Lib.hid hdp
   clear hTN hsts hh hul hus hkd hdp d1 d2 d3 d4 d8 d9 d10 e0 l1 l2 hbl c0' c1' c2' c3' c4' c5'
   go_wp2_with (go_at_call 116; go_fit HAB.out)
   rintro e w3 ⟨pA,rfl,hrA⟩
   obtain ⟨aA,ca,rfl⟩:=own_shape hrA.1
   -- the list above stands beside,from here on
   have HT3:=Lib.hid ((HT2.out.keep hrA.2).unmark)
   have hua:∀ j,(Value.slice aA us.length ca).ownBlock = some j → wc.heap.size ≤ j ∧ j < w3.heap.size:=own_block_bd hrA.1
   have HTU:Hid (Tb (Value.slice aA us.length ca).ownBlock w w3 B nm (.slice eA en ec) v (.slice (some ⟨b,off,none⟩) n sc) pl' rw (ns.take (k + 1)) ps):=Lib.hid ((HT2.out.mark fun j e => (hua j e).1).keep hrA.2)
   have HRA3:=Lib.hid hrA.1
   have HB3:=Lib.hid hrA.2
   have HRD:=Lib.hid (fun W (hW:Below w3.heap.size w3 W) => of_any (.slice aA us.length ca) us W ((Rd.own hrA.1).keep hW) (by have:=HUL.out; omega))
   have HUA:=Lib.hid hua
   obtain ⟨-,d1,d2,d3,d4,-,-,d8,d9,d10⟩:=at_cells HT3.out.blk
   have l1:B < w3.heap.size:=(Array.getElem?_eq_some_iff.1 HT3.out.blk).1
   have HR4:Hid (∀ W,Below w3.heap.size w3 W → w.heap.size ≤ W.heap.size):=Lib.hid (fun W hW => Nat.le_trans HT3.out.size hW.size)
   have HRL:Hid (ps.length + 1 ≤ maxLen):=Lib.hid (by have:=HPL.out; simp only [maxLen]; omega)
   have HRU:Hid ((ps.length + 1) * 48 ≤ 140737488355328):=Lib.hid (by have:=HPL.out; omega)
   have hdr:Below w3.heap.size w3 w3.drew:=(Below.refl _ _).drew
   clear hrA hua
   go_wp2_with fail
   go_cut [] from 34 to 51 (fun wx => ∃ (rA:Option Addr) (rn rc:Nat) (p:RwP),Tb (Value.slice aA us.length ca).ownBlock w wx B nm (.slice eA en ec) v (.slice (some ⟨b,off,none⟩) n sc) pl' (.slice rA rn rc) (ns.take (k + 1)) (ps ++ [p]) ∧ (p.ks = kd ∧ p.ab = ofG us ∧ p.be = 0 ∧ p.d = dp) ∧
    wx.ownsRow N0 3 1 (.slice aA us.length ca) us.length (intV us) ∧ (∀ j,(Value.slice aA us.length ca).ownBlock = some j → N0 ≤ j ∧ pl'.ownBlock ≠ some j ∧ (Value.slice rA rn rc).ownBlock ≠ some j) ∧ N0 ≤ wx.heap.size)
   case first =>
    go_region_law (first
     | (go_simp; go_at_call 109; (with_reducible refine (HKI.out _ (below_two' HB3.out hdr)).mono ?_); rintro e y1 ⟨pK,rfl,hrK⟩; obtain ⟨aK,cK,rfl⟩:=own_shape hrK.1; have g1:=below_two' hdr hrK.2; obtain ⟨-,-,-,-,-,-,-,-,x9,-⟩:=at_cells (HT3.out.keep g1).blk; have v1:=(Array.getElem?_eq_some_iff.1 (HT3.out.keep g1).blk).1)
     | (go_simp; go_at_call 63; (with_reducible refine (HRD.out _ g1).mono ?_); rintro e y2 ⟨rfl,rfl⟩)
     | (go_simp; go_at_call 117; (with_reducible refine (HDE.out _ (below_two' HB3.out g1)).mono ?_); rintro e y3 ⟨rfl,b3⟩; have g3:=below_two' g1 b3; obtain ⟨-,-,-,-,-,-,-,-,x93,-⟩:=at_cells (HT3.out.keep g3).blk; have v3:=(Array.getElem?_eq_some_iff.1 (HT3.out.keep g3).blk).1)
     | (refine step_append_rowL rfl (.tmp 38) (.tmp 48) _ rfl i1 (.agg #[.slice none 0 0,.int .u64 0,.int .u64 0,.int .i64 0]) 48 Tryz.underlying77 HI1.out.1 HI1.out.2.1 HI1.out.2.2.1 HI1.out.2.2.2 rfl (by decide) (HTU.out.keep g3).rws (HR4.out _ g3) ⟨aK,kd.length,cK,kd,ofG us,0,dp⟩ (((HTU.out.keep hdr).fresh (Nat.le_refl _) hrK.2.size (fun j e => (HUA.out j e).2) hrK.1).keep b3) (by simp [Act.eval]) (by simp [Act.eval]) rfl (rwV_one _) HRL.out HRU.out ?_; intro p2 w2 hadd; obtain ⟨A2,m2,q2',rfl⟩:=row_shape3 hadd.1; have HTN:=Lib.hid ((HTU.out.keep g3).row hadd); have HBS:=Lib.hid (HT2.out.rowBeside HRA3.out HB3.out g3 hadd); have f9:=free_of_block' (blk_go (HT3.out.keep g3).blk hadd.2.1 (HT3.out.keep g3).rwB) 9; obtain ⟨-,-,-,-,-,-,-,-,h9,-⟩:=at_cells (blk_go (HT3.out.keep g3).blk hadd.2.1 (HT3.out.keep g3).rwB); clear hadd))
    all_goals
     go_wp2_with fail
     go_meet
     exact ⟨_,_,_,_,HTN.out,⟨rfl,rfl,rfl,rfl⟩,by rw [HN0.out]; exact HBS.out⟩
   case rest =>
    obtain ⟨rA,rn,rc,p,hT,hp,hrow,hub,hz⟩:=hcut
    have HT4:=Lib.hid hT
    have HRW:=Lib.hid hrow
    have HUB:=Lib.hid hub
    have HZ4:=Lib.hid hz
    have HPP:Hid (p.ks = kids l k ∧ p.ab = abG l k ∧ p.be = 0 ∧ p.d = (up l k).length + 1):=Lib.hid (by rw [← HKD.out,← HDP.out]; unfold abG; rw [← HUS.out]; exact hp)
    obtain ⟨m,hm⟩:∃ m,m = us.length:=⟨_,rfl⟩
    have HM:=Lib.hid hm
    have hm60:m ≤ 60:=by rw [hm]; exact HUL.out
    rw [← hm] at HRW HUB HT4 ⊢
    have HL1:Hid (m + 1 ≤ maxLen):=Lib.hid (by simp only [maxLen]; omega)
    have HL2:Hid ((m + 1) * 8 ≤ 140737488355328):=Lib.hid (by omega)
    have HZ5:Hid (N0 ≤ (wc.alloc (.cells #[.int .i64 (k:Int)] 3)).heap.size):=Lib.hid (by rw [World.size_alloc]; omega)
    clear hT hp hrow hub hz hm hdr d1 d2 d3 d4 d8 d9 d10 l1
    go_wp2_with (at_builtin; refine wpList_append_rdk _ rfl (.tmp 52) (.tmp 54) _ rfl N0 3 i2 (.int .i64 0) 1 8 Tryz.underlying90 HI2.out.1 HI2.out.2.1 HI2.out.2.2.1 HI2.out.2.2.2 rfl (by decide) _ m (intV us) rfl (own_keep HRW.out (KitC.below_one _ _)) _ 1 (intV [(k:Int)]) rfl (rdk_rd (lit_here rfl rfl rfl) rfl) (intV_one _) HL1.out HL2.out HZ5.out ?_; intro p2 w6 hrow2 hg2 hob; obtain ⟨A6,c6,rfl⟩:=own_shape hrow2; have HR6:=Lib.hid hrow2; have HG6:=Lib.hid hg2; have HO6:=Lib.hid hob; clear hrow2 hg2 hob)
    obtain ⟨ks,hks⟩:∃ ks,ks = us ++ [(k:Int)]:=⟨_,rfl⟩
    have HKS:=Lib.hid hks
    have HKL:Hid (ks.length = m + 1):=Lib.hid (by rw [hks,List.length_append,← HM.out]; rfl)
    have hrk:w6.ownsRow N0 3 1 (.slice A6 (m + 1) c6) (m + 1) (intV ks):=by rw [hks,← intV_append]; exact HR6.out
    have HRK:=Lib.hid hrk
    obtain ⟨gk,ck,heq,hck⟩:=own_at hrk (by omega)
    cases heq
    have HT6:=Lib.hid (((HT4.out.keep (KitC.below_one wc (.cells #[.int .i64 (k:Int)] 3))).beside HG6.out (fun j ej => ⟨Nat.le_trans HWN.out (HUB.out j ej).1,(HUB.out j ej).2⟩)).unmark)
    have HGK:Hid ((Value.slice rA rn rc).ownBlock ≠ some gk ∧ gk < w6.heap.size):=Lib.hid ⟨fun e' => by
     rcases HO6.out with h1 | h1
     ·exact (HUB.out gk (h1.symm.trans rfl)).2.2 e'
     ·have h2:=(HT4.out.rws.bd gk e').2
      injection h1 with h1
      rw [World.size_alloc] at h1
      simp only at h1
      omega,(own_block_bd hrk gk rfl).2⟩
    have HMEM:Hid (∀ z ∈ ks,∃ j:Nat,z = (j:Int) ∧ j ≤ k ∧ j ∈ sf l k):=Lib.hid (by
     intro z hz
     rw [hks,HUS.out,List.mem_append,List.mem_singleton] at hz
     rcases hz with hz | hz
     ·obtain ⟨j,hj,rfl⟩:=List.mem_map.1 hz
      exact ⟨j,rfl,Nat.le_of_lt (up_lt hj),up_in hj⟩
     ·exact ⟨k,hz,Nat.le_refl _,sf_self l k⟩)
    have HALL:Hid (∀ j:Nat,decide ((j:Int) ∈ ks) = decide (j ∈ sf l k)):=Lib.hid (fun j => by
     rw [Bool.eq_iff_iff,decide_eq_true_iff,decide_eq_true_iff,hks,HUS.out,List.mem_append,List.mem_singleton,upI_mem,sf,List.mem_cons]
     constructor
     ·rintro (h1 | h1)
      ·exact .inr h1
      ·exact .inl (by omega)
     ·rintro (h1 | h1)
      ·exact .inr (by omega)
      ·exact .inl h1)
    have HRS:Hid (RwsAt l k (fun j => decide ((j:Int) ∈ ks.take 0)) (ps ++ [p])):=Lib.hid ((RwsAt.add HRA.out HPL.out HPP.out).congr fun j _ => by simp)
    have HPL1:Hid ((ps ++ [p]).length = k + 1):=Lib.hid (by rw [List.length_append,HPL.out]; rfl)
    clear hks hrk hck
    go_wp2_with fail
    go_loopw [57] (fun i wr => MiRel w w6 B nm (.slice eA en ec) v (.slice (some ⟨b,off,none⟩) n sc) pl' rA rn rc l (ns.take (k + 1)) k (m + 1) ks i wr) (fun i _ => m + 1 - (intOf i).toNat)
    case atStart => exact ⟨0,ps ++ [p],Nat.zero_le _,rfl,HT6,HPL1,HRS,Lib.hid (but_refl _ _)⟩
    case round =>
     obtain ⟨t,qs,htm,rfl,HTR,HQL,HQR,HQG⟩:=hrel
     by_cases hltt:t < m + 1
     case neg =>
      obtain rfl:t = m + 1:=by omega
      go_wp2_with fail
      go_roundw
      case rel =>
       refine ⟨k + 1,_,_,qs,hlt,by go_num,HTR,HQL,Lib.hid (RwsAt.next HQR.out fun j _ => ?_)⟩
       rw [List.take_of_length_le (Nat.le_of_eq HKL.out)]
       exact HALL.out j
      case measure => simp [intOf]; omega
     obtain ⟨z,hz⟩:∃ z,ks[t]? = some z:=get_some (by have:=HKL.out; omega)
     obtain ⟨j,rfl,hjk,hjs⟩:=HMEM.out z (List.mem_of_getElem? hz)
     have HZT:=Lib.hid hz
     have k6:wr.cell? ⟨gk,t,none⟩ = some (.int .i64 (j:Int)):=cell_go ((own_cell HRK.out).2 t _ (by rw [intV_get,hz]; rfl)) HGK.out.2 HQG.out HGK.out.1
     obtain ⟨g,cg,heq2,hcg⟩:=own_at HTR.out.rws.own (by have:=HQL.out; omega)
     rw [HQL.out] at heq2
     cases heq2
     obtain ⟨q,hq⟩:∃ q,qs[j]? = some q:=get_some (by have:=HQL.out; omega)
     have HQ:=Lib.hid hq
     obtain ⟨qb,hqb⟩:∃ qb,qb = q.be:=⟨_,rfl⟩
     have HQB:=Lib.hid hqb
     have hbe:=(HQR.out j q hq).2.2.1
     have HLT:Hid (qb < 18446744073709551616):=Lib.hid (by rw [hqb,hbe]; exact beP_lt _ _ _ _)
     have HWE:Hid (withG qb (k:Int) = beP l j k true):=Lib.hid (by rw [hqb,hbe]; exact beP_with _ _ _ _ (by omega))
     obtain ⟨⟨cur,hcur,-⟩,hcl⟩:=own_cell (show wr.ownsRow w.heap.size 137 4 (.slice (some ⟨g,0,none⟩) (k + 1) rc) (k + 1) (qs.flatMap rwV) by have:=HTR.out.rws.own; rwa [HQL.out] at this)
     have x2:wr.cell? ⟨g,j * 4 + 2,none⟩ = some (.int .u64 qb):=(hcl _ _ (flat_get (j:=2) rwV_length hq (by decide))).trans (by rw [hqb])
     have y2:wr.frozen? ⟨g,j * 4 + 2,none⟩ = false:=free_of_block' hcur _
     obtain ⟨-,-,-,-,-,-,-,-,x9,-⟩:=at_cells HTR.out.blk
     have hjk1:(j:Int) < (k:Int) + 1:=by omega
     have hjk2:j < k + 1:=by omega
     have HJS:=Lib.hid hjs
     clear hz hjs hq hqb hbe hcur hcl hcg hjk
     go_wp2_with fail
     go_region_law (go_simp; go_at_call 36; (with_reducible refine (with_any qb (k:Int) HLT.out _).mono ?_); rintro e yy ⟨rfl,rfl⟩)
     all_goals
      have hdr:Below wr.heap.size wr wr.drew:=(Below.refl _ _).drew
      go_wp2_with fail
      go_roundw
      case rel =>
       refine ⟨t + 1,qs.set j { q with be:=withG qb (k:Int) },hltt,by go_num,Lib.hid (Tb.set (HTR.out.keep hdr) HQL.out HQ.out),Lib.hid (by rw [List.length_set]; exact HQL.out),Lib.hid ?_,Lib.hid ?_⟩
       ·rw [HWE.out]
        refine RwsAt.set HQR.out HQ.out (decide_eq_true ?_) fun j' hj' => ?_
        ·rw [take_next HZT.out,List.mem_append,List.mem_singleton]
         exact .inr rfl
        ·rw [Bool.eq_iff_iff,decide_eq_true_iff,decide_eq_true_iff,take_next HZT.out,List.mem_append,List.mem_singleton]
         exact ⟨fun h => h.elim id fun h => absurd (by omega) hj',.inl⟩
       ·exact gr_any (gr_any HQG.out (gr_none hdr none) (by simp)) (but_set (but_refl _ (some g)) _ _) (fun j e => .inl (by rw [← e]; rfl))
      case measure => simp [intOf]; omega
end
end Go.Proofs.YtckojimeglkobaaGreatDoor
namespace Go.Proofs.YtckojimeglkobaaGreatDoor
open Go.RowKit TermSpec EvalSpec ActSpec NamesSpec ExprSpec TransSpec SynSpec CurSpec ShapeSpec GroupSpec AtlasSpec PrintSpec
set_option maxRecDepth 100000
def RetAt (W:World) (B:Nat) (x:Cx) (R:World → Value → Prop) (e:Ending) (w':World):Prop:=∃ v,e = .returned v ∧ R w' v ∧ AtD w' B x ∧ W.grownBy w' (some B)
theorem AtIn.lt {w:World} {B:Nat} {x:Cx} (h:AtIn w B x):B < w.heap.size:=by
 rcases h with ⟨_,_,_,h,_⟩ | ⟨_,_,_,_,_,_,_,_,_,h,_⟩
 ·exact (Array.getElem?_eq_some_iff.1 h).1
 ·exact (Array.getElem?_eq_some_iff.1 h).1
theorem AtIn.blk {w:World} {B:Nat} {x:Cx} (h:AtIn w B x):∃ eA en ec vA vn vc sA sn sc d pl rw ev,w.heap[B]? = some (atO x.s (.slice eA en ec) (.slice vA vn vc) (.slice sA sn sc) d 0 pl rw ev) ∧ ChIn w (.slice eA en ec) (.slice vA vn vc) (.slice sA sn sc) x:=by
 have key:∀ e v s,ChIn w e v s x → ∃ eA en ec vA vn vc sA sn sc,e = .slice eA en ec ∧ v = .slice vA vn vc ∧ s = .slice sA sn sc:=fun e v s hc => by
  obtain ⟨eA,en,ec,h1,-⟩:=Rd.strs hc.evs
  obtain ⟨vA,vc,h2,-⟩:=hc.vars
  obtain ⟨ps,-,⟨sA,sc,h3,-⟩,-⟩:=hc.sts
  exact ⟨eA,en,ec,vA,_,vc,sA,_,sc,h1,h2,h3⟩
 rcases h with ⟨e,v,s,h1,h2⟩ | ⟨K0,-,e,v,s,pl,rw,ev,_,h1,-,h2⟩
 ·obtain ⟨eA,en,ec,vA,vn,vc,sA,sn,sc,rfl,rfl,rfl⟩:=key _ _ _ h2.now
  exact ⟨eA,en,ec,vA,vn,vc,sA,sn,sc,0,_,_,_,h1,h2.now⟩
 ·obtain ⟨eA,en,ec,vA,vn,vc,sA,sn,sc,rfl,rfl,rfl⟩:=key _ _ _ h2.now.1
  exact ⟨eA,en,ec,vA,vn,vc,sA,sn,sc,1,_,_,_,h1,h2.now.1⟩
theorem good17 (B:Nat) (b:Bool) (w:World) (h:w.cell? ⟨B,0,none⟩ = some (.bool b)):Calls Tryz.prog 29 #[.pointer (some ⟨B,0,none⟩)] w (SameB w b):=by
 go_enter Tryz.func29,Tryz.ntmps29
 go_wp2
 go_ret
 exact ⟨rfl,rfl⟩
theorem good_nil17 (w:World):Calls Tryz.prog 29 #[.pointer none] w (SameB w false):=by
 go_enter Tryz.func29,Tryz.ntmps29
 go_wp2
 go_ret
 exact ⟨rfl,rfl⟩
section
variable (B:Nat) (x:Cx) (w:World) (h:AtIn w B x) (hk:chk (x.sts.map shOf) = 0) (hev:x.evs.length ≤ 1000000)
include h
theorem AtIn.good:Calls Tryz.prog 29 #[.pointer (some ⟨B,0,none⟩)] w (SameB w true):=by
 obtain ⟨_,_,_,_,_,_,_,_,_,_,_,_,_,hb,-⟩:=h.blk
 exact good17 B true w (at_cells hb).1
end
def AtI (K:Nat → Prop) (w:World) (B:Nat) (x:Cx):Prop:=AtN w B x ∨ AtK K w B x
theorem AtIn.some {w:World} {B:Nat} {x:Cx} (h:AtIn w B x):∃ K:Nat → Prop,(∀ b,K b → b ≠ B ∧ b < w.heap.size) ∧ AtI K w B x:=by
 rcases h with h | ⟨K,hK,h⟩
 ·exact ⟨fun _ => False,fun b hb => hb.elim,.inl h⟩
 ·exact ⟨K,hK,.inr h⟩
theorem AtI.keep {K:Nat → Prop} {w w':World} {B:Nat} {x:Cx} (h:AtI K w B x) (hb:Below w.heap.size w w'):AtI K w' B x:=h.imp (·.keep hb) (·.keep hb)
section
variable (K:Nat → Prop) (B:Nat) (x:Cx) (w:World) (h:AtI K w B x) (hk:chk (x.sts.map shOf) = 0) (hev:x.evs.length ≤ 1000000)
include h hk hev
theorem do_any:Calls Tryz.prog 100 #[.pointer (some ⟨B,5,none⟩),.func (.func 101) #[.pointer (some ⟨B,0,none⟩)] #[]] w fun r w' => r = .returned (.tuple #[]) ∧ AtK (fun b => b < B ∨ K b ∨ w.heap.size ≤ b) w' B x ∧ w.grownBy w' (some B):=by
 rcases h with hN | hD
 ·obtain ⟨eA,en,ec,vA,vn,vc,sA,sn,sc,d,pl,rw,ev,hb,hch⟩:=AtIn.blk (.inl hN)
  obtain ⟨e,v,s,h1,h2⟩:=hN
  rw [h1] at hb
  injection hb with hb
  injection hb with hb
  have hl:=congrArg Array.toList hb
  simp only [List.cons.injEq] at hl
  obtain ⟨-,-,rfl,rfl,rfl,-⟩:=hl
  have hBl:=(Array.getElem?_eq_some_iff.1 h1).1
  have hs:w.grownBy (w.setCell ⟨B,6,none⟩ (.int .i32 1)) (some B):=but_set (but_refl _ _) _ _
  have hM:=make_any B x (w.setCell ⟨B,6,none⟩ (.int .i32 1)) eA en ec (.slice vA vn vc) sA sn sc (block_setCell' h1 6 _) (h2.go hs fun b hb e => by injection e with e; omega) hk hev
  refine (do_first B x.s _ _ _ _ _ _ (fun W pl' rw' ev' w2 => W.grownBy w2 (some B) ∧ ∃ ps,RowsOf (x.sts.map shOf) ps ∧ Dep w2 (fun b => W.heap.size ≤ b) (fun X => RdS X pl' (x.sts.map (·.s)) ∧ RowsIn X rw' ps ∧ RdS X ev' (un x.evs []))) w h1 (hM.mono fun r w' ⟨he,pl',rw',ev',q1,q2,q3⟩ => ⟨he,pl',rw',ev',q1,q2,q3⟩)).mono ?_
  rintro r w' ⟨he,pl',rw',ev',w2,q1,⟨q2,ps,q4,q3⟩,rfl⟩
  have hd:w2.grownBy ((w2.drew.setCell ⟨B,5,none⟩ (.int .u32 1)).setCell ⟨B,6,none⟩ (.int .i32 0)) (some B):=but_set (but_set (but_drew (but_refl _ _)) _ _) _ _
  have hg:=but_trans (but_trans hs q2) hd
  refine ⟨he,⟨_,_,_,pl',rw',ev',ps,block_setCell' (block_setCell' (show w2.drew.heap[B]? = _ from q1) 5 _) 6 _,q4,Dep.and ?_ ?_⟩,hg⟩
  ·exact (h2.go hg fun b hb e => by injection e with e; omega).mono fun b _ hb => .inl hb
  ·exact (q3.go hd fun b hb e => by injection e with e; have:=hs.size; omega).mono fun b _ hb => .inr (.inr (Nat.le_trans hs.size hb))
 ·have hD':=hD
  obtain ⟨e,v,s,pl,rw,ev,ps,h1,h3,h2⟩:=hD
  refine (do_done ⟨B,5,none⟩ _ w (at_cells h1).2.2.2.2.2.1).mono ?_
  rintro r w' ⟨he,rfl⟩
  exact ⟨he,⟨e,v,s,pl,rw,ev,ps,h1,h3,h2.mono fun b _ hb => .inr (.inl hb)⟩,but_refl _ _⟩
end
section
variable (B:Nat) (x:Cx) (w:World) (h:AtIn w B x) (hk:chk (x.sts.map shOf) = 0) (hev:x.evs.length ≤ 1000000)
include h hk hev
def IsRow (l:List Sh) (i:Int) (W:World) (v:Value):Prop:=∃ A n c,v = .agg #[.slice A n c,.int .u64 (aboveTb l i),.int .u64 (belowTb l i),.int .i64 (depthTb l i)] ∧ Rd W (.slice A n c) (intV (kidsTb l i))
end
end Go.Proofs.YtckojimeglkobaaGreatDoor