/- AtlasCopied, RulesSpec, SoundSpec, RulesMem, ActVar, ShapeKids, joined. -/
import Derived.Test.YtckojimeglkobaaGreatDoorMConfFills16
import Derived.Deep.CutRange
import Derived.Deep.RegionLaw
import Derived.Test.YtckojimeglkobaaGreatDoorMConfFills11
import Derived.Test.YtckojimeglkobaaGreatDoorMConfFills06
import Derived.Test.YtckojimeglkobaaGreatDoorRows
import Derived.Test.YtckojimeglkobaaGreatDoorMConfFills00
import Derived.Laws.Tables
import Derived.Test.YtckojimeglkobaaGreatDoorMConfFills10
import Derived.Test.YtckojimeglkobaaGreatDoorMConfFills01
import Derived.Test.YtckojimeglkobaaGreatDoorMConfFills05
namespace Go.Proofs.YtckojimeglkobaaGreatDoor
open Go.RowKit TermSpec EvalSpec ActSpec NamesSpec ExprSpec TransSpec SynSpec CurSpec
set_option maxRecDepth 100000
section
variable (x:Cx) (eA:Option Addr) (en ec:Nat) (vA:Option Addr) (vn vc:Nat) (sA:Option Addr) (sn sc:Nat) (w:World) (h:ChIn w (.slice eA en ec) (.slice vA vn vc) (.slice sA sn sc) x) (hf:FewQ x)
include h hf
set_option maxRecDepth 100000 in
set_option maxHeartbeats 8000000 in
theorem copied_any:Calls Tryz.prog 26 #[.agg #[.string x.s,.slice eA en ec,.slice vA vn vc,.slice sA sn sc]] w (RetCx w x):=by
 obtain ⟨ps0,hps,hrs,hx0⟩:=h.sts
 have hpn:ps0.length = x.sts.length:=by rw [← hps,List.length_map]
 have HEV:=Lib.hid (fun W (hW:Below w.heap.size w W) => clone_str (.slice eA en ec) x.evs.length (strV x.evs) W (rdk_rd (Rd.keep h.evs hW) (strV_length _)) (strV_one _) hf.evs)
 have HVA:=Lib.hid (fun W (hW:Below w.heap.size w W) => clone_var (.slice vA vn vc) x.vars.length (vrsV x.vars) W (Rdk.keep h.vars hW) (vrsV_one17 _) hf.vars)
 have HST:=Lib.hid (fun W (hW:Below w.heap.size w W) => clone_state (.slice sA sn sc) ps0.length (ps0.flatMap spV) W (hrs.keep hW) (flat_one17 spV_one _) (by rw [hpn]; exact hf.stl))
 have H0:=Lib.hid (fun p (hp:p ∈ ps0) => spN_here (hx0 p hp))
 have H1:=Lib.hid hx0
 have HF:=Lib.hid hf
 have HP:=Lib.hid hps
 have HPN:=Lib.hid hpn
 obtain ⟨nm,hnm⟩:∃ nm,nm = x.s:=⟨_,rfl⟩
 have HNM:=Lib.hid hnm
 rw [← hnm]
 obtain ⟨W1,hW1⟩:∃ W1,(w.alloc (chO17 nm (.slice eA en ec) (.slice vA vn vc) (.slice sA sn sc))).alloc (chZ17) = W1:=⟨_,rfl⟩
 have hb1:Below w.heap.size w W1:=by rw [← hW1]; exact KitC.below_pair _ _ _
 have hk1:W1.heap[w.heap.size]? = some (chO17 nm (.slice eA en ec) (.slice vA vn vc) (.slice sA sn sc)):=by rw [← hW1]; exact (heap_alloc_old _ _ (by simp)).trans (heap_alloc_new _ _)
 have hk2:W1.heap[w.heap.size + 1]? = some (chZ17):=by rw [← hW1]; have:=heap_alloc_new (w.alloc (chO17 nm (.slice eA en ec) (.slice vA vn vc) (.slice sA sn sc))) (chZ17); rwa [World.size_alloc] at this
 have HK:=Lib.hid (fun W (hW:Below W1.heap.size W1 W) => And.intro (KitC.block_on hk1 hW) (KitC.block_on hk2 hW))
 have HSZ:Hid (w.heap.size + 1 < W1.heap.size):=Lib.hid (Array.getElem?_eq_some_iff.1 hk2).1
 have HW1:=Lib.hid hW1
 have HB1:=Lib.hid hb1
 obtain ⟨c0,c1,c2,c3⟩:=cells_4 hk1
 obtain ⟨f0,f1,f2,f3⟩:=free_4 hk1
 have hdr:Below W1.heap.size W1 W1.drew:=(Below.refl _ _).drew
 clear h hf hps hrs hx0 hpn hnm hW1 hb1 hk1 hk2
 go_enter Tryz.func26,Tryz.ntmps26
 go_wp2_with fail
 rw [HW1.out]
 go_cut [] from 7 (fun wx => CpA w nm x ps0 wx)
 case first =>
  go_region_law (first
   | (go_simp; go_at_call 45; (with_reducible refine (HEV.out _ (below_two' HB1.out hdr)).mono ?_); rintro e y1 ⟨A1,n1,rfl,o1,b1⟩; have g1:=below_two' hdr b1; obtain ⟨p10,p11,p12,p13⟩:=cells_4 (HK.out _ g1).1; obtain ⟨q10,q11,q12,q13⟩:=free_4 (HK.out _ g1).1)
   | (go_simp; go_at_call 46; (with_reducible refine (HVA.out _ (below_two' HB1.out g1)).mono ?_); rintro e y2 ⟨A2,n2,rfl,o2,b2⟩; have g2:=below_two' g1 b2; obtain ⟨p20,p21,p22,p23⟩:=cells_4 (HK.out _ g2).1; obtain ⟨q20,q21,q22,q23⟩:=free_4 (HK.out _ g2).1)
   | (go_simp; go_at_call 47; (with_reducible refine (HST.out _ (below_two' HB1.out g2)).mono ?_); rintro e y3 ⟨A3,n3,rfl,o3,b3⟩; have g3:=below_two' g2 b3; obtain ⟨p30,p31,p32,p33⟩:=cells_4 (HK.out _ g3).1; obtain ⟨q30,q31,q32,q33⟩:=free_4 (HK.out _ g3).1))
  all_goals
   go_wp2_with fail
   go_meet
   exact cpA_done HB1.out HSZ.out HK.out b1 b2 b3 o1 o2 o3 H0.out
 case rest =>
  obtain ⟨A1,c1',A2,c2',A3,c3',N,hb0,hb0z,hdep,hmix,hNlt,hbw⟩:=hcut
  have HCH:=Lib.hid (And.intro hb0 hb0z)
  have HDEP:=Lib.hid hdep
  have HMX:=Lib.hid hmix
  have HNL:=Lib.hid hNlt
  have HBW:=Lib.hid hbw
  obtain ⟨k0,k1,k2,k3⟩:=cells_4 hb0
  obtain ⟨n,hn⟩:∃ n,n = ps0.length:=⟨_,rfl⟩
  rw [← hn] at HMX HCH k3
  have HPN0:=Lib.hid hn
  have HNX:Hid (n ≤ 1000000):=Lib.hid (by rw [hn,HPN.out]; exact HF.out.stl)
  clear hb0 hb0z hdep hmix hNlt hbw hn c0 c1 c2 c3 f0 f1 f2 f3 hdr
  go_wp2_with fail
  go_loopw [22] (fun i wr => CsRel wc N x.sts ps0 A3 n c3' i wr) (fun i _ => n - (intOf i).toNat)
  case atStart => exact ⟨0,ps0,Nat.zero_le _,rfl,HP,Lib.hid HPN0.out.symm,HMX,Lib.hid (but_refl _ _),Lib.hid (fun _ _ => rfl)⟩
  case round =>
   obtain ⟨k,ps,hk,rfl,HPS,HPL,HM,HG,HSM⟩:=hrel
   by_cases hlt:k < n
   case neg =>
    obtain rfl:k = n:=by omega
    have hne:∀ b,b ≤ w.heap.size + 1 → (Value.slice A3 k c3').ownBlock ≠ some b:=fun b hb e => by have:=(MixR.bd HM.out b e).1; have:=HNL.out; omega
    have hb0:=blk_go HCH.out.1 HG.out (hne _ (by omega))
    have hbz:=blk_go HCH.out.2 HG.out (hne _ (by omega))
    obtain ⟨k0,k1,k2,k3⟩:=cells_4 hb0
    obtain ⟨z0,z1,z2,z3⟩:=cells_4 hbz
    obtain ⟨f0,f1,f2,f3⟩:=free_4 hbz
    obtain ⟨q0,q1,q2,q3⟩:=store_4 (blk_of hbz (n:=4) rfl) (.string nm) (.slice A1 x.evs.length c1') (.slice A2 x.vars.length c2') (.slice A3 k c3')
    have HE:=Lib.hid (cs_end HDEP.out HNL.out HBW.out HM.out HPL.out HPS.out HG.out (but_set (but_set (but_set (but_set (but_refl wr (some (w.heap.size + 1))) 0 (.string nm)) 1 (.slice A1 x.evs.length c1')) 2 (.slice A2 x.vars.length c2')) 3 (.slice A3 k c3')))
    clear hne hb0 hbz
    go_wp2_with fail
    refine bodyPost_ret (v:=.agg #[.string nm,.slice A1 x.evs.length c1',.slice A2 x.vars.length c2',.slice A3 k c3']) (by simp [results,Tryz.results26,go_sem,q0,q1,q2,q3]) rfl ?_
    obtain ⟨h1,h2,h3⟩:=HE.out
    subst h1
    exact ⟨A1,c1',A2,c2',A3,c3',by rw [← HNM.out],h2,h3⟩
   obtain ⟨⟨s,a3,n3,m3,a4,n4,m4,a5,n5,m5⟩,hp⟩:∃ p,ps[k]? = some p:=get_some (by have:=HPL.out; omega)
   obtain ⟨g,cap,heq,hcap⟩:=own_at HM.out.own (by have:=HPL.out; omega)
   rw [HPL.out] at heq
   cases heq
   have hsm:s ∈ x.sts:=by rw [← HPS.out]; exact List.mem_map.2 ⟨_,List.mem_of_getElem? hp,rfl⟩
   obtain ⟨⟨he1,he2⟩,⟨hx1,hx2⟩,ht1,ht2⟩:=HF.out.sts s hsm
   obtain ⟨hen,hex,hts⟩:=HM.out.now hp
   obtain ⟨-,hcells,hg1,hg2⟩:=MixR.cells HM.out HPL.out
   have HGB:=Lib.hid (And.intro hg1 hg2)
   have HPK:=Lib.hid hp
   have hb0:=blk_go HCH.out.1 HG.out (fun e => by injection e with e; simp only at e; have:=HNL.out; omega)
   obtain ⟨k0,k1,k2,k3⟩:=cells_4 hb0
   have HB0:=Lib.hid hb0
   simp only at hen hex hts
   have HE1:=Lib.hid (fun W (hW:Below wr.heap.size wr W) => copiedActs_any _ _ W (hen.keep hW) he1 he2)
   have HE2:=Lib.hid (fun W (hW:Below wr.heap.size wr W) => copiedActs_any _ _ W (hex.keep hW) hx1 hx2)
   have hp0:ps0[k]? = some ⟨s,a3,n3,m3,a4,n4,m4,a5,n5,m5⟩:=(HSM.out k (Nat.le_refl _)).symm.trans hp
   obtain ⟨ts,htm,hrt0,htn0⟩:=(H1.out _ (List.mem_of_getElem? hp0)).2.2
   simp only at htm hrt0
   have hsg:∀ b,b < w.heap.size → (Value.slice (some ⟨g,0,none⟩) n c3').ownBlock ≠ some b:=fun b hb e => by have:=(MixR.bd HM.out b e).1; have:=HNL.out; omega
   have hrt:=(((rdk_here hrt0).keep HBW.out).go HG.out hsg).now
   have htl:ts.length = s.tr.length:=by rw [← htm,List.length_map]
   have HE3:=Lib.hid (fun W (hW:Below wr.heap.size wr W) => clone_trans _ _ _ W (hrt.keep hW) (flat_one17 tpV_one _) (by rw [htl]; exact ht1))
   have HT2:=Lib.hid ht2
   have HTM:=Lib.hid htm
   have HTD:Hid (∀ p ∈ ts,Dep wr (fun b => g ≠ b) (tpN p)):=Lib.hid (fun p hp => (((tpN_here (htn0 p hp)).keep HBW.out).go HG.out hsg).mono fun b _ hb e => hsg b hb (by rw [← e]; rfl))
   have hn5:n5 = ts.length:=by
    obtain ⟨_,_,heq,-⟩:=hrt0
    injection heq
   have c3:=hcells (k * 6 + 3) _ (flat_get (j:=3) spV_length hp (by decide))
   have c4:=hcells (k * 6 + 4) _ (flat_get (j:=4) spV_length hp (by decide))
   have c5:=hcells (k * 6 + 5) _ (flat_get (j:=5) spV_length hp (by decide))
   obtain ⟨m,hm⟩:∃ m,m = ts.length:=⟨_,rfl⟩
   have HMT:=Lib.hid hm
   have HMX2:Hid (m ≤ 1000000):=Lib.hid (by rw [hm,htl]; exact ht1)
   have HC:Hid (∀ W,Below wr.heap.size wr W → (W.cell? ⟨g,k * 6 + 3,none⟩ = some (.slice a3 n3 m3) ∧ W.cell? ⟨g,k * 6 + 4,none⟩ = some (.slice a4 n4 m4) ∧ W.cell? ⟨g,k * 6 + 5,none⟩ = some (.slice a5 n5 m5)) ∧ W.frozen? ⟨g,k * 6 + 3,none⟩ = false ∧ W.frozen? ⟨g,k * 6 + 4,none⟩ = false ∧ W.frozen? ⟨g,k * 6 + 5,none⟩ = false):=Lib.hid (fun W hW => by
    obtain ⟨⟨cur,hcur⟩,hc,-⟩:=MixR.cells (HM.out.keep hW) HPL.out
    exact ⟨⟨hc _ _ (flat_get (j:=3) spV_length HPK.out (by decide)),hc _ _ (flat_get (j:=4) spV_length HPK.out (by decide)),hc _ _ (flat_get (j:=5) spV_length HPK.out (by decide))⟩,free_of_block' hcur _,free_of_block' hcur _,free_of_block' hcur _⟩)
   have hdr:Below wr.heap.size wr wr.drew:=(Below.refl _ _).drew
   clear hsm he1 he2 hx1 hx2 ht1 ht2 hen hex hts hrt hrt0 htn0 hsg htl htm hcells hg1 hb0 hp hp0 hm hn5 hcap
   go_wp2_with fail
   go_cut [] from 29 to 52 (fun wx => CpB wr N g n c3' k ps s ts wx)
   case first =>
    obtain ⟨⟨d3,d4,d5⟩,e3,e4,e5⟩:=HC.out _ hdr
    go_region_law (first
     | (go_simp; go_at_call 48; (with_reducible refine (HE1.out _ hdr).mono ?_); rintro e y1 ⟨A1x,n1x,rfl,o1,b1⟩; have g1:=below_two' hdr b1; obtain ⟨⟨p13,p14,p15⟩,q13,q14,q15⟩:=HC.out _ g1)
     | (go_simp; go_at_call 48; (with_reducible refine (HE2.out _ g1).mono ?_); rintro e y2 ⟨A2x,n2x,rfl,o2,b2⟩; have g2:=below_two' g1 b2; obtain ⟨⟨p23,p24,p25⟩,q23,q24,q25⟩:=HC.out _ g2)
     | (go_simp; go_at_call 49; (with_reducible refine (HE3.out _ g2).mono ?_); rintro e y3 ⟨A3x,n3x,rfl,o3,b3⟩; have g3:=below_two' g2 b3; obtain ⟨⟨p33,p34,p35⟩,q33,q34,q35⟩:=HC.out _ g3))
    all_goals
     go_wp2_with fail
     go_meet
     exact cpB_done HM.out HPL.out HPK.out b1 b2 b3 o1 o2 o3 HTD.out
   case rest =>
    obtain ⟨A3x,c3x,A4x,c4x,A5x,c5x,N3,hrow,hdx,hmt,hz3,hgx⟩:=hcut
    have HRW:=Lib.hid hrow
    have HDX:=Lib.hid hdx
    have HZ3:=Lib.hid hz3
    have HGX:=Lib.hid hgx
    have HMX3:=Lib.hid hmt
    have hpx:(ps.set k ⟨s,A3x,s.en.length,c3x,A4x,s.ex.length,c4x,A5x,ts.length,c5x⟩)[k]? = some ⟨s,A3x,s.en.length,c3x,A4x,s.ex.length,c4x,A5x,ts.length,c5x⟩:=set_at HPK.out
    have HPX:=Lib.hid hpx
    have k5:=(own_cell hrow).2 (k * 6 + 5) _ (flat_get (j:=5) spV_length hpx (by decide))
    have hb0:=blk_go HB0.out hgx (fun e => by injection e with e; have:=HGB.out.1; have:=HNL.out; omega)
    obtain ⟨k0,k1,k2,k3⟩:=cells_4 hb0
    rw [← HMT.out] at k5 HMX3
    clear hpx hrow hdx hmt hz3 hgx hb0 c3 c4 c5 hdr
    go_wp2_with fail
    go_loopw [58] (fun i wr => CtRel wc N3 s.tr A5x m c5x i wr) (fun i _ => m - (intOf i).toNat)
    case atStart => exact ⟨0,ts,Nat.zero_le _,rfl,HTM,Lib.hid HMT.out.symm,HMX3,Lib.hid (but_refl _ _)⟩
    case round =>
     obtain ⟨kk,qs,hkk,rfl,HQS,HQL,HQM,HQG⟩:=hrel
     have hnx:n ≤ 1000000:=HNX.out
     have hmx:m ≤ 1000000:=HMX2.out
     by_cases hlt2:kk < m
     case neg =>
      obtain rfl:kk = m:=by omega
      go_wp2_with fail
      go_roundw
      case rel =>
       have HST:=Lib.hid (cs_step HM.out HPL.out HPK.out rfl HRW.out HDX.out HZ3.out HGX.out (by rw [← HMT.out]; exact HQM.out) (by rw [← HMT.out]; exact HQL.out) HQS.out (by rw [← HMT.out]; exact HQG.out))
       refine ⟨k + 1,ps.set k ⟨s,A3x,s.en.length,c3x,A4x,s.ex.length,c4x,A5x,ts.length,c5x⟩,hlt,by go_num,Lib.hid (HST.out.2.2.1.trans HPS.out),Lib.hid HST.out.2.2.2,Lib.hid HST.out.1,Lib.hid ?_,Lib.hid ?_⟩
       ·exact gr_any HG.out HST.out.2.1 (fun j e => .inl (by rw [← e]; rfl))
       ·intro j hj
        rw [List.getElem?_set_ne (by omega)]
        exact HSM.out j (by omega)
      case measure => simp [intOf]; omega
     obtain ⟨⟨t,gA,gn,gc,aA,an,ac⟩,hq⟩:∃ q,qs[kk]? = some q:=get_some (by have:=HQL.out; omega)
     obtain ⟨hh,cap2,heq2,hcap2⟩:=own_at HQM.out.own (by have:=HQL.out; omega)
     rw [HQL.out] at heq2
     cases heq2
     have htm2:t ∈ s.tr:=by rw [← HQS.out]; exact List.mem_map.2 ⟨_,List.mem_of_getElem? hq,rfl⟩
     obtain ⟨hx1,hx2,hx3⟩:=HT2.out t htm2
     obtain ⟨hmg,hma⟩:=HQM.out.now hq
     obtain ⟨-,hcells2,hh1,hh2⟩:=MixR.cells HQM.out HQL.out
     have HHB:=Lib.hid (And.intro hh1 hh2)
     have HQK:=Lib.hid hq
     simp only at hmg hma
     obtain ⟨hgl,hrg⟩:=tms_rdk hmg
     have HGL:=Lib.hid hgl
     have HF1:=Lib.hid (fun W (hW:Below wr.heap.size wr W) => clone_term _ _ _ W (hrg.keep hW) (tmsV_one _) (by rw [hgl]; exact hx1))
     have HF2:=Lib.hid (fun W (hW:Below wr.heap.size wr W) => copiedActs_any _ _ W (hma.keep hW) hx2 hx3)
     have HAL:Hid (an = t.acts.length):=Lib.hid hma.len.1
     have HC2:Hid (∀ W,Below wr.heap.size wr W → (W.cell? ⟨hh,kk * 4 + 1,none⟩ = some (.slice gA gn gc) ∧ W.cell? ⟨hh,kk * 4 + 2,none⟩ = some (.slice aA an ac)) ∧ W.frozen? ⟨hh,kk * 4 + 1,none⟩ = false ∧ W.frozen? ⟨hh,kk * 4 + 2,none⟩ = false):=Lib.hid (fun W hW => by
      obtain ⟨⟨cur,hcur⟩,hc,-⟩:=MixR.cells (HQM.out.keep hW) HQL.out
      exact ⟨⟨hc _ _ (flat_get (j:=1) tpV_length HQK.out (by decide)),hc _ _ (flat_get (j:=2) tpV_length HQK.out (by decide))⟩,free_of_block' hcur _,free_of_block' hcur _⟩)
     have hne:(Value.slice (some ⟨hh,0,none⟩) m c5x).ownBlock ≠ some g:=fun e => by injection e with e; simp only at e; have:=HGB.out.2; have:=HZ3.out; omega
     have k5:wr.cell? ⟨g,k * 6 + 5,none⟩ = some (.slice (some ⟨hh,0,none⟩) m c5x):=cell_go ((own_cell HRW.out).2 (k * 6 + 5) _ (by rw [HMT.out]; exact flat_get (j:=5) spV_length HPX.out (by decide))) (Nat.lt_of_lt_of_le HGB.out.2 HGX.out.size) HQG.out hne
     have hdr:Below wr.heap.size wr wr.drew:=(Below.refl _ _).drew
     obtain ⟨⟨d1,d2⟩,e1,e2⟩:=HC2.out _ hdr
     have l1:=hcells2 (kk * 4 + 1) _ (flat_get (j:=1) tpV_length hq (by decide))
     clear htm2 hx1 hx2 hx3 hmg hma hcells2 hh1 hq hgl hrg hne
     go_wp2_with fail
     go_region_law (first
      | (go_simp; go_at_call 50; (with_reducible refine (HF1.out _ hdr).mono ?_); rintro e y1 ⟨A1y,n1y,rfl,o1,b1⟩; have g1:=below_two' hdr b1; obtain ⟨⟨p11,p12⟩,q11,q12⟩:=HC2.out _ g1)
      | (go_simp; go_at_call 48; (with_reducible refine (HF2.out _ g1).mono ?_); rintro e y2 ⟨A2y,n2y,rfl,o2,b2⟩; have g2:=below_two' g1 b2; obtain ⟨⟨p21,p22⟩,q21,q22⟩:=HC2.out _ g2))
     all_goals
      have HST:=Lib.hid (ct_step HQM.out HQL.out HQK.out HGL.out b1 b2 o1 o2)
      clear b1 b2 o1 o2 g1 g2 p11 p12 p21 p22 d1 d2 e1 e2 k5 l1 hdr
      go_wp2_with fail
      go_roundw
      case rel =>
       refine ⟨kk + 1,qs.set kk ⟨t,A1y,gn,n1y,A2y,t.acts.length,n2y⟩,hlt2,by go_num,Lib.hid (HST.out.2.2.1.trans HQS.out),Lib.hid HST.out.2.2.2,Lib.hid HST.out.1,Lib.hid ?_⟩
       exact gr_any HQG.out HST.out.2.1 (fun j e => .inl (by rw [← e]; rfl))
      case measure => simp [intOf]; omega
end
end Go.Proofs.YtckojimeglkobaaGreatDoor
namespace Go.Proofs.YtckojimeglkobaaGreatDoor
namespace RulesSpec
open CurSpec TermSpec EvalSpec NamesSpec ActSpec TransSpec SynSpec PrintSpec
open ShapeSpec (Sh kids)
structure Fw where
 r:Int
 i:Int
 p:Int
def oneF (b:Bool) (f:Fw):List Fw:=if b then [f] else []
def itemsF (r:Int) (l:List Int):List Fw:=l.map fun i => ⟨r,i,0⟩
def plTo (f:Nat → Bool):Nat → List Int
 | 0 => []
 | k + 1 => plTo f k ++ if f k then [(k:Int)] else []
theorem plTo_yes {f:Nat → Bool} {k:Nat} (h:f k = true):plTo f (k + 1) = plTo f k ++ [(k:Int)]:=by show plTo f k ++ _ = _; rw [if_pos h]
theorem plTo_no {f:Nat → Bool} {k:Nat} (h:f k = false):plTo f (k + 1) = plTo f k:=by show plTo f k ++ _ = _; rw [if_neg (by simp [h]),List.append_nil]
theorem plTo_length (f:Nat → Bool) (k:Nat):(plTo f k).length ≤ k:=by
 induction k with
 | zero => exact Nat.le_refl _
 | succ k ih =>
   cases h:f k with
   | true => rw [plTo_yes h,List.length_append]; simp; exact ih
   | false => rw [plTo_no h]; omega
theorem plTo_twins (l:List ByteArray) (k:Nat):plTo (fun i => hasS (l.take i) (l.getD i ByteArray.empty)) k = twinsTo l k:=by
 induction k with
 | zero => rfl
 | succ k ih =>
   unfold twinsTo at ih ⊢
   rw [List.range_succ,List.filter_append,List.map_append,← ih,List.filter_cons]
   show plTo _ k ++ _ = _
   dsimp only
   by_cases h:hasS (l.take k) (l.getD k ByteArray.empty) = true
   ·rw [if_pos h,if_pos h]; rfl
   ·rw [if_neg h,if_neg h]; rfl
theorem itemsF_append (r:Int) (a b:List Int):itemsF r (a ++ b) = itemsF r a ++ itemsF r b:=List.map_append ..
theorem itemsF_length (r:Int) (l:List Int):(itemsF r l).length = l.length:=List.length_map _
def vnC (x:Cx):List ByteArray:=x.vars.map (·.s)
def snC (x:Cx):List ByteArray:=x.sts.map (·.s)
def termR (vs ss:List ByteArray) (t:Tm):Bool:=(!decide (t.op = 2) || hasS vs t.s) && (!decide (t.op = 11) || hasS ss t.s)
def exprR (vs ss:List ByteArray) (l:List Tm) (ty:Int):Bool:=l.all (termR vs ss) && decide (typ l = ty)
def allIn (l all:List ByteArray):Bool:=l.all (hasS all)
theorem names_in (vs ss:List ByteArray) (l:List Tm):l.all (termR vs ss) = (allIn (namesOf l 2) vs && allIn (namesOf l 11) ss):=by
 induction l with
 | nil => rfl
 | cons t r ih =>
   have e:∀ (o:Int) (q:List ByteArray),allIn (namesOf (t :: r) o) q = ((!decide (t.op = o) || hasS q t.s) && allIn (namesOf r o) q):=by
    intro o q
    unfold allIn namesOf
    rw [List.filter_cons]
    by_cases h:t.op = o <;> simp [h]
   rw [List.all_cons,ih,e,e]
   unfold termR
   cases (!decide (t.op = 2) || hasS vs t.s) <;> cases (!decide (t.op = 11) || hasS ss t.s) <;> cases allIn (namesOf r 2) vs <;> cases allIn (namesOf r 11) ss <;> rfl
theorem exprR_is (vs ss:List ByteArray) (l:List Tm) (ty:Int):exprR vs ss l ty = (decide (typ l = ty) && (allIn (namesOf l 2) vs && allIn (namesOf l 11) ss)):=by
 unfold exprR
 rw [names_in,Bool.and_comm]
def actR (vs ss:List ByteArray) (any:Bool) (a:Ac):Bool:=hasS vs a.s && (if a.any then any else exprR vs ss a.x 1)
def actsR (vs ss:List ByteArray) (any:Bool) (l:List Ac):Bool:=l.all (actR vs ss any)
def noneAny (l:List Ac):Bool:=l.all fun a => !a.any
theorem edge_is (vs ss:List ByteArray) (l:List Ac):actsR vs ss false l = (noneAny l && actsR vs ss true l):=by
 induction l with
 | nil => rfl
 | cons a r ih =>
   unfold actsR noneAny at ih ⊢
   rw [List.all_cons,List.all_cons,List.all_cons,ih]
   unfold actR
   cases a.any <;> cases hasS vs a.s <;> cases exprR vs ss a.x 1 <;> cases (r.all fun a => !a.any) <;> simp
def rangeR (v:Vr):Bool:=decide (v.lo ≤ v.ini) && (decide (v.ini ≤ v.hi) && decide (v.hi - v.lo < 64))
def illB (l:List Vr) (i:Nat):Bool:=(l[i]?).any fun v => !rangeR v
theorem illB_at {l:List Vr} {i:Nat} {v:Vr} (h:l[i]? = some v):illB l i = !rangeR v:=by unfold illB; rw [h]; rfl
def mustK (k:Int):Int:=if k = 2 then 1 else if k = 3 then 2 else 0
def loneB (l:List Sh) (i:Nat):Bool:=decide (((kids l i).length:Int) < mustK (ShapeSpec.kind l i))
def brT (es vs ss:List ByteArray) (rule:Int) (t:Tr):Bool :=
 if rule = 6 then !decide (t.ev.size = 0) && !hasS es t.ev else if rule = 7 then !decide (t.tg.size = 0) && !hasS ss t.tg else
 if rule = 8 then !decide (t.g.length = 0) && !exprR vs ss t.g 2 else if rule = 9 then !actsR vs ss true t.acts else false
def brS (es vs ss:List ByteArray) (rule:Int) (s:Sx):List Bool :=
 if rule = 10 then [!actsR vs ss false s.en,!actsR vs ss false s.ex] else s.tr.map (brT es vs ss rule)
def flTo (rule:Int) (i:Nat) (bs:List Bool):Nat → List Fw
 | 0 => []
 | k + 1 => flTo rule i bs k ++ oneF ((bs[k]?).getD false) ⟨rule,i,k⟩
theorem flTo_yes {rule:Int} {i k:Nat} {bs:List Bool} (h:bs[k]? = some true):flTo rule i bs (k + 1) = flTo rule i bs k ++ [⟨rule,i,k⟩]:=by show flTo rule i bs k ++ _ = _; rw [h]; rfl
theorem flTo_no {rule:Int} {i k:Nat} {bs:List Bool} (h:bs[k]? = some false):flTo rule i bs (k + 1) = flTo rule i bs k:=by show flTo rule i bs k ++ _ = _; rw [h]; exact List.append_nil _
theorem flTo_length (rule:Int) (i:Nat) (bs:List Bool) (k:Nat):(flTo rule i bs k).length ≤ k:=by
 induction k with
 | zero => exact Nat.le_refl _
 | succ k ih =>
   have:flTo rule i bs (k + 1) = flTo rule i bs k ++ oneF ((bs[k]?).getD false) ⟨rule,i,k⟩:=rfl
   rw [this,List.length_append]
   have:(oneF ((bs[k]?).getD false) (⟨rule,i,k⟩:Fw)).length ≤ 1:=by unfold oneF; split <;> simp
   omega
def ptTo (es vs ss:List ByteArray) (rule:Int) (l:List Sx):Nat → List Fw
 | 0 => []
 | n + 1 => ptTo es vs ss rule l n ++ (l[n]?).elim [] fun s => flTo rule n (brS es vs ss rule s) (brS es vs ss rule s).length
theorem ptTo_next {es vs ss:List ByteArray} {rule:Int} {l:List Sx} {n:Nat} {s:Sx} (h:l[n]? = some s) :
 ptTo es vs ss rule l (n + 1) = ptTo es vs ss rule l n ++ flTo rule n (brS es vs ss rule s) (brS es vs ss rule s).length:=by
 show ptTo es vs ss rule l n ++ _ = _
 rw [h]
 rfl
theorem ptTo_length {es vs ss:List ByteArray} {rule:Int} {l:List Sx} (hl:∀ s ∈ l,s.tr.length ≤ 100) (n:Nat):(ptTo es vs ss rule l n).length ≤ n * 100:=by
 induction n with
 | zero => exact Nat.le_refl _
 | succ n ih =>
   cases h:l[n]? with
   | none =>
     show (ptTo es vs ss rule l n ++ (l[n]?).elim _ _).length ≤ _
     rw [h]
     simp
     omega
   | some s =>
     rw [ptTo_next h,List.length_append]
     have h1:=flTo_length rule n (brS es vs ss rule s) (brS es vs ss rule s).length
     have h2:(brS es vs ss rule s).length ≤ 100:=by
      unfold brS
      split
      ·simp
      ·rw [List.length_map]; exact hl s (List.mem_of_getElem? h)
     omega
def brk (x:Cx) (rule:Int):List Fw :=
 if rule = 1 then itemsF 1 (twins x.evs) else if rule = 2 then itemsF 2 (twins (vnC x)) else if rule = 3 then itemsF 3 (plTo (illB x.vars) x.vars.length) else
 if rule = 4 then itemsF 4 (twins (snC x)) else if rule = 5 then itemsF 5 (plTo (loneB (x.sts.map shOf)) x.sts.length) else ptTo x.evs (vnC x) (snC x) rule x.sts x.sts.length
end RulesSpec
end Go.Proofs.YtckojimeglkobaaGreatDoor
namespace Go.Proofs.YtckojimeglkobaaGreatDoor
namespace SoundSpec
open NamesSpec SynSpec RulesSpec PrintSpec
def allTo (x:Cx):Nat → List Fw
 | 0 => []
 | k + 1 => allTo x k ++ brk x ((k:Int) + 1)
def flawsC (x:Cx):List Fw:=allTo x 10
theorem allTo_next (x:Cx) (k:Nat):allTo x (k + 1) = allTo x k ++ brk x ((k:Int) + 1):=rfl
theorem allTo_length {x:Cx} {n:Nat} (h:∀ r,(brk x r).length ≤ n) (k:Nat):(allTo x k).length ≤ k * n:=by
 induction k with
 | zero => exact Nat.zero_le _
 | succ k ih =>
   rw [allTo_next,List.length_append,Nat.succ_mul]
   have:=h ((k:Int) + 1)
   omega
theorem allTo_none {x:Cx} {k:Nat}:allTo x k = [] ↔ ∀ r:Int,1 ≤ r → r ≤ k → brk x r = []:=by
 induction k with
 | zero =>
   constructor
   ·intro _ r h1 h2
    omega
   ·intro _
    rfl
 | succ k ih =>
   rw [allTo_next,List.append_eq_nil_iff,ih]
   constructor
   ·rintro ⟨h1,h2⟩ r h3 h4
    by_cases e:r = (k:Int) + 1
    ·rw [e]; exact h2
    ·exact h1 r h3 (by omega)
   ·intro h
    exact ⟨fun r h1 h2 => h r h1 (by omega),h _ (by omega) (by omega)⟩
def soundC (x:Cx):Bool:=mayC x && decide ((flawsC x).length = 0)
def keptFrom (x:Cx):Nat → Bool
 | 0 => true
 | k + 1 => decide ((brk x (10 - (k:Int))).length = 0) && keptFrom x k
theorem keptFrom_iff {x:Cx} {k:Nat} (hk:k ≤ 10):keptFrom x k = true ↔ ∀ r:Int,10 - (k:Int) < r → r ≤ 10 → brk x r = []:=by
 induction k with
 | zero =>
   constructor
   ·intro _ r h1 h2
    omega
   ·intro _
    rfl
 | succ k ih =>
   show (_ && _) = true ↔ _
   rw [Bool.and_eq_true,decide_eq_true_eq,List.length_eq_zero_iff,ih (by omega)]
   constructor
   ·rintro ⟨h1,h2⟩ r h3 h4
    by_cases e:r = 10 - (k:Int)
    ·rw [e]; exact h1
    ·exact h2 r (by omega) h4
   ·intro h
    exact ⟨h _ (by omega) (by omega),fun r h1 h2 => h r (by omega) h2⟩
theorem kept_all (x:Cx):keptFrom x 10 = decide ((flawsC x).length = 0):=by
 rw [Bool.eq_iff_iff,keptFrom_iff (by omega),decide_eq_true_eq,List.length_eq_zero_iff]
 unfold flawsC
 rw [allTo_none]
 constructor
 ·intro h r h1 h2
  exact h r (by omega) (by omega)
 ·intro h r h1 h2
  exact h r (by omega) (by omega)
end SoundSpec
end Go.Proofs.YtckojimeglkobaaGreatDoor
namespace Go.Proofs.YtckojimeglkobaaGreatDoor
open Go.RowKit RulesSpec
set_option maxRecDepth 100000
def fwV (f:Fw):List Value:=[.int .i64 f.r,.int .i64 f.i,.int .i64 f.p]
def fwsV (l:List Fw):List Value:=l.flatMap fwV
theorem fwV_length (f:Fw):(fwV f).length = 3:=rfl
theorem fwsV_one (l:List Fw):∀ u ∈ fwsV l,u.oneCell' = true:=by
 intro u hu
 obtain ⟨f,_,h⟩:=List.mem_flatMap.1 hu
 simp only [fwV,List.mem_cons,List.not_mem_nil,or_false] at h
 rcases h with rfl | rfl | rfl <;> rfl
theorem fwsV_append (a b:List Fw):fwsV a ++ fwsV b = fwsV (a ++ b):=by unfold fwsV; rw [List.flatMap_append]
def Fws (w:World) (v:Value) (l:List Fw):Prop:=Rdk 3 w v l.length (fwsV l)
theorem Fws.keep {w w':World} {v:Value} {l:List Fw} (h:Fws w v l) (hb:Below w.heap.size w w'):Fws w' v l:=Rdk.keep h hb
theorem Fws.shape {w:World} {v:Value} {l:List Fw} (h:Fws w v l):∃ A n c,v = .slice A n c ∧ n = l.length:=by
 obtain ⟨A,c,hv,_⟩:=h
 exact ⟨A,_,c,hv,rfl⟩
theorem Fws.len {w:World} {A:Option Addr} {n c:Nat} {l:List Fw} (h:Fws w (.slice A n c) l):n = l.length:=by
 obtain ⟨A,c,hv,_⟩:=h
 cases hv
 rfl
theorem Fws.at_ {w:World} {A:Option Addr} {n c:Nat} {l:List Fw} {i:Nat} {f:Fw} (h:Fws w (.slice A n c) l) (hi:l[i]? = some f) :
 ∃ b off,A = some ⟨b,off,none⟩ ∧ b < w.heap.size ∧ w.cell? ⟨b,off + i * 3,none⟩ = some (.int .i64 f.r) ∧ w.cell? ⟨b,off + i * 3 + 1,none⟩ = some (.int .i64 f.i) ∧ w.cell? ⟨b,off + i * 3 + 2,none⟩ = some (.int .i64 f.p):=by
 obtain ⟨A',c',heq,hc,hl,hA⟩:=h
 cases heq
 have:=get_lt hi
 obtain ⟨b,off,rfl,hb,hcell⟩:=hA (by omega)
 exact ⟨b,off,rfl,hb,hcell _ _ (flat_get (j:=0) fwV_length hi (by omega)),by rw [Nat.add_assoc]; exact hcell _ _ (flat_get (j:=1) fwV_length hi (by omega)),by rw [Nat.add_assoc]; exact hcell _ _ (flat_get (j:=2) fwV_length hi (by omega))⟩
theorem fw_lit {w:World} {cs:Array Value} {f:Fw} {e:TypeId} {k:Nat} (hk:k = w.heap.size) (hx:cs.toList = fwV f):Rdk 3 (w.alloc (.cells cs e)) (.slice (some ⟨k,0,none⟩) 1 1) 1 (fwsV [f]):=by
 subst hk
 refine ⟨_,1,rfl,Nat.le_refl _,rfl,fun _ => ⟨w.heap.size,0,rfl,by simp,fun j u hj => ?_⟩⟩
 rw [show fwsV [f] = fwV f from List.append_nil _,← hx,Array.getElem?_toList] at hj
 rw [World.cell?_alloc_at _ _ _ _ rfl]
 simpa using hj
def RowF (W wr:World) (p:Value) (xs:List Fw):Prop:=wr.ownsRow W.heap.size 118 3 p xs.length (fwsV xs) ∧ Below W.heap.size W wr
theorem RowF.nil (W wr:World) (hb:Below W.heap.size W wr):RowF W wr (.slice none 0 0) []:=⟨World.ownsRow_nil _ _ _ _,hb⟩
theorem RowF.keep {W w w':World} {p:Value} {xs:List Fw} (h:RowF W w p xs) (hb:Below w.heap.size w w'):RowF W w' p xs:=⟨own_keep h.1 hb,below_two' h.2 hb⟩
theorem RowF.add {W wr w2:World} {p p':Value} {xs:List Fw} {f:Fw} {o:Obj} (h:RowF W wr p xs) (hrow:w2.ownsRow W.heap.size 118 3 p' (xs.length + 1) (fwsV xs ++ fwsV [f])) (hg:(wr.alloc o).grownBy w2 p.ownBlock):RowF W w2 p' (xs ++ [f]):=by
 refine ⟨?_,(h.2.alloc h.2.size o).grown hg (by have:=h.2.size; simp; omega) (fun j hj => (own_block_bd h.1 j hj).1)⟩
 rw [← fwsV_append,List.length_append]
 exact hrow
theorem RowF.fws {W wr:World} {p:Value} {xs:List Fw} (h:RowF W wr p xs):Fws wr p xs:=Rdk.own h.1
def RetFw (W:World) (l:List Fw) (e:Ending) (w':World):Prop:=∃ A n c,e = .returned (.slice A n c) ∧ n = l.length ∧ Fws w' (.slice A n c) l ∧ Below W.heap.size W w'
theorem RowF.ret {W wr:World} {p:Value} {xs:List Fw} (h:RowF W wr p xs):RetFw W xs (.returned p) wr:=by
 obtain ⟨A,n,c,rfl,hn⟩:=h.fws.shape
 exact ⟨A,n,c,rfl,hn,h.fws,h.2⟩
theorem inf_flaw:(Tryz.prog.info? 118).map (fun i => (i.zero,i.size,i.bytes)) = some (some (.agg #[.int .i64 0,.int .i64 0,.int .i64 0]),3,24):=by kernel_rfl
theorem fw_two (a b:Int) (w:World):(Instr.build 118 #[(0,.int .i64 a),(1,.int .i64 b)]).run Tryz.prog w = .ok (.agg #[.int .i64 a,.int .i64 b,.int .i64 0]) w:=run_build w 118 _ _ (by kernel_rfl)
theorem fw_three (a b c:Int) (w:World):(Instr.build 118 #[(0,.int .i64 a),(1,.int .i64 b),(2,.int .i64 c)]).run Tryz.prog w = .ok (.agg #[.int .i64 a,.int .i64 b,.int .i64 c]) w:=run_build w 118 _ _ (by kernel_rfl)
end Go.Proofs.YtckojimeglkobaaGreatDoor
namespace Go.Proofs.YtckojimeglkobaaGreatDoor
open Go.RowKit TermSpec EvalSpec ActSpec NamesSpec Go.Lib
def VFit (v:Vr):Prop:=-9223372036854775808 ≤ v.lo ∧ v.lo ≤ 9223372036854775807 ∧ -9223372036854775808 ≤ v.hi ∧ v.hi ≤ 9223372036854775807
theorem u64_span {lo hi:Int} (h1:-9223372036854775808 ≤ lo) (h2:hi ≤ 9223372036854775807) (h:lo ≤ hi):IntKind.u64.wrap (IntKind.u64.wrap hi - IntKind.u64.wrap lo) = hi - lo:=by
 simp only [IntKind.wrap_u64]
 omega
end Go.Proofs.YtckojimeglkobaaGreatDoor
namespace Go.Proofs.YtckojimeglkobaaGreatDoor
open Go.RowKit ShapeSpec
set_option maxRecDepth 100000
def RetRowI (W:World) (xs:List Int) (e:Ending) (w':World):Prop:=∃ A n c,e = .returned (.slice A n c) ∧ n = xs.length ∧ RowI W w' (.slice A n c) xs
def KidQ (W:World) (l:List Sh) (i n:Nat) (p v:Value) (wr:World):Prop:=∃ k:Nat,k ≤ n ∧ v = .int .i64 k ∧ RowI W wr p (kidsTo l i k)
set_option maxHeartbeats 4000000 in
theorem shkids_row (A:Option Addr) (n c:Nat) (l:List Sh) (i:Int) (w:World) (h:Sts w (.slice A n c) l) (hm:n ≤ 9223372036854775807) :
 Calls Tryz.prog 109 #[.slice A n c,.int .i64 i] w (RetRowI w (kidsA l i)):=by
 have hn:=h.len
 have HH:=Lib.hid (has_any A n c l i w h hm)
 cases hb:hasB l i with
 | false =>
   rw [hb] at HH
   have HE:Hid (kidsA l i = []):=Lib.hid (if_neg (by simp [hb]))
   rw [HE.out]
   clear h hn hb HE
   go_enter Tryz.func109,Tryz.ntmps109
   go_wp2_with (go_at_call 128; (with_reducible refine HH.out.mono ?_))
   rintro e w1 ⟨rfl,hb1⟩
   go_wp2_with fail
   go_ret
   exact ⟨none,0,0,rfl,rfl,RowI.nil _ _ hb1⟩
 | true =>
   rw [hb] at HH
   obtain ⟨a,rfl,ha,han,hn60,hsu⟩:=has_at hn hb
   have HE:Hid (kidsA l (a:Int) = kidsTo l a n):=Lib.hid (by unfold kidsA; rw [if_pos hb,hn]; rfl)
   rw [HE.out]
   have HT:=Lib.hid h
   have HN:=Lib.hid hn
   obtain ⟨i0,hi,hz0,hz1,hz2⟩:=info_parts inf_int
   have HI:=Lib.hid (And.intro hi (And.intro hz0 (And.intro hz1 hz2)))
   clear h hn hb HE ha hsu hi hz0 hz1 hz2
   go_enter Tryz.func109,Tryz.ntmps109
   go_wp2_with (go_at_call 128; (with_reducible refine HH.out.mono ?_))
   rintro e w1 ⟨rfl,hb1⟩
   have HB1:=Lib.hid hb1
   clear hb1
   go_wp2_with fail
   go_loopw [5,14] (fun p v wr => KidQ w l a n p v wr) (fun _ v _ => n - (intOf v).toNat)
   case atStart => exact ⟨0,Nat.zero_le _,rfl,RowI.nil _ _ HB1.out⟩
   case round =>
    obtain ⟨k,hk,rfl,hrow⟩:=hrel
    have HR:=Lib.hid hrow
    clear hrow
    by_cases hlt:k < n
    ·have hltI:(k:Int) < n:=by omega
     obtain ⟨t,ht⟩:∃ t,l[k]? = some t:=get_some (by rw [← HN.out]; exact hlt)
     have HT1:=Lib.hid (HT.out.keep HR.out.2)
     obtain ⟨b,off,s,a3,n3,c3,a4,n4,c4,a5,n5,c5,rfl,hb,c0,c1,c2,c3',c4',c5'⟩:=HT1.out.all ht
     have HP:=Lib.hid (par_at ht)
     obtain ⟨q,hq⟩:∃ q,q = t.par:=⟨_,rfl⟩
     rw [← hq] at c2 HP
     have HRA:=Lib.hid (fun (o:Obj) => HR.out.keep ((Below.refl _ _).alloc (Nat.le_refl _) o))
     have HSZ:Hid (w.heap.size ≤ wr.heap.size):=Lib.hid HR.out.2.size
     have hkl:=kids_le l a k
     have HL1:Hid ((kidsTo l a k).length + (intV [(k:Int)]).length ≤ maxLen):=Lib.hid (by simp [maxLen]; omega)
     have HL2:Hid (((kidsTo l a k).length + (intV [(k:Int)]).length) * 8 ≤ 140737488355328):=Lib.hid (by simp; omega)
     clear ht hq hkl
     by_cases hqa:q = a
     ·have g1:(q == (a:Int)) = true:=by simpa using hqa
      have HS:Hid (kidsTo l a (k + 1) = kidsTo l a k ++ [(k:Int)]):=Lib.hid (kids_yes (HP.out.trans hqa))
      clear hqa
      go_wp2_with (at_builtin; refine wpList_append_rd _ rfl (.tmp 23) (.tmp 25) _ rfl w.heap.size 3 i0 (.int .i64 0) 8 Tryz.underlying90 HI.out.1 HI.out.2.1 HI.out.2.2.1 HI.out.2.2.2 rfl _ _ _ rfl (((HRA.out _).1).alloc _) _ (intV [(k:Int)]) rfl (lit_here (by simp) rfl rfl) (intV_one _) HL1.out HL2.out ?_ ?_; (have:=HSZ.out; simp; omega); intro p2 w2 hrow2 hg2 _; have HR2:=Lib.hid (RowI.add (HRA.out _) hrow2 hg2); clear hrow2 hg2)
      go_roundw
      case rel => exact ⟨k + 1,by omega,by simp,by rw [HS.out]; exact HR2.out⟩
      case measure => simp [intOf]; omega
     ·have g1:(q == (a:Int)) = false:=by simpa using hqa
      have HS:Hid (kidsTo l a (k + 1) = kidsTo l a k):=Lib.hid (kids_no (by rw [HP.out]; exact hqa))
      clear hqa
      go_wp2_with fail
      go_roundw
      case rel => exact ⟨k + 1,by omega,by simp,by rw [HS.out]; exact HRA.out _⟩
      case measure => simp [intOf]; omega
    ·obtain rfl:k = n:=by omega
     go_wp2_with fail
     go_ret
     obtain ⟨A2,c2,hp⟩:=own_shape HR.out.1
     exact ⟨A2,_,c2,congrArg Ending.returned hp,rfl,hp ▸ HR.out⟩
end Go.Proofs.YtckojimeglkobaaGreatDoor