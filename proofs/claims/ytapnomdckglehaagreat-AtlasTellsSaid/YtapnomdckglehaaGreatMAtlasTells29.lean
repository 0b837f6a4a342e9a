/- RulesRefE, TermSameG, ActSameG, TransEqual, joined. -/
import Derived.Test.YtapnomdckglehaaGreatMAtlasTells28
import Derived.Test.YtapnomdckglehaaGreatMAtlasTells04
import Derived.Test.YtapnomdckglehaaGreatMAtlasTells07
import Derived.Lib.QuietBelow
import Derived.Test.YtapnomdckglehaaGreatMAtlasTells05
namespace Go.Proofs.YtapnomdckglehaaGreat
open Go.RowKit Go.Sort TermSpec NamesSpec EvalSpec ActSpec TransSpec SynSpec RulesSpec PrintSpec Go.BigFrame
open ShapeSpec (Sh kids)
set_option maxRecDepth 100000
def BoRel (W1:World) (F:Nat → List Fw) (n:Nat) (p i:Value) (wr:World):Prop:=∃ k:Nat,k ≤ n ∧ i = .int .i64 k ∧ Hid (RowF W1 wr p (F k))
def BnRel (W1:World) (P:List Fw) (r:Int) (i g n:Nat) (O:Obj) (bs:List Bool) (p v:Value) (wr:World):Prop:=∃ j:Nat,j ≤ n ∧ v = .int .i64 j ∧ Hid (BkIn W1 (P ++ flTo r i bs j) g O p wr)
section
variable (x:Cx) (eA:Option Addr) (en ec:Nat) (vA:Option Addr) (vn vc:Nat) (sA:Option Addr) (sn sc:Nat) (w:World) (h:ChIn w (.slice eA en ec) (.slice vA vn vc) (.slice sA sn sc) x) (hf:FewR x)
include h hf
set_option maxRecDepth 100000 in
set_option maxHeartbeats 16000000 in
theorem rbk_trans (rule:Int) (hr:rule = 6 ∨ rule = 7 ∨ rule = 8 ∨ rule = 9)
 (htr:∀ s ∈ x.sts,∀ t ∈ s.tr,∀ (gA:Option Addr) (gn gc:Nat) (aA:Option Addr) (an ac:Nat) (W:World),Below w.heap.size w W → TrIn W gA gn gc aA an ac t → Calls Tryz.prog 59 #[.agg #[.string x.s,.slice eA en ec,.slice vA vn vc,.slice sA sn sc],.int .i64 rule,.agg #[.string t.ev,.slice gA gn gc,.slice aA an ac,.string t.tg]] W (RetB W (!brT x.evs (vnC x) (snC x) rule t))) :
 Calls Tryz.prog 33 #[.agg #[.string x.s,.slice eA en ec,.slice vA vn vc,.slice sA sn sc],.int .i64 rule] w (RetFw w (ptTo x.evs (vnC x) (snC x) rule x.sts x.sts.length)):=by
 have hn:=h.sts.len.1
 have hcap:=h.sts.len.2
 have hsn:sn ≤ 1000:=by have:=hf.stl; omega
 have HST:=Lib.hid (fun W (hW:Below w.heap.size w W) => h.sts.keep hW)
 have HF:=Lib.hid hf.sts
 have HPL:=Lib.hid (fun (k:Nat) => ptTo_length (es:=x.evs) (vs:=vnC x) (ss:=snC x) (rule:=rule) (l:=x.sts) (fun s hs => (hf.sts s hs).2.2) k)
 have HN:=Lib.hid hn
 rw [← hn]
 have HTR:=Lib.hid htr
 obtain ⟨nm,hnm⟩:∃ nm,nm = x.s:=⟨_,rfl⟩
 rw [← hnm]
 obtain ⟨W1,hW1⟩:∃ W1,w.alloc (.cells #[.string nm,.slice eA en ec,.slice vA vn vc,.slice sA sn sc] 26) = W1:=⟨_,rfl⟩
 have hb1:Below w.heap.size w W1:=by rw [← hW1]; exact KitC.below_one _ _
 have hk1:W1.heap[w.heap.size]? = some (.cells #[.string nm,.slice eA en ec,.slice vA vn vc,.slice sA sn sc] 26):=by rw [← hW1]; exact heap_alloc_new _ _
 have HW1:=Lib.hid hW1
 have HB1:=Lib.hid hb1
 have HK:=Lib.hid (fun W (hW:Below W1.heap.size W1 W) => KitC.block_on hk1 hW)
 obtain ⟨i0,hi,hz0,hz1,hz2⟩:=info_parts inf_flaw
 have HI:=Lib.hid (And.intro hi (And.intro hz0 (And.intro hz1 hz2)))
 obtain ⟨W2,hW2⟩:∃ W2,W1.alloc (.cells #[] 110) = W2:=⟨_,rfl⟩
 have HW2:=Lib.hid hW2
 have hsz1:w.heap.size + 1 = W1.heap.size:=by rw [← hW1]; simp
 have HST0:Hid (RowF W1 W2 (.slice (some ⟨w.heap.size + 1,0,none⟩) 0 0) []):=Lib.hid (by
  rw [hsz1,← hW2]
  exact ⟨World.ownsRow_lit W1 #[] 0 (Nat.le_refl _) (Nat.zero_le _) rfl,KitC.below_one _ _⟩)
 rw [← hnm] at HTR
 have g1:(rule == 1) = false:=by simp; omega
 have g2:(rule == 2) = false:=by simp; omega
 have g3:(rule == 3) = false:=by simp; omega
 have g5:decide (rule ≤ 5) = false:=by simp; omega
 have g10:(rule == 10) = false:=by simp; omega
 have HNE:Hid (rule ≠ 10):=Lib.hid (by omega)
 have hfb:=fw_three
 clear h hf hn htr hr hnm hb1 hk1 hi hz0 hz1 hz2 hW1 hW2 hsz1
 go_enter Tryz.func33,Tryz.ntmps33
 go_wp2_with fail
 rw [HW1.out,HW2.out]
 go_loopw [5,7] (fun p i wr => BoRel W1 (ptTo x.evs (vnC x) (snC x) rule x.sts) sn p i wr) (fun _ i _ => sn - (intOf i).toNat)
 case atStart => exact ⟨0,Nat.zero_le _,rfl,HST0⟩
 case round =>
  obtain ⟨k,hk,rfl,HR⟩:=hrel
  obtain ⟨wo,rfl⟩:∃ wo:World,wo = wr:=⟨_,rfl⟩
  by_cases hlt:k < sn
  case neg =>
   obtain rfl:k = sn:=by omega
   have hlt':¬ (k:Int) < k:=by omega
   go_wp2_with fail
   go_ret
   obtain ⟨A,n,cp,he,hnn,hfw,hbw⟩:=HR.out.ret
   exact ⟨A,n,cp,he,hnn,hfw,below_two' HB1.out hbw⟩
  have hkI:(k:Int) < sn:=by omega
  obtain ⟨s,hs⟩:∃ s,x.sts[k]? = some s:=get_some (by rw [← HN.out]; exact hlt)
  have HBW:=Lib.hid (below_two' HB1.out HR.out.below)
  obtain ⟨bb,off,a3,n3,m3,a4,n4,m4,a5,n5,m5,rfl,hbw0,z0,z1,z2,z3,z4,z5,k3,k4,k5⟩:=(HST.out _ (Below.refl _ _)).at_ hs
  have d0:=(HBW.out.cell (p:=⟨bb,off + k * 6,none⟩) hbw0).trans z0
  have d1:=(HBW.out.cell (p:=⟨bb,off + k * 6 + 1,none⟩) hbw0).trans z1
  have d2:=(HBW.out.cell (p:=⟨bb,off + k * 6 + 2,none⟩) hbw0).trans z2
  have d3:=(HBW.out.cell (p:=⟨bb,off + k * 6 + 3,none⟩) hbw0).trans z3
  have d4:=(HBW.out.cell (p:=⟨bb,off + k * 6 + 4,none⟩) hbw0).trans z4
  have d5:=(HBW.out.cell (p:=⟨bb,off + k * 6 + 5,none⟩) hbw0).trans z5
  have hb:bb < wo.heap.size:=Nat.lt_of_lt_of_le hbw0 HBW.out.size
  clear z0 z1 z2 z3 z4 z5 hbw0
  have HFS:=Lib.hid (HF.out s (List.mem_of_getElem? hs))
  have HNX:=Lib.hid (ptTo_next (es:=x.evs) (vs:=vnC x) (ss:=snC x) (rule:=rule) hs)
  obtain ⟨P,hP⟩:∃ P,P = ptTo x.evs (vnC x) (snC x) rule x.sts k:=⟨_,rfl⟩
  have hPL:=HPL.out k
  rw [← hP] at hPL HR HNX
  have hbe:brS x.evs (vnC x) (snC x) rule s = s.tr.map (brT x.evs (vnC x) (snC x) rule):=by unfold brS; exact if_neg HNE.out
  obtain ⟨bs,hbs⟩:∃ bs,bs = brS x.evs (vnC x) (snC x) rule s:=⟨_,rfl⟩
  rw [← hbs] at HNX hbe
  have hn5:=k5.len.1
  have hm5:=k5.len.2
  have hbl:bs.length = n5:=by rw [hbe,List.length_map,hn5]
  have hn100:n5 ≤ 100:=by rw [hn5]; exact HFS.out.2.2
  have HBL:=Lib.hid hbl
  have HBG:=Lib.hid (fun j t (ht:s.tr[j]? = some t) => (show bs[j]? = some (brT x.evs (vnC x) (snC x) rule t) by rw [hbe,List.getElem?_map,ht]; rfl))
  have HK5:=Lib.hid (fun W (hW:Below w.heap.size w W) => k5.keep hW)
  have HTRS:=Lib.hid (HTR.out s (List.mem_of_getElem? hs))
  have HN5:=Lib.hid hn5
  obtain ⟨sm,kd,pr,sen,sex,str⟩:=s
  simp only at d0 d1 d2 HBG HK5 HTRS HN5
  obtain ⟨c0,c1,c2,c3⟩:=cells_4 (HK.out _ HR.out.below)
  have hws:w.heap.size < wo.heap.size:=(Array.getElem?_eq_some_iff.1 (HK.out _ HR.out.below)).1
  obtain ⟨O,hO⟩:∃ O:Obj,O = .cells #[.string sm,.int .i64 kd,.int .i64 pr,.slice a3 n3 m3,.slice a4 n4 m4,.slice a5 n5 m5] 72:=⟨_,rfl⟩
  have HO:=Lib.hid hO
  obtain ⟨W4,hW4⟩:∃ W4,wo.alloc O = W4:=⟨_,rfl⟩
  have HR4:Hid (BkIn W1 P wo.heap.size O u5 W4):=Lib.hid (by rw [← hW4]; exact bk_new HR.out O)
  rw [hO] at hW4
  have HW4:=Lib.hid hW4
  clear hs k3 k4 k5 hP hbs hbe hn5 hbl hO hW4
  go_wp2_with fail
  rw [HW4.out]
  clear c0 c1 c2 c3 d0 d1 d2 d3 d4 d5 hws hb
  go_loopw [5,9] (fun p i wr => BnRel W1 P rule k wo.heap.size n5 O bs p i wr) (fun _ i _ => n5 - (intOf i).toNat)
  case atStart => exact ⟨0,Nat.zero_le _,rfl,Lib.hid (by show BkIn _ (P ++ []) _ _ _ _; rw [List.append_nil]; exact HR4.out)⟩
  case round =>
   obtain ⟨j,hj,rfl,HL⟩:=hrel
   have HB:=Lib.hid (show wr.heap[wo.heap.size]? = some (.cells #[.string sm,.int .i64 kd,.int .i64 pr,.slice a3 n3 m3,.slice a4 n4 m4,.slice a5 n5 m5] 72) by rw [← HO.out]; exact HL.out.2.1)
   obtain ⟨e0,e1,e2,e3,e4,e5⟩:=cells_6 HB.out
   by_cases hlj:j < n5
   case neg =>
    obtain rfl:j = n5:=by omega
    have HE:=Lib.hid HL.out.1
    rw [← HBL.out,← HNX.out] at HE
    have hlj':¬ (j:Int) < j:=by omega
    go_wp2_with fail
    go_roundw
    case rel => exact ⟨k + 1,by omega,by simp,HE⟩
    case measure => simp [intOf]; omega
   have hjI:(j:Int) < n5:=by omega
   have hmI:(j:Int) < m5:=by omega
   have HBWI:=Lib.hid (below_two' HB1.out HL.out.1.below)
   obtain ⟨t,ht⟩:∃ t,str[j]? = some t:=get_some (by rw [← HN5.out]; exact hlj)
   obtain ⟨b5,o5,gA,gn,gc,aA,an,ac,rfl,hb5,t0,t1,t2,t3,htin⟩:=(HK5.out _ HBWI.out).at_ ht
   have HQ:=Lib.hid (HBG.out j t ht)
   have HC1:=Lib.hid (fun W (hW:Below wr.heap.size wr W) => HTRS.out t (List.mem_of_getElem? ht) gA gn gc aA an ac W (below_two' HBWI.out hW) (htin.keep hW))
   obtain ⟨q,hq⟩:∃ q,q = brT x.evs (vnC x) (snC x) rule t:=⟨_,rfl⟩
   rw [← hq] at HQ HC1
   obtain ⟨ev,gd,ta,tg⟩:=t
   simp only at t0 t1 t2 t3 HC1
   have HC2:Hid (∀ d os,Calls Tryz.prog 59 #[.agg #[.string nm,.slice eA en ec,.slice vA vn vc,.slice (some ⟨bb,off,none⟩) sn sc],.int .i64 rule,.agg #[.string ev,.slice gA gn gc,.slice aA an ac,.string tg]] (grow (redrawn wr d) os) fun e w'' => e = .returned (.bool (!q)) ∧ ∃ p:Regrown,w'' = grow (redrawn wr p.d) p.os) :=
    Lib.hid (fun d os => Calls.regrown_of (HC1.out _ (below_regrown wr d os)))
   obtain ⟨c0,c1,c2,c3⟩:=cells_4 (HK.out _ HL.out.1.below)
   have r0:=cell_regrown c0; have r1:=cell_regrown c1; have r2:=cell_regrown c2; have r3:=cell_regrown c3; have r5:=cell_regrown e5
   have q0:=cell_regrown t0; have q1:=cell_regrown t1; have q2:=cell_regrown t2; have q3:=cell_regrown t3
   clear ht htin hq HC1
   cases q with
   | false =>
     have HS:=Lib.hid (flTo_no (rule:=rule) (i:=k) HQ.out)
     go_wp2_with fail
     refine wp_region_quiet_below (by kernel_rfl) (by kernel_rfl) ?_
     repeat (go_big_quiet_step (with_reducible exact HC2.out _ _))
     refine wpQuiet_nil ?_
     intro _ hw'
     obtain ⟨⟨dq,osq⟩,hw''⟩:=hw'
     subst hw''
     simp only
     have HL3:=Lib.hid (HL.out.keep (below_regrown wr dq osq))
     go_wp2_with fail
     go_roundw
     case rel => exact ⟨j + 1,hlj,by simp,Lib.hid (by rw [HS.out]; exact HL3.out)⟩
     case measure => simp [intOf]; omega
   | true =>
     have HS:=Lib.hid (show P ++ flTo rule k bs (j + 1) = (P ++ flTo rule k bs j) ++ [⟨rule,k,j⟩] by rw [flTo_yes HQ.out,List.append_assoc])
     have hll:=flTo_length rule k bs j
     have HL1:Hid ((P ++ flTo rule k bs j).length + 1 ≤ maxLen):=Lib.hid (by rw [List.length_append]; unfold maxLen; omega)
     have HL2:Hid (((P ++ flTo rule k bs j).length + 1) * 24 ≤ 140737488355328):=Lib.hid (by rw [List.length_append]; omega)
     clear hll
     go_wp2_with fail
     refine wp_region_quiet_below (by kernel_rfl) (by kernel_rfl) ?_
     repeat (go_big_quiet_step (with_reducible exact HC2.out _ _))
     refine wpQuiet_nil ?_
     intro _ hw'
     obtain ⟨⟨dq,osq⟩,hw''⟩:=hw'
     subst hw''
     simp only
     have HL3:=Lib.hid (HL.out.keep (below_regrown wr dq osq))
     obtain ⟨WQ,hWQ⟩:∃ WQ,grow (redrawn wr dq) osq = WQ:=⟨_,rfl⟩
     rw [hWQ] at HL3 ⊢
     have HSZ:Hid (W1.heap.size ≤ WQ.heap.size):=Lib.hid HL3.out.1.2.size
     clear hWQ c0 c1 c2 c3 r0 r1 r2 r3 r5 q0 q1 q2 q3 t0 t1 t2 t3 e0 e1 e2 e3 e4 e5
     go_wp2_with (at_builtin; refine wpList_append_rdk _ rfl (.tmp 91) (.tmp 96) _ rfl W1.heap.size 110 i0 (.agg #[.int .i64 0,.int .i64 0,.int .i64 0]) 3 24 Tryz.underlying79 HI.out.1 HI.out.2.1 HI.out.2.2.1 HI.out.2.2.2 rfl (by decide) _ _ _ rfl (HL3.out.1.1.alloc _) _ 1 (fwsV [⟨rule,k,j⟩]) rfl (fw_lit rfl rfl) (fwsV_one _) HL1.out HL2.out ?_ ?_; (have:=HSZ.out; simp; omega); intro p9 w9 hrow2 hg2 hob; have HR9:=Lib.hid (BkIn.add HL3.out hrow2 hg2 hob); clear hrow2 hg2 hob)
     go_roundw
     case rel => exact ⟨j + 1,hlj,by simp,Lib.hid (by rw [HS.out]; exact HR9.out)⟩
     case measure => simp [intOf]; omega
set_option maxRecDepth 100000 in
set_option maxHeartbeats 16000000 in
theorem rbk_ten (hac:∀ s ∈ x.sts,∀ (l:List Ac),l = s.en ∨ l = s.ex → ∀ (A:Option Addr) (n c:Nat) (W:World),Below w.heap.size w W → Acs W (.slice A n c) l → Calls Tryz.prog 58 #[.agg #[.string x.s,.slice eA en ec,.slice vA vn vc,.slice sA sn sc],.slice A n c,.bool false] W (RetB W (actsR (vnC x) (snC x) false l))) :
 Calls Tryz.prog 33 #[.agg #[.string x.s,.slice eA en ec,.slice vA vn vc,.slice sA sn sc],.int .i64 10] w (RetFw w (ptTo x.evs (vnC x) (snC x) 10 x.sts x.sts.length)):=by
 have hn:=h.sts.len.1
 have hcap:=h.sts.len.2
 have hsn:sn ≤ 1000:=by have:=hf.stl; omega
 have HST:=Lib.hid (fun W (hW:Below w.heap.size w W) => h.sts.keep hW)
 have HF:=Lib.hid hf.sts
 have HPL:=Lib.hid (fun (k:Nat) => ptTo_length (es:=x.evs) (vs:=vnC x) (ss:=snC x) (rule:=10) (l:=x.sts) (fun s hs => (hf.sts s hs).2.2) k)
 have HN:=Lib.hid hn
 rw [← hn]
 have HAC:=Lib.hid hac
 obtain ⟨nm,hnm⟩:∃ nm,nm = x.s:=⟨_,rfl⟩
 rw [← hnm]
 obtain ⟨W1,hW1⟩:∃ W1,w.alloc (.cells #[.string nm,.slice eA en ec,.slice vA vn vc,.slice sA sn sc] 26) = W1:=⟨_,rfl⟩
 have hb1:Below w.heap.size w W1:=by rw [← hW1]; exact KitC.below_one _ _
 have hk1:W1.heap[w.heap.size]? = some (.cells #[.string nm,.slice eA en ec,.slice vA vn vc,.slice sA sn sc] 26):=by rw [← hW1]; exact heap_alloc_new _ _
 have HW1:=Lib.hid hW1
 have HB1:=Lib.hid hb1
 have HK:=Lib.hid (fun W (hW:Below W1.heap.size W1 W) => KitC.block_on hk1 hW)
 obtain ⟨i0,hi,hz0,hz1,hz2⟩:=info_parts inf_flaw
 have HI:=Lib.hid (And.intro hi (And.intro hz0 (And.intro hz1 hz2)))
 obtain ⟨W2,hW2⟩:∃ W2,W1.alloc (.cells #[] 110) = W2:=⟨_,rfl⟩
 have HW2:=Lib.hid hW2
 have hsz1:w.heap.size + 1 = W1.heap.size:=by rw [← hW1]; simp
 have HST0:Hid (RowF W1 W2 (.slice (some ⟨w.heap.size + 1,0,none⟩) 0 0) []):=Lib.hid (by
  rw [hsz1,← hW2]
  exact ⟨World.ownsRow_lit W1 #[] 0 (Nat.le_refl _) (Nat.zero_le _) rfl,KitC.below_one _ _⟩)
 rw [← hnm] at HAC
 have hf2:=fw_two
 have hf3:=fw_three
 clear h hf hn hac hnm hb1 hk1 hi hz0 hz1 hz2 hW1 hW2 hsz1
 go_enter Tryz.func33,Tryz.ntmps33
 go_wp2_with fail
 rw [HW1.out,HW2.out]
 go_loopw [5,7] (fun p i wr => BoRel W1 (ptTo x.evs (vnC x) (snC x) 10 x.sts) sn p i wr) (fun _ i _ => sn - (intOf i).toNat)
 case atStart => exact ⟨0,Nat.zero_le _,rfl,HST0⟩
 case round =>
  obtain ⟨k,hk,rfl,HR⟩:=hrel
  obtain ⟨wo,rfl⟩:∃ wo:World,wo = wr:=⟨_,rfl⟩
  by_cases hlt:k < sn
  case neg =>
   obtain rfl:k = sn:=by omega
   have hlt':¬ (k:Int) < k:=by omega
   go_wp2_with fail
   go_ret
   obtain ⟨A,n,cp,he,hnn,hfw,hbw⟩:=HR.out.ret
   exact ⟨A,n,cp,he,hnn,hfw,below_two' HB1.out hbw⟩
  have hkI:(k:Int) < sn:=by omega
  obtain ⟨s,hs⟩:∃ s,x.sts[k]? = some s:=get_some (by rw [← HN.out]; exact hlt)
  have HBW:=Lib.hid (below_two' HB1.out HR.out.below)
  obtain ⟨bb,off,a3,n3,m3,a4,n4,m4,a5,n5,m5,rfl,hbw0,z0,z1,z2,z3,z4,z5,k3,k4,k5⟩:=(HST.out _ (Below.refl _ _)).at_ hs
  have d0:=(HBW.out.cell (p:=⟨bb,off + k * 6,none⟩) hbw0).trans z0
  have d1:=(HBW.out.cell (p:=⟨bb,off + k * 6 + 1,none⟩) hbw0).trans z1
  have d2:=(HBW.out.cell (p:=⟨bb,off + k * 6 + 2,none⟩) hbw0).trans z2
  have d3:=(HBW.out.cell (p:=⟨bb,off + k * 6 + 3,none⟩) hbw0).trans z3
  have d4:=(HBW.out.cell (p:=⟨bb,off + k * 6 + 4,none⟩) hbw0).trans z4
  have d5:=(HBW.out.cell (p:=⟨bb,off + k * 6 + 5,none⟩) hbw0).trans z5
  have hb:bb < wo.heap.size:=Nat.lt_of_lt_of_le hbw0 HBW.out.size
  clear z0 z1 z2 z3 z4 z5 hbw0
  have HFS:=Lib.hid (HF.out s (List.mem_of_getElem? hs))
  have HNX:=Lib.hid (ptTo_next (es:=x.evs) (vs:=vnC x) (ss:=snC x) (rule:=10) hs)
  obtain ⟨P,hP⟩:∃ P,P = ptTo x.evs (vnC x) (snC x) 10 x.sts k:=⟨_,rfl⟩
  have hPL:=HPL.out k
  rw [← hP] at hPL HR HNX
  obtain ⟨q3,hq3⟩:∃ q,q = actsR (vnC x) (snC x) false s.en:=⟨_,rfl⟩
  obtain ⟨q4,hq4⟩:∃ q,q = actsR (vnC x) (snC x) false s.ex:=⟨_,rfl⟩
  have hbe:brS x.evs (vnC x) (snC x) 10 s = [!q3,!q4]:=by rw [hq3,hq4]; rfl
  rw [hbe] at HNX
  have HA3:=Lib.hid (fun W (hW:Below w.heap.size w W) => HAC.out s (List.mem_of_getElem? hs) s.en (.inl rfl) a3 n3 m3 W hW (k3.keep hW))
  have HA4:=Lib.hid (fun W (hW:Below w.heap.size w W) => HAC.out s (List.mem_of_getElem? hs) s.ex (.inr rfl) a4 n4 m4 W hW (k4.keep hW))
  rw [← hq3] at HA3
  rw [← hq4] at HA4
  obtain ⟨sm,kd,pr,sen,sex,str⟩:=s
  simp only at d0 d1 d2
  obtain ⟨c0,c1,c2,c3⟩:=cells_4 (HK.out _ HR.out.below)
  have hws:w.heap.size < wo.heap.size:=(Array.getElem?_eq_some_iff.1 (HK.out _ HR.out.below)).1
  obtain ⟨O,hO⟩:∃ O:Obj,O = .cells #[.string sm,.int .i64 kd,.int .i64 pr,.slice a3 n3 m3,.slice a4 n4 m4,.slice a5 n5 m5] 72:=⟨_,rfl⟩
  have HO:=Lib.hid hO
  obtain ⟨W4,hW4⟩:∃ W4,wo.alloc O = W4:=⟨_,rfl⟩
  have HR4:Hid (BkIn W1 P wo.heap.size O u5 W4):=Lib.hid (by rw [← hW4]; exact bk_new HR.out O)
  have HCE:=Lib.hid (fun (L:List Fw) (v:Value) W (hW:BkIn W1 L wo.heap.size O v W) => cells_6 (show W.heap[wo.heap.size]? = some (.cells #[.string sm,.int .i64 kd,.int .i64 pr,.slice a3 n3 m3,.slice a4 n4 m4,.slice a5 n5 m5] 72) by rw [← hO]; exact hW.2.1))
  rw [hO] at hW4
  have HW4:=Lib.hid hW4
  have HL1:Hid (P.length + 1 ≤ maxLen):=Lib.hid (by unfold maxLen; omega)
  have HL2:Hid ((P.length + 1) * 24 ≤ 140737488355328):=Lib.hid (by omega)
  have HM1:Hid ((P ++ [(⟨10,k,0⟩:Fw)]).length + 1 ≤ maxLen):=Lib.hid (by rw [List.length_append]; simp [maxLen]; omega)
  have HM2:Hid (((P ++ [(⟨10,k,0⟩:Fw)]).length + 1) * 24 ≤ 140737488355328):=Lib.hid (by rw [List.length_append]; simp; omega)
  have hs:True:=trivial
  clear hs k3 k4 k5 hP hq3 hq4 hbe hO hW4
  go_wp2_with (rw [HW4.out]; go_at_call 58; go_fit (HA3.out _ (below_two' HB1.out HR4.out.1.below)))
  rintro e w5 ⟨rfl,hb5⟩
  have HR5:=Lib.hid (HR4.out.keep hb5)
  obtain ⟨x0,x1,x2,x3⟩:=cells_4 (HK.out _ HR5.out.1.below)
  obtain ⟨e0,e1,e2,e3,e4,e5⟩:=HCE.out _ _ _ HR5.out
  have HSZ:Hid (W1.heap.size ≤ w5.heap.size):=Lib.hid HR5.out.1.2.size
  clear hb5 c0 c1 c2 c3 d0 d1 d2 d3 d4 d5 hws hb
  cases q3 with
  | true =>
    go_wp2_with (go_at_call 58; go_fit (HA4.out _ (below_two' HB1.out HR5.out.1.below)))
    rintro e w7 ⟨rfl,hb7⟩
    have HR7:=Lib.hid (HR5.out.keep hb7)
    have HSZ:Hid (W1.heap.size ≤ w7.heap.size):=Lib.hid HR7.out.1.2.size
    clear hb7
    cases q4 with
    | true =>
      have HS:Hid (ptTo x.evs (vnC x) (snC x) 10 x.sts (k + 1) = P):=Lib.hid (by rw [HNX.out]; simp [flTo,oneF])
      go_wp2_with fail
      go_roundw
      case rel => exact ⟨k + 1,by omega,by simp,Lib.hid (by rw [HS.out]; exact HR7.out.1)⟩
      case measure => simp [intOf]; omega
    | false =>
      have HS:Hid (ptTo x.evs (vnC x) (snC x) 10 x.sts (k + 1) = P ++ [⟨10,k,1⟩]):=Lib.hid (by rw [HNX.out]; simp [flTo,oneF])
      go_wp2_with (at_builtin; refine wpList_append_rdk _ rfl (.tmp 69) (.tmp 73) _ rfl W1.heap.size 110 i0 (.agg #[.int .i64 0,.int .i64 0,.int .i64 0]) 3 24 Tryz.underlying79 HI.out.1 HI.out.2.1 HI.out.2.2.1 HI.out.2.2.2 rfl (by decide) _ _ _ rfl (HR7.out.1.1.alloc _) _ 1 (fwsV [⟨10,k,1⟩]) rfl (fw_lit rfl rfl) (fwsV_one _) HL1.out HL2.out ?_ ?_; (have:=HSZ.out; simp; omega); intro p8 w8 hrow2 hg2 hob; have HR8:=Lib.hid (BkIn.add HR7.out hrow2 hg2 hob); clear hrow2 hg2 hob)
      go_roundw
      case rel => exact ⟨k + 1,by omega,by simp,Lib.hid (by rw [HS.out]; exact HR8.out.1)⟩
      case measure => simp [intOf]; omega
  | false =>
    go_wp2_with (first | (at_builtin; refine wpList_append_rdk _ rfl (.tmp 58) (.tmp 62) _ rfl W1.heap.size 110 i0 (.agg #[.int .i64 0,.int .i64 0,.int .i64 0]) 3 24 Tryz.underlying79 HI.out.1 HI.out.2.1 HI.out.2.2.1 HI.out.2.2.2 rfl (by decide) _ _ _ rfl (HR5.out.1.1.alloc _) _ 1 (fwsV [⟨10,k,0⟩]) rfl (fw_lit rfl rfl) (fwsV_one _) HL1.out HL2.out ?_ ?_; (have:=HSZ.out; simp; omega); intro p6 w6 hrow2 hg2 hob; have HR6:=Lib.hid (BkIn.add HR5.out hrow2 hg2 hob); obtain ⟨y0,y1,y2,y3⟩:=cells_4 (HK.out _ HR6.out.1.below); obtain ⟨v0,v1,v2,v3,v4,v5⟩:=HCE.out _ _ _ HR6.out; clear hrow2 hg2 hob) | (go_at_call 58; go_fit (HA4.out _ (below_two' HB1.out HR6.out.1.below))))
    rintro e w7 ⟨rfl,hb7⟩
    have HR7:=Lib.hid (HR6.out.keep hb7)
    have HSZ:Hid (W1.heap.size ≤ w7.heap.size):=Lib.hid HR7.out.1.2.size
    clear hb7
    cases q4 with
    | true =>
      have HS:Hid (ptTo x.evs (vnC x) (snC x) 10 x.sts (k + 1) = P ++ [⟨10,k,0⟩]):=Lib.hid (by rw [HNX.out]; simp [flTo,oneF])
      go_wp2_with fail
      go_roundw
      case rel => exact ⟨k + 1,by omega,by simp,Lib.hid (by rw [HS.out]; exact HR7.out.1)⟩
      case measure => simp [intOf]; omega
    | false =>
      have HS:Hid (ptTo x.evs (vnC x) (snC x) 10 x.sts (k + 1) = (P ++ [⟨10,k,0⟩]) ++ [⟨10,k,1⟩]):=Lib.hid (by rw [HNX.out]; simp [flTo,oneF])
      go_wp2_with (at_builtin; refine wpList_append_rdk _ rfl (.tmp 69) (.tmp 73) _ rfl W1.heap.size 110 i0 (.agg #[.int .i64 0,.int .i64 0,.int .i64 0]) 3 24 Tryz.underlying79 HI.out.1 HI.out.2.1 HI.out.2.2.1 HI.out.2.2.2 rfl (by decide) _ _ _ rfl (HR7.out.1.1.alloc _) _ 1 (fwsV [⟨10,k,1⟩]) rfl (fw_lit rfl rfl) (fwsV_one _) HM1.out HM2.out ?_ ?_; (have:=HSZ.out; simp; omega); intro p8 w8 hrow2 hg2 hob; have HR8:=Lib.hid (BkIn.add HR7.out hrow2 hg2 hob); clear hrow2 hg2 hob)
      go_roundw
      case rel => exact ⟨k + 1,by omega,by simp,Lib.hid (by rw [HS.out]; exact HR8.out.1)⟩
      case measure => simp [intOf]; omega
end
end Go.Proofs.YtapnomdckglehaaGreat
namespace Go.Proofs.YtapnomdckglehaaGreat
open Go.RowKit TermSpec Go.BigFrame
set_option maxRecDepth 100000
def TmGRel (W:World) (l m:List Tm) (n:Nat) (v:Value) (w:World):Prop:=∃ k:Nat,k ≤ n ∧ v = .int .i64 k ∧ l.take k = m.take k ∧ Below W.heap.size W w
theorem tm_ne {t u:Tm} (h:t ≠ u):t.op ≠ u.op ∨ (t.op = u.op ∧ t.n ≠ u.n) ∨ (t.op = u.op ∧ t.n = u.n ∧ t.s ≠ u.s):=by
 obtain ⟨a,b,c⟩:=t
 obtain ⟨d,e,f⟩:=u
 simp only
 by_cases h1:a = d
 ·by_cases h2:b = e
  ·exact .inr (.inr ⟨h1,h2,fun h3 => h (by rw [h1,h2,h3])⟩)
  ·exact .inr (.inl ⟨h1,h2⟩)
 ·exact .inl h1
theorem list_ne {α:Type} {l m:List α} {k:Nat} {t u:α} (h1:l[k]? = some t) (h2:m[k]? = some u) (h:t ≠ u):l ≠ m:=fun e => h (by rw [e,h2] at h1; cases h1; rfl)
theorem take_same {α:Type} {l m:List α} {k:Nat} {t:α} (h:l.take k = m.take k) (h1:l[k]? = some t) (h2:m[k]? = some t):l.take (k + 1) = m.take (k + 1):=by rw [take_next h1,take_next h2,h]
theorem bne_bytes {x y:ByteArray} (h:x ≠ y):(x.toList == y.toList) = false:=(Lib.bytes_beq_false_iff x y).2 h
set_option maxHeartbeats 2000000 in
theorem tmsame_dec (A1 A2:Option Addr) (n1 n2 c1 c2:Nat) (l m:List Tm) (b:Bool) (hb:b = true ↔ l = m) (w:World) (h1:Tms w (.slice A1 n1 c1) l) (h2:Tms w (.slice A2 n2 c2) m) (hn1:n1 = l.length) (hn2:n2 = m.length) (hm:n1 ≤ 9223372036854775806) :
 Calls Tryz.prog 84 #[.slice A1 n1 c1,.slice A2 n2 c2] w (RetB w b):=by
 by_cases hnm:n1 = n2
 ·subst hnm
  have HT:=Lib.hid (And.intro h1 h2)
  have HN:=Lib.hid hn1
  have HM:=Lib.hid hn2
  have HBB:=Lib.hid hb
  clear h1 h2 hn1 hn2 hb
  go_enter Tryz.func84,Tryz.ntmps84
  go_wp2_with fail
  go_loopw [5] (fun v wr => TmGRel w l m n1 v wr) (fun v _ => n1 - (intOf v).toNat)
  case atStart => exact ⟨0,Nat.zero_le _,rfl,rfl,Below.refl _ _⟩
  case round =>
   obtain ⟨k,hk,rfl,htk,hbw⟩:=hrel
   by_cases hlt:k < n1
   ·obtain ⟨t,ht⟩:∃ t,l[k]? = some t:=get_some (by rw [← HN.out]; exact hlt)
    obtain ⟨u,hu⟩:∃ u,m[k]? = some u:=get_some (by rw [← HM.out]; exact hlt)
    obtain ⟨b1,off1,rfl,hb1,x0,x1,x2⟩:=(HT.out.1.keep hbw).at_ ht
    obtain ⟨b2,off2,rfl,hb2,y0,y1,y2⟩:=(HT.out.2.keep hbw).at_ hu
    have hltI:(k:Int) < (n1:Int):=by omega
    have HW:=Lib.hid hbw
    have HTK:=Lib.hid htk
    clear hbw htk
    by_cases htu:t = u
    ·subst htu
     have HNX:=Lib.hid (take_same HTK.out ht hu)
     obtain ⟨o,nn,s⟩:=t
     simp only at x0 x1 x2 y0 y1 y2
     clear ht hu
     go_wp2_with fail
     go_big_quiet (fail)
     go_wp2_with fail
     go_roundw
     case rel => exact ⟨k + 1,hlt,by simp,HNX.out,below_drewN HW.out _⟩
     case measure => simp [intOf]; omega
    ·have HST:Hid (b = false):=Lib.hid (by
      have:=list_ne ht hu htu
      rcases b with _ | _
      ·rfl
      ·exact absurd (HBB.out.1 rfl) this)
     have hne:=tm_ne htu
     obtain ⟨o,nn,s⟩:=t
     obtain ⟨o',nn',s'⟩:=u
     simp only at x0 x1 x2 y0 y1 y2 hne
     clear ht hu htu
     rcases hne with hne | ⟨rfl,hne⟩ | ⟨rfl,rfl,hne⟩
     ·have g:(o == o') = false:=by simpa using hne
      clear hne
      go_wp2_with fail
      go_big_quiet (fail)
      go_wp2_with fail
      go_ret
      exact ⟨ret_bool HST.out.symm,below_drewN HW.out _⟩
     ·have g:(nn == nn') = false:=by simpa using hne
      clear hne
      go_wp2_with fail
      go_big_quiet (fail)
      go_wp2_with fail
      go_ret
      exact ⟨ret_bool HST.out.symm,below_drewN HW.out _⟩
     ·have g:=bne_bytes hne
      clear hne
      go_wp2_with fail
      go_big_quiet (fail)
      go_wp2_with fail
      go_ret
      exact ⟨ret_bool HST.out.symm,below_drewN HW.out _⟩
   ·have HE:Hid (b = true):=Lib.hid (HBB.out.2 (by
     have h1:=HN.out
     have h2:=HM.out
     rwa [List.take_of_length_le (by omega),List.take_of_length_le (by omega)] at htk))
    have hltI:¬ (k:Int) < (n1:Int):=by omega
    go_wp2_with fail
    go_ret
    exact ⟨ret_bool HE.out.symm,hbw⟩
 ·have HE:Hid (b = false):=Lib.hid (by
   rcases b with _ | _
   ·rfl
   ·exact absurd (by rw [hn1,hn2,hb.1 rfl]) hnm)
  have g:((n1:Int) != (n2:Int)) = true:=by simp; omega
  have g':((n1:Int) == (n2:Int)) = false:=by simp; omega
  clear h1 h2 hn1 hn2 hb
  go_enter Tryz.func84,Tryz.ntmps84
  go_wp2_with fail
  go_ret
  exact ⟨ret_bool HE.out.symm,Below.refl _ _⟩
end Go.Proofs.YtapnomdckglehaaGreat
namespace Go.Proofs.YtapnomdckglehaaGreat
open Go.RowKit Go.Sort TermSpec EvalSpec ActSpec NamesSpec Go.BigFrame
set_option maxRecDepth 100000
def AcGRel (W:World) (l m:List Ac) (n:Nat) (v:Value) (w:World):Prop:=∃ k:Nat,k ≤ n ∧ v = .int .i64 k ∧ l.take k = m.take k ∧ Below W.heap.size W w
theorem ac_ne {t u:Ac} (h:t ≠ u):t.s ≠ u.s ∨ (t.s = u.s ∧ t.any ≠ u.any) ∨ (t.s = u.s ∧ t.any = u.any ∧ t.x ≠ u.x):=by
 obtain ⟨a,b,c⟩:=t
 obtain ⟨d,e,f⟩:=u
 simp only
 by_cases h1:a = d
 ·by_cases h2:b = e
  ·exact .inr (.inr ⟨h1,h2,fun h3 => h (by rw [h1,h2,h3])⟩)
  ·exact .inr (.inl ⟨h1,h2⟩)
 ·exact .inl h1
set_option maxHeartbeats 2000000 in
theorem rsame_dec (A1 A2:Option Addr) (n1 n2 c1 c2:Nat) (l m:List Ac) (b:Bool) (hb:b = true ↔ l = m) (w:World) (h1:Acs w (.slice A1 n1 c1) l) (h2:Acs w (.slice A2 n2 c2) m) (hm:n1 ≤ 4398046511104) (hfew:∀ a ∈ l,a.x.length ≤ 4398046511104) :
 Calls Tryz.prog 60 #[.slice A1 n1 c1,.slice A2 n2 c2] w (RetB w b):=by
 have hn1:=h1.len.1
 have hn2:=h2.len.1
 have hc1:=h1.len.2
 have hc2:=h2.len.2
 by_cases hnm:n1 = n2
 ·subst hnm
  have HT:=Lib.hid (And.intro h1 h2)
  have HN:=Lib.hid hn1
  have HM:=Lib.hid hn2
  have HBB:=Lib.hid hb
  have HF:=Lib.hid hfew
  clear h1 h2 hn1 hn2 hb hfew
  go_enter Tryz.func60,Tryz.ntmps60
  go_wp2_with fail
  go_loopw [5] (fun v wr => AcGRel w l m n1 v wr) (fun v _ => n1 - (intOf v).toNat)
  case atStart => exact ⟨0,Nat.zero_le _,rfl,rfl,Below.refl _ _⟩
  case round =>
   obtain ⟨k,hk,rfl,htk,hbw⟩:=hrel
   by_cases hlt:k < n1
   ·obtain ⟨t,ht⟩:∃ t,l[k]? = some t:=get_some (by rw [← HN.out]; exact hlt)
    obtain ⟨u,hu⟩:∃ u,m[k]? = some u:=get_some (by rw [← HM.out]; exact hlt)
    have hx:=HF.out t (List.mem_of_getElem? ht)
    obtain ⟨b1,o1,xA,xn,xc,rfl,hb1,ht1,p0,p1,p2⟩:=(HT.out.1.keep hbw).at_ ht
    obtain ⟨b2,o2,yA,yn,yc,rfl,hb2,ht2,q0,q1,q2⟩:=(HT.out.2.keep hbw).at_ hu
    obtain ⟨_,_,_,heq,hxn,_⟩:=ht1.shape
    cases heq
    obtain ⟨_,_,_,heq,hyn,_⟩:=ht2.shape
    cases heq
    obtain ⟨r,hr⟩:∃ r:Bool,r = true ↔ t.x = u.x:=by
     by_cases h:t.x = u.x
     ·exact ⟨true,by simp [h]⟩
     ·exact ⟨false,by simp [h]⟩
    have HS:Hid (∀ d os,Calls Tryz.prog 84 #[.slice xA xn xc,.slice yA yn yc] (grow (redrawn wr d) os) fun e w'' => e = .returned (.bool r) ∧ ∃ p:Regrown,w'' = grow (redrawn wr p.d) p.os):=Lib.hid (fun d os => Calls.regrown_of (tmsame_dec xA yA xn yn xc yc t.x u.x r hr (grow (redrawn wr d) os) (ht1.keep (below_regrown wr d os)) (ht2.keep (below_regrown wr d os)) hxn hyn (by omega)))
    have hltI:(k:Int) < (n1:Int):=by omega
    have hkI:(k:Int) ≤ 4398046511104:=by omega
    have HW:=Lib.hid hbw
    have HTK:=Lib.hid htk
    clear hbw htk ht1 ht2 hxn hyn hx
    by_cases htu:t = u
    ·subst htu
     have HNX:=Lib.hid (take_same HTK.out ht hu)
     obtain rfl:r = true:=hr.2 rfl
     obtain ⟨s,any,x⟩:=t
     simp only at p0 p1 q0 q1 HS
     have rp0:=cell_regrown p0
     have rp1:=cell_regrown p1
     have rp2:=cell_regrown p2
     have rq0:=cell_regrown q0
     have rq1:=cell_regrown q1
     have rq2:=cell_regrown q2
     clear ht hu p0 p1 p2 q0 q1 q2 hr
     go_wp2_with fail
     refine wp_region_quiet_below (by kernel_rfl) (by kernel_rfl) ?_
     repeat (go_big_quiet_step (exact HS.out _ _))
     refine wpQuiet_nil ?_
     intro _ hw'
     obtain ⟨⟨dq,osq⟩,hw''⟩:=hw'
     subst hw''
     simp only
     have HBQ:=Lib.hid (below_two' HW.out (below_regrown wr dq osq))
     clear rp0 rp1 rp2 rq0 rq1 rq2
     go_wp2_with fail
     go_roundw
     case rel => exact ⟨k + 1,hlt,by go_num,HNX.out,HBQ.out⟩
     case measure => simp [intOf]; omega
    ·have HST:Hid (b = false):=Lib.hid (by
      have:=list_ne ht hu htu
      rcases b with _ | _
      ·rfl
      ·exact absurd (HBB.out.1 rfl) this)
     have hne:=ac_ne htu
     have rp0:=cell_regrown p0
     have rp1:=cell_regrown p1
     have rp2:=cell_regrown p2
     have rq0:=cell_regrown q0
     have rq1:=cell_regrown q1
     have rq2:=cell_regrown q2
     obtain ⟨s,any,x⟩:=t
     obtain ⟨s',any',x'⟩:=u
     simp only at rp0 rp1 rq0 rq1 hne hr
     clear ht hu htu p0 p1 p2 q0 q1 q2
     rcases hne with hne | ⟨rfl,hne⟩ | ⟨rfl,rfl,hne⟩
     ·have g:=bne_bytes hne
      clear hne hr
      go_wp2_with fail
      refine wp_region_quiet_below (by kernel_rfl) (by kernel_rfl) ?_
      repeat (go_big_quiet_step (exact HS.out _ _))
      refine wpQuiet_nil ?_
      intro _ hw'
      obtain ⟨⟨dq,osq⟩,hw''⟩:=hw'
      subst hw''
      simp only
      have HBQ:=Lib.hid (below_two' HW.out (below_regrown wr dq osq))
      clear rp0 rp1 rp2 rq0 rq1 rq2
      go_wp2_with fail
      go_ret
      exact ⟨ret_bool HST.out.symm,HBQ.out⟩
     ·have g:(any == any') = false:=by simpa using hne
      clear hne hr
      go_wp2_with fail
      refine wp_region_quiet_below (by kernel_rfl) (by kernel_rfl) ?_
      repeat (go_big_quiet_step (exact HS.out _ _))
      refine wpQuiet_nil ?_
      intro _ hw'
      obtain ⟨⟨dq,osq⟩,hw''⟩:=hw'
      subst hw''
      simp only
      have HBQ:=Lib.hid (below_two' HW.out (below_regrown wr dq osq))
      clear rp0 rp1 rp2 rq0 rq1 rq2
      go_wp2_with fail
      go_ret
      exact ⟨ret_bool HST.out.symm,HBQ.out⟩
     ·obtain rfl:r = false:=by
       rcases r with _ | _
       ·rfl
       ·exact absurd (hr.1 rfl) hne
      clear hne hr
      go_wp2_with fail
      refine wp_region_quiet_below (by kernel_rfl) (by kernel_rfl) ?_
      repeat (go_big_quiet_step (exact HS.out _ _))
      refine wpQuiet_nil ?_
      intro _ hw'
      obtain ⟨⟨dq,osq⟩,hw''⟩:=hw'
      subst hw''
      simp only
      have HBQ:=Lib.hid (below_two' HW.out (below_regrown wr dq osq))
      clear rp0 rp1 rp2 rq0 rq1 rq2
      go_wp2_with fail
      go_ret
      exact ⟨ret_bool HST.out.symm,HBQ.out⟩
   ·have HE:Hid (b = true):=Lib.hid (HBB.out.2 (by
     have h1:=HN.out
     have h2:=HM.out
     rwa [List.take_of_length_le (by omega),List.take_of_length_le (by omega)] at htk))
    have hltI:¬ (k:Int) < (n1:Int):=by omega
    go_wp2_with fail
    go_ret
    exact ⟨ret_bool HE.out.symm,hbw⟩
 ·have HE:Hid (b = false):=Lib.hid (by
   rcases b with _ | _
   ·rfl
   ·exact absurd (by rw [hn1,hn2,hb.1 rfl]) hnm)
  have g:((n1:Int) != (n2:Int)) = true:=by simp; omega
  have g':((n1:Int) == (n2:Int)) = false:=by simp; omega
  clear h1 h2 hn1 hn2 hb hfew
  go_enter Tryz.func60,Tryz.ntmps60
  go_wp2_with fail
  go_ret
  exact ⟨ret_bool HE.out.symm,Below.refl _ _⟩
end Go.Proofs.YtapnomdckglehaaGreat
namespace Go.Proofs.YtapnomdckglehaaGreat
open Go.RowKit Go.Sort TermSpec EvalSpec ActSpec NamesSpec Go.BigFrame
set_option maxRecDepth 100000
theorem some_bool (p:Prop):∃ q:Bool,q = true ↔ p:=by
 by_cases h:p
 ·exact ⟨true,by simp [h]⟩
 ·exact ⟨false,by simp [h]⟩
end Go.Proofs.YtapnomdckglehaaGreat