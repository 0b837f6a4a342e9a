/- RulesRefE, PrintBridge, RulesRefF, joined. -/
import Derived.Test.YtckojimeglkobaaGreatDoorMConfFills32
import Derived.Test.YtckojimeglkobaaGreatDoorMConfFills27
import Derived.Test.YtckojimeglkobaaGreatDoorMConfFills12
import Derived.Test.YtckojimeglkobaaGreatDoorMConfFills24
namespace Go.Proofs.YtckojimeglkobaaGreatDoor
open Go.RowKit Go.Sort TermSpec NamesSpec EvalSpec ActSpec TransSpec SynSpec RulesSpec PrintSpec Go.BigFrame
open ShapeSpec (Sh kids)
set_option maxRecDepth 100000
def BoRel (W1:World) (F:Nat → List Fw) (n:Nat) (p i:Value) (wr:World):Prop:=∃ k:Nat,k ≤ n ∧ i = .int .i64 k ∧ Hid (RowF W1 wr p (F k))
def BnRel (W1:World) (P:List Fw) (r:Int) (i g n:Nat) (O:Obj) (bs:List Bool) (p v:Value) (wr:World):Prop:=∃ j:Nat,j ≤ n ∧ v = .int .i64 j ∧ Hid (BkIn W1 (P ++ flTo r i bs j) g O p wr)
section
variable (x:Cx) (eA:Option Addr) (en ec:Nat) (vA:Option Addr) (vn vc:Nat) (sA:Option Addr) (sn sc:Nat) (w:World) (h:ChIn w (.slice eA en ec) (.slice vA vn vc) (.slice sA sn sc) x) (hf:FewR x)
include h hf
set_option maxRecDepth 100000 in
set_option maxHeartbeats 16000000 in
theorem rbk_trans (rule:Int) (hr:rule = 6 ∨ rule = 7 ∨ rule = 8 ∨ rule = 9)
 (htr:∀ s ∈ x.sts,∀ t ∈ s.tr,∀ (gA:Option Addr) (gn gc:Nat) (aA:Option Addr) (an ac:Nat) (W:World),Below w.heap.size w W → TrIn W gA gn gc aA an ac t → Calls Tryz.prog 58 #[.agg #[.string x.s,.slice eA en ec,.slice vA vn vc,.slice sA sn sc],.int .i64 rule,.agg #[.string t.ev,.slice gA gn gc,.slice aA an ac,.string t.tg]] W (RetB W (!brT x.evs (vnC x) (snC x) rule t))) :
 Calls Tryz.prog 28 #[.agg #[.string x.s,.slice eA en ec,.slice vA vn vc,.slice sA sn sc],.int .i64 rule] w (RetFw w (ptTo x.evs (vnC x) (snC x) rule x.sts x.sts.length)):=by
 have hn:=h.sts.len.1
 have hcap:=h.sts.len.2
 have hsn:sn ≤ 1000:=by have:=hf.stl; omega
 have HST:=Lib.hid (fun W (hW:Below w.heap.size w W) => h.sts.keep hW)
 have HF:=Lib.hid hf.sts
 have HPL:=Lib.hid (fun (k:Nat) => ptTo_length (es:=x.evs) (vs:=vnC x) (ss:=snC x) (rule:=rule) (l:=x.sts) (fun s hs => (hf.sts s hs).2.2) k)
 have HN:=Lib.hid hn
 rw [← hn]
 have HTR:=Lib.hid htr
 obtain ⟨nm,hnm⟩:∃ nm,nm = x.s:=⟨_,rfl⟩
 rw [← hnm]
 obtain ⟨W1,hW1⟩:∃ W1,w.alloc (.cells #[.string nm,.slice eA en ec,.slice vA vn vc,.slice sA sn sc] 26) = W1:=⟨_,rfl⟩
 have hb1:Below w.heap.size w W1:=by rw [← hW1]; exact KitC.below_one _ _
 have hk1:W1.heap[w.heap.size]? = some (.cells #[.string nm,.slice eA en ec,.slice vA vn vc,.slice sA sn sc] 26):=by rw [← hW1]; exact heap_alloc_new _ _
 have HW1:=Lib.hid hW1
 have HB1:=Lib.hid hb1
 have HK:=Lib.hid (fun W (hW:Below W1.heap.size W1 W) => KitC.block_on hk1 hW)
 obtain ⟨i0,hi,hz0,hz1,hz2⟩:=info_parts inf_flaw
 have HI:=Lib.hid (And.intro hi (And.intro hz0 (And.intro hz1 hz2)))
 obtain ⟨W2,hW2⟩:∃ W2,W1.alloc (.cells #[] 118) = W2:=⟨_,rfl⟩
 have HW2:=Lib.hid hW2
 have hsz1:w.heap.size + 1 = W1.heap.size:=by rw [← hW1]; simp
 have HST0:Hid (RowF W1 W2 (.slice (some ⟨w.heap.size + 1,0,none⟩) 0 0) []):=Lib.hid (by
  rw [hsz1,← hW2]
  exact ⟨World.ownsRow_lit W1 #[] 0 (Nat.le_refl _) (Nat.zero_le _) rfl,KitC.below_one _ _⟩)
 rw [← hnm] at HTR
 have g1:(rule == 1) = false:=by simp; omega
 have g2:(rule == 2) = false:=by simp; omega
 have g3:(rule == 3) = false:=by simp; omega
 have g5:decide (rule ≤ 5) = false:=by simp; omega
 have g10:(rule == 10) = false:=by simp; omega
 have HNE:Hid (rule ≠ 10):=Lib.hid (by omega)
 have hfb:=fw_three
 clear h hf hn htr hr hnm hb1 hk1 hi hz0 hz1 hz2 hW1 hW2 hsz1
 go_enter Tryz.func28,Tryz.ntmps28
 go_wp2_with fail
 rw [HW1.out,HW2.out]
 go_loopw [5,7] (fun p i wr => BoRel W1 (ptTo x.evs (vnC x) (snC x) rule x.sts) sn p i wr) (fun _ i _ => sn - (intOf i).toNat)
 case atStart => exact ⟨0,Nat.zero_le _,rfl,HST0⟩
 case round =>
  obtain ⟨k,hk,rfl,HR⟩:=hrel
  obtain ⟨wo,rfl⟩:∃ wo:World,wo = wr:=⟨_,rfl⟩
  by_cases hlt:k < sn
  case neg =>
   obtain rfl:k = sn:=by omega
   have hlt':¬ (k:Int) < k:=by omega
   go_wp2_with fail
   go_ret
   obtain ⟨A,n,cp,he,hnn,hfw,hbw⟩:=HR.out.ret
   exact ⟨A,n,cp,he,hnn,hfw,below_two' HB1.out hbw⟩
  have hkI:(k:Int) < sn:=by omega
  obtain ⟨s,hs⟩:∃ s,x.sts[k]? = some s:=get_some (by rw [← HN.out]; exact hlt)
  have HBW:=Lib.hid (below_two' HB1.out HR.out.below)
  obtain ⟨bb,off,a3,n3,m3,a4,n4,m4,a5,n5,m5,rfl,hbw0,z0,z1,z2,z3,z4,z5,k3,k4,k5⟩:=(HST.out _ (Below.refl _ _)).at_ hs
  have d0:=(HBW.out.cell (p:=⟨bb,off + k * 6,none⟩) hbw0).trans z0
  have d1:=(HBW.out.cell (p:=⟨bb,off + k * 6 + 1,none⟩) hbw0).trans z1
  have d2:=(HBW.out.cell (p:=⟨bb,off + k * 6 + 2,none⟩) hbw0).trans z2
  have d3:=(HBW.out.cell (p:=⟨bb,off + k * 6 + 3,none⟩) hbw0).trans z3
  have d4:=(HBW.out.cell (p:=⟨bb,off + k * 6 + 4,none⟩) hbw0).trans z4
  have d5:=(HBW.out.cell (p:=⟨bb,off + k * 6 + 5,none⟩) hbw0).trans z5
  have hb:bb < wo.heap.size:=Nat.lt_of_lt_of_le hbw0 HBW.out.size
  clear z0 z1 z2 z3 z4 z5 hbw0
  have HFS:=Lib.hid (HF.out s (List.mem_of_getElem? hs))
  have HNX:=Lib.hid (ptTo_next (es:=x.evs) (vs:=vnC x) (ss:=snC x) (rule:=rule) hs)
  obtain ⟨P,hP⟩:∃ P,P = ptTo x.evs (vnC x) (snC x) rule x.sts k:=⟨_,rfl⟩
  have hPL:=HPL.out k
  rw [← hP] at hPL HR HNX
  have hbe:brS x.evs (vnC x) (snC x) rule s = s.tr.map (brT x.evs (vnC x) (snC x) rule):=by unfold brS; exact if_neg HNE.out
  obtain ⟨bs,hbs⟩:∃ bs,bs = brS x.evs (vnC x) (snC x) rule s:=⟨_,rfl⟩
  rw [← hbs] at HNX hbe
  have hn5:=k5.len.1
  have hm5:=k5.len.2
  have hbl:bs.length = n5:=by rw [hbe,List.length_map,hn5]
  have hn100:n5 ≤ 100:=by rw [hn5]; exact HFS.out.2.2
  have HBL:=Lib.hid hbl
  have HBG:=Lib.hid (fun j t (ht:s.tr[j]? = some t) => (show bs[j]? = some (brT x.evs (vnC x) (snC x) rule t) by rw [hbe,List.getElem?_map,ht]; rfl))
  have HK5:=Lib.hid (fun W (hW:Below w.heap.size w W) => k5.keep hW)
  have HTRS:=Lib.hid (HTR.out s (List.mem_of_getElem? hs))
  have HN5:=Lib.hid hn5
  obtain ⟨sm,kd,pr,sen,sex,str⟩:=s
  simp only at d0 d1 d2 HBG HK5 HTRS HN5
  obtain ⟨c0,c1,c2,c3⟩:=cells_4 (HK.out _ HR.out.below)
  have hws:w.heap.size < wo.heap.size:=(Array.getElem?_eq_some_iff.1 (HK.out _ HR.out.below)).1
  obtain ⟨O,hO⟩:∃ O:Obj,O = .cells #[.string sm,.int .i64 kd,.int .i64 pr,.slice a3 n3 m3,.slice a4 n4 m4,.slice a5 n5 m5] 58:=⟨_,rfl⟩
  have HO:=Lib.hid hO
  obtain ⟨W4,hW4⟩:∃ W4,wo.alloc O = W4:=⟨_,rfl⟩
  have HR4:Hid (BkIn W1 P wo.heap.size O u5 W4):=Lib.hid (by rw [← hW4]; exact bk_new HR.out O)
  rw [hO] at hW4
  have HW4:=Lib.hid hW4
  clear hs k3 k4 k5 hP hbs hbe hn5 hbl hO hW4
  go_wp2_with fail
  rw [HW4.out]
  clear c0 c1 c2 c3 d0 d1 d2 d3 d4 d5 hws hb
  go_loopw [5,9] (fun p i wr => BnRel W1 P rule k wo.heap.size n5 O bs p i wr) (fun _ i _ => n5 - (intOf i).toNat)
  case atStart => exact ⟨0,Nat.zero_le _,rfl,Lib.hid (by show BkIn _ (P ++ []) _ _ _ _; rw [List.append_nil]; exact HR4.out)⟩
  case round =>
   obtain ⟨j,hj,rfl,HL⟩:=hrel
   have HB:=Lib.hid (show wr.heap[wo.heap.size]? = some (.cells #[.string sm,.int .i64 kd,.int .i64 pr,.slice a3 n3 m3,.slice a4 n4 m4,.slice a5 n5 m5] 58) by rw [← HO.out]; exact HL.out.2.1)
   obtain ⟨e0,e1,e2,e3,e4,e5⟩:=cells_6 HB.out
   by_cases hlj:j < n5
   case neg =>
    obtain rfl:j = n5:=by omega
    have HE:=Lib.hid HL.out.1
    rw [← HBL.out,← HNX.out] at HE
    have hlj':¬ (j:Int) < j:=by omega
    go_wp2_with fail
    go_roundw
    case rel => exact ⟨k + 1,by omega,by simp,HE⟩
    case measure => simp [intOf]; omega
   have hjI:(j:Int) < n5:=by omega
   have hmI:(j:Int) < m5:=by omega
   have HBWI:=Lib.hid (below_two' HB1.out HL.out.1.below)
   obtain ⟨t,ht⟩:∃ t,str[j]? = some t:=get_some (by rw [← HN5.out]; exact hlj)
   obtain ⟨b5,o5,gA,gn,gc,aA,an,ac,rfl,hb5,t0,t1,t2,t3,htin⟩:=(HK5.out _ HBWI.out).at_ ht
   have HQ:=Lib.hid (HBG.out j t ht)
   have HC1:=Lib.hid (fun W (hW:Below wr.heap.size wr W) => HTRS.out t (List.mem_of_getElem? ht) gA gn gc aA an ac W (below_two' HBWI.out hW) (htin.keep hW))
   obtain ⟨q,hq⟩:∃ q,q = brT x.evs (vnC x) (snC x) rule t:=⟨_,rfl⟩
   rw [← hq] at HQ HC1
   obtain ⟨ev,gd,ta,tg⟩:=t
   simp only at t0 t1 t2 t3 HC1
   have HC2:Hid (∀ d os,Calls Tryz.prog 58 #[.agg #[.string nm,.slice eA en ec,.slice vA vn vc,.slice (some ⟨bb,off,none⟩) sn sc],.int .i64 rule,.agg #[.string ev,.slice gA gn gc,.slice aA an ac,.string tg]] (grow (redrawn wr d) os) fun e w'' => e = .returned (.bool (!q)) ∧ ∃ p:Regrown,w'' = grow (redrawn wr p.d) p.os) :=
    Lib.hid (fun d os => Calls.regrown_of (HC1.out _ (below_regrown wr d os)))
   obtain ⟨c0,c1,c2,c3⟩:=cells_4 (HK.out _ HL.out.1.below)
   have r0:=cell_regrown c0; have r1:=cell_regrown c1; have r2:=cell_regrown c2; have r3:=cell_regrown c3; have r5:=cell_regrown e5
   have q0:=cell_regrown t0; have q1:=cell_regrown t1; have q2:=cell_regrown t2; have q3:=cell_regrown t3
   clear ht htin hq HC1
   cases q with
   | false =>
     have HS:=Lib.hid (flTo_no (rule:=rule) (i:=k) HQ.out)
     go_wp2_with fail
     refine wp_region_quiet_below (by kernel_rfl) (by kernel_rfl) ?_
     repeat (go_big_quiet_step (with_reducible exact HC2.out _ _))
     refine wpQuiet_nil ?_
     intro _ hw'
     obtain ⟨⟨dq,osq⟩,hw''⟩:=hw'
     subst hw''
     simp only
     have HL3:=Lib.hid (HL.out.keep (below_regrown wr dq osq))
     go_wp2_with fail
     go_roundw
     case rel => exact ⟨j + 1,hlj,by simp,Lib.hid (by rw [HS.out]; exact HL3.out)⟩
     case measure => simp [intOf]; omega
   | true =>
     have HS:=Lib.hid (show P ++ flTo rule k bs (j + 1) = (P ++ flTo rule k bs j) ++ [⟨rule,k,j⟩] by rw [flTo_yes HQ.out,List.append_assoc])
     have hll:=flTo_length rule k bs j
     have HL1:Hid ((P ++ flTo rule k bs j).length + 1 ≤ maxLen):=Lib.hid (by rw [List.length_append]; unfold maxLen; omega)
     have HL2:Hid (((P ++ flTo rule k bs j).length + 1) * 24 ≤ 140737488355328):=Lib.hid (by rw [List.length_append]; omega)
     clear hll
     go_wp2_with fail
     refine wp_region_quiet_below (by kernel_rfl) (by kernel_rfl) ?_
     repeat (go_big_quiet_step (with_reducible exact HC2.out _ _))
     refine wpQuiet_nil ?_
     intro _ hw'
     obtain ⟨⟨dq,osq⟩,hw''⟩:=hw'
     subst hw''
     simp only
     have HL3:=Lib.hid (HL.out.keep (below_regrown wr dq osq))
     obtain ⟨WQ,hWQ⟩:∃ WQ,grow (redrawn wr dq) osq = WQ:=⟨_,rfl⟩
     rw [hWQ] at HL3 ⊢
     have HSZ:Hid (W1.heap.size ≤ WQ.heap.size):=Lib.hid HL3.out.1.2.size
     clear hWQ c0 c1 c2 c3 r0 r1 r2 r3 r5 q0 q1 q2 q3 t0 t1 t2 t3 e0 e1 e2 e3 e4 e5
     go_wp2_with (at_builtin; refine wpList_append_rdk _ rfl (.tmp 91) (.tmp 96) _ rfl W1.heap.size 118 i0 (.agg #[.int .i64 0,.int .i64 0,.int .i64 0]) 3 24 Tryz.underlying80 HI.out.1 HI.out.2.1 HI.out.2.2.1 HI.out.2.2.2 rfl (by decide) _ _ _ rfl (HL3.out.1.1.alloc _) _ 1 (fwsV [⟨rule,k,j⟩]) rfl (fw_lit rfl rfl) (fwsV_one _) HL1.out HL2.out ?_ ?_; (have:=HSZ.out; simp; omega); intro p9 w9 hrow2 hg2 hob; have HR9:=Lib.hid (BkIn.add HL3.out hrow2 hg2 hob); clear hrow2 hg2 hob)
     go_roundw
     case rel => exact ⟨j + 1,hlj,by simp,Lib.hid (by rw [HS.out]; exact HR9.out)⟩
     case measure => simp [intOf]; omega
set_option maxRecDepth 100000 in
set_option maxHeartbeats 16000000 in
theorem rbk_ten (hac:∀ s ∈ x.sts,∀ (l:List Ac),l = s.en ∨ l = s.ex → ∀ (A:Option Addr) (n c:Nat) (W:World),Below w.heap.size w W → Acs W (.slice A n c) l → Calls Tryz.prog 57 #[.agg #[.string x.s,.slice eA en ec,.slice vA vn vc,.slice sA sn sc],.slice A n c,.bool false] W (RetB W (actsR (vnC x) (snC x) false l))) :
 Calls Tryz.prog 28 #[.agg #[.string x.s,.slice eA en ec,.slice vA vn vc,.slice sA sn sc],.int .i64 10] w (RetFw w (ptTo x.evs (vnC x) (snC x) 10 x.sts x.sts.length)):=by
 have hn:=h.sts.len.1
 have hcap:=h.sts.len.2
 have hsn:sn ≤ 1000:=by have:=hf.stl; omega
 have HST:=Lib.hid (fun W (hW:Below w.heap.size w W) => h.sts.keep hW)
 have HF:=Lib.hid hf.sts
 have HPL:=Lib.hid (fun (k:Nat) => ptTo_length (es:=x.evs) (vs:=vnC x) (ss:=snC x) (rule:=10) (l:=x.sts) (fun s hs => (hf.sts s hs).2.2) k)
 have HN:=Lib.hid hn
 rw [← hn]
 have HAC:=Lib.hid hac
 obtain ⟨nm,hnm⟩:∃ nm,nm = x.s:=⟨_,rfl⟩
 rw [← hnm]
 obtain ⟨W1,hW1⟩:∃ W1,w.alloc (.cells #[.string nm,.slice eA en ec,.slice vA vn vc,.slice sA sn sc] 26) = W1:=⟨_,rfl⟩
 have hb1:Below w.heap.size w W1:=by rw [← hW1]; exact KitC.below_one _ _
 have hk1:W1.heap[w.heap.size]? = some (.cells #[.string nm,.slice eA en ec,.slice vA vn vc,.slice sA sn sc] 26):=by rw [← hW1]; exact heap_alloc_new _ _
 have HW1:=Lib.hid hW1
 have HB1:=Lib.hid hb1
 have HK:=Lib.hid (fun W (hW:Below W1.heap.size W1 W) => KitC.block_on hk1 hW)
 obtain ⟨i0,hi,hz0,hz1,hz2⟩:=info_parts inf_flaw
 have HI:=Lib.hid (And.intro hi (And.intro hz0 (And.intro hz1 hz2)))
 obtain ⟨W2,hW2⟩:∃ W2,W1.alloc (.cells #[] 118) = W2:=⟨_,rfl⟩
 have HW2:=Lib.hid hW2
 have hsz1:w.heap.size + 1 = W1.heap.size:=by rw [← hW1]; simp
 have HST0:Hid (RowF W1 W2 (.slice (some ⟨w.heap.size + 1,0,none⟩) 0 0) []):=Lib.hid (by
  rw [hsz1,← hW2]
  exact ⟨World.ownsRow_lit W1 #[] 0 (Nat.le_refl _) (Nat.zero_le _) rfl,KitC.below_one _ _⟩)
 rw [← hnm] at HAC
 have hf2:=fw_two
 have hf3:=fw_three
 clear h hf hn hac hnm hb1 hk1 hi hz0 hz1 hz2 hW1 hW2 hsz1
 go_enter Tryz.func28,Tryz.ntmps28
 go_wp2_with fail
 rw [HW1.out,HW2.out]
 go_loopw [5,7] (fun p i wr => BoRel W1 (ptTo x.evs (vnC x) (snC x) 10 x.sts) sn p i wr) (fun _ i _ => sn - (intOf i).toNat)
 case atStart => exact ⟨0,Nat.zero_le _,rfl,HST0⟩
 case round =>
  obtain ⟨k,hk,rfl,HR⟩:=hrel
  obtain ⟨wo,rfl⟩:∃ wo:World,wo = wr:=⟨_,rfl⟩
  by_cases hlt:k < sn
  case neg =>
   obtain rfl:k = sn:=by omega
   have hlt':¬ (k:Int) < k:=by omega
   go_wp2_with fail
   go_ret
   obtain ⟨A,n,cp,he,hnn,hfw,hbw⟩:=HR.out.ret
   exact ⟨A,n,cp,he,hnn,hfw,below_two' HB1.out hbw⟩
  have hkI:(k:Int) < sn:=by omega
  obtain ⟨s,hs⟩:∃ s,x.sts[k]? = some s:=get_some (by rw [← HN.out]; exact hlt)
  have HBW:=Lib.hid (below_two' HB1.out HR.out.below)
  obtain ⟨bb,off,a3,n3,m3,a4,n4,m4,a5,n5,m5,rfl,hbw0,z0,z1,z2,z3,z4,z5,k3,k4,k5⟩:=(HST.out _ (Below.refl _ _)).at_ hs
  have d0:=(HBW.out.cell (p:=⟨bb,off + k * 6,none⟩) hbw0).trans z0
  have d1:=(HBW.out.cell (p:=⟨bb,off + k * 6 + 1,none⟩) hbw0).trans z1
  have d2:=(HBW.out.cell (p:=⟨bb,off + k * 6 + 2,none⟩) hbw0).trans z2
  have d3:=(HBW.out.cell (p:=⟨bb,off + k * 6 + 3,none⟩) hbw0).trans z3
  have d4:=(HBW.out.cell (p:=⟨bb,off + k * 6 + 4,none⟩) hbw0).trans z4
  have d5:=(HBW.out.cell (p:=⟨bb,off + k * 6 + 5,none⟩) hbw0).trans z5
  have hb:bb < wo.heap.size:=Nat.lt_of_lt_of_le hbw0 HBW.out.size
  clear z0 z1 z2 z3 z4 z5 hbw0
  have HFS:=Lib.hid (HF.out s (List.mem_of_getElem? hs))
  have HNX:=Lib.hid (ptTo_next (es:=x.evs) (vs:=vnC x) (ss:=snC x) (rule:=10) hs)
  obtain ⟨P,hP⟩:∃ P,P = ptTo x.evs (vnC x) (snC x) 10 x.sts k:=⟨_,rfl⟩
  have hPL:=HPL.out k
  rw [← hP] at hPL HR HNX
  obtain ⟨q3,hq3⟩:∃ q,q = actsR (vnC x) (snC x) false s.en:=⟨_,rfl⟩
  obtain ⟨q4,hq4⟩:∃ q,q = actsR (vnC x) (snC x) false s.ex:=⟨_,rfl⟩
  have hbe:brS x.evs (vnC x) (snC x) 10 s = [!q3,!q4]:=by rw [hq3,hq4]; rfl
  rw [hbe] at HNX
  have HA3:=Lib.hid (fun W (hW:Below w.heap.size w W) => HAC.out s (List.mem_of_getElem? hs) s.en (.inl rfl) a3 n3 m3 W hW (k3.keep hW))
  have HA4:=Lib.hid (fun W (hW:Below w.heap.size w W) => HAC.out s (List.mem_of_getElem? hs) s.ex (.inr rfl) a4 n4 m4 W hW (k4.keep hW))
  rw [← hq3] at HA3
  rw [← hq4] at HA4
  obtain ⟨sm,kd,pr,sen,sex,str⟩:=s
  simp only at d0 d1 d2
  obtain ⟨c0,c1,c2,c3⟩:=cells_4 (HK.out _ HR.out.below)
  have hws:w.heap.size < wo.heap.size:=(Array.getElem?_eq_some_iff.1 (HK.out _ HR.out.below)).1
  obtain ⟨O,hO⟩:∃ O:Obj,O = .cells #[.string sm,.int .i64 kd,.int .i64 pr,.slice a3 n3 m3,.slice a4 n4 m4,.slice a5 n5 m5] 58:=⟨_,rfl⟩
  have HO:=Lib.hid hO
  obtain ⟨W4,hW4⟩:∃ W4,wo.alloc O = W4:=⟨_,rfl⟩
  have HR4:Hid (BkIn W1 P wo.heap.size O u5 W4):=Lib.hid (by rw [← hW4]; exact bk_new HR.out O)
  have HCE:=Lib.hid (fun (L:List Fw) (v:Value) W (hW:BkIn W1 L wo.heap.size O v W) => cells_6 (show W.heap[wo.heap.size]? = some (.cells #[.string sm,.int .i64 kd,.int .i64 pr,.slice a3 n3 m3,.slice a4 n4 m4,.slice a5 n5 m5] 58) by rw [← hO]; exact hW.2.1))
  rw [hO] at hW4
  have HW4:=Lib.hid hW4
  have HL1:Hid (P.length + 1 ≤ maxLen):=Lib.hid (by unfold maxLen; omega)
  have HL2:Hid ((P.length + 1) * 24 ≤ 140737488355328):=Lib.hid (by omega)
  have HM1:Hid ((P ++ [(⟨10,k,0⟩:Fw)]).length + 1 ≤ maxLen):=Lib.hid (by rw [List.length_append]; simp [maxLen]; omega)
  have HM2:Hid (((P ++ [(⟨10,k,0⟩:Fw)]).length + 1) * 24 ≤ 140737488355328):=Lib.hid (by rw [List.length_append]; simp; omega)
  have hs:True:=trivial
  clear hs k3 k4 k5 hP hq3 hq4 hbe hO hW4
  go_wp2_with (rw [HW4.out]; go_at_call 57; go_fit (HA3.out _ (below_two' HB1.out HR4.out.1.below)))
  rintro e w5 ⟨rfl,hb5⟩
  have HR5:=Lib.hid (HR4.out.keep hb5)
  obtain ⟨x0,x1,x2,x3⟩:=cells_4 (HK.out _ HR5.out.1.below)
  obtain ⟨e0,e1,e2,e3,e4,e5⟩:=HCE.out _ _ _ HR5.out
  have HSZ:Hid (W1.heap.size ≤ w5.heap.size):=Lib.hid HR5.out.1.2.size
  clear hb5 c0 c1 c2 c3 d0 d1 d2 d3 d4 d5 hws hb
  cases q3 with
  | true =>
    go_wp2_with (go_at_call 57; go_fit (HA4.out _ (below_two' HB1.out HR5.out.1.below)))
    rintro e w7 ⟨rfl,hb7⟩
    have HR7:=Lib.hid (HR5.out.keep hb7)
    have HSZ:Hid (W1.heap.size ≤ w7.heap.size):=Lib.hid HR7.out.1.2.size
    clear hb7
    cases q4 with
    | true =>
      have HS:Hid (ptTo x.evs (vnC x) (snC x) 10 x.sts (k + 1) = P):=Lib.hid (by rw [HNX.out]; simp [flTo,oneF])
      go_wp2_with fail
      go_roundw
      case rel => exact ⟨k + 1,by omega,by simp,Lib.hid (by rw [HS.out]; exact HR7.out.1)⟩
      case measure => simp [intOf]; omega
    | false =>
      have HS:Hid (ptTo x.evs (vnC x) (snC x) 10 x.sts (k + 1) = P ++ [⟨10,k,1⟩]):=Lib.hid (by rw [HNX.out]; simp [flTo,oneF])
      go_wp2_with (at_builtin; refine wpList_append_rdk _ rfl (.tmp 69) (.tmp 73) _ rfl W1.heap.size 118 i0 (.agg #[.int .i64 0,.int .i64 0,.int .i64 0]) 3 24 Tryz.underlying80 HI.out.1 HI.out.2.1 HI.out.2.2.1 HI.out.2.2.2 rfl (by decide) _ _ _ rfl (HR7.out.1.1.alloc _) _ 1 (fwsV [⟨10,k,1⟩]) rfl (fw_lit rfl rfl) (fwsV_one _) HL1.out HL2.out ?_ ?_; (have:=HSZ.out; simp; omega); intro p8 w8 hrow2 hg2 hob; have HR8:=Lib.hid (BkIn.add HR7.out hrow2 hg2 hob); clear hrow2 hg2 hob)
      go_roundw
      case rel => exact ⟨k + 1,by omega,by simp,Lib.hid (by rw [HS.out]; exact HR8.out.1)⟩
      case measure => simp [intOf]; omega
  | false =>
    go_wp2_with (first | (at_builtin; refine wpList_append_rdk _ rfl (.tmp 58) (.tmp 62) _ rfl W1.heap.size 118 i0 (.agg #[.int .i64 0,.int .i64 0,.int .i64 0]) 3 24 Tryz.underlying80 HI.out.1 HI.out.2.1 HI.out.2.2.1 HI.out.2.2.2 rfl (by decide) _ _ _ rfl (HR5.out.1.1.alloc _) _ 1 (fwsV [⟨10,k,0⟩]) rfl (fw_lit rfl rfl) (fwsV_one _) HL1.out HL2.out ?_ ?_; (have:=HSZ.out; simp; omega); intro p6 w6 hrow2 hg2 hob; have HR6:=Lib.hid (BkIn.add HR5.out hrow2 hg2 hob); obtain ⟨y0,y1,y2,y3⟩:=cells_4 (HK.out _ HR6.out.1.below); obtain ⟨v0,v1,v2,v3,v4,v5⟩:=HCE.out _ _ _ HR6.out; clear hrow2 hg2 hob) | (go_at_call 57; go_fit (HA4.out _ (below_two' HB1.out HR6.out.1.below))))
    rintro e w7 ⟨rfl,hb7⟩
    have HR7:=Lib.hid (HR6.out.keep hb7)
    have HSZ:Hid (W1.heap.size ≤ w7.heap.size):=Lib.hid HR7.out.1.2.size
    clear hb7
    cases q4 with
    | true =>
      have HS:Hid (ptTo x.evs (vnC x) (snC x) 10 x.sts (k + 1) = P ++ [⟨10,k,0⟩]):=Lib.hid (by rw [HNX.out]; simp [flTo,oneF])
      go_wp2_with fail
      go_roundw
      case rel => exact ⟨k + 1,by omega,by simp,Lib.hid (by rw [HS.out]; exact HR7.out.1)⟩
      case measure => simp [intOf]; omega
    | false =>
      have HS:Hid (ptTo x.evs (vnC x) (snC x) 10 x.sts (k + 1) = (P ++ [⟨10,k,0⟩]) ++ [⟨10,k,1⟩]):=Lib.hid (by rw [HNX.out]; simp [flTo,oneF])
      go_wp2_with (at_builtin; refine wpList_append_rdk _ rfl (.tmp 69) (.tmp 73) _ rfl W1.heap.size 118 i0 (.agg #[.int .i64 0,.int .i64 0,.int .i64 0]) 3 24 Tryz.underlying80 HI.out.1 HI.out.2.1 HI.out.2.2.1 HI.out.2.2.2 rfl (by decide) _ _ _ rfl (HR7.out.1.1.alloc _) _ 1 (fwsV [⟨10,k,1⟩]) rfl (fw_lit rfl rfl) (fwsV_one _) HM1.out HM2.out ?_ ?_; (have:=HSZ.out; simp; omega); intro p8 w8 hrow2 hg2 hob; have HR8:=Lib.hid (BkIn.add HR7.out hrow2 hg2 hob); clear hrow2 hg2 hob)
      go_roundw
      case rel => exact ⟨k + 1,by omega,by simp,Lib.hid (by rw [HS.out]; exact HR8.out.1)⟩
      case measure => simp [intOf]; omega
end
end Go.Proofs.YtckojimeglkobaaGreatDoor
namespace Go.Proofs.YtckojimeglkobaaGreatDoor
open Go.RowKit TermSpec EvalSpec ActSpec NamesSpec ExprSpec TransSpec SynSpec PrintSpec
theorem le_sum {α:Type} (f:α → Nat) {l:List α} {a:α} (h:a ∈ l):f a ≤ (l.map f).sum:=by
 induction l with
 | nil => cases h
 | cons b l ih =>
   rw [List.map_cons,List.sum_cons]
   rcases List.mem_cons.1 h with rfl | h
   ·omega
   ·have:=ih h
    omega
theorem termsW_few {l:List Tm} (h:termsW l < 1000):termsW l = l.length ∧ l.length ≤ 45:=by
 by_cases h1:45 < l.length
 ·rw [termsW_many h1] at h; omega
 ·refine ⟨?_,by omega⟩
  unfold termsW at h ⊢
  rw [if_neg h1] at h ⊢
  split at h
  ·omega
  ·rename_i h2
   rw [if_neg h2]
theorem actW_few {a:Ac} (h:actW a < 1000):actW a = 1 + a.x.length ∧ a.x.length ≤ 45:=by
 unfold actW at h ⊢
 have h1:¬ 100 < a.s.size:=by
  intro h1
  rw [if_pos h1] at h
  omega
 rw [if_neg h1] at h ⊢
 have:=termsW_few (l:=a.x) (by omega)
 omega
structure LightC (x:Cx):Prop where
 evl:x.evs.length ≤ 30
 val:x.vars.length ≤ 10
 stl:x.sts.length ≤ 65
 enl:∀ s ∈ x.sts,s.en.length ≤ 10 ∧ s.ex.length ≤ 10 ∧ s.tr.length ≤ 20
 ac:∀ s ∈ x.sts,(∀ a ∈ s.en,actW a = 1 + a.x.length ∧ a.x.length ≤ 45) ∧ (∀ a ∈ s.ex,actW a = 1 + a.x.length ∧ a.x.length ≤ 45) ∧ ∀ t ∈ s.tr,t.acts.length ≤ 10 ∧ (∀ a ∈ t.acts,actW a = 1 + a.x.length ∧ a.x.length ≤ 45) ∧ termsW t.g = t.g.length ∧ t.g.length ≤ 45
 w:wCx x.sts ≤ 160
theorem chart_light {x:Cx} (h:lightC x = true):LightC x:=by
 unfold lightC at h
 simp only [Bool.and_eq_true,decide_eq_true_eq,Bool.not_eq_true',List.all_eq_true] at h
 obtain ⟨h1,h2,h3,h4,h5,h6,h7⟩:=h
 have hst:∀ s ∈ x.sts,wSt s ≤ 160:=fun s hs => Nat.le_trans (le_sum wSt hs) h7
 have hok:∀ s ∈ x.sts,(s.s.size ≤ 100 ∧ s.tr.length ≤ 20 ∧ s.en.length ≤ 10 ∧ s.ex.length ≤ 10) ∧ ∀ t ∈ s.tr,t.ev.size ≤ 100 ∧ t.tg.size ≤ 100 ∧ t.acts.length ≤ 10:=fun s hs => by
  have:=h6 s hs
  unfold stL okLS at this
  simp only [Bool.and_eq_true,decide_eq_true_eq,List.all_eq_true] at this
  refine ⟨this.1,fun t ht => ?_⟩
  have:=this.2 t ht
  unfold okLT at this
  simpa only [Bool.and_eq_true,decide_eq_true_eq] using this
 refine ⟨?_,h3,h4,fun s hs => ⟨(hok s hs).1.2.2.1,(hok s hs).1.2.2.2,(hok s hs).1.2.1⟩,fun s hs => ?_,h7⟩
 ·unfold manyB at h2
  simp only [Bool.or_eq_false_iff,decide_eq_false_iff_not] at h2
  omega
 ·have hw:=hst s hs
  unfold wSt weighA at hw
  refine ⟨fun a ha => actW_few ?_,fun a ha => actW_few ?_,fun t ht => ?_⟩
  ·have:=le_sum actW ha; omega
  ·have:=le_sum actW ha; omega
  ·have h8:=le_sum wTr ht
   unfold wTr weighA at h8
   refine ⟨((hok s hs).2 t ht).2.2,fun a ha => actW_few ?_,termsW_few ?_⟩
   ·have:=le_sum actW ha
    unfold wTr weighA at hw
    omega
   ·unfold wTr weighA at hw
    omega
theorem chart_fit {x:Cx} (h:LightC x) (f:FitC x):FitM x:=by
 refine ⟨f.s,f.evs,f.vars,by have:=h.stl; omega,fun s hs => ?_⟩
 obtain ⟨a1,a2,a3⟩:=h.ac s hs
 obtain ⟨b1,b2,b3⟩:=h.enl s hs
 obtain ⟨f1,f2,f3,f4⟩:=f.sts s hs
 refine ⟨f1,fun a ha => ⟨(f2 a ha).1,(f2 a ha).2,by have:=(a1 a ha).2; omega⟩,by omega,fun a ha => ⟨(f3 a ha).1,(f3 a ha).2,by have:=(a2 a ha).2; omega⟩,by omega,by omega,fun t ht => ?_⟩
 obtain ⟨g1,g2,g3,g4⟩:=f4 t ht
 exact ⟨g1,g2,g3,by have:=(a3 t ht).2.2.2; omega,fun a ha => ⟨(g4 a ha).1,(g4 a ha).2,by have:=((a3 t ht).2.1 a ha).2; omega⟩,by have:=(a3 t ht).1; omega⟩
end Go.Proofs.YtckojimeglkobaaGreatDoor
namespace Go.Proofs.YtckojimeglkobaaGreatDoor
open Go.RowKit Go.Sort TermSpec NamesSpec EvalSpec ActSpec TransSpec SynSpec RulesSpec PrintSpec
open ShapeSpec (Sh kids)
set_option maxRecDepth 100000
theorem acts_whole {l:List Ac} (h:chkA l = 0):∀ a ∈ l,a.any = false → wholeB a.x = true:=by
 intro a ha hn
 have h1:=firstA_all (chkA_ok h).2 a ha
 unfold oneA at h1
 split at h1
 ·cases h1
 ·first
  | exact (chk_ok h1).1
  | (rw [if_pos hn] at h1; exact (chk_ok h1).1)
theorem trans_whole {t:Tr} (h:chkT t = 0):(¬ t.g.length = 0 → wholeB t.g = true) ∧ chkA t.acts = 0:=by
 unfold chkT at h
 split at h
 ·cases h
 ·split at h
  ·rename_i h1
   exact absurd h h1.2
  ·rename_i h1
   refine ⟨fun hg => ?_,h⟩
   by_cases hc:chk t.g = 0
   ·exact (chk_ok hc).1
   ·exact absurd ⟨hg,hc⟩ h1
theorem mayR_of {x:Cx} (h:mayC x = true):MayR x ∧ ShapeSpec.chk (x.sts.map shOf) = 0:=by
 unfold mayC at h
 simp only [Bool.and_eq_true,decide_eq_true_eq,List.all_eq_true] at h
 obtain ⟨-,-,-,hc,-,hv,hs⟩:=h
 refine ⟨⟨fun v hv' => ?_,fun s hs' => ?_,fun s hs' => ?_⟩,hc⟩
 ·have:=hv v hv'
  unfold okV smallV at this
  simp only [Bool.and_eq_true,decide_eq_true_eq] at this
  omega
 ·obtain ⟨k,hk⟩:=List.mem_iff_getElem?.1 hs'
  have hkl:=get_lt hk
  have hg:=ShapeSpec.chk_su hc k (by rw [List.length_map]; exact hkl)
  unfold ShapeSpec.goodB at hg
  rw [ShapeSpec.kind_at (s:=shOf s) (by rw [List.getElem?_map,hk]; rfl)] at hg
  simp only [Bool.and_eq_true,decide_eq_true_eq] at hg
  exact hg.1
 ·have:=hs s hs'
  unfold okS at this
  simp only [Bool.and_eq_true,decide_eq_true_eq,List.all_eq_true] at this
  obtain ⟨-,h1,h2,-,h3⟩:=this
  exact ⟨acts_whole h1,acts_whole h2,fun t ht => ⟨(trans_whole (h3 t ht)).1,acts_whole (trans_whole (h3 t ht)).2⟩⟩
theorem fewR_of {x:Cx} (h:LightC x) (f:FitC x) (hv:∀ v ∈ x.vars,VFit v):FewR x:=by
 refine ⟨f.evs,by have:=h.evl; omega,fun v hv' => ⟨f.vars v hv',hv v hv'⟩,by have:=h.val; omega,fun s hs => ?_,by have:=h.stl; omega⟩
 obtain ⟨a1,a2,a3⟩:=h.ac s hs
 obtain ⟨b1,b2,b3⟩:=h.enl s hs
 obtain ⟨f1,f2,f3,f4⟩:=f.sts s hs
 refine ⟨f1,⟨fun a ha => ⟨(f2 a ha).1,(f2 a ha).2,by have:=(a1 a ha).2; omega⟩,by omega,fun a ha => ⟨(f3 a ha).1,(f3 a ha).2,by have:=(a2 a ha).2; omega⟩,by omega,fun t ht => ?_,by omega⟩,by omega⟩
 obtain ⟨g1,g2,g3,g4⟩:=f4 t ht
 exact ⟨g1,g2,g3,by have:=(a3 t ht).2.2.2; omega,fun a ha => ⟨(g4 a ha).1,(g4 a ha).2,by have:=((a3 t ht).2.1 a ha).2; omega⟩,by have:=(a3 t ht).1; omega⟩
section
variable (x:Cx) (eA:Option Addr) (en ec:Nat) (vA:Option Addr) (vn vc:Nat) (sA:Option Addr) (sn sc:Nat) (w:World) (h:ChIn w (.slice eA en ec) (.slice vA vn vc) (.slice sA sn sc) x) (hf:FewR x) (hm:MayR x)
include h hf hm
theorem rbk_any (rule:Int) (h1:1 ≤ rule) (h2:rule ≤ 10):Calls Tryz.prog 28 #[.agg #[.string x.s,.slice eA en ec,.slice vA vn vc,.slice sA sn sc],.int .i64 rule] w (RetFw w (brk x rule)):=by
 have hvn:=h.vars.len.1
 have hsn:=h.sts.len.1
 obtain ⟨_,_,_,heq,hen,-,-⟩:=Rd.strs h.evs
 cases heq
 have e1:=hf.evl; have e2:=hf.val; have e3:=hf.stl
 by_cases k1:rule = 1
 ·subst k1
  rw [show brk x 1 = itemsF 1 (plTo (twinB x.evs) en) by rw [← hen,← twins_pl]; rfl]
  exact rbk_items x eA en ec vA vn vc sA sn sc w 1 en (twinB x.evs) (.inl ⟨rfl,rfl⟩) (by omega) fun i hi W hW => ritem_1 x eA en ec vA vn vc sA sn sc W (h.keep hW) i hi (by omega)
 by_cases k2:rule = 2
 ·subst k2
  rw [show brk x 2 = itemsF 2 (plTo (twinB (vnC x)) vn) by rw [show vn = (vnC x).length by unfold vnC; rw [List.length_map,hvn],← twins_pl]; rfl]
  exact rbk_items x eA en ec vA vn vc sA sn sc w 2 vn (twinB (vnC x)) (.inr (.inl ⟨rfl,rfl⟩)) (by omega) fun i hi W hW => ritem_2 x eA en ec vA vn vc sA sn sc W (h.keep hW) i hi (by omega)
 by_cases k3:rule = 3
 ·subst k3
  rw [show brk x 3 = itemsF 3 (plTo (illB x.vars) vn) by rw [hvn]; rfl]
  exact rbk_items x eA en ec vA vn vc sA sn sc w 3 vn (illB x.vars) (.inr (.inr (.inl ⟨rfl,rfl⟩))) (by omega) fun i hi W hW => ritem_3 x eA en ec vA vn vc sA sn sc W (h.keep hW) i hi (by omega) hm.vars
 by_cases k4:rule = 4
 ·subst k4
  rw [show brk x 4 = itemsF 4 (plTo (twinB (snC x)) sn) by rw [show sn = (snC x).length by unfold snC; rw [List.length_map,hsn],← twins_pl]; rfl]
  exact rbk_items x eA en ec vA vn vc sA sn sc w 4 sn (twinB (snC x)) (.inr (.inr (.inr (.inl ⟨rfl,rfl⟩)))) (by omega) fun i hi W hW => ritem_4 x eA en ec vA vn vc sA sn sc W (h.keep hW) i hi (by omega)
 by_cases k5:rule = 5
 ·subst k5
  rw [show brk x 5 = itemsF 5 (plTo (loneB (x.sts.map shOf)) sn) by rw [hsn]; rfl]
  exact rbk_items x eA en ec vA vn vc sA sn sc w 5 sn (loneB (x.sts.map shOf)) (.inr (.inr (.inr (.inr ⟨rfl,rfl⟩)))) (by omega) fun i hi W hW => ritem_5 x eA en ec vA vn vc sA sn sc W (h.keep hW) i hi (by omega) hm.kind
 rw [show brk x rule = ptTo x.evs (vnC x) (snC x) rule x.sts x.sts.length by unfold brk; rw [if_neg k1,if_neg k2,if_neg k3,if_neg k4,if_neg k5]]
 by_cases k10:rule = 10
 ·subst k10
  refine rbk_ten x eA en ec vA vn vc sA sn sc w h hf fun s hs l hl A n c W hW hT => ?_
  obtain ⟨m1,m2,m3⟩:=hm.acts s hs
  obtain ⟨f1,f2,f3⟩:=hf.sts s hs
  rcases hl with rfl | rfl
  ·exact racts14_any x eA en ec vA vn vc sA sn sc W (h.keep hW) (by omega) (by omega) A n c s.en false hT m1 f2.en (by have:=hT.len.1; have:=f2.enl; omega)
  ·exact racts14_any x eA en ec vA vn vc sA sn sc W (h.keep hW) (by omega) (by omega) A n c s.ex false hT m2 f2.ex (by have:=hT.len.1; have:=f2.exl; omega)
 ·refine rbk_trans x eA en ec vA vn vc sA sn sc w h hf rule (by omega) fun s hs t ht gA gn gc aA an ac W hW hT => ?_
  obtain ⟨m1,m2,m3⟩:=hm.acts s hs
  obtain ⟨f1,f2,f3⟩:=hf.sts s hs
  exact rtrans14_any x eA en ec vA vn vc sA sn sc W (h.keep hW) (by omega) (by omega) t gA gn gc aA an ac hT (f2.tr t ht) (by omega) (m3 t ht).1 (m3 t ht).2 rule (by omega)
end
end Go.Proofs.YtckojimeglkobaaGreatDoor