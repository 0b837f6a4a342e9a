/- SoundOf, AtlasNew, ConfNames, AtlasRows, ConfDone, joined. -/
import Derived.Test.YtckojimeglkobaaGreatDoorMConfFills20
import Derived.Test.YtckojimeglkobaaGreatDoorMConfFills24
import Derived.Test.YtckojimeglkobaaGreatDoorMConfFills29
import Derived.Test.YtckojimeglkobaaGreatDoorMConfFills33
import Derived.Test.YtckojimeglkobaaGreatDoorMConfFills19
import Derived.Test.YtckojimeglkobaaGreatDoorMConfFills15
namespace Go.Proofs.YtckojimeglkobaaGreatDoor
open Go.RowKit TermSpec NamesSpec EvalSpec ActSpec TransSpec SynSpec RulesSpec PrintSpec SoundSpec
set_option maxRecDepth 100000
theorem RowF.addL {W wr w2:World} {p p':Value} {xs ys:List Fw} (h:RowF W wr p xs) (hrow:w2.ownsRow W.heap.size 118 3 p' (xs.length + ys.length) (fwsV xs ++ fwsV ys)) (hg:wr.grownBy w2 p.ownBlock):RowF W w2 p' (xs ++ ys):=by
 refine ⟨?_,h.2.grown hg h.2.size (fun j hj => (own_block_bd h.1 j hj).1)⟩
 rw [← fwsV_append,List.length_append]
 exact hrow
theorem brk_few15 {x:Cx} (hf:FewR x) (r:Int):(brk x r).length ≤ 1000000:=by
 have h1:=hf.evl; have h2:=hf.val; have h3:=hf.stl
 unfold brk
 split
 ·rw [itemsF_length]; exact Nat.le_trans (twinsTo_length _ _) (by omega)
 split
 ·rw [itemsF_length]; exact Nat.le_trans (twinsTo_length _ _) (by unfold vnC; rw [List.length_map]; omega)
 split
 ·rw [itemsF_length]; exact Nat.le_trans (plTo_length _ _) (by omega)
 split
 ·rw [itemsF_length]; exact Nat.le_trans (twinsTo_length _ _) (by unfold snC; rw [List.length_map]; omega)
 split
 ·rw [itemsF_length]; exact Nat.le_trans (plTo_length _ _) (by omega)
 exact Nat.le_trans (ptTo_length (fun s hs => (hf.sts s hs).2.2) _) (by omega)
def RetOf (W:World) (l:List Fw) (er:Int) (e:Ending) (w':World):Prop:=∃ A n c,e = .returned (.tuple #[.slice A n c,.int .i64 er]) ∧ n = l.length ∧ Fws w' (.slice A n c) l ∧ Below W.heap.size W w'
theorem RowF.retOf {W wr:World} {p:Value} {xs:List Fw} (h:RowF W wr p xs):RetOf W xs 0 (.returned (.tuple #[p,.int .i64 0])) wr:=by
 obtain ⟨A,n,c,rfl,hn⟩:=h.fws.shape
 exact ⟨A,n,c,rfl,hn,h.fws,h.2⟩
def SoRel (W1:World) (F:Nat → List Fw) (p i:Value) (wr:World):Prop:=∃ k:Nat,k ≤ 10 ∧ i = .int .i64 ((k:Int) + 1) ∧ Hid (RowF W1 wr p (F k))
def ofF (x:Cx):List Fw:=if mayC x = true then flawsC x else []
def ofE (x:Cx):Int:=if mayC x = true then 0 else 1
section
variable (x:Cx) (eA:Option Addr) (en ec:Nat) (vA:Option Addr) (vn vc:Nat) (sA:Option Addr) (sn sc:Nat) (w:World) (h:ChIn w (.slice eA en ec) (.slice vA vn vc) (.slice sA sn sc) x) (hm:FitM x) (hf:FewR x)
include h hm hf
set_option maxRecDepth 100000 in
set_option maxHeartbeats 8000000 in
theorem sof_any:Calls Tryz.prog 44 #[.agg #[.string x.s,.slice eA en ec,.slice vA vn vc,.slice sA sn sc]] w (RetOf w (ofF x) (ofE x)):=by
 obtain ⟨hvn,-⟩:=h.vars.len
 obtain ⟨_,_,_,heq,hen,-,-⟩:=Rd.strs h.evs
 cases heq
 have e1:=hf.evl; have e2:=hf.val
 have HCK:=Lib.hid (fun W (hW:Below w.heap.size w W) => pcheck_any x eA en ec vA vn vc sA sn sc W (h.keep hW) hm (by omega) (by omega))
 have HBR:=Lib.hid (fun (hc:mayC x = true) (r:Int) W (hW:Below w.heap.size w W) => rbroken_any x eA en ec vA vn vc sA sn sc W (h.keep hW) hf (mayR_of hc).2 r)
 have HBL:Hid (∀ k,(allTo x k).length ≤ k * 1000000):=Lib.hid (fun k => allTo_length (n:=1000000) (fun r => brk_few15 hf r) k)
 have HBF:Hid (∀ r,(brk x r).length ≤ 1000000):=Lib.hid (fun r => brk_few15 hf r)
 obtain ⟨i0,hi,hz0,hz1,hz2⟩:=info_parts inf_flaw
 have HI:=Lib.hid (And.intro hi (And.intro hz0 (And.intro hz1 hz2)))
 obtain ⟨nm,hnm⟩:∃ nm,nm = x.s:=⟨_,rfl⟩
 rw [← hnm] at HCK HBR ⊢
 obtain ⟨W1,hW1⟩:∃ W1,w.alloc (.cells #[.string nm,.slice eA en ec,.slice vA vn vc,.slice sA sn sc] 26) = W1:=⟨_,rfl⟩
 have hb1:Below w.heap.size w W1:=by rw [← hW1]; exact KitC.below_one _ _
 have hk1:W1.heap[w.heap.size]? = some (.cells #[.string nm,.slice eA en ec,.slice vA vn vc,.slice sA sn sc] 26):=by rw [← hW1]; exact heap_alloc_new _ _
 have HK:=Lib.hid (fun W (hW:Below W1.heap.size W1 W) => KitC.block_on hk1 hW)
 have HW1:=Lib.hid hW1
 have HB1:=Lib.hid hb1
 obtain ⟨c0,c1,c2,c3⟩:=cells_4 hk1
 cases hmc:mayC x with
 | false =>
   rw [hmc] at HCK
   have HE:Hid (ofF x = [] ∧ ofE x = 1):=Lib.hid ⟨by unfold ofF; rw [hmc]; rfl,by unfold ofE; rw [hmc]; rfl⟩
   rw [HE.out.1,HE.out.2]
   clear h hm hf hvn hen e1 e2 hnm hW1 hb1 hk1 hmc HBR HBL HBF hi hz0 hz1 hz2
   go_enter Tryz.func44,Tryz.ntmps44
   go_wp2_with (rw [HW1.out]; go_at_call 68; go_fit (HCK.out _ HB1.out))
   rintro e w2 ⟨rfl,hb⟩
   have HB2:=Lib.hid (below_two' HB1.out hb)
   clear hb c0 c1 c2 c3
   go_wp2_with fail
   go_ret2
   exact ⟨none,0,0,rfl,rfl,Rdk.nil 3 _,HB2.out⟩
 | true =>
   rw [hmc] at HCK
   have HE:Hid (ofF x = flawsC x ∧ ofE x = 0):=Lib.hid ⟨by unfold ofF; rw [hmc]; rfl,by unfold ofE; rw [hmc]; rfl⟩
   rw [HE.out.1,HE.out.2]
   have HBR:=Lib.hid (HBR.out hmc)
   obtain ⟨F,hF⟩:∃ F:Nat → List Fw,F = allTo x:=⟨_,rfl⟩
   obtain ⟨B,hB⟩:∃ B:Int → List Fw,B = brk x:=⟨_,rfl⟩
   have HNX:Hid (∀ k:Nat,F (k + 1) = F k ++ B ((k:Int) + 1)):=Lib.hid (fun k => by rw [hF,hB]; rfl)
   have HF0:Hid (F 0 = []):=Lib.hid (by rw [hF]; rfl)
   rw [show flawsC x = F 10 by rw [hF]; rfl]
   rw [← hF] at HBL
   rw [← hB] at HBR HBF
   clear h hm hf hvn hen e1 e2 hnm hW1 hb1 hk1 hmc hF hB hi hz0 hz1 hz2
   go_enter Tryz.func44,Tryz.ntmps44
   go_wp2_with (rw [HW1.out]; go_at_call 68; go_fit (HCK.out _ HB1.out))
   rintro e w2 ⟨rfl,hb⟩
   have HB2:=Lib.hid hb
   clear hb c0 c1 c2 c3
   go_wp2_with fail
   go_loopw [5,6] (fun p i wr => SoRel W1 F p i wr) (fun _ i _ => 11 - (intOf i).toNat)
   case atStart => exact ⟨0,Nat.zero_le _,rfl,Lib.hid (by rw [HF0.out]; exact RowF.nil _ _ HB2.out)⟩
   case round =>
    obtain ⟨k,hk,rfl,HR⟩:=hrel
    by_cases hlt:k < 10
    case neg =>
     obtain rfl:k = 10:=by omega
     go_wp2_with fail
     go_ret2
     obtain ⟨A,n,cp,he,hn,hfw,hbw⟩:=HR.out.retOf
     exact ⟨A,n,cp,he,hn,hfw,below_two' HB1.out hbw⟩
    have hkI:(k:Int) + 1 < 11:=by omega
    have hkl:(k:Int) ≤ 64:=by omega
    obtain ⟨c0,c1,c2,c3⟩:=cells_4 (HK.out _ HR.out.below)
    have hws:w.heap.size < wr.heap.size:=(Array.getElem?_eq_some_iff.1 (HK.out _ HR.out.below)).1
    go_wp2_with (go_at_call 69; go_fit (HBR.out ((k:Int) + 1) _ (below_two' HB1.out HR.out.below)))
    rintro e w5 ⟨A,n,cp,rfl,hn,hfw,hb⟩
    have HR5:=Lib.hid (HR.out.keep hb)
    have HF5:=Lib.hid hfw
    have HN:=Lib.hid hn
    have hl1:=HBL.out k
    have hl2:=HBF.out ((k:Int) + 1)
    have HL1:Hid ((F k).length + (B ((k:Int) + 1)).length ≤ maxLen):=Lib.hid (by simp only [maxLen]; omega)
    have HL2:Hid (((F k).length + (B ((k:Int) + 1)).length) * 24 ≤ 140737488355328):=Lib.hid (by omega)
    have HSZ:Hid (W1.heap.size ≤ w5.heap.size):=Lib.hid HR5.out.below.size
    clear hb hfw hn c0 c1 c2 c3 hws hl1 hl2
    go_wp2_with (at_builtin; refine wpList_append_rdk _ rfl (.tmp 16) (.tmp 19) _ rfl W1.heap.size 118 i0 (.agg #[.int .i64 0,.int .i64 0,.int .i64 0]) 3 24 Tryz.underlying80 HI.out.1 HI.out.2.1 HI.out.2.2.1 HI.out.2.2.2 rfl (by decide) _ _ _ rfl HR5.out.1 _ _ _ rfl HF5.out (fwsV_one _) HL1.out HL2.out HSZ.out ?_; intro p2 w6 hrow2 hg2 hob; have HR2:=Lib.hid (RowF.addL HR5.out hrow2 hg2); clear hrow2 hg2 hob)
    go_roundw
    case rel => exact ⟨k + 1,hlt,by go_num,Lib.hid (by rw [HNX.out]; exact HR2.out)⟩
    case measure => simp [intOf]; omega
theorem sis_any:Calls Tryz.prog 25 #[.agg #[.string x.s,.slice eA en ec,.slice vA vn vc,.slice sA sn sc]] w (RetB w (soundC x)):=by
 have HOF:=Lib.hid (fun W (hW:Below w.heap.size w W) => sof_any x eA en ec vA vn vc sA sn sc W (h.keep hW) hm hf)
 have HS:Hid (soundC x = ((ofE x == 0) && decide ((ofF x).length = 0))):=Lib.hid (by
  unfold soundC ofE ofF
  cases mayC x <;> rfl)
 rw [HS.out]
 have HE:Hid (ofE x = 0 ∨ ofE x = 1):=Lib.hid (by unfold ofE; split <;> simp)
 obtain ⟨er,her⟩:∃ er,er = ofE x:=⟨_,rfl⟩
 obtain ⟨fl,hfl⟩:∃ fl,fl = ofF x:=⟨_,rfl⟩
 obtain ⟨nm,hnm⟩:∃ nm,nm = x.s:=⟨_,rfl⟩
 rw [← her,← hfl,← hnm] at HOF
 rw [← her] at HE
 rw [← her,← hfl,← hnm]
 clear h hm hf her hfl hnm HS
 rcases HE.out with rfl | rfl
 all_goals
  go_enter Tryz.func25,Tryz.ntmps25
  go_wp2_with (go_at_call 44; go_fit (HOF.out _ (KitC.below_one _ _)))
  rintro e w2 ⟨A,n,c,rfl,hn,hfw,hb2⟩
  have HB2:=Lib.hid (below_two' (KitC.below_one _ _) hb2)
  have HN:=Lib.hid hn
  clear hn hfw hb2
  go_wp2_with fail
  go_ret
  exact ⟨ret_bool (by rw [← HN.out,Bool.eq_iff_iff]; simp),HB2.out⟩
end
end Go.Proofs.YtckojimeglkobaaGreatDoor
namespace Go.Proofs.YtckojimeglkobaaGreatDoor
open Go.RowKit TermSpec EvalSpec ActSpec NamesSpec ExprSpec TransSpec SynSpec CurSpec ShapeSpec GroupSpec AtlasSpec PrintSpec RulesSpec SoundSpec
set_option maxRecDepth 100000
theorem fewQ_of {x:Cx} (h:FewR x):FewQ x :=
 ⟨by have:=h.evl; omega,by have:=h.val; omega,by have:=h.stl; omega,fun s hs => by
  obtain ⟨h1,h2,h3⟩:=h.sts s hs
  exact ⟨⟨h2.enl,fun a ha => (h2.en a ha).2.2⟩,⟨h2.exl,fun a ha => (h2.ex a ha).2.2⟩,h2.trl,fun t ht => ⟨(h2.tr t ht).gl,(h2.tr t ht).al,fun a ha => ((h2.tr t ht).a a ha).2.2⟩⟩⟩
theorem chIn_here {w:World} {e v s:Value} {x:Cx} (h:ChIn w e v s x):Dep w (fun b => b < w.heap.size) (fun X => ChIn X e v s x):=by
 obtain ⟨ps,h1,h2,h3⟩:=h.sts
 have d1:=(rdk_here (rdk_rd h.evs rfl)).imp fun X g => rd_one g
 have d2:=rdk_here h.vars
 have d3:=(rdk_here h2).and (dep_all fun p hp => spN_here (h3 p hp))
 exact (d1.and (d2.and d3)).imp fun X g => ⟨g.1,g.2.1,ps,h1,g.2.2.1,g.2.2.2⟩
def RetNew (W:World) (x:Cx) (e:Ending) (w':World):Prop:=∃ B,e = .returned (.tuple #[.pointer (some ⟨B,0,none⟩),.int .i64 0]) ∧ AtIn w' B x ∧ W.heap.size ≤ B ∧ Below W.heap.size W w'
def RetNo17 (W:World) (e:Ending) (w':World):Prop:=e = .returned (.tuple #[.pointer none,.int .i64 1]) ∧ Below W.heap.size W w'
theorem at_build (a b c d:Value) (w:World):(Instr.build 79 #[(0,.bool true),(1,.agg #[a,b,c,d])]).run Tryz.prog w = .ok (.agg #[.bool true,a,b,c,d,.int .u32 0,.int .i32 0,.int .u32 0,.slice none 0 0,.slice none 0 0,.slice none 0 0]) w:=run_build w 79 _ _ (by kernel_rfl)
section
variable (x:Cx) (eA:Option Addr) (en ec:Nat) (vA:Option Addr) (vn vc:Nat) (sA:Option Addr) (sn sc:Nat) (w:World) (h:ChIn w (.slice eA en ec) (.slice vA vn vc) (.slice sA sn sc) x) (hm:FitM x) (hf:FewR x)
include h hm hf
set_option maxRecDepth 100000 in
set_option maxHeartbeats 4000000 in
theorem new_no (hs:soundC x = false):Calls Tryz.prog 8 #[.agg #[.string x.s,.slice eA en ec,.slice vA vn vc,.slice sA sn sc]] w (RetNo17 w):=by
 have HIS:=Lib.hid (fun W (hW:Below w.heap.size w W) => sis_any x eA en ec vA vn vc sA sn sc W (h.keep hW) hm hf)
 rw [hs] at HIS
 obtain ⟨nm,hnm⟩:∃ nm,nm = x.s:=⟨_,rfl⟩
 rw [← hnm] at HIS ⊢
 clear h hm hf hs hnm
 go_enter Tryz.func8,Tryz.ntmps8
 go_wp2_with (go_at_call 25; go_fit (HIS.out _ (KitC.below_one _ _)))
 rintro e w2 ⟨rfl,hb⟩
 have HB:=Lib.hid (below_two' (KitC.below_one _ _) hb)
 clear hb
 go_wp2_with fail
 go_ret2
 exact ⟨rfl,HB.out⟩
set_option maxRecDepth 100000 in
set_option maxHeartbeats 4000000 in
theorem new_yes (hs:soundC x = true):Calls Tryz.prog 8 #[.agg #[.string x.s,.slice eA en ec,.slice vA vn vc,.slice sA sn sc]] w (RetNew w x):=by
 have HIS:=Lib.hid (fun W (hW:Below w.heap.size w W) => sis_any x eA en ec vA vn vc sA sn sc W (h.keep hW) hm hf)
 have HCP:=Lib.hid (fun W (hW:Below w.heap.size w W) => copied_any x eA en ec vA vn vc sA sn sc W (h.keep hW) (fewQ_of hf))
 rw [hs] at HIS
 obtain ⟨nm,hnm⟩:∃ nm,nm = x.s:=⟨_,rfl⟩
 have HNM:=Lib.hid hnm
 rw [← hnm] at HIS HCP ⊢
 have hbd:=at_build
 obtain ⟨W1,hW1⟩:∃ W1,w.alloc (.cells #[.string nm,.slice eA en ec,.slice vA vn vc,.slice sA sn sc] 26) = W1:=⟨_,rfl⟩
 have hb1:Below w.heap.size w W1:=by rw [← hW1]; exact KitC.below_one _ _
 have hk1:W1.heap[w.heap.size]? = some (.cells #[.string nm,.slice eA en ec,.slice vA vn vc,.slice sA sn sc] 26):=by rw [← hW1]; exact heap_alloc_new _ _
 have HK:=Lib.hid (fun W (hW:Below W1.heap.size W1 W) => KitC.block_on hk1 hW)
 have HW1:=Lib.hid hW1
 have HB1:=Lib.hid hb1
 obtain ⟨c0,c1,c2,c3⟩:=cells_4 hk1
 clear h hm hf hs hnm hW1 hb1 hk1
 go_enter Tryz.func8,Tryz.ntmps8
 go_wp2_with (rw [HW1.out]; go_at_call 25; go_fit (HIS.out _ HB1.out))
 rintro e w2 ⟨rfl,hb⟩
 have HB2:=Lib.hid hb
 clear hb c0 c1 c2 c3
 obtain ⟨c0,c1,c2,c3⟩:=cells_4 (HK.out _ HB2.out)
 go_wp2_with (go_at_call 26; go_fit (HCP.out _ (below_two' HB1.out HB2.out)))
 rintro e w3 ⟨fA,fc,uA,uc,rA,rc,rfl,hch,hb⟩
 have HCH:=Lib.hid hch
 have HB3:=Lib.hid (below_two' (below_two' HB1.out HB2.out) hb)
 have HNM2:Hid (x.s = nm):=Lib.hid HNM.out.symm
 clear hch hb c0 c1 c2 c3
 rw [HNM2.out]
 go_wp2_with fail
 go_ret2
 refine ⟨w3.heap.size,rfl,.inl ⟨_,_,_,?_,(chIn_here HCH.out.now).keep (KitC.below_one _ _)⟩,HB3.out.size,below_two' HB3.out (KitC.below_one _ _)⟩
 rw [HNM2.out]
 exact heap_alloc_new _ _
end
section
variable (B:Nat) (x:Cx) (w:World) (h:AtIn w B x) (hf:FewR x)
include h hf
set_option maxRecDepth 100000 in
set_option maxHeartbeats 4000000 in
theorem chart17:Calls Tryz.prog 30 #[.pointer (some ⟨B,0,none⟩)] w (RetCx w x):=by
 have HG:=Lib.hid (fun W (hW:Below w.heap.size w W) => AtIn.good B x W (h.keep hW))
 obtain ⟨eA,en,ec,vA,vn,vc,sA,sn,sc,d,pl,rw,ev,hb,hch⟩:=h.blk
 have HCP:=Lib.hid (fun W (hW:Below w.heap.size w W) => copied_any x eA en ec vA vn vc sA sn sc W (hch.keep hW) (fewQ_of hf))
 obtain ⟨nm,hnm⟩:∃ nm,nm = x.s:=⟨_,rfl⟩
 have HNM:Hid (x.s = nm):=Lib.hid hnm.symm
 rw [← hnm] at HCP hb
 obtain ⟨W1,hW1⟩:∃ W1,w.alloc chZ17 = W1:=⟨_,rfl⟩
 have hb1:Below w.heap.size w W1:=by rw [← hW1]; exact KitC.below_one _ _
 have hk1:W1.heap[w.heap.size]? = some chZ17:=by rw [← hW1]; exact heap_alloc_new _ _
 have HK:=Lib.hid (fun W (hW:Below W1.heap.size W1 W) => KitC.block_on hk1 hW)
 have HW1:=Lib.hid hW1
 have HB1:=Lib.hid hb1
 have HLT:Hid (w.heap.size < W1.heap.size):=Lib.hid (Array.getElem?_eq_some_iff.1 hk1).1
 obtain ⟨-,c1,c2,c3,c4,-⟩:=at_cells (KitC.block_on hb hb1)
 clear h hf hnm hW1 hb1 hk1 hb hch
 go_enter Tryz.func30,Tryz.ntmps30
 go_wp2_with (rw [HW1.out]; go_at_call 29; go_fit (HG.out _ HB1.out))
 rintro e w2 ⟨rfl,rfl⟩
 go_wp2_with (go_at_call 26; go_fit (HCP.out _ HB1.out))
 rintro e w3 ⟨fA,fc,uA,uc,rA,rc,rfl,hch,hb⟩
 have HCH:=Lib.hid hch
 have HB3:=Lib.hid (below_two' HB1.out hb)
 have hk3:=HK.out _ hb
 have HK3:=Lib.hid hk3
 obtain ⟨z0,z1,z2,z3⟩:=cells_4 hk3
 obtain ⟨f0,f1,f2,f3⟩:=free_4 hk3
 obtain ⟨q0,q1,q2,q3⟩:=store_4 (blk_of hk3 (n:=4) rfl) (.string nm) (.slice fA x.evs.length fc) (.slice uA x.vars.length uc) (.slice rA x.sts.length rc)
 clear hch hb hk3 c1 c2 c3 c4
 rw [HNM.out]
 go_wp2_with fail
 refine bodyPost_ret (v:=.agg #[.string nm,.slice fA x.evs.length fc,.slice uA x.vars.length uc,.slice rA x.sts.length rc]) (by simp [results,Tryz.results30,go_sem,q0,q1,q2,q3]) rfl ?_
 refine ⟨fA,fc,uA,uc,rA,rc,by rw [HNM.out],?_,below_4 HB3.out (Nat.le_refl _) _ _ _ _⟩
 refine (HCH.out.go (but_set (but_set (but_set (but_set (but_refl w3 (some w.heap.size)) 0 _) 1 _) 2 _) 3 _) fun b h1 h2 => ?_).mono fun b _ h1 => Nat.le_trans HB1.out.size h1
 injection h2 with h2
 have:=HLT.out
 omega
end
end Go.Proofs.YtckojimeglkobaaGreatDoor
namespace Go.Proofs.YtckojimeglkobaaGreatDoor
open Go.RowKit Go.Sort TermSpec EvalSpec ActSpec NamesSpec ExprSpec TransSpec SynSpec CurSpec ShapeSpec GroupSpec AtlasSpec PrintSpec ConfSpec
set_option maxRecDepth 100000
def namesTo (xs:List Sx) (m:Nat) (lv:Bool):Nat → List ByteArray
 | 0 => []
 | k + 1 => namesTo xs m lv k ++ (xs[k]?).elim [] fun s => if (hasG m (k:Int) && (!lv || decide (s.kind = 1))) = true then [s.s] else []
theorem namesTo_yes {xs:List Sx} {m k:Nat} {lv:Bool} {s:Sx} (h:xs[k]? = some s) (hb:(hasG m (k:Int) && (!lv || decide (s.kind = 1))) = true):namesTo xs m lv (k + 1) = namesTo xs m lv k ++ [s.s]:=by
 show namesTo xs m lv k ++ (xs[k]?).elim [] _ = _
 rw [h,Option.elim_some,if_pos hb]
theorem namesTo_no {xs:List Sx} {m k:Nat} {lv:Bool} {s:Sx} (h:xs[k]? = some s) (hb:(hasG m (k:Int) && (!lv || decide (s.kind = 1))) = false):namesTo xs m lv (k + 1) = namesTo xs m lv k:=by
 show namesTo xs m lv k ++ (xs[k]?).elim [] _ = _
 rw [h,Option.elim_some,if_neg (by rw [hb]; simp),List.append_nil]
theorem namesTo_len (xs:List Sx) (m:Nat) (lv:Bool) (k:Nat):(namesTo xs m lv k).length ≤ k:=by
 induction k with
 | zero => exact Nat.le_refl _
 | succ k ih =>
   show (namesTo xs m lv k ++ _).length ≤ _
   rw [List.length_append]
   have:((xs[k]?).elim [] fun s => if (hasG m (k:Int) && (!lv || decide (s.kind = 1))) = true then [s.s] else []).length ≤ 1:=by
    cases xs[k]? with
    | none => simp
    | some s => simp only [Option.elim_some]; split <;> simp
   omega
def NmRel (W:World) (xs:List Sx) (m:Nat) (lv:Bool) (n:Nat) (p v:Value) (wr:World):Prop:=∃ k:Nat,k ≤ n ∧ v = .int .i64 k ∧ Hid (RowS W wr p (namesTo xs m lv k))
section
variable (x:Cx) (eA:Option Addr) (en ec:Nat) (vA:Option Addr) (vn vc:Nat) (sA:Option Addr) (sn sc:Nat) (w:World) (h:ChIn w (.slice eA en ec) (.slice vA vn vc) (.slice sA sn sc) x) (hm:sn ≤ 1000000) (y:Cf) (h64:y.m < 18446744073709551616) (lv:Bool)
include h hm h64
end
def RetNm (W:World) (l:List ByteArray) (e:Ending) (w':World):Prop:=∃ p,e = .returned p ∧ w'.ownsRow W.heap.size 9 1 p l.length (strV l) ∧ Below W.heap.size W w'
theorem ch_fld3 (a b c d:Value) (w:World):(Instr.field 26 (.agg #[a,b,c,d]) 3).run Tryz.prog w = .ok d w:=by kernel_rfl
section
variable (B:Nat) (x:Cx) (w:World) (h:AtIn w B x) (hf:FewR x) (y:Cf) (h64:y.m < 18446744073709551616)
include h hf h64
set_option maxRecDepth 100000 in
set_option maxHeartbeats 8000000 in
theorem leaves_own:Calls Tryz.prog 18 #[.pointer (some ⟨B,0,none⟩),cfA y] w (RetNm w (namesTo x.sts y.m true x.sts.length)):=by
 obtain ⟨W1,hW1⟩:∃ W1,w.alloc (cfO y) = W1:=⟨_,rfl⟩
 have hb1:Below w.heap.size w W1:=by rw [← hW1]; exact KitC.below_one _ _
 have hk1:W1.heap[w.heap.size]? = some (cfO y):=by rw [← hW1]; exact heap_alloc_new _ _
 have HCH:=Lib.hid (chart17 B x W1 (h.keep hb1) hf)
 have hst:=hf.stl
 obtain ⟨xs,hxs⟩:∃ xs,xs = x.sts:=⟨_,rfl⟩
 obtain ⟨sn,hsn⟩:∃ sn,sn = xs.length:=⟨_,rfl⟩
 have HXS:=Lib.hid hxs
 have HSN:=Lib.hid hsn
 have HXL:Hid (x.sts.length = sn):=Lib.hid (by rw [hsn,hxs])
 rw [← hxs,← hsn] at hst ⊢
 have HH:=Lib.hid (fun (i:Int) W => ghas_any y.m i h64 W)
 have HC:Hid (∀ W,Below W1.heap.size W1 W → W.heap[w.heap.size]? = some (cfO y)):=Lib.hid fun W hW => KitC.block_on hk1 hW
 have HW1:=Lib.hid hW1
 have HB1:=Lib.hid hb1
 have hfl:=ch_fld3
 obtain ⟨i0,hi,hz0,hz1,hz2⟩:=info_parts inf_str
 have HI:=Lib.hid (And.intro hi (And.intro hz0 (And.intro hz1 hz2)))
 obtain ⟨m,v⟩:=y
 simp only at HH ⊢
 clear h hf h64 hxs hsn hW1 hb1 hk1 hi hz0 hz1 hz2
 go_enter Tryz.func18,Tryz.ntmps18
 go_wp2_with ((try rw [HW1.out]); go_at_call 30; go_fit HCH.out)
 rintro e w2 ⟨eA,ec,vA,vc,sA,sc,rfl,hdep,hb2⟩
 rw [HXL.out] at hdep ⊢
 have HST:Hid (∀ W,Below w2.heap.size w2 W → StsP W (.slice sA sn sc) xs):=Lib.hid fun W hW => by rw [HXS.out]; exact (hdep.now.sts).keep hW
 have HB2:=Lib.hid hb2
 clear hdep hb2
 go_wp2_with fail
 go_loopw [5,12] (fun p v wr => NmRel w2 xs m true sn p v wr) (fun _ v _ => sn - (intOf v).toNat)
 case atStart => exact ⟨0,Nat.zero_le _,rfl,Lib.hid (RowS.nil _ _ (Below.refl _ _))⟩
 case round =>
  obtain ⟨k,hk,rfl,HR⟩:=hrel
  have hbr:=HR.out.2
  obtain ⟨d0,-,-,-,-⟩:=cells_5c (HC.out _ (below_two' HB2.out hbr))
  by_cases hlt:k < sn
  ·have hltI:(k:Int) < sn:=by omega
   obtain ⟨s,hs⟩:∃ s,xs[k]? = some s:=get_some (by have:=HSN.out; omega)
   obtain ⟨b,off,a3,n3,m3,a4,n4,m4,a5,n5,m5,rfl,hbl,x0,x1,x2,x3,x4,x5,-⟩:=StsP.at_ (HST.out _ hbr) hs
   have HHK:=Lib.hid (HH.out (k:Int))
   have HYES:=Lib.hid (namesTo_yes (m:=m) (lv:=true) hs)
   have HNO:=Lib.hid (namesTo_no (m:=m) (lv:=true) hs)
   obtain ⟨bk,hbk⟩:∃ bk,bk = hasG m (k:Int):=⟨_,rfl⟩
   rw [← hbk] at HHK HYES HNO
   obtain ⟨nmk,kd,pr,i1,i2,i3⟩:=s
   simp only at x0 x1 x2 HYES HNO
   have hnl:=namesTo_len xs m true k
   have HL1:Hid ((namesTo xs m true k).length + (strV [nmk]).length ≤ maxLen):=Lib.hid (by simp [maxLen]; omega)
   have HL2:Hid (((namesTo xs m true k).length + (strV [nmk]).length) * 16 ≤ 140737488355328):=Lib.hid (by simp; omega)
   have HSZ:Hid (w2.heap.size ≤ wr.heap.size):=Lib.hid hbr.size
   have HRA:=Lib.hid (HR.out.alloc (.cells #[.string nmk,.int .i64 kd,.int .i64 pr,.slice a3 n3 m3,.slice a4 n4 m4,.slice a5 n5 m5] 58))
   have d0':=((KitC.below_one wr (.cells #[.string nmk,.int .i64 kd,.int .i64 pr,.slice a3 n3 m3,.slice a4 n4 m4,.slice a5 n5 m5] 58)).cell (p:=⟨w.heap.size,0,none⟩) (block_lt_of_cell d0)).trans d0
   clear hs hbk hnl hbr
   by_cases hkd:kd = 1
   ·subst hkd
    cases bk with
    | true =>
      have HS:=Lib.hid (HYES.out rfl)
      go_wp2_with (go_at_call 42; go_fit (HHK.out _))
      rintro e w4 ⟨rfl,rfl⟩
      go_wp2_with (at_builtin; refine wpList_append_rd _ rfl (.tmp 26) (.tmp 29) _ rfl w2.heap.size 9 i0 (.string ByteArray.empty) 16 Tryz.underlying22 HI.out.1 HI.out.2.1 HI.out.2.2.1 HI.out.2.2.2 rfl _ _ _ rfl (HRA.out.1.alloc _) _ (strV [nmk]) rfl (lit_here (by simp) rfl rfl) (strV_one _) HL1.out HL2.out ?_ ?_; (have:=HSZ.out; simp; omega); intro p2 w3 hrow2 hg2 _; have HR3:=Lib.hid (RowS.add HRA.out hrow2 hg2); clear hrow2 hg2)
      go_roundw
      case rel => exact ⟨k + 1,by omega,by go_num,by rw [HS.out]; exact HR3⟩
      case measure => simp [intOf]; omega
    | false =>
      have HS:=Lib.hid (HNO.out rfl)
      go_wp2_with (go_at_call 42; go_fit (HHK.out _))
      rintro e w4 ⟨rfl,rfl⟩
      go_wp2_with fail
      go_roundw
      case rel => exact ⟨k + 1,by omega,by go_num,by rw [HS.out]; exact HRA⟩
      case measure => simp [intOf]; omega
   ·have HS:=Lib.hid (HNO.out (by rw [decide_eq_false hkd,Bool.not_true,Bool.false_or,Bool.and_false]))
    have g1:(kd == 1) = false:=by simpa using hkd
    clear hkd
    go_wp2_with fail
    go_roundw
    case rel => exact ⟨k + 1,by omega,by go_num,by rw [HS.out]; exact HRA⟩
    case measure => simp [intOf]; omega
  ·have hltI:¬ (k:Int) < sn:=by omega
   have hks:k = sn:=by omega
   have HR3:Hid (RowS w2 wr u5 (namesTo xs m true sn)):=Lib.hid (by rw [← hks]; exact HR.out)
   clear hbr hlt hks
   go_wp2_with fail
   go_ret
   exact ⟨_,rfl,own_weak HR3.out.1 (Nat.le_trans HB1.out.size HB2.out.size),below_two' HB1.out (below_two' HB2.out HR3.out.2)⟩
end
end Go.Proofs.YtckojimeglkobaaGreatDoor
namespace Go.Proofs.YtckojimeglkobaaGreatDoor
open Go.RowKit TermSpec EvalSpec ActSpec NamesSpec ExprSpec TransSpec SynSpec CurSpec ShapeSpec GroupSpec AtlasSpec PrintSpec
set_option maxRecDepth 100000
theorem kidsTb_few {l:List Sh} (i:Int) (h:l.length ≤ 60):(kidsTb l i).length ≤ 1000000:=by
 unfold kidsTb
 split
 ·have:=kids_le l i.toNat l.length
  unfold kids
  omega
 ·simp
theorem row_fld0 (a b c d:Value) (w:World):(Instr.field 137 (.agg #[a,b,c,d]) 0).run Tryz.prog w = .ok a w:=by kernel_rfl
theorem row_fld1 (a b c d:Value) (w:World):(Instr.field 137 (.agg #[a,b,c,d]) 1).run Tryz.prog w = .ok b w:=by kernel_rfl
theorem row_fld2 (a b c d:Value) (w:World):(Instr.field 137 (.agg #[a,b,c,d]) 2).run Tryz.prog w = .ok c w:=by kernel_rfl
section
variable (B:Nat) (x:Cx) (w:World) (h:AtIn w B x) (hk:chk (x.sts.map shOf) = 0) (hev:x.evs.length ≤ 1000000) (i:Int)
include h hk hev
end
end Go.Proofs.YtckojimeglkobaaGreatDoor
namespace Go.Proofs.YtckojimeglkobaaGreatDoor
open Go.RowKit TermSpec EvalSpec ActSpec NamesSpec ExprSpec TransSpec SynSpec CurSpec ShapeSpec GroupSpec AtlasSpec PrintSpec
set_option maxRecDepth 100000
def RetDn (W:World) (R:World → Value → Prop) (e:Ending) (w':World):Prop:=∃ v,e = .returned v ∧ R w' v ∧ Below W.heap.size W w'
section
variable (B:Nat) (x:Cx) (w:World) (h:AtD w B x) (hk:chk (x.sts.map shOf) = 0)
include h hk
set_option maxRecDepth 100000 in
set_option maxHeartbeats 4000000 in
theorem rowD (i:Int):Calls Tryz.prog 80 #[.pointer (some ⟨B,0,none⟩),.int .i64 i] w (RetDn w (IsRow (x.sts.map shOf) i)):=by
 obtain ⟨W1,hW1⟩:∃ W1,w.alloc (.cells #[.slice none 0 0,.int .u64 0,.int .u64 0,.int .i64 0] 137) = W1:=⟨_,rfl⟩
 have hb1:Below w.heap.size w W1:=by rw [← hW1]; exact KitC.below_one _ _
 have hk1:W1.heap[w.heap.size]? = some (.cells #[.slice none 0 0,.int .u64 0,.int .u64 0,.int .i64 0] 137):=by rw [← hW1]; exact heap_alloc_new _ _
 obtain ⟨K,hK,hD0⟩:=h
 have hD1:=hD0.keep hb1
 have HG:=Lib.hid (AtIn.good B x W1 (.inr ⟨K,fun b hb => ⟨(hK b hb).1,Nat.lt_of_lt_of_le (hK b hb).2 hb1.size⟩,hD1⟩))
 obtain ⟨e1,v1,s1,pl,rw,ev,ps,hb,hro,hdep⟩:=hD1
 have HD:=Lib.hid (fun fv => do_done ⟨B,5,none⟩ fv W1 (at_cells hb).2.2.2.2.2.1)
 have HKK:Hid (∀ b,K b → b < w.heap.size):=Lib.hid fun b hb => (hK b hb).2
 have hmf:∀ (fn:Fn) (first cap:Array Value) (w:World),(Instr.makeFunc fn first cap).run Tryz.prog w = .ok (.func fn first cap) w:=fun _ _ _ _ => rfl
 have hrb:∀ w,(Instr.build 137 #[]).run Tryz.prog w = .ok (.agg #[.slice none 0 0,.int .u64 0,.int .u64 0,.int .i64 0]) w:=fun w => run_build w 137 _ _ (by kernel_rfl)
 obtain ⟨l,hl⟩:∃ l,l = x.sts.map shOf:=⟨_,rfl⟩
 have HL:Hid (x.sts.map shOf = l):=Lib.hid hl.symm
 have h60:Hid (l.length ≤ 60):=Lib.hid (by rw [hl]; exact (chk_ok hk).1)
 have HK1:=Lib.hid hk1
 have HB1:=Lib.hid hb1
 have HW1:=Lib.hid hW1
 rw [HL.out]
 rw [HL.out] at hro
 have HRO:=Lib.hid hro
 have HRI:=Lib.hid (hdep.imp fun X g => g.2.2.1)
 obtain ⟨A,c,rfl,hc,-,hA⟩:=(hdep.now).2.2.1.1
 have HA:=Lib.hid hA
 have HCE:=Lib.hid (at_cells hb)
 obtain ⟨n,hn⟩:∃ n,n = ps.length:=⟨_,rfl⟩
 have HN:=Lib.hid hn
 have hn60:n ≤ 60:=by have:=h60.out; have:=hro.1; omega
 rw [← hn] at HCE HA
 clear hK hk hD0 hl hW1 hb1 hk1 hb hdep hro hc hA hn
 go_enter Tryz.func80,Tryz.ntmps80
 go_wp2_with (rw [HW1.out]; go_at_call 29; go_fit HG.out)
 rintro e w2 ⟨rfl,rfl⟩
 go_wp2_with (go_at_call 100; go_fit (HD.out _))
 rintro e w3 ⟨rfl,rfl⟩
 have hk3:=HK1.out
 have HK3:=HK1
 obtain ⟨z0,z1,z2,z3⟩:=cells_4 hk3
 obtain ⟨f0,f1,f2,f3⟩:=free_4 hk3
 obtain ⟨c0,c1,c2,c3,c4,-,-,c8,c9,c10⟩:=HCE.out
 clear hk3
 have HEND:Hid (∀ (u0 u1 u2 u3:Value),Below w.heap.size w ((((w3.setCell ⟨w.heap.size,0,none⟩ u0).setCell ⟨w.heap.size,1,none⟩ u1).setCell ⟨w.heap.size,2,none⟩ u2).setCell ⟨w.heap.size,3,none⟩ u3) ∧
  ∀ v xs,Dep w3 K (fun X => Rd X v xs) → Rd ((((w3.setCell ⟨w.heap.size,0,none⟩ u0).setCell ⟨w.heap.size,1,none⟩ u1).setCell ⟨w.heap.size,2,none⟩ u2).setCell ⟨w.heap.size,3,none⟩ u3) v xs):=Lib.hid (fun u0 u1 u2 u3 => by
  have hg:w3.grownBy ((((w3.setCell ⟨w.heap.size,0,none⟩ u0).setCell ⟨w.heap.size,1,none⟩ u1).setCell ⟨w.heap.size,2,none⟩ u2).setCell ⟨w.heap.size,3,none⟩ u3) (some w.heap.size):=but_set (but_set (but_set (but_set (but_refl _ _) _ _) _ _) _ _) _ _
  refine ⟨HB1.out.grown hg HB1.out.size (fun j e => by injection e with e; omega),fun v xs hd => (hd.go hg fun b hb e => by injection e with e; have:=HKK.out b hb; omega).now⟩)
 by_cases hi0:i < 0
 ·have HOUT:=Lib.hid (rowTb_out (l:=l) (i:=i) (by omega))
  obtain ⟨q0,q1,q2,q3⟩:=store_4 (blk_of HK3.out (n:=4) rfl) (.slice none 0 0) (.int .u64 0) (.int .u64 0) (.int .i64 0)
  go_wp2_with fail
  refine bodyPost_ret (v:=.agg #[.slice none 0 0,.int .u64 0,.int .u64 0,.int .i64 0]) (by simp [results,Tryz.results80,go_sem,q0,q1,q2,q3]) rfl ?_
  refine ⟨_,rfl,⟨none,0,0,by rw [HOUT.out.2.1,HOUT.out.2.2.1,HOUT.out.2.2.2]; rfl,by rw [HOUT.out.1]; exact Rd.nil _⟩,(HEND.out _ _ _ _).1⟩
 obtain ⟨j,rfl⟩:=Int.eq_ofNat_of_zero_le (show 0 ≤ i by omega)
 by_cases hin:n ≤ j
 ·have hin1:(n:Int) ≤ (j:Int):=by omega
  have HOUT:=Lib.hid (rowTb_out (l:=l) (i:=(j:Int)) (by have:=HRO.out.1; have:=HN.out; omega))
  obtain ⟨q0,q1,q2,q3⟩:=store_4 (blk_of HK3.out (n:=4) rfl) (.slice none 0 0) (.int .u64 0) (.int .u64 0) (.int .i64 0)
  go_wp2_with fail
  refine bodyPost_ret (v:=.agg #[.slice none 0 0,.int .u64 0,.int .u64 0,.int .i64 0]) (by simp [results,Tryz.results80,go_sem,q0,q1,q2,q3]) rfl ?_
  refine ⟨_,rfl,⟨none,0,0,by rw [HOUT.out.2.1,HOUT.out.2.2.1,HOUT.out.2.2.2]; rfl,by rw [HOUT.out.1]; exact Rd.nil _⟩,(HEND.out _ _ _ _).1⟩
 ·have hin1:¬ (n:Int) ≤ (j:Int):=by omega
  have hin2:(j:Int) < (n:Int):=by omega
  obtain ⟨p,hp⟩:∃ p,ps[j]? = some p:=get_some (by have:=HN.out; omega)
  obtain ⟨b,off,rfl,hbl,hcell⟩:=HA.out (by omega)
  have x0:w3.cell? ⟨b,off + j * 4,none⟩ = some (.slice p.A p.n p.c):=by exact hcell (j * 4 + 0) _ (flat_get (j:=0) rwV_length hp (by decide))
  have x1:w3.cell? ⟨b,off + j * 4 + 1,none⟩ = some (.int .u64 p.ab):=by rw [Nat.add_assoc]; exact hcell (j * 4 + 1) _ (flat_get (j:=1) rwV_length hp (by decide))
  have x2:w3.cell? ⟨b,off + j * 4 + 2,none⟩ = some (.int .u64 p.be):=by rw [Nat.add_assoc]; exact hcell (j * 4 + 2) _ (flat_get (j:=2) rwV_length hp (by decide))
  have x3:w3.cell? ⟨b,off + j * 4 + 3,none⟩ = some (.int .i64 p.d):=by rw [Nat.add_assoc]; exact hcell (j * 4 + 3) _ (flat_get (j:=3) rwV_length hp (by decide))
  obtain ⟨r1,r2,r3,r4⟩:=HRO.out.2 j p hp
  rw [beP_all] at r3
  have HJ:Hid (j < l.length):=Lib.hid (by have:=HRO.out.1; have:=HN.out; omega)
  have HRR:Hid (p.ks = kidsTb l (j:Int) ∧ p.ab = aboveTb l (j:Int) ∧ p.be = belowTb l (j:Int) ∧ p.d = depthTb l (j:Int)):=Lib.hid ⟨by rw [r1,kidsTb_in HJ.out],by rw [r2,aboveTb_in HJ.out],by rw [r3,belowTb_in HJ.out],by rw [r4,depthTb_in HJ.out]⟩
  have HRP:=Lib.hid (HRI.out.imp fun X g => g.2 p (List.mem_of_getElem? hp))
  obtain ⟨pA,pn,pc,pks,pab,pbe,pd⟩:=p
  simp only at HRR
  obtain ⟨q0,q1,q2,q3⟩:=store_4 (blk_of HK3.out (n:=4) rfl) (.slice pA pn pc) (.int .u64 pab) (.int .u64 pbe) (.int .i64 pd)
  clear hcell r1 r2 r3 r4 hp hin
  go_wp2_with fail
  refine bodyPost_ret (v:=.agg #[.slice pA pn pc,.int .u64 pab,.int .u64 pbe,.int .i64 pd]) (by simp [results,Tryz.results80,go_sem,q0,q1,q2,q3]) rfl ?_
  obtain ⟨k1,k2,k3,k4⟩:=HRR.out
  refine ⟨_,rfl,⟨pA,pn,pc,by rw [← k2,← k3,← k4],?_⟩,(HEND.out _ _ _ _).1⟩
  rw [← k1]
  exact (HEND.out _ _ _ _).2 _ _ HRP.out
end
section
variable (B:Nat) (x:Cx) (w:World) (h:AtD w B x) (hk:chk (x.sts.map shOf) = 0) (i:Int)
include h hk
theorem kidsD:Calls Tryz.prog 64 #[.pointer (some ⟨B,0,none⟩),.int .i64 i] w (RetDn w (fun W v => Rd W v (intV (kidsTb (x.sts.map shOf) i)))):=by
 have HR:=Lib.hid (rowD B x w h hk i)
 have HF:=Lib.hid (kidsTb_few (l:=x.sts.map shOf) i (chk_ok hk).1)
 obtain ⟨l,hl⟩:∃ l,l = x.sts.map shOf:=⟨_,rfl⟩
 rw [← hl] at HR HF ⊢
 have hfl:=row_fld0
 clear h hk hl
 go_enter Tryz.func64,Tryz.ntmps64
 go_wp2_with (go_at_call 80; go_fit HR.out)
 rintro e w2 ⟨v,rfl,⟨A,n,c,rfl,hrd⟩,hg⟩
 have HRD:Hid (Rdk 1 w2 (.slice A n c) (kidsTb l i).length (intV (kidsTb l i))):=Lib.hid (rdk_rd hrd (intV_length _))
 have HG:=Lib.hid hg
 clear hrd hg
 go_wp2_with (go_at_call 83; go_fit (clone_int _ _ _ _ HRD.out (intV_one _) HF.out))
 rintro e w3 ⟨A3,c3,rfl,ho,hb⟩
 have HO:=Lib.hid ho
 have HB:=Lib.hid hb
 clear ho hb
 go_wp2_with fail
 go_ret
 exact ⟨_,rfl,rd_one (Rdk.own HO.out),below_two' HG.out HB.out⟩
theorem aboveD:Calls Tryz.prog 62 #[.pointer (some ⟨B,0,none⟩),.int .i64 i] w (RetDn w (fun _ v => v = .int .u64 (aboveTb (x.sts.map shOf) i))):=by
 have HR:=Lib.hid (rowD B x w h hk i)
 obtain ⟨l,hl⟩:∃ l,l = x.sts.map shOf:=⟨_,rfl⟩
 rw [← hl] at HR ⊢
 have hfl:=row_fld1
 clear h hk hl
 go_enter Tryz.func62,Tryz.ntmps62
 go_wp2_with (go_at_call 80; go_fit HR.out)
 rintro e w2 ⟨v,rfl,⟨A,n,c,rfl,-⟩,hg⟩
 have HG:=Lib.hid hg
 clear hg
 go_wp2_with fail
 go_ret
 exact ⟨_,rfl,rfl,HG.out⟩
end
end Go.Proofs.YtckojimeglkobaaGreatDoor