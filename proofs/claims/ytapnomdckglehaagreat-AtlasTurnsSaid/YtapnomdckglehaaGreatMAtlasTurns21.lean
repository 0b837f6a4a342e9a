/- SoundOf, AtlasNew, AtlasRows, KitW, AtlasAwake, AtlasNob, joined. -/
import Derived.Test.YtapnomdckglehaaGreatMAtlasTurns14
import Derived.Test.YtapnomdckglehaaGreatMAtlasTurns17
import Derived.Test.YtapnomdckglehaaGreatMAtlasTurns19
import Derived.Test.YtapnomdckglehaaGreatMAtlasTurns20
import Derived.Test.YtapnomdckglehaaGreatMAtlasTurns13
import Derived.Test.YtapnomdckglehaaGreatMAtlasTurns00
namespace Go.Proofs.YtapnomdckglehaaGreat
open Go.RowKit TermSpec NamesSpec EvalSpec ActSpec TransSpec SynSpec RulesSpec PrintSpec SoundSpec
set_option maxRecDepth 100000
theorem RowF.addL {W wr w2:World} {p p':Value} {xs ys:List Fw} (h:RowF W wr p xs) (hrow:w2.ownsRow W.heap.size 110 3 p' (xs.length + ys.length) (fwsV xs ++ fwsV ys)) (hg:wr.grownBy w2 p.ownBlock):RowF W w2 p' (xs ++ ys):=by
 refine ⟨?_,h.2.grown hg h.2.size (fun j hj => (own_block_bd h.1 j hj).1)⟩
 rw [← fwsV_append,List.length_append]
 exact hrow
theorem brk_few15 {x:Cx} (hf:FewR x) (r:Int):(brk x r).length ≤ 1000000:=by
 have h1:=hf.evl; have h2:=hf.val; have h3:=hf.stl
 unfold brk
 split
 ·rw [itemsF_length]; exact Nat.le_trans (twinsTo_length _ _) (by omega)
 split
 ·rw [itemsF_length]; exact Nat.le_trans (twinsTo_length _ _) (by unfold vnC; rw [List.length_map]; omega)
 split
 ·rw [itemsF_length]; exact Nat.le_trans (plTo_length _ _) (by omega)
 split
 ·rw [itemsF_length]; exact Nat.le_trans (twinsTo_length _ _) (by unfold snC; rw [List.length_map]; omega)
 split
 ·rw [itemsF_length]; exact Nat.le_trans (plTo_length _ _) (by omega)
 exact Nat.le_trans (ptTo_length (fun s hs => (hf.sts s hs).2.2) _) (by omega)
def RetOf (W:World) (l:List Fw) (er:Int) (e:Ending) (w':World):Prop:=∃ A n c,e = .returned (.tuple #[.slice A n c,.int .i64 er]) ∧ n = l.length ∧ Fws w' (.slice A n c) l ∧ Below W.heap.size W w'
theorem RowF.retOf {W wr:World} {p:Value} {xs:List Fw} (h:RowF W wr p xs):RetOf W xs 0 (.returned (.tuple #[p,.int .i64 0])) wr:=by
 obtain ⟨A,n,c,rfl,hn⟩:=h.fws.shape
 exact ⟨A,n,c,rfl,hn,h.fws,h.2⟩
def SoRel (W1:World) (F:Nat → List Fw) (p i:Value) (wr:World):Prop:=∃ k:Nat,k ≤ 10 ∧ i = .int .i64 ((k:Int) + 1) ∧ Hid (RowF W1 wr p (F k))
def ofF (x:Cx):List Fw:=if mayC x = true then flawsC x else []
def ofE (x:Cx):Int:=if mayC x = true then 0 else 1
section
variable (x:Cx) (eA:Option Addr) (en ec:Nat) (vA:Option Addr) (vn vc:Nat) (sA:Option Addr) (sn sc:Nat) (w:World) (h:ChIn w (.slice eA en ec) (.slice vA vn vc) (.slice sA sn sc) x) (hm:FitM x) (hf:FewR x)
include h hm hf
set_option maxRecDepth 100000 in
set_option maxHeartbeats 8000000 in
theorem sof_any:Calls Tryz.prog 46 #[.agg #[.string x.s,.slice eA en ec,.slice vA vn vc,.slice sA sn sc]] w (RetOf w (ofF x) (ofE x)):=by
 obtain ⟨hvn,-⟩:=h.vars.len
 obtain ⟨_,_,_,heq,hen,-,-⟩:=Rd.strs h.evs
 cases heq
 have e1:=hf.evl; have e2:=hf.val
 have HCK:=Lib.hid (fun W (hW:Below w.heap.size w W) => pcheck_any x eA en ec vA vn vc sA sn sc W (h.keep hW) hm (by omega) (by omega))
 have HBR:=Lib.hid (fun (hc:mayC x = true) (r:Int) W (hW:Below w.heap.size w W) => rbroken_any x eA en ec vA vn vc sA sn sc W (h.keep hW) hf (mayR_of hc).2 r)
 have HBL:Hid (∀ k,(allTo x k).length ≤ k * 1000000):=Lib.hid (fun k => allTo_length (n:=1000000) (fun r => brk_few15 hf r) k)
 have HBF:Hid (∀ r,(brk x r).length ≤ 1000000):=Lib.hid (fun r => brk_few15 hf r)
 obtain ⟨i0,hi,hz0,hz1,hz2⟩:=info_parts inf_flaw
 have HI:=Lib.hid (And.intro hi (And.intro hz0 (And.intro hz1 hz2)))
 obtain ⟨nm,hnm⟩:∃ nm,nm = x.s:=⟨_,rfl⟩
 rw [← hnm] at HCK HBR ⊢
 obtain ⟨W1,hW1⟩:∃ W1,w.alloc (.cells #[.string nm,.slice eA en ec,.slice vA vn vc,.slice sA sn sc] 26) = W1:=⟨_,rfl⟩
 have hb1:Below w.heap.size w W1:=by rw [← hW1]; exact KitC.below_one _ _
 have hk1:W1.heap[w.heap.size]? = some (.cells #[.string nm,.slice eA en ec,.slice vA vn vc,.slice sA sn sc] 26):=by rw [← hW1]; exact heap_alloc_new _ _
 have HK:=Lib.hid (fun W (hW:Below W1.heap.size W1 W) => KitC.block_on hk1 hW)
 have HW1:=Lib.hid hW1
 have HB1:=Lib.hid hb1
 obtain ⟨c0,c1,c2,c3⟩:=cells_4 hk1
 cases hmc:mayC x with
 | false =>
   rw [hmc] at HCK
   have HE:Hid (ofF x = [] ∧ ofE x = 1):=Lib.hid ⟨by unfold ofF; rw [hmc]; rfl,by unfold ofE; rw [hmc]; rfl⟩
   rw [HE.out.1,HE.out.2]
   clear h hm hf hvn hen e1 e2 hnm hW1 hb1 hk1 hmc HBR HBL HBF hi hz0 hz1 hz2
   go_enter Tryz.func46,Tryz.ntmps46
   go_wp2_with (rw [HW1.out]; go_at_call 73; go_fit (HCK.out _ HB1.out))
   rintro e w2 ⟨rfl,hb⟩
   have HB2:=Lib.hid (below_two' HB1.out hb)
   clear hb c0 c1 c2 c3
   go_wp2_with fail
   go_ret2
   exact ⟨none,0,0,rfl,rfl,Rdk.nil 3 _,HB2.out⟩
 | true =>
   rw [hmc] at HCK
   have HE:Hid (ofF x = flawsC x ∧ ofE x = 0):=Lib.hid ⟨by unfold ofF; rw [hmc]; rfl,by unfold ofE; rw [hmc]; rfl⟩
   rw [HE.out.1,HE.out.2]
   have HBR:=Lib.hid (HBR.out hmc)
   obtain ⟨F,hF⟩:∃ F:Nat → List Fw,F = allTo x:=⟨_,rfl⟩
   obtain ⟨B,hB⟩:∃ B:Int → List Fw,B = brk x:=⟨_,rfl⟩
   have HNX:Hid (∀ k:Nat,F (k + 1) = F k ++ B ((k:Int) + 1)):=Lib.hid (fun k => by rw [hF,hB]; rfl)
   have HF0:Hid (F 0 = []):=Lib.hid (by rw [hF]; rfl)
   rw [show flawsC x = F 10 by rw [hF]; rfl]
   rw [← hF] at HBL
   rw [← hB] at HBR HBF
   clear h hm hf hvn hen e1 e2 hnm hW1 hb1 hk1 hmc hF hB hi hz0 hz1 hz2
   go_enter Tryz.func46,Tryz.ntmps46
   go_wp2_with (rw [HW1.out]; go_at_call 73; go_fit (HCK.out _ HB1.out))
   rintro e w2 ⟨rfl,hb⟩
   have HB2:=Lib.hid hb
   clear hb c0 c1 c2 c3
   go_wp2_with fail
   go_loopw [5,6] (fun p i wr => SoRel W1 F p i wr) (fun _ i _ => 11 - (intOf i).toNat)
   case atStart => exact ⟨0,Nat.zero_le _,rfl,Lib.hid (by rw [HF0.out]; exact RowF.nil _ _ HB2.out)⟩
   case round =>
    obtain ⟨k,hk,rfl,HR⟩:=hrel
    by_cases hlt:k < 10
    case neg =>
     obtain rfl:k = 10:=by omega
     go_wp2_with fail
     go_ret2
     obtain ⟨A,n,cp,he,hn,hfw,hbw⟩:=HR.out.retOf
     exact ⟨A,n,cp,he,hn,hfw,below_two' HB1.out hbw⟩
    have hkI:(k:Int) + 1 < 11:=by omega
    have hkl:(k:Int) ≤ 64:=by omega
    obtain ⟨c0,c1,c2,c3⟩:=cells_4 (HK.out _ HR.out.below)
    have hws:w.heap.size < wr.heap.size:=(Array.getElem?_eq_some_iff.1 (HK.out _ HR.out.below)).1
    go_wp2_with (go_at_call 74; go_fit (HBR.out ((k:Int) + 1) _ (below_two' HB1.out HR.out.below)))
    rintro e w5 ⟨A,n,cp,rfl,hn,hfw,hb⟩
    have HR5:=Lib.hid (HR.out.keep hb)
    have HF5:=Lib.hid hfw
    have HN:=Lib.hid hn
    have hl1:=HBL.out k
    have hl2:=HBF.out ((k:Int) + 1)
    have HL1:Hid ((F k).length + (B ((k:Int) + 1)).length ≤ maxLen):=Lib.hid (by simp only [maxLen]; omega)
    have HL2:Hid (((F k).length + (B ((k:Int) + 1)).length) * 24 ≤ 140737488355328):=Lib.hid (by omega)
    have HSZ:Hid (W1.heap.size ≤ w5.heap.size):=Lib.hid HR5.out.below.size
    clear hb hfw hn c0 c1 c2 c3 hws hl1 hl2
    go_wp2_with (at_builtin; refine wpList_append_rdk _ rfl (.tmp 16) (.tmp 19) _ rfl W1.heap.size 110 i0 (.agg #[.int .i64 0,.int .i64 0,.int .i64 0]) 3 24 Tryz.underlying79 HI.out.1 HI.out.2.1 HI.out.2.2.1 HI.out.2.2.2 rfl (by decide) _ _ _ rfl HR5.out.1 _ _ _ rfl HF5.out (fwsV_one _) HL1.out HL2.out HSZ.out ?_; intro p2 w6 hrow2 hg2 hob; have HR2:=Lib.hid (RowF.addL HR5.out hrow2 hg2); clear hrow2 hg2 hob)
    go_roundw
    case rel => exact ⟨k + 1,hlt,by go_num,Lib.hid (by rw [HNX.out]; exact HR2.out)⟩
    case measure => simp [intOf]; omega
theorem sis_any:Calls Tryz.prog 30 #[.agg #[.string x.s,.slice eA en ec,.slice vA vn vc,.slice sA sn sc]] w (RetB w (soundC x)):=by
 have HOF:=Lib.hid (fun W (hW:Below w.heap.size w W) => sof_any x eA en ec vA vn vc sA sn sc W (h.keep hW) hm hf)
 have HS:Hid (soundC x = ((ofE x == 0) && decide ((ofF x).length = 0))):=Lib.hid (by
  unfold soundC ofE ofF
  cases mayC x <;> rfl)
 rw [HS.out]
 have HE:Hid (ofE x = 0 ∨ ofE x = 1):=Lib.hid (by unfold ofE; split <;> simp)
 obtain ⟨er,her⟩:∃ er,er = ofE x:=⟨_,rfl⟩
 obtain ⟨fl,hfl⟩:∃ fl,fl = ofF x:=⟨_,rfl⟩
 obtain ⟨nm,hnm⟩:∃ nm,nm = x.s:=⟨_,rfl⟩
 rw [← her,← hfl,← hnm] at HOF
 rw [← her] at HE
 rw [← her,← hfl,← hnm]
 clear h hm hf her hfl hnm HS
 rcases HE.out with rfl | rfl
 all_goals
  go_enter Tryz.func30,Tryz.ntmps30
  go_wp2_with (go_at_call 46; go_fit (HOF.out _ (KitC.below_one _ _)))
  rintro e w2 ⟨A,n,c,rfl,hn,hfw,hb2⟩
  have HB2:=Lib.hid (below_two' (KitC.below_one _ _) hb2)
  have HN:=Lib.hid hn
  clear hn hfw hb2
  go_wp2_with fail
  go_ret
  exact ⟨ret_bool (by rw [← HN.out,Bool.eq_iff_iff]; simp),HB2.out⟩
end
end Go.Proofs.YtapnomdckglehaaGreat
namespace Go.Proofs.YtapnomdckglehaaGreat
open Go.RowKit TermSpec EvalSpec ActSpec NamesSpec ExprSpec TransSpec SynSpec CurSpec ShapeSpec GroupSpec AtlasSpec PrintSpec RulesSpec SoundSpec
set_option maxRecDepth 100000
theorem fewQ_of {x:Cx} (h:FewR x):FewQ x :=
 ⟨by have:=h.evl; omega,by have:=h.val; omega,by have:=h.stl; omega,fun s hs => by
  obtain ⟨h1,h2,h3⟩:=h.sts s hs
  exact ⟨⟨h2.enl,fun a ha => (h2.en a ha).2.2⟩,⟨h2.exl,fun a ha => (h2.ex a ha).2.2⟩,h2.trl,fun t ht => ⟨(h2.tr t ht).gl,(h2.tr t ht).al,fun a ha => ((h2.tr t ht).a a ha).2.2⟩⟩⟩
theorem chIn_here {w:World} {e v s:Value} {x:Cx} (h:ChIn w e v s x):Dep w (fun b => b < w.heap.size) (fun X => ChIn X e v s x):=by
 obtain ⟨ps,h1,h2,h3⟩:=h.sts
 have d1:=(rdk_here (rdk_rd h.evs rfl)).imp fun X g => rd_one g
 have d2:=rdk_here h.vars
 have d3:=(rdk_here h2).and (dep_all fun p hp => spN_here (h3 p hp))
 exact (d1.and (d2.and d3)).imp fun X g => ⟨g.1,g.2.1,ps,h1,g.2.2.1,g.2.2.2⟩
def RetNew (W:World) (x:Cx) (e:Ending) (w':World):Prop:=∃ B,e = .returned (.tuple #[.pointer (some ⟨B,0,none⟩),.int .i64 0]) ∧ AtIn w' B x ∧ W.heap.size ≤ B ∧ Below W.heap.size W w'
def RetNo17 (W:World) (e:Ending) (w':World):Prop:=e = .returned (.tuple #[.pointer none,.int .i64 1]) ∧ Below W.heap.size W w'
theorem at_build (a b c d:Value) (w:World):(Instr.build 63 #[(0,.bool true),(1,.agg #[a,b,c,d])]).run Tryz.prog w = .ok (.agg #[.bool true,a,b,c,d,.int .u32 0,.int .i32 0,.int .u32 0,.slice none 0 0,.slice none 0 0,.slice none 0 0]) w:=run_build w 63 _ _ (by kernel_rfl)
section
variable (x:Cx) (eA:Option Addr) (en ec:Nat) (vA:Option Addr) (vn vc:Nat) (sA:Option Addr) (sn sc:Nat) (w:World) (h:ChIn w (.slice eA en ec) (.slice vA vn vc) (.slice sA sn sc) x) (hm:FitM x) (hf:FewR x)
include h hm hf
set_option maxRecDepth 100000 in
set_option maxHeartbeats 4000000 in
theorem new_no (hs:soundC x = false):Calls Tryz.prog 7 #[.agg #[.string x.s,.slice eA en ec,.slice vA vn vc,.slice sA sn sc]] w (RetNo17 w):=by
 have HIS:=Lib.hid (fun W (hW:Below w.heap.size w W) => sis_any x eA en ec vA vn vc sA sn sc W (h.keep hW) hm hf)
 rw [hs] at HIS
 obtain ⟨nm,hnm⟩:∃ nm,nm = x.s:=⟨_,rfl⟩
 rw [← hnm] at HIS ⊢
 clear h hm hf hs hnm
 go_enter Tryz.func7,Tryz.ntmps7
 go_wp2_with (go_at_call 30; go_fit (HIS.out _ (KitC.below_one _ _)))
 rintro e w2 ⟨rfl,hb⟩
 have HB:=Lib.hid (below_two' (KitC.below_one _ _) hb)
 clear hb
 go_wp2_with fail
 go_ret2
 exact ⟨rfl,HB.out⟩
set_option maxRecDepth 100000 in
set_option maxHeartbeats 4000000 in
theorem new_yes (hs:soundC x = true):Calls Tryz.prog 7 #[.agg #[.string x.s,.slice eA en ec,.slice vA vn vc,.slice sA sn sc]] w (RetNew w x):=by
 have HIS:=Lib.hid (fun W (hW:Below w.heap.size w W) => sis_any x eA en ec vA vn vc sA sn sc W (h.keep hW) hm hf)
 have HCP:=Lib.hid (fun W (hW:Below w.heap.size w W) => copied_any x eA en ec vA vn vc sA sn sc W (h.keep hW) (fewQ_of hf))
 rw [hs] at HIS
 obtain ⟨nm,hnm⟩:∃ nm,nm = x.s:=⟨_,rfl⟩
 have HNM:=Lib.hid hnm
 rw [← hnm] at HIS HCP ⊢
 have hbd:=at_build
 obtain ⟨W1,hW1⟩:∃ W1,w.alloc (.cells #[.string nm,.slice eA en ec,.slice vA vn vc,.slice sA sn sc] 26) = W1:=⟨_,rfl⟩
 have hb1:Below w.heap.size w W1:=by rw [← hW1]; exact KitC.below_one _ _
 have hk1:W1.heap[w.heap.size]? = some (.cells #[.string nm,.slice eA en ec,.slice vA vn vc,.slice sA sn sc] 26):=by rw [← hW1]; exact heap_alloc_new _ _
 have HK:=Lib.hid (fun W (hW:Below W1.heap.size W1 W) => KitC.block_on hk1 hW)
 have HW1:=Lib.hid hW1
 have HB1:=Lib.hid hb1
 obtain ⟨c0,c1,c2,c3⟩:=cells_4 hk1
 clear h hm hf hs hnm hW1 hb1 hk1
 go_enter Tryz.func7,Tryz.ntmps7
 go_wp2_with (rw [HW1.out]; go_at_call 30; go_fit (HIS.out _ HB1.out))
 rintro e w2 ⟨rfl,hb⟩
 have HB2:=Lib.hid hb
 clear hb c0 c1 c2 c3
 obtain ⟨c0,c1,c2,c3⟩:=cells_4 (HK.out _ HB2.out)
 go_wp2_with (go_at_call 31; go_fit (HCP.out _ (below_two' HB1.out HB2.out)))
 rintro e w3 ⟨fA,fc,uA,uc,rA,rc,rfl,hch,hb⟩
 have HCH:=Lib.hid hch
 have HB3:=Lib.hid (below_two' (below_two' HB1.out HB2.out) hb)
 have HNM2:Hid (x.s = nm):=Lib.hid HNM.out.symm
 clear hch hb c0 c1 c2 c3
 rw [HNM2.out]
 go_wp2_with fail
 go_ret2
 refine ⟨w3.heap.size,rfl,.inl ⟨_,_,_,?_,(chIn_here HCH.out.now).keep (KitC.below_one _ _)⟩,HB3.out.size,below_two' HB3.out (KitC.below_one _ _)⟩
 rw [HNM2.out]
 exact heap_alloc_new _ _
end
section
variable (B:Nat) (x:Cx) (w:World) (h:AtIn w B x) (hf:FewR x)
include h hf
end
end Go.Proofs.YtapnomdckglehaaGreat
namespace Go.Proofs.YtapnomdckglehaaGreat
open Go.RowKit TermSpec EvalSpec ActSpec NamesSpec ExprSpec TransSpec SynSpec CurSpec ShapeSpec GroupSpec AtlasSpec PrintSpec
set_option maxRecDepth 100000
theorem kidsTb_few {l:List Sh} (i:Int) (h:l.length ≤ 60):(kidsTb l i).length ≤ 1000000:=by
 unfold kidsTb
 split
 ·have:=kids_le l i.toNat l.length
  unfold kids
  omega
 ·simp
theorem row_fld0 (a b c d:Value) (w:World):(Instr.field 88 (.agg #[a,b,c,d]) 0).run Tryz.prog w = .ok a w:=by kernel_rfl
theorem row_fld1 (a b c d:Value) (w:World):(Instr.field 88 (.agg #[a,b,c,d]) 1).run Tryz.prog w = .ok b w:=by kernel_rfl
theorem row_fld2 (a b c d:Value) (w:World):(Instr.field 88 (.agg #[a,b,c,d]) 2).run Tryz.prog w = .ok c w:=by kernel_rfl
theorem row_fld3 (a b c d:Value) (w:World):(Instr.field 88 (.agg #[a,b,c,d]) 3).run Tryz.prog w = .ok d w:=by kernel_rfl
section
variable (B:Nat) (x:Cx) (w:World) (h:AtIn w B x) (hk:chk (x.sts.map shOf) = 0) (hev:x.evs.length ≤ 1000000) (i:Int)
include h hk hev
theorem kids17:Calls Tryz.prog 17 #[.pointer (some ⟨B,0,none⟩),.int .i64 i] w (RetAt w B x (fun W v => Rd W v (intV (kidsTb (x.sts.map shOf) i)))):=by
 have HR:=Lib.hid (row17 B x w h hk hev i)
 have HF:=Lib.hid (kidsTb_few (l:=x.sts.map shOf) i (chk_ok hk).1)
 obtain ⟨l,hl⟩:∃ l,l = x.sts.map shOf:=⟨_,rfl⟩
 rw [← hl] at HR HF ⊢
 have hfl:=row_fld0
 clear h hk hev hl
 go_enter Tryz.func17,Tryz.ntmps17
 go_wp2_with (go_at_call 41; go_fit HR.out)
 rintro e w2 ⟨v,rfl,⟨A,n,c,rfl,hrd⟩,hD,hg⟩
 have HRD:Hid (Rdk 1 w2 (.slice A n c) (kidsTb l i).length (intV (kidsTb l i))):=Lib.hid (rdk_rd hrd (intV_length _))
 have HD:=Lib.hid hD
 have HG:=Lib.hid hg
 clear hrd hD hg
 go_wp2_with (go_at_call 40; go_fit (clone_int _ _ _ _ HRD.out (intV_one _) HF.out))
 rintro e w3 ⟨A3,c3,rfl,ho,hb⟩
 have HO:=Lib.hid ho
 have HB:=Lib.hid hb
 clear ho hb
 go_wp2_with fail
 go_ret
 exact ⟨_,rfl,rd_one (Rdk.own HO.out),HD.out.keep HB.out,gr_any HG.out (gr_none HB.out none) (by simp)⟩
theorem above17:Calls Tryz.prog 18 #[.pointer (some ⟨B,0,none⟩),.int .i64 i] w (RetAt w B x (fun _ v => v = .int .u64 (aboveTb (x.sts.map shOf) i))):=by
 have HR:=Lib.hid (row17 B x w h hk hev i)
 obtain ⟨l,hl⟩:∃ l,l = x.sts.map shOf:=⟨_,rfl⟩
 rw [← hl] at HR ⊢
 have hfl:=row_fld1
 clear h hk hev hl
 go_enter Tryz.func18,Tryz.ntmps18
 go_wp2_with (go_at_call 41; go_fit HR.out)
 rintro e w2 ⟨v,rfl,⟨A,n,c,rfl,-⟩,hD,hg⟩
 have HD:=Lib.hid hD
 have HG:=Lib.hid hg
 clear hD hg
 go_wp2_with fail
 go_ret
 exact ⟨_,rfl,rfl,HD.out,HG.out⟩
theorem below17:Calls Tryz.prog 19 #[.pointer (some ⟨B,0,none⟩),.int .i64 i] w (RetAt w B x (fun _ v => v = .int .u64 (belowTb (x.sts.map shOf) i))):=by
 have HR:=Lib.hid (row17 B x w h hk hev i)
 obtain ⟨l,hl⟩:∃ l,l = x.sts.map shOf:=⟨_,rfl⟩
 rw [← hl] at HR ⊢
 have hfl:=row_fld2
 clear h hk hev hl
 go_enter Tryz.func19,Tryz.ntmps19
 go_wp2_with (go_at_call 41; go_fit HR.out)
 rintro e w2 ⟨v,rfl,⟨A,n,c,rfl,-⟩,hD,hg⟩
 have HD:=Lib.hid hD
 have HG:=Lib.hid hg
 clear hD hg
 go_wp2_with fail
 go_ret
 exact ⟨_,rfl,rfl,HD.out,HG.out⟩
theorem depth17:Calls Tryz.prog 20 #[.pointer (some ⟨B,0,none⟩),.int .i64 i] w (RetAt w B x (fun _ v => v = .int .i64 (depthTb (x.sts.map shOf) i))):=by
 have HR:=Lib.hid (row17 B x w h hk hev i)
 obtain ⟨l,hl⟩:∃ l,l = x.sts.map shOf:=⟨_,rfl⟩
 rw [← hl] at HR ⊢
 have hfl:=row_fld3
 clear h hk hev hl
 go_enter Tryz.func20,Tryz.ntmps20
 go_wp2_with (go_at_call 41; go_fit HR.out)
 rintro e w2 ⟨v,rfl,⟨A,n,c,rfl,-⟩,hD,hg⟩
 have HD:=Lib.hid hD
 have HG:=Lib.hid hg
 clear hD hg
 go_wp2_with fail
 go_ret
 exact ⟨_,rfl,rfl,HD.out,HG.out⟩
end
end Go.Proofs.YtapnomdckglehaaGreat
namespace Go.Proofs.YtapnomdckglehaaGreat
open Go.RowKit
theorem rdk_whole {k n c b:Nat} {w:World} {cs:Array Value} {T:TypeId} {fr:Nat × Nat} {xs:List Value} (h:w.heap[b]? = some (.cells cs T fr)) (hx:cs.toList = xs) (hl:xs.length = n * k) (hc:n ≤ c):Rdk k w (.slice (some ⟨b,0,none⟩) n c) n xs:=by
 refine ⟨_,c,rfl,hc,hl,fun _ => ⟨b,0,rfl,(Array.getElem?_eq_some_iff.1 h).1,fun j u hj => ?_⟩⟩
 rw [← hx,Array.getElem?_toList] at hj
 simp [World.cell?,h,hj]
end Go.Proofs.YtapnomdckglehaaGreat
namespace Go.Proofs.YtapnomdckglehaaGreat
open Go.RowKit TermSpec EvalSpec ActSpec NamesSpec ExprSpec TransSpec SynSpec CurSpec ShapeSpec GroupSpec AtlasSpec PrintSpec RulesSpec SoundSpec
set_option maxRecDepth 100000
theorem at_below {N B:Nat} {w0 w w':World} (hb:Below N w0 w) (hN:N ≤ w.heap.size) (hg:w.grownBy w' (some B)) (hB:N ≤ B):Below N w0 w':=hb.grown hg hN (fun j e => by injection e with e; omega)
def sx17 (s:UInt8) (k p:Int):Sx:=⟨⟨#[s]⟩,k,p,[],[],[]⟩
def x17:Cx:=⟨⟨#[99]⟩,[⟨#[122]⟩,⟨#[121]⟩],[],[sx17 116 2 (-1),sx17 97 1 0,sx17 98 1 0]⟩
theorem few17 {s:Sx} (h:s ∈ x17.sts):s.s.size = 1 ∧ s.en = [] ∧ s.ex = [] ∧ s.tr = []:=by
 rcases List.mem_cons.1 h with rfl | h
 ·exact ⟨rfl,rfl,rfl,rfl⟩
 rcases List.mem_cons.1 h with rfl | h
 ·exact ⟨rfl,rfl,rfl,rfl⟩
 rw [List.mem_singleton.1 h]
 exact ⟨rfl,rfl,rfl,rfl⟩
theorem ev17 {s:ByteArray} (h:s ∈ x17.evs):s.size ≤ 9223372036854775807:=by
 rcases List.mem_cons.1 h with rfl | h
 ·decide
 rw [List.mem_singleton.1 h]
 decide
theorem x17_few:FewR x17:=by
 have z1:x17.evs.length ≤ 1000:=by decide
 have z2:x17.vars.length ≤ 1000:=by decide
 have z3:x17.sts.length ≤ 1000:=by decide
 refine ⟨fun s h => ev17 h,z1,(fun v h => by cases h),z2,fun s h => ?_,z3⟩
 obtain ⟨h1,h2,h3,h4⟩:=few17 h
 refine ⟨by omega,⟨?_,?_,?_,?_,?_,?_⟩,by rw [h4]; decide⟩
 ·rw [h2]; simp
 ·rw [h2]; decide
 ·rw [h3]; simp
 ·rw [h3]; decide
 ·rw [h4]; simp
 ·rw [h4]; decide
theorem x17_fit:FitM x17:=by
 have z3:x17.sts.length ≤ 100000:=by decide
 refine ⟨by decide,fun s h => ev17 h,(fun v h => by cases h),z3,fun s h => ?_⟩
 obtain ⟨h1,h2,h3,h4⟩:=few17 h
 rw [h2,h3,h4]
 exact ⟨by omega,by simp,by decide,by simp,by decide,by decide,by simp⟩
theorem zero_few17:FewR zeroC:=⟨(fun s h => by cases h),by decide,(fun v h => by cases h),by decide,(fun s h => by cases h),by decide⟩
theorem zero_fit17:FitM zeroC:=⟨by decide,(fun s h => by cases h),(fun v h => by cases h),by decide,fun s h => by cases h⟩
theorem x17_sound:soundC x17 = true:=by decide +kernel
theorem zero_sound17:soundC zeroC = false:=by decide +kernel
theorem x17_chk:chk (x17.sts.map shOf) = 0:=by decide +kernel
theorem x17_below:belowTb (x17.sts.map shOf) 0 = 7:=by decide +kernel
theorem x17_above:aboveTb (x17.sts.map shOf) 2 = 1:=by decide +kernel
theorem x17_place:Go.Lib.idxOfS (x17.sts.map (·.s)) ⟨#[98]⟩ = 2:=by decide +kernel
theorem x17_depth:depthTb (x17.sts.map shOf) 1 = 2:=by decide +kernel
theorem x17_kids:kidsTb (x17.sts.map shOf) 0 = [1,2]:=by decide +kernel
theorem x17_events:un x17.evs [] = [⟨#[121]⟩,⟨#[122]⟩]:=un_eq (by simp [Rises,NamesSpec.bytesOf]; decide) fun s => by
 show s ∈ [(⟨#[121]⟩:ByteArray),⟨#[122]⟩] ↔ s ∈ [(⟨#[122]⟩:ByteArray),⟨#[121]⟩] ∨ s ∈ []
 simp only [List.mem_cons,List.not_mem_nil,or_false]
 exact Or.comm
theorem sb17a (s:ByteArray) (a b:Int) (w:World):(Instr.build 72 #[(0,.string s),(1,.int .i64 a),(2,.int .i64 b)]).run Tryz.prog w = .ok (.agg #[.string s,.int .i64 a,.int .i64 b,.slice none 0 0,.slice none 0 0,.slice none 0 0]) w:=run_build w 72 _ _ (by kernel_rfl)
theorem sb17b (s:ByteArray) (a:Int) (w:World):(Instr.build 72 #[(0,.string s),(1,.int .i64 a)]).run Tryz.prog w = .ok (.agg #[.string s,.int .i64 a,.int .i64 0,.slice none 0 0,.slice none 0 0,.slice none 0 0]) w:=run_build w 72 _ _ (by kernel_rfl)
theorem cb17 (s:ByteArray) (A B:Option Addr) (n c m d:Nat) (w:World):(Instr.build 26 #[(0,.string s),(1,.slice A n c),(3,.slice B m d)]).run Tryz.prog w = .ok (.agg #[.string s,.slice A n c,.slice none 0 0,.slice B m d]) w:=run_build w 26 _ _ (by kernel_rfl)
abbrev evO17:Obj:=.cells #[.string ⟨#[122]⟩,.string ⟨#[121]⟩] 9
abbrev stO17:Obj:=.cells #[.string ⟨#[116]⟩,.int .i64 2,.int .i64 (-1),.slice none 0 0,.slice none 0 0,.slice none 0 0,.string ⟨#[97]⟩,.int .i64 1,.int .i64 0,.slice none 0 0,.slice none 0 0,.slice none 0 0,.string ⟨#[98]⟩,.int .i64 1,.int .i64 0,.slice none 0 0,.slice none 0 0,.slice none 0 0] 72
theorem x17_in {W:World} {b:Nat} (h1:W.heap[b]? = some evO17) (h2:W.heap[b + 1]? = some stO17):ChIn W (.slice (some ⟨b,0,none⟩) 2 2) (.slice none 0 0) (.slice (some ⟨b + 1,0,none⟩) 3 3) x17:=by
 refine ⟨rd_one (rdk_whole (n:=2) (k:=1) h1 rfl rfl (Nat.le_refl _)),Rdk.nil 4 _,⟨[⟨sx17 116 2 (-1),none,0,0,none,0,0,none,0,0⟩,⟨sx17 97 1 0,none,0,0,none,0,0,none,0,0⟩,⟨sx17 98 1 0,none,0,0,none,0,0,none,0,0⟩],rfl,rdk_whole h2 rfl rfl (Nat.le_refl _),fun p hp => ?_⟩⟩
 have hz:∀ y,Acs y (.slice none 0 0) []:=fun y => acs_nil y
 have key:∀ s k q,spN ⟨sx17 s k q,none,0,0,none,0,0,none,0,0⟩ W:=fun s k q => ⟨hz _,hz _,⟨[],rfl,Rdk.nil _ _,fun q hq => by cases hq⟩⟩
 rcases List.mem_cons.1 hp with rfl | hp
 ·exact key _ _ _
 rcases List.mem_cons.1 hp with rfl | hp
 ·exact key _ _ _
 rw [List.mem_singleton.1 hp]
 exact key _ _ _
theorem new_x17 {W:World} {b:Nat} (h1:W.heap[b]? = some evO17) (h2:W.heap[b + 1]? = some stO17):Calls Tryz.prog 7 #[.agg #[.string ⟨#[99]⟩,.slice (some ⟨b,0,none⟩) 2 2,.slice none 0 0,.slice (some ⟨b + 1,0,none⟩) 3 3]] W (RetNew W x17) :=
 new_yes x17 _ _ _ _ _ _ _ _ _ W (x17_in h1 h2) x17_fit x17_few x17_sound
theorem new_zero17 (W:World):Calls Tryz.prog 7 #[.agg #[.string ⟨#[]⟩,.slice none 0 0,.slice none 0 0,.slice none 0 0]] W (RetNo17 W) :=
 new_no zeroC _ _ _ _ _ _ _ _ _ W (ChIn.zero W) zero_fit17 zero_few17 zero_sound17
theorem x17_evl:x17.evs.length ≤ 1000000:=by decide
section
variable {B:Nat} {W:World} (h:AtIn W B x17)
include h
theorem bel17:Calls Tryz.prog 19 #[.pointer (some ⟨B,0,none⟩),.int .i64 0] W (RetAt W B x17 (fun _ v => v = .int .u64 7)):=by
 have:=below17 B x17 W h x17_chk x17_evl 0
 rwa [x17_below] at this
theorem abo17:Calls Tryz.prog 18 #[.pointer (some ⟨B,0,none⟩),.int .i64 2] W (RetAt W B x17 (fun _ v => v = .int .u64 1)):=by
 have:=above17 B x17 W h x17_chk x17_evl 2
 rwa [x17_above] at this
theorem pla17:Calls Tryz.prog 12 #[.pointer (some ⟨B,0,none⟩),.string ⟨#[98]⟩] W (RetAt W B x17 (fun _ v => v = .int .i64 2)):=by
 have:=place17 B x17 W h x17_chk x17_evl ⟨#[98]⟩
 rwa [x17_place] at this
theorem dep17:Calls Tryz.prog 20 #[.pointer (some ⟨B,0,none⟩),.int .i64 1] W (RetAt W B x17 (fun _ v => v = .int .i64 2)):=by
 have:=depth17 B x17 W h x17_chk x17_evl 1
 rwa [x17_depth] at this
theorem kid17:Calls Tryz.prog 17 #[.pointer (some ⟨B,0,none⟩),.int .i64 0] W (RetAt W B x17 (fun W v => Rd W v (intV [1,2]))):=by
 have:=kids17 B x17 W h x17_chk x17_evl 0
 rwa [x17_kids] at this
theorem evs17:Calls Tryz.prog 15 #[.pointer (some ⟨B,0,none⟩)] W (RetAt W B x17 (fun W v => RdS W v [⟨#[121]⟩,⟨#[122]⟩])):=by
 have:=events17 B x17 W h x17_chk x17_evl
 rwa [x17_events] at this
end
set_option maxRecDepth 100000 in
set_option maxHeartbeats 8000000 in
theorem awake17 (w:World):Calls Tryz.prog 6 #[] w (RetB w true):=by
 have b1:=sb17a
 have b2:=sb17b
 have b3:=cb17
 have b4:=cb_zero
 obtain ⟨W2,hW2⟩:∃ W2,(w.alloc evO17).alloc stO17 = W2:=⟨_,rfl⟩
 have hb2:Below w.heap.size w W2:=by rw [← hW2]; exact KitC.below_pair _ _ _
 have h1:W2.heap[w.heap.size]? = some evO17:=by rw [← hW2]; exact (heap_alloc_old _ _ (by simp)).trans (heap_alloc_new _ _)
 have h2:W2.heap[w.heap.size + 1]? = some stO17:=by rw [← hW2]; have:=heap_alloc_new (w.alloc evO17) stO17; rwa [World.size_alloc] at this
 have HN:=Lib.hid (new_x17 h1 h2)
 have HB2:=Lib.hid hb2
 have HW2:=Lib.hid hW2
 clear hb2 h1 h2 hW2
 go_enter Tryz.func6,Tryz.ntmps6
 go_wp2_with (rw [HW2.out]; go_at_call 7; go_fit HN.out)
 rintro e w3 ⟨B,rfl,hat,hB,hb⟩
 have HA3:=Lib.hid hat
 have HBB:Hid (w.heap.size ≤ B):=Lib.hid (Nat.le_trans HB2.out.size hB)
 have HB3:=Lib.hid (below_two' HB2.out hb)
 clear hat hB hb
 go_wp2_with (go_at_call 7; go_fit (new_zero17 w3))
 rintro e w4 ⟨rfl,hb⟩
 have HA4:=Lib.hid (HA3.out.keep hb)
 have HB4:=Lib.hid (below_two' HB3.out hb)
 clear hb
 go_wp2_with (go_at_call 9; go_fit (AtIn.good B x17 w4 HA4.out))
 rintro e w5 ⟨rfl,rfl⟩
 go_wp2_with (go_at_call 19; go_fit (bel17 HA4.out))
 rintro e w5 ⟨v,rfl,rfl,hat,hg⟩
 have HA5:=Lib.hid hat
 have HB5:=Lib.hid (at_below HB4.out HB4.out.size hg HBB.out)
 clear hat hg
 go_wp2_with (go_at_call 18; go_fit (abo17 (.inr HA5.out)))
 rintro e w6 ⟨v,rfl,rfl,hat,hg⟩
 have HA6:=Lib.hid hat
 have HB6:=Lib.hid (at_below HB5.out HB5.out.size hg HBB.out)
 clear hat hg
 go_wp2_with (go_at_call 12; go_fit (pla17 (.inr HA6.out)))
 rintro e w7 ⟨v,rfl,rfl,hat,hg⟩
 have HA7:=Lib.hid hat
 have HB7:=Lib.hid (at_below HB6.out HB6.out.size hg HBB.out)
 clear hat hg
 go_wp2_with (go_at_call 20; go_fit (dep17 (.inr HA7.out)))
 rintro e w8 ⟨v,rfl,rfl,hat,hg⟩
 have HA8:=Lib.hid hat
 have HB8:=Lib.hid (at_below HB7.out HB7.out.size hg HBB.out)
 clear hat hg
 go_wp2_with (go_at_call 17; go_fit (kid17 (.inr HA8.out)))
 rintro e w9 ⟨v,rfl,hr,hat,hg⟩
 obtain ⟨A9,n9,c9,rfl,hn9,-⟩:=hr.ints
 obtain rfl:n9 = 2:=hn9.symm
 have HA9:=Lib.hid hat
 have HB9:=Lib.hid (at_below HB8.out HB8.out.size hg HBB.out)
 clear hat hg hr
 go_wp2_with (go_at_call 15; go_fit (evs17 (.inr HA9.out)))
 rintro e wa ⟨v,rfl,hr,hat,hg⟩
 have HRA:=Lib.hid hr
 have HBA:=Lib.hid (at_below HB9.out HB9.out.size hg HBB.out)
 clear hat hg hr
 have HTX:=Lib.hid (texts_any v (.slice (some ⟨wa.heap.size,0,none⟩) 2 2) [⟨#[121]⟩,⟨#[122]⟩] [⟨#[121]⟩,⟨#[122]⟩] (wa.alloc (.cells #[.string ⟨#[121]⟩,.string ⟨#[122]⟩] 9)) (Rd.keep HRA.out (KitC.below_one _ _)) (lit_here rfl rfl rfl) (by decide))
 go_wp2_with (go_at_call 14; go_fit HTX.out)
 rintro e wb hq
 have hq':=hq.below
 rw [show sameS [(⟨#[121]⟩:ByteArray),⟨#[122]⟩] [⟨#[121]⟩,⟨#[122]⟩] = true from decide_eq_true rfl] at hq'
 obtain ⟨rfl,hb⟩:=hq'
 have HBC:=Lib.hid (below_two' HBA.out (below_two' (KitC.below_one _ _) hb))
 clear hb hq
 go_wp2_with fail
 go_ret
 exact ⟨rfl,HBC.out⟩
end Go.Proofs.YtapnomdckglehaaGreat
namespace Go.Proofs.YtapnomdckglehaaGreat
open Go.RowKit TermSpec EvalSpec ActSpec NamesSpec ExprSpec TransSpec SynSpec CurSpec ShapeSpec GroupSpec AtlasSpec PrintSpec
set_option maxRecDepth 100000
theorem row_build0 (w:World):(Instr.build 88 #[]).run Tryz.prog w = .ok (.agg #[.slice none 0 0,.int .u64 0,.int .u64 0,.int .i64 0]) w:=run_build w 88 _ _ (by kernel_rfl)
def RetV17 (W:World) (v:Value) (e:Ending) (w':World):Prop:=e = .returned v ∧ Below W.heap.size W w'
theorem clone_int_nil (w:World):Calls Tryz.prog 40 #[.slice none 0 0] w fun e w' => e = .returned (.slice none 0 0) ∧ w' = w:=by
 have q22:∀ (w:World) (a:Option Addr) (n c n' c':Nat),(binOp .eql 40 (.slice a n c) (.slice none n' c')).run Tryz.prog w = .ok (.bool a.isNone) w:=fun w a n c n' c' => Lib.run_eql_slice_nil w _ _ a n c n' c' Tryz.underlying40
 go_enter Tryz.func40,Tryz.ntmps40
 go_wp2
 go_ret
 exact ⟨rfl,rfl⟩
section
variable (p:Value) (w:World) (h:∀ W,Below w.heap.size w W → Calls Tryz.prog 9 #[p] W (SameB W false))
include h
set_option maxRecDepth 100000 in
set_option maxHeartbeats 4000000 in
theorem nchart:Calls Tryz.prog 11 #[p] w (RetV17 w (.agg #[.string ⟨#[]⟩,.slice none 0 0,.slice none 0 0,.slice none 0 0])):=by
 have HG:=Lib.hid h
 have hcb:=cb_zero
 clear h
 go_enter Tryz.func11,Tryz.ntmps11
 go_wp2_with (go_at_call 9; go_fit (HG.out _ (KitC.below_one _ _)))
 rintro e w2 ⟨rfl,rfl⟩
 go_wp2_with fail
 refine bodyPost_ret (v:=.agg #[.string ⟨#[]⟩,.slice none 0 0,.slice none 0 0,.slice none 0 0]) (by simp [results,Tryz.results11,go_sem]) rfl ?_
 exact ⟨rfl,KitC.below_one _ _⟩
set_option maxRecDepth 100000 in
set_option maxHeartbeats 4000000 in
theorem nrow (i:Int):Calls Tryz.prog 41 #[p,.int .i64 i] w (RetV17 w (.agg #[.slice none 0 0,.int .u64 0,.int .u64 0,.int .i64 0])):=by
 have HG:=Lib.hid h
 have hcb:=row_build0
 clear h
 go_enter Tryz.func41,Tryz.ntmps41
 go_wp2_with (go_at_call 9; go_fit (HG.out _ (KitC.below_one _ _)))
 rintro e w2 ⟨rfl,rfl⟩
 go_wp2_with fail
 refine bodyPost_ret (v:=.agg #[.slice none 0 0,.int .u64 0,.int .u64 0,.int .i64 0]) (by simp [results,Tryz.results41,go_sem]) rfl ?_
 exact ⟨rfl,KitC.below_one _ _⟩
set_option maxRecDepth 100000 in
set_option maxHeartbeats 4000000 in
theorem nplace (s:ByteArray):Calls Tryz.prog 12 #[p,.string s] w (SameI w (-1)):=by
 have HG:=Lib.hid h
 clear h
 go_enter Tryz.func12,Tryz.ntmps12
 go_wp2_with (go_at_call 9; go_fit (HG.out _ (Below.refl _ _)))
 rintro e w2 ⟨rfl,rfl⟩
 go_wp2_with fail
 go_ret
 exact ⟨rfl,rfl⟩
set_option maxRecDepth 100000 in
set_option maxHeartbeats 4000000 in
theorem nevents:Calls Tryz.prog 15 #[p] w (RetV17 w (.slice none 0 0)):=by
 have HG:=Lib.hid h
 clear h
 go_enter Tryz.func15,Tryz.ntmps15
 go_wp2_with (go_at_call 9; go_fit (HG.out _ (Below.refl _ _)))
 rintro e w2 ⟨rfl,rfl⟩
 go_wp2_with fail
 go_ret
 exact ⟨rfl,Below.refl _ _⟩
set_option maxRecDepth 100000 in
set_option maxHeartbeats 4000000 in
theorem nkids (i:Int):Calls Tryz.prog 17 #[p,.int .i64 i] w (RetV17 w (.slice none 0 0)):=by
 have HR:=Lib.hid (nrow p w h i)
 have hfl:=row_fld0
 clear h
 go_enter Tryz.func17,Tryz.ntmps17
 go_wp2_with (go_at_call 41; go_fit HR.out)
 rintro e w2 ⟨rfl,hb⟩
 have HB:=Lib.hid hb
 clear hb
 go_wp2_with (go_at_call 40; go_fit (clone_int_nil w2))
 rintro e w3 ⟨rfl,rfl⟩
 go_wp2_with fail
 go_ret
 exact ⟨rfl,HB.out⟩
set_option maxRecDepth 100000 in
set_option maxHeartbeats 4000000 in
theorem nabove (i:Int):Calls Tryz.prog 18 #[p,.int .i64 i] w (RetV17 w (.int .u64 0)):=by
 have HR:=Lib.hid (nrow p w h i)
 have hfl:=row_fld1
 clear h
 go_enter Tryz.func18,Tryz.ntmps18
 go_wp2_with (go_at_call 41; go_fit HR.out)
 rintro e w2 ⟨rfl,hb⟩
 have HB:=Lib.hid hb
 clear hb
 go_wp2_with fail
 go_ret
 exact ⟨rfl,HB.out⟩
set_option maxRecDepth 100000 in
set_option maxHeartbeats 4000000 in
theorem nbelow (i:Int):Calls Tryz.prog 19 #[p,.int .i64 i] w (RetV17 w (.int .u64 0)):=by
 have HR:=Lib.hid (nrow p w h i)
 have hfl:=row_fld2
 clear h
 go_enter Tryz.func19,Tryz.ntmps19
 go_wp2_with (go_at_call 41; go_fit HR.out)
 rintro e w2 ⟨rfl,hb⟩
 have HB:=Lib.hid hb
 clear hb
 go_wp2_with fail
 go_ret
 exact ⟨rfl,HB.out⟩
set_option maxRecDepth 100000 in
set_option maxHeartbeats 4000000 in
theorem ndepth (i:Int):Calls Tryz.prog 20 #[p,.int .i64 i] w (RetV17 w (.int .i64 0)):=by
 have HR:=Lib.hid (nrow p w h i)
 have hfl:=row_fld3
 clear h
 go_enter Tryz.func20,Tryz.ntmps20
 go_wp2_with (go_at_call 41; go_fit HR.out)
 rintro e w2 ⟨rfl,hb⟩
 have HB:=Lib.hid hb
 clear hb
 go_wp2_with fail
 go_ret
 exact ⟨rfl,HB.out⟩
end
end Go.Proofs.YtapnomdckglehaaGreat