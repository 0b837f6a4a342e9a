/- RulesRefF, SoundOf, AtlasNew, AtlasRows, KitW, joined. -/
import Derived.Test.YtapnomdckglehaaGreatMAtlasTells29
import Derived.Test.YtapnomdckglehaaGreatMAtlasTells31
import Derived.Test.YtapnomdckglehaaGreatMAtlasTells16
import Derived.Test.YtapnomdckglehaaGreatMAtlasTells20
import Derived.Test.YtapnomdckglehaaGreatMAtlasTells25
import Derived.Test.YtapnomdckglehaaGreatMAtlasTells15
import Derived.Test.YtapnomdckglehaaGreatMAtlasTells00
namespace Go.Proofs.YtapnomdckglehaaGreat
open Go.RowKit Go.Sort TermSpec NamesSpec EvalSpec ActSpec TransSpec SynSpec RulesSpec PrintSpec
open ShapeSpec (Sh kids)
set_option maxRecDepth 100000
theorem acts_whole {l:List Ac} (h:chkA l = 0):∀ a ∈ l,a.any = false → wholeB a.x = true:=by
 intro a ha hn
 have h1:=firstA_all (chkA_ok h).2 a ha
 unfold oneA at h1
 split at h1
 ·cases h1
 ·first
  | exact (chk_ok h1).1
  | (rw [if_pos hn] at h1; exact (chk_ok h1).1)
theorem trans_whole {t:Tr} (h:chkT t = 0):(¬ t.g.length = 0 → wholeB t.g = true) ∧ chkA t.acts = 0:=by
 unfold chkT at h
 split at h
 ·cases h
 ·split at h
  ·rename_i h1
   exact absurd h h1.2
  ·rename_i h1
   refine ⟨fun hg => ?_,h⟩
   by_cases hc:chk t.g = 0
   ·exact (chk_ok hc).1
   ·exact absurd ⟨hg,hc⟩ h1
theorem mayR_of {x:Cx} (h:mayC x = true):MayR x ∧ ShapeSpec.chk (x.sts.map shOf) = 0:=by
 unfold mayC at h
 simp only [Bool.and_eq_true,decide_eq_true_eq,List.all_eq_true] at h
 obtain ⟨-,-,-,hc,-,hv,hs⟩:=h
 refine ⟨⟨fun v hv' => ?_,fun s hs' => ?_,fun s hs' => ?_⟩,hc⟩
 ·have:=hv v hv'
  unfold okV smallV at this
  simp only [Bool.and_eq_true,decide_eq_true_eq] at this
  omega
 ·obtain ⟨k,hk⟩:=List.mem_iff_getElem?.1 hs'
  have hkl:=get_lt hk
  have hg:=ShapeSpec.chk_su hc k (by rw [List.length_map]; exact hkl)
  unfold ShapeSpec.goodB at hg
  rw [ShapeSpec.kind_at (s:=shOf s) (by rw [List.getElem?_map,hk]; rfl)] at hg
  simp only [Bool.and_eq_true,decide_eq_true_eq] at hg
  exact hg.1
 ·have:=hs s hs'
  unfold okS at this
  simp only [Bool.and_eq_true,decide_eq_true_eq,List.all_eq_true] at this
  obtain ⟨-,h1,h2,-,h3⟩:=this
  exact ⟨acts_whole h1,acts_whole h2,fun t ht => ⟨(trans_whole (h3 t ht)).1,acts_whole (trans_whole (h3 t ht)).2⟩⟩
theorem fewR_of {x:Cx} (h:LightC x) (f:FitC x) (hv:∀ v ∈ x.vars,VFit v):FewR x:=by
 refine ⟨f.evs,by have:=h.evl; omega,fun v hv' => ⟨f.vars v hv',hv v hv'⟩,by have:=h.val; omega,fun s hs => ?_,by have:=h.stl; omega⟩
 obtain ⟨a1,a2,a3⟩:=h.ac s hs
 obtain ⟨b1,b2,b3⟩:=h.enl s hs
 obtain ⟨f1,f2,f3,f4⟩:=f.sts s hs
 refine ⟨f1,⟨fun a ha => ⟨(f2 a ha).1,(f2 a ha).2,by have:=(a1 a ha).2; omega⟩,by omega,fun a ha => ⟨(f3 a ha).1,(f3 a ha).2,by have:=(a2 a ha).2; omega⟩,by omega,fun t ht => ?_,by omega⟩,by omega⟩
 obtain ⟨g1,g2,g3,g4⟩:=f4 t ht
 exact ⟨g1,g2,g3,by have:=(a3 t ht).2.2.2; omega,fun a ha => ⟨(g4 a ha).1,(g4 a ha).2,by have:=((a3 t ht).2.1 a ha).2; omega⟩,by have:=(a3 t ht).1; omega⟩
section
variable (x:Cx) (eA:Option Addr) (en ec:Nat) (vA:Option Addr) (vn vc:Nat) (sA:Option Addr) (sn sc:Nat) (w:World) (h:ChIn w (.slice eA en ec) (.slice vA vn vc) (.slice sA sn sc) x) (hf:FewR x) (hm:MayR x)
include h hf hm
theorem rbk_any (rule:Int) (h1:1 ≤ rule) (h2:rule ≤ 10):Calls Tryz.prog 33 #[.agg #[.string x.s,.slice eA en ec,.slice vA vn vc,.slice sA sn sc],.int .i64 rule] w (RetFw w (brk x rule)):=by
 have hvn:=h.vars.len.1
 have hsn:=h.sts.len.1
 obtain ⟨_,_,_,heq,hen,-,-⟩:=Rd.strs h.evs
 cases heq
 have e1:=hf.evl; have e2:=hf.val; have e3:=hf.stl
 by_cases k1:rule = 1
 ·subst k1
  rw [show brk x 1 = itemsF 1 (plTo (twinB x.evs) en) by rw [← hen,← twins_pl]; rfl]
  exact rbk_items x eA en ec vA vn vc sA sn sc w 1 en (twinB x.evs) (.inl ⟨rfl,rfl⟩) (by omega) fun i hi W hW => ritem_1 x eA en ec vA vn vc sA sn sc W (h.keep hW) i hi (by omega)
 by_cases k2:rule = 2
 ·subst k2
  rw [show brk x 2 = itemsF 2 (plTo (twinB (vnC x)) vn) by rw [show vn = (vnC x).length by unfold vnC; rw [List.length_map,hvn],← twins_pl]; rfl]
  exact rbk_items x eA en ec vA vn vc sA sn sc w 2 vn (twinB (vnC x)) (.inr (.inl ⟨rfl,rfl⟩)) (by omega) fun i hi W hW => ritem_2 x eA en ec vA vn vc sA sn sc W (h.keep hW) i hi (by omega)
 by_cases k3:rule = 3
 ·subst k3
  rw [show brk x 3 = itemsF 3 (plTo (illB x.vars) vn) by rw [hvn]; rfl]
  exact rbk_items x eA en ec vA vn vc sA sn sc w 3 vn (illB x.vars) (.inr (.inr (.inl ⟨rfl,rfl⟩))) (by omega) fun i hi W hW => ritem_3 x eA en ec vA vn vc sA sn sc W (h.keep hW) i hi (by omega) hm.vars
 by_cases k4:rule = 4
 ·subst k4
  rw [show brk x 4 = itemsF 4 (plTo (twinB (snC x)) sn) by rw [show sn = (snC x).length by unfold snC; rw [List.length_map,hsn],← twins_pl]; rfl]
  exact rbk_items x eA en ec vA vn vc sA sn sc w 4 sn (twinB (snC x)) (.inr (.inr (.inr (.inl ⟨rfl,rfl⟩)))) (by omega) fun i hi W hW => ritem_4 x eA en ec vA vn vc sA sn sc W (h.keep hW) i hi (by omega)
 by_cases k5:rule = 5
 ·subst k5
  rw [show brk x 5 = itemsF 5 (plTo (loneB (x.sts.map shOf)) sn) by rw [hsn]; rfl]
  exact rbk_items x eA en ec vA vn vc sA sn sc w 5 sn (loneB (x.sts.map shOf)) (.inr (.inr (.inr (.inr ⟨rfl,rfl⟩)))) (by omega) fun i hi W hW => ritem_5 x eA en ec vA vn vc sA sn sc W (h.keep hW) i hi (by omega) hm.kind
 rw [show brk x rule = ptTo x.evs (vnC x) (snC x) rule x.sts x.sts.length by unfold brk; rw [if_neg k1,if_neg k2,if_neg k3,if_neg k4,if_neg k5]]
 by_cases k10:rule = 10
 ·subst k10
  refine rbk_ten x eA en ec vA vn vc sA sn sc w h hf fun s hs l hl A n c W hW hT => ?_
  obtain ⟨m1,m2,m3⟩:=hm.acts s hs
  obtain ⟨f1,f2,f3⟩:=hf.sts s hs
  rcases hl with rfl | rfl
  ·exact racts14_any x eA en ec vA vn vc sA sn sc W (h.keep hW) (by omega) (by omega) A n c s.en false hT m1 f2.en (by have:=hT.len.1; have:=f2.enl; omega)
  ·exact racts14_any x eA en ec vA vn vc sA sn sc W (h.keep hW) (by omega) (by omega) A n c s.ex false hT m2 f2.ex (by have:=hT.len.1; have:=f2.exl; omega)
 ·refine rbk_trans x eA en ec vA vn vc sA sn sc w h hf rule (by omega) fun s hs t ht gA gn gc aA an ac W hW hT => ?_
  obtain ⟨m1,m2,m3⟩:=hm.acts s hs
  obtain ⟨f1,f2,f3⟩:=hf.sts s hs
  exact rtrans14_any x eA en ec vA vn vc sA sn sc W (h.keep hW) (by omega) (by omega) t gA gn gc aA an ac hT (f2.tr t ht) (by omega) (m3 t ht).1 (m3 t ht).2 rule (by omega)
end
end Go.Proofs.YtapnomdckglehaaGreat
namespace Go.Proofs.YtapnomdckglehaaGreat
open Go.RowKit TermSpec NamesSpec EvalSpec ActSpec TransSpec SynSpec RulesSpec PrintSpec SoundSpec
set_option maxRecDepth 100000
theorem RowF.addL {W wr w2:World} {p p':Value} {xs ys:List Fw} (h:RowF W wr p xs) (hrow:w2.ownsRow W.heap.size 110 3 p' (xs.length + ys.length) (fwsV xs ++ fwsV ys)) (hg:wr.grownBy w2 p.ownBlock):RowF W w2 p' (xs ++ ys):=by
 refine ⟨?_,h.2.grown hg h.2.size (fun j hj => (own_block_bd h.1 j hj).1)⟩
 rw [← fwsV_append,List.length_append]
 exact hrow
theorem brk_few15 {x:Cx} (hf:FewR x) (r:Int):(brk x r).length ≤ 1000000:=by
 have h1:=hf.evl; have h2:=hf.val; have h3:=hf.stl
 unfold brk
 split
 ·rw [itemsF_length]; exact Nat.le_trans (twinsTo_length _ _) (by omega)
 split
 ·rw [itemsF_length]; exact Nat.le_trans (twinsTo_length _ _) (by unfold vnC; rw [List.length_map]; omega)
 split
 ·rw [itemsF_length]; exact Nat.le_trans (plTo_length _ _) (by omega)
 split
 ·rw [itemsF_length]; exact Nat.le_trans (twinsTo_length _ _) (by unfold snC; rw [List.length_map]; omega)
 split
 ·rw [itemsF_length]; exact Nat.le_trans (plTo_length _ _) (by omega)
 exact Nat.le_trans (ptTo_length (fun s hs => (hf.sts s hs).2.2) _) (by omega)
def RetOf (W:World) (l:List Fw) (er:Int) (e:Ending) (w':World):Prop:=∃ A n c,e = .returned (.tuple #[.slice A n c,.int .i64 er]) ∧ n = l.length ∧ Fws w' (.slice A n c) l ∧ Below W.heap.size W w'
theorem RowF.retOf {W wr:World} {p:Value} {xs:List Fw} (h:RowF W wr p xs):RetOf W xs 0 (.returned (.tuple #[p,.int .i64 0])) wr:=by
 obtain ⟨A,n,c,rfl,hn⟩:=h.fws.shape
 exact ⟨A,n,c,rfl,hn,h.fws,h.2⟩
def SoRel (W1:World) (F:Nat → List Fw) (p i:Value) (wr:World):Prop:=∃ k:Nat,k ≤ 10 ∧ i = .int .i64 ((k:Int) + 1) ∧ Hid (RowF W1 wr p (F k))
def ofF (x:Cx):List Fw:=if mayC x = true then flawsC x else []
def ofE (x:Cx):Int:=if mayC x = true then 0 else 1
section
variable (x:Cx) (eA:Option Addr) (en ec:Nat) (vA:Option Addr) (vn vc:Nat) (sA:Option Addr) (sn sc:Nat) (w:World) (h:ChIn w (.slice eA en ec) (.slice vA vn vc) (.slice sA sn sc) x) (hm:FitM x) (hf:FewR x)
include h hm hf
set_option maxRecDepth 100000 in
set_option maxHeartbeats 8000000 in
theorem sof_any:Calls Tryz.prog 46 #[.agg #[.string x.s,.slice eA en ec,.slice vA vn vc,.slice sA sn sc]] w (RetOf w (ofF x) (ofE x)):=by
 obtain ⟨hvn,-⟩:=h.vars.len
 obtain ⟨_,_,_,heq,hen,-,-⟩:=Rd.strs h.evs
 cases heq
 have e1:=hf.evl; have e2:=hf.val
 have HCK:=Lib.hid (fun W (hW:Below w.heap.size w W) => pcheck_any x eA en ec vA vn vc sA sn sc W (h.keep hW) hm (by omega) (by omega))
 have HBR:=Lib.hid (fun (hc:mayC x = true) (r:Int) W (hW:Below w.heap.size w W) => rbroken_any x eA en ec vA vn vc sA sn sc W (h.keep hW) hf (mayR_of hc).2 r)
 have HBL:Hid (∀ k,(allTo x k).length ≤ k * 1000000):=Lib.hid (fun k => allTo_length (n:=1000000) (fun r => brk_few15 hf r) k)
 have HBF:Hid (∀ r,(brk x r).length ≤ 1000000):=Lib.hid (fun r => brk_few15 hf r)
 obtain ⟨i0,hi,hz0,hz1,hz2⟩:=info_parts inf_flaw
 have HI:=Lib.hid (And.intro hi (And.intro hz0 (And.intro hz1 hz2)))
 obtain ⟨nm,hnm⟩:∃ nm,nm = x.s:=⟨_,rfl⟩
 rw [← hnm] at HCK HBR ⊢
 obtain ⟨W1,hW1⟩:∃ W1,w.alloc (.cells #[.string nm,.slice eA en ec,.slice vA vn vc,.slice sA sn sc] 26) = W1:=⟨_,rfl⟩
 have hb1:Below w.heap.size w W1:=by rw [← hW1]; exact KitC.below_one _ _
 have hk1:W1.heap[w.heap.size]? = some (.cells #[.string nm,.slice eA en ec,.slice vA vn vc,.slice sA sn sc] 26):=by rw [← hW1]; exact heap_alloc_new _ _
 have HK:=Lib.hid (fun W (hW:Below W1.heap.size W1 W) => KitC.block_on hk1 hW)
 have HW1:=Lib.hid hW1
 have HB1:=Lib.hid hb1
 obtain ⟨c0,c1,c2,c3⟩:=cells_4 hk1
 cases hmc:mayC x with
 | false =>
   rw [hmc] at HCK
   have HE:Hid (ofF x = [] ∧ ofE x = 1):=Lib.hid ⟨by unfold ofF; rw [hmc]; rfl,by unfold ofE; rw [hmc]; rfl⟩
   rw [HE.out.1,HE.out.2]
   clear h hm hf hvn hen e1 e2 hnm hW1 hb1 hk1 hmc HBR HBL HBF hi hz0 hz1 hz2
   go_enter Tryz.func46,Tryz.ntmps46
   go_wp2_with (rw [HW1.out]; go_at_call 73; go_fit (HCK.out _ HB1.out))
   rintro e w2 ⟨rfl,hb⟩
   have HB2:=Lib.hid (below_two' HB1.out hb)
   clear hb c0 c1 c2 c3
   go_wp2_with fail
   go_ret2
   exact ⟨none,0,0,rfl,rfl,Rdk.nil 3 _,HB2.out⟩
 | true =>
   rw [hmc] at HCK
   have HE:Hid (ofF x = flawsC x ∧ ofE x = 0):=Lib.hid ⟨by unfold ofF; rw [hmc]; rfl,by unfold ofE; rw [hmc]; rfl⟩
   rw [HE.out.1,HE.out.2]
   have HBR:=Lib.hid (HBR.out hmc)
   obtain ⟨F,hF⟩:∃ F:Nat → List Fw,F = allTo x:=⟨_,rfl⟩
   obtain ⟨B,hB⟩:∃ B:Int → List Fw,B = brk x:=⟨_,rfl⟩
   have HNX:Hid (∀ k:Nat,F (k + 1) = F k ++ B ((k:Int) + 1)):=Lib.hid (fun k => by rw [hF,hB]; rfl)
   have HF0:Hid (F 0 = []):=Lib.hid (by rw [hF]; rfl)
   rw [show flawsC x = F 10 by rw [hF]; rfl]
   rw [← hF] at HBL
   rw [← hB] at HBR HBF
   clear h hm hf hvn hen e1 e2 hnm hW1 hb1 hk1 hmc hF hB hi hz0 hz1 hz2
   go_enter Tryz.func46,Tryz.ntmps46
   go_wp2_with (rw [HW1.out]; go_at_call 73; go_fit (HCK.out _ HB1.out))
   rintro e w2 ⟨rfl,hb⟩
   have HB2:=Lib.hid hb
   clear hb c0 c1 c2 c3
   go_wp2_with fail
   go_loopw [5,6] (fun p i wr => SoRel W1 F p i wr) (fun _ i _ => 11 - (intOf i).toNat)
   case atStart => exact ⟨0,Nat.zero_le _,rfl,Lib.hid (by rw [HF0.out]; exact RowF.nil _ _ HB2.out)⟩
   case round =>
    obtain ⟨k,hk,rfl,HR⟩:=hrel
    by_cases hlt:k < 10
    case neg =>
     obtain rfl:k = 10:=by omega
     go_wp2_with fail
     go_ret2
     obtain ⟨A,n,cp,he,hn,hfw,hbw⟩:=HR.out.retOf
     exact ⟨A,n,cp,he,hn,hfw,below_two' HB1.out hbw⟩
    have hkI:(k:Int) + 1 < 11:=by omega
    have hkl:(k:Int) ≤ 64:=by omega
    obtain ⟨c0,c1,c2,c3⟩:=cells_4 (HK.out _ HR.out.below)
    have hws:w.heap.size < wr.heap.size:=(Array.getElem?_eq_some_iff.1 (HK.out _ HR.out.below)).1
    go_wp2_with (go_at_call 74; go_fit (HBR.out ((k:Int) + 1) _ (below_two' HB1.out HR.out.below)))
    rintro e w5 ⟨A,n,cp,rfl,hn,hfw,hb⟩
    have HR5:=Lib.hid (HR.out.keep hb)
    have HF5:=Lib.hid hfw
    have HN:=Lib.hid hn
    have hl1:=HBL.out k
    have hl2:=HBF.out ((k:Int) + 1)
    have HL1:Hid ((F k).length + (B ((k:Int) + 1)).length ≤ maxLen):=Lib.hid (by simp only [maxLen]; omega)
    have HL2:Hid (((F k).length + (B ((k:Int) + 1)).length) * 24 ≤ 140737488355328):=Lib.hid (by omega)
    have HSZ:Hid (W1.heap.size ≤ w5.heap.size):=Lib.hid HR5.out.below.size
    clear hb hfw hn c0 c1 c2 c3 hws hl1 hl2
    go_wp2_with (at_builtin; refine wpList_append_rdk _ rfl (.tmp 16) (.tmp 19) _ rfl W1.heap.size 110 i0 (.agg #[.int .i64 0,.int .i64 0,.int .i64 0]) 3 24 Tryz.underlying79 HI.out.1 HI.out.2.1 HI.out.2.2.1 HI.out.2.2.2 rfl (by decide) _ _ _ rfl HR5.out.1 _ _ _ rfl HF5.out (fwsV_one _) HL1.out HL2.out HSZ.out ?_; intro p2 w6 hrow2 hg2 hob; have HR2:=Lib.hid (RowF.addL HR5.out hrow2 hg2); clear hrow2 hg2 hob)
    go_roundw
    case rel => exact ⟨k + 1,hlt,by go_num,Lib.hid (by rw [HNX.out]; exact HR2.out)⟩
    case measure => simp [intOf]; omega
theorem sis_any:Calls Tryz.prog 30 #[.agg #[.string x.s,.slice eA en ec,.slice vA vn vc,.slice sA sn sc]] w (RetB w (soundC x)):=by
 have HOF:=Lib.hid (fun W (hW:Below w.heap.size w W) => sof_any x eA en ec vA vn vc sA sn sc W (h.keep hW) hm hf)
 have HS:Hid (soundC x = ((ofE x == 0) && decide ((ofF x).length = 0))):=Lib.hid (by
  unfold soundC ofE ofF
  cases mayC x <;> rfl)
 rw [HS.out]
 have HE:Hid (ofE x = 0 ∨ ofE x = 1):=Lib.hid (by unfold ofE; split <;> simp)
 obtain ⟨er,her⟩:∃ er,er = ofE x:=⟨_,rfl⟩
 obtain ⟨fl,hfl⟩:∃ fl,fl = ofF x:=⟨_,rfl⟩
 obtain ⟨nm,hnm⟩:∃ nm,nm = x.s:=⟨_,rfl⟩
 rw [← her,← hfl,← hnm] at HOF
 rw [← her] at HE
 rw [← her,← hfl,← hnm]
 clear h hm hf her hfl hnm HS
 rcases HE.out with rfl | rfl
 all_goals
  go_enter Tryz.func30,Tryz.ntmps30
  go_wp2_with (go_at_call 46; go_fit (HOF.out _ (KitC.below_one _ _)))
  rintro e w2 ⟨A,n,c,rfl,hn,hfw,hb2⟩
  have HB2:=Lib.hid (below_two' (KitC.below_one _ _) hb2)
  have HN:=Lib.hid hn
  clear hn hfw hb2
  go_wp2_with fail
  go_ret
  exact ⟨ret_bool (by rw [← HN.out,Bool.eq_iff_iff]; simp),HB2.out⟩
end
end Go.Proofs.YtapnomdckglehaaGreat
namespace Go.Proofs.YtapnomdckglehaaGreat
open Go.RowKit TermSpec EvalSpec ActSpec NamesSpec ExprSpec TransSpec SynSpec CurSpec ShapeSpec GroupSpec AtlasSpec PrintSpec RulesSpec SoundSpec
set_option maxRecDepth 100000
theorem fewQ_of {x:Cx} (h:FewR x):FewQ x :=
 ⟨by have:=h.evl; omega,by have:=h.val; omega,by have:=h.stl; omega,fun s hs => by
  obtain ⟨h1,h2,h3⟩:=h.sts s hs
  exact ⟨⟨h2.enl,fun a ha => (h2.en a ha).2.2⟩,⟨h2.exl,fun a ha => (h2.ex a ha).2.2⟩,h2.trl,fun t ht => ⟨(h2.tr t ht).gl,(h2.tr t ht).al,fun a ha => ((h2.tr t ht).a a ha).2.2⟩⟩⟩
theorem chIn_here {w:World} {e v s:Value} {x:Cx} (h:ChIn w e v s x):Dep w (fun b => b < w.heap.size) (fun X => ChIn X e v s x):=by
 obtain ⟨ps,h1,h2,h3⟩:=h.sts
 have d1:=(rdk_here (rdk_rd h.evs rfl)).imp fun X g => rd_one g
 have d2:=rdk_here h.vars
 have d3:=(rdk_here h2).and (dep_all fun p hp => spN_here (h3 p hp))
 exact (d1.and (d2.and d3)).imp fun X g => ⟨g.1,g.2.1,ps,h1,g.2.2.1,g.2.2.2⟩
def RetNew (W:World) (x:Cx) (e:Ending) (w':World):Prop:=∃ B,e = .returned (.tuple #[.pointer (some ⟨B,0,none⟩),.int .i64 0]) ∧ AtIn w' B x ∧ W.heap.size ≤ B ∧ Below W.heap.size W w'
def RetNo17 (W:World) (e:Ending) (w':World):Prop:=e = .returned (.tuple #[.pointer none,.int .i64 1]) ∧ Below W.heap.size W w'
theorem at_build (a b c d:Value) (w:World):(Instr.build 63 #[(0,.bool true),(1,.agg #[a,b,c,d])]).run Tryz.prog w = .ok (.agg #[.bool true,a,b,c,d,.int .u32 0,.int .i32 0,.int .u32 0,.slice none 0 0,.slice none 0 0,.slice none 0 0]) w:=run_build w 63 _ _ (by kernel_rfl)
section
variable (x:Cx) (eA:Option Addr) (en ec:Nat) (vA:Option Addr) (vn vc:Nat) (sA:Option Addr) (sn sc:Nat) (w:World) (h:ChIn w (.slice eA en ec) (.slice vA vn vc) (.slice sA sn sc) x) (hm:FitM x) (hf:FewR x)
include h hm hf
set_option maxRecDepth 100000 in
set_option maxHeartbeats 4000000 in
theorem new_no (hs:soundC x = false):Calls Tryz.prog 7 #[.agg #[.string x.s,.slice eA en ec,.slice vA vn vc,.slice sA sn sc]] w (RetNo17 w):=by
 have HIS:=Lib.hid (fun W (hW:Below w.heap.size w W) => sis_any x eA en ec vA vn vc sA sn sc W (h.keep hW) hm hf)
 rw [hs] at HIS
 obtain ⟨nm,hnm⟩:∃ nm,nm = x.s:=⟨_,rfl⟩
 rw [← hnm] at HIS ⊢
 clear h hm hf hs hnm
 go_enter Tryz.func7,Tryz.ntmps7
 go_wp2_with (go_at_call 30; go_fit (HIS.out _ (KitC.below_one _ _)))
 rintro e w2 ⟨rfl,hb⟩
 have HB:=Lib.hid (below_two' (KitC.below_one _ _) hb)
 clear hb
 go_wp2_with fail
 go_ret2
 exact ⟨rfl,HB.out⟩
set_option maxRecDepth 100000 in
set_option maxHeartbeats 4000000 in
theorem new_yes (hs:soundC x = true):Calls Tryz.prog 7 #[.agg #[.string x.s,.slice eA en ec,.slice vA vn vc,.slice sA sn sc]] w (RetNew w x):=by
 have HIS:=Lib.hid (fun W (hW:Below w.heap.size w W) => sis_any x eA en ec vA vn vc sA sn sc W (h.keep hW) hm hf)
 have HCP:=Lib.hid (fun W (hW:Below w.heap.size w W) => copied_any x eA en ec vA vn vc sA sn sc W (h.keep hW) (fewQ_of hf))
 rw [hs] at HIS
 obtain ⟨nm,hnm⟩:∃ nm,nm = x.s:=⟨_,rfl⟩
 have HNM:=Lib.hid hnm
 rw [← hnm] at HIS HCP ⊢
 have hbd:=at_build
 obtain ⟨W1,hW1⟩:∃ W1,w.alloc (.cells #[.string nm,.slice eA en ec,.slice vA vn vc,.slice sA sn sc] 26) = W1:=⟨_,rfl⟩
 have hb1:Below w.heap.size w W1:=by rw [← hW1]; exact KitC.below_one _ _
 have hk1:W1.heap[w.heap.size]? = some (.cells #[.string nm,.slice eA en ec,.slice vA vn vc,.slice sA sn sc] 26):=by rw [← hW1]; exact heap_alloc_new _ _
 have HK:=Lib.hid (fun W (hW:Below W1.heap.size W1 W) => KitC.block_on hk1 hW)
 have HW1:=Lib.hid hW1
 have HB1:=Lib.hid hb1
 obtain ⟨c0,c1,c2,c3⟩:=cells_4 hk1
 clear h hm hf hs hnm hW1 hb1 hk1
 go_enter Tryz.func7,Tryz.ntmps7
 go_wp2_with (rw [HW1.out]; go_at_call 30; go_fit (HIS.out _ HB1.out))
 rintro e w2 ⟨rfl,hb⟩
 have HB2:=Lib.hid hb
 clear hb c0 c1 c2 c3
 obtain ⟨c0,c1,c2,c3⟩:=cells_4 (HK.out _ HB2.out)
 go_wp2_with (go_at_call 31; go_fit (HCP.out _ (below_two' HB1.out HB2.out)))
 rintro e w3 ⟨fA,fc,uA,uc,rA,rc,rfl,hch,hb⟩
 have HCH:=Lib.hid hch
 have HB3:=Lib.hid (below_two' (below_two' HB1.out HB2.out) hb)
 have HNM2:Hid (x.s = nm):=Lib.hid HNM.out.symm
 clear hch hb c0 c1 c2 c3
 rw [HNM2.out]
 go_wp2_with fail
 go_ret2
 refine ⟨w3.heap.size,rfl,.inl ⟨_,_,_,?_,(chIn_here HCH.out.now).keep (KitC.below_one _ _)⟩,HB3.out.size,below_two' HB3.out (KitC.below_one _ _)⟩
 rw [HNM2.out]
 exact heap_alloc_new _ _
end
section
variable (B:Nat) (x:Cx) (w:World) (h:AtIn w B x) (hf:FewR x)
include h hf
set_option maxRecDepth 100000 in
set_option maxHeartbeats 4000000 in
theorem chart17:Calls Tryz.prog 11 #[.pointer (some ⟨B,0,none⟩)] w (RetCx w x):=by
 have HG:=Lib.hid (fun W (hW:Below w.heap.size w W) => AtIn.good B x W (h.keep hW))
 obtain ⟨eA,en,ec,vA,vn,vc,sA,sn,sc,d,pl,rw,ev,hb,hch⟩:=h.blk
 have HCP:=Lib.hid (fun W (hW:Below w.heap.size w W) => copied_any x eA en ec vA vn vc sA sn sc W (hch.keep hW) (fewQ_of hf))
 obtain ⟨nm,hnm⟩:∃ nm,nm = x.s:=⟨_,rfl⟩
 have HNM:Hid (x.s = nm):=Lib.hid hnm.symm
 rw [← hnm] at HCP hb
 obtain ⟨W1,hW1⟩:∃ W1,w.alloc chZ17 = W1:=⟨_,rfl⟩
 have hb1:Below w.heap.size w W1:=by rw [← hW1]; exact KitC.below_one _ _
 have hk1:W1.heap[w.heap.size]? = some chZ17:=by rw [← hW1]; exact heap_alloc_new _ _
 have HK:=Lib.hid (fun W (hW:Below W1.heap.size W1 W) => KitC.block_on hk1 hW)
 have HW1:=Lib.hid hW1
 have HB1:=Lib.hid hb1
 have HLT:Hid (w.heap.size < W1.heap.size):=Lib.hid (Array.getElem?_eq_some_iff.1 hk1).1
 obtain ⟨-,c1,c2,c3,c4,-⟩:=at_cells (KitC.block_on hb hb1)
 clear h hf hnm hW1 hb1 hk1 hb hch
 go_enter Tryz.func11,Tryz.ntmps11
 go_wp2_with (rw [HW1.out]; go_at_call 9; go_fit (HG.out _ HB1.out))
 rintro e w2 ⟨rfl,rfl⟩
 go_wp2_with (go_at_call 31; go_fit (HCP.out _ HB1.out))
 rintro e w3 ⟨fA,fc,uA,uc,rA,rc,rfl,hch,hb⟩
 have HCH:=Lib.hid hch
 have HB3:=Lib.hid (below_two' HB1.out hb)
 have hk3:=HK.out _ hb
 have HK3:=Lib.hid hk3
 obtain ⟨z0,z1,z2,z3⟩:=cells_4 hk3
 obtain ⟨f0,f1,f2,f3⟩:=free_4 hk3
 obtain ⟨q0,q1,q2,q3⟩:=store_4 (blk_of hk3 (n:=4) rfl) (.string nm) (.slice fA x.evs.length fc) (.slice uA x.vars.length uc) (.slice rA x.sts.length rc)
 clear hch hb hk3 c1 c2 c3 c4
 rw [HNM.out]
 go_wp2_with fail
 refine bodyPost_ret (v:=.agg #[.string nm,.slice fA x.evs.length fc,.slice uA x.vars.length uc,.slice rA x.sts.length rc]) (by simp [results,Tryz.results11,go_sem,q0,q1,q2,q3]) rfl ?_
 refine ⟨fA,fc,uA,uc,rA,rc,by rw [HNM.out],?_,below_4 HB3.out (Nat.le_refl _) _ _ _ _⟩
 refine (HCH.out.go (but_set (but_set (but_set (but_set (but_refl w3 (some w.heap.size)) 0 _) 1 _) 2 _) 3 _) fun b h1 h2 => ?_).mono fun b _ h1 => Nat.le_trans HB1.out.size h1
 injection h2 with h2
 have:=HLT.out
 omega
end
end Go.Proofs.YtapnomdckglehaaGreat
namespace Go.Proofs.YtapnomdckglehaaGreat
open Go.RowKit TermSpec EvalSpec ActSpec NamesSpec ExprSpec TransSpec SynSpec CurSpec ShapeSpec GroupSpec AtlasSpec PrintSpec
set_option maxRecDepth 100000
theorem kidsTb_few {l:List Sh} (i:Int) (h:l.length ≤ 60):(kidsTb l i).length ≤ 1000000:=by
 unfold kidsTb
 split
 ·have:=kids_le l i.toNat l.length
  unfold kids
  omega
 ·simp
theorem row_fld0 (a b c d:Value) (w:World):(Instr.field 88 (.agg #[a,b,c,d]) 0).run Tryz.prog w = .ok a w:=by kernel_rfl
theorem row_fld1 (a b c d:Value) (w:World):(Instr.field 88 (.agg #[a,b,c,d]) 1).run Tryz.prog w = .ok b w:=by kernel_rfl
theorem row_fld2 (a b c d:Value) (w:World):(Instr.field 88 (.agg #[a,b,c,d]) 2).run Tryz.prog w = .ok c w:=by kernel_rfl
theorem row_fld3 (a b c d:Value) (w:World):(Instr.field 88 (.agg #[a,b,c,d]) 3).run Tryz.prog w = .ok d w:=by kernel_rfl
section
variable (B:Nat) (x:Cx) (w:World) (h:AtIn w B x) (hk:chk (x.sts.map shOf) = 0) (hev:x.evs.length ≤ 1000000) (i:Int)
include h hk hev
theorem kids17:Calls Tryz.prog 17 #[.pointer (some ⟨B,0,none⟩),.int .i64 i] w (RetAt w B x (fun W v => Rd W v (intV (kidsTb (x.sts.map shOf) i)))):=by
 have HR:=Lib.hid (row17 B x w h hk hev i)
 have HF:=Lib.hid (kidsTb_few (l:=x.sts.map shOf) i (chk_ok hk).1)
 obtain ⟨l,hl⟩:∃ l,l = x.sts.map shOf:=⟨_,rfl⟩
 rw [← hl] at HR HF ⊢
 have hfl:=row_fld0
 clear h hk hev hl
 go_enter Tryz.func17,Tryz.ntmps17
 go_wp2_with (go_at_call 41; go_fit HR.out)
 rintro e w2 ⟨v,rfl,⟨A,n,c,rfl,hrd⟩,hD,hg⟩
 have HRD:Hid (Rdk 1 w2 (.slice A n c) (kidsTb l i).length (intV (kidsTb l i))):=Lib.hid (rdk_rd hrd (intV_length _))
 have HD:=Lib.hid hD
 have HG:=Lib.hid hg
 clear hrd hD hg
 go_wp2_with (go_at_call 40; go_fit (clone_int _ _ _ _ HRD.out (intV_one _) HF.out))
 rintro e w3 ⟨A3,c3,rfl,ho,hb⟩
 have HO:=Lib.hid ho
 have HB:=Lib.hid hb
 clear ho hb
 go_wp2_with fail
 go_ret
 exact ⟨_,rfl,rd_one (Rdk.own HO.out),HD.out.keep HB.out,gr_any HG.out (gr_none HB.out none) (by simp)⟩
theorem above17:Calls Tryz.prog 18 #[.pointer (some ⟨B,0,none⟩),.int .i64 i] w (RetAt w B x (fun _ v => v = .int .u64 (aboveTb (x.sts.map shOf) i))):=by
 have HR:=Lib.hid (row17 B x w h hk hev i)
 obtain ⟨l,hl⟩:∃ l,l = x.sts.map shOf:=⟨_,rfl⟩
 rw [← hl] at HR ⊢
 have hfl:=row_fld1
 clear h hk hev hl
 go_enter Tryz.func18,Tryz.ntmps18
 go_wp2_with (go_at_call 41; go_fit HR.out)
 rintro e w2 ⟨v,rfl,⟨A,n,c,rfl,-⟩,hD,hg⟩
 have HD:=Lib.hid hD
 have HG:=Lib.hid hg
 clear hD hg
 go_wp2_with fail
 go_ret
 exact ⟨_,rfl,rfl,HD.out,HG.out⟩
theorem below17:Calls Tryz.prog 19 #[.pointer (some ⟨B,0,none⟩),.int .i64 i] w (RetAt w B x (fun _ v => v = .int .u64 (belowTb (x.sts.map shOf) i))):=by
 have HR:=Lib.hid (row17 B x w h hk hev i)
 obtain ⟨l,hl⟩:∃ l,l = x.sts.map shOf:=⟨_,rfl⟩
 rw [← hl] at HR ⊢
 have hfl:=row_fld2
 clear h hk hev hl
 go_enter Tryz.func19,Tryz.ntmps19
 go_wp2_with (go_at_call 41; go_fit HR.out)
 rintro e w2 ⟨v,rfl,⟨A,n,c,rfl,-⟩,hD,hg⟩
 have HD:=Lib.hid hD
 have HG:=Lib.hid hg
 clear hD hg
 go_wp2_with fail
 go_ret
 exact ⟨_,rfl,rfl,HD.out,HG.out⟩
theorem depth17:Calls Tryz.prog 20 #[.pointer (some ⟨B,0,none⟩),.int .i64 i] w (RetAt w B x (fun _ v => v = .int .i64 (depthTb (x.sts.map shOf) i))):=by
 have HR:=Lib.hid (row17 B x w h hk hev i)
 obtain ⟨l,hl⟩:∃ l,l = x.sts.map shOf:=⟨_,rfl⟩
 rw [← hl] at HR ⊢
 have hfl:=row_fld3
 clear h hk hev hl
 go_enter Tryz.func20,Tryz.ntmps20
 go_wp2_with (go_at_call 41; go_fit HR.out)
 rintro e w2 ⟨v,rfl,⟨A,n,c,rfl,-⟩,hD,hg⟩
 have HD:=Lib.hid hD
 have HG:=Lib.hid hg
 clear hD hg
 go_wp2_with fail
 go_ret
 exact ⟨_,rfl,rfl,HD.out,HG.out⟩
end
end Go.Proofs.YtapnomdckglehaaGreat
namespace Go.Proofs.YtapnomdckglehaaGreat
open Go.RowKit
theorem rdk_whole {k n c b:Nat} {w:World} {cs:Array Value} {T:TypeId} {fr:Nat × Nat} {xs:List Value} (h:w.heap[b]? = some (.cells cs T fr)) (hx:cs.toList = xs) (hl:xs.length = n * k) (hc:n ≤ c):Rdk k w (.slice (some ⟨b,0,none⟩) n c) n xs:=by
 refine ⟨_,c,rfl,hc,hl,fun _ => ⟨b,0,rfl,(Array.getElem?_eq_some_iff.1 h).1,fun j u hj => ?_⟩⟩
 rw [← hx,Array.getElem?_toList] at hj
 simp [World.cell?,h,hj]
end Go.Proofs.YtapnomdckglehaaGreat