/- SynStates, PrintLightC, joined. -/
import Derived.Test.YtjfghaohogcfbaaGreatDoorMFormatSame33
import Derived.Deep.CutRange
import Derived.BigRegion
import Derived.Test.YtjfghaohogcfbaaGreatDoorMFormatSame23
import Derived.Lib.QuietBelow
import Derived.BigQuiet
namespace Go.Proofs.YtjfghaohogcfbaaGreatDoor
open Go.RowKit Go.Sort TermSpec EvalSpec ActSpec NamesSpec ExprSpec TransSpec SynSpec PrintSpec
set_option maxRecDepth 100000
def FewX (s:Sx):Prop:=s.en.length ≤ 4398046511104 ∧ (∀ a ∈ s.en,a.x.length ≤ 4398046511104) ∧ s.ex.length ≤ 4398046511104 ∧ (∀ a ∈ s.ex,a.x.length ≤ 4398046511104) ∧ s.tr.length ≤ 4398046511104 ∧ ∀ t ∈ s.tr,FewT t
abbrev stO (s:ByteArray) (k p:Int) (e x t:Value):Obj:=.cells #[.string s,.int .i64 k,.int .i64 p,e,x,t] 58
def StGRel (W:World) (l m:List Sx) (n:Nat) (v:Value) (w:World):Prop:=∃ k:Nat,k ≤ n ∧ v = .int .i64 k ∧ l.take k = m.take k ∧ Below W.heap.size W w
def StMid (W:World) (o o':Obj) (p q:Value) (w:World):Prop:=∃ b b',p = .pointer (some ⟨b,0,none⟩) ∧ q = .pointer (some ⟨b',0,none⟩) ∧ w.heap[b]? = some o ∧ w.heap[b']? = some o' ∧ Below W.heap.size W w
theorem two_blocks (w:World) (o o':Obj):((w.alloc o).alloc o').drew.heap[w.heap.size]? = some o ∧ ((w.alloc o).alloc o').drew.heap[w.heap.size + 1]? = some o' ∧ Below w.heap.size w ((w.alloc o).alloc o').drew:=by
 obtain ⟨h1,h2,h3,-⟩:=KitC.pair_blocks (o:=o) (p:=o') (w:=w) (Below.refl _ _)
 exact ⟨h1,h2,h3.drew⟩
theorem sx_ne {nm nm':ByteArray} {kind kind' par par':Int} {en en' ex ex':List Ac} {tr tr':List Tr} (h:¬ (nm = nm' ∧ kind = kind' ∧ par = par' ∧ en = en' ∧ ex = ex' ∧ tr = tr')):(⟨nm,kind,par,en,ex,tr⟩:Sx) ≠ ⟨nm',kind',par',en',ex',tr'⟩:=fun e => by
 cases e
 exact h ⟨rfl,rfl,rfl,rfl,rfl,rfl⟩
set_option maxRecDepth 100000 in
set_option maxHeartbeats 4000000 in
theorem states_any (A1 A2:Option Addr) (n1 n2 c1 c2:Nat) (l m:List Sx) (b:Bool) (hb:b = true ↔ l = m) (w:World) (h1:StsP w (.slice A1 n1 c1) l) (h2:StsP w (.slice A2 n2 c2) m) (hm:n1 ≤ 4398046511104) (hfew:∀ t ∈ l,FewX t) :
 Calls Tryz.prog 28 #[.slice A1 n1 c1,.slice A2 n2 c2] w (RetB w b):=by
 have hn1:=h1.len.1
 have hn2:=h2.len.1
 have hc1:=h1.len.2
 have hc2:=h2.len.2
 by_cases hnm:n1 = n2
 ·subst hnm
  have HT:=Lib.hid (And.intro h1 h2)
  have HN:=Lib.hid hn1
  have HM:=Lib.hid hn2
  have HBB:=Lib.hid hb
  have HF:=Lib.hid hfew
  clear h1 h2 hn1 hn2 hb hfew
  go_enter Tryz.func28,Tryz.ntmps28
  go_wp2_with fail
  go_loopw [5] (fun v wr => StGRel w l m n1 v wr) (fun v _ => n1 - (intOf v).toNat)
  case atStart => exact ⟨0,Nat.zero_le _,rfl,rfl,Below.refl _ _⟩
  case round =>
   obtain ⟨k,hk,rfl,htk,hbw⟩:=hrel
   by_cases hlt:k < n1
   ·obtain ⟨t,ht⟩:∃ t,l[k]? = some t:=get_some (by rw [← HN.out]; exact hlt)
    obtain ⟨u,hu⟩:∃ u,m[k]? = some u:=get_some (by rw [← HM.out]; exact hlt)
    have hx:=HF.out t (List.mem_of_getElem? ht)
    obtain ⟨b1,o1,a3,n3,m3,a4,n4,m4,a5,n5,m5,rfl,hb1,p0,p1,p2,p3,p4,p5,i3,i4,i5⟩:=(HT.out.1.keep hbw).at_ ht
    obtain ⟨b2,o2,d3,q3,r3,d4,q4,r4,d5,q5,r5,rfl,hb2,g0,g1,g2,g3,g4,g5,j3,j4,j5⟩:=(HT.out.2.keep hbw).at_ hu
    have hkI:(k:Int) ≤ 4398046511104:=by omega
    obtain ⟨nm,kind,par,ten,tex,ttr⟩:=t
    obtain ⟨nm',kind',par',ten',tex',ttr'⟩:=u
    simp only at p0 p1 p2 g0 g1 g2 i3 i4 i5 j3 j4 j5 hx
    have HW:=Lib.hid hbw
    have HTK:=Lib.hid htk
    have HTU:=Lib.hid (And.intro ht hu)
    clear ht hu hbw htk
    go_wp2_with fail
    go_cut [5,6,7] from 13 to 69 (fun i p q wx => i = .int .i64 k ∧ StMid wr (stO nm kind par (.slice a3 n3 m3) (.slice a4 n4 m4) (.slice a5 n5 m5)) (stO nm' kind' par' (.slice d3 q3 r3) (.slice d4 q4 r4) (.slice d5 q5 r5)) p q wx)
    case first =>
     go_region
     all_goals
      go_wp2_with fail
      go_meet
      first
      | exact ⟨rfl,_,_,rfl,rfl,(two_blocks _ _ _).1,(two_blocks _ _ _).2.1,(two_blocks _ _ _).2.2⟩
      | exact ⟨rfl,_,_,rfl,rfl,(two_blocks _ _ _).2.1,(two_blocks _ _ _).1,(two_blocks _ _ _).2.2⟩
    case rest =>
     obtain ⟨rfl,bb,bb',rfl,rfl,hp,hq,hbx⟩:=hcut
     obtain ⟨x0,x1,x2,x3,x4,x5⟩:=cells_6 hp
     obtain ⟨y0,y1,y2,y3,y4,y5⟩:=cells_6 hq
     have HP:=Lib.hid (fun W (hW:Below wc.heap.size wc W) => And.intro (cells_6 (KitC.block_on hp hW)) (cells_6 (KitC.block_on hq hW)))
     obtain ⟨qe,hqe⟩:=some_bool (ten = ten')
     obtain ⟨qx,hqx⟩:=some_bool (tex = tex')
     obtain ⟨qt,hqt⟩:=some_bool (ttr = ttr')
     have HC1:=Lib.hid (fun W (hW:Below wc.heap.size wc W) => rsame_dec a3 d3 n3 q3 m3 r3 ten ten' qe hqe W (i3.keep (below_two' hbx hW)) (j3.keep (below_two' hbx hW)) (by rw [i3.len.1]; exact hx.1) hx.2.1)
     have HC2:=Lib.hid (fun W (hW:Below wc.heap.size wc W) => rsame_dec a4 d4 n4 q4 m4 r4 tex tex' qx hqx W (i4.keep (below_two' hbx hW)) (j4.keep (below_two' hbx hW)) (by rw [i4.len.1]; exact hx.2.2.1) hx.2.2.2.1)
     have HC3:=Lib.hid (fun W (hW:Below wc.heap.size wc W) => trall_any a5 d5 n5 q5 m5 r5 ttr ttr' qt hqt W (i5.keep (below_two' hbx hW)) (j5.keep (below_two' hbx hW)) (by rw [i5.len.1]; exact hx.2.2.2.2.1) hx.2.2.2.2.2)
     have HNO:Hid (¬ (nm = nm' ∧ kind = kind' ∧ par = par' ∧ ten = ten' ∧ tex = tex' ∧ ttr = ttr') → b = false):=Lib.hid (fun h => by
      have:=list_ne HTU.out.1 HTU.out.2 (sx_ne h)
      cases b with
      | false => rfl
      | true => exact absurd (HBB.out.1 rfl) this)
     have HYES:Hid ((nm = nm' ∧ kind = kind' ∧ par = par' ∧ ten = ten' ∧ tex = tex' ∧ ttr = ttr') → l.take (k + 1) = m.take (k + 1)):=Lib.hid (fun ⟨e1,e2,e3,e4,e5,e6⟩ => by
      subst e1 e2 e3 e4 e5 e6
      exact take_same HTK.out HTU.out.1 HTU.out.2)
     have HW1:=Lib.hid (below_two' HW.out hbx)
     have HLT:=Lib.hid hlt
     have hl3:=i3.len.2
     clear p0 p1 p2 p3 p4 p5 g0 g1 g2 g3 g4 g5 hb1 hb2 hp hq hbx i3 i4 i5 j3 j4 j5 hx HTU HTK
     by_cases e1:nm = nm'
     case neg =>
      have HE:=Lib.hid (HNO.out (fun h => e1 h.1))
      have ge:=bne_bytes e1
      go_wp2_with fail
      go_ret
      exact ⟨ret_bool HE.out.symm,HW1.out⟩
     subst e1
     by_cases e2:kind = kind'
     case neg =>
      have HE:=Lib.hid (HNO.out (fun h => e2 h.2.1))
      have ge:(kind == kind') = false:=by simpa using e2
      go_wp2_with fail
      go_ret
      exact ⟨ret_bool HE.out.symm,HW1.out⟩
     subst e2
     by_cases e3:par = par'
     case neg =>
      have HE:=Lib.hid (HNO.out (fun h => e3 h.2.2.1))
      have ge:(par == par') = false:=by simpa using e3
      go_wp2_with fail
      go_ret
      exact ⟨ret_bool HE.out.symm,HW1.out⟩
     subst e3
     go_wp2_with (go_at_call 57; (with_reducible refine (HC1.out _ (Below.refl _ _)).mono ?_))
     rintro e w1 ⟨rfl,hb1'⟩
     have HB1:=Lib.hid hb1'
     rcases qe with _ | _
     ·have HE:=Lib.hid (HNO.out (fun h => by have:=hqe.2 h.2.2.2.1; cases this))
      clear hb1'
      go_wp2_with fail
      go_ret
      exact ⟨ret_bool HE.out.symm,below_two' HW1.out HB1.out⟩
     clear x0 x1 x2 x3 x4 x5 y0 y1 y2 y3 y4 y5
     obtain ⟨⟨x0,x1,x2,x3,x4,x5⟩,y0,y1,y2,y3,y4,y5⟩:=HP.out _ hb1'
     clear hb1'
     go_wp2_with (go_at_call 57; (with_reducible refine (HC2.out _ HB1.out).mono ?_))
     rintro e w2 ⟨rfl,hb2'⟩
     have HB2:=Lib.hid (below_two' HB1.out hb2')
     clear hb2'
     rcases qx with _ | _
     ·have HE:=Lib.hid (HNO.out (fun h => by have:=hqx.2 h.2.2.2.2.1; cases this))
      go_wp2_with fail
      go_ret
      exact ⟨ret_bool HE.out.symm,below_two' HW1.out HB2.out⟩
     clear x0 x1 x2 x3 x4 x5 y0 y1 y2 y3 y4 y5
     obtain ⟨⟨x0,x1,x2,x3,x4,x5⟩,y0,y1,y2,y3,y4,y5⟩:=HP.out _ HB2.out
     clear x0 x1 x2 x3 x4 y0 y1 y2 y3 y4 HP HC1 HC2
     have hone:∀ f:Field,([f]:List Field)[0]? = some f:=fun _ => rfl
     go_wp2_with (go_at_call 58; (with_reducible refine (HC3.out _ HB2.out).mono ?_))
     rintro e w3 ⟨rfl,hb3'⟩
     have HB3:=Lib.hid (below_two' HW1.out (below_two' HB2.out hb3'))
     clear hb3'
     rcases qt with _ | _
     ·have HE:=Lib.hid (HNO.out (fun h => by have:=hqt.2 h.2.2.2.2.2; cases this))
      go_wp2_with fail
      go_ret
      exact ⟨ret_bool HE.out.symm,HB3.out⟩
     have HX:=Lib.hid (HYES.out ⟨(by first | rfl | trivial),(by first | rfl | trivial),(by first | rfl | trivial),hqe.1 (by first | rfl | trivial),hqx.1 (by first | rfl | trivial),hqt.1 (by first | rfl | trivial)⟩)
     go_wp2_with fail
     go_roundw
     case rel => exact ⟨k + 1,HLT.out,by go_num,HX.out,HB3.out⟩
     case measure => have:=HLT.out; simp [intOf]; omega
   ·obtain rfl:k = n1:=by omega
    have HE:Hid (b = true):=Lib.hid (HBB.out.2 (by rwa [List.take_of_length_le (by rw [← HN.out]; exact Nat.le_refl _),List.take_of_length_le (by rw [← HM.out]; exact Nat.le_refl _)] at htk))
    have HW:=Lib.hid hbw
    clear htk hbw
    go_wp2_with fail
    go_ret
    exact ⟨ret_bool HE.out.symm,HW.out⟩
 ·have g:((n1:Int) != (n2:Int)) = true:=by simp; omega
  have HE:Hid (b = false):=Lib.hid (by
   cases b with
   | false => rfl
   | true => have:=hb.1 rfl; subst this; omega)
  clear h1 h2 hb hn1 hn2 hfew
  go_enter Tryz.func28,Tryz.ntmps28
  go_wp2_with fail
  go_ret
  exact ⟨ret_bool HE.out.symm,Below.refl _ _⟩
end Go.Proofs.YtjfghaohogcfbaaGreatDoor
namespace Go.Proofs.YtjfghaohogcfbaaGreatDoor
open Go.RowKit Go.Sort TermSpec EvalSpec ActSpec NamesSpec ExprSpec TransSpec SynSpec PrintSpec
set_option maxRecDepth 100000
abbrev chO (s:ByteArray) (e v t:Value):Obj:=.cells #[.string s,e,v,t] 33
def LVarRel (vars:List Vr) (n:Nat) (i:Value):Prop:=∃ k:Nat,k ≤ n ∧ i = .int .i64 k ∧ (vars.take k).all (fun v => decide (v.s.size ≤ 100)) = true
def LStRel (W:World) (l:List Sx) (n:Nat) (s i:Value) (wr:World):Prop:=∃ k:Nat,k ≤ n ∧ i = .int .i64 k ∧ s = .int .i64 (wCx (l.take k)) ∧ (l.take k).all stL = true ∧ wCx (l.take k) ≤ 1000000 ∧ Below W.heap.size W wr
def LTrRel (W:World) (l:List Tr) (n base:Nat) (s i:Value) (wr:World):Prop:=∃ k:Nat,k ≤ n ∧ i = .int .i64 k ∧ s = .int .i64 ((base + ((l.take k).map wTr).sum:Nat)) ∧ (l.take k).all okLT = true ∧ base + ((l.take k).map wTr).sum ≤ 50000 + 21011 * k ∧ Below W.heap.size W wr
theorem lightC_parts {x:Cx} (h1:x.s.size ≤ 100) (h2:manyB x.evs = false) (h3:x.vars.length ≤ 10) (h4:x.sts.length ≤ 65):lightC x = (x.vars.all (fun v => decide (v.s.size ≤ 100)) && (x.sts.all stL && decide (wCx x.sts ≤ 160))):=by
 unfold lightC
 simp [h1,h2,h3,h4]
set_option maxRecDepth 100000 in
set_option maxHeartbeats 16000000 in
theorem lightC_any (x:Cx) (eA:Option Addr) (en ec:Nat) (vA:Option Addr) (vn vc:Nat) (sA:Option Addr) (sn sc:Nat) (w:World) (h:ChIn w (.slice eA en ec) (.slice vA vn vc) (.slice sA sn sc) x) (hf:FitC x) :
 Calls Tryz.prog 13 #[.agg #[.string x.s,.slice eA en ec,.slice vA vn vc,.slice sA sn sc]] w (RetB w (lightC x)):=by
 obtain ⟨hvn,hvc⟩:=RdV.len h.vars
 obtain ⟨hsn,hsc⟩:=h.sts.len
 have hs0:=hf.s
 obtain ⟨W1,hW1⟩:∃ W1,w.alloc (chO x.s (.slice eA en ec) (.slice vA vn vc) (.slice sA sn sc)) = W1:=⟨_,rfl⟩
 have hb1:Below w.heap.size w W1:=by rw [← hW1]; exact KitC.below_one _ _
 have hk1:W1.heap[w.heap.size]? = some (chO x.s (.slice eA en ec) (.slice vA vn vc) (.slice sA sn sc)):=by rw [← hW1]; exact heap_alloc_new _ _
 have HK:=Lib.hid (fun W (hW:Below W1.heap.size W1 W) => cells_4 (KitC.block_on hk1 hW))
 have HM:=Lib.hid (many_any eA en ec x.evs W1 (h.keep hb1).evs hf.evl hf.evs)
 have HVI:=Lib.hid ((RdV.vars h.vars).keep hb1)
 have HSI:=Lib.hid (fun W (hW:Below W1.heap.size W1 W) => h.sts.keep (below_two' hb1 hW))
 have HVF:=Lib.hid hf.vars
 have HSF:=Lib.hid hf.sts
 have HW1:=Lib.hid hW1
 have HB1:=Lib.hid hb1
 obtain ⟨c0,c1,c2,c3⟩:=cells_4 hk1
 obtain ⟨r,hr⟩:∃ r,r = lightC x:=⟨_,rfl⟩
 have HP:=Lib.hid (fun h1 h2 h3 h4 => hr.trans (lightC_parts (x:=x) h1 h2 h3 h4))
 have HR:=Lib.hid hr
 rw [← hr]
 obtain ⟨s,evs,vars,sts⟩:=x
 simp only at hvn hsn hs0 HM HVI HSI HVF HSF HP HK c0 c1 c2 c3 HW1 ⊢
 have HVN:=Lib.hid hvn
 have HSN:=Lib.hid hsn
 clear hr hW1 hb1 hk1 h hf hvn hsn
 by_cases h1:100 < s.size
 ·have g1:decide (100 < (s.size:Int)) = true:=by simp; omega
  have HE:Hid (r = false):=Lib.hid (by rw [HR.out]; unfold lightC; simp; omega)
  go_enter Tryz.func13,Tryz.ntmps13
  go_wp2_with fail
  go_ret
  exact ⟨ret_bool HE.out.symm,KitC.below_one _ _⟩
 have g1:decide (100 < (s.size:Int)) = false:=by simp; omega
 rcases hmb:manyB evs with _ | _
 case true =>
  have HE:Hid (r = false):=Lib.hid (by rw [HR.out]; unfold lightC; simp [hmb])
  rw [hmb] at HM
  clear hmb
  go_enter Tryz.func13,Tryz.ntmps13
  go_wp2_with (rw [HW1.out]; go_at_call 29; (with_reducible refine HM.out.mono ?_))
  rintro e2 w2 ⟨rfl,rfl⟩
  go_wp2_with fail
  go_ret
  exact ⟨ret_bool HE.out.symm,HB1.out⟩
 rw [hmb] at HM
 by_cases h3:10 < vn
 ·have g3:decide (10 < (vn:Int)) = true:=by simp; omega
  have HE:Hid (r = false):=Lib.hid (by rw [HR.out]; unfold lightC; have:=HVN.out; simp; omega)
  clear hmb
  go_enter Tryz.func13,Tryz.ntmps13
  go_wp2_with (rw [HW1.out]; go_at_call 29; (with_reducible refine HM.out.mono ?_))
  rintro e2 w2 ⟨rfl,rfl⟩
  go_wp2_with fail
  go_ret
  exact ⟨ret_bool HE.out.symm,HB1.out⟩
 have g3:decide (10 < (vn:Int)) = false:=by simp; omega
 by_cases h4:65 < sn
 ·have g4:decide (65 < (sn:Int)) = true:=by simp; omega
  have HE:Hid (r = false):=Lib.hid (by rw [HR.out]; unfold lightC; have:=HSN.out; simp; omega)
  clear hmb
  go_enter Tryz.func13,Tryz.ntmps13
  go_wp2_with (rw [HW1.out]; go_at_call 29; (with_reducible refine HM.out.mono ?_))
  rintro e2 w2 ⟨rfl,rfl⟩
  go_wp2_with fail
  go_ret
  exact ⟨ret_bool HE.out.symm,HB1.out⟩
 have g4:decide (65 < (sn:Int)) = false:=by simp; omega
 have HQ:=Lib.hid (HP.out (by omega) hmb (by have:=HVN.out; omega) (by have:=HSN.out; omega))
 clear hmb HP HR
 go_enter Tryz.func13,Tryz.ntmps13
 go_wp2_with (rw [HW1.out]; go_at_call 29; (with_reducible refine HM.out.mono ?_))
 rintro e2 w2 ⟨rfl,rfl⟩
 go_wp2_with fail
 go_loop [3] (fun i => LVarRel vars vn i) (fun i => vn - (intOf i).toNat)
 case atStart => exact ⟨0,Nat.zero_le _,rfl,rfl⟩
 case round =>
  obtain ⟨k,hk,rfl,hall⟩:=hrel
  have HA:=Lib.hid hall
  clear hall
  by_cases hlt:k < vn
  ·obtain ⟨v,hv⟩:∃ v,vars[k]? = some v:=get_some (by rw [← HVN.out]; exact hlt)
   obtain ⟨b,off,rfl,hb,d0,d1,d2,d3⟩:=HVI.out.at_ hv
   have hsz:=HVF.out v (List.mem_of_getElem? hv)
   by_cases hx:100 < v.s.size
   ·have HE:Hid (r = false):=Lib.hid (by rw [HQ.out,all_bad hv (by simp; omega)]; rfl)
    have g5:decide (100 < (v.s.size:Int)) = true:=by simp; omega
    clear hv
    go_wp2_with fail
    go_ret
    exact ⟨ret_bool HE.out.symm,HB1.out⟩
   ·have HX:=Lib.hid (all_take hv HA.out (by simp; omega))
    have g5:decide (100 < (v.s.size:Int)) = false:=by simp; omega
    clear hv
    go_wp2_with fail
    go_round
    case rel => exact ⟨k + 1,by omega,by go_num,HX.out⟩
    case measure => simp [intOf]; omega
  ·have HVA:Hid (vars.all (fun v => decide (v.s.size ≤ 100)) = true):=Lib.hid (by
    have:=HA.out
    rwa [List.take_of_length_le (by rw [← HVN.out]; omega)] at this)
   have HQ2:Hid (r = (sts.all stL && decide (wCx sts ≤ 160))):=Lib.hid (by rw [HQ.out,HVA.out,Bool.true_and])
   clear HA HVA HQ HVI HVF HM
   go_wp2_with fail
   go_loopw [4,5] (fun s i wr => LStRel W1 sts sn s i wr) (fun _ i _ => sn - (intOf i).toNat)
   case atStart => exact ⟨0,Nat.zero_le _,rfl,rfl,rfl,by simp [wCx],Below.refl _ _⟩
   case round =>
    obtain ⟨i,hi,rfl,rfl,hall,hsum,hbw⟩:=hrel
    have HA:=Lib.hid hall
    have HBW:=Lib.hid hbw
    obtain ⟨S,hS⟩:∃ S,S = wCx (sts.take i):=⟨_,rfl⟩
    rw [← hS] at hsum ⊢
    have HS:=Lib.hid hS
    clear c0 c1 c2 c3 hall hS
    obtain ⟨c0,c1,c2,c3⟩:=HK.out _ hbw
    clear hbw
    by_cases hlt:i < sn
    case neg =>
     obtain rfl:i = sn:=by omega
     have HE:Hid (r = decide (S ≤ 160)):=Lib.hid (by
      have h1:=HA.out
      have h2:=HS.out
      rw [List.take_of_length_le (by rw [← HSN.out]; omega)] at h1 h2
      rw [HQ2.out,h1,h2,Bool.true_and])
     have g5:decide ((i:Int) < i) = false:=by simp
     go_wp2_with fail
     go_ret
     exact ⟨ret_bool (by rw [HE.out]; simp; omega),below_two' HB1.out HBW.out⟩
    have g5:decide ((i:Int) < sn) = true:=by simp; omega
    by_cases h160:S ≤ 160
    case neg =>
     have HE:Hid (r = false):=Lib.hid (by
      rw [HQ2.out]
      have:=sum_take_le wSt sts i
      have h2:=HS.out
      unfold wCx at h2 ⊢
      simp only [Bool.and_eq_false_iff,decide_eq_false_iff_not]
      exact .inr (by omega))
     have g6:decide ((S:Int) ≤ 160) = false:=by simp; omega
     go_wp2_with fail
     go_ret
     exact ⟨ret_bool HE.out.symm,below_two' HB1.out HBW.out⟩
    have g6:decide ((S:Int) ≤ 160) = true:=by simp; omega
    obtain ⟨t,ht⟩:∃ t,sts[i]? = some t:=get_some (by rw [← HSN.out]; exact hlt)
    obtain ⟨b,off,a3,n3,m3,a4,n4,m4,a5,n5,m5,rfl,hb,d0,d1,d2,d3,d4,d5,k3,k4,k5⟩:=(HSI.out _ HBW.out).at_ ht
    obtain ⟨f0,f1,f2,f3⟩:=HSF.out t (List.mem_of_getElem? ht)
    obtain ⟨l3,l3'⟩:=k3.len
    obtain ⟨l4,l4'⟩:=k4.len
    obtain ⟨l5,l5'⟩:=k5.len
    have HBAD:=Lib.hid (fun h1 => (show r = false by rw [HQ2.out,all_bad (f:=stL) ht h1]; rfl))
    have HAT:=Lib.hid (fun h1 => all_take (f:=stL) ht HA.out h1)
    have HSUM:=Lib.hid (show wCx (sts.take (i + 1)) = S + wSt t by rw [HS.out]; exact sum_next wSt ht)
    obtain ⟨nm,kind,par,ten,tex,ttr⟩:=t
    simp only at d0 d1 d2 f0 f1 f2 f3 k3 k4 k5 l3 l4 l5
    have hOK:stL ⟨nm,kind,par,ten,tex,ttr⟩ = ((decide (nm.size ≤ 100) && (decide (n5 ≤ 20) && (decide (n3 ≤ 10) && decide (n4 ≤ 10)))) && ttr.all okLT):=by rw [l3,l4,l5]; rfl
    by_cases hz:decide (nm.size ≤ 100) && (decide (n5 ≤ 20) && (decide (n3 ≤ 10) && decide (n4 ≤ 10)))
    case neg =>
     have HE:=Lib.hid (HBAD.out (by rw [hOK]; simp only [Bool.not_eq_true] at hz; rw [hz]; rfl))
     clear ht hOK k3 k4 k5
     by_cases e1:100 < nm.size
     ·have g7:decide (100 < (nm.size:Int)) = true:=by simp; omega
      go_wp2_with fail
      go_ret
      exact ⟨ret_bool HE.out.symm,below_two' HB1.out (below_two' HBW.out (KitC.below_one _ _))⟩
     have g7:decide (100 < (nm.size:Int)) = false:=by simp; omega
     by_cases e2:20 < n5
     ·have g8:decide (20 < (n5:Int)) = true:=by simp; omega
      go_wp2_with fail
      go_ret
      exact ⟨ret_bool HE.out.symm,below_two' HB1.out (below_two' HBW.out (KitC.below_one _ _))⟩
     have g8:decide (20 < (n5:Int)) = false:=by simp; omega
     by_cases e3:10 < n3
     ·have g9:decide (10 < (n3:Int)) = true:=by simp; omega
      go_wp2_with fail
      go_ret
      exact ⟨ret_bool HE.out.symm,below_two' HB1.out (below_two' HBW.out (KitC.below_one _ _))⟩
     have g9:decide (10 < (n3:Int)) = false:=by simp; omega
     have e4:10 < n4:=by
      simp only [Bool.and_eq_true,decide_eq_true_eq,not_and] at hz
      have:=hz (by omega) (by omega) (by omega)
      omega
     have g10:decide (10 < (n4:Int)) = true:=by simp; omega
     go_wp2_with fail
     go_ret
     exact ⟨ret_bool HE.out.symm,below_two' HB1.out (below_two' HBW.out (KitC.below_one _ _))⟩
    have hz':=hz
    simp only [Bool.and_eq_true,decide_eq_true_eq] at hz'
    obtain ⟨e1,e2,e3,e4⟩:=hz'
    have g7:decide (100 < (nm.size:Int)) = false:=by simp; omega
    have g8:decide (20 < (n5:Int)) = false:=by simp; omega
    have g9:decide (10 < (n3:Int)) = false:=by simp; omega
    have g10:decide (10 < (n4:Int)) = false:=by simp; omega
    have HBAD2:=Lib.hid (fun (h1:ttr.all okLT = false) => HBAD.out (by rw [hOK,h1,Bool.and_false]))
    have HAT2:=Lib.hid (fun (h1:ttr.all okLT = true) => HAT.out (by rw [hOK,h1,hz]; rfl))
    obtain ⟨OB,hOB⟩:∃ OB:Obj,OB = .cells #[.string nm,.int .i64 kind,.int .i64 par,.slice a3 n3 m3,.slice a4 n4 m4,.slice a5 n5 m5] 58:=⟨_,rfl⟩
    obtain ⟨W2,hW2⟩:∃ W2,wr.alloc OB = W2:=⟨_,rfl⟩
    have hb2:Below wr.heap.size wr W2:=by rw [← hW2]; exact KitC.below_one _ _
    have HW3:Hid (∀ d os,Calls Tryz.prog 30 #[.slice a3 n3 m3] (grow (redrawn W2 d) os) fun e w'' => e = .returned (.int .i64 (weighA ten)) ∧ ∃ p:Regrown,w'' = grow (redrawn W2 p.d) p.os) :=
     Lib.hid (fun d os => Calls.regrown_of ((weigh_any a3 n3 m3 ten _ (k3.keep (below_two' hb2 (below_regrown W2 d os))) f1 (by omega)).mono fun _ _ h => ⟨h.1,h.2 ▸ Below.refl _ _⟩))
    have HW4:Hid (∀ d os,Calls Tryz.prog 30 #[.slice a4 n4 m4] (grow (redrawn W2 d) os) fun e w'' => e = .returned (.int .i64 (weighA tex)) ∧ ∃ p:Regrown,w'' = grow (redrawn W2 p.d) p.os) :=
     Lib.hid (fun d os => Calls.regrown_of ((weigh_any a4 n4 m4 tex _ (k4.keep (below_two' hb2 (below_regrown W2 d os))) f2 (by omega)).mono fun _ _ h => ⟨h.1,h.2 ▸ Below.refl _ _⟩))
    have hk2:W2.heap[wr.heap.size]? = some OB:=by rw [← hW2]; exact heap_alloc_new _ _
    have u3:=weigh_le ten
    have u4:=weigh_le tex
    obtain ⟨q3,hq3⟩:∃ q,q = weighA ten:=⟨_,rfl⟩
    obtain ⟨q4,hq4⟩:∃ q,q = weighA tex:=⟨_,rfl⟩
    have HWS:Hid (wSt ⟨nm,kind,par,ten,tex,ttr⟩ = q3 + q4 + (ttr.map wTr).sum):=Lib.hid (by rw [hq3,hq4]; rfl)
    rw [← hq3] at HW3 u3
    rw [← hq4] at HW4 u4
    have hq3':q3 ≤ 20010:=by omega
    have hq4':q4 ≤ 20010:=by omega
    have HKT:=Lib.hid k5
    have HF3:=Lib.hid f3
    have HL5:=Lib.hid l5
    rw [hOB] at hW2 hk2
    have HW2:=Lib.hid hW2
    have HB2:=Lib.hid (below_two' HBW.out hb2)
    obtain ⟨p0,p1,p2,p3,p4,p5⟩:=cells_6 hk2
    have rp3:=cell_regrown p3
    have rp4:=cell_regrown p4
    have HK2:=Lib.hid (fun W (hW:Below W2.heap.size W2 W) => cells_6 (KitC.block_on hk2 hW))
    have HKT2:=Lib.hid (fun W (hW:Below W2.heap.size W2 W) => k5.keep (below_two' hb2 hW))
    clear HBAD HAT ht hOK k3 k4 k5 l3 l4 l5 hz hq3 hq4 u3 u4 f0 f1 f2 f3 hOB OB hW2 hk2 hb2
    go_wp2_with fail
    rw [HW2.out]
    refine wp_region_quiet_below (by kernel_rfl) (by kernel_rfl) ?_
    repeat (go_big_quiet_step (first | (with_reducible exact HW3.out _ _) | (with_reducible exact HW4.out _ _)))
    refine wpQuiet_nil ?_
    intro _ hw'
    obtain ⟨⟨dq,osq⟩,hw''⟩:=hw'
    subst hw''
    simp only
    have hb3:=below_regrown W2 dq osq
    obtain ⟨W3,hW3⟩:∃ W3,grow (redrawn W2 dq) osq = W3:=⟨_,rfl⟩
    rw [hW3] at hb3 ⊢
    have HB3:=Lib.hid hb3
    clear hb3 hW3 p0 p1 p2 p3 p4 p5 rp3 rp4 HW3 HW4 HW2 c0 c1 c2 c3 d0 d1 d2 d3 d4 d5
    obtain ⟨base,hbase⟩:∃ base,base = S + q3 + q4:=⟨_,rfl⟩
    rw [show (S:Int) + (q3:Int) + (q4:Int) = (base:Int) by omega]
    have hb50:base ≤ 50000:=by omega
    have HBASE:=Lib.hid hbase
    clear hbase hq3' hq4'
    go_wp2_with fail
    go_loopw [4,7] (fun s i wr => LTrRel W3 ttr n5 base s i wr) (fun _ i _ => n5 - (intOf i).toNat)
    case atStart => exact ⟨0,Nat.zero_le _,rfl,by simp,rfl,by simp; omega,Below.refl _ _⟩
    case round =>
     obtain ⟨j,hj,rfl,rfl,hall,hsum2,hbx⟩:=hrel
     have HAJ:=Lib.hid hall
     have HBX:=Lib.hid hbx
     have HB3X:=Lib.hid (below_two' HB3.out hbx)
     obtain ⟨q,hq⟩:∃ q,q = base + ((ttr.take j).map wTr).sum:=⟨_,rfl⟩
     rw [← hq] at hsum2 ⊢
     have HQJ:=Lib.hid hq
     clear hall hbx hq
     obtain ⟨p0,p1,p2,p3,p4,p5⟩:=HK2.out _ HB3X.out
     by_cases hjl:j < n5
     case neg =>
      obtain rfl:j = n5:=by omega
      have g5:decide ((j:Int) < j) = false:=by simp
      have HFIN:Hid (wCx (sts.take (i + 1)) = q ∧ (sts.take (i + 1)).all stL = true):=Lib.hid (by
       have h1:=HAJ.out
       have h2:=HQJ.out
       rw [List.take_of_length_le (by rw [← HL5.out]; omega)] at h1 h2
       refine ⟨?_,HAT2.out h1⟩
       rw [HSUM.out,HWS.out,h2,HBASE.out]
       omega)
      have hq1:q ≤ 1000000:=by omega
      go_wp2_with fail
      go_roundw
      case rel => exact ⟨i + 1,by omega,by go_num,by rw [HFIN.out.1],HFIN.out.2,by rw [HFIN.out.1]; exact hq1,below_two' HB2.out HB3X.out⟩
      case measure => simp [intOf]; omega
     have g5':decide ((j:Int) < n5) = true:=by simp; omega
     obtain ⟨t,ht⟩:∃ t,ttr[j]? = some t:=get_some (by rw [← HL5.out]; exact hjl)
     obtain ⟨bt,ot,gA,gn,gc,aA,an,ac,rfl,hbt,e0,e1',e2',e3',htr⟩:=(HKT2.out _ HB3X.out).at_ ht
     obtain ⟨m0,m1,m2,m3⟩:=HF3.out t (List.mem_of_getElem? ht)
     have han:=htr.len.2
     have HBADJ:=Lib.hid (fun h1 => HBAD2.out (all_bad (f:=okLT) ht h1))
     have HATJ:=Lib.hid (fun h1 => all_take (f:=okLT) ht HAJ.out h1)
     have HSUMJ:=Lib.hid (show base + ((ttr.take (j + 1)).map wTr).sum = q + wTr t by rw [sum_next wTr ht,HQJ.out]; omega)
     obtain ⟨ev,g,acts,tg⟩:=t
     simp only at e0 e3' m0 m1 m2 m3 han
     have hOKT:okLT ⟨ev,g,acts,tg⟩ = (decide (ev.size ≤ 100) && (decide (tg.size ≤ 100) && decide (an ≤ 10))):=by rw [han]; rfl
     by_cases y1:100 < ev.size
     ·have HE:=Lib.hid (HBADJ.out (by rw [hOKT]; simp; omega))
      have g11:decide (100 < (ev.size:Int)) = true:=by simp; omega
      clear ht htr hOKT
      go_wp2_with fail
      go_ret
      exact ⟨ret_bool HE.out.symm,below_two' HB1.out (below_two' HB2.out (below_two' HB3X.out (KitC.below_one _ _)))⟩
     have g11:decide (100 < (ev.size:Int)) = false:=by simp; omega
     by_cases y2:100 < tg.size
     ·have HE:=Lib.hid (HBADJ.out (by rw [hOKT]; simp; omega))
      have g12:decide (100 < (tg.size:Int)) = true:=by simp; omega
      clear ht htr hOKT
      go_wp2_with fail
      go_ret
      exact ⟨ret_bool HE.out.symm,below_two' HB1.out (below_two' HB2.out (below_two' HB3X.out (KitC.below_one _ _)))⟩
     have g12:decide (100 < (tg.size:Int)) = false:=by simp; omega
     by_cases y3:10 < an
     ·have HE:=Lib.hid (HBADJ.out (by rw [hOKT]; simp; omega))
      have g13:decide (10 < (an:Int)) = true:=by simp; omega
      clear ht htr hOKT
      go_wp2_with fail
      go_ret
      exact ⟨ret_bool HE.out.symm,below_two' HB1.out (below_two' HB2.out (below_two' HB3X.out (KitC.below_one _ _)))⟩
     have g13:decide (10 < (an:Int)) = false:=by simp; omega
     have HATJ2:=Lib.hid (HATJ.out (by rw [hOKT]; simp; omega))
     have hw21:=wTr_le (t:=⟨ev,g,acts,tg⟩) (by simp only; omega)
     have hwt:wTr ⟨ev,g,acts,tg⟩ = 1 + weighA acts + termsW g:=rfl
     have u1:=weigh_le acts
     have u2:=termsW_le g
     obtain ⟨OT,hOT⟩:∃ OT:Obj,OT = .cells #[.string ev,.slice gA gn gc,.slice aA an ac,.string tg] 65:=⟨_,rfl⟩
     obtain ⟨W4,hW4⟩:∃ W4,wr.alloc OT = W4:=⟨_,rfl⟩
     have hb4:Below wr.heap.size wr W4:=by rw [← hW4]; exact KitC.below_one _ _
     have HX3:Hid (∀ d os,Calls Tryz.prog 30 #[.slice aA an ac] (grow (redrawn W4 d) os) fun e w'' => e = .returned (.int .i64 (weighA acts)) ∧ ∃ p:Regrown,w'' = grow (redrawn W4 p.d) p.os) :=
      Lib.hid (fun d os => Calls.regrown_of ((weigh_any aA an ac acts _ (htr.a.keep (below_two' hb4 (below_regrown W4 d os))) m3 (by omega)).mono fun _ _ h => ⟨h.1,h.2 ▸ Below.refl _ _⟩))
     have HX4:Hid (∀ d os,Calls Tryz.prog 31 #[.slice gA gn gc] (grow (redrawn W4 d) os) fun e w'' => e = .returned (.int .i64 (termsW g)) ∧ ∃ p:Regrown,w'' = grow (redrawn W4 p.d) p.os) :=
      Lib.hid (fun d os => Calls.regrown_of ((terms_any gA gn gc g _ (htr.g.keep (below_two' hb4 (below_regrown W4 d os))) m2).mono fun _ _ h => ⟨h.1,h.2 ▸ Below.refl _ _⟩))
     have hk4:W4.heap[wr.heap.size]? = some OT:=by rw [← hW4]; exact heap_alloc_new _ _
     obtain ⟨x3,hx3⟩:∃ x,x = weighA acts:=⟨_,rfl⟩
     obtain ⟨x4,hx4⟩:∃ x,x = termsW g:=⟨_,rfl⟩
     rw [← hx3] at HX3 hwt u1
     rw [← hx4] at HX4 hwt u2
     have hx3':x3 ≤ 20010:=by omega
     rw [hwt] at HSUMJ hw21
     rw [hOT] at hW4 hk4
     have HW4:=Lib.hid hW4
     have HB4:=Lib.hid (below_two' HBX.out hb4)
     obtain ⟨z0,z1,z2,z3⟩:=cells_4 hk4
     have rz1:=cell_regrown z1
     have rz2:=cell_regrown z2
     have hq2:q ≤ 1000000:=by omega
     have HS2:=Lib.hid hsum2
     clear ht htr hOKT HBADJ HATJ m0 m1 m2 m3 han hx3 hx4 u1 hOT hW4 hk4 hb4 hsum2
     go_wp2_with fail
     rw [HW4.out]
     refine wp_region_quiet_below (by kernel_rfl) (by kernel_rfl) ?_
     repeat (go_big_quiet_step (first | (with_reducible exact HX3.out _ _) | (with_reducible exact HX4.out _ _)))
     refine wpQuiet_nil ?_
     intro _ hw'
     obtain ⟨⟨dq,osq⟩,hw''⟩:=hw'
     subst hw''
     simp only
     have HB5:=Lib.hid (below_two' HB4.out (below_regrown W4 dq osq))
     go_wp2_with fail
     go_roundw
     case rel => exact ⟨j + 1,by omega,by go_num,by rw [HSUMJ.out]; simp; omega,HATJ2.out,by rw [HSUMJ.out]; have:=HS2.out; omega,HB5.out⟩
     case measure => simp [intOf]; omega
end Go.Proofs.YtjfghaohogcfbaaGreatDoor