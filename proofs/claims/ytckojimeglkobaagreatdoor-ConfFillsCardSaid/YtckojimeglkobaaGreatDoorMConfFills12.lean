/- PrintLightC, SynChart, ConfRef, ConfMay, RowK, joined. -/
import Derived.Test.YtckojimeglkobaaGreatDoorMConfFills11
import Derived.Lib.QuietBelow
import Derived.BigQuiet
import Derived.Test.YtckojimeglkobaaGreatDoorMConfFills04
import Derived.Test.YtckojimeglkobaaGreatDoorMConfFills05
import Derived.Test.YtckojimeglkobaaGreatDoorMConfFills01
import Derived.Test.YtckojimeglkobaaGreatDoorMConfFills08
import Derived.Deep.AppendLies
import Derived.Deep.RegionLaw
namespace Go.Proofs.YtckojimeglkobaaGreatDoor
open Go.RowKit Go.Sort TermSpec EvalSpec ActSpec NamesSpec ExprSpec TransSpec SynSpec PrintSpec
set_option maxRecDepth 100000
abbrev chO (s:ByteArray) (e v t:Value):Obj:=.cells #[.string s,e,v,t] 26
def LVarRel (vars:List Vr) (n:Nat) (i:Value):Prop:=∃ k:Nat,k ≤ n ∧ i = .int .i64 k ∧ (vars.take k).all (fun v => decide (v.s.size ≤ 100)) = true
def LStRel (W:World) (l:List Sx) (n:Nat) (s i:Value) (wr:World):Prop:=∃ k:Nat,k ≤ n ∧ i = .int .i64 k ∧ s = .int .i64 (wCx (l.take k)) ∧ (l.take k).all stL = true ∧ wCx (l.take k) ≤ 1000000 ∧ Below W.heap.size W wr
def LTrRel (W:World) (l:List Tr) (n base:Nat) (s i:Value) (wr:World):Prop:=∃ k:Nat,k ≤ n ∧ i = .int .i64 k ∧ s = .int .i64 ((base + ((l.take k).map wTr).sum:Nat)) ∧ (l.take k).all okLT = true ∧ base + ((l.take k).map wTr).sum ≤ 50000 + 21011 * k ∧ Below W.heap.size W wr
theorem lightC_parts {x:Cx} (h1:x.s.size ≤ 100) (h2:manyB x.evs = false) (h3:x.vars.length ≤ 10) (h4:x.sts.length ≤ 65):lightC x = (x.vars.all (fun v => decide (v.s.size ≤ 100)) && (x.sts.all stL && decide (wCx x.sts ≤ 160))):=by
 unfold lightC
 simp [h1,h2,h3,h4]
set_option maxRecDepth 100000 in
set_option maxHeartbeats 16000000 in
theorem lightC_any (x:Cx) (eA:Option Addr) (en ec:Nat) (vA:Option Addr) (vn vc:Nat) (sA:Option Addr) (sn sc:Nat) (w:World) (h:ChIn w (.slice eA en ec) (.slice vA vn vc) (.slice sA sn sc) x) (hf:FitC x) :
 Calls Tryz.prog 6 #[.agg #[.string x.s,.slice eA en ec,.slice vA vn vc,.slice sA sn sc]] w (RetB w (lightC x)):=by
 obtain ⟨hvn,hvc⟩:=RdV.len h.vars
 obtain ⟨hsn,hsc⟩:=h.sts.len
 have hs0:=hf.s
 obtain ⟨W1,hW1⟩:∃ W1,w.alloc (chO x.s (.slice eA en ec) (.slice vA vn vc) (.slice sA sn sc)) = W1:=⟨_,rfl⟩
 have hb1:Below w.heap.size w W1:=by rw [← hW1]; exact KitC.below_one _ _
 have hk1:W1.heap[w.heap.size]? = some (chO x.s (.slice eA en ec) (.slice vA vn vc) (.slice sA sn sc)):=by rw [← hW1]; exact heap_alloc_new _ _
 have HK:=Lib.hid (fun W (hW:Below W1.heap.size W1 W) => cells_4 (KitC.block_on hk1 hW))
 have HM:=Lib.hid (many_any eA en ec x.evs W1 (h.keep hb1).evs hf.evl hf.evs)
 have HVI:=Lib.hid ((RdV.vars h.vars).keep hb1)
 have HSI:=Lib.hid (fun W (hW:Below W1.heap.size W1 W) => h.sts.keep (below_two' hb1 hW))
 have HVF:=Lib.hid hf.vars
 have HSF:=Lib.hid hf.sts
 have HW1:=Lib.hid hW1
 have HB1:=Lib.hid hb1
 obtain ⟨c0,c1,c2,c3⟩:=cells_4 hk1
 obtain ⟨r,hr⟩:∃ r,r = lightC x:=⟨_,rfl⟩
 have HP:=Lib.hid (fun h1 h2 h3 h4 => hr.trans (lightC_parts (x:=x) h1 h2 h3 h4))
 have HR:=Lib.hid hr
 rw [← hr]
 obtain ⟨s,evs,vars,sts⟩:=x
 simp only at hvn hsn hs0 HM HVI HSI HVF HSF HP HK c0 c1 c2 c3 HW1 ⊢
 have HVN:=Lib.hid hvn
 have HSN:=Lib.hid hsn
 clear hr hW1 hb1 hk1 h hf hvn hsn
 by_cases h1:100 < s.size
 ·have g1:decide (100 < (s.size:Int)) = true:=by simp; omega
  have HE:Hid (r = false):=Lib.hid (by rw [HR.out]; unfold lightC; simp; omega)
  go_enter Tryz.func6,Tryz.ntmps6
  go_wp2_with fail
  go_ret
  exact ⟨ret_bool HE.out.symm,KitC.below_one _ _⟩
 have g1:decide (100 < (s.size:Int)) = false:=by simp; omega
 rcases hmb:manyB evs with _ | _
 case true =>
  have HE:Hid (r = false):=Lib.hid (by rw [HR.out]; unfold lightC; simp [hmb])
  rw [hmb] at HM
  clear hmb
  go_enter Tryz.func6,Tryz.ntmps6
  go_wp2_with (rw [HW1.out]; go_at_call 22; (with_reducible refine HM.out.mono ?_))
  rintro e2 w2 ⟨rfl,rfl⟩
  go_wp2_with fail
  go_ret
  exact ⟨ret_bool HE.out.symm,HB1.out⟩
 rw [hmb] at HM
 by_cases h3:10 < vn
 ·have g3:decide (10 < (vn:Int)) = true:=by simp; omega
  have HE:Hid (r = false):=Lib.hid (by rw [HR.out]; unfold lightC; have:=HVN.out; simp; omega)
  clear hmb
  go_enter Tryz.func6,Tryz.ntmps6
  go_wp2_with (rw [HW1.out]; go_at_call 22; (with_reducible refine HM.out.mono ?_))
  rintro e2 w2 ⟨rfl,rfl⟩
  go_wp2_with fail
  go_ret
  exact ⟨ret_bool HE.out.symm,HB1.out⟩
 have g3:decide (10 < (vn:Int)) = false:=by simp; omega
 by_cases h4:65 < sn
 ·have g4:decide (65 < (sn:Int)) = true:=by simp; omega
  have HE:Hid (r = false):=Lib.hid (by rw [HR.out]; unfold lightC; have:=HSN.out; simp; omega)
  clear hmb
  go_enter Tryz.func6,Tryz.ntmps6
  go_wp2_with (rw [HW1.out]; go_at_call 22; (with_reducible refine HM.out.mono ?_))
  rintro e2 w2 ⟨rfl,rfl⟩
  go_wp2_with fail
  go_ret
  exact ⟨ret_bool HE.out.symm,HB1.out⟩
 have g4:decide (65 < (sn:Int)) = false:=by simp; omega
 have HQ:=Lib.hid (HP.out (by omega) hmb (by have:=HVN.out; omega) (by have:=HSN.out; omega))
 clear hmb HP HR
 go_enter Tryz.func6,Tryz.ntmps6
 go_wp2_with (rw [HW1.out]; go_at_call 22; (with_reducible refine HM.out.mono ?_))
 rintro e2 w2 ⟨rfl,rfl⟩
 go_wp2_with fail
 go_loop [3] (fun i => LVarRel vars vn i) (fun i => vn - (intOf i).toNat)
 case atStart => exact ⟨0,Nat.zero_le _,rfl,rfl⟩
 case round =>
  obtain ⟨k,hk,rfl,hall⟩:=hrel
  have HA:=Lib.hid hall
  clear hall
  by_cases hlt:k < vn
  ·obtain ⟨v,hv⟩:∃ v,vars[k]? = some v:=get_some (by rw [← HVN.out]; exact hlt)
   obtain ⟨b,off,rfl,hb,d0,d1,d2,d3⟩:=HVI.out.at_ hv
   have hsz:=HVF.out v (List.mem_of_getElem? hv)
   by_cases hx:100 < v.s.size
   ·have HE:Hid (r = false):=Lib.hid (by rw [HQ.out,all_bad hv (by simp; omega)]; rfl)
    have g5:decide (100 < (v.s.size:Int)) = true:=by simp; omega
    clear hv
    go_wp2_with fail
    go_ret
    exact ⟨ret_bool HE.out.symm,HB1.out⟩
   ·have HX:=Lib.hid (all_take hv HA.out (by simp; omega))
    have g5:decide (100 < (v.s.size:Int)) = false:=by simp; omega
    clear hv
    go_wp2_with fail
    go_round
    case rel => exact ⟨k + 1,by omega,by go_num,HX.out⟩
    case measure => simp [intOf]; omega
  ·have HVA:Hid (vars.all (fun v => decide (v.s.size ≤ 100)) = true):=Lib.hid (by
    have:=HA.out
    rwa [List.take_of_length_le (by rw [← HVN.out]; omega)] at this)
   have HQ2:Hid (r = (sts.all stL && decide (wCx sts ≤ 160))):=Lib.hid (by rw [HQ.out,HVA.out,Bool.true_and])
   clear HA HVA HQ HVI HVF HM
   go_wp2_with fail
   go_loopw [4,5] (fun s i wr => LStRel W1 sts sn s i wr) (fun _ i _ => sn - (intOf i).toNat)
   case atStart => exact ⟨0,Nat.zero_le _,rfl,rfl,rfl,by simp [wCx],Below.refl _ _⟩
   case round =>
    obtain ⟨i,hi,rfl,rfl,hall,hsum,hbw⟩:=hrel
    have HA:=Lib.hid hall
    have HBW:=Lib.hid hbw
    obtain ⟨S,hS⟩:∃ S,S = wCx (sts.take i):=⟨_,rfl⟩
    rw [← hS] at hsum ⊢
    have HS:=Lib.hid hS
    clear c0 c1 c2 c3 hall hS
    obtain ⟨c0,c1,c2,c3⟩:=HK.out _ hbw
    clear hbw
    by_cases hlt:i < sn
    case neg =>
     obtain rfl:i = sn:=by omega
     have HE:Hid (r = decide (S ≤ 160)):=Lib.hid (by
      have h1:=HA.out
      have h2:=HS.out
      rw [List.take_of_length_le (by rw [← HSN.out]; omega)] at h1 h2
      rw [HQ2.out,h1,h2,Bool.true_and])
     have g5:decide ((i:Int) < i) = false:=by simp
     go_wp2_with fail
     go_ret
     exact ⟨ret_bool (by rw [HE.out]; simp; omega),below_two' HB1.out HBW.out⟩
    have g5:decide ((i:Int) < sn) = true:=by simp; omega
    by_cases h160:S ≤ 160
    case neg =>
     have HE:Hid (r = false):=Lib.hid (by
      rw [HQ2.out]
      have:=sum_take_le wSt sts i
      have h2:=HS.out
      unfold wCx at h2 ⊢
      simp only [Bool.and_eq_false_iff,decide_eq_false_iff_not]
      exact .inr (by omega))
     have g6:decide ((S:Int) ≤ 160) = false:=by simp; omega
     go_wp2_with fail
     go_ret
     exact ⟨ret_bool HE.out.symm,below_two' HB1.out HBW.out⟩
    have g6:decide ((S:Int) ≤ 160) = true:=by simp; omega
    obtain ⟨t,ht⟩:∃ t,sts[i]? = some t:=get_some (by rw [← HSN.out]; exact hlt)
    obtain ⟨b,off,a3,n3,m3,a4,n4,m4,a5,n5,m5,rfl,hb,d0,d1,d2,d3,d4,d5,k3,k4,k5⟩:=(HSI.out _ HBW.out).at_ ht
    obtain ⟨f0,f1,f2,f3⟩:=HSF.out t (List.mem_of_getElem? ht)
    obtain ⟨l3,l3'⟩:=k3.len
    obtain ⟨l4,l4'⟩:=k4.len
    obtain ⟨l5,l5'⟩:=k5.len
    have HBAD:=Lib.hid (fun h1 => (show r = false by rw [HQ2.out,all_bad (f:=stL) ht h1]; rfl))
    have HAT:=Lib.hid (fun h1 => all_take (f:=stL) ht HA.out h1)
    have HSUM:=Lib.hid (show wCx (sts.take (i + 1)) = S + wSt t by rw [HS.out]; exact sum_next wSt ht)
    obtain ⟨nm,kind,par,ten,tex,ttr⟩:=t
    simp only at d0 d1 d2 f0 f1 f2 f3 k3 k4 k5 l3 l4 l5
    have hOK:stL ⟨nm,kind,par,ten,tex,ttr⟩ = ((decide (nm.size ≤ 100) && (decide (n5 ≤ 20) && (decide (n3 ≤ 10) && decide (n4 ≤ 10)))) && ttr.all okLT):=by rw [l3,l4,l5]; rfl
    by_cases hz:decide (nm.size ≤ 100) && (decide (n5 ≤ 20) && (decide (n3 ≤ 10) && decide (n4 ≤ 10)))
    case neg =>
     have HE:=Lib.hid (HBAD.out (by rw [hOK]; simp only [Bool.not_eq_true] at hz; rw [hz]; rfl))
     clear ht hOK k3 k4 k5
     by_cases e1:100 < nm.size
     ·have g7:decide (100 < (nm.size:Int)) = true:=by simp; omega
      go_wp2_with fail
      go_ret
      exact ⟨ret_bool HE.out.symm,below_two' HB1.out (below_two' HBW.out (KitC.below_one _ _))⟩
     have g7:decide (100 < (nm.size:Int)) = false:=by simp; omega
     by_cases e2:20 < n5
     ·have g8:decide (20 < (n5:Int)) = true:=by simp; omega
      go_wp2_with fail
      go_ret
      exact ⟨ret_bool HE.out.symm,below_two' HB1.out (below_two' HBW.out (KitC.below_one _ _))⟩
     have g8:decide (20 < (n5:Int)) = false:=by simp; omega
     by_cases e3:10 < n3
     ·have g9:decide (10 < (n3:Int)) = true:=by simp; omega
      go_wp2_with fail
      go_ret
      exact ⟨ret_bool HE.out.symm,below_two' HB1.out (below_two' HBW.out (KitC.below_one _ _))⟩
     have g9:decide (10 < (n3:Int)) = false:=by simp; omega
     have e4:10 < n4:=by
      simp only [Bool.and_eq_true,decide_eq_true_eq,not_and] at hz
      have:=hz (by omega) (by omega) (by omega)
      omega
     have g10:decide (10 < (n4:Int)) = true:=by simp; omega
     go_wp2_with fail
     go_ret
     exact ⟨ret_bool HE.out.symm,below_two' HB1.out (below_two' HBW.out (KitC.below_one _ _))⟩
    have hz':=hz
    simp only [Bool.and_eq_true,decide_eq_true_eq] at hz'
    obtain ⟨e1,e2,e3,e4⟩:=hz'
    have g7:decide (100 < (nm.size:Int)) = false:=by simp; omega
    have g8:decide (20 < (n5:Int)) = false:=by simp; omega
    have g9:decide (10 < (n3:Int)) = false:=by simp; omega
    have g10:decide (10 < (n4:Int)) = false:=by simp; omega
    have HBAD2:=Lib.hid (fun (h1:ttr.all okLT = false) => HBAD.out (by rw [hOK,h1,Bool.and_false]))
    have HAT2:=Lib.hid (fun (h1:ttr.all okLT = true) => HAT.out (by rw [hOK,h1,hz]; rfl))
    obtain ⟨OB,hOB⟩:∃ OB:Obj,OB = .cells #[.string nm,.int .i64 kind,.int .i64 par,.slice a3 n3 m3,.slice a4 n4 m4,.slice a5 n5 m5] 58:=⟨_,rfl⟩
    obtain ⟨W2,hW2⟩:∃ W2,wr.alloc OB = W2:=⟨_,rfl⟩
    have hb2:Below wr.heap.size wr W2:=by rw [← hW2]; exact KitC.below_one _ _
    have HW3:Hid (∀ d os,Calls Tryz.prog 23 #[.slice a3 n3 m3] (grow (redrawn W2 d) os) fun e w'' => e = .returned (.int .i64 (weighA ten)) ∧ ∃ p:Regrown,w'' = grow (redrawn W2 p.d) p.os) :=
     Lib.hid (fun d os => Calls.regrown_of ((weigh_any a3 n3 m3 ten _ (k3.keep (below_two' hb2 (below_regrown W2 d os))) f1 (by omega)).mono fun _ _ h => ⟨h.1,h.2 ▸ Below.refl _ _⟩))
    have HW4:Hid (∀ d os,Calls Tryz.prog 23 #[.slice a4 n4 m4] (grow (redrawn W2 d) os) fun e w'' => e = .returned (.int .i64 (weighA tex)) ∧ ∃ p:Regrown,w'' = grow (redrawn W2 p.d) p.os) :=
     Lib.hid (fun d os => Calls.regrown_of ((weigh_any a4 n4 m4 tex _ (k4.keep (below_two' hb2 (below_regrown W2 d os))) f2 (by omega)).mono fun _ _ h => ⟨h.1,h.2 ▸ Below.refl _ _⟩))
    have hk2:W2.heap[wr.heap.size]? = some OB:=by rw [← hW2]; exact heap_alloc_new _ _
    have u3:=weigh_le ten
    have u4:=weigh_le tex
    obtain ⟨q3,hq3⟩:∃ q,q = weighA ten:=⟨_,rfl⟩
    obtain ⟨q4,hq4⟩:∃ q,q = weighA tex:=⟨_,rfl⟩
    have HWS:Hid (wSt ⟨nm,kind,par,ten,tex,ttr⟩ = q3 + q4 + (ttr.map wTr).sum):=Lib.hid (by rw [hq3,hq4]; rfl)
    rw [← hq3] at HW3 u3
    rw [← hq4] at HW4 u4
    have hq3':q3 ≤ 20010:=by omega
    have hq4':q4 ≤ 20010:=by omega
    have HKT:=Lib.hid k5
    have HF3:=Lib.hid f3
    have HL5:=Lib.hid l5
    rw [hOB] at hW2 hk2
    have HW2:=Lib.hid hW2
    have HB2:=Lib.hid (below_two' HBW.out hb2)
    obtain ⟨p0,p1,p2,p3,p4,p5⟩:=cells_6 hk2
    have rp3:=cell_regrown p3
    have rp4:=cell_regrown p4
    have HK2:=Lib.hid (fun W (hW:Below W2.heap.size W2 W) => cells_6 (KitC.block_on hk2 hW))
    have HKT2:=Lib.hid (fun W (hW:Below W2.heap.size W2 W) => k5.keep (below_two' hb2 hW))
    clear HBAD HAT ht hOK k3 k4 k5 l3 l4 l5 hz hq3 hq4 u3 u4 f0 f1 f2 f3 hOB OB hW2 hk2 hb2
    go_wp2_with fail
    rw [HW2.out]
    refine wp_region_quiet_below (by kernel_rfl) (by kernel_rfl) ?_
    repeat (go_big_quiet_step (first | (with_reducible exact HW3.out _ _) | (with_reducible exact HW4.out _ _)))
    refine wpQuiet_nil ?_
    intro _ hw'
    obtain ⟨⟨dq,osq⟩,hw''⟩:=hw'
    subst hw''
    simp only
    have hb3:=below_regrown W2 dq osq
    obtain ⟨W3,hW3⟩:∃ W3,grow (redrawn W2 dq) osq = W3:=⟨_,rfl⟩
    rw [hW3] at hb3 ⊢
    have HB3:=Lib.hid hb3
    clear hb3 hW3 p0 p1 p2 p3 p4 p5 rp3 rp4 HW3 HW4 HW2 c0 c1 c2 c3 d0 d1 d2 d3 d4 d5
    obtain ⟨base,hbase⟩:∃ base,base = S + q3 + q4:=⟨_,rfl⟩
    rw [show (S:Int) + (q3:Int) + (q4:Int) = (base:Int) by omega]
    have hb50:base ≤ 50000:=by omega
    have HBASE:=Lib.hid hbase
    clear hbase hq3' hq4'
    go_wp2_with fail
    go_loopw [4,7] (fun s i wr => LTrRel W3 ttr n5 base s i wr) (fun _ i _ => n5 - (intOf i).toNat)
    case atStart => exact ⟨0,Nat.zero_le _,rfl,by simp,rfl,by simp; omega,Below.refl _ _⟩
    case round =>
     obtain ⟨j,hj,rfl,rfl,hall,hsum2,hbx⟩:=hrel
     have HAJ:=Lib.hid hall
     have HBX:=Lib.hid hbx
     have HB3X:=Lib.hid (below_two' HB3.out hbx)
     obtain ⟨q,hq⟩:∃ q,q = base + ((ttr.take j).map wTr).sum:=⟨_,rfl⟩
     rw [← hq] at hsum2 ⊢
     have HQJ:=Lib.hid hq
     clear hall hbx hq
     obtain ⟨p0,p1,p2,p3,p4,p5⟩:=HK2.out _ HB3X.out
     by_cases hjl:j < n5
     case neg =>
      obtain rfl:j = n5:=by omega
      have g5:decide ((j:Int) < j) = false:=by simp
      have HFIN:Hid (wCx (sts.take (i + 1)) = q ∧ (sts.take (i + 1)).all stL = true):=Lib.hid (by
       have h1:=HAJ.out
       have h2:=HQJ.out
       rw [List.take_of_length_le (by rw [← HL5.out]; omega)] at h1 h2
       refine ⟨?_,HAT2.out h1⟩
       rw [HSUM.out,HWS.out,h2,HBASE.out]
       omega)
      have hq1:q ≤ 1000000:=by omega
      go_wp2_with fail
      go_roundw
      case rel => exact ⟨i + 1,by omega,by go_num,by rw [HFIN.out.1],HFIN.out.2,by rw [HFIN.out.1]; exact hq1,below_two' HB2.out HB3X.out⟩
      case measure => simp [intOf]; omega
     have g5':decide ((j:Int) < n5) = true:=by simp; omega
     obtain ⟨t,ht⟩:∃ t,ttr[j]? = some t:=get_some (by rw [← HL5.out]; exact hjl)
     obtain ⟨bt,ot,gA,gn,gc,aA,an,ac,rfl,hbt,e0,e1',e2',e3',htr⟩:=(HKT2.out _ HB3X.out).at_ ht
     obtain ⟨m0,m1,m2,m3⟩:=HF3.out t (List.mem_of_getElem? ht)
     have han:=htr.len.2
     have HBADJ:=Lib.hid (fun h1 => HBAD2.out (all_bad (f:=okLT) ht h1))
     have HATJ:=Lib.hid (fun h1 => all_take (f:=okLT) ht HAJ.out h1)
     have HSUMJ:=Lib.hid (show base + ((ttr.take (j + 1)).map wTr).sum = q + wTr t by rw [sum_next wTr ht,HQJ.out]; omega)
     obtain ⟨ev,g,acts,tg⟩:=t
     simp only at e0 e3' m0 m1 m2 m3 han
     have hOKT:okLT ⟨ev,g,acts,tg⟩ = (decide (ev.size ≤ 100) && (decide (tg.size ≤ 100) && decide (an ≤ 10))):=by rw [han]; rfl
     by_cases y1:100 < ev.size
     ·have HE:=Lib.hid (HBADJ.out (by rw [hOKT]; simp; omega))
      have g11:decide (100 < (ev.size:Int)) = true:=by simp; omega
      clear ht htr hOKT
      go_wp2_with fail
      go_ret
      exact ⟨ret_bool HE.out.symm,below_two' HB1.out (below_two' HB2.out (below_two' HB3X.out (KitC.below_one _ _)))⟩
     have g11:decide (100 < (ev.size:Int)) = false:=by simp; omega
     by_cases y2:100 < tg.size
     ·have HE:=Lib.hid (HBADJ.out (by rw [hOKT]; simp; omega))
      have g12:decide (100 < (tg.size:Int)) = true:=by simp; omega
      clear ht htr hOKT
      go_wp2_with fail
      go_ret
      exact ⟨ret_bool HE.out.symm,below_two' HB1.out (below_two' HB2.out (below_two' HB3X.out (KitC.below_one _ _)))⟩
     have g12:decide (100 < (tg.size:Int)) = false:=by simp; omega
     by_cases y3:10 < an
     ·have HE:=Lib.hid (HBADJ.out (by rw [hOKT]; simp; omega))
      have g13:decide (10 < (an:Int)) = true:=by simp; omega
      clear ht htr hOKT
      go_wp2_with fail
      go_ret
      exact ⟨ret_bool HE.out.symm,below_two' HB1.out (below_two' HB2.out (below_two' HB3X.out (KitC.below_one _ _)))⟩
     have g13:decide (10 < (an:Int)) = false:=by simp; omega
     have HATJ2:=Lib.hid (HATJ.out (by rw [hOKT]; simp; omega))
     have hw21:=wTr_le (t:=⟨ev,g,acts,tg⟩) (by simp only; omega)
     have hwt:wTr ⟨ev,g,acts,tg⟩ = 1 + weighA acts + termsW g:=rfl
     have u1:=weigh_le acts
     have u2:=termsW_le g
     obtain ⟨OT,hOT⟩:∃ OT:Obj,OT = .cells #[.string ev,.slice gA gn gc,.slice aA an ac,.string tg] 62:=⟨_,rfl⟩
     obtain ⟨W4,hW4⟩:∃ W4,wr.alloc OT = W4:=⟨_,rfl⟩
     have hb4:Below wr.heap.size wr W4:=by rw [← hW4]; exact KitC.below_one _ _
     have HX3:Hid (∀ d os,Calls Tryz.prog 23 #[.slice aA an ac] (grow (redrawn W4 d) os) fun e w'' => e = .returned (.int .i64 (weighA acts)) ∧ ∃ p:Regrown,w'' = grow (redrawn W4 p.d) p.os) :=
      Lib.hid (fun d os => Calls.regrown_of ((weigh_any aA an ac acts _ (htr.a.keep (below_two' hb4 (below_regrown W4 d os))) m3 (by omega)).mono fun _ _ h => ⟨h.1,h.2 ▸ Below.refl _ _⟩))
     have HX4:Hid (∀ d os,Calls Tryz.prog 24 #[.slice gA gn gc] (grow (redrawn W4 d) os) fun e w'' => e = .returned (.int .i64 (termsW g)) ∧ ∃ p:Regrown,w'' = grow (redrawn W4 p.d) p.os) :=
      Lib.hid (fun d os => Calls.regrown_of ((terms_any gA gn gc g _ (htr.g.keep (below_two' hb4 (below_regrown W4 d os))) m2).mono fun _ _ h => ⟨h.1,h.2 ▸ Below.refl _ _⟩))
     have hk4:W4.heap[wr.heap.size]? = some OT:=by rw [← hW4]; exact heap_alloc_new _ _
     obtain ⟨x3,hx3⟩:∃ x,x = weighA acts:=⟨_,rfl⟩
     obtain ⟨x4,hx4⟩:∃ x,x = termsW g:=⟨_,rfl⟩
     rw [← hx3] at HX3 hwt u1
     rw [← hx4] at HX4 hwt u2
     have hx3':x3 ≤ 20010:=by omega
     rw [hwt] at HSUMJ hw21
     rw [hOT] at hW4 hk4
     have HW4:=Lib.hid hW4
     have HB4:=Lib.hid (below_two' HBX.out hb4)
     obtain ⟨z0,z1,z2,z3⟩:=cells_4 hk4
     have rz1:=cell_regrown z1
     have rz2:=cell_regrown z2
     have hq2:q ≤ 1000000:=by omega
     have HS2:=Lib.hid hsum2
     clear ht htr hOKT HBADJ HATJ m0 m1 m2 m3 han hx3 hx4 u1 hOT hW4 hk4 hb4 hsum2
     go_wp2_with fail
     rw [HW4.out]
     refine wp_region_quiet_below (by kernel_rfl) (by kernel_rfl) ?_
     repeat (go_big_quiet_step (first | (with_reducible exact HX3.out _ _) | (with_reducible exact HX4.out _ _)))
     refine wpQuiet_nil ?_
     intro _ hw'
     obtain ⟨⟨dq,osq⟩,hw''⟩:=hw'
     subst hw''
     simp only
     have HB5:=Lib.hid (below_two' HB4.out (below_regrown W4 dq osq))
     go_wp2_with fail
     go_roundw
     case rel => exact ⟨j + 1,by omega,by go_num,by rw [HSUMJ.out]; simp; omega,HATJ2.out,by rw [HSUMJ.out]; have:=HS2.out; omega,HB5.out⟩
     case measure => simp [intOf]; omega
end Go.Proofs.YtckojimeglkobaaGreatDoor
namespace Go.Proofs.YtckojimeglkobaaGreatDoor
open Go.RowKit Go.Sort TermSpec EvalSpec ActSpec NamesSpec ExprSpec TransSpec SynSpec PrintSpec Go.BigFrame
set_option maxRecDepth 100000
end Go.Proofs.YtckojimeglkobaaGreatDoor
namespace Go.Proofs.YtckojimeglkobaaGreatDoor
open Go.RowKit Go.Sort TermSpec EvalSpec ActSpec NamesSpec ExprSpec TransSpec SynSpec CurSpec ShapeSpec GroupSpec PrintSpec ConfSpec
set_option maxRecDepth 100000
section
variable (x:Cx) (eA:Option Addr) (en ec:Nat) (vA:Option Addr) (vn vc:Nat) (sA:Option Addr) (sn sc:Nat) (w:World) (h:ChIn w (.slice eA en ec) (.slice vA vn vc) (.slice sA sn sc) x) (hm:sn ≤ 1000000)
include h hm
end
def ValRel (W:World) (vs:List Vr) (y:V4) (v:Value) (wr:World):Prop:=∃ k:Nat,k ≤ 4 ∧ v = .int .i64 k ∧ (∀ j,j < k → valB vs j (y.get j) = true) ∧ Hid (Below W.heap.size W wr)
theorem all_to {n:Nat} {p:Nat → Bool} (h:∀ j,j < n → p j = true):(List.range n).all p = true:=by
 rw [List.all_eq_true]
 exact fun j hj => h j (List.mem_range.1 hj)
theorem all_not {n k:Nat} {p:Nat → Bool} (hk:k < n) (h:p k = false):(List.range n).all p = false:=by
 cases ha:(List.range n).all p with
 | false => rfl
 | true =>
   rw [List.all_eq_true] at ha
   rw [ha k (List.mem_range.2 hk)] at h
   cases h
theorem rel_next {p:Nat → Bool} {k:Nat} (h:∀ j,j < k → p j = true) (hk:p k = true):∀ j,j < k + 1 → p j = true:=fun j hj => by
 by_cases e:j = k
 ·rw [e]; exact hk
 ·exact h j (by omega)
end Go.Proofs.YtckojimeglkobaaGreatDoor
namespace Go.Proofs.YtckojimeglkobaaGreatDoor
open Go.RowKit Go.Sort TermSpec EvalSpec ActSpec NamesSpec ExprSpec TransSpec SynSpec CurSpec ShapeSpec GroupSpec PrintSpec ConfSpec
set_option maxRecDepth 100000
abbrev chO18 (s:ByteArray) (eA:Option Addr) (en ec:Nat) (vA:Option Addr) (vn vc:Nat) (sA:Option Addr) (sn sc:Nat):Obj:=.cells #[.string s,.slice eA en ec,.slice vA vn vc,.slice sA sn sc] 26
section
variable (x:Cx) (eA:Option Addr) (en ec:Nat) (vA:Option Addr) (vn vc:Nat) (sA:Option Addr) (sn sc:Nat) (y:Cf) (w:World) (h:ChIn w (.slice eA en ec) (.slice vA vn vc) (.slice sA sn sc) x) (hm:sn ≤ 1000000) (h64:y.m < 18446744073709551616)
include h hm h64
end
end Go.Proofs.YtckojimeglkobaaGreatDoor
namespace Go.Proofs.YtckojimeglkobaaGreatDoor
open Go.RowKit
theorem keep_but {x y:World} {E b:Nat} {o:Obj} (h:x.heap[b]? = some o) (hg:x.grownBy y (some E)) (hne:b ≠ E):y.heap[b]? = some o:=(hg.block b (Array.getElem?_eq_some_iff.1 h).1 (by simpa using hne)).trans h
theorem gr_any {w x y:World} {ob ob':Option Nat} (h:w.grownBy x ob) (g:x.grownBy y ob') (hk:∀ j,ob' = some j → ob = some j ∨ w.heap.size ≤ j):w.grownBy y ob :=
 ⟨g.os.trans h.os,g.tape.trans h.tape,g.output.trans h.output,Nat.le_trans h.size g.size,fun i hi hn => (g.block i (Nat.lt_of_lt_of_le hi h.size) fun e => by
  rcases hk i e.symm with h' | h'
  ·exact hn h'.symm
  ·omega).trans (h.block i hi hn)⟩
theorem gr_none {w x:World} (h:Below w.heap.size w x) (ob:Option Nat):w.grownBy x ob:=⟨h.os,h.tape,h.output,h.size,fun i hi _ => h.block i hi⟩
structure RowK {α:Type} (T:TypeId) (k:Nat) (cv:α → List Value) (nest:α → World → Prop) (N:Nat) (K:Nat → Prop) (wr:World) (pv:Value) (ps:List α):Prop where
 own:wr.ownsRow N T k pv ps.length (ps.flatMap cv)
 dep:∀ p ∈ ps,Dep wr (fun b => K b ∧ pv.ownBlock ≠ some b) (nest p)
abbrev RowC {α:Type} (T:TypeId) (k:Nat) (cv:α → List Value) (nest:α → World → Prop) (N:Nat) (wr:World) (pv:Value) (ps:List α):Prop:=RowK T k cv nest N (fun b => N ≤ b) wr pv ps
section
variable {α:Type} {T:TypeId} {k:Nat} {cv:α → List Value} {nest:α → World → Prop} {N:Nat} {K K':Nat → Prop} {wr w':World} {pv:Value} {ps:List α}
theorem RowK.nil:RowK T k cv nest N K wr (.slice none 0 0) []:=⟨World.ownsRow_nil _ _ _ _,fun _ h => by simp at h⟩
theorem own_go (h:wr.ownsRow N T k pv ps.length (ps.flatMap cv)) {oc:Option Nat} (g:wr.grownBy w' oc) (hk:∀ j,oc = some j → pv.ownBlock ≠ some j):w'.ownsRow N T k pv ps.length (ps.flatMap cv):=by
 refine ⟨h.1,?_⟩
 rcases h.2 with h1 | ⟨g0,cap,cur,h1,h2,h3,h4⟩
 ·exact .inl h1
 ·exact .inr ⟨g0,cap,cur,h1,h2,(g.block g0 (Array.getElem?_eq_some_iff.1 h3).1 fun e => hk g0 e.symm (by rw [h1]; rfl)).trans h3,h4⟩
theorem RowK.go (h:RowK T k cv nest N K wr pv ps) {oc:Option Nat} (g:wr.grownBy w' oc) (hk:∀ j,oc = some j → ¬ K j ∧ pv.ownBlock ≠ some j):RowK T k cv nest N K w' pv ps :=
 ⟨own_go h.own g fun j e => (hk j e).2,fun p hp => (h.dep p hp).go g fun b hS e => (hk b e).1 hS.1⟩
theorem RowK.keep (h:RowK T k cv nest N K wr pv ps) (hb:Below wr.heap.size wr w'):RowK T k cv nest N K w' pv ps:=h.go (gr_none hb none) (by simp)
theorem RowK.mono (h:RowK T k cv nest N K wr pv ps) (hk:∀ b,b < wr.heap.size → K b → K' b):RowK T k cv nest N K' wr pv ps:=⟨h.own,fun p hp => (h.dep p hp).mono fun b hb hS => ⟨hk b hb hS.1,hS.2⟩⟩
theorem RowK.shape (h:RowK T k cv nest N K wr pv ps):∃ A c,pv = .slice A ps.length c:=own_shape h.own
theorem RowK.bd (h:RowK T k cv nest N K wr pv ps):∀ j,pv.ownBlock = some j → N ≤ j ∧ j < wr.heap.size:=own_block_bd h.own
theorem RowK.low (h:RowC T k cv nest N wr pv ps) {oc:Option Nat} (g:wr.grownBy w' oc) (hk:∀ j,oc = some j → j < N):RowC T k cv nest N w' pv ps :=
 RowK.go h g fun j e => ⟨by have:=hk j e; omega,fun e' => by have:=(h.bd j e').1; have:=hk j e; omega⟩
theorem RowK.put (h:RowC T k cv nest N wr pv ps) {j:Nat} (g:wr.grownBy w' (some j)) (hne:pv.ownBlock ≠ some j) (ht:∀ p x,nest p x):RowC T k cv nest N w' pv ps :=
 ⟨own_go h.own g fun i e => by cases e; exact hne,fun p _ => Dep.triv (ht p)⟩
theorem RowK.far (h:RowC T k cv nest N wr pv ps):Dep wr (fun b => N ≤ b) (fun x => Rdk k x pv ps.length (ps.flatMap cv) ∧ ∀ p ∈ ps,nest p x) :=
 (rdk_dep (Rdk.own h.own) fun _ b e => (h.bd b e).1).and fun w2 hz hx p hp => (h.dep p hp) w2 hz fun b hlt hS => hx b hlt hS.1
theorem RowK.add {p:α} {pv':Value} {o:Obj} (h:RowK T k cv nest N K wr pv ps) (hn:Dep wr (fun b => K b ∧ pv.ownBlock ≠ some b) (nest p))
 (hrow:w'.ownsRow N T k pv' (ps.length + 1) (ps.flatMap cv ++ cv p)) (hg:(wr.alloc o).grownBy w' pv.ownBlock) (hob:pv'.ownBlock = pv.ownBlock ∨ pv'.ownBlock = some (wr.alloc o).heap.size):RowK T k cv nest N K w' pv' (ps ++ [p]):=by
 have ha:Below wr.heap.size wr (wr.alloc o):=KitC.below_one wr o
 refine ⟨by simpa [List.length_append] using hrow,fun q hq => ?_⟩
 have hall:Dep wr (fun b => K b ∧ pv.ownBlock ≠ some b) (nest q):=by
  rcases List.mem_append.1 hq with hq | hq
  ·exact h.dep q hq
  ·rw [List.mem_singleton] at hq
   subst hq
   exact hn
 intro w2 hz hx
 refine hall w2 (Nat.le_trans ha.size (Nat.le_trans hg.size hz)) fun b hlt hS => ?_
 have hlt2:b < (wr.alloc o).heap.size:=Nat.lt_of_lt_of_le hlt ha.size
 refine (hx b (Nat.lt_of_lt_of_le hlt2 hg.size) ⟨hS.1,fun e => ?_⟩).trans ((hg.block b hlt2 fun e => hS.2 e.symm).trans (ha.block b hlt))
 rcases hob with e' | e'
 ·exact hS.2 (e'.symm.trans e)
 ·rw [e'] at e; injection e with e; omega
theorem RowK.set {i j g cap:Nat} {p p':α} {u:Value} (h:RowK T k cv nest N K wr (.slice (some ⟨g,0,none⟩) ps.length cap) ps) (hlen:∀ a,(cv a).length = k) (hp:ps[i]? = some p) (hj:j < k) (hu:cv p' = (cv p).set j u)
 (hn:Dep wr (fun b => K b ∧ (Value.slice (some ⟨g,0,none⟩) ps.length cap).ownBlock ≠ some b) (nest p')) :
 RowK T k cv nest N K (wr.setCell ⟨g,i * k + j,none⟩ u) (.slice (some ⟨g,0,none⟩) ps.length cap) (ps.set i p'):=by
 have hs:wr.grownBy (wr.setCell ⟨g,i * k + j,none⟩ u) (some g):=but_set (but_refl wr _) _ _
 have hi:=(List.getElem?_eq_some_iff.1 hp).1
 have hlt:i * k + j < (ps.flatMap cv).length:=by
  rw [flat_length hlen]
  have:(i + 1) * k ≤ ps.length * k:=Nat.mul_le_mul_right k hi
  rw [Nat.add_mul] at this
  omega
 refine ⟨?_,fun q hq => ?_⟩
 ·rw [List.length_set,flat_set hlen hp hj hu]
  exact own_set h.own hlt u
 ·have hall:Dep wr (fun b => K b ∧ (Value.slice (some ⟨g,0,none⟩) ps.length cap).ownBlock ≠ some b) (nest q):=by
   rcases List.mem_or_eq_of_mem_set hq with hq | rfl
   ·exact h.dep q hq
   ·exact hn
  exact hall.go hs fun b hS e => hS.2 e
def Added (T:TypeId) (k:Nat) (cv:α → List Value) (nest:α → World → Prop) (N:Nat) (K:Nat → Prop) (wr:World) (pv:Value) (ps:List α) (v':Value) (w':World):Prop :=
 RowK T k cv nest N K w' v' ps ∧ wr.grownBy w' pv.ownBlock ∧ ∀ j,v'.ownBlock = some j → pv.ownBlock = some j ∨ wr.heap.size < j
theorem RowK.added {p:α} {pv':Value} {o:Obj} (h:RowK T k cv nest N K wr pv ps) (hn:Dep wr (fun b => K b ∧ pv.ownBlock ≠ some b) (nest p))
 (hrow:w'.ownsRow N T k pv' (ps.length + 1) (ps.flatMap cv ++ cv p)) (hg:(wr.alloc o).grownBy w' pv.ownBlock) (hob:pv'.ownBlock = pv.ownBlock ∨ pv'.ownBlock = some (wr.alloc o).heap.size):Added T k cv nest N K wr pv (ps ++ [p]) pv' w':=by
 have ha:Below wr.heap.size wr (wr.alloc o):=KitC.below_one _ _
 refine ⟨h.add hn hrow hg hob,⟨hg.os.trans ha.os,hg.tape.trans ha.tape,hg.output.trans ha.output,Nat.le_trans ha.size hg.size,fun i hi hn => (hg.block i (Nat.lt_of_lt_of_le hi ha.size) hn).trans (ha.block i hi)⟩,fun j hj => ?_⟩
 rcases hob with e' | e'
 ·exact .inl (e'.symm.trans hj)
 ·rw [e'] at hj
  injection hj with hj
  simp at hj
  exact .inr (by omega)
end
section
variable {P:Program}
theorem step_append_rowK {ops:Array Oper} {o:Oper} {a:Act} {J:Act → World → Prop} {Q:Exit → Act → World → Prop} {E:Prop} (hgd:o.guard = none) (s x:Operand) (t:TypeId)
 (ho:o.op = .call { callee:=.builtin .append,args:=#[s,x],argTypes:=#[t,t] })
 {α:Type} {e:TypeId} {k:Nat} {cv:α → List Value} {nest:α → World → Prop} {N:Nat} {K:Nat → Prop} {wr:World} {pv:Value} {ps:List α}
 (i:TypeInfo) (z:Value) (bytes:Nat) (ht:P.underlying t = some (.slice e)) (hi:P.info? e = some i) (hz:i.zero = some z)
 (hsize:i.size = k) (hby:i.bytes = bytes) (hzs:z.cells.size = k) (hk:0 < k)
 (h:RowK e k cv nest N K wr pv ps) (hN:N ≤ wr.heap.size) (p:α) (hn:Dep wr (fun b => K b ∧ pv.ownBlock ≠ some b) (nest p)) (hs:a.eval s = pv) (hx:a.eval x = .slice (some ⟨wr.heap.size,0,none⟩) 1 1)
 (hlen:(cv p).length = k) (h1:∀ u ∈ cv p,u.oneCell' = true) (h63:ps.length + 1 ≤ maxLen) (hbytes:(ps.length + 1) * bytes ≤ 140737488355328)
 (hK:∀ v' w',Added e k cv nest N K wr pv (ps ++ [p]) v' w' → J (a.put o.dst v') w'):if Region.wanted o (yielded ops a.tmps) = true then Oper.wp P o a (wr.alloc (.cells (cv p).toArray e)).drew J Q else E:=by
 have hrow:=own_keep h.own ((KitC.below_one wr (.cells (cv p).toArray e)).drew)
 refine step_append_lies _ hgd s x t ho N e i z k bytes ht hi hz hsize hby hzs hk pv ps.length (ps.flatMap cv) hs hrow ⟨wr.heap.size,0,none⟩ 1 1 (cv p) hx (by simp [hlen]) (World.news_of_block (cs:=(cv p).toArray) (t:=e) (fr:=(0,0)) (heap_alloc_new wr _)) h1 (by decide) h63 hbytes (by show N ≤ (wr.alloc (.cells (cv p).toArray e)).heap.size; rw [World.size_alloc]; omega) (wr.heap.size + 1) (by show (wr.alloc (.cells (cv p).toArray e)).heap.size = _; rw [World.size_alloc]) ?_
 intro g cap w' hr hg hob _
 refine hK _ w' (h.added (o:=.cells (cv p).toArray e) hn hr ⟨hg.os,hg.tape,hg.output,hg.size,hg.block⟩ ?_)
 rcases hob with e' | e'
 ·exact .inl (by rw [e']; rfl)
 ·exact .inr (by rw [e',World.size_alloc]; rfl)
end
end Go.Proofs.YtckojimeglkobaaGreatDoor