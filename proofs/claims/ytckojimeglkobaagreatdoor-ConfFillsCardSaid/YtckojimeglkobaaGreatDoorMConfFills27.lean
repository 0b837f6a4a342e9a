/- PrintMay, ActCheck, joined. -/
import Derived.Test.YtckojimeglkobaaGreatDoorMConfFills24
import Derived.Test.YtckojimeglkobaaGreatDoorMConfFills25
import Derived.Test.YtckojimeglkobaaGreatDoorMConfFills26
import Derived.Test.YtckojimeglkobaaGreatDoorMConfFills10
import Derived.Test.YtckojimeglkobaaGreatDoorMConfFills06
namespace Go.Proofs.YtckojimeglkobaaGreatDoor
open Go.RowKit Go.Sort CurSpec TermSpec EvalSpec ActSpec NamesSpec ExprSpec TransSpec SynSpec PrintSpec
set_option maxRecDepth 100000
structure FitM (x:Cx):Prop where
 s:x.s.size ≤ 9223372036854775807
 evs:∀ e ∈ x.evs,e.size ≤ 9223372036854775807
 vars:∀ v ∈ x.vars,v.s.size ≤ 9223372036854775807
 stl:x.sts.length ≤ 100000
 sts:∀ s ∈ x.sts,s.s.size ≤ 9223372036854775807 ∧ (∀ a ∈ s.en,SmallA a) ∧ s.en.length ≤ 100000 ∧ (∀ a ∈ s.ex,SmallA a) ∧ s.ex.length ≤ 100000 ∧ s.tr.length ≤ 100000 ∧ ∀ t ∈ s.tr,SmallT t
def MEvRel (W:World) (l:List ByteArray) (n:Nat) (i:Value) (wr:World):Prop:=∃ k:Nat,k ≤ n ∧ i = .int .i64 k ∧ (l.take k).all (fun e => isName e.data.toList) = true ∧ Below W.heap.size W wr
def MVarRel (W:World) (l:List Vr) (n:Nat) (i:Value) (wr:World):Prop:=∃ k:Nat,k ≤ n ∧ i = .int .i64 k ∧ (l.take k).all okV = true ∧ Below W.heap.size W wr
def MStRel (W:World) (l:List Sx) (n:Nat) (i:Value) (wr:World):Prop:=∃ k:Nat,k ≤ n ∧ i = .int .i64 k ∧ (l.take k).all okS = true ∧ Below W.heap.size W wr
def MTrRel (W:World) (l:List Tr) (n:Nat) (i:Value) (wr:World):Prop:=∃ k:Nat,k ≤ n ∧ i = .int .i64 k ∧ (l.take k).all (fun t => decide (chkT t = 0)) = true ∧ Below W.heap.size W wr
theorem nm_say {s:ByteArray} (hs:s.size ≤ 9223372036854775807) {b:Bool} (hb:isName s.data.toList = b) (W:World):Calls Tryz.prog 51 #[.string s] W (RetB W b):=by
 subst hb
 exact ris_any s W hs
theorem small_say {n:Int} {b:Bool} (hb:smallV n = b) (W:World):Calls Tryz.prog 53 #[.int .i64 n] W (SameB W b):=by
 subst hb
 exact small_any n W
set_option maxRecDepth 100000 in
set_option maxHeartbeats 16000000 in
theorem mayC_any (x:Cx) (eA:Option Addr) (en ec:Nat) (vA:Option Addr) (vn vc:Nat) (sA:Option Addr) (sn sc:Nat) (w:World) (h:ChIn w (.slice eA en ec) (.slice vA vn vc) (.slice sA sn sc) x) (hf:FitM x) :
 Calls Tryz.prog 27 #[.agg #[.string x.s,.slice eA en ec,.slice vA vn vc,.slice sA sn sc]] w (RetB w (mayC x)):=by
 obtain ⟨hvn,hvc⟩:=RdV.len h.vars
 obtain ⟨hsn,hsc⟩:=h.sts.len
 obtain ⟨W1,hW1⟩:∃ W1,w.alloc (.cells #[.string x.s,.slice eA en ec,.slice vA vn vc,.slice sA sn sc] 26) = W1:=⟨_,rfl⟩
 have hb1:Below w.heap.size w W1:=by rw [← hW1]; exact KitC.below_one _ _
 have hk1:W1.heap[w.heap.size]? = some (.cells #[.string x.s,.slice eA en ec,.slice vA vn vc,.slice sA sn sc] 26):=by rw [← hW1]; exact heap_alloc_new _ _
 have HK:=Lib.hid (fun W (hW:Below W1.heap.size W1 W) => cells_4 (KitC.block_on hk1 hW))
 have HED:=Lib.hid (fun W (hW:Below W1.heap.size W1 W) => Rd.strs ((h.keep (below_two' hb1 hW)).evs))
 have HVI:=Lib.hid (fun W (hW:Below W1.heap.size W1 W) => ((RdV.vars h.vars).keep hb1).keep hW)
 have HSI:=Lib.hid (fun W (hW:Below W1.heap.size W1 W) => h.sts.keep (below_two' hb1 hW))
 have hen:en = x.evs.length:=by obtain ⟨_,_,_,heq,hn,_⟩:=Rd.strs h.evs; cases heq; exact hn.symm
 have HNM:=Lib.hid (fun b W (hb:isName x.s.data.toList = b) => nm_say hf.s hb W)
 have HCK:=Lib.hid (fun W (hW:Below W1.heap.size W1 W) => rshcheck_any sA sn sc _ W (h.sts.keep (below_two' hb1 hW)).sts (by have:=hf.stl; omega))
 have HEF:=Lib.hid hf.evs
 have HVF:=Lib.hid hf.vars
 have HSF:=Lib.hid hf.sts
 have hsn5:sn ≤ 100000:=by have:=hf.stl; omega
 have HW1:=Lib.hid hW1
 have HB1:=Lib.hid hb1
 obtain ⟨r,hr⟩:∃ r,r = mayC x:=⟨_,rfl⟩
 rw [← hr]
 have hP:∀ (_:isName x.s.data.toList = true) (_:en ≤ 8) (_:vn ≤ 4) (_:ShapeSpec.chk (x.sts.map shOf) = 0),r = ((x.evs.all fun e => isName e.data.toList) && (x.vars.all okV && x.sts.all okS)):=fun a b c d => by
  rw [hr]; unfold mayC; rw [a,d]; simp [← hen,← hvn,b,c]
 have hB:(isName x.s.data.toList = false ∨ 8 < en ∨ 4 < vn ∨ ShapeSpec.chk (x.sts.map shOf) ≠ 0) → r = false:=fun h => by
  rw [hr]
  unfold mayC
  rcases h with h | h | h | h
  ·simp [h]
  ·simp [← hen]; omega
  ·simp [← hvn]; omega
  ·simp [h]
 have HP:=Lib.hid hP
 have HBD:=Lib.hid hB
 obtain ⟨ck,hck⟩:∃ ck,ck = ShapeSpec.chk (x.sts.map shOf):=⟨_,rfl⟩
 rw [← hck] at HP HBD HCK
 obtain ⟨c0,c1,c2,c3⟩:=cells_4 hk1
 have HVN:=Lib.hid hvn
 have HSN:=Lib.hid hsn
 have HEN:=Lib.hid hen
 obtain ⟨s,evs,vars,sts⟩:=x
 simp only at HK c0 c1 c2 c3 HNM HP HBD HVN HSN HEN HW1 HED HVI HSI HEF HVF HSF ⊢
 clear hr hW1 hb1 hk1 h hf hvn hsn hen hP hB hck
 rcases hnm:isName s.data.toList with _ | _
 ·have HE:=Lib.hid (HBD.out (.inl hnm))
  have HN:=Lib.hid (fun W => HNM.out false W hnm)
  clear hnm
  go_enter Tryz.func27,Tryz.ntmps27
  go_wp2_with (rw [HW1.out]; go_at_call 51; (with_reducible refine (HN.out _).mono ?_))
  rintro e w2 ⟨rfl,hb2⟩
  have HB2:=Lib.hid hb2
  clear hb2
  go_wp2_with fail
  go_ret
  exact ⟨ret_bool HE.out.symm,below_two' HB1.out HB2.out⟩
 have HN:=Lib.hid (fun W => HNM.out true W hnm)
 by_cases h8:8 < en
 ·have HE:=Lib.hid (HBD.out (.inr (.inl h8)))
  have g1:decide (8 < (en:Int)) = true:=by simp; omega
  clear hnm
  go_enter Tryz.func27,Tryz.ntmps27
  go_wp2_with (rw [HW1.out]; go_at_call 51; (with_reducible refine (HN.out _).mono ?_))
  rintro e w2 ⟨rfl,hb2⟩
  have HB2:=Lib.hid hb2
  clear c0 c1 c2 c3
  obtain ⟨c0,c1,c2,c3⟩:=HK.out _ hb2
  clear hb2
  go_wp2_with fail
  go_ret
  exact ⟨ret_bool HE.out.symm,below_two' HB1.out HB2.out⟩
 have g1:decide (8 < (en:Int)) = false:=by simp; omega
 by_cases h4:4 < vn
 ·have HE:=Lib.hid (HBD.out (.inr (.inr (.inl h4))))
  have g2:decide (4 < (vn:Int)) = true:=by simp; omega
  clear hnm
  go_enter Tryz.func27,Tryz.ntmps27
  go_wp2_with (rw [HW1.out]; go_at_call 51; (with_reducible refine (HN.out _).mono ?_))
  rintro e w2 ⟨rfl,hb2⟩
  have HB2:=Lib.hid hb2
  clear c0 c1 c2 c3
  obtain ⟨c0,c1,c2,c3⟩:=HK.out _ hb2
  clear hb2
  go_wp2_with fail
  go_ret
  exact ⟨ret_bool HE.out.symm,below_two' HB1.out HB2.out⟩
 have g2:decide (4 < (vn:Int)) = false:=by simp; omega
 by_cases hck:ck = 0
 case neg =>
  have HE:=Lib.hid (HBD.out (.inr (.inr (.inr hck))))
  have g3:(ck != 0) = true:=by simpa using hck
  clear hnm hck
  go_enter Tryz.func27,Tryz.ntmps27
  go_wp2_with (rw [HW1.out]; go_at_call 51; (with_reducible refine (HN.out _).mono ?_))
  rintro e w2 ⟨rfl,hb2⟩
  have HB2:=Lib.hid hb2
  have HC:=Lib.hid (HCK.out _ hb2)
  clear c0 c1 c2 c3
  obtain ⟨c0,c1,c2,c3⟩:=HK.out _ hb2
  clear hb2
  go_wp2_with (go_at_call 52; (with_reducible refine HC.out.mono ?_))
  rintro e w3 ⟨rfl,hb3⟩
  have HB3:=Lib.hid (below_two' HB2.out hb3)
  clear hb3
  go_wp2_with fail
  go_ret
  exact ⟨ret_bool HE.out.symm,below_two' HB1.out HB3.out⟩
 have HQ:=Lib.hid (HP.out hnm (by omega) (by omega) hck)
 have g3:(ck != 0) = false:=by simpa using hck
 clear hnm hck HP HBD HNM
 go_enter Tryz.func27,Tryz.ntmps27
 go_wp2_with (rw [HW1.out]; go_at_call 51; (with_reducible refine (HN.out _).mono ?_))
 rintro e w2 ⟨rfl,hb2⟩
 have HB2:=Lib.hid hb2
 have HC:=Lib.hid (HCK.out _ hb2)
 clear c0 c1 c2 c3
 obtain ⟨c0,c1,c2,c3⟩:=HK.out _ hb2
 clear hb2
 go_wp2_with (go_at_call 52; (with_reducible refine HC.out.mono ?_))
 rintro e w3 ⟨rfl,hb3⟩
 have HB3:=Lib.hid (below_two' HB2.out hb3)
 clear hb3 c0 c1 c2 c3 HC HCK HN
 go_wp2_with fail
 clear g3
 go_loopw [3] (fun i wr => MEvRel W1 evs en i wr) (fun i _ => en - (intOf i).toNat)
 case atStart => exact ⟨0,Nat.zero_le _,rfl,rfl,HB3.out⟩
 case round =>
  obtain ⟨k,hk,rfl,hall,hbw⟩:=hrel
  have HA:=Lib.hid hall
  have HBW:=Lib.hid hbw
  obtain ⟨c0,c1,c2,c3⟩:=HK.out _ hbw
  have HE2:=Lib.hid (HED.out _ hbw)
  clear hall hbw
  by_cases hlt:k < en
  ·obtain ⟨x,hx⟩:∃ x,evs[k]? = some x:=get_some (by rw [← HEN.out]; exact hlt)
   obtain ⟨A',n',c',heq,-,-,hcl⟩:=HE2.out
   cases heq
   obtain ⟨b,off,rfl,hb,hcell⟩:=hcl (by omega)
   have hck:=hcell k x hx
   have HXS:=Lib.hid (HEF.out x (List.mem_of_getElem? hx))
   rcases hnm:isName x.data.toList with _ | _
   ·have HE:Hid (r = false):=Lib.hid (by rw [HQ.out,all_bad (f:=fun e => isName e.data.toList) hx hnm]; rfl)
    have HN:=Lib.hid (fun W => nm_say HXS.out hnm W)
    clear hx hcell hcl hnm
    go_wp2_with (go_at_call 51; (with_reducible refine (HN.out _).mono ?_))
    rintro e w4 ⟨rfl,hb4⟩
    have HB4:=Lib.hid (below_two' HBW.out hb4)
    clear hb4
    go_wp2_with fail
    go_ret
    exact ⟨ret_bool HE.out.symm,below_two' HB1.out HB4.out⟩
   ·have HX:=Lib.hid (all_take hx HA.out hnm)
    have HN:=Lib.hid (fun W => nm_say HXS.out hnm W)
    clear hx hcell hcl hnm
    go_wp2_with (go_at_call 51; (with_reducible refine (HN.out _).mono ?_))
    rintro e w4 ⟨rfl,hb4⟩
    have HB4:=Lib.hid (below_two' HBW.out hb4)
    clear hb4
    go_wp2_with fail
    go_roundw
    case rel => exact ⟨k + 1,by omega,by go_num,HX.out,HB4.out⟩
    case measure => simp [intOf]; omega
  ·have HQ2:Hid (r = (vars.all okV && sts.all okS)):=Lib.hid (by
    have:=HA.out
    rw [List.take_of_length_le (by rw [← HEN.out]; omega)] at this
    rw [HQ.out,this,Bool.true_and])
   clear HA HQ HE2
   go_wp2_with fail
   go_loopw [4] (fun i wr => MVarRel W1 vars vn i wr) (fun i _ => vn - (intOf i).toNat)
   case atStart => exact ⟨0,Nat.zero_le _,rfl,rfl,HBW.out⟩
   case round =>
    obtain ⟨k,hk,rfl,hall,hbw⟩:=hrel
    have HA:=Lib.hid hall
    have HBV:=Lib.hid hbw
    clear c0 c1 c2 c3
    obtain ⟨c0,c1,c2,c3⟩:=HK.out _ hbw
    have HV2:=Lib.hid (HVI.out _ hbw)
    clear hall hbw
    by_cases hlt:k < vn
    ·obtain ⟨v,hv⟩:∃ v,vars[k]? = some v:=get_some (by rw [← HVN.out]; exact hlt)
     obtain ⟨b,off,rfl,hb,d0,d1,d2,d3⟩:=HV2.out.at_ hv
     have HXS:=Lib.hid (HVF.out v (List.mem_of_getElem? hv))
     have HBAD:=Lib.hid (fun h1 => (show r = false by rw [HQ2.out,all_bad (f:=okV) hv h1]; rfl))
     have HAT:=Lib.hid (fun h1 => all_take (f:=okV) hv HA.out h1)
     have HOV:Hid (okV v = (isName v.s.data.toList && (smallV v.lo && (smallV v.hi && smallV v.ini)))):=Lib.hid rfl
     obtain ⟨OB,hOB⟩:∃ OB:Obj,OB = .cells #[.string v.s,.int .i64 v.lo,.int .i64 v.hi,.int .i64 v.ini] 52:=⟨_,rfl⟩
     have hkb:=heap_alloc_new wr OB
     rw [hOB] at hkb
     have HKV:=Lib.hid (fun W (hW:Below (wr.alloc OB).heap.size (wr.alloc OB) W) => cells_4 (KitC.block_on (by rw [hOB]; exact hkb) hW))
     rw [hOB] at HKV
     obtain ⟨nm,lo,hi,ini⟩:=v
     simp only at d0 d1 d2 d3 HXS HOV HKV
     clear hv hkb hOB OB
     by_cases b0:isName nm.data.toList = true
     case neg =>
      have b0':isName nm.data.toList = false:=by simpa using b0
      have HE:=Lib.hid (HBAD.out (by rw [HOV.out]; simp [b0']))
      have HN0:=Lib.hid (fun W => nm_say HXS.out b0' W)
      clear b0 b0'
      go_wp2_with (go_at_call 51; (with_reducible refine (HN0.out _).mono ?_))
      rintro e w4 ⟨rfl,hb4⟩
      have HB4:=Lib.hid (below_two' (below_two' HBV.out (KitC.below_one _ _)) hb4)
      obtain ⟨p0,p1,p2,p3⟩:=HKV.out _ hb4
      clear hb4
      go_wp2_with fail
      go_ret
      exact ⟨ret_bool HE.out.symm,below_two' HB1.out HB4.out⟩
     by_cases b1:smallV lo = true
     case neg =>
      have b1':smallV lo = false:=by simpa using b1
      have HE:=Lib.hid (HBAD.out (by rw [HOV.out]; simp [b0,b1']))
      have HN0:=Lib.hid (fun W => nm_say HXS.out b0 W)
      have HN1:=Lib.hid (fun W => small_say b1' W)
      clear b0 b1 b1'
      go_wp2_with (go_at_call 51; (with_reducible refine (HN0.out _).mono ?_))
      rintro e w4 ⟨rfl,hb4⟩
      have HB4:=Lib.hid (below_two' (below_two' HBV.out (KitC.below_one _ _)) hb4)
      obtain ⟨p0,p1,p2,p3⟩:=HKV.out _ hb4
      clear hb4
      go_wp2_with (go_at_call 53; (with_reducible refine (HN1.out _).mono ?_))
      rintro e w5 ⟨rfl,rfl⟩
      go_wp2_with fail
      go_ret
      exact ⟨ret_bool HE.out.symm,below_two' HB1.out HB4.out⟩
     by_cases b2:smallV hi = true
     case neg =>
      have b2':smallV hi = false:=by simpa using b2
      have HE:=Lib.hid (HBAD.out (by rw [HOV.out]; simp [b0,b1,b2']))
      have HN0:=Lib.hid (fun W => nm_say HXS.out b0 W)
      have HN1:=Lib.hid (fun W => small_say b1 W)
      have HN2:=Lib.hid (fun W => small_say b2' W)
      clear b0 b1 b2 b2'
      go_wp2_with (go_at_call 51; (with_reducible refine (HN0.out _).mono ?_))
      rintro e w4 ⟨rfl,hb4⟩
      have HB4:=Lib.hid (below_two' (below_two' HBV.out (KitC.below_one _ _)) hb4)
      obtain ⟨p0,p1,p2,p3⟩:=HKV.out _ hb4
      clear hb4
      go_wp2_with (go_at_call 53; (with_reducible refine (HN1.out _).mono ?_))
      rintro e w5 ⟨rfl,rfl⟩
      go_wp2_with (go_at_call 53; (with_reducible refine (HN2.out _).mono ?_))
      rintro e w6 ⟨rfl,rfl⟩
      go_wp2_with fail
      go_ret
      exact ⟨ret_bool HE.out.symm,below_two' HB1.out HB4.out⟩
     by_cases b3:smallV ini = true
     case neg =>
      have b3':smallV ini = false:=by simpa using b3
      have HE:=Lib.hid (HBAD.out (by rw [HOV.out]; simp [b0,b1,b2,b3']))
      have HN0:=Lib.hid (fun W => nm_say HXS.out b0 W)
      have HN1:=Lib.hid (fun W => small_say b1 W)
      have HN2:=Lib.hid (fun W => small_say b2 W)
      have HN3:=Lib.hid (fun W => small_say b3' W)
      clear b0 b1 b2 b3 b3'
      go_wp2_with (go_at_call 51; (with_reducible refine (HN0.out _).mono ?_))
      rintro e w4 ⟨rfl,hb4⟩
      have HB4:=Lib.hid (below_two' (below_two' HBV.out (KitC.below_one _ _)) hb4)
      obtain ⟨p0,p1,p2,p3⟩:=HKV.out _ hb4
      clear hb4
      go_wp2_with (go_at_call 53; (with_reducible refine (HN1.out _).mono ?_))
      rintro e w5 ⟨rfl,rfl⟩
      go_wp2_with (go_at_call 53; (with_reducible refine (HN2.out _).mono ?_))
      rintro e w6 ⟨rfl,rfl⟩
      go_wp2_with (go_at_call 53; (with_reducible refine (HN3.out _).mono ?_))
      rintro e w7 ⟨rfl,rfl⟩
      go_wp2_with fail
      go_ret
      exact ⟨ret_bool HE.out.symm,below_two' HB1.out HB4.out⟩
     have HX:=Lib.hid (HAT.out (by rw [HOV.out]; simp [b0,b1,b2,b3]))
     have HN0:=Lib.hid (fun W => nm_say HXS.out b0 W)
     have HN1:=Lib.hid (fun W => small_say b1 W)
     have HN2:=Lib.hid (fun W => small_say b2 W)
     have HN3:=Lib.hid (fun W => small_say b3 W)
     clear b0 b1 b2 b3
     go_wp2_with (go_at_call 51; (with_reducible refine (HN0.out _).mono ?_))
     rintro e w4 ⟨rfl,hb4⟩
     have HB4:=Lib.hid (below_two' (below_two' HBV.out (KitC.below_one _ _)) hb4)
     obtain ⟨p0,p1,p2,p3⟩:=HKV.out _ hb4
     clear hb4
     go_wp2_with (go_at_call 53; (with_reducible refine (HN1.out _).mono ?_))
     rintro e w5 ⟨rfl,rfl⟩
     go_wp2_with (go_at_call 53; (with_reducible refine (HN2.out _).mono ?_))
     rintro e w6 ⟨rfl,rfl⟩
     go_wp2_with (go_at_call 53; (with_reducible refine (HN3.out _).mono ?_))
     rintro e w7 ⟨rfl,rfl⟩
     go_wp2_with fail
     go_roundw
     case rel => exact ⟨k + 1,by omega,by go_num,HX.out,HB4.out⟩
     case measure => simp [intOf]; omega
    ·have HQ3:Hid (r = sts.all okS):=Lib.hid (by
      have:=HA.out
      rw [List.take_of_length_le (by rw [← HVN.out]; omega)] at this
      rw [HQ2.out,this,Bool.true_and])
     clear HA HQ2 HV2 HBW
     go_wp2_with fail
     go_loopw [6] (fun i wr => MStRel W1 sts sn i wr) (fun i _ => sn - (intOf i).toNat)
     case atStart => exact ⟨0,Nat.zero_le _,rfl,rfl,HBV.out⟩
     case round =>
      obtain ⟨k,hk,rfl,hall,hbw⟩:=hrel
      have HA:=Lib.hid hall
      have HBS:=Lib.hid hbw
      clear c0 c1 c2 c3
      obtain ⟨c0,c1,c2,c3⟩:=HK.out _ hbw
      have HS2:=Lib.hid (HSI.out _ hbw)
      clear hall hbw
      by_cases hlt:k < sn
      case neg =>
       have HE:Hid (r = true):=Lib.hid (by
        have:=HA.out
        rw [List.take_of_length_le (by rw [← HSN.out]; omega)] at this
        rw [HQ3.out,this])
       go_wp2_with fail
       go_ret
       exact ⟨ret_bool HE.out.symm,below_two' HB1.out HBS.out⟩
      obtain ⟨t,ht⟩:∃ t,sts[k]? = some t:=get_some (by rw [← HSN.out]; exact hlt)
      obtain ⟨b,off,a3,n3,m3,a4,n4,m4,a5,n5,m5,rfl,hb,d0,d1,d2,d3,d4,d5,k3,k4,k5⟩:=HS2.out.at_ ht
      have HF:=Lib.hid (HSF.out t (List.mem_of_getElem? ht))
      have HBAD:=Lib.hid (fun h1 => (show r = false by rw [HQ3.out,all_bad (f:=okS) ht h1]))
      have HAT:=Lib.hid (fun h1 => all_take (f:=okS) ht HA.out h1)
      have l5:=k5.len.1
      have hcap3:=k3.len.2
      have hcap4:=k4.len.2
      have hcap5:=k5.len.2
      obtain ⟨OB,hOB⟩:∃ OB:Obj,OB = .cells #[.string t.s,.int .i64 t.kind,.int .i64 t.par,.slice a3 n3 m3,.slice a4 n4 m4,.slice a5 n5 m5] 58:=⟨_,rfl⟩
      have hkb:=heap_alloc_new wr OB
      have hbO:=KitC.below_one wr OB
      have HKV:=Lib.hid (fun W (hW:Below (wr.alloc OB).heap.size (wr.alloc OB) W) => cells_6 (KitC.block_on (by rw [hOB] at hkb ⊢; exact hkb) hW))
      have HC3:=Lib.hid (fun W (hW:Below (wr.alloc OB).heap.size (wr.alloc OB) W) => rcheck_acts a3 n3 m3 t.en HF.out.2.1 (by have:=HF.out.2.2.1; omega) W (k3.keep (below_two' hbO hW)))
      have HC4:=Lib.hid (fun W (hW:Below (wr.alloc OB).heap.size (wr.alloc OB) W) => rcheck_acts a4 n4 m4 t.ex HF.out.2.2.2.1 (by have:=HF.out.2.2.2.2.1; omega) W (k4.keep (below_two' hbO hW)))
      have HT5:=Lib.hid (fun W (hW:Below (wr.alloc OB).heap.size (wr.alloc OB) W) => k5.keep (below_two' hbO hW))
      have HOS:Hid (okS t = (isName t.s.data.toList && (decide (chkA t.en = 0) && (decide (chkA t.ex = 0) && (decide (n5 ≤ 16) && t.tr.all fun t => decide (chkT t = 0)))))):=Lib.hid (by rw [l5]; rfl)
      obtain ⟨q3,hq3⟩:∃ q,q = chkA t.en:=⟨_,rfl⟩
      obtain ⟨q4,hq4⟩:∃ q,q = chkA t.ex:=⟨_,rfl⟩
      rw [← hq3] at HC3 HOS
      rw [← hq4] at HC4 HOS
      rw [hOB] at HKV HC3 HC4 HT5
      have HL5:=Lib.hid l5
      obtain ⟨nm,kind,par,ten,tex,ttr⟩:=t
      simp only at d0 d1 d2 HF HOS HKV HT5 HL5
      clear ht hkb hbO hOB OB k3 k4 k5 l5 hq3 hq4 HS2
      by_cases b0:isName nm.data.toList = true
      case neg =>
       have b0':isName nm.data.toList = false:=by simpa using b0
       have HE:=Lib.hid (HBAD.out (by rw [HOS.out]; simp [b0']))
       have HN0:=Lib.hid (fun W => nm_say HF.out.1 b0' W)
       clear b0 b0'
       go_wp2_with (go_at_call 51; (with_reducible refine (HN0.out _).mono ?_))
       rintro e w4 ⟨rfl,hb4⟩
       have HX4:=Lib.hid hb4
       obtain ⟨p0,p1,p2,p3,p4,p5⟩:=HKV.out _ hb4
       clear hb4
       go_wp2_with fail
       go_ret
       exact ⟨ret_bool HE.out.symm,below_two' HB1.out (below_two' HBS.out (below_two' (KitC.below_one _ _) HX4.out))⟩
      by_cases b1:q3 = 0
      case neg =>
       have HE:=Lib.hid (HBAD.out (by rw [HOS.out]; simp [b0,b1]))
       have HN0:=Lib.hid (fun W => nm_say HF.out.1 b0 W)
       have g4:(q3 != 0) = true:=by simpa using b1
       clear b0 b1
       go_wp2_with (go_at_call 51; (with_reducible refine (HN0.out _).mono ?_))
       rintro e w4 ⟨rfl,hb4⟩
       have HX4:=Lib.hid hb4
       obtain ⟨p0,p1,p2,p3,p4,p5⟩:=HKV.out _ hb4
       clear hb4
       go_wp2_with (go_at_call 54; (with_reducible refine (HC3.out _ HX4.out).mono ?_))
       rintro e w5 ⟨rfl,hb5⟩
       have HX5:=Lib.hid (below_two' HX4.out hb5)
       clear p0 p1 p2 p3 p4 p5 hb5
       obtain ⟨p0,p1,p2,p3,p4,p5⟩:=HKV.out _ HX5.out
       go_wp2_with fail
       go_ret
       exact ⟨ret_bool HE.out.symm,below_two' HB1.out (below_two' HBS.out (below_two' (KitC.below_one _ _) HX5.out))⟩
      by_cases b2:q4 = 0
      case neg =>
       have HE:=Lib.hid (HBAD.out (by rw [HOS.out]; simp [b0,b1,b2]))
       have HN0:=Lib.hid (fun W => nm_say HF.out.1 b0 W)
       have g4:(q3 != 0) = false:=by simpa using b1
       have g5:(q4 != 0) = true:=by simpa using b2
       clear b0 b1 b2
       go_wp2_with (go_at_call 51; (with_reducible refine (HN0.out _).mono ?_))
       rintro e w4 ⟨rfl,hb4⟩
       have HX4:=Lib.hid hb4
       obtain ⟨p0,p1,p2,p3,p4,p5⟩:=HKV.out _ hb4
       clear hb4
       go_wp2_with (go_at_call 54; (with_reducible refine (HC3.out _ HX4.out).mono ?_))
       rintro e w5 ⟨rfl,hb5⟩
       have HX5:=Lib.hid (below_two' HX4.out hb5)
       clear p0 p1 p2 p3 p4 p5 hb5
       obtain ⟨p0,p1,p2,p3,p4,p5⟩:=HKV.out _ HX5.out
       go_wp2_with (go_at_call 54; (with_reducible refine (HC4.out _ HX5.out).mono ?_))
       rintro e w6 ⟨rfl,hb6⟩
       have HX6:=Lib.hid (below_two' HX5.out hb6)
       clear p0 p1 p2 p3 p4 p5 hb6
       obtain ⟨p0,p1,p2,p3,p4,p5⟩:=HKV.out _ HX6.out
       go_wp2_with fail
       go_ret
       exact ⟨ret_bool HE.out.symm,below_two' HB1.out (below_two' HBS.out (below_two' (KitC.below_one _ _) HX6.out))⟩
      by_cases b3:n5 ≤ 16
      case neg =>
       have HE:=Lib.hid (HBAD.out (by rw [HOS.out]; simp [b0,b1,b2,b3]))
       have HN0:=Lib.hid (fun W => nm_say HF.out.1 b0 W)
       have g4:(q3 != 0) = false:=by simpa using b1
       have g5:(q4 != 0) = false:=by simpa using b2
       have b3':16 < n5:=by omega
       have g6:decide (16 < (n5:Int)) = true:=by simp; omega
       clear b0 b1 b2 b3
       go_wp2_with (go_at_call 51; (with_reducible refine (HN0.out _).mono ?_))
       rintro e w4 ⟨rfl,hb4⟩
       have HX4:=Lib.hid hb4
       obtain ⟨p0,p1,p2,p3,p4,p5⟩:=HKV.out _ hb4
       clear hb4
       go_wp2_with (go_at_call 54; (with_reducible refine (HC3.out _ HX4.out).mono ?_))
       rintro e w5 ⟨rfl,hb5⟩
       have HX5:=Lib.hid (below_two' HX4.out hb5)
       clear p0 p1 p2 p3 p4 p5 hb5
       obtain ⟨p0,p1,p2,p3,p4,p5⟩:=HKV.out _ HX5.out
       go_wp2_with (go_at_call 54; (with_reducible refine (HC4.out _ HX5.out).mono ?_))
       rintro e w6 ⟨rfl,hb6⟩
       have HX6:=Lib.hid (below_two' HX5.out hb6)
       clear p0 p1 p2 p3 p4 p5 hb6
       obtain ⟨p0,p1,p2,p3,p4,p5⟩:=HKV.out _ HX6.out
       go_wp2_with fail
       go_ret
       exact ⟨ret_bool HE.out.symm,below_two' HB1.out (below_two' HBS.out (below_two' (KitC.below_one _ _) HX6.out))⟩
      have HOS2:Hid (okS ⟨nm,kind,par,ten,tex,ttr⟩ = ttr.all fun t => decide (chkT t = 0)):=Lib.hid (by rw [HOS.out]; simp [b0,b1,b2,b3])
      have HN0:=Lib.hid (fun W => nm_say HF.out.1 b0 W)
      have g4:(q3 != 0) = false:=by simpa using b1
      have g5:(q4 != 0) = false:=by simpa using b2
      have g6:decide (16 < (n5:Int)) = false:=by simp; omega
      clear b0 b1 b2
      go_wp2_with (go_at_call 51; (with_reducible refine (HN0.out _).mono ?_))
      rintro e w4 ⟨rfl,hb4⟩
      have HX4:=Lib.hid hb4
      obtain ⟨p0,p1,p2,p3,p4,p5⟩:=HKV.out _ hb4
      clear hb4
      go_wp2_with (go_at_call 54; (with_reducible refine (HC3.out _ HX4.out).mono ?_))
      rintro e w5 ⟨rfl,hb5⟩
      have HX5:=Lib.hid (below_two' HX4.out hb5)
      clear p0 p1 p2 p3 p4 p5 hb5
      obtain ⟨p0,p1,p2,p3,p4,p5⟩:=HKV.out _ HX5.out
      go_wp2_with (go_at_call 54; (with_reducible refine (HC4.out _ HX5.out).mono ?_))
      rintro e w6 ⟨rfl,hb6⟩
      have HX6:=Lib.hid (below_two' HX5.out hb6)
      clear p0 p1 p2 p3 p4 p5 hb6
      obtain ⟨p0,p1,p2,p3,p4,p5⟩:=HKV.out _ HX6.out
      have HBX:=Lib.hid (below_two' HBS.out (below_two' (KitC.below_one _ _) HX6.out))
      clear HC3 HC4 HX4 HX5 HN0 HOS
      go_wp2_with fail
      clear g4 g5 g6 p0 p1 p2 p3 p4 p5
      go_loopw [8] (fun i wr => MTrRel w6 ttr n5 i wr) (fun i _ => n5 - (intOf i).toNat)
      case atStart => exact ⟨0,Nat.zero_le _,rfl,rfl,Below.refl _ _⟩
      case round =>
       obtain ⟨j,hj,rfl,hall,hbj⟩:=hrel
       have HAJ:=Lib.hid hall
       have HBJ:=Lib.hid hbj
       have HBJ2:=Lib.hid (below_two' HX6.out hbj)
       obtain ⟨p0,p1,p2,p3,p4,p5⟩:=HKV.out _ HBJ2.out
       clear hall hbj
       by_cases hjl:j < n5
       case neg =>
        have HX:Hid ((sts.take (k + 1)).all okS = true):=Lib.hid (HAT.out (by
         have:=HAJ.out
         rw [List.take_of_length_le (by rw [← HL5.out]; omega)] at this
         rw [HOS2.out,this]))
        go_wp2_with fail
        go_roundw
        case rel => exact ⟨k + 1,by omega,by go_num,HX.out,below_two' HBX.out HBJ.out⟩
        case measure => simp [intOf]; omega
       obtain ⟨t,ht⟩:∃ t,ttr[j]? = some t:=get_some (by rw [← HL5.out]; exact hjl)
       obtain ⟨bt,ot,gA,gn,gc,aA,an,ac,rfl,hbt,e0,e1,e2,e3,htr⟩:=(HT5.out _ HBJ2.out).at_ ht
       have HC:=Lib.hid (trcheck_any t gA gn gc aA an ac wr (HF.out.2.2.2.2.2.2 t (List.mem_of_getElem? ht)) htr)
       have HBADJ:=Lib.hid (fun h1 => HBAD.out (by rw [HOS2.out]; exact all_bad (f:=fun t => decide (chkT t = 0)) ht h1))
       have HATJ:=Lib.hid (fun h1 => all_take (f:=fun t => decide (chkT t = 0)) ht HAJ.out h1)
       obtain ⟨q,hq⟩:∃ q,q = chkT t:=⟨_,rfl⟩
       rw [← hq] at HC HBADJ HATJ
       obtain ⟨ev,g,acts,tg⟩:=t
       simp only at e0 e3
       clear ht htr hq
       by_cases hq0:q = 0
       ·have HX:=Lib.hid (HATJ.out (by simpa using hq0))
        have g7:(q != 0) = false:=by simpa using hq0
        clear hq0
        go_wp2_with (go_at_call 55; (with_reducible refine HC.out.mono ?_))
        rintro e w7 ⟨rfl,hb7⟩
        have HB7:=Lib.hid (below_two' HBJ.out hb7)
        clear hb7
        go_wp2_with fail
        go_roundw
        case rel => exact ⟨j + 1,by omega,by go_num,HX.out,HB7.out⟩
        case measure => simp [intOf]; omega
       ·have HE:=Lib.hid (HBADJ.out (by simpa using hq0))
        have g7:(q != 0) = true:=by simpa using hq0
        clear hq0
        go_wp2_with (go_at_call 55; (with_reducible refine HC.out.mono ?_))
        rintro e w7 ⟨rfl,hb7⟩
        have HB7:=Lib.hid (below_two' HBJ.out hb7)
        clear hb7
        go_wp2_with fail
        go_ret
        exact ⟨ret_bool HE.out.symm,below_two' HB1.out (below_two' HBX.out HB7.out)⟩
end Go.Proofs.YtckojimeglkobaaGreatDoor
namespace Go.Proofs.YtckojimeglkobaaGreatDoor
open Go.RowKit TermSpec EvalSpec ActSpec NamesSpec
set_option maxRecDepth 100000
set_option maxHeartbeats 1000000 in
theorem may_act (a:Ac) (A:Option Addr) (n c:Nat) (hs:SmallA a) (w:World) (h:Tms w (.slice A n c) a.x) :
 Calls Tryz.prog 141 #[.agg #[.string a.s,.bool a.any,.slice A n c]] w (RetI w (oneA a)):=by
 obtain ⟨A',n',c',heq,hn,hnc⟩:=h.shape
 cases heq
 have HIS:=Lib.hid (fun w => is_any a.s w hs.1)
 have HC:=Lib.hid (fun w h => check_any A n c a.x hn (by have:=hs.2.2; omega) hs.2.1 w h)
 have HT:=Lib.hid h
 obtain ⟨q,hq⟩:∃ q,q = isName a.s.data.toList:=⟨_,rfl⟩
 rw [← hq] at HIS
 obtain ⟨r,hr⟩:∃ r,r = oneA a:=⟨_,rfl⟩
 rw [← hr]
 rcases hb:q with _ | _
 ·rw [hb] at HIS hq
  have HR:=Lib.hid (hr.trans (oneA_name hq.symm))
  obtain ⟨s,any,x⟩:=a
  simp only at HIS HC HT hn ⊢
  clear hs h hq hr hb hn
  go_enter Tryz.func141,Tryz.ntmps141
  go_wp2_with (go_at_call 102; (with_reducible refine (HIS.out _).mono ?_))
  rintro e2 w2 ⟨rfl,hb2⟩
  obtain ⟨B2,hbb,_⟩:=KitC.one_block hb2
  have HB2:=Lib.hid hbb
  obtain ⟨c0,c1,c2⟩:=cells_3 B2
  clear hb2 hbb B2
  go_wp2_with fail
  go_ret
  exact ⟨ret_int HR.out.symm,HB2.out⟩
 ·rw [hb] at HIS hq
  rcases ha:a.any with _ | _
  ·have HR:=Lib.hid (hr.trans (oneA_expr hq.symm ha))
   obtain ⟨s,any,x⟩:=a
   simp only at HIS HC HT HR hn ha ⊢
   subst ha
   obtain ⟨m,hm⟩:∃ m,m = chk x:=⟨_,rfl⟩
   rw [← hm] at HR HC
   clear hs h hq hr hb hn hm
   go_enter Tryz.func141,Tryz.ntmps141
   go_wp2_with (go_at_call 102; (with_reducible refine (HIS.out _).mono ?_))
   rintro e2 w2 ⟨rfl,hb2⟩
   obtain ⟨B2,hbb,_⟩:=KitC.one_block hb2
   have HB2:=Lib.hid hbb
   obtain ⟨c0,c1,c2⟩:=cells_3 B2
   clear hb2 hbb B2
   go_wp2_with (go_at_call 153; (with_reducible refine (HC.out _ (HT.out.keep HB2.out)).mono ?_))
   rintro e2 w3 ⟨rfl,hb3⟩
   have HB3:=Lib.hid (below_two' HB2.out hb3)
   clear hb3
   go_wp2_with fail
   go_ret
   exact ⟨ret_int HR.out.symm,HB3.out⟩
  ·have HR0:=Lib.hid (hr.trans (oneA_any hq.symm ha))
   rw [← hn] at HR0
   obtain ⟨s,any,x⟩:=a
   simp only at HIS HC HT hn ha ⊢
   subst ha
   by_cases h0:n = 0
   ·have HR:Hid (r = 0):=Lib.hid (by rw [HR0.out,if_pos h0])
    have g:decide (0 < n) = false:=by simp; omega
    have g2:decide (0 < (n:Int)) = false:=by simp; omega
    clear hs h hq hr hb hn h0 HR0
    go_enter Tryz.func141,Tryz.ntmps141
    go_wp2_with (go_at_call 102; (with_reducible refine (HIS.out _).mono ?_))
    rintro e2 w2 ⟨rfl,hb2⟩
    obtain ⟨B2,hbb,_⟩:=KitC.one_block hb2
    have HB2:=Lib.hid hbb
    obtain ⟨c0,c1,c2⟩:=cells_3 B2
    clear hb2 hbb B2
    go_wp2_with fail
    go_ret
    exact ⟨ret_int HR.out.symm,HB2.out⟩
   ·have HR:Hid (r = 1):=Lib.hid (by rw [HR0.out,if_neg h0])
    have g:decide (0 < n) = true:=by simp; omega
    have g2:decide (0 < (n:Int)) = true:=by simp; omega
    clear hs h hq hr hb hn h0 HR0
    go_enter Tryz.func141,Tryz.ntmps141
    go_wp2_with (go_at_call 102; (with_reducible refine (HIS.out _).mono ?_))
    rintro e2 w2 ⟨rfl,hb2⟩
    obtain ⟨B2,hbb,_⟩:=KitC.one_block hb2
    have HB2:=Lib.hid hbb
    obtain ⟨c0,c1,c2⟩:=cells_3 B2
    clear hb2 hbb B2
    go_wp2_with fail
    go_ret
    exact ⟨ret_int HR.out.symm,HB2.out⟩
def PChkRel (W:World) (l:List Ac) (n:Nat) (i:Value) (wr:World):Prop:=∃ k:Nat,k ≤ n ∧ i = .int .i64 k ∧ firstA (l.take k) = 0 ∧ Below W.heap.size W wr
abbrev acO (a:Ac) (xA:Option Addr) (xn xc:Nat):Obj:=.cells #[.string a.s,.bool a.any,.slice xA xn xc] 98
set_option maxHeartbeats 1000000 in
theorem check_acts (A:Option Addr) (n c:Nat) (l:List Ac) (hs:∀ a ∈ l,SmallA a) (hl:l.length ≤ 9223372036854775807) (w:World) (h:Acs w (.slice A n c) l) :
 Calls Tryz.prog 125 #[.slice A n c] w (RetI w (chkA l)):=by
 have hn:=h.len.1
 have hcap:=h.len.2
 have HN:=Lib.hid hn
 have HT:=Lib.hid h
 have HS:=Lib.hid hs
 obtain ⟨r,hr⟩:∃ r,r = chkA l:=⟨_,rfl⟩
 rw [← hr]
 by_cases h8:8 < n
 ·have HR:Hid (r = 8):=Lib.hid (by rw [hr]; unfold chkA; rw [if_pos (by omega)])
  have g:decide (8 < n) = true:=by simp; omega
  have h8':8 < (n:Int):=by omega
  clear hn h hs hr hl
  go_enter Tryz.func125,Tryz.ntmps125
  go_wp2_with fail
  go_ret
  exact ⟨ret_int HR.out.symm,Below.refl _ _⟩
 ·have HR:Hid (r = firstA l):=Lib.hid (by rw [hr]; unfold chkA; rw [if_neg (by omega)])
  have h8':¬ 8 < (n:Int):=by omega
  clear hn h hs hr hl
  go_enter Tryz.func125,Tryz.ntmps125
  go_wp2_with fail
  go_loopw [11] (fun i wr => PChkRel w l n i wr) (fun i _ => n - (intOf i).toNat)
  case atStart => exact ⟨0,Nat.zero_le _,rfl,rfl,Below.refl _ _⟩
  case round =>
   obtain ⟨k,hk,rfl,hall,hbw⟩:=hrel
   have HA:=Lib.hid hall
   have HB:=Lib.hid hbw
   clear hall hbw
   by_cases hlt:k < n
   ·obtain ⟨a,ha⟩:∃ a,l[k]? = some a:=get_some (by rw [← HN.out]; exact hlt)
    obtain ⟨b,off,xA,xn,xc,rfl,hb,htm,c0,c1,c2⟩:=(HT.out.keep HB.out).at_ ha
    have HC:Hid (Calls Tryz.prog 141 #[.agg #[.string a.s,.bool a.any,.slice xA xn xc]] (wr.alloc (acO a xA xn xc)) (RetI (wr.alloc (acO a xA xn xc)) (oneA a))):=Lib.hid (may_act a xA xn xc (HS.out a (List.mem_of_getElem? ha)) _ (htm.keep (KitC.below_one _ _)))
    have HNX:=Lib.hid (fun h1 => firstA_next ha HA.out h1)
    have HST:=Lib.hid (fun h1 => firstA_stop ha HA.out h1)
    obtain ⟨q,hq⟩:∃ q,q = oneA a:=⟨_,rfl⟩
    rw [← hq] at HC HNX HST
    have hkI:(k:Int) < n:=by omega
    clear ha hq htm
    obtain ⟨s,any,x⟩:=a
    simp only at c0 c1 c2 HC
    by_cases hq0:q = 0
    ·have HNX':=Lib.hid (HNX.out hq0)
     have g:(q != 0) = false:=by simp [hq0]
     clear HNX HST hq0
     go_wp2_with (go_at_call 141; (with_reducible refine HC.out.mono ?_))
     rintro e2 w2 ⟨rfl,hb2⟩
     have HB2:=Lib.hid (below_two' HB.out (below_two' (KitC.below_one _ _) hb2))
     clear hb2
     go_wp2_with fail
     go_roundw
     case rel => exact ⟨k + 1,by omega,by go_num,HNX'.out,HB2.out⟩
     case measure => simp [intOf]; omega
    ·have HST':=Lib.hid (HST.out hq0)
     have g:(q != 0) = true:=by simp [hq0]
     clear HNX HST hq0
     go_wp2_with (go_at_call 141; (with_reducible refine HC.out.mono ?_))
     rintro e2 w2 ⟨rfl,hb2⟩
     have HB2:=Lib.hid (below_two' HB.out (below_two' (KitC.below_one _ _) hb2))
     clear hb2
     go_wp2_with fail
     go_ret
     exact ⟨ret_int (by rw [HR.out,HST'.out]),HB2.out⟩
   ·have HE:Hid (firstA l = 0):=Lib.hid (by
     have h1:=HN.out
     have h2:=HA.out
     rwa [List.take_of_length_le (by omega)] at h2)
    go_wp2_with fail
    go_ret
    exact ⟨ret_int (by rw [HR.out,HE.out]),HB.out⟩
end Go.Proofs.YtckojimeglkobaaGreatDoor