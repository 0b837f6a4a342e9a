/- ConfMay, RowK, joined. -/
import Derived.Test.YtckojimeglkobaaGreatDoorMConfChecks12
import Derived.Test.YtckojimeglkobaaGreatDoorMConfChecks01
import Derived.Test.YtckojimeglkobaaGreatDoorMConfChecks08
import Derived.Deep.AppendLies
import Derived.Deep.RegionLaw
namespace Go.Proofs.YtckojimeglkobaaGreatDoor
open Go.RowKit Go.Sort TermSpec EvalSpec ActSpec NamesSpec ExprSpec TransSpec SynSpec CurSpec ShapeSpec GroupSpec PrintSpec ConfSpec
set_option maxRecDepth 100000
abbrev chO18 (s:ByteArray) (eA:Option Addr) (en ec:Nat) (vA:Option Addr) (vn vc:Nat) (sA:Option Addr) (sn sc:Nat):Obj:=.cells #[.string s,.slice eA en ec,.slice vA vn vc,.slice sA sn sc] 26
theorem ch_cf (o:Obj) (y:Cf) (w:World):∃ W2,(w.alloc o).alloc (cfO y) = W2 ∧ W2.heap[w.heap.size]? = some o ∧ W2.heap[w.heap.size + 1]? = some (cfO y) ∧ Below w.heap.size w W2 :=
 ⟨_,rfl,(heap_alloc_old _ _ (by simp)).trans (heap_alloc_new _ _),by have:=heap_alloc_new (w.alloc o) (cfO y); rwa [World.size_alloc] at this,KitC.below_pair _ _ _⟩
theorem refP_out {l:List Sh} {m k:Nat} (h:hasG m (k:Int) = false):refP l m k = true:=by unfold refP; rw [h]; rfl
theorem refP_far {l:List Sh} {m k:Nat} (h:hasG m (k:Int) = true) (hk:l.length ≤ k):refP l m k = false:=by
 unfold refP
 rw [h,decide_eq_false (by omega:¬ k < l.length)]
 rfl
theorem refP_in {l:List Sh} {m k:Nat} (h:hasG m (k:Int) = true) (hk:k < l.length):refP l m k = ((decide (k = 0) || hasG m (par l k)) && kidsB l m k):=by
 unfold refP
 rw [h,decide_eq_true hk]
 rfl
section
variable (x:Cx) (eA:Option Addr) (en ec:Nat) (vA:Option Addr) (vn vc:Nat) (sA:Option Addr) (sn sc:Nat) (y:Cf) (w:World) (h:ChIn w (.slice eA en ec) (.slice vA vn vc) (.slice sA sn sc) x) (hm:sn ≤ 1000000) (h64:y.m < 18446744073709551616)
include h hm h64
set_option maxRecDepth 100000 in
set_option maxHeartbeats 8000000 in
theorem rmay18:Calls Tryz.prog 11 #[.agg #[.string x.s,.slice eA en ec,.slice vA vn vc,.slice sA sn sc],cfA y] w (RetB w (mayCf (x.sts.map shOf) x.vars y)):=by
 have HKS:=Lib.hid (fun W (hW:Below w.heap.size w W) (i:Nat) => rkids18 x eA en ec vA vn vc sA sn sc W (h.keep hW) hm y.m i h64)
 have hsl:(x.sts.map shOf).length = sn:=by rw [List.length_map]; exact h.sts.len.1.symm
 obtain ⟨l,hl⟩:∃ l,l = x.sts.map shOf:=⟨_,rfl⟩
 rw [← hl] at HKS hsl ⊢
 have HST:Hid (∀ W,Below w.heap.size w W → Sts W (.slice sA sn sc) l):=Lib.hid fun W hW => by rw [hl]; exact (h.sts.keep hW).sts
 have HVS:Hid (∀ W,Below w.heap.size w W → VarsIn W vA vn vc x.vars):=Lib.hid fun W hW => RdV.vars (Rdk.keep h.vars hW)
 obtain ⟨vs,hvs⟩:∃ vs,vs = x.vars:=⟨_,rfl⟩
 rw [← hvs] at HVS ⊢
 have HVN:Hid (vn = vs.length):=Lib.hid (HVS.out w (Below.refl _ _)).1
 have HSL:=Lib.hid hsl
 obtain ⟨nm,hnm⟩:∃ nm,nm = x.s:=⟨_,rfl⟩
 rw [← hnm] at HKS ⊢
 obtain ⟨m,v⟩:=y
 simp only at h64 HKS ⊢
 have HH:=Lib.hid (fun (i:Int) W => rhas_any16 m i h64 W)
 obtain ⟨b0,hb0⟩:∃ b0,b0 = hasG m 0:=⟨_,rfl⟩
 have HH0:=Lib.hid (HH.out 0)
 rw [← hb0] at HH0
 have HB0:Hid (hasG m 0 = b0):=Lib.hid hb0.symm
 obtain ⟨W2,hW2,hb1,hb2,hb⟩:=ch_cf (chO18 nm eA en ec vA vn vc sA sn sc) ⟨m,v⟩ w
 have HC:Hid (∀ W,Below W2.heap.size W2 W → W.heap[w.heap.size]? = some (chO18 nm eA en ec vA vn vc sA sn sc) ∧ W.heap[w.heap.size + 1]? = some (cfO ⟨m,v⟩)):=Lib.hid fun W hW => ⟨KitC.block_on hb1 hW,KitC.block_on hb2 hW⟩
 have HW2:=Lib.hid hW2
 have HB2:=Lib.hid hb
 obtain ⟨c0,c1,c2,c3⟩:=cells_4 hb1
 obtain ⟨d0,d1,d2,d3,d4⟩:=cells_5c hb2
 have HE:Hid (∀ b,b = mayCf l vs ⟨m,v⟩ ↔ b = (statesR l m && valsB vs v)):=Lib.hid fun b => Iff.rfl
 clear h hm h64 hsl hl hvs hnm hW2 hb1 hb2 hb hb0
 go_enter Tryz.func11,Tryz.ntmps11
 go_wp2_with ((try rw [HW2.out]); go_at_call 33; go_fit (HH0.out _))
 rintro e w3 ⟨rfl,hw3⟩
 have hw3':W2 = w3:=by rw [← hw3,← HW2.out]
 subst hw3'
 cases b0 with
 | false =>
   clear hw3
   go_wp2_with fail
   go_ret
   refine ⟨ret_bool ((HE.out _).2 ?_),HB2.out⟩
   unfold statesR
   rw [HB0.out]
   rfl
 | true =>
 clear hw3
 go_wp2_with fail
 go_loopw [5] (fun i wr => MayRel W2 l m i wr) (fun i _ => 64 - (intOf i).toNat)
 case atStart => exact ⟨0,Nat.zero_le _,rfl,fun j hj => absurd hj (by omega),Lib.hid (Below.refl _ _)⟩
 case round =>
  obtain ⟨k,hk,rfl,hp,HR⟩:=hrel
  obtain ⟨hb1,hb2⟩:=HC.out _ HR.out
  obtain ⟨c0,c1,c2,c3⟩:=cells_4 hb1
  obtain ⟨d0,d1,d2,d3,d4⟩:=cells_5c hb2
  have HP:=Lib.hid hp
  have HBR:=Lib.hid (below_two' HB2.out HR.out)
  clear hb1 hb2 hp
  by_cases hlt:k < 64
  ·have hltI:(k:Int) < 64:=by omega
   have HHK:=Lib.hid (HH.out (k:Int))
   obtain ⟨bk,hbk⟩:∃ bk,bk = hasG m (k:Int):=⟨_,rfl⟩
   have hhk:hasG m (k:Int) = bk:=hbk.symm
   rw [hhk] at HHK
   clear hbk
   cases bk with
   | false =>
     have HN:=Lib.hid (rel_next HP.out (refP_out (l:=l) hhk))
     clear hhk
     go_wp2_with (go_at_call 33; go_fit (HHK.out _))
     rintro e w4 ⟨rfl,rfl⟩
     go_wp2_with fail
     go_roundw
     case rel => exact ⟨k + 1,by omega,by go_num,HN.out,HR⟩
     case measure => simp [intOf]; omega
   | true =>
     have HHH:=Lib.hid hhk
     clear hhk
     by_cases hks:k < sn
     ·have HRP:=Lib.hid (refP_in (l:=l) HHH.out (by have:=HSL.out; omega))
      obtain ⟨b,off,rfl,hbl,x1,x2⟩:=(HST.out _ HBR.out).at_ hks
      obtain ⟨kd,hkd⟩:∃ kd,kd = kind l k:=⟨_,rfl⟩
      obtain ⟨pr,hpr⟩:∃ pr,pr = par l k:=⟨_,rfl⟩
      rw [← hkd] at x1
      rw [← hpr] at x2 HRP
      have HKD:=Lib.hid hkd
      have HHP:=Lib.hid (HH.out pr)
      have g0:¬ (sn:Int) ≤ (k:Int):=by omega
      have g0':¬ sn ≤ k:=by omega
      have g0d:decide ((sn:Int) ≤ (k:Int)) = false:=decide_eq_false g0
      have g0e:decide (sn ≤ k) = false:=decide_eq_false g0'
      -- what follows when its parent is in
      have HKW:=Lib.hid (fun W hW => HKS.out W hW k)
      obtain ⟨q,hq⟩:∃ q:Int,q = (kidsIn l m k:Nat):=⟨_,rfl⟩
      obtain ⟨z,hz⟩:∃ z:Int,z = ((kids l k).length:Nat):=⟨_,rfl⟩
      rw [← hq,← hz] at HKW
      have HKB:Hid (kidsB l m k = (!(decide (kd = 2) && !decide (q = 1)) && !(decide (kd = 3) && !decide (q = z)))):=Lib.hid (by
       unfold kidsB
       rw [hkd,hq,hz]
       congr 3
       ·congr 1
        rw [Bool.eq_iff_iff,decide_eq_true_iff,decide_eq_true_iff]
        omega
       ·congr 1
        rw [Bool.eq_iff_iff,decide_eq_true_iff,decide_eq_true_iff]
        omega)
      have HX1:=Lib.hid x1
      clear hkd hpr hq hz
      have hpar:(k = 0) ∨ (k ≠ 0 ∧ hasG m pr = true) ∨ (k ≠ 0 ∧ hasG m pr = false):=by
       by_cases e:k = 0
       ·exact .inl e
       ·cases hasG m pr with
        | true => exact .inr (.inl ⟨e,rfl⟩)
        | false => exact .inr (.inr ⟨e,rfl⟩)
      have hcase:(kd = 2 ∧ q = 1) ∨ (kd = 2 ∧ q ≠ 1) ∨ (kd = 3 ∧ q = z) ∨ (kd = 3 ∧ q ≠ z) ∨ (kd ≠ 2 ∧ kd ≠ 3):=by omega
      rcases hpar with e | ⟨e,hpp⟩ | ⟨e,hpp⟩
      ·skip
       have e0:¬ (0:Int) < (k:Int):=by omega
       have e1:¬ 0 < k:=by omega
       have e2:decide ((0:Int) < (k:Int)) = false:=decide_eq_false e0
       have e3:decide (0 < k) = false:=decide_eq_false e1
       have HPP:Hid ((decide (k = 0) || hasG m pr) = true):=Lib.hid (by rw [decide_eq_true e]; rfl)
       clear e
       rw [HPP.out,Bool.true_and,HKB.out] at HRP
       go_wp2_with (go_at_call 33; go_fit (HHK.out _))
       rintro e w4 ⟨rfl,rfl⟩
       go_wp2_with fail
       go_quiet (fail)
       go_wp2_with (go_at_call 34; go_fit (HKW.out _ (below_drewN HBR.out _)))
       rintro e w5 ⟨rfl,hb5⟩
       have hb6:=below_two' (below_drewN (Below.refl wr.heap.size wr) _) hb5
       have hb7:=below_two' HR.out hb6
       obtain ⟨hb1,hb2⟩:=HC.out _ hb7
       obtain ⟨c0,c1,c2,c3⟩:=cells_4 hb1
       obtain ⟨d0,d1,d2,d3,d4⟩:=cells_5c hb2
       have y1:=(hb6.cell (p:=⟨b,off + k * 6 + 1,none⟩) hbl).trans HX1.out
       have HB7:=Lib.hid hb7
       have HB8:=Lib.hid (below_two' HB2.out hb7)
       clear hb1 hb2 hb5 hb6 hb7
       rcases hcase with ⟨u1,u2⟩ | ⟨u1,u2⟩ | ⟨u1,u2⟩ | ⟨u1,u2⟩ | ⟨u1,u2⟩
       ·subst u1 u2
        have HN:=Lib.hid (rel_next HP.out (show refP l m k = true by rw [HRP.out]; simp (config:={ decide:=true }) [*]))
        clear HRP HKB
        go_wp2_with fail
        go_roundw
        case rel => exact ⟨k + 1,by omega,by go_num,HN.out,HB7⟩
        case measure => simp [intOf]; omega
       ·subst u1
        have g1:(q != 1) = true:=by simpa using u2
        have HN:=Lib.hid (all_not hlt (show refP l m k = false by rw [HRP.out]; simp (config:={ decide:=true }) [*]))
        clear HRP HKB
        go_wp2_with fail
        go_ret
        exact ⟨ret_bool ((HE.out _).2 (by unfold statesR; rw [HN.out,Bool.and_false]; rfl)),HB8.out⟩
       ·subst u1 u2
        have g1:(q != q) = false:=by simp
        have HN:=Lib.hid (rel_next HP.out (show refP l m k = true by rw [HRP.out]; simp (config:={ decide:=true }) [*]))
        clear HRP HKB
        go_wp2_with fail
        go_roundw
        case rel => exact ⟨k + 1,by omega,by go_num,HN.out,HB7⟩
        case measure => simp [intOf]; omega
       ·subst u1
        have g1:(q != z) = true:=by simpa using u2
        have HN:=Lib.hid (all_not hlt (show refP l m k = false by rw [HRP.out]; simp (config:={ decide:=true }) [*]))
        clear HRP HKB
        go_wp2_with fail
        go_ret
        exact ⟨ret_bool ((HE.out _).2 (by unfold statesR; rw [HN.out,Bool.and_false]; rfl)),HB8.out⟩
       ·have g1:(kd == 2) = false:=by simpa using u1
        have g2:(kd == 3) = false:=by simpa using u2
        have HN:=Lib.hid (rel_next HP.out (show refP l m k = true by rw [HRP.out]; simp (config:={ decide:=true }) [*]))
        clear HRP HKB
        go_wp2_with fail
        go_roundw
        case rel => exact ⟨k + 1,by omega,by go_num,HN.out,HB7⟩
        case measure => simp [intOf]; omega
      ·skip
       have e0:(0:Int) < (k:Int):=by omega
       have e1:0 < k:=by omega
       rw [hpp] at HHP
       have HPP:Hid ((decide (k = 0) || hasG m pr) = true):=Lib.hid (by rw [hpp,Bool.or_true])
       clear e hpp
       rw [HPP.out,Bool.true_and,HKB.out] at HRP
       go_wp2_with (go_at_call 33; go_fit (HHK.out _))
       rintro e w4 ⟨rfl,rfl⟩
       go_wp2_with fail
       go_quiet ((go_at_call 33; exact Calls.quiet_of_same ((HHP.out _).mono fun _ _ h => ⟨h.1,h.2.symm⟩)))
       go_wp2_with (go_at_call 34; go_fit (HKW.out _ (below_drewN HBR.out _)))
       rintro e w5 ⟨rfl,hb5⟩
       have hb6:=below_two' (below_drewN (Below.refl wr.heap.size wr) _) hb5
       have hb7:=below_two' HR.out hb6
       obtain ⟨hb1,hb2⟩:=HC.out _ hb7
       obtain ⟨c0,c1,c2,c3⟩:=cells_4 hb1
       obtain ⟨d0,d1,d2,d3,d4⟩:=cells_5c hb2
       have y1:=(hb6.cell (p:=⟨b,off + k * 6 + 1,none⟩) hbl).trans HX1.out
       have HB7:=Lib.hid hb7
       have HB8:=Lib.hid (below_two' HB2.out hb7)
       clear hb1 hb2 hb5 hb6 hb7
       rcases hcase with ⟨u1,u2⟩ | ⟨u1,u2⟩ | ⟨u1,u2⟩ | ⟨u1,u2⟩ | ⟨u1,u2⟩
       ·subst u1 u2
        have HN:=Lib.hid (rel_next HP.out (show refP l m k = true by rw [HRP.out]; simp (config:={ decide:=true }) [*]))
        clear HRP HKB
        go_wp2_with fail
        go_roundw
        case rel => exact ⟨k + 1,by omega,by go_num,HN.out,HB7⟩
        case measure => simp [intOf]; omega
       ·subst u1
        have g1:(q != 1) = true:=by simpa using u2
        have HN:=Lib.hid (all_not hlt (show refP l m k = false by rw [HRP.out]; simp (config:={ decide:=true }) [*]))
        clear HRP HKB
        go_wp2_with fail
        go_ret
        exact ⟨ret_bool ((HE.out _).2 (by unfold statesR; rw [HN.out,Bool.and_false]; rfl)),HB8.out⟩
       ·subst u1 u2
        have g1:(q != q) = false:=by simp
        have HN:=Lib.hid (rel_next HP.out (show refP l m k = true by rw [HRP.out]; simp (config:={ decide:=true }) [*]))
        clear HRP HKB
        go_wp2_with fail
        go_roundw
        case rel => exact ⟨k + 1,by omega,by go_num,HN.out,HB7⟩
        case measure => simp [intOf]; omega
       ·subst u1
        have g1:(q != z) = true:=by simpa using u2
        have HN:=Lib.hid (all_not hlt (show refP l m k = false by rw [HRP.out]; simp (config:={ decide:=true }) [*]))
        clear HRP HKB
        go_wp2_with fail
        go_ret
        exact ⟨ret_bool ((HE.out _).2 (by unfold statesR; rw [HN.out,Bool.and_false]; rfl)),HB8.out⟩
       ·have g1:(kd == 2) = false:=by simpa using u1
        have g2:(kd == 3) = false:=by simpa using u2
        have HN:=Lib.hid (rel_next HP.out (show refP l m k = true by rw [HRP.out]; simp (config:={ decide:=true }) [*]))
        clear HRP HKB
        go_wp2_with fail
        go_roundw
        case rel => exact ⟨k + 1,by omega,by go_num,HN.out,HB7⟩
        case measure => simp [intOf]; omega
      ·have e0:(0:Int) < (k:Int):=by omega
       have e1:0 < k:=by omega
       rw [hpp] at HHP HRP
       have HF:Hid (refP l m k = false):=Lib.hid (by rw [HRP.out,decide_eq_false e]; rfl)
       clear e hpp hcase
       go_wp2_with (go_at_call 33; go_fit (HHK.out _))
       rintro e w4 ⟨rfl,rfl⟩
       go_wp2_with fail
       go_quiet ((go_at_call 33; exact Calls.quiet_of_same ((HHP.out _).mono fun _ _ h => ⟨h.1,h.2.symm⟩)))
       go_wp2_with fail
       go_ret
       exact ⟨ret_bool ((HE.out _).2 (by unfold statesR; rw [all_not hlt HF.out,Bool.and_false]; rfl)),below_drewN HBR.out _⟩
     ·have g0:(sn:Int) ≤ (k:Int):=by omega
      have g0':sn ≤ k:=by omega
      have g0d:decide ((sn:Int) ≤ (k:Int)) = true:=decide_eq_true g0
      have g0e:decide (sn ≤ k) = true:=decide_eq_true g0'
      have HF:=Lib.hid (refP_far (l:=l) HHH.out (by have:=HSL.out; omega))
      go_wp2_with (go_at_call 33; go_fit (HHK.out _))
      rintro e w4 ⟨rfl,rfl⟩
      go_wp2_with fail
      go_quiet (fail)
      go_wp2_with fail
      go_ret
      exact ⟨ret_bool ((HE.out _).2 (by unfold statesR; rw [all_not hlt HF.out,Bool.and_false]; rfl)),below_drewN HBR.out _⟩
  ·obtain rfl:k = 64:=by omega
   have HSR:Hid (statesR l m = true):=Lib.hid (by unfold statesR; rw [HB0.out,Bool.true_and]; exact all_to HP.out)
   go_wp2_with fail
   go_loopw [8] (fun i wq => ValRel wr vs v i wq) (fun i _ => 4 - (intOf i).toNat)
   case atStart => exact ⟨0,Nat.zero_le _,rfl,fun j hj => absurd hj (by omega),Lib.hid (Below.refl _ _)⟩
   case round =>
    obtain ⟨k,hk,rfl,hp,HQ⟩:=hrel
    have HV:=Lib.hid hp
    have hbq:=below_two' HR.out HQ.out
    obtain ⟨hb1,hb2⟩:=HC.out _ hbq
    obtain ⟨c0,c1,c2,c3⟩:=cells_4 hb1
    have HBQ:=Lib.hid (below_two' HB2.out hbq)
    by_cases hlt:k < 4
    ·have hltI:(k:Int) < 4:=by omega
     have d1:=v5_cell hb2 hlt
     obtain ⟨u,hu⟩:∃ u,u = v.get k:=⟨_,rfl⟩
     rw [← hu] at d1
     have HU:=Lib.hid hu
     clear hb1 hb2 hbq hp hu
     by_cases hkv:k < vn
     ·have hkvI:(k:Int) < (vn:Int):=by omega
      obtain ⟨q,hq⟩:∃ q,vs[k]? = some q:=get_some (by have:=HVN.out; omega)
      obtain ⟨b,off,rfl,hbl,-,x1,x2,-⟩:=(HVS.out _ HBQ.out).at_ hq
      have HB4:Hid (valB vs k u = (decide (q.lo ≤ u) && decide (u ≤ q.hi))):=Lib.hid (by unfold valB; rw [hq]; rfl)
      obtain ⟨lo,hlo⟩:∃ lo,lo = q.lo:=⟨_,rfl⟩
      obtain ⟨hi,hhi⟩:∃ hi,hi = q.hi:=⟨_,rfl⟩
      rw [← hlo] at x1 HB4
      rw [← hhi] at x2 HB4
      clear hq hlo hhi
      rcases (show u < lo ∨ (¬ u < lo ∧ hi < u) ∨ (¬ u < lo ∧ ¬ hi < u) by omega) with g1 | ⟨g1,g2⟩ | ⟨g1,g2⟩
      ·have HF:Hid (valB vs k (v.get k) = false):=Lib.hid (by rw [← HU.out,HB4.out,decide_eq_false (by omega),Bool.false_and])
       go_wp2_with fail
       go_quiet (fail)
       go_wp2_with fail
       go_ret
       exact ⟨ret_bool ((HE.out _).2 (by rw [show valsB vs v = false from all_not hlt HF.out,Bool.and_false])),below_drewN HBQ.out _⟩
      ·have HF:Hid (valB vs k (v.get k) = false):=Lib.hid (by rw [← HU.out,HB4.out,decide_eq_false (show ¬ u ≤ hi by omega),Bool.and_false])
       go_wp2_with fail
       go_quiet (fail)
       go_wp2_with fail
       go_ret
       exact ⟨ret_bool ((HE.out _).2 (by rw [show valsB vs v = false from all_not hlt HF.out,Bool.and_false])),below_drewN HBQ.out _⟩
      ·have HN:=Lib.hid (rel_next HV.out (show valB vs k (v.get k) = true by rw [← HU.out,HB4.out,decide_eq_true (show lo ≤ u by omega),decide_eq_true (show u ≤ hi by omega)]; rfl))
       go_wp2_with fail
       go_quiet (fail)
       go_wp2_with fail
       go_roundw
       case rel => exact ⟨k + 1,by omega,by go_num,HN.out,Lib.hid (below_drewN HQ.out _)⟩
       case measure => simp [intOf]; omega
     ·have hkvI:¬ (k:Int) < (vn:Int):=by omega
      have HB4:Hid (valB vs k u = decide (u = 0)):=Lib.hid (by unfold valB; rw [List.getElem?_eq_none (by have:=HVN.out; omega)]; rfl)
      rcases (show u < 0 ∨ (¬ u < 0 ∧ 0 < u) ∨ u = 0 by omega) with g1 | ⟨g1,g2⟩ | rfl
      ·have HF:Hid (valB vs k (v.get k) = false):=Lib.hid (by rw [← HU.out,HB4.out,decide_eq_false (by omega)])
       go_wp2_with fail
       go_ret
       exact ⟨ret_bool ((HE.out _).2 (by rw [show valsB vs v = false from all_not hlt HF.out,Bool.and_false])),HBQ.out⟩
      ·have HF:Hid (valB vs k (v.get k) = false):=Lib.hid (by rw [← HU.out,HB4.out,decide_eq_false (by omega)])
       go_wp2_with fail
       go_ret
       exact ⟨ret_bool ((HE.out _).2 (by rw [show valsB vs v = false from all_not hlt HF.out,Bool.and_false])),HBQ.out⟩
      ·have HN:=Lib.hid (rel_next HV.out (show valB vs k (v.get k) = true by rw [← HU.out,HB4.out]; rfl))
       go_wp2_with fail
       go_roundw
       case rel => exact ⟨k + 1,by omega,by go_num,HN.out,HQ⟩
       case measure => simp [intOf]; omega
    ·obtain rfl:k = 4:=by omega
     have HVB:Hid (valsB vs v = true):=Lib.hid (all_to HV.out)
     go_wp2_with fail
     go_ret
     exact ⟨ret_bool ((HE.out _).2 (by rw [HSR.out,HVB.out]; rfl)),HBQ.out⟩
end
end Go.Proofs.YtckojimeglkobaaGreatDoor
namespace Go.Proofs.YtckojimeglkobaaGreatDoor
open Go.RowKit
theorem keep_but {x y:World} {E b:Nat} {o:Obj} (h:x.heap[b]? = some o) (hg:x.grownBy y (some E)) (hne:b ≠ E):y.heap[b]? = some o:=(hg.block b (Array.getElem?_eq_some_iff.1 h).1 (by simpa using hne)).trans h
theorem gr_any {w x y:World} {ob ob':Option Nat} (h:w.grownBy x ob) (g:x.grownBy y ob') (hk:∀ j,ob' = some j → ob = some j ∨ w.heap.size ≤ j):w.grownBy y ob :=
 ⟨g.os.trans h.os,g.tape.trans h.tape,g.output.trans h.output,Nat.le_trans h.size g.size,fun i hi hn => (g.block i (Nat.lt_of_lt_of_le hi h.size) fun e => by
  rcases hk i e.symm with h' | h'
  ·exact hn h'.symm
  ·omega).trans (h.block i hi hn)⟩
theorem gr_none {w x:World} (h:Below w.heap.size w x) (ob:Option Nat):w.grownBy x ob:=⟨h.os,h.tape,h.output,h.size,fun i hi _ => h.block i hi⟩
structure RowK {α:Type} (T:TypeId) (k:Nat) (cv:α → List Value) (nest:α → World → Prop) (N:Nat) (K:Nat → Prop) (wr:World) (pv:Value) (ps:List α):Prop where
 own:wr.ownsRow N T k pv ps.length (ps.flatMap cv)
 dep:∀ p ∈ ps,Dep wr (fun b => K b ∧ pv.ownBlock ≠ some b) (nest p)
abbrev RowC {α:Type} (T:TypeId) (k:Nat) (cv:α → List Value) (nest:α → World → Prop) (N:Nat) (wr:World) (pv:Value) (ps:List α):Prop:=RowK T k cv nest N (fun b => N ≤ b) wr pv ps
section
variable {α:Type} {T:TypeId} {k:Nat} {cv:α → List Value} {nest:α → World → Prop} {N:Nat} {K K':Nat → Prop} {wr w':World} {pv:Value} {ps:List α}
theorem RowK.nil:RowK T k cv nest N K wr (.slice none 0 0) []:=⟨World.ownsRow_nil _ _ _ _,fun _ h => by simp at h⟩
theorem own_go (h:wr.ownsRow N T k pv ps.length (ps.flatMap cv)) {oc:Option Nat} (g:wr.grownBy w' oc) (hk:∀ j,oc = some j → pv.ownBlock ≠ some j):w'.ownsRow N T k pv ps.length (ps.flatMap cv):=by
 refine ⟨h.1,?_⟩
 rcases h.2 with h1 | ⟨g0,cap,cur,h1,h2,h3,h4⟩
 ·exact .inl h1
 ·exact .inr ⟨g0,cap,cur,h1,h2,(g.block g0 (Array.getElem?_eq_some_iff.1 h3).1 fun e => hk g0 e.symm (by rw [h1]; rfl)).trans h3,h4⟩
theorem RowK.go (h:RowK T k cv nest N K wr pv ps) {oc:Option Nat} (g:wr.grownBy w' oc) (hk:∀ j,oc = some j → ¬ K j ∧ pv.ownBlock ≠ some j):RowK T k cv nest N K w' pv ps :=
 ⟨own_go h.own g fun j e => (hk j e).2,fun p hp => (h.dep p hp).go g fun b hS e => (hk b e).1 hS.1⟩
theorem RowK.keep (h:RowK T k cv nest N K wr pv ps) (hb:Below wr.heap.size wr w'):RowK T k cv nest N K w' pv ps:=h.go (gr_none hb none) (by simp)
theorem RowK.mono (h:RowK T k cv nest N K wr pv ps) (hk:∀ b,b < wr.heap.size → K b → K' b):RowK T k cv nest N K' wr pv ps:=⟨h.own,fun p hp => (h.dep p hp).mono fun b hb hS => ⟨hk b hb hS.1,hS.2⟩⟩
theorem RowK.shape (h:RowK T k cv nest N K wr pv ps):∃ A c,pv = .slice A ps.length c:=own_shape h.own
theorem RowK.bd (h:RowK T k cv nest N K wr pv ps):∀ j,pv.ownBlock = some j → N ≤ j ∧ j < wr.heap.size:=own_block_bd h.own
theorem RowK.low (h:RowC T k cv nest N wr pv ps) {oc:Option Nat} (g:wr.grownBy w' oc) (hk:∀ j,oc = some j → j < N):RowC T k cv nest N w' pv ps :=
 RowK.go h g fun j e => ⟨by have:=hk j e; omega,fun e' => by have:=(h.bd j e').1; have:=hk j e; omega⟩
theorem RowK.put (h:RowC T k cv nest N wr pv ps) {j:Nat} (g:wr.grownBy w' (some j)) (hne:pv.ownBlock ≠ some j) (ht:∀ p x,nest p x):RowC T k cv nest N w' pv ps :=
 ⟨own_go h.own g fun i e => by cases e; exact hne,fun p _ => Dep.triv (ht p)⟩
theorem RowK.far (h:RowC T k cv nest N wr pv ps):Dep wr (fun b => N ≤ b) (fun x => Rdk k x pv ps.length (ps.flatMap cv) ∧ ∀ p ∈ ps,nest p x) :=
 (rdk_dep (Rdk.own h.own) fun _ b e => (h.bd b e).1).and fun w2 hz hx p hp => (h.dep p hp) w2 hz fun b hlt hS => hx b hlt hS.1
theorem RowK.add {p:α} {pv':Value} {o:Obj} (h:RowK T k cv nest N K wr pv ps) (hn:Dep wr (fun b => K b ∧ pv.ownBlock ≠ some b) (nest p))
 (hrow:w'.ownsRow N T k pv' (ps.length + 1) (ps.flatMap cv ++ cv p)) (hg:(wr.alloc o).grownBy w' pv.ownBlock) (hob:pv'.ownBlock = pv.ownBlock ∨ pv'.ownBlock = some (wr.alloc o).heap.size):RowK T k cv nest N K w' pv' (ps ++ [p]):=by
 have ha:Below wr.heap.size wr (wr.alloc o):=KitC.below_one wr o
 refine ⟨by simpa [List.length_append] using hrow,fun q hq => ?_⟩
 have hall:Dep wr (fun b => K b ∧ pv.ownBlock ≠ some b) (nest q):=by
  rcases List.mem_append.1 hq with hq | hq
  ·exact h.dep q hq
  ·rw [List.mem_singleton] at hq
   subst hq
   exact hn
 intro w2 hz hx
 refine hall w2 (Nat.le_trans ha.size (Nat.le_trans hg.size hz)) fun b hlt hS => ?_
 have hlt2:b < (wr.alloc o).heap.size:=Nat.lt_of_lt_of_le hlt ha.size
 refine (hx b (Nat.lt_of_lt_of_le hlt2 hg.size) ⟨hS.1,fun e => ?_⟩).trans ((hg.block b hlt2 fun e => hS.2 e.symm).trans (ha.block b hlt))
 rcases hob with e' | e'
 ·exact hS.2 (e'.symm.trans e)
 ·rw [e'] at e; injection e with e; omega
theorem RowK.set {i j g cap:Nat} {p p':α} {u:Value} (h:RowK T k cv nest N K wr (.slice (some ⟨g,0,none⟩) ps.length cap) ps) (hlen:∀ a,(cv a).length = k) (hp:ps[i]? = some p) (hj:j < k) (hu:cv p' = (cv p).set j u)
 (hn:Dep wr (fun b => K b ∧ (Value.slice (some ⟨g,0,none⟩) ps.length cap).ownBlock ≠ some b) (nest p')) :
 RowK T k cv nest N K (wr.setCell ⟨g,i * k + j,none⟩ u) (.slice (some ⟨g,0,none⟩) ps.length cap) (ps.set i p'):=by
 have hs:wr.grownBy (wr.setCell ⟨g,i * k + j,none⟩ u) (some g):=but_set (but_refl wr _) _ _
 have hi:=(List.getElem?_eq_some_iff.1 hp).1
 have hlt:i * k + j < (ps.flatMap cv).length:=by
  rw [flat_length hlen]
  have:(i + 1) * k ≤ ps.length * k:=Nat.mul_le_mul_right k hi
  rw [Nat.add_mul] at this
  omega
 refine ⟨?_,fun q hq => ?_⟩
 ·rw [List.length_set,flat_set hlen hp hj hu]
  exact own_set h.own hlt u
 ·have hall:Dep wr (fun b => K b ∧ (Value.slice (some ⟨g,0,none⟩) ps.length cap).ownBlock ≠ some b) (nest q):=by
   rcases List.mem_or_eq_of_mem_set hq with hq | rfl
   ·exact h.dep q hq
   ·exact hn
  exact hall.go hs fun b hS e => hS.2 e
def Added (T:TypeId) (k:Nat) (cv:α → List Value) (nest:α → World → Prop) (N:Nat) (K:Nat → Prop) (wr:World) (pv:Value) (ps:List α) (v':Value) (w':World):Prop :=
 RowK T k cv nest N K w' v' ps ∧ wr.grownBy w' pv.ownBlock ∧ ∀ j,v'.ownBlock = some j → pv.ownBlock = some j ∨ wr.heap.size < j
theorem RowK.added {p:α} {pv':Value} {o:Obj} (h:RowK T k cv nest N K wr pv ps) (hn:Dep wr (fun b => K b ∧ pv.ownBlock ≠ some b) (nest p))
 (hrow:w'.ownsRow N T k pv' (ps.length + 1) (ps.flatMap cv ++ cv p)) (hg:(wr.alloc o).grownBy w' pv.ownBlock) (hob:pv'.ownBlock = pv.ownBlock ∨ pv'.ownBlock = some (wr.alloc o).heap.size):Added T k cv nest N K wr pv (ps ++ [p]) pv' w':=by
 have ha:Below wr.heap.size wr (wr.alloc o):=KitC.below_one _ _
 refine ⟨h.add hn hrow hg hob,⟨hg.os.trans ha.os,hg.tape.trans ha.tape,hg.output.trans ha.output,Nat.le_trans ha.size hg.size,fun i hi hn => (hg.block i (Nat.lt_of_lt_of_le hi ha.size) hn).trans (ha.block i hi)⟩,fun j hj => ?_⟩
 rcases hob with e' | e'
 ·exact .inl (e'.symm.trans hj)
 ·rw [e'] at hj
  injection hj with hj
  simp at hj
  exact .inr (by omega)
end
section
variable {P:Program}
theorem step_append_rowK {ops:Array Oper} {o:Oper} {a:Act} {J:Act → World → Prop} {Q:Exit → Act → World → Prop} {E:Prop} (hgd:o.guard = none) (s x:Operand) (t:TypeId)
 (ho:o.op = .call { callee:=.builtin .append,args:=#[s,x],argTypes:=#[t,t] })
 {α:Type} {e:TypeId} {k:Nat} {cv:α → List Value} {nest:α → World → Prop} {N:Nat} {K:Nat → Prop} {wr:World} {pv:Value} {ps:List α}
 (i:TypeInfo) (z:Value) (bytes:Nat) (ht:P.underlying t = some (.slice e)) (hi:P.info? e = some i) (hz:i.zero = some z)
 (hsize:i.size = k) (hby:i.bytes = bytes) (hzs:z.cells.size = k) (hk:0 < k)
 (h:RowK e k cv nest N K wr pv ps) (hN:N ≤ wr.heap.size) (p:α) (hn:Dep wr (fun b => K b ∧ pv.ownBlock ≠ some b) (nest p)) (hs:a.eval s = pv) (hx:a.eval x = .slice (some ⟨wr.heap.size,0,none⟩) 1 1)
 (hlen:(cv p).length = k) (h1:∀ u ∈ cv p,u.oneCell' = true) (h63:ps.length + 1 ≤ maxLen) (hbytes:(ps.length + 1) * bytes ≤ 140737488355328)
 (hK:∀ v' w',Added e k cv nest N K wr pv (ps ++ [p]) v' w' → J (a.put o.dst v') w'):if Region.wanted o (yielded ops a.tmps) = true then Oper.wp P o a (wr.alloc (.cells (cv p).toArray e)).drew J Q else E:=by
 have hrow:=own_keep h.own ((KitC.below_one wr (.cells (cv p).toArray e)).drew)
 refine step_append_lies _ hgd s x t ho N e i z k bytes ht hi hz hsize hby hzs hk pv ps.length (ps.flatMap cv) hs hrow ⟨wr.heap.size,0,none⟩ 1 1 (cv p) hx (by simp [hlen]) (World.news_of_block (cs:=(cv p).toArray) (t:=e) (fr:=(0,0)) (heap_alloc_new wr _)) h1 (by decide) h63 hbytes (by show N ≤ (wr.alloc (.cells (cv p).toArray e)).heap.size; rw [World.size_alloc]; omega) (wr.heap.size + 1) (by show (wr.alloc (.cells (cv p).toArray e)).heap.size = _; rw [World.size_alloc]) ?_
 intro g cap w' hr hg hob _
 refine hK _ w' (h.added (o:=.cells (cv p).toArray e) hn hr ⟨hg.os,hg.tape,hg.output,hg.size,hg.block⟩ ?_)
 rcases hob with e' | e'
 ·exact .inl (by rw [e']; rfl)
 ·exact .inr (by rw [e',World.size_alloc]; rfl)
end
end Go.Proofs.YtckojimeglkobaaGreatDoor