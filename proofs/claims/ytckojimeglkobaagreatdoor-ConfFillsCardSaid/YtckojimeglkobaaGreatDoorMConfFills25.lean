/- ShapeRefMay, ActRefCheck, joined. -/
import Derived.Test.YtckojimeglkobaaGreatDoorMConfFills05
import Derived.Test.YtckojimeglkobaaGreatDoorMConfFills10
namespace Go.Proofs.YtckojimeglkobaaGreatDoor
open Go.RowKit ShapeSpec
set_option maxRecDepth 100000
theorem good_first {l:List Sh} (h1:1 ≤ kind l 0) (h2:kind l 0 ≤ 3) (hp:par l 0 = -1):goodB l 0 = true:=by
 rw [good_hang h1 h2,hang_zero,decide_eq_true hp]
theorem good_neg {l:List Sh} {i:Nat} (h0:i ≠ 0) (h:par l i < 0):goodB l i = false:=by
 unfold goodB
 rw [hang_neg h0 h]
 simp
theorem good_far {l:List Sh} {i:Nat} (h0:i ≠ 0) (h:(i:Int) ≤ par l i):goodB l i = false:=by
 unfold goodB hangB
 rw [if_neg h0,decide_eq_false (show ¬ par l i < i by omega)]
 simp
theorem good_leaf {l:List Sh} {i q:Nat} (h0:i ≠ 0) (h:par l i = q) (hk:kind l q = 1):goodB l i = false:=by
 unfold goodB hangB
 rw [if_neg h0,h,show ((q:Nat):Int).toNat = q from rfl,decide_eq_false (show ¬ kind l q ≠ 1 by simpa using hk)]
 simp
theorem good_off {l:List Sh} {i q:Nat} (h0:i ≠ 0) (h:par l i = q) (hm:q ≠ i - 1) (hu:decide ((q:Int) ∈ upI l (i - 1)) = false):goodB l i = false:=by
 have:q ∉ sf l (i - 1):=fun hs => by
  have:=upI_mem.2 (sf_up hs hm)
  simp [this] at hu
 unfold goodB
 rw [hang_off h0 h this]
 simp
theorem good_on {l:List Sh} {i q:Nat} (h1:1 ≤ kind l i) (h2:kind l i ≤ 3) (h0:i ≠ 0) (h:par l i = q) (hk:¬ kind l q = 1) (hm:q ∈ sf l (i - 1)):goodB l i = true:=by
 rw [good_hang h1 h2,hang_at h0 h hm,decide_eq_true hk]
theorem sf_of_upI {l:List Sh} {i q:Nat} (hu:decide ((q:Int) ∈ upI l i) = true):q ∈ sf l i:=up_in (upI_mem.1 (of_decide_eq_true hu))
theorem root_not {l:List Sh} (h:par l 0 ≠ -1):standB l = false:=by
 cases hs:standB l with
 | false => rfl
 | true => exact absurd ((stand_su hs).2.root (stand_su hs).1) h
def RMayQ (W:World) (l:List Sh) (n:Nat) (v:Value) (wr:World):Prop:=∃ k:Nat,v = .int .i64 k ∧ k ≤ n ∧ SU l k ∧ Below W.heap.size W wr
set_option maxRecDepth 100000 in
set_option maxHeartbeats 8000000 in
theorem shrmay_any (A:Option Addr) (n c:Nat) (l:List Sh) (w:World) (h:Sts w (.slice A n c) l) (hm:n ≤ 1000000) :
 Calls Tryz.prog 72 #[.slice A n c] w (RetB w (standB l)):=by
 have hn:=h.len
 rcases Nat.eq_zero_or_pos n with hz | hz
 ·subst hz
  have HR:Hid (standB l = false):=Lib.hid (by cases l with | nil => rfl | cons => simp at hn)
  clear h hn
  go_enter Tryz.func72,Tryz.ntmps72
  go_wp2_with fail
  go_ret
  exact ⟨ret_bool HR.out.symm,Below.refl _ _⟩
 have HT:=Lib.hid h
 have HN:=Lib.hid hn
 obtain ⟨b,off,rfl,hb,k1,k2⟩:=h.at_ hz
 have HF:=Lib.hid (fun i (hi:i < l.length) (hg:goodB l i = false) => stand_not hi hg)
 have HO:=Lib.hid (fun (h0:0 < l.length) (hs:SU l l.length) => stand_of h0 hs)
 have HRT:=Lib.hid (fun h => root_not (l:=l) h)
 obtain ⟨r,hr⟩:∃ r,r = standB l:=⟨_,rfl⟩
 rw [← hr] at HF HO HRT ⊢
 obtain ⟨p0,hp0⟩:∃ p0,p0 = par l 0:=⟨_,rfl⟩
 rw [← hp0] at k2 HRT
 have k2':w.cell? ⟨b,off + 2,none⟩ = some (.int .i64 p0):=by simpa using k2
 have HP0:=Lib.hid hp0
 have HAb:=Lib.hid (fun w' m a h hs ha hmn => rabove_any (some ⟨b,off,none⟩) n c m l a w' h hs ha hmn hm)
 have d0:decide ((n:Int) < 1) = false:=decide_eq_false (by omega)
 have hzI:(0:Int) < n:=by omega
 have HULL:Hid (∀ a:Nat,(upI l a).length ≤ a):=Lib.hid (fun a => by rw [upI_length]; exact up_length_le l a)
 clear h hn hr hp0 k1 k2
 by_cases hpp:p0 = -1
 case neg =>
  have g1:(p0 != -1) = true:=by simpa using hpp
  have HR:Hid (r = false):=Lib.hid (HRT.out hpp)
  clear hpp
  go_enter Tryz.func72,Tryz.ntmps72
  go_wp2_with fail
  go_ret
  exact ⟨ret_bool HR.out.symm,Below.refl _ _⟩
 have HPP:Hid (par l 0 = -1):=Lib.hid (by rw [← HP0.out]; exact hpp)
 have g1:(p0 != -1) = false:=by simpa using hpp
 clear hpp
 go_enter Tryz.func72,Tryz.ntmps72
 go_wp2_with fail
 clear k2' g1
 go_loopw [3] (fun v wr => RMayQ w l n v wr) (fun v _ => n - (intOf v).toNat)
 case atStart => exact ⟨0,rfl,Nat.zero_le _,SU.zero l,Below.refl _ _⟩
 case round =>
  obtain ⟨k,rfl,hk,hsu,hbw⟩:=hrel
  have HSU:=Lib.hid hsu
  have HBW:=Lib.hid hbw
  have HT1:=Lib.hid (HT.out.keep hbw)
  clear hsu hbw
  by_cases hlt:k < n
  case neg =>
   obtain rfl:k = n:=by omega
   have HR:Hid (r = true):=Lib.hid (HO.out (by rw [← HN.out]; exact hz) (by rw [← HN.out]; exact HSU.out))
   go_wp2_with fail
   go_ret
   exact ⟨ret_bool HR.out.symm,HBW.out⟩
  have hltI:(k:Int) < n:=by omega
  obtain ⟨_,_,heq,hb1,c1,c2⟩:=HT1.out.at_ hlt
  cases heq
  have hkl:k < l.length:=by rw [← HN.out]; exact hlt
  obtain ⟨kd,hkd⟩:∃ kd,kd = kind l k:=⟨_,rfl⟩
  obtain ⟨pk,hpk⟩:∃ pk,pk = par l k:=⟨_,rfl⟩
  rw [← hkd] at c1
  rw [← hpk] at c2
  have HK:=Lib.hid hkd
  have HP:=Lib.hid hpk
  clear hkd hpk
  by_cases h1:kd < 1
  ·have HR:Hid (r = false):=Lib.hid (HF.out k hkl (good_kind (.inl (by rw [← HK.out]; exact h1))))
   have g1:decide (kd < 1) = true:=decide_eq_true h1
   go_wp2_with fail
   go_ret
   exact ⟨ret_bool HR.out.symm,HBW.out⟩
  by_cases h3:3 < kd
  ·have HR:Hid (r = false):=Lib.hid (HF.out k hkl (good_kind (.inr (by rw [← HK.out]; exact h3))))
   have g1:decide (kd < 1) = false:=decide_eq_false h1
   have g3:decide (3 < kd) = true:=decide_eq_true h3
   go_wp2_with fail
   go_ret
   exact ⟨ret_bool HR.out.symm,HBW.out⟩
  have g1:decide (kd < 1) = false:=decide_eq_false h1
  have g3:decide (3 < kd) = false:=decide_eq_false h3
  rcases Nat.eq_zero_or_pos k with hk0 | hk0
  ·subst hk0
   have HG:=Lib.hid (HSU.out.next (good_first (by rw [← HK.out]; omega) (by rw [← HK.out]; omega) HPP.out))
   have c1':wr.cell? ⟨b,off + 1,none⟩ = some (.int .i64 kd):=by simpa using c1
   clear h1 h3 c1 c2
   go_wp2_with fail
   go_roundw
   case rel => exact ⟨1,rfl,by omega,HG.out,HBW.out⟩
   case measure => simp [intOf]; omega
  have hk0':k ≠ 0:=by omega
  have g0:((k:Int) == 0) = false:=by simp; omega
  have g0':(k == 0) = false:=by simp; omega
  by_cases hneg:pk < 0
  ·have HR:Hid (r = false):=Lib.hid (HF.out k hkl (good_neg hk0' (by rw [← HP.out]; exact hneg)))
   have g4:decide (pk < 0) = true:=decide_eq_true hneg
   clear hk0' h1 h3
   go_wp2_with fail
   go_ret
   exact ⟨ret_bool HR.out.symm,HBW.out⟩
  obtain ⟨q,rfl⟩:=Int.eq_ofNat_of_zero_le (Int.not_lt.1 hneg)
  have g4:decide ((q:Int) < 0) = false:=decide_eq_false (by omega)
  by_cases hfar:k ≤ q
  ·have HR:Hid (r = false):=Lib.hid (HF.out k hkl (good_far hk0' (by rw [← HP.out]; omega)))
   have g5:decide (k ≤ q) = true:=decide_eq_true hfar
   clear hk0' h1 h3
   go_wp2_with fail
   go_ret
   exact ⟨ret_bool HR.out.symm,HBW.out⟩
  have g5:decide (k ≤ q) = false:=decide_eq_false hfar
  have hqn:q < n:=by omega
  have hqnI:(q:Int) < n:=by omega
  obtain ⟨_,_,heq,hb2,e1,-⟩:=HT1.out.at_ hqn
  cases heq
  obtain ⟨kq,hkq⟩:∃ kq,kq = kind l q:=⟨_,rfl⟩
  rw [← hkq] at e1
  have HKQ:=Lib.hid hkq
  clear hkq
  by_cases hleaf:kq = 1
  ·have HR:Hid (r = false):=Lib.hid (HF.out k hkl (good_leaf hk0' HP.out.symm (by rw [← HKQ.out]; exact hleaf)))
   have g6:(kq == 1) = true:=by simpa using hleaf
   clear hk0' h1 h3 hleaf
   go_wp2_with fail
   go_ret
   exact ⟨ret_bool HR.out.symm,HBW.out⟩
  have g6:(kq == 1) = false:=by simpa using hleaf
  have hk1:1 ≤ (k:Int):=by omega
  have HON:=Lib.hid (fun hm => good_on (l:=l) (i:=k) (q:=q) (by rw [← HK.out]; omega) (by rw [← HK.out]; omega) hk0' HP.out.symm (by rw [← HKQ.out]; exact hleaf) hm)
  have HOF:=Lib.hid (fun hm hu => good_off (l:=l) (i:=k) (q:=q) hk0' HP.out.symm hm hu)
  by_cases hlast:q = k - 1
  ·have HG:=Lib.hid (HSU.out.next (HON.out (by rw [hlast]; exact sf_self _ _)))
   have g7:((q:Int) != (k:Int) - 1) = false:=by simp; omega
   clear hk0' h1 h3 hleaf hlast
   go_wp2_with fail
   go_roundw
   case rel => exact ⟨k + 1,by simp,by omega,HG.out,HBW.out⟩
   case measure => simp [intOf]; omega
  have g7:((q:Int) != (k:Int) - 1) = true:=by simp; omega
  have HA1:=Lib.hid (HAb.out wr k (k - 1) HT1.out HSU.out (by omega) (by omega))
  have hsub:((k - 1:Nat):Int) = (k:Int) - 1:=by omega
  rw [hsub] at HA1
  have HIN:Hid (∀ v w',Rd w' v (intV (upI l (k - 1))) → Calls Tryz.prog 37 #[v,.int .i64 q] w' (SameB w' (decide ((q:Int) ∈ upI l (k - 1))))):=Lib.hid (fun v w' h => rin_any v _ q w' h (by have:=HULL.out (k - 1); omega))
  cases hd:decide ((q:Int) ∈ upI l (k - 1)) with
  | true =>
    have HG:=Lib.hid (HSU.out.next (HON.out (sf_of_upI hd)))
    rw [hd] at HIN
    clear hk0' h1 h3 hleaf hlast hd hsub
    go_wp2_with (go_at_call 73; (with_reducible refine HA1.out.mono ?_))
    rintro e w1 ⟨v,rfl,hrd,hb3⟩
    have HI1:=Lib.hid (HIN.out _ _ hrd)
    have HB3:=Lib.hid (below_two' HBW.out hb3)
    clear hrd hb3
    go_wp2_with (go_at_call 37; (with_reducible refine HI1.out.mono ?_); rintro e w' ⟨rfl,rfl⟩)
    go_roundw
    case rel => exact ⟨k + 1,by simp,by omega,HG.out,HB3.out⟩
    case measure => simp [intOf]; omega
  | false =>
    have HR:Hid (r = false):=Lib.hid (HF.out k hkl (HOF.out hlast hd))
    rw [hd] at HIN
    clear hk0' h1 h3 hleaf hlast hd hsub
    go_wp2_with (go_at_call 73; (with_reducible refine HA1.out.mono ?_))
    rintro e w1 ⟨v,rfl,hrd,hb3⟩
    have HI1:=Lib.hid (HIN.out _ _ hrd)
    have HB3:=Lib.hid (below_two' HBW.out hb3)
    clear hrd hb3
    go_wp2_with (go_at_call 37; (with_reducible refine HI1.out.mono ?_); rintro e w' ⟨rfl,rfl⟩)
    go_ret
    exact ⟨ret_bool HR.out.symm,HB3.out⟩
def RDeepQ (W:World) (l:List Sh) (n:Nat) (v:Value) (wr:World):Prop:=∃ k:Nat,k ≤ n ∧ v = .int .i64 k ∧ (∀ i,i < k → ¬ 11 < (up l i).length) ∧ Below W.heap.size W wr
set_option maxHeartbeats 4000000 in
theorem rshcheck_any (A:Option Addr) (n c:Nat) (l:List Sh) (w:World) (h:Sts w (.slice A n c) l) (hm:n ≤ 9223372036854775807) :
 Calls Tryz.prog 52 #[.slice A n c] w (RetI w (chk l)):=by
 have hn:=h.len
 by_cases h60:60 < n
 ·have HR:Hid (chk l = 8):=Lib.hid (shchk_full (by omega))
  have h60':(60:Int) < n:=by omega
  clear h hn
  go_enter Tryz.func52,Tryz.ntmps52
  go_wp2_with fail
  go_ret
  exact ⟨ret_int HR.out.symm,Below.refl _ _⟩
 ·have h60':¬ (60:Int) < n:=by omega
  have HST:=Lib.hid (shrmay_any A n c l w h (by omega))
  have HA:Hid (standB l = false → chk l = 1):=Lib.hid (chk_arg (by omega))
  have HD:Hid (standB l = true → chk l = if deepB l = true then 6 else 0):=Lib.hid (chk_deep (by omega))
  cases hs:standB l with
  | false =>
    rw [hs] at HST
    have HR:Hid (chk l = 1):=Lib.hid (HA.out hs)
    clear h hn HA HD hs
    go_enter Tryz.func52,Tryz.ntmps52
    go_wp2_with (go_at_call 72; (with_reducible refine HST.out.mono ?_))
    rintro e w1 ⟨rfl,hb⟩
    go_wp2_with fail
    go_ret
    exact ⟨ret_int HR.out.symm,hb⟩
  | true =>
    rw [hs] at HST
    have HSU:Hid (SU l n):=Lib.hid (by rw [hn]; exact (stand_su hs).2)
    have HR:Hid (chk l = if deepB l = true then 6 else 0):=Lib.hid (HD.out hs)
    have HT:=Lib.hid h
    have HN:=Lib.hid hn
    clear h hn HA HD hs
    go_enter Tryz.func52,Tryz.ntmps52
    go_wp2_with (go_at_call 72; (with_reducible refine HST.out.mono ?_))
    rintro e w1 ⟨rfl,hb⟩
    have HB:=Lib.hid hb
    clear hb
    go_wp2_with fail
    go_loopw [3] (fun v wr => RDeepQ w l n v wr) (fun v _ => n - (intOf v).toNat)
    case atStart => exact ⟨0,Nat.zero_le _,rfl,fun i hi => absurd hi (by omega),HB.out⟩
    case round =>
     obtain ⟨k,hk,rfl,hq,hbw⟩:=hrel
     have HQ:=Lib.hid hq
     have HBW:=Lib.hid hbw
     clear hq hbw
     by_cases hlt:k < n
     ·have HAB:=Lib.hid (rabove_any A n c n l k wr (HT.out.keep HBW.out) HSU.out hlt (Nat.le_refl _) (by omega))
      have hul:=up_length_le l k
      have hltI:(k:Int) < n:=by omega
      have HUL:=Lib.hid (upI_length l k)
      obtain ⟨us,hus⟩:∃ us,us = upI l k:=⟨_,rfl⟩
      rw [← hus] at HAB HUL
      clear hus
      go_wp2_with (go_at_call 73; (with_reducible refine HAB.out.mono ?_))
      rintro e w2 ⟨v,rfl,hrd,hb2⟩
      obtain ⟨A2,n2,c2,rfl,hn2,-,-⟩:=hrd.ints
      have hul2:n2 ≤ k:=by rw [← hn2,HUL.out]; exact hul
      have HN2:Hid (n2 = (up l k).length):=Lib.hid (by rw [← hn2,HUL.out])
      have HB2:=Lib.hid (below_two' HBW.out hb2)
      clear hrd hn2 hb2
      by_cases hd:11 < n2
      ·have HX:Hid (chk l = 6):=Lib.hid (by rw [HR.out,if_pos (deep_not (by rw [← HN.out]; exact hlt) (by rw [← HN2.out]; exact hd))])
       have hd1:(11:Int) < n2:=by omega
       go_wp2_with fail
       go_ret
       exact ⟨ret_int HX.out.symm,HB2.out⟩
      ·have hd1:¬ (11:Int) < n2:=by omega
       go_wp2_with fail
       go_roundw
       case rel => exact ⟨k + 1,by omega,by simp,fun i hi => by
        by_cases e:i = k
        ·rw [e,← HN2.out]; exact hd
        ·exact HQ.out i (by omega),HB2.out⟩
       case measure => simp [intOf]; omega
     ·obtain rfl:k = n:=by omega
      have HX:Hid (chk l = 0):=Lib.hid (by rw [HR.out,if_neg (by rw [deep_of (fun i hi => HQ.out i (by rw [HN.out]; exact hi))]; simp)])
      go_wp2_with fail
      go_ret
      exact ⟨ret_int HX.out.symm,HBW.out⟩
end Go.Proofs.YtckojimeglkobaaGreatDoor
namespace Go.Proofs.YtckojimeglkobaaGreatDoor
open Go.RowKit TermSpec EvalSpec ActSpec NamesSpec
set_option maxRecDepth 100000
def RChkRel (W:World) (l:List Ac) (n:Nat) (i:Value) (wr:World):Prop:=∃ k:Nat,k ≤ n ∧ i = .int .i64 k ∧ firstA (l.take k) = 0 ∧ Below W.heap.size W wr
set_option maxHeartbeats 1000000 in
theorem rcheck_acts (A:Option Addr) (n c:Nat) (l:List Ac) (hs:∀ a ∈ l,SmallA a) (hl:l.length ≤ 9223372036854775807) (w:World) (h:Acs w (.slice A n c) l) :
 Calls Tryz.prog 54 #[.slice A n c] w (RetI w (chkA l)):=by
 have hn:=h.len.1
 have hcap:=h.len.2
 have HN:=Lib.hid hn
 have HT:=Lib.hid h
 have HS:=Lib.hid hs
 obtain ⟨r,hr⟩:∃ r,r = chkA l:=⟨_,rfl⟩
 rw [← hr]
 by_cases h8:8 < n
 ·have HR:Hid (r = 8):=Lib.hid (by rw [hr]; unfold chkA; rw [if_pos (by omega)])
  have g:decide (8 < n) = true:=by simp; omega
  have h8':8 < (n:Int):=by omega
  clear hn h hs hr hl
  go_enter Tryz.func54,Tryz.ntmps54
  go_wp2_with fail
  go_ret
  exact ⟨ret_int HR.out.symm,Below.refl _ _⟩
 ·have HR:Hid (r = firstA l):=Lib.hid (by rw [hr]; unfold chkA; rw [if_neg (by omega)])
  have h8':¬ 8 < (n:Int):=by omega
  clear hn h hs hr hl
  go_enter Tryz.func54,Tryz.ntmps54
  go_wp2_with fail
  go_loopw [3] (fun i wr => RChkRel w l n i wr) (fun i _ => n - (intOf i).toNat)
  case atStart => exact ⟨0,Nat.zero_le _,rfl,rfl,Below.refl _ _⟩
  case round =>
   obtain ⟨k,hk,rfl,hall,hbw⟩:=hrel
   have HA:=Lib.hid hall
   have HB:=Lib.hid hbw
   clear hall hbw
   by_cases hlt:k < n
   ·obtain ⟨a,ha⟩:∃ a,l[k]? = some a:=get_some (by rw [← HN.out]; exact hlt)
    obtain ⟨b,off,xA,xn,xc,rfl,hb,htm,c0,c1,c2⟩:=(HT.out.keep HB.out).at_ ha
    have HC:=Lib.hid (rone_act a xA xn xc (HS.out a (List.mem_of_getElem? ha)) wr htm)
    have HNX:=Lib.hid (fun h1 => firstA_next ha HA.out h1)
    have HST:=Lib.hid (fun h1 => firstA_stop ha HA.out h1)
    obtain ⟨q,hq⟩:∃ q,q = oneA a:=⟨_,rfl⟩
    rw [← hq] at HC HNX HST
    have hkI:(k:Int) < n:=by omega
    clear ha hq htm
    obtain ⟨s,any,x⟩:=a
    simp only at c0 c1 c2 HC
    by_cases hq0:q = 0
    ·have HNX':=Lib.hid (HNX.out hq0)
     have g:(q != 0) = false:=by simp [hq0]
     clear HNX HST hq0
     go_wp2_with (go_at_call 74; (with_reducible refine HC.out.mono ?_))
     rintro e2 w2 ⟨rfl,hb2⟩
     have HB2:=Lib.hid (below_two' HB.out hb2)
     clear hb2
     go_wp2_with fail
     go_roundw
     case rel => exact ⟨k + 1,by omega,by go_num,HNX'.out,HB2.out⟩
     case measure => simp [intOf]; omega
    ·have HST':=Lib.hid (HST.out hq0)
     have g:(q != 0) = true:=by simp [hq0]
     clear HNX HST hq0
     go_wp2_with (go_at_call 74; (with_reducible refine HC.out.mono ?_))
     rintro e2 w2 ⟨rfl,hb2⟩
     have HB2:=Lib.hid (below_two' HB.out hb2)
     clear hb2
     go_wp2_with fail
     go_ret
     exact ⟨ret_int (by rw [HR.out,HST'.out]),HB2.out⟩
   ·have HE:Hid (firstA l = 0):=Lib.hid (by
     have h1:=HN.out
     have h2:=HA.out
     rwa [List.take_of_length_le (by omega)] at h2)
    go_wp2_with fail
    go_ret
    exact ⟨ret_int (by rw [HR.out,HE.out]),HB.out⟩
end Go.Proofs.YtckojimeglkobaaGreatDoor