/- ShapeProg, ShapeTell, ShapeRef, ShapeRefTell, PrintIn, ShapeRefMay, ActRefCheck, TransRefCheck, PrintMay, ActCheck, joined. -/
import Derived.Test.YtjfghaohogcfbaaGreatDoorMFormatSame22
import Derived.Deep.RegionHeld3
import Derived.Test.YtjfghaohogcfbaaGreatDoorMFormatSame23
import Derived.Test.YtjfghaohogcfbaaGreatDoorMFormatSame16
import Derived.Test.YtjfghaohogcfbaaGreatDoorMFormatSame04
namespace Go.Proofs.YtjfghaohogcfbaaGreatDoor
open Go.RowKit ShapeSpec
set_option maxRecDepth 100000
def AtUp (n:Nat) (i:Value) (Q:Int → Prop):Prop:=∃ j:Int,i = .int .i64 j ∧ j < n ∧ Q j
def DepQ (l:List Sh) (d:Nat) (v:Value) (j:Int):Prop:=∃ k:Nat,v = .int .i64 k ∧ ((0 ≤ j ∧ k + (up l j.toNat).length + 1 = d) ∨ (j = -1 ∧ k = d))
theorem depQ_bd {l:List Sh} {d k:Nat} {j:Int} (h:(0 ≤ j ∧ k + (up l j.toNat).length + 1 = d) ∨ (j = -1 ∧ k = d)):k ≤ d:=by omega
theorem depQ_next {l:List Sh} {n d k j:Nat} (hs:SU l n) (hj:j < n) (h:k + (up l j).length + 1 = d):par l j < n ∧ par l j < j ∧ DepQ l d (.int .i64 ((k:Int) + 1)) (par l j):=by
 rcases Nat.eq_zero_or_pos j with h0 | h0
 ·subst h0
  have hr:=hs.root hj
  rw [show up l 0 = [] from rfl] at h
  rw [hr]
  exact ⟨by omega,by omega,k + 1,by simp,.inr ⟨rfl,by simpa using h⟩⟩
 ·obtain ⟨p,hp,hlt,hup,_⟩:=hs.parn hj h0
  rw [hp]
  rw [hup,sf,List.length_cons] at h
  exact ⟨by omega,by omega,k + 1,by simp,.inl ⟨by omega,by simp; omega⟩⟩
set_option maxHeartbeats 1000000 in
theorem shdepth_any (A:Option Addr) (n c:Nat) (l:List Sh) (i:Nat) (w:World) (h:Sts w (.slice A n c) l) (hs:SU l n) (hi:i < n) (hm:n ≤ 1000000) :
 Calls Tryz.prog 142 #[.slice A n c,.int .i64 i] w (SameI w ((up l i).length + 1:Nat)):=by
 have HT:=Lib.hid h
 have HS:=Lib.hid hs
 have hul:=up_length_le l i
 obtain ⟨d,hd⟩:∃ d,d = (up l i).length + 1:=⟨_,rfl⟩
 rw [← hd]
 have hdm:d ≤ 1000001:=by omega
 have HD:=Lib.hid hd
 clear h hs hd hul
 go_enter Tryz.func142,Tryz.ntmps142
 go_wp2_with fail
 go_loop [1,5] (fun i v => AtUp n i (DepQ l d v)) (fun i _ => (intOf i + 1).toNat)
 case atStart => exact ⟨i,rfl,by omega,0,rfl,.inl ⟨by omega,by rw [HD.out]; simp⟩⟩
 case round =>
  obtain ⟨j,rfl,hj,k,rfl,hq⟩:=hrel
  have hk:=depQ_bd hq
  rcases hq with ⟨h0,hq⟩ | ⟨rfl,hq⟩
  ·obtain ⟨j,rfl⟩:=Int.eq_ofNat_of_zero_le h0
   obtain ⟨b,off,rfl,hb,c1,c2⟩:=HT.out.at_ (i:=j) (by omega)
   obtain ⟨hp1,hp2,hp3⟩:=depQ_next (j:=j) HS.out (by omega) hq
   have HP:=Lib.hid hp3
   obtain ⟨p,hp⟩:∃ p,p = par l j:=⟨_,rfl⟩
   rw [← hp] at c2 hp1 hp2 HP
   clear hq hp hp3 c1
   go_wp2_with fail
   go_round
   case rel => exact ⟨p,rfl,hp1,HP.out⟩
   case measure => simp [intOf]; omega
  ·subst hq
   go_wp2_with fail
   go_ret
   exact ⟨rfl,rfl⟩
def HangQ (l:List Sh) (i q:Nat) (v:Value):Prop:=∃ j:Nat,v = .int .i64 j ∧ j < i ∧ (q ∈ sf l (i - 1) ↔ q ∈ sf l j)
theorem hangQ_next {l:List Sh} {n i j q:Nat} (hs:SU l n) (hi:i ≤ n) (hj:j < i) (hq:q < j) (h:q ∈ sf l (i - 1) ↔ q ∈ sf l j):0 ≤ par l j ∧ par l j < j ∧ HangQ l i q (.int .i64 (par l j)):=by
 obtain ⟨p,hp,hlt,hup,_⟩:=hs.parn (show j < n by omega) (by omega)
 rw [hp]
 refine ⟨by omega,by omega,p,rfl,by omega,h.trans ?_⟩
 rw [← hup]
 exact ⟨fun hm => sf_up hm (by omega),up_in⟩
theorem hang_zero {l:List Sh}:hangB l 0 = decide (par l 0 = -1):=rfl
theorem hang_neg {l:List Sh} {i:Nat} (h0:i ≠ 0) (h:par l i < 0):hangB l i = false:=by
 unfold hangB
 rw [if_neg h0,decide_eq_false (show ¬ 0 ≤ par l i by omega)]
 rfl
theorem hang_at {l:List Sh} {i q:Nat} (h0:i ≠ 0) (h:par l i = q) (hm:q ∈ sf l (i - 1)):hangB l i = decide (kind l q ≠ 1):=by
 have:=sf_le hm
 unfold hangB
 rw [if_neg h0,h,decide_eq_true (show (0:Int) ≤ q by omega),decide_eq_true (show (q:Int) < i by omega),show ((q:Nat):Int).toNat = q from rfl,decide_eq_true hm]
 simp
theorem hang_off {l:List Sh} {i q:Nat} (h0:i ≠ 0) (h:par l i = q) (hm:q ∉ sf l (i - 1)):hangB l i = false:=by
 unfold hangB
 rw [if_neg h0,h,show ((q:Nat):Int).toNat = q from rfl,decide_eq_false hm]
 simp
set_option maxHeartbeats 2000000 in
theorem hangs_any (A:Option Addr) (n c:Nat) (l:List Sh) (i:Nat) (w:World) (h:Sts w (.slice A n c) l) (hs:SU l i) (hi:i < n) (hm:n ≤ 1000000) :
 Calls Tryz.prog 169 #[.slice A n c,.int .i64 i] w (SameB w (hangB l i)):=by
 have HT:=Lib.hid h
 have HS:=Lib.hid hs
 obtain ⟨b,off,rfl,hb,c1,c2⟩:=h.at_ hi
 clear h hs c1
 obtain ⟨p,hp⟩:∃ p,p = par l i:=⟨_,rfl⟩
 rw [← hp] at c2
 have HP:=Lib.hid hp
 clear hp
 rcases Nat.eq_zero_or_pos i with h0 | h0
 ·subst h0
  have HH:Hid (hangB l 0 = decide (p = -1)):=Lib.hid (by rw [hang_zero,← HP.out])
  obtain ⟨r,hr⟩:∃ r,r = hangB l 0:=⟨_,rfl⟩
  rw [← hr] at HH ⊢
  clear hr
  have c2':w.cell? ⟨b,off + 2,none⟩ = some (.int .i64 p):=by simpa using c2
  clear c2
  by_cases hpp:p = -1
  ·have g1:(p == -1) = true:=by simpa using hpp
   have HR:Hid (r = true):=Lib.hid (by rw [HH.out]; simpa using hpp)
   clear hpp
   go_enter Tryz.func169,Tryz.ntmps169
   go_wp2_with fail
   go_ret
   exact ⟨ret_bool HR.out.symm,rfl⟩
  ·have g1:(p == -1) = false:=by simpa using hpp
   have HR:Hid (r = false):=Lib.hid (by rw [HH.out]; simpa using hpp)
   clear hpp
   go_enter Tryz.func169,Tryz.ntmps169
   go_wp2_with fail
   go_ret
   exact ⟨ret_bool HR.out.symm,rfl⟩
 ·have h0':i ≠ 0:=by omega
  have g0:((i:Int) == 0) = false:=by simp; omega
  by_cases hneg:p < 0
  ·have HR:Hid (hangB l i = false):=Lib.hid (hang_neg h0' (by rw [← HP.out]; exact hneg))
   clear h0'
   go_enter Tryz.func169,Tryz.ntmps169
   go_wp2_with fail
   go_ret
   exact ⟨ret_bool HR.out.symm,rfl⟩
  ·obtain ⟨q,rfl⟩:=Int.eq_ofNat_of_zero_le (Int.not_lt.1 hneg)
   have HA:Hid (q ∈ sf l (i - 1) → hangB l i = decide (kind l q ≠ 1)):=Lib.hid (hang_at h0' HP.out.symm)
   have HO:Hid (q ∉ sf l (i - 1) → hangB l i = false):=Lib.hid (hang_off h0' HP.out.symm)
   obtain ⟨r,hr⟩:∃ r,r = hangB l i:=⟨_,rfl⟩
   rw [← hr] at HA HO ⊢
   have hi1:1 ≤ (i:Int):=by omega
   clear hneg hr h0' h0
   go_enter Tryz.func169,Tryz.ntmps169
   go_wp2_with fail
   go_loop [6] (fun v => HangQ l i q v) (fun v => (intOf v).toNat)
   case atStart => exact ⟨i - 1,by congr 1; omega,by omega,Iff.rfl⟩
   case round =>
    obtain ⟨j,rfl,hj,hiff⟩:=hrel
    have HI:=Lib.hid hiff
    clear hiff
    rcases Nat.lt_trichotomy j q with hlt | heq | hgt
    ·have HR:Hid (r = false):=Lib.hid (HO.out (fun hm => by have:=sf_le (HI.out.1 hm); omega))
     have g1:((j:Int) == (q:Int)) = false:=by simp; omega
     have g2:(j == q) = false:=by simp; omega
     have g3:decide (q < j) = false:=decide_eq_false (by omega)
     go_wp2_with fail
     go_ret
     exact ⟨ret_bool HR.out.symm,rfl⟩
    ·subst heq
     obtain ⟨_,_,heq,_,c1,_⟩:=HT.out.at_ (i:=j) (by omega)
     cases heq
     have HR:Hid (r = decide (kind l j ≠ 1)):=Lib.hid (HA.out (HI.out.2 (sf_self _ _)))
     obtain ⟨kd,hkd⟩:∃ kd,kd = kind l j:=⟨_,rfl⟩
     rw [← hkd] at HR c1
     have hji:(j:Int) < n:=by omega
     have hjn:j < n:=by omega
     clear hkd
     by_cases hk1:kd = 1
     ·have g1:(kd != 1) = false:=by simpa using hk1
      have HR2:Hid (r = false):=Lib.hid (by rw [HR.out]; simpa using hk1)
      clear hk1
      go_wp2_with fail
      go_ret
      exact ⟨ret_bool HR2.out.symm,rfl⟩
     ·have g1:(kd != 1) = true:=by simpa using hk1
      have HR2:Hid (r = true):=Lib.hid (by rw [HR.out]; simpa using hk1)
      clear hk1
      go_wp2_with fail
      go_ret
      exact ⟨ret_bool HR2.out.symm,rfl⟩
    ·obtain ⟨_,_,heq,_,_,c2'⟩:=HT.out.at_ (i:=j) (by omega)
     cases heq
     obtain ⟨hp1,hp2,hp3⟩:=hangQ_next HS.out (Nat.le_refl _) hj hgt HI.out
     have HN:=Lib.hid hp3
     obtain ⟨p',hp'⟩:∃ p',p' = par l j:=⟨_,rfl⟩
     rw [← hp'] at c2' hp1 hp2 HN
     have hjn:j < n:=by omega
     clear hp' hp3
     go_wp2_with fail
     go_round
     case rel => exact HN.out
     case measure => simp [intOf]; omega
theorem good_kind {l:List Sh} {i:Nat} (h:kind l i < 1 ∨ 3 < kind l i):goodB l i = false:=by
 unfold goodB
 rcases h with h | h
 ·rw [decide_eq_false (show ¬ 1 ≤ kind l i by omega)]
  rfl
 ·rw [decide_eq_false (show ¬ kind l i ≤ 3 by omega)]
  simp
theorem good_hang {l:List Sh} {i:Nat} (h1:1 ≤ kind l i) (h2:kind l i ≤ 3):goodB l i = hangB l i:=by
 unfold goodB
 rw [decide_eq_true h1,decide_eq_true h2]
 rfl
def StandRel (W:World) (l:List Sh) (n:Nat) (v:Value) (wr:World):Prop:=∃ k:Nat,k ≤ n ∧ v = .int .i64 k ∧ SU l k ∧ Below W.heap.size W wr
set_option maxHeartbeats 4000000 in
theorem stand_any (A:Option Addr) (n c:Nat) (l:List Sh) (w:World) (h:Sts w (.slice A n c) l) (hm:n ≤ 1000000) :
 Calls Tryz.prog 141 #[.slice A n c] w (RetB w (standB l)):=by
 have HT:=Lib.hid h
 have HN:=Lib.hid h.len
 have HF:=Lib.hid (fun i (hi:i < l.length) (hg:goodB l i = false) => stand_not hi hg)
 have HO:=Lib.hid (fun (h0:0 < l.length) (hs:SU l l.length) => stand_of h0 hs)
 have HZ:Hid (l.length = 0 → standB l = false):=Lib.hid (fun e => by cases l with | nil => rfl | cons => simp at e)
 obtain ⟨r,hr⟩:∃ r,r = standB l:=⟨_,rfl⟩
 rw [← hr] at HF HO HZ ⊢
 clear h hr
 go_enter Tryz.func141,Tryz.ntmps141
 go_wp2_with fail
 go_loopw [7] (fun v wr => StandRel w l n v wr) (fun v _ => n - (intOf v).toNat)
 case atStart => exact ⟨0,Nat.zero_le _,rfl,SU.zero l,Below.refl _ _⟩
 case round =>
  obtain ⟨k,hk,rfl,hsu,hbw⟩:=hrel
  have HSU:=Lib.hid hsu
  have HBW:=Lib.hid hbw
  clear hsu hbw
  by_cases hlt:k < n
  ·have hltI:(k:Int) < n:=by omega
   have HT1:=Lib.hid (HT.out.keep HBW.out)
   obtain ⟨t,ht⟩:∃ t,l[k]? = some t:=get_some (by rw [← HN.out]; exact hlt)
   obtain ⟨b,off,s,a3,n3,c3,a4,n4,c4,a5,n5,c5,rfl,hb,c0,c1,c2,c3',c4',c5'⟩:=HT1.out.all ht
   have hkd:=kind_at ht
   obtain ⟨kd,hkd'⟩:∃ kd,kd = t.kind:=⟨_,rfl⟩
   rw [← hkd'] at hkd c1
   have HK:=Lib.hid hkd
   have HB1:Hid (∀ o:Obj,Below w.heap.size w (wr.alloc o)):=Lib.hid (fun o => HBW.out.alloc HBW.out.size o)
   have HHG:=Lib.hid (fun w1 h => hangs_any (some ⟨b,off,none⟩) n c l k w1 h HSU.out hlt hm)
   obtain ⟨q,hq⟩:∃ q,q = t.par:=⟨_,rfl⟩
   rw [← hq] at c2
   clear ht hkd hkd' hq
   rcases Int.lt_trichotomy kd 1 with h1 | h1 | h1
   ·have HR:Hid (r = false):=Lib.hid (HF.out k (by rw [← HN.out]; exact hlt) (good_kind (.inl (by rw [HK.out]; exact h1))))
    have g1:decide (kd < 1) = true:=decide_eq_true h1
    go_wp2_with fail
    go_ret
    exact ⟨ret_bool HR.out.symm,HB1.out _⟩
   all_goals
    by_cases h3:3 < kd
    ·first
      | (exfalso; omega)
      | (have HR:Hid (r = false):=Lib.hid (HF.out k (by rw [← HN.out]; exact hlt) (good_kind (.inr (by rw [HK.out]; exact h3))))
         have g1:decide (kd < 1) = false:=decide_eq_false (by omega)
         have g3:decide (3 < kd) = true:=decide_eq_true h3
         go_wp2_with fail
         go_ret
         exact ⟨ret_bool HR.out.symm,HB1.out _⟩)
    ·have HG:Hid (goodB l k = hangB l k):=Lib.hid (good_hang (by rw [HK.out]; omega) (by rw [HK.out]; omega))
     obtain ⟨g,hg⟩:∃ g,g = hangB l k:=⟨_,rfl⟩
     rw [← hg] at HG HHG
     have g1:decide (kd < 1) = false:=decide_eq_false (by omega)
     have g3:decide (3 < kd) = false:=decide_eq_false h3
     clear hg h1 h3
     have HTA:Hid (∀ o:Obj,Sts (wr.alloc o) (.slice (some ⟨b,off,none⟩) n c) l):=Lib.hid (fun o => HT1.out.alloc o)
     cases g with
     | true =>
       go_wp2_with (go_at_call 169; (with_reducible refine (HHG.out _ (HTA.out _)).mono ?_); rintro e w' ⟨rfl,rfl⟩)
       go_roundw
       case rel => exact ⟨k + 1,by omega,by simp,HSU.out.next HG.out,HB1.out _⟩
       case measure => simp [intOf]; omega
     | false =>
       have HR:Hid (r = false):=Lib.hid (HF.out k (by rw [← HN.out]; exact hlt) HG.out)
       go_wp2_with (go_at_call 169; (with_reducible refine (HHG.out _ (HTA.out _)).mono ?_); rintro e w' ⟨rfl,rfl⟩)
       go_ret
       exact ⟨ret_bool HR.out.symm,HB1.out _⟩
  ·obtain rfl:k = n:=by omega
   rcases Nat.eq_zero_or_pos k with h0 | h0
   ·subst h0
    have HR:Hid (r = false):=Lib.hid (HZ.out HN.out.symm)
    go_wp2_with fail
    go_ret
    exact ⟨ret_bool HR.out.symm,HBW.out⟩
   ·have HR:Hid (r = true):=Lib.hid (HO.out (by rw [← HN.out]; exact h0) (by rw [← HN.out]; exact HSU.out))
    have hkI:0 < (k:Int):=by omega
    go_wp2_with fail
    go_ret
    exact ⟨ret_bool HR.out.symm,HBW.out⟩
theorem deep_not {l:List Sh} {i:Nat} (hi:i < l.length) (h:11 < (up l i).length):deepB l = true:=by
 simp only [deepB,List.any_eq_true,List.mem_range,decide_eq_true_eq]
 exact ⟨i,hi,h⟩
theorem deep_of {l:List Sh} (h:∀ i,i < l.length → ¬ 11 < (up l i).length):deepB l = false:=by
 simp only [deepB,List.any_eq_false,List.mem_range,decide_eq_true_eq]
 exact h
theorem shchk_full {l:List Sh} (h:60 < l.length):chk l = 8:=if_pos h
theorem chk_arg {l:List Sh} (h:¬ 60 < l.length) (hs:standB l = false):chk l = 1:=by unfold chk; rw [if_neg h,if_pos hs]
theorem chk_deep {l:List Sh} (h:¬ 60 < l.length) (hs:standB l = true):chk l = if deepB l = true then 6 else 0:=by unfold chk; rw [if_neg h,if_neg (by simp [hs])]
def DeepQ (l:List Sh) (n:Nat) (v:Value):Prop:=∃ k:Nat,k ≤ n ∧ v = .int .i64 k ∧ ∀ i,i < k → ¬ 11 < (up l i).length
set_option maxHeartbeats 2000000 in
theorem shpcheck_any (A:Option Addr) (n c:Nat) (l:List Sh) (w:World) (h:Sts w (.slice A n c) l) (hm:n ≤ 9223372036854775807) :
 Calls Tryz.prog 107 #[.slice A n c] w (RetI w (chk l)):=by
 have hn:=h.len
 by_cases h60:60 < n
 ·have HR:Hid (chk l = 8):=Lib.hid (shchk_full (by omega))
  have h60':(60:Int) < n:=by omega
  clear h hn
  go_enter Tryz.func107,Tryz.ntmps107
  go_wp2_with fail
  go_ret
  exact ⟨ret_int HR.out.symm,Below.refl _ _⟩
 ·have h60':¬ (60:Int) < n:=by omega
  have HST:=Lib.hid (stand_any A n c l w h (by omega))
  have HA:Hid (standB l = false → chk l = 1):=Lib.hid (chk_arg (by omega))
  have HD:Hid (standB l = true → chk l = if deepB l = true then 6 else 0):=Lib.hid (chk_deep (by omega))
  cases hs:standB l with
  | false =>
    rw [hs] at HST
    have HR:Hid (chk l = 1):=Lib.hid (HA.out hs)
    clear h hn HA HD hs
    go_enter Tryz.func107,Tryz.ntmps107
    go_wp2_with (go_at_call 141; (with_reducible refine HST.out.mono ?_))
    rintro e w1 ⟨rfl,hb⟩
    go_wp2_with fail
    go_ret
    exact ⟨ret_int HR.out.symm,hb⟩
  | true =>
    rw [hs] at HST
    have HSU:Hid (SU l n):=Lib.hid (by rw [hn]; exact (stand_su hs).2)
    have HR:Hid (chk l = if deepB l = true then 6 else 0):=Lib.hid (HD.out hs)
    have HT:=Lib.hid h
    have HN:=Lib.hid hn
    clear h hn HA HD hs
    go_enter Tryz.func107,Tryz.ntmps107
    go_wp2_with (go_at_call 141; (with_reducible refine HST.out.mono ?_))
    rintro e w1 ⟨rfl,hb⟩
    have HT1:=Lib.hid (HT.out.keep hb)
    have HB:=Lib.hid hb
    clear hb
    go_wp2_with fail
    go_loop [12] (fun v => DeepQ l n v) (fun v => n - (intOf v).toNat)
    case atStart => exact ⟨0,Nat.zero_le _,rfl,fun i hi => absurd hi (by omega)⟩
    case round =>
     obtain ⟨k,hk,rfl,hq⟩:=hrel
     have HQ:=Lib.hid hq
     clear hq
     by_cases hlt:k < n
     ·have HDP:=Lib.hid (shdepth_any A n c l k w1 HT1.out HSU.out hlt (by omega))
      have hul:=up_length_le l k
      obtain ⟨u,hu⟩:∃ u,u = (up l k).length:=⟨_,rfl⟩
      rw [← hu] at HDP hul
      have HU:=Lib.hid hu
      have hltI:(k:Int) < n:=by omega
      clear hu
      by_cases hd:11 < u
      ·have HX:Hid (chk l = 6):=Lib.hid (by rw [HR.out,if_pos (deep_not (by rw [← HN.out]; exact hlt) (by rw [← HU.out]; exact hd))])
       have hd1:(12:Int) < ((u + 1:Nat):Int):=by omega
       have hd2:12 < u + 1:=by omega
       go_wp2_with (go_at_call 142; (with_reducible refine HDP.out.mono ?_); rintro e w' ⟨rfl,rfl⟩)
       go_ret
       exact ⟨ret_int HX.out.symm,HB.out⟩
      ·have hd1:¬ (12:Int) < ((u + 1:Nat):Int):=by omega
       have hd2:¬ 12 < u + 1:=by omega
       go_wp2_with (go_at_call 142; (with_reducible refine HDP.out.mono ?_); rintro e w' ⟨rfl,rfl⟩)
       go_round
       case rel => exact ⟨k + 1,by omega,by simp,fun i hi => by
        by_cases e:i = k
        ·rw [e,← HU.out]; exact hd
        ·exact HQ.out i (by omega)⟩
       case measure => simp [intOf]; omega
     ·obtain rfl:k = n:=by omega
      have HX:Hid (chk l = 0):=Lib.hid (by rw [HR.out,if_neg (by rw [deep_of (fun i hi => HQ.out i (by rw [HN.out]; exact hi))]; simp)])
      go_wp2_with fail
      go_ret
      exact ⟨ret_int HX.out.symm,HB.out⟩
def hasB (l:List Sh) (i:Int):Bool:=decide (0 ≤ i) && decide (i < l.length) && (chk l == 0)
theorem has_yes {l:List Sh} {i:Int} (h:hasB l i = true):∃ k:Nat,i = k ∧ k < l.length ∧ chk l = 0:=by
 simp [hasB] at h
 obtain ⟨⟨h1,h2⟩,h3⟩:=h
 exact ⟨i.toNat,by omega,by omega,h3⟩
set_option maxHeartbeats 1000000 in
theorem has_any (A:Option Addr) (n c:Nat) (l:List Sh) (i:Int) (w:World) (h:Sts w (.slice A n c) l) (hm:n ≤ 9223372036854775807) :
 Calls Tryz.prog 151 #[.slice A n c,.int .i64 i] w (RetB w (hasB l i)):=by
 have hn:=h.len
 have HC:=Lib.hid (shpcheck_any A n c l w h hm)
 obtain ⟨ch,hch⟩:∃ ch,ch = chk l:=⟨_,rfl⟩
 rw [← hch] at HC
 have HH:Hid (hasB l i = (decide (0 ≤ i) && decide (i < n) && (ch == 0))):=Lib.hid (by rw [hn,hch]; rfl)
 obtain ⟨r,hr⟩:∃ r,r = hasB l i:=⟨_,rfl⟩
 rw [← hr] at HH ⊢
 clear h hn hch hr
 by_cases h0:0 ≤ i
 ·have g0:decide (0 ≤ i) = true:=decide_eq_true h0
  by_cases h1:i < n
  ·have g1:decide (i < n) = true:=decide_eq_true h1
   have HR:Hid (r = (ch == 0)):=Lib.hid (by rw [HH.out,g0,g1]; rfl)
   by_cases hc:ch = 0
   ·have gc:(ch == 0) = true:=by simpa using hc
    have HR2:Hid (r = true):=Lib.hid (HR.out.trans gc)
    clear hc
    go_enter Tryz.func151,Tryz.ntmps151
    go_wp2_with (go_at_call 107; (with_reducible refine HC.out.mono ?_))
    rintro e w1 ⟨rfl,hb⟩
    go_wp2_with fail
    go_ret
    exact ⟨ret_bool HR2.out.symm,hb⟩
   ·have gc:(ch == 0) = false:=by simpa using hc
    have HR2:Hid (r = false):=Lib.hid (HR.out.trans gc)
    clear hc
    go_enter Tryz.func151,Tryz.ntmps151
    go_wp2_with (go_at_call 107; (with_reducible refine HC.out.mono ?_))
    rintro e w1 ⟨rfl,hb⟩
    go_wp2_with fail
    go_ret
    exact ⟨ret_bool HR2.out.symm,hb⟩
  ·have g1:decide (i < n) = false:=decide_eq_false h1
   have HR:Hid (r = false):=Lib.hid (by rw [HH.out,g0,g1]; rfl)
   go_enter Tryz.func151,Tryz.ntmps151
   go_wp2_with fail
   go_ret
   exact ⟨ret_bool HR.out.symm,Below.refl _ _⟩
 ·have g0:decide (0 ≤ i) = false:=decide_eq_false h0
  have HR:Hid (r = false):=Lib.hid (by rw [HH.out,g0]; rfl)
  go_enter Tryz.func151,Tryz.ntmps151
  go_wp2_with fail
  go_ret
  exact ⟨ret_bool HR.out.symm,Below.refl _ _⟩
end Go.Proofs.YtjfghaohogcfbaaGreatDoor
namespace Go.Proofs.YtjfghaohogcfbaaGreatDoor
open Go.RowKit ShapeSpec
set_option maxRecDepth 100000
def kidsA (l:List Sh) (i:Int):List Int:=if hasB l i = true then kids l i.toNat else []
theorem has_at {l:List Sh} {n:Nat} {i:Int} (hn:n = l.length) (h:hasB l i = true):∃ k:Nat,i = k ∧ i.toNat = k ∧ k < n ∧ n ≤ 60 ∧ SU l n:=by
 obtain ⟨k,rfl,hk,hc⟩:=has_yes h
 subst hn
 exact ⟨k,rfl,rfl,hk,(chk_ok hc).1,chk_su hc⟩
end Go.Proofs.YtjfghaohogcfbaaGreatDoor
namespace Go.Proofs.YtjfghaohogcfbaaGreatDoor
open Go.RowKit ShapeSpec
set_option maxRecDepth 100000
end Go.Proofs.YtjfghaohogcfbaaGreatDoor
namespace Go.Proofs.YtjfghaohogcfbaaGreatDoor
open Go.RowKit ShapeSpec
set_option maxRecDepth 100000
end Go.Proofs.YtjfghaohogcfbaaGreatDoor
namespace Go.Proofs.YtjfghaohogcfbaaGreatDoor
open Go.RowKit Go.Sort CurSpec TermSpec EvalSpec ActSpec NamesSpec ExprSpec TransSpec SynSpec PrintSpec
open ShapeSpec (Sh up sf endOf SU)
set_option maxRecDepth 100000
def SameS (W:World) (s:ByteArray) (e:Ending) (w':World):Prop:=e = .returned (.string s) ∧ W = w'
theorem bs_size (l:List UInt8):(bs l).size = l.length:=by simp [bs,ByteArray.size]
theorem sh_of (l:List Ts):(l.map Ts.sx).map shOf = l.map fun t => ⟨t.kind,t.par⟩:=by rw [List.map_map]; rfl
theorem empty_of (l:List Ts) (sh:List Sh) {i:Nat} {t:Ts} (ht:l[i]? = some t):emptyB sh l i = (decide (t.en.length = 0) && (decide (t.ex.length = 0) && (decide (t.tr.length = 0) && decide ((ShapeSpec.kids sh i).length = 0)))):=by
 unfold emptyB bareB
 rw [ht]
 simp only [Option.elim]
 have he:∀ {α:Type} (l:List α),l.isEmpty = decide (l.length = 0):=fun l => by cases l <;> simp
 rw [he,he,he,show decide (ShapeSpec.kids sh i = []) = decide ((ShapeSpec.kids sh i).length = 0) by simp [List.length_eq_zero_iff]]
 simp [Bool.and_assoc]
end Go.Proofs.YtjfghaohogcfbaaGreatDoor
namespace Go.Proofs.YtjfghaohogcfbaaGreatDoor
open Go.RowKit ShapeSpec
end Go.Proofs.YtjfghaohogcfbaaGreatDoor
namespace Go.Proofs.YtjfghaohogcfbaaGreatDoor
open Go.RowKit TermSpec EvalSpec ActSpec NamesSpec
end Go.Proofs.YtjfghaohogcfbaaGreatDoor
namespace Go.Proofs.YtjfghaohogcfbaaGreatDoor
open Go.RowKit TermSpec EvalSpec ActSpec NamesSpec ExprSpec TransSpec
end Go.Proofs.YtjfghaohogcfbaaGreatDoor
namespace Go.Proofs.YtjfghaohogcfbaaGreatDoor
open Go.RowKit Go.Sort CurSpec TermSpec EvalSpec ActSpec NamesSpec ExprSpec TransSpec SynSpec PrintSpec
set_option maxRecDepth 100000
structure FitM (x:Cx):Prop where
 s:x.s.size ≤ 9223372036854775807
 evs:∀ e ∈ x.evs,e.size ≤ 9223372036854775807
 vars:∀ v ∈ x.vars,v.s.size ≤ 9223372036854775807
 stl:x.sts.length ≤ 100000
 sts:∀ s ∈ x.sts,s.s.size ≤ 9223372036854775807 ∧ (∀ a ∈ s.en,SmallA a) ∧ s.en.length ≤ 100000 ∧ (∀ a ∈ s.ex,SmallA a) ∧ s.ex.length ≤ 100000 ∧ s.tr.length ≤ 100000 ∧ ∀ t ∈ s.tr,SmallT t
end Go.Proofs.YtjfghaohogcfbaaGreatDoor
namespace Go.Proofs.YtjfghaohogcfbaaGreatDoor
open Go.RowKit TermSpec EvalSpec ActSpec NamesSpec
set_option maxRecDepth 100000
set_option maxHeartbeats 1000000 in
theorem may_act (a:Ac) (A:Option Addr) (n c:Nat) (hs:SmallA a) (w:World) (h:Tms w (.slice A n c) a.x) :
 Calls Tryz.prog 170 #[.agg #[.string a.s,.bool a.any,.slice A n c]] w (RetI w (oneA a)):=by
 obtain ⟨A',n',c',heq,hn,hnc⟩:=h.shape
 cases heq
 have HIS:=Lib.hid (fun w => is_any a.s w hs.1)
 have HC:=Lib.hid (fun w h => check_any A n c a.x hn (by have:=hs.2.2; omega) hs.2.1 w h)
 have HT:=Lib.hid h
 obtain ⟨q,hq⟩:∃ q,q = isName a.s.data.toList:=⟨_,rfl⟩
 rw [← hq] at HIS
 obtain ⟨r,hr⟩:∃ r,r = oneA a:=⟨_,rfl⟩
 rw [← hr]
 rcases hb:q with _ | _
 ·rw [hb] at HIS hq
  have HR:=Lib.hid (hr.trans (oneA_name hq.symm))
  obtain ⟨s,any,x⟩:=a
  simp only at HIS HC HT hn ⊢
  clear hs h hq hr hb hn
  go_enter Tryz.func170,Tryz.ntmps170
  go_wp2_with (go_at_call 88; (with_reducible refine (HIS.out _).mono ?_))
  rintro e2 w2 ⟨rfl,hb2⟩
  obtain ⟨B2,hbb,_⟩:=KitC.one_block hb2
  have HB2:=Lib.hid hbb
  obtain ⟨c0,c1,c2⟩:=cells_3 B2
  clear hb2 hbb B2
  go_wp2_with fail
  go_ret
  exact ⟨ret_int HR.out.symm,HB2.out⟩
 ·rw [hb] at HIS hq
  rcases ha:a.any with _ | _
  ·have HR:=Lib.hid (hr.trans (oneA_expr hq.symm ha))
   obtain ⟨s,any,x⟩:=a
   simp only at HIS HC HT HR hn ha ⊢
   subst ha
   obtain ⟨m,hm⟩:∃ m,m = chk x:=⟨_,rfl⟩
   rw [← hm] at HR HC
   clear hs h hq hr hb hn hm
   go_enter Tryz.func170,Tryz.ntmps170
   go_wp2_with (go_at_call 88; (with_reducible refine (HIS.out _).mono ?_))
   rintro e2 w2 ⟨rfl,hb2⟩
   obtain ⟨B2,hbb,_⟩:=KitC.one_block hb2
   have HB2:=Lib.hid hbb
   obtain ⟨c0,c1,c2⟩:=cells_3 B2
   clear hb2 hbb B2
   go_wp2_with (go_at_call 178; (with_reducible refine (HC.out _ (HT.out.keep HB2.out)).mono ?_))
   rintro e2 w3 ⟨rfl,hb3⟩
   have HB3:=Lib.hid (below_two' HB2.out hb3)
   clear hb3
   go_wp2_with fail
   go_ret
   exact ⟨ret_int HR.out.symm,HB3.out⟩
  ·have HR0:=Lib.hid (hr.trans (oneA_any hq.symm ha))
   rw [← hn] at HR0
   obtain ⟨s,any,x⟩:=a
   simp only at HIS HC HT hn ha ⊢
   subst ha
   by_cases h0:n = 0
   ·have HR:Hid (r = 0):=Lib.hid (by rw [HR0.out,if_pos h0])
    have g:decide (0 < n) = false:=by simp; omega
    have g2:decide (0 < (n:Int)) = false:=by simp; omega
    clear hs h hq hr hb hn h0 HR0
    go_enter Tryz.func170,Tryz.ntmps170
    go_wp2_with (go_at_call 88; (with_reducible refine (HIS.out _).mono ?_))
    rintro e2 w2 ⟨rfl,hb2⟩
    obtain ⟨B2,hbb,_⟩:=KitC.one_block hb2
    have HB2:=Lib.hid hbb
    obtain ⟨c0,c1,c2⟩:=cells_3 B2
    clear hb2 hbb B2
    go_wp2_with fail
    go_ret
    exact ⟨ret_int HR.out.symm,HB2.out⟩
   ·have HR:Hid (r = 1):=Lib.hid (by rw [HR0.out,if_neg h0])
    have g:decide (0 < n) = true:=by simp; omega
    have g2:decide (0 < (n:Int)) = true:=by simp; omega
    clear hs h hq hr hb hn h0 HR0
    go_enter Tryz.func170,Tryz.ntmps170
    go_wp2_with (go_at_call 88; (with_reducible refine (HIS.out _).mono ?_))
    rintro e2 w2 ⟨rfl,hb2⟩
    obtain ⟨B2,hbb,_⟩:=KitC.one_block hb2
    have HB2:=Lib.hid hbb
    obtain ⟨c0,c1,c2⟩:=cells_3 B2
    clear hb2 hbb B2
    go_wp2_with fail
    go_ret
    exact ⟨ret_int HR.out.symm,HB2.out⟩
def PChkRel (W:World) (l:List Ac) (n:Nat) (i:Value) (wr:World):Prop:=∃ k:Nat,k ≤ n ∧ i = .int .i64 k ∧ firstA (l.take k) = 0 ∧ Below W.heap.size W wr
abbrev acO (a:Ac) (xA:Option Addr) (xn xc:Nat):Obj:=.cells #[.string a.s,.bool a.any,.slice xA xn xc] 103
set_option maxHeartbeats 1000000 in
theorem check_acts (A:Option Addr) (n c:Nat) (l:List Ac) (hs:∀ a ∈ l,SmallA a) (hl:l.length ≤ 9223372036854775807) (w:World) (h:Acs w (.slice A n c) l) :
 Calls Tryz.prog 143 #[.slice A n c] w (RetI w (chkA l)):=by
 have hn:=h.len.1
 have hcap:=h.len.2
 have HN:=Lib.hid hn
 have HT:=Lib.hid h
 have HS:=Lib.hid hs
 obtain ⟨r,hr⟩:∃ r,r = chkA l:=⟨_,rfl⟩
 rw [← hr]
 by_cases h8:8 < n
 ·have HR:Hid (r = 8):=Lib.hid (by rw [hr]; unfold chkA; rw [if_pos (by omega)])
  have g:decide (8 < n) = true:=by simp; omega
  have h8':8 < (n:Int):=by omega
  clear hn h hs hr hl
  go_enter Tryz.func143,Tryz.ntmps143
  go_wp2_with fail
  go_ret
  exact ⟨ret_int HR.out.symm,Below.refl _ _⟩
 ·have HR:Hid (r = firstA l):=Lib.hid (by rw [hr]; unfold chkA; rw [if_neg (by omega)])
  have h8':¬ 8 < (n:Int):=by omega
  clear hn h hs hr hl
  go_enter Tryz.func143,Tryz.ntmps143
  go_wp2_with fail
  go_loopw [11] (fun i wr => PChkRel w l n i wr) (fun i _ => n - (intOf i).toNat)
  case atStart => exact ⟨0,Nat.zero_le _,rfl,rfl,Below.refl _ _⟩
  case round =>
   obtain ⟨k,hk,rfl,hall,hbw⟩:=hrel
   have HA:=Lib.hid hall
   have HB:=Lib.hid hbw
   clear hall hbw
   by_cases hlt:k < n
   ·obtain ⟨a,ha⟩:∃ a,l[k]? = some a:=get_some (by rw [← HN.out]; exact hlt)
    obtain ⟨b,off,xA,xn,xc,rfl,hb,htm,c0,c1,c2⟩:=(HT.out.keep HB.out).at_ ha
    have HC:Hid (Calls Tryz.prog 170 #[.agg #[.string a.s,.bool a.any,.slice xA xn xc]] (wr.alloc (acO a xA xn xc)) (RetI (wr.alloc (acO a xA xn xc)) (oneA a))):=Lib.hid (may_act a xA xn xc (HS.out a (List.mem_of_getElem? ha)) _ (htm.keep (KitC.below_one _ _)))
    have HNX:=Lib.hid (fun h1 => firstA_next ha HA.out h1)
    have HST:=Lib.hid (fun h1 => firstA_stop ha HA.out h1)
    obtain ⟨q,hq⟩:∃ q,q = oneA a:=⟨_,rfl⟩
    rw [← hq] at HC HNX HST
    have hkI:(k:Int) < n:=by omega
    clear ha hq htm
    obtain ⟨s,any,x⟩:=a
    simp only at c0 c1 c2 HC
    by_cases hq0:q = 0
    ·have HNX':=Lib.hid (HNX.out hq0)
     have g:(q != 0) = false:=by simp [hq0]
     clear HNX HST hq0
     go_wp2_with (go_at_call 170; (with_reducible refine HC.out.mono ?_))
     rintro e2 w2 ⟨rfl,hb2⟩
     have HB2:=Lib.hid (below_two' HB.out (below_two' (KitC.below_one _ _) hb2))
     clear hb2
     go_wp2_with fail
     go_roundw
     case rel => exact ⟨k + 1,by omega,by go_num,HNX'.out,HB2.out⟩
     case measure => simp [intOf]; omega
    ·have HST':=Lib.hid (HST.out hq0)
     have g:(q != 0) = true:=by simp [hq0]
     clear HNX HST hq0
     go_wp2_with (go_at_call 170; (with_reducible refine HC.out.mono ?_))
     rintro e2 w2 ⟨rfl,hb2⟩
     have HB2:=Lib.hid (below_two' HB.out (below_two' (KitC.below_one _ _) hb2))
     clear hb2
     go_wp2_with fail
     go_ret
     exact ⟨ret_int (by rw [HR.out,HST'.out]),HB2.out⟩
   ·have HE:Hid (firstA l = 0):=Lib.hid (by
     have h1:=HN.out
     have h2:=HA.out
     rwa [List.take_of_length_le (by omega)] at h2)
    go_wp2_with fail
    go_ret
    exact ⟨ret_int (by rw [HR.out,HE.out]),HB.out⟩
end Go.Proofs.YtjfghaohogcfbaaGreatDoor