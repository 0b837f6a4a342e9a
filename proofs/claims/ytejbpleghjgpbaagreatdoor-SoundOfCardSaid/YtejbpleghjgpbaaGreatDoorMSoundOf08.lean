/- ShapeProg, ShapeTell, ShapeKids, RowB, TransMem, ExprRef, ExprRefLev, joined. -/
import Derived.Test.YtejbpleghjgpbaaGreatDoorMSoundOf07
import Derived.Test.YtejbpleghjgpbaaGreatDoorMSoundOf02
import Derived.Test.YtejbpleghjgpbaaGreatDoorMSoundOf04
import Derived.Test.YtejbpleghjgpbaaGreatDoorMSoundOf06
import Derived.Test.YtejbpleghjgpbaaGreatDoorMSoundOf03
import Derived.Test.YtejbpleghjgpbaaGreatDoorMSoundOf01
namespace Go.Proofs.YtejbpleghjgpbaaGreatDoor
open Go.RowKit ShapeSpec
set_option maxRecDepth 100000
def AtUp (n:Nat) (i:Value) (Q:Int → Prop):Prop:=∃ j:Int,i = .int .i64 j ∧ j < n ∧ Q j
def DepQ (l:List Sh) (d:Nat) (v:Value) (j:Int):Prop:=∃ k:Nat,v = .int .i64 k ∧ ((0 ≤ j ∧ k + (up l j.toNat).length + 1 = d) ∨ (j = -1 ∧ k = d))
theorem depQ_bd {l:List Sh} {d k:Nat} {j:Int} (h:(0 ≤ j ∧ k + (up l j.toNat).length + 1 = d) ∨ (j = -1 ∧ k = d)):k ≤ d:=by omega
theorem depQ_next {l:List Sh} {n d k j:Nat} (hs:SU l n) (hj:j < n) (h:k + (up l j).length + 1 = d):par l j < n ∧ par l j < j ∧ DepQ l d (.int .i64 ((k:Int) + 1)) (par l j):=by
 rcases Nat.eq_zero_or_pos j with h0 | h0
 ·subst h0
  have hr:=hs.root hj
  rw [show up l 0 = [] from rfl] at h
  rw [hr]
  exact ⟨by omega,by omega,k + 1,by simp,.inr ⟨rfl,by simpa using h⟩⟩
 ·obtain ⟨p,hp,hlt,hup,_⟩:=hs.parn hj h0
  rw [hp]
  rw [hup,sf,List.length_cons] at h
  exact ⟨by omega,by omega,k + 1,by simp,.inl ⟨by omega,by simp; omega⟩⟩
set_option maxHeartbeats 1000000 in
theorem shdepth_any (A:Option Addr) (n c:Nat) (l:List Sh) (i:Nat) (w:World) (h:Sts w (.slice A n c) l) (hs:SU l n) (hi:i < n) (hm:n ≤ 1000000) :
 Calls Tryz.prog 71 #[.slice A n c,.int .i64 i] w (SameI w ((up l i).length + 1:Nat)):=by
 have HT:=Lib.hid h
 have HS:=Lib.hid hs
 have hul:=up_length_le l i
 obtain ⟨d,hd⟩:∃ d,d = (up l i).length + 1:=⟨_,rfl⟩
 rw [← hd]
 have hdm:d ≤ 1000001:=by omega
 have HD:=Lib.hid hd
 clear h hs hd hul
 go_enter Tryz.func71,Tryz.ntmps71
 go_wp2_with fail
 go_loop [1,5] (fun i v => AtUp n i (DepQ l d v)) (fun i _ => (intOf i + 1).toNat)
 case atStart => exact ⟨i,rfl,by omega,0,rfl,.inl ⟨by omega,by rw [HD.out]; simp⟩⟩
 case round =>
  obtain ⟨j,rfl,hj,k,rfl,hq⟩:=hrel
  have hk:=depQ_bd hq
  rcases hq with ⟨h0,hq⟩ | ⟨rfl,hq⟩
  ·obtain ⟨j,rfl⟩:=Int.eq_ofNat_of_zero_le h0
   obtain ⟨b,off,rfl,hb,c1,c2⟩:=HT.out.at_ (i:=j) (by omega)
   obtain ⟨hp1,hp2,hp3⟩:=depQ_next (j:=j) HS.out (by omega) hq
   have HP:=Lib.hid hp3
   obtain ⟨p,hp⟩:∃ p,p = par l j:=⟨_,rfl⟩
   rw [← hp] at c2 hp1 hp2 HP
   clear hq hp hp3 c1
   go_wp2_with fail
   go_round
   case rel => exact ⟨p,rfl,hp1,HP.out⟩
   case measure => simp [intOf]; omega
  ·subst hq
   go_wp2_with fail
   go_ret
   exact ⟨rfl,rfl⟩
def HangQ (l:List Sh) (i q:Nat) (v:Value):Prop:=∃ j:Nat,v = .int .i64 j ∧ j < i ∧ (q ∈ sf l (i - 1) ↔ q ∈ sf l j)
theorem hangQ_next {l:List Sh} {n i j q:Nat} (hs:SU l n) (hi:i ≤ n) (hj:j < i) (hq:q < j) (h:q ∈ sf l (i - 1) ↔ q ∈ sf l j):0 ≤ par l j ∧ par l j < j ∧ HangQ l i q (.int .i64 (par l j)):=by
 obtain ⟨p,hp,hlt,hup,_⟩:=hs.parn (show j < n by omega) (by omega)
 rw [hp]
 refine ⟨by omega,by omega,p,rfl,by omega,h.trans ?_⟩
 rw [← hup]
 exact ⟨fun hm => sf_up hm (by omega),up_in⟩
theorem hang_zero {l:List Sh}:hangB l 0 = decide (par l 0 = -1):=rfl
theorem hang_neg {l:List Sh} {i:Nat} (h0:i ≠ 0) (h:par l i < 0):hangB l i = false:=by
 unfold hangB
 rw [if_neg h0,decide_eq_false (show ¬ 0 ≤ par l i by omega)]
 rfl
theorem hang_at {l:List Sh} {i q:Nat} (h0:i ≠ 0) (h:par l i = q) (hm:q ∈ sf l (i - 1)):hangB l i = decide (kind l q ≠ 1):=by
 have:=sf_le hm
 unfold hangB
 rw [if_neg h0,h,decide_eq_true (show (0:Int) ≤ q by omega),decide_eq_true (show (q:Int) < i by omega),show ((q:Nat):Int).toNat = q from rfl,decide_eq_true hm]
 simp
theorem hang_off {l:List Sh} {i q:Nat} (h0:i ≠ 0) (h:par l i = q) (hm:q ∉ sf l (i - 1)):hangB l i = false:=by
 unfold hangB
 rw [if_neg h0,h,show ((q:Nat):Int).toNat = q from rfl,decide_eq_false hm]
 simp
set_option maxHeartbeats 2000000 in
theorem hangs_any (A:Option Addr) (n c:Nat) (l:List Sh) (i:Nat) (w:World) (h:Sts w (.slice A n c) l) (hs:SU l i) (hi:i < n) (hm:n ≤ 1000000) :
 Calls Tryz.prog 82 #[.slice A n c,.int .i64 i] w (SameB w (hangB l i)):=by
 have HT:=Lib.hid h
 have HS:=Lib.hid hs
 obtain ⟨b,off,rfl,hb,c1,c2⟩:=h.at_ hi
 clear h hs c1
 obtain ⟨p,hp⟩:∃ p,p = par l i:=⟨_,rfl⟩
 rw [← hp] at c2
 have HP:=Lib.hid hp
 clear hp
 rcases Nat.eq_zero_or_pos i with h0 | h0
 ·subst h0
  have HH:Hid (hangB l 0 = decide (p = -1)):=Lib.hid (by rw [hang_zero,← HP.out])
  obtain ⟨r,hr⟩:∃ r,r = hangB l 0:=⟨_,rfl⟩
  rw [← hr] at HH ⊢
  clear hr
  have c2':w.cell? ⟨b,off + 2,none⟩ = some (.int .i64 p):=by simpa using c2
  clear c2
  by_cases hpp:p = -1
  ·have g1:(p == -1) = true:=by simpa using hpp
   have HR:Hid (r = true):=Lib.hid (by rw [HH.out]; simpa using hpp)
   clear hpp
   go_enter Tryz.func82,Tryz.ntmps82
   go_wp2_with fail
   go_ret
   exact ⟨ret_bool HR.out.symm,rfl⟩
  ·have g1:(p == -1) = false:=by simpa using hpp
   have HR:Hid (r = false):=Lib.hid (by rw [HH.out]; simpa using hpp)
   clear hpp
   go_enter Tryz.func82,Tryz.ntmps82
   go_wp2_with fail
   go_ret
   exact ⟨ret_bool HR.out.symm,rfl⟩
 ·have h0':i ≠ 0:=by omega
  have g0:((i:Int) == 0) = false:=by simp; omega
  by_cases hneg:p < 0
  ·have HR:Hid (hangB l i = false):=Lib.hid (hang_neg h0' (by rw [← HP.out]; exact hneg))
   clear h0'
   go_enter Tryz.func82,Tryz.ntmps82
   go_wp2_with fail
   go_ret
   exact ⟨ret_bool HR.out.symm,rfl⟩
  ·obtain ⟨q,rfl⟩:=Int.eq_ofNat_of_zero_le (Int.not_lt.1 hneg)
   have HA:Hid (q ∈ sf l (i - 1) → hangB l i = decide (kind l q ≠ 1)):=Lib.hid (hang_at h0' HP.out.symm)
   have HO:Hid (q ∉ sf l (i - 1) → hangB l i = false):=Lib.hid (hang_off h0' HP.out.symm)
   obtain ⟨r,hr⟩:∃ r,r = hangB l i:=⟨_,rfl⟩
   rw [← hr] at HA HO ⊢
   have hi1:1 ≤ (i:Int):=by omega
   clear hneg hr h0' h0
   go_enter Tryz.func82,Tryz.ntmps82
   go_wp2_with fail
   go_loop [6] (fun v => HangQ l i q v) (fun v => (intOf v).toNat)
   case atStart => exact ⟨i - 1,by congr 1; omega,by omega,Iff.rfl⟩
   case round =>
    obtain ⟨j,rfl,hj,hiff⟩:=hrel
    have HI:=Lib.hid hiff
    clear hiff
    rcases Nat.lt_trichotomy j q with hlt | heq | hgt
    ·have HR:Hid (r = false):=Lib.hid (HO.out (fun hm => by have:=sf_le (HI.out.1 hm); omega))
     have g1:((j:Int) == (q:Int)) = false:=by simp; omega
     have g2:(j == q) = false:=by simp; omega
     have g3:decide (q < j) = false:=decide_eq_false (by omega)
     go_wp2_with fail
     go_ret
     exact ⟨ret_bool HR.out.symm,rfl⟩
    ·subst heq
     obtain ⟨_,_,heq,_,c1,_⟩:=HT.out.at_ (i:=j) (by omega)
     cases heq
     have HR:Hid (r = decide (kind l j ≠ 1)):=Lib.hid (HA.out (HI.out.2 (sf_self _ _)))
     obtain ⟨kd,hkd⟩:∃ kd,kd = kind l j:=⟨_,rfl⟩
     rw [← hkd] at HR c1
     have hji:(j:Int) < n:=by omega
     have hjn:j < n:=by omega
     clear hkd
     by_cases hk1:kd = 1
     ·have g1:(kd != 1) = false:=by simpa using hk1
      have HR2:Hid (r = false):=Lib.hid (by rw [HR.out]; simpa using hk1)
      clear hk1
      go_wp2_with fail
      go_ret
      exact ⟨ret_bool HR2.out.symm,rfl⟩
     ·have g1:(kd != 1) = true:=by simpa using hk1
      have HR2:Hid (r = true):=Lib.hid (by rw [HR.out]; simpa using hk1)
      clear hk1
      go_wp2_with fail
      go_ret
      exact ⟨ret_bool HR2.out.symm,rfl⟩
    ·obtain ⟨_,_,heq,_,_,c2'⟩:=HT.out.at_ (i:=j) (by omega)
     cases heq
     obtain ⟨hp1,hp2,hp3⟩:=hangQ_next HS.out (Nat.le_refl _) hj hgt HI.out
     have HN:=Lib.hid hp3
     obtain ⟨p',hp'⟩:∃ p',p' = par l j:=⟨_,rfl⟩
     rw [← hp'] at c2' hp1 hp2 HN
     have hjn:j < n:=by omega
     clear hp' hp3
     go_wp2_with fail
     go_round
     case rel => exact HN.out
     case measure => simp [intOf]; omega
theorem good_kind {l:List Sh} {i:Nat} (h:kind l i < 1 ∨ 3 < kind l i):goodB l i = false:=by
 unfold goodB
 rcases h with h | h
 ·rw [decide_eq_false (show ¬ 1 ≤ kind l i by omega)]
  rfl
 ·rw [decide_eq_false (show ¬ kind l i ≤ 3 by omega)]
  simp
theorem good_hang {l:List Sh} {i:Nat} (h1:1 ≤ kind l i) (h2:kind l i ≤ 3):goodB l i = hangB l i:=by
 unfold goodB
 rw [decide_eq_true h1,decide_eq_true h2]
 rfl
def StandRel (W:World) (l:List Sh) (n:Nat) (v:Value) (wr:World):Prop:=∃ k:Nat,k ≤ n ∧ v = .int .i64 k ∧ SU l k ∧ Below W.heap.size W wr
set_option maxHeartbeats 4000000 in
theorem stand_any (A:Option Addr) (n c:Nat) (l:List Sh) (w:World) (h:Sts w (.slice A n c) l) (hm:n ≤ 1000000) :
 Calls Tryz.prog 70 #[.slice A n c] w (RetB w (standB l)):=by
 have HT:=Lib.hid h
 have HN:=Lib.hid h.len
 have HF:=Lib.hid (fun i (hi:i < l.length) (hg:goodB l i = false) => stand_not hi hg)
 have HO:=Lib.hid (fun (h0:0 < l.length) (hs:SU l l.length) => stand_of h0 hs)
 have HZ:Hid (l.length = 0 → standB l = false):=Lib.hid (fun e => by cases l with | nil => rfl | cons => simp at e)
 obtain ⟨r,hr⟩:∃ r,r = standB l:=⟨_,rfl⟩
 rw [← hr] at HF HO HZ ⊢
 clear h hr
 go_enter Tryz.func70,Tryz.ntmps70
 go_wp2_with fail
 go_loopw [7] (fun v wr => StandRel w l n v wr) (fun v _ => n - (intOf v).toNat)
 case atStart => exact ⟨0,Nat.zero_le _,rfl,SU.zero l,Below.refl _ _⟩
 case round =>
  obtain ⟨k,hk,rfl,hsu,hbw⟩:=hrel
  have HSU:=Lib.hid hsu
  have HBW:=Lib.hid hbw
  clear hsu hbw
  by_cases hlt:k < n
  ·have hltI:(k:Int) < n:=by omega
   have HT1:=Lib.hid (HT.out.keep HBW.out)
   obtain ⟨t,ht⟩:∃ t,l[k]? = some t:=get_some (by rw [← HN.out]; exact hlt)
   obtain ⟨b,off,s,a3,n3,c3,a4,n4,c4,a5,n5,c5,rfl,hb,c0,c1,c2,c3',c4',c5'⟩:=HT1.out.all ht
   have hkd:=kind_at ht
   obtain ⟨kd,hkd'⟩:∃ kd,kd = t.kind:=⟨_,rfl⟩
   rw [← hkd'] at hkd c1
   have HK:=Lib.hid hkd
   have HB1:Hid (∀ o:Obj,Below w.heap.size w (wr.alloc o)):=Lib.hid (fun o => HBW.out.alloc HBW.out.size o)
   have HHG:=Lib.hid (fun w1 h => hangs_any (some ⟨b,off,none⟩) n c l k w1 h HSU.out hlt hm)
   obtain ⟨q,hq⟩:∃ q,q = t.par:=⟨_,rfl⟩
   rw [← hq] at c2
   clear ht hkd hkd' hq
   rcases Int.lt_trichotomy kd 1 with h1 | h1 | h1
   ·have HR:Hid (r = false):=Lib.hid (HF.out k (by rw [← HN.out]; exact hlt) (good_kind (.inl (by rw [HK.out]; exact h1))))
    have g1:decide (kd < 1) = true:=decide_eq_true h1
    go_wp2_with fail
    go_ret
    exact ⟨ret_bool HR.out.symm,HB1.out _⟩
   all_goals
    by_cases h3:3 < kd
    ·first
      | (exfalso; omega)
      | (have HR:Hid (r = false):=Lib.hid (HF.out k (by rw [← HN.out]; exact hlt) (good_kind (.inr (by rw [HK.out]; exact h3))))
         have g1:decide (kd < 1) = false:=decide_eq_false (by omega)
         have g3:decide (3 < kd) = true:=decide_eq_true h3
         go_wp2_with fail
         go_ret
         exact ⟨ret_bool HR.out.symm,HB1.out _⟩)
    ·have HG:Hid (goodB l k = hangB l k):=Lib.hid (good_hang (by rw [HK.out]; omega) (by rw [HK.out]; omega))
     obtain ⟨g,hg⟩:∃ g,g = hangB l k:=⟨_,rfl⟩
     rw [← hg] at HG HHG
     have g1:decide (kd < 1) = false:=decide_eq_false (by omega)
     have g3:decide (3 < kd) = false:=decide_eq_false h3
     clear hg h1 h3
     have HTA:Hid (∀ o:Obj,Sts (wr.alloc o) (.slice (some ⟨b,off,none⟩) n c) l):=Lib.hid (fun o => HT1.out.alloc o)
     cases g with
     | true =>
       go_wp2_with (go_at_call 82; (with_reducible refine (HHG.out _ (HTA.out _)).mono ?_); rintro e w' ⟨rfl,rfl⟩)
       go_roundw
       case rel => exact ⟨k + 1,by omega,by simp,HSU.out.next HG.out,HB1.out _⟩
       case measure => simp [intOf]; omega
     | false =>
       have HR:Hid (r = false):=Lib.hid (HF.out k (by rw [← HN.out]; exact hlt) HG.out)
       go_wp2_with (go_at_call 82; (with_reducible refine (HHG.out _ (HTA.out _)).mono ?_); rintro e w' ⟨rfl,rfl⟩)
       go_ret
       exact ⟨ret_bool HR.out.symm,HB1.out _⟩
  ·obtain rfl:k = n:=by omega
   rcases Nat.eq_zero_or_pos k with h0 | h0
   ·subst h0
    have HR:Hid (r = false):=Lib.hid (HZ.out HN.out.symm)
    go_wp2_with fail
    go_ret
    exact ⟨ret_bool HR.out.symm,HBW.out⟩
   ·have HR:Hid (r = true):=Lib.hid (HO.out (by rw [← HN.out]; exact h0) (by rw [← HN.out]; exact HSU.out))
    have hkI:0 < (k:Int):=by omega
    go_wp2_with fail
    go_ret
    exact ⟨ret_bool HR.out.symm,HBW.out⟩
theorem deep_not {l:List Sh} {i:Nat} (hi:i < l.length) (h:11 < (up l i).length):deepB l = true:=by
 simp only [deepB,List.any_eq_true,List.mem_range,decide_eq_true_eq]
 exact ⟨i,hi,h⟩
theorem deep_of {l:List Sh} (h:∀ i,i < l.length → ¬ 11 < (up l i).length):deepB l = false:=by
 simp only [deepB,List.any_eq_false,List.mem_range,decide_eq_true_eq]
 exact h
theorem shchk_full {l:List Sh} (h:60 < l.length):chk l = 8:=if_pos h
theorem chk_arg {l:List Sh} (h:¬ 60 < l.length) (hs:standB l = false):chk l = 1:=by unfold chk; rw [if_neg h,if_pos hs]
theorem chk_deep {l:List Sh} (h:¬ 60 < l.length) (hs:standB l = true):chk l = if deepB l = true then 6 else 0:=by unfold chk; rw [if_neg h,if_neg (by simp [hs])]
def DeepQ (l:List Sh) (n:Nat) (v:Value):Prop:=∃ k:Nat,k ≤ n ∧ v = .int .i64 k ∧ ∀ i,i < k → ¬ 11 < (up l i).length
set_option maxHeartbeats 2000000 in
theorem shpcheck_any (A:Option Addr) (n c:Nat) (l:List Sh) (w:World) (h:Sts w (.slice A n c) l) (hm:n ≤ 9223372036854775807) :
 Calls Tryz.prog 50 #[.slice A n c] w (RetI w (chk l)):=by
 have hn:=h.len
 by_cases h60:60 < n
 ·have HR:Hid (chk l = 8):=Lib.hid (shchk_full (by omega))
  have h60':(60:Int) < n:=by omega
  clear h hn
  go_enter Tryz.func50,Tryz.ntmps50
  go_wp2_with fail
  go_ret
  exact ⟨ret_int HR.out.symm,Below.refl _ _⟩
 ·have h60':¬ (60:Int) < n:=by omega
  have HST:=Lib.hid (stand_any A n c l w h (by omega))
  have HA:Hid (standB l = false → chk l = 1):=Lib.hid (chk_arg (by omega))
  have HD:Hid (standB l = true → chk l = if deepB l = true then 6 else 0):=Lib.hid (chk_deep (by omega))
  cases hs:standB l with
  | false =>
    rw [hs] at HST
    have HR:Hid (chk l = 1):=Lib.hid (HA.out hs)
    clear h hn HA HD hs
    go_enter Tryz.func50,Tryz.ntmps50
    go_wp2_with (go_at_call 70; (with_reducible refine HST.out.mono ?_))
    rintro e w1 ⟨rfl,hb⟩
    go_wp2_with fail
    go_ret
    exact ⟨ret_int HR.out.symm,hb⟩
  | true =>
    rw [hs] at HST
    have HSU:Hid (SU l n):=Lib.hid (by rw [hn]; exact (stand_su hs).2)
    have HR:Hid (chk l = if deepB l = true then 6 else 0):=Lib.hid (HD.out hs)
    have HT:=Lib.hid h
    have HN:=Lib.hid hn
    clear h hn HA HD hs
    go_enter Tryz.func50,Tryz.ntmps50
    go_wp2_with (go_at_call 70; (with_reducible refine HST.out.mono ?_))
    rintro e w1 ⟨rfl,hb⟩
    have HT1:=Lib.hid (HT.out.keep hb)
    have HB:=Lib.hid hb
    clear hb
    go_wp2_with fail
    go_loop [12] (fun v => DeepQ l n v) (fun v => n - (intOf v).toNat)
    case atStart => exact ⟨0,Nat.zero_le _,rfl,fun i hi => absurd hi (by omega)⟩
    case round =>
     obtain ⟨k,hk,rfl,hq⟩:=hrel
     have HQ:=Lib.hid hq
     clear hq
     by_cases hlt:k < n
     ·have HDP:=Lib.hid (shdepth_any A n c l k w1 HT1.out HSU.out hlt (by omega))
      have hul:=up_length_le l k
      obtain ⟨u,hu⟩:∃ u,u = (up l k).length:=⟨_,rfl⟩
      rw [← hu] at HDP hul
      have HU:=Lib.hid hu
      have hltI:(k:Int) < n:=by omega
      clear hu
      by_cases hd:11 < u
      ·have HX:Hid (chk l = 6):=Lib.hid (by rw [HR.out,if_pos (deep_not (by rw [← HN.out]; exact hlt) (by rw [← HU.out]; exact hd))])
       have hd1:(12:Int) < ((u + 1:Nat):Int):=by omega
       have hd2:12 < u + 1:=by omega
       go_wp2_with (go_at_call 71; (with_reducible refine HDP.out.mono ?_); rintro e w' ⟨rfl,rfl⟩)
       go_ret
       exact ⟨ret_int HX.out.symm,HB.out⟩
      ·have hd1:¬ (12:Int) < ((u + 1:Nat):Int):=by omega
       have hd2:¬ 12 < u + 1:=by omega
       go_wp2_with (go_at_call 71; (with_reducible refine HDP.out.mono ?_); rintro e w' ⟨rfl,rfl⟩)
       go_round
       case rel => exact ⟨k + 1,by omega,by simp,fun i hi => by
        by_cases e:i = k
        ·rw [e,← HU.out]; exact hd
        ·exact HQ.out i (by omega)⟩
       case measure => simp [intOf]; omega
     ·obtain rfl:k = n:=by omega
      have HX:Hid (chk l = 0):=Lib.hid (by rw [HR.out,if_neg (by rw [deep_of (fun i hi => HQ.out i (by rw [HN.out]; exact hi))]; simp)])
      go_wp2_with fail
      go_ret
      exact ⟨ret_int HX.out.symm,HB.out⟩
def hasB (l:List Sh) (i:Int):Bool:=decide (0 ≤ i) && decide (i < l.length) && (chk l == 0)
theorem has_yes {l:List Sh} {i:Int} (h:hasB l i = true):∃ k:Nat,i = k ∧ k < l.length ∧ chk l = 0:=by
 simp [hasB] at h
 obtain ⟨⟨h1,h2⟩,h3⟩:=h
 exact ⟨i.toNat,by omega,by omega,h3⟩
set_option maxHeartbeats 1000000 in
theorem has_any (A:Option Addr) (n c:Nat) (l:List Sh) (i:Int) (w:World) (h:Sts w (.slice A n c) l) (hm:n ≤ 9223372036854775807) :
 Calls Tryz.prog 75 #[.slice A n c,.int .i64 i] w (RetB w (hasB l i)):=by
 have hn:=h.len
 have HC:=Lib.hid (shpcheck_any A n c l w h hm)
 obtain ⟨ch,hch⟩:∃ ch,ch = chk l:=⟨_,rfl⟩
 rw [← hch] at HC
 have HH:Hid (hasB l i = (decide (0 ≤ i) && decide (i < n) && (ch == 0))):=Lib.hid (by rw [hn,hch]; rfl)
 obtain ⟨r,hr⟩:∃ r,r = hasB l i:=⟨_,rfl⟩
 rw [← hr] at HH ⊢
 clear h hn hch hr
 by_cases h0:0 ≤ i
 ·have g0:decide (0 ≤ i) = true:=decide_eq_true h0
  by_cases h1:i < n
  ·have g1:decide (i < n) = true:=decide_eq_true h1
   have HR:Hid (r = (ch == 0)):=Lib.hid (by rw [HH.out,g0,g1]; rfl)
   by_cases hc:ch = 0
   ·have gc:(ch == 0) = true:=by simpa using hc
    have HR2:Hid (r = true):=Lib.hid (HR.out.trans gc)
    clear hc
    go_enter Tryz.func75,Tryz.ntmps75
    go_wp2_with (go_at_call 50; (with_reducible refine HC.out.mono ?_))
    rintro e w1 ⟨rfl,hb⟩
    go_wp2_with fail
    go_ret
    exact ⟨ret_bool HR2.out.symm,hb⟩
   ·have gc:(ch == 0) = false:=by simpa using hc
    have HR2:Hid (r = false):=Lib.hid (HR.out.trans gc)
    clear hc
    go_enter Tryz.func75,Tryz.ntmps75
    go_wp2_with (go_at_call 50; (with_reducible refine HC.out.mono ?_))
    rintro e w1 ⟨rfl,hb⟩
    go_wp2_with fail
    go_ret
    exact ⟨ret_bool HR2.out.symm,hb⟩
  ·have g1:decide (i < n) = false:=decide_eq_false h1
   have HR:Hid (r = false):=Lib.hid (by rw [HH.out,g0,g1]; rfl)
   go_enter Tryz.func75,Tryz.ntmps75
   go_wp2_with fail
   go_ret
   exact ⟨ret_bool HR.out.symm,Below.refl _ _⟩
 ·have g0:decide (0 ≤ i) = false:=decide_eq_false h0
  have HR:Hid (r = false):=Lib.hid (by rw [HH.out,g0]; rfl)
  go_enter Tryz.func75,Tryz.ntmps75
  go_wp2_with fail
  go_ret
  exact ⟨ret_bool HR.out.symm,Below.refl _ _⟩
end Go.Proofs.YtejbpleghjgpbaaGreatDoor
namespace Go.Proofs.YtejbpleghjgpbaaGreatDoor
open Go.RowKit ShapeSpec
set_option maxRecDepth 100000
def kidsA (l:List Sh) (i:Int):List Int:=if hasB l i = true then kids l i.toNat else []
theorem has_at {l:List Sh} {n:Nat} {i:Int} (hn:n = l.length) (h:hasB l i = true):∃ k:Nat,i = k ∧ i.toNat = k ∧ k < n ∧ n ≤ 60 ∧ SU l n:=by
 obtain ⟨k,rfl,hk,hc⟩:=has_yes h
 subst hn
 exact ⟨k,rfl,rfl,hk,(chk_ok hc).1,chk_su hc⟩
end Go.Proofs.YtejbpleghjgpbaaGreatDoor
namespace Go.Proofs.YtejbpleghjgpbaaGreatDoor
open Go.RowKit ShapeSpec
set_option maxRecDepth 100000
def RetRowI (W:World) (xs:List Int) (e:Ending) (w':World):Prop:=∃ A n c,e = .returned (.slice A n c) ∧ n = xs.length ∧ RowI W w' (.slice A n c) xs
def KidQ (W:World) (l:List Sh) (i n:Nat) (p v:Value) (wr:World):Prop:=∃ k:Nat,k ≤ n ∧ v = .int .i64 k ∧ RowI W wr p (kidsTo l i k)
set_option maxHeartbeats 4000000 in
theorem shkids_row (A:Option Addr) (n c:Nat) (l:List Sh) (i:Int) (w:World) (h:Sts w (.slice A n c) l) (hm:n ≤ 9223372036854775807) :
 Calls Tryz.prog 53 #[.slice A n c,.int .i64 i] w (RetRowI w (kidsA l i)):=by
 have hn:=h.len
 have HH:=Lib.hid (has_any A n c l i w h hm)
 cases hb:hasB l i with
 | false =>
   rw [hb] at HH
   have HE:Hid (kidsA l i = []):=Lib.hid (if_neg (by simp [hb]))
   rw [HE.out]
   clear h hn hb HE
   go_enter Tryz.func53,Tryz.ntmps53
   go_wp2_with (go_at_call 75; (with_reducible refine HH.out.mono ?_))
   rintro e w1 ⟨rfl,hb1⟩
   go_wp2_with fail
   go_ret
   exact ⟨none,0,0,rfl,rfl,RowI.nil _ _ hb1⟩
 | true =>
   rw [hb] at HH
   obtain ⟨a,rfl,ha,han,hn60,hsu⟩:=has_at hn hb
   have HE:Hid (kidsA l (a:Int) = kidsTo l a n):=Lib.hid (by unfold kidsA; rw [if_pos hb,hn]; rfl)
   rw [HE.out]
   have HT:=Lib.hid h
   have HN:=Lib.hid hn
   obtain ⟨i0,hi,hz0,hz1,hz2⟩:=info_parts inf_int
   have HI:=Lib.hid (And.intro hi (And.intro hz0 (And.intro hz1 hz2)))
   clear h hn hb HE ha hsu hi hz0 hz1 hz2
   go_enter Tryz.func53,Tryz.ntmps53
   go_wp2_with (go_at_call 75; (with_reducible refine HH.out.mono ?_))
   rintro e w1 ⟨rfl,hb1⟩
   have HB1:=Lib.hid hb1
   clear hb1
   go_wp2_with fail
   go_loopw [5,14] (fun p v wr => KidQ w l a n p v wr) (fun _ v _ => n - (intOf v).toNat)
   case atStart => exact ⟨0,Nat.zero_le _,rfl,RowI.nil _ _ HB1.out⟩
   case round =>
    obtain ⟨k,hk,rfl,hrow⟩:=hrel
    have HR:=Lib.hid hrow
    clear hrow
    by_cases hlt:k < n
    ·have hltI:(k:Int) < n:=by omega
     obtain ⟨t,ht⟩:∃ t,l[k]? = some t:=get_some (by rw [← HN.out]; exact hlt)
     have HT1:=Lib.hid (HT.out.keep HR.out.2)
     obtain ⟨b,off,s,a3,n3,c3,a4,n4,c4,a5,n5,c5,rfl,hb,c0,c1,c2,c3',c4',c5'⟩:=HT1.out.all ht
     have HP:=Lib.hid (par_at ht)
     obtain ⟨q,hq⟩:∃ q,q = t.par:=⟨_,rfl⟩
     rw [← hq] at c2 HP
     have HRA:=Lib.hid (fun (o:Obj) => HR.out.keep ((Below.refl _ _).alloc (Nat.le_refl _) o))
     have HSZ:Hid (w.heap.size ≤ wr.heap.size):=Lib.hid HR.out.2.size
     have hkl:=kids_le l a k
     have HL1:Hid ((kidsTo l a k).length + (intV [(k:Int)]).length ≤ maxLen):=Lib.hid (by simp [maxLen]; omega)
     have HL2:Hid (((kidsTo l a k).length + (intV [(k:Int)]).length) * 8 ≤ 140737488355328):=Lib.hid (by simp; omega)
     clear ht hq hkl
     by_cases hqa:q = a
     ·have g1:(q == (a:Int)) = true:=by simpa using hqa
      have HS:Hid (kidsTo l a (k + 1) = kidsTo l a k ++ [(k:Int)]):=Lib.hid (kids_yes (HP.out.trans hqa))
      clear hqa
      go_wp2_with (at_builtin; refine wpList_append_rd _ rfl (.tmp 23) (.tmp 25) _ rfl w.heap.size 3 i0 (.int .i64 0) 8 Tryz.underlying64 HI.out.1 HI.out.2.1 HI.out.2.2.1 HI.out.2.2.2 rfl _ _ _ rfl (((HRA.out _).1).alloc _) _ (intV [(k:Int)]) rfl (lit_here (by simp) rfl rfl) (intV_one _) HL1.out HL2.out ?_ ?_; (have:=HSZ.out; simp; omega); intro p2 w2 hrow2 hg2 _; have HR2:=Lib.hid (RowI.add (HRA.out _) hrow2 hg2); clear hrow2 hg2)
      go_roundw
      case rel => exact ⟨k + 1,by omega,by simp,by rw [HS.out]; exact HR2.out⟩
      case measure => simp [intOf]; omega
     ·have g1:(q == (a:Int)) = false:=by simpa using hqa
      have HS:Hid (kidsTo l a (k + 1) = kidsTo l a k):=Lib.hid (kids_no (by rw [HP.out]; exact hqa))
      clear hqa
      go_wp2_with fail
      go_roundw
      case rel => exact ⟨k + 1,by omega,by simp,by rw [HS.out]; exact HRA.out _⟩
      case measure => simp [intOf]; omega
    ·obtain rfl:k = n:=by omega
     go_wp2_with fail
     go_ret
     obtain ⟨A2,c2,hp⟩:=own_shape HR.out.1
     exact ⟨A2,_,c2,congrArg Ending.returned hp,rfl,hp ▸ HR.out⟩
end Go.Proofs.YtejbpleghjgpbaaGreatDoor
namespace Go.Proofs.YtejbpleghjgpbaaGreatDoor
open Go.RowKit CurSpec
def Dep (w:World) (S:Nat → Prop) (P:World → Prop):Prop:=∀ w',w.heap.size ≤ w'.heap.size → (∀ b,b < w.heap.size → S b → w'.heap[b]? = w.heap[b]?) → P w'
section
variable {w w':World} {S S':Nat → Prop} {P Q:World → Prop}
theorem Dep.go {ob:Option Nat} (h:Dep w S P) (hb:w.grownBy w' ob) (hne:∀ b,S b → ob ≠ some b):Dep w' S P :=
 fun w2 hz hx => h w2 (Nat.le_trans hb.size hz) fun b hlt hS => (hx b (Nat.lt_of_lt_of_le hlt hb.size) hS).trans (hb.block b hlt fun e => hne b hS e.symm)
theorem Dep.keep (h:Dep w S P) (hb:Below w.heap.size w w'):Dep w' S P :=
 fun w2 hz hx => h w2 (Nat.le_trans hb.size hz) fun b hlt hS => (hx b (Nat.lt_of_lt_of_le hlt hb.size) hS).trans (hb.block b hlt)
theorem Dep.alloc (h:Dep w S P) (o:Obj):Dep (w.alloc o) S P:=h.keep (KitC.below_one w o)
theorem Dep.mono (h:Dep w S P) (hs:∀ b,b < w.heap.size → S b → S' b):Dep w S' P:=fun w2 hz hx => h w2 hz fun b hlt hS => hx b hlt (hs b hlt hS)
theorem Dep.and (h:Dep w S P) (g:Dep w S Q):Dep w S (fun x => P x ∧ Q x):=fun w2 hz hx => ⟨h w2 hz hx,g w2 hz hx⟩
end
theorem rdk_dep {w:World} {k n:Nat} {v:Value} {xs:List Value} {S:Nat → Prop} (h:Rdk k w v n xs) (hS:0 < n → ∀ b,v.ownBlock = some b → S b):Dep w S (fun x => Rdk k x v n xs):=by
 intro w2 hz hx
 obtain ⟨A,c,rfl,hc,hl,hA⟩:=h
 refine ⟨A,c,rfl,hc,hl,fun h0 => ?_⟩
 obtain ⟨b,off,rfl,hlt,hcell⟩:=hA h0
 refine ⟨b,off,rfl,Nat.lt_of_lt_of_le hlt hz,fun j u hj => ?_⟩
 rw [← hcell j u hj]
 simp [World.cell?,hx b hlt (hS h0 b rfl)]
theorem own_set {w:World} {base n k g cap:Nat} {e:TypeId} {xs:List Value} (h:w.ownsRow base e k (.slice (some ⟨g,0,none⟩) n cap) n xs) {i:Nat} (_hi:i < xs.length) (u:Value) :
 (w.setCell ⟨g,i,none⟩ u).ownsRow base e k (.slice (some ⟨g,0,none⟩) n cap) n (xs.set i u):=by
 refine ⟨by rw [List.length_set]; exact h.1,?_⟩
 have hl:=h.1
 rcases h.2 with ⟨h1,_⟩ | ⟨g',cap',cur,h1,h2,h3,h4,h5,h6,h7⟩
 ·cases h1
 ·injection h1 with h1 _ h8
  injection h1 with h1
  injection h1 with h1
  subst h1 h8
  refine .inr ⟨g,cap,cur.setIfInBounds i u,rfl,h2,block_setCell' h3 i u,h4,h5,by rw [Array.size_setIfInBounds,h6],?_⟩
  rw [← h7,Array.toList_setIfInBounds,List.take_set]
theorem flat_set {α:Type} {k:Nat} {f:α → List Value} (hf:∀ a,(f a).length = k):∀ {l:List α} {i j:Nat} {a a':α} {u:Value},l[i]? = some a → j < k → f a' = (f a).set j u → (l.set i a').flatMap f = (l.flatMap f).set (i * k + j) u
 | [],_,_,_,_,_,h,_,_ => by simp at h
 | b :: t,0,j,a,a',u,h,hj,hu => by
   simp at h; subst h
   rw [List.set_cons_zero,List.flatMap_cons,List.flatMap_cons,Nat.zero_mul,Nat.zero_add,List.set_append_left _ _ (by rw [hf]; exact hj),hu]
 | b :: t,i + 1,j,a,a',u,h,hj,hu => by
   rw [List.set_cons_succ,List.flatMap_cons,List.flatMap_cons,List.set_append_right _ _ (by rw [hf,Nat.add_mul]; omega),hf,show (i + 1) * k + j - k = i * k + j by rw [Nat.add_mul]; omega,flat_set hf (l:=t) (by simpa using h) hj hu]
structure RowB {α:Type} (T:TypeId) (k:Nat) (cv:α → List Value) (nest:α → World → Prop) (W:World) (B:Nat) (wr:World) (pv:Value) (ps:List α):Prop where
 own:wr.ownsRow W.heap.size T k pv ps.length (ps.flatMap cv)
 dep:∀ p ∈ ps,Dep wr (fun b => W.heap.size ≤ b ∧ pv.ownBlock ≠ some b) (nest p)
 grown:W.grownBy wr (some B)
 lt:B < W.heap.size
section
variable {α:Type} {T:TypeId} {k:Nat} {cv:α → List Value} {nest:α → World → Prop} {W wr w':World} {B:Nat} {pv:Value} {ps:List α}
theorem RowB.nil (hg:W.grownBy wr (some B)) (hB:B < W.heap.size):RowB T k cv nest W B wr (.slice none 0 0) []:=⟨World.ownsRow_nil _ _ _ _,fun _ h => by simp at h,hg,hB⟩
theorem RowB.one {p:α} (hg:W.grownBy wr (some B)) (hB:B < W.heap.size) (hlen:(cv p).length = k) (hn:Dep wr (fun b => W.heap.size ≤ b) (nest p)):RowB T k cv nest W B (wr.alloc (.cells (cv p).toArray T)) (.slice (some ⟨wr.heap.size,0,none⟩) 1 1) [p]:=by
 refine ⟨?_,fun q hq => ?_,but_trans hg (but_below (KitC.below_one _ _)),hB⟩
 ·have:=World.ownsRow_lit (base:=W.heap.size) (e:=T) (size:=k) wr (cv p).toArray 1 hg.size (by decide) (by simp [hlen])
  simpa using this
 ·rw [List.mem_singleton] at hq
  subst hq
  refine fun w2 hz hx => hn w2 (Nat.le_trans (KitC.below_one wr _).size hz) fun b hlt hS => (hx b (by rw [World.size_alloc]; omega) ⟨hS,fun e => ?_⟩).trans (heap_alloc_old _ _ hlt)
  injection e with e
  simp only at e
  omega
theorem RowB.but (h:RowB T k cv nest W B wr pv ps) (hb:wr.grownBy w' (some B)):RowB T k cv nest W B w' pv ps :=
 ⟨own_but h.own hb h.lt,fun p hp => (h.dep p hp).go hb fun b hS e => by injection e with e; have:=hS.1; have:=h.lt; omega,but_trans h.grown hb,h.lt⟩
theorem RowB.keep (h:RowB T k cv nest W B wr pv ps) (hb:Below wr.heap.size wr w'):RowB T k cv nest W B w' pv ps:=h.but (but_below hb)
theorem RowB.shape (h:RowB T k cv nest W B wr pv ps):∃ A c,pv = .slice A ps.length c:=own_shape h.own
theorem RowB.add {p:α} {pv':Value} {o:Obj} (h:RowB T k cv nest W B wr pv ps) (hn:Dep wr (fun b => W.heap.size ≤ b ∧ pv.ownBlock ≠ some b) (nest p))
 (hrow:w'.ownsRow W.heap.size T k pv' (ps.length + 1) (ps.flatMap cv ++ cv p)) (hg:(wr.alloc o).grownBy w' pv.ownBlock) (hob:pv'.ownBlock = pv.ownBlock ∨ pv'.ownBlock = some (wr.alloc o).heap.size) :
 RowB T k cv nest W B w' pv' (ps ++ [p]):=by
 have ha:Below wr.heap.size wr (wr.alloc o):=KitC.below_one wr o
 have hall:∀ q ∈ ps ++ [p],Dep wr (fun b => W.heap.size ≤ b ∧ pv.ownBlock ≠ some b) (nest q):=fun q hq => by
  rcases List.mem_append.1 hq with hq | hq
  ·exact h.dep q hq
  ·rw [List.mem_singleton] at hq
   subst hq
   exact hn
 refine ⟨by simpa [List.length_append] using hrow,fun q hq => ?_,?_,h.lt⟩
 ·intro w2 hz hx
  refine (hall q hq) w2 (Nat.le_trans ha.size (Nat.le_trans hg.size hz)) fun b hlt hS => ?_
  have hlt2:b < (wr.alloc o).heap.size:=Nat.lt_of_lt_of_le hlt ha.size
  refine (hx b (Nat.lt_of_lt_of_le hlt2 hg.size) ⟨hS.1,fun e => ?_⟩).trans ((hg.block b hlt2 fun e => hS.2 e.symm).trans (ha.block b hlt))
  rcases hob with e' | e'
  ·exact hS.2 (e'.symm.trans e)
  ·rw [e'] at e; injection e with e; omega
 ·have hgw:=h.grown
  refine ⟨hg.os.trans hgw.os,hg.tape.trans hgw.tape,hg.output.trans hgw.output,Nat.le_trans hgw.size (Nat.le_trans ha.size hg.size),fun i hi hn => ?_⟩
  have hi2:i < wr.heap.size:=Nat.lt_of_lt_of_le hi hgw.size
  refine (hg.block i (Nat.lt_of_lt_of_le hi2 ha.size) fun e => ?_).trans ((ha.block i hi2).trans (hgw.block i hi hn))
  have:=(own_block_bd h.own i e.symm).1
  omega
theorem RowB.set {i j g cap:Nat} {p p':α} {u:Value} (h:RowB T k cv nest W B wr (.slice (some ⟨g,0,none⟩) ps.length cap) ps) (hlen:∀ a,(cv a).length = k) (hp:ps[i]? = some p) (hj:j < k) (hu:cv p' = (cv p).set j u)
 (hn:Dep wr (fun b => W.heap.size ≤ b ∧ (Value.slice (some ⟨g,0,none⟩) ps.length cap).ownBlock ≠ some b) (nest p')) :
 RowB T k cv nest W B (wr.setCell ⟨g,i * k + j,none⟩ u) (.slice (some ⟨g,0,none⟩) ps.length cap) (ps.set i p'):=by
 have hs:wr.grownBy (wr.setCell ⟨g,i * k + j,none⟩ u) (some g):=but_set (but_refl wr _) _ _
 have hi:=(List.getElem?_eq_some_iff.1 hp).1
 have hlt:i * k + j < (ps.flatMap cv).length:=by
  rw [flat_length hlen]
  have:(i + 1) * k ≤ ps.length * k:=Nat.mul_le_mul_right k hi
  rw [Nat.add_mul] at this
  omega
 refine ⟨?_,fun q hq => ?_,?_,h.lt⟩
 ·rw [List.length_set,flat_set hlen hp hj hu]
  exact own_set h.own hlt u
 ·have hall:Dep wr (fun b => W.heap.size ≤ b ∧ (Value.slice (some ⟨g,0,none⟩) ps.length cap).ownBlock ≠ some b) (nest q):=by
   rcases List.mem_or_eq_of_mem_set hq with hq | rfl
   ·exact h.dep q hq
   ·exact hn
  exact hall.go hs fun b hS e => hS.2 e
 ·exact but_set_new h.grown (own_block_bd h.own g rfl).1 _ _
theorem RowB.far (h:RowB T k cv nest W B wr pv ps):Dep wr (fun b => W.heap.size ≤ b) (fun x => Rdk k x pv ps.length (ps.flatMap cv) ∧ ∀ p ∈ ps,nest p x) :=
 (rdk_dep (Rdk.own h.own) fun _ b e => (own_block_bd h.own b e).1).and fun w2 hz hx p hp => (h.dep p hp) w2 hz fun b hlt hS => hx b hlt hS.1
end
section
variable {P:Program}
end
end Go.Proofs.YtejbpleghjgpbaaGreatDoor
namespace Go.Proofs.YtejbpleghjgpbaaGreatDoor
open Go.RowKit TermSpec EvalSpec ActSpec NamesSpec ExprSpec TransSpec
structure SmallT (t:Tr):Prop where
 ev:t.ev.size ≤ 9223372036854775807
 tg:t.tg.size ≤ 9223372036854775807
 g:Small t.g
 glen:t.g.length ≤ 4398046511104
 acts:∀ a ∈ t.acts,SmallA a
 alen:t.acts.length ≤ 9223372036854775807
structure TrIn (W:World) (gA:Option Addr) (gn gc:Nat) (aA:Option Addr) (an ac:Nat) (t:Tr):Prop where
 g:Tms W (.slice gA gn gc) t.g
 a:Acs W (.slice aA an ac) t.acts
section
variable {W W':World} {gA aA:Option Addr} {gn gc an ac:Nat} {t:Tr}
theorem TrIn.keep (h:TrIn W gA gn gc aA an ac t) (hb:Below W.heap.size W W'):TrIn W' gA gn gc aA an ac t:=⟨h.g.keep hb,h.a.keep hb⟩
theorem TrIn.alloc (h:TrIn W gA gn gc aA an ac t) (o:Obj):TrIn (W.alloc o) gA gn gc aA an ac t:=h.keep (KitC.below_one W o)
theorem TrIn.len (h:TrIn W gA gn gc aA an ac t):gn = t.g.length ∧ an = t.acts.length:=by
 obtain ⟨A',n',c',heq,hn,-⟩:=h.g.shape
 cases heq
 exact ⟨hn,h.a.len.1⟩
theorem TrIn.cap (h:TrIn W gA gn gc aA an ac t):gn ≤ gc ∧ an ≤ ac:=by
 obtain ⟨A',n',c',heq,-,hc⟩:=h.g.shape
 cases heq
 exact ⟨hc,h.a.len.2⟩
end
theorem okN_nil {s:ByteArray} (h:s.size = 0):okN s = true:=by unfold okN; simp [h]
theorem okN_pos {s:ByteArray} (h:0 < s.size):okN s = isName s.data.toList:=by
 unfold okN
 rw [decide_eq_false (show ¬ s.size = 0 by omega)]
 rfl
theorem chkT_name {t:Tr} (h:okN t.ev = false ∨ okN t.tg = false):chkT t = 1:=by unfold chkT; rw [if_pos h]
theorem chkT_nog {t:Tr} (h1:okN t.ev = true) (h2:okN t.tg = true) (h:t.g.length = 0):chkT t = chkA t.acts:=by unfold chkT; rw [if_neg (by rw [h1,h2]; simp),if_neg (fun h' => h'.1 h)]
theorem chkT_bad {t:Tr} (h1:okN t.ev = true) (h2:okN t.tg = true) (h:t.g.length ≠ 0) (hk:chk t.g ≠ 0):chkT t = chk t.g:=by unfold chkT; rw [if_neg (by rw [h1,h2]; simp),if_pos ⟨h,hk⟩]
theorem chkT_good {t:Tr} (h1:okN t.ev = true) (h2:okN t.tg = true) (hk:chk t.g = 0):chkT t = chkA t.acts:=by unfold chkT; rw [if_neg (by rw [h1,h2]; simp),if_neg (fun h' => h'.2 hk)]
end Go.Proofs.YtejbpleghjgpbaaGreatDoor
namespace Go.Proofs.YtejbpleghjgpbaaGreatDoor
open Go.RowKit CurSpec TermSpec ExprSpec NamesSpec
theorem Tms.own {w:World} {base n:Nat} {v:Value} {l:List Tm} (hn:n = l.length) (h:w.ownsRow base 61 3 v n (tmsV l)):Tms w v l:=⟨n,hn,Rdk.own h⟩
end Go.Proofs.YtejbpleghjgpbaaGreatDoor
namespace Go.Proofs.YtejbpleghjgpbaaGreatDoor
open Go.RowKit CurSpec TermSpec ExprSpec NamesSpec
end Go.Proofs.YtejbpleghjgpbaaGreatDoor