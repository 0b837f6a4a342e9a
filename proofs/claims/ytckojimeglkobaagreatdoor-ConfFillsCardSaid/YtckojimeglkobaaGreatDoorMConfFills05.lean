/- ShapeMem, ShapeProg, ShapeTell, ShapeRef, ShapeRefTell, joined. -/
import Derived.Test.YtckojimeglkobaaGreatDoorRows
import Derived.Test.YtckojimeglkobaaGreatDoorMConfFills00
import Derived.Test.YtckojimeglkobaaGreatDoorMConfFills04
import Derived.Test.YtckojimeglkobaaGreatDoorMConfFills02
import Derived.Deep.RegionHeld3
namespace Go.Proofs.YtckojimeglkobaaGreatDoor
open Go.RowKit ShapeSpec
structure StC where
 s:ByteArray
 sh:Sh
 a3:Option Addr
 n3:Nat
 c3:Nat
 a4:Option Addr
 n4:Nat
 c4:Nat
 a5:Option Addr
 n5:Nat
 c5:Nat
def stV (t:StC):List Value:=[.string t.s,.int .i64 t.sh.kind,.int .i64 t.sh.par,.slice t.a3 t.n3 t.c3,.slice t.a4 t.n4 t.c4,.slice t.a5 t.n5 t.c5]
def stsV (l:List StC):List Value:=l.flatMap stV
theorem stV_length (t:StC):(stV t).length = 6:=rfl
def Sts (w:World) (v:Value) (l:List Sh):Prop:=∃ xs:List StC,l = xs.map (·.sh) ∧ Rdk 6 w v l.length (stsV xs)
theorem Sts.keep {w w':World} {v:Value} {l:List Sh} (h:Sts w v l) (hb:Below w.heap.size w w'):Sts w' v l:=by
 obtain ⟨xs,hx,h⟩:=h
 exact ⟨xs,hx,h.keep hb⟩
theorem Sts.alloc {w:World} {v:Value} {l:List Sh} (h:Sts w v l) (o:Obj):Sts (w.alloc o) v l:=h.keep ((Below.refl _ _).alloc (Nat.le_refl _) _)
theorem Sts.shape {w:World} {v:Value} {l:List Sh} (h:Sts w v l):∃ A n c,v = .slice A n c ∧ n = l.length ∧ n ≤ c:=by
 obtain ⟨xs,hx,A,c,hv,hc,_⟩:=h
 exact ⟨A,_,c,hv,rfl,hc⟩
theorem Sts.all {w:World} {A:Option Addr} {n c:Nat} {l:List Sh} {i:Nat} {t:Sh} (h:Sts w (.slice A n c) l) (hi:l[i]? = some t) :
 ∃ b off s a3 n3 c3 a4 n4 c4 a5 n5 c5,A = some ⟨b,off,none⟩ ∧ b < w.heap.size ∧ w.cell? ⟨b,off + i * 6,none⟩ = some (.string s) ∧ w.cell? ⟨b,off + i * 6 + 1,none⟩ = some (.int .i64 t.kind) ∧ w.cell? ⟨b,off + i * 6 + 2,none⟩ = some (.int .i64 t.par) ∧
   w.cell? ⟨b,off + i * 6 + 3,none⟩ = some (.slice a3 n3 c3) ∧ w.cell? ⟨b,off + i * 6 + 4,none⟩ = some (.slice a4 n4 c4) ∧ w.cell? ⟨b,off + i * 6 + 5,none⟩ = some (.slice a5 n5 c5):=by
 obtain ⟨xs,rfl,A',c',heq,hc,hl,hA⟩:=h
 cases heq
 have hlt:=get_lt hi
 rw [List.getElem?_map] at hi
 obtain ⟨x,hx,rfl⟩:=Option.map_eq_some_iff.1 hi
 obtain ⟨b,off,rfl,hb,hcell⟩:=hA (by omega)
 refine ⟨b,off,x.s,x.a3,x.n3,x.c3,x.a4,x.n4,x.c4,x.a5,x.n5,x.c5,rfl,hb,?_,?_,?_,?_,?_,?_⟩
 ·exact hcell _ _ (flat_get (j:=0) stV_length hx (by omega))
 ·rw [Nat.add_assoc]; exact hcell _ _ (flat_get (j:=1) stV_length hx (by omega))
 ·rw [Nat.add_assoc]; exact hcell _ _ (flat_get (j:=2) stV_length hx (by omega))
 ·rw [Nat.add_assoc]; exact hcell _ _ (flat_get (j:=3) stV_length hx (by omega))
 ·rw [Nat.add_assoc]; exact hcell _ _ (flat_get (j:=4) stV_length hx (by omega))
 ·rw [Nat.add_assoc]; exact hcell _ _ (flat_get (j:=5) stV_length hx (by omega))
theorem Sts.at_ {w:World} {A:Option Addr} {n c:Nat} {l:List Sh} {i:Nat} (h:Sts w (.slice A n c) l) (hi:i < n) :
 ∃ b off,A = some ⟨b,off,none⟩ ∧ b < w.heap.size ∧ w.cell? ⟨b,off + i * 6 + 1,none⟩ = some (.int .i64 (kind l i)) ∧ w.cell? ⟨b,off + i * 6 + 2,none⟩ = some (.int .i64 (par l i)):=by
 obtain ⟨_,m,_,heq,hm,_⟩:=h.shape
 cases heq
 obtain ⟨t,ht⟩:∃ t,l[i]? = some t:=get_some (by omega)
 obtain ⟨b,off,s,a3,n3,c3,a4,n4,c4,a5,n5,c5,rfl,hb,h0,h1,h2,_⟩:=h.all ht
 rw [kind_at ht,par_at ht]
 exact ⟨b,off,rfl,hb,h1,h2⟩
theorem Sts.len {w:World} {A:Option Addr} {n c:Nat} {l:List Sh} (h:Sts w (.slice A n c) l):n = l.length:=by
 obtain ⟨_,m,_,heq,hm,_⟩:=h.shape
 cases heq
 exact hm
end Go.Proofs.YtckojimeglkobaaGreatDoor
namespace Go.Proofs.YtckojimeglkobaaGreatDoor
open Go.RowKit ShapeSpec
set_option maxRecDepth 100000
def AtUp (n:Nat) (i:Value) (Q:Int → Prop):Prop:=∃ j:Int,i = .int .i64 j ∧ j < n ∧ Q j
def DepQ (l:List Sh) (d:Nat) (v:Value) (j:Int):Prop:=∃ k:Nat,v = .int .i64 k ∧ ((0 ≤ j ∧ k + (up l j.toNat).length + 1 = d) ∨ (j = -1 ∧ k = d))
theorem depQ_bd {l:List Sh} {d k:Nat} {j:Int} (h:(0 ≤ j ∧ k + (up l j.toNat).length + 1 = d) ∨ (j = -1 ∧ k = d)):k ≤ d:=by omega
theorem depQ_next {l:List Sh} {n d k j:Nat} (hs:SU l n) (hj:j < n) (h:k + (up l j).length + 1 = d):par l j < n ∧ par l j < j ∧ DepQ l d (.int .i64 ((k:Int) + 1)) (par l j):=by
 rcases Nat.eq_zero_or_pos j with h0 | h0
 ·subst h0
  have hr:=hs.root hj
  rw [show up l 0 = [] from rfl] at h
  rw [hr]
  exact ⟨by omega,by omega,k + 1,by simp,.inr ⟨rfl,by simpa using h⟩⟩
 ·obtain ⟨p,hp,hlt,hup,_⟩:=hs.parn hj h0
  rw [hp]
  rw [hup,sf,List.length_cons] at h
  exact ⟨by omega,by omega,k + 1,by simp,.inl ⟨by omega,by simp; omega⟩⟩
set_option maxHeartbeats 1000000 in
theorem shdepth_any (A:Option Addr) (n c:Nat) (l:List Sh) (i:Nat) (w:World) (h:Sts w (.slice A n c) l) (hs:SU l n) (hi:i < n) (hm:n ≤ 1000000) :
 Calls Tryz.prog 124 #[.slice A n c,.int .i64 i] w (SameI w ((up l i).length + 1:Nat)):=by
 have HT:=Lib.hid h
 have HS:=Lib.hid hs
 have hul:=up_length_le l i
 obtain ⟨d,hd⟩:∃ d,d = (up l i).length + 1:=⟨_,rfl⟩
 rw [← hd]
 have hdm:d ≤ 1000001:=by omega
 have HD:=Lib.hid hd
 clear h hs hd hul
 go_enter Tryz.func124,Tryz.ntmps124
 go_wp2_with fail
 go_loop [1,5] (fun i v => AtUp n i (DepQ l d v)) (fun i _ => (intOf i + 1).toNat)
 case atStart => exact ⟨i,rfl,by omega,0,rfl,.inl ⟨by omega,by rw [HD.out]; simp⟩⟩
 case round =>
  obtain ⟨j,rfl,hj,k,rfl,hq⟩:=hrel
  have hk:=depQ_bd hq
  rcases hq with ⟨h0,hq⟩ | ⟨rfl,hq⟩
  ·obtain ⟨j,rfl⟩:=Int.eq_ofNat_of_zero_le h0
   obtain ⟨b,off,rfl,hb,c1,c2⟩:=HT.out.at_ (i:=j) (by omega)
   obtain ⟨hp1,hp2,hp3⟩:=depQ_next (j:=j) HS.out (by omega) hq
   have HP:=Lib.hid hp3
   obtain ⟨p,hp⟩:∃ p,p = par l j:=⟨_,rfl⟩
   rw [← hp] at c2 hp1 hp2 HP
   clear hq hp hp3 c1
   go_wp2_with fail
   go_round
   case rel => exact ⟨p,rfl,hp1,HP.out⟩
   case measure => simp [intOf]; omega
  ·subst hq
   go_wp2_with fail
   go_ret
   exact ⟨rfl,rfl⟩
def HangQ (l:List Sh) (i q:Nat) (v:Value):Prop:=∃ j:Nat,v = .int .i64 j ∧ j < i ∧ (q ∈ sf l (i - 1) ↔ q ∈ sf l j)
theorem hangQ_next {l:List Sh} {n i j q:Nat} (hs:SU l n) (hi:i ≤ n) (hj:j < i) (hq:q < j) (h:q ∈ sf l (i - 1) ↔ q ∈ sf l j):0 ≤ par l j ∧ par l j < j ∧ HangQ l i q (.int .i64 (par l j)):=by
 obtain ⟨p,hp,hlt,hup,_⟩:=hs.parn (show j < n by omega) (by omega)
 rw [hp]
 refine ⟨by omega,by omega,p,rfl,by omega,h.trans ?_⟩
 rw [← hup]
 exact ⟨fun hm => sf_up hm (by omega),up_in⟩
theorem hang_zero {l:List Sh}:hangB l 0 = decide (par l 0 = -1):=rfl
theorem hang_neg {l:List Sh} {i:Nat} (h0:i ≠ 0) (h:par l i < 0):hangB l i = false:=by
 unfold hangB
 rw [if_neg h0,decide_eq_false (show ¬ 0 ≤ par l i by omega)]
 rfl
theorem hang_at {l:List Sh} {i q:Nat} (h0:i ≠ 0) (h:par l i = q) (hm:q ∈ sf l (i - 1)):hangB l i = decide (kind l q ≠ 1):=by
 have:=sf_le hm
 unfold hangB
 rw [if_neg h0,h,decide_eq_true (show (0:Int) ≤ q by omega),decide_eq_true (show (q:Int) < i by omega),show ((q:Nat):Int).toNat = q from rfl,decide_eq_true hm]
 simp
theorem hang_off {l:List Sh} {i q:Nat} (h0:i ≠ 0) (h:par l i = q) (hm:q ∉ sf l (i - 1)):hangB l i = false:=by
 unfold hangB
 rw [if_neg h0,h,show ((q:Nat):Int).toNat = q from rfl,decide_eq_false hm]
 simp
set_option maxHeartbeats 2000000 in
theorem hangs_any (A:Option Addr) (n c:Nat) (l:List Sh) (i:Nat) (w:World) (h:Sts w (.slice A n c) l) (hs:SU l i) (hi:i < n) (hm:n ≤ 1000000) :
 Calls Tryz.prog 140 #[.slice A n c,.int .i64 i] w (SameB w (hangB l i)):=by
 have HT:=Lib.hid h
 have HS:=Lib.hid hs
 obtain ⟨b,off,rfl,hb,c1,c2⟩:=h.at_ hi
 clear h hs c1
 obtain ⟨p,hp⟩:∃ p,p = par l i:=⟨_,rfl⟩
 rw [← hp] at c2
 have HP:=Lib.hid hp
 clear hp
 rcases Nat.eq_zero_or_pos i with h0 | h0
 ·subst h0
  have HH:Hid (hangB l 0 = decide (p = -1)):=Lib.hid (by rw [hang_zero,← HP.out])
  obtain ⟨r,hr⟩:∃ r,r = hangB l 0:=⟨_,rfl⟩
  rw [← hr] at HH ⊢
  clear hr
  have c2':w.cell? ⟨b,off + 2,none⟩ = some (.int .i64 p):=by simpa using c2
  clear c2
  by_cases hpp:p = -1
  ·have g1:(p == -1) = true:=by simpa using hpp
   have HR:Hid (r = true):=Lib.hid (by rw [HH.out]; simpa using hpp)
   clear hpp
   go_enter Tryz.func140,Tryz.ntmps140
   go_wp2_with fail
   go_ret
   exact ⟨ret_bool HR.out.symm,rfl⟩
  ·have g1:(p == -1) = false:=by simpa using hpp
   have HR:Hid (r = false):=Lib.hid (by rw [HH.out]; simpa using hpp)
   clear hpp
   go_enter Tryz.func140,Tryz.ntmps140
   go_wp2_with fail
   go_ret
   exact ⟨ret_bool HR.out.symm,rfl⟩
 ·have h0':i ≠ 0:=by omega
  have g0:((i:Int) == 0) = false:=by simp; omega
  by_cases hneg:p < 0
  ·have HR:Hid (hangB l i = false):=Lib.hid (hang_neg h0' (by rw [← HP.out]; exact hneg))
   clear h0'
   go_enter Tryz.func140,Tryz.ntmps140
   go_wp2_with fail
   go_ret
   exact ⟨ret_bool HR.out.symm,rfl⟩
  ·obtain ⟨q,rfl⟩:=Int.eq_ofNat_of_zero_le (Int.not_lt.1 hneg)
   have HA:Hid (q ∈ sf l (i - 1) → hangB l i = decide (kind l q ≠ 1)):=Lib.hid (hang_at h0' HP.out.symm)
   have HO:Hid (q ∉ sf l (i - 1) → hangB l i = false):=Lib.hid (hang_off h0' HP.out.symm)
   obtain ⟨r,hr⟩:∃ r,r = hangB l i:=⟨_,rfl⟩
   rw [← hr] at HA HO ⊢
   have hi1:1 ≤ (i:Int):=by omega
   clear hneg hr h0' h0
   go_enter Tryz.func140,Tryz.ntmps140
   go_wp2_with fail
   go_loop [6] (fun v => HangQ l i q v) (fun v => (intOf v).toNat)
   case atStart => exact ⟨i - 1,by congr 1; omega,by omega,Iff.rfl⟩
   case round =>
    obtain ⟨j,rfl,hj,hiff⟩:=hrel
    have HI:=Lib.hid hiff
    clear hiff
    rcases Nat.lt_trichotomy j q with hlt | heq | hgt
    ·have HR:Hid (r = false):=Lib.hid (HO.out (fun hm => by have:=sf_le (HI.out.1 hm); omega))
     have g1:((j:Int) == (q:Int)) = false:=by simp; omega
     have g2:(j == q) = false:=by simp; omega
     have g3:decide (q < j) = false:=decide_eq_false (by omega)
     go_wp2_with fail
     go_ret
     exact ⟨ret_bool HR.out.symm,rfl⟩
    ·subst heq
     obtain ⟨_,_,heq,_,c1,_⟩:=HT.out.at_ (i:=j) (by omega)
     cases heq
     have HR:Hid (r = decide (kind l j ≠ 1)):=Lib.hid (HA.out (HI.out.2 (sf_self _ _)))
     obtain ⟨kd,hkd⟩:∃ kd,kd = kind l j:=⟨_,rfl⟩
     rw [← hkd] at HR c1
     have hji:(j:Int) < n:=by omega
     have hjn:j < n:=by omega
     clear hkd
     by_cases hk1:kd = 1
     ·have g1:(kd != 1) = false:=by simpa using hk1
      have HR2:Hid (r = false):=Lib.hid (by rw [HR.out]; simpa using hk1)
      clear hk1
      go_wp2_with fail
      go_ret
      exact ⟨ret_bool HR2.out.symm,rfl⟩
     ·have g1:(kd != 1) = true:=by simpa using hk1
      have HR2:Hid (r = true):=Lib.hid (by rw [HR.out]; simpa using hk1)
      clear hk1
      go_wp2_with fail
      go_ret
      exact ⟨ret_bool HR2.out.symm,rfl⟩
    ·obtain ⟨_,_,heq,_,_,c2'⟩:=HT.out.at_ (i:=j) (by omega)
     cases heq
     obtain ⟨hp1,hp2,hp3⟩:=hangQ_next HS.out (Nat.le_refl _) hj hgt HI.out
     have HN:=Lib.hid hp3
     obtain ⟨p',hp'⟩:∃ p',p' = par l j:=⟨_,rfl⟩
     rw [← hp'] at c2' hp1 hp2 HN
     have hjn:j < n:=by omega
     clear hp' hp3
     go_wp2_with fail
     go_round
     case rel => exact HN.out
     case measure => simp [intOf]; omega
theorem good_kind {l:List Sh} {i:Nat} (h:kind l i < 1 ∨ 3 < kind l i):goodB l i = false:=by
 unfold goodB
 rcases h with h | h
 ·rw [decide_eq_false (show ¬ 1 ≤ kind l i by omega)]
  rfl
 ·rw [decide_eq_false (show ¬ kind l i ≤ 3 by omega)]
  simp
theorem good_hang {l:List Sh} {i:Nat} (h1:1 ≤ kind l i) (h2:kind l i ≤ 3):goodB l i = hangB l i:=by
 unfold goodB
 rw [decide_eq_true h1,decide_eq_true h2]
 rfl
def StandRel (W:World) (l:List Sh) (n:Nat) (v:Value) (wr:World):Prop:=∃ k:Nat,k ≤ n ∧ v = .int .i64 k ∧ SU l k ∧ Below W.heap.size W wr
set_option maxHeartbeats 4000000 in
theorem stand_any (A:Option Addr) (n c:Nat) (l:List Sh) (w:World) (h:Sts w (.slice A n c) l) (hm:n ≤ 1000000) :
 Calls Tryz.prog 123 #[.slice A n c] w (RetB w (standB l)):=by
 have HT:=Lib.hid h
 have HN:=Lib.hid h.len
 have HF:=Lib.hid (fun i (hi:i < l.length) (hg:goodB l i = false) => stand_not hi hg)
 have HO:=Lib.hid (fun (h0:0 < l.length) (hs:SU l l.length) => stand_of h0 hs)
 have HZ:Hid (l.length = 0 → standB l = false):=Lib.hid (fun e => by cases l with | nil => rfl | cons => simp at e)
 obtain ⟨r,hr⟩:∃ r,r = standB l:=⟨_,rfl⟩
 rw [← hr] at HF HO HZ ⊢
 clear h hr
 go_enter Tryz.func123,Tryz.ntmps123
 go_wp2_with fail
 go_loopw [7] (fun v wr => StandRel w l n v wr) (fun v _ => n - (intOf v).toNat)
 case atStart => exact ⟨0,Nat.zero_le _,rfl,SU.zero l,Below.refl _ _⟩
 case round =>
  obtain ⟨k,hk,rfl,hsu,hbw⟩:=hrel
  have HSU:=Lib.hid hsu
  have HBW:=Lib.hid hbw
  clear hsu hbw
  by_cases hlt:k < n
  ·have hltI:(k:Int) < n:=by omega
   have HT1:=Lib.hid (HT.out.keep HBW.out)
   obtain ⟨t,ht⟩:∃ t,l[k]? = some t:=get_some (by rw [← HN.out]; exact hlt)
   obtain ⟨b,off,s,a3,n3,c3,a4,n4,c4,a5,n5,c5,rfl,hb,c0,c1,c2,c3',c4',c5'⟩:=HT1.out.all ht
   have hkd:=kind_at ht
   obtain ⟨kd,hkd'⟩:∃ kd,kd = t.kind:=⟨_,rfl⟩
   rw [← hkd'] at hkd c1
   have HK:=Lib.hid hkd
   have HB1:Hid (∀ o:Obj,Below w.heap.size w (wr.alloc o)):=Lib.hid (fun o => HBW.out.alloc HBW.out.size o)
   have HHG:=Lib.hid (fun w1 h => hangs_any (some ⟨b,off,none⟩) n c l k w1 h HSU.out hlt hm)
   obtain ⟨q,hq⟩:∃ q,q = t.par:=⟨_,rfl⟩
   rw [← hq] at c2
   clear ht hkd hkd' hq
   rcases Int.lt_trichotomy kd 1 with h1 | h1 | h1
   ·have HR:Hid (r = false):=Lib.hid (HF.out k (by rw [← HN.out]; exact hlt) (good_kind (.inl (by rw [HK.out]; exact h1))))
    have g1:decide (kd < 1) = true:=decide_eq_true h1
    go_wp2_with fail
    go_ret
    exact ⟨ret_bool HR.out.symm,HB1.out _⟩
   all_goals
    by_cases h3:3 < kd
    ·first
      | (exfalso; omega)
      | (have HR:Hid (r = false):=Lib.hid (HF.out k (by rw [← HN.out]; exact hlt) (good_kind (.inr (by rw [HK.out]; exact h3))))
         have g1:decide (kd < 1) = false:=decide_eq_false (by omega)
         have g3:decide (3 < kd) = true:=decide_eq_true h3
         go_wp2_with fail
         go_ret
         exact ⟨ret_bool HR.out.symm,HB1.out _⟩)
    ·have HG:Hid (goodB l k = hangB l k):=Lib.hid (good_hang (by rw [HK.out]; omega) (by rw [HK.out]; omega))
     obtain ⟨g,hg⟩:∃ g,g = hangB l k:=⟨_,rfl⟩
     rw [← hg] at HG HHG
     have g1:decide (kd < 1) = false:=decide_eq_false (by omega)
     have g3:decide (3 < kd) = false:=decide_eq_false h3
     clear hg h1 h3
     have HTA:Hid (∀ o:Obj,Sts (wr.alloc o) (.slice (some ⟨b,off,none⟩) n c) l):=Lib.hid (fun o => HT1.out.alloc o)
     cases g with
     | true =>
       go_wp2_with (go_at_call 140; (with_reducible refine (HHG.out _ (HTA.out _)).mono ?_); rintro e w' ⟨rfl,rfl⟩)
       go_roundw
       case rel => exact ⟨k + 1,by omega,by simp,HSU.out.next HG.out,HB1.out _⟩
       case measure => simp [intOf]; omega
     | false =>
       have HR:Hid (r = false):=Lib.hid (HF.out k (by rw [← HN.out]; exact hlt) HG.out)
       go_wp2_with (go_at_call 140; (with_reducible refine (HHG.out _ (HTA.out _)).mono ?_); rintro e w' ⟨rfl,rfl⟩)
       go_ret
       exact ⟨ret_bool HR.out.symm,HB1.out _⟩
  ·obtain rfl:k = n:=by omega
   rcases Nat.eq_zero_or_pos k with h0 | h0
   ·subst h0
    have HR:Hid (r = false):=Lib.hid (HZ.out HN.out.symm)
    go_wp2_with fail
    go_ret
    exact ⟨ret_bool HR.out.symm,HBW.out⟩
   ·have HR:Hid (r = true):=Lib.hid (HO.out (by rw [← HN.out]; exact h0) (by rw [← HN.out]; exact HSU.out))
    have hkI:0 < (k:Int):=by omega
    go_wp2_with fail
    go_ret
    exact ⟨ret_bool HR.out.symm,HBW.out⟩
theorem deep_not {l:List Sh} {i:Nat} (hi:i < l.length) (h:11 < (up l i).length):deepB l = true:=by
 simp only [deepB,List.any_eq_true,List.mem_range,decide_eq_true_eq]
 exact ⟨i,hi,h⟩
theorem deep_of {l:List Sh} (h:∀ i,i < l.length → ¬ 11 < (up l i).length):deepB l = false:=by
 simp only [deepB,List.any_eq_false,List.mem_range,decide_eq_true_eq]
 exact h
theorem shchk_full {l:List Sh} (h:60 < l.length):chk l = 8:=if_pos h
theorem chk_arg {l:List Sh} (h:¬ 60 < l.length) (hs:standB l = false):chk l = 1:=by unfold chk; rw [if_neg h,if_pos hs]
theorem chk_deep {l:List Sh} (h:¬ 60 < l.length) (hs:standB l = true):chk l = if deepB l = true then 6 else 0:=by unfold chk; rw [if_neg h,if_neg (by simp [hs])]
def DeepQ (l:List Sh) (n:Nat) (v:Value):Prop:=∃ k:Nat,k ≤ n ∧ v = .int .i64 k ∧ ∀ i,i < k → ¬ 11 < (up l i).length
set_option maxHeartbeats 2000000 in
theorem shpcheck_any (A:Option Addr) (n c:Nat) (l:List Sh) (w:World) (h:Sts w (.slice A n c) l) (hm:n ≤ 9223372036854775807) :
 Calls Tryz.prog 106 #[.slice A n c] w (RetI w (chk l)):=by
 have hn:=h.len
 by_cases h60:60 < n
 ·have HR:Hid (chk l = 8):=Lib.hid (shchk_full (by omega))
  have h60':(60:Int) < n:=by omega
  clear h hn
  go_enter Tryz.func106,Tryz.ntmps106
  go_wp2_with fail
  go_ret
  exact ⟨ret_int HR.out.symm,Below.refl _ _⟩
 ·have h60':¬ (60:Int) < n:=by omega
  have HST:=Lib.hid (stand_any A n c l w h (by omega))
  have HA:Hid (standB l = false → chk l = 1):=Lib.hid (chk_arg (by omega))
  have HD:Hid (standB l = true → chk l = if deepB l = true then 6 else 0):=Lib.hid (chk_deep (by omega))
  cases hs:standB l with
  | false =>
    rw [hs] at HST
    have HR:Hid (chk l = 1):=Lib.hid (HA.out hs)
    clear h hn HA HD hs
    go_enter Tryz.func106,Tryz.ntmps106
    go_wp2_with (go_at_call 123; (with_reducible refine HST.out.mono ?_))
    rintro e w1 ⟨rfl,hb⟩
    go_wp2_with fail
    go_ret
    exact ⟨ret_int HR.out.symm,hb⟩
  | true =>
    rw [hs] at HST
    have HSU:Hid (SU l n):=Lib.hid (by rw [hn]; exact (stand_su hs).2)
    have HR:Hid (chk l = if deepB l = true then 6 else 0):=Lib.hid (HD.out hs)
    have HT:=Lib.hid h
    have HN:=Lib.hid hn
    clear h hn HA HD hs
    go_enter Tryz.func106,Tryz.ntmps106
    go_wp2_with (go_at_call 123; (with_reducible refine HST.out.mono ?_))
    rintro e w1 ⟨rfl,hb⟩
    have HT1:=Lib.hid (HT.out.keep hb)
    have HB:=Lib.hid hb
    clear hb
    go_wp2_with fail
    go_loop [12] (fun v => DeepQ l n v) (fun v => n - (intOf v).toNat)
    case atStart => exact ⟨0,Nat.zero_le _,rfl,fun i hi => absurd hi (by omega)⟩
    case round =>
     obtain ⟨k,hk,rfl,hq⟩:=hrel
     have HQ:=Lib.hid hq
     clear hq
     by_cases hlt:k < n
     ·have HDP:=Lib.hid (shdepth_any A n c l k w1 HT1.out HSU.out hlt (by omega))
      have hul:=up_length_le l k
      obtain ⟨u,hu⟩:∃ u,u = (up l k).length:=⟨_,rfl⟩
      rw [← hu] at HDP hul
      have HU:=Lib.hid hu
      have hltI:(k:Int) < n:=by omega
      clear hu
      by_cases hd:11 < u
      ·have HX:Hid (chk l = 6):=Lib.hid (by rw [HR.out,if_pos (deep_not (by rw [← HN.out]; exact hlt) (by rw [← HU.out]; exact hd))])
       have hd1:(12:Int) < ((u + 1:Nat):Int):=by omega
       have hd2:12 < u + 1:=by omega
       go_wp2_with (go_at_call 124; (with_reducible refine HDP.out.mono ?_); rintro e w' ⟨rfl,rfl⟩)
       go_ret
       exact ⟨ret_int HX.out.symm,HB.out⟩
      ·have hd1:¬ (12:Int) < ((u + 1:Nat):Int):=by omega
       have hd2:¬ 12 < u + 1:=by omega
       go_wp2_with (go_at_call 124; (with_reducible refine HDP.out.mono ?_); rintro e w' ⟨rfl,rfl⟩)
       go_round
       case rel => exact ⟨k + 1,by omega,by simp,fun i hi => by
        by_cases e:i = k
        ·rw [e,← HU.out]; exact hd
        ·exact HQ.out i (by omega)⟩
       case measure => simp [intOf]; omega
     ·obtain rfl:k = n:=by omega
      have HX:Hid (chk l = 0):=Lib.hid (by rw [HR.out,if_neg (by rw [deep_of (fun i hi => HQ.out i (by rw [HN.out]; exact hi))]; simp)])
      go_wp2_with fail
      go_ret
      exact ⟨ret_int HX.out.symm,HB.out⟩
def hasB (l:List Sh) (i:Int):Bool:=decide (0 ≤ i) && decide (i < l.length) && (chk l == 0)
theorem has_yes {l:List Sh} {i:Int} (h:hasB l i = true):∃ k:Nat,i = k ∧ k < l.length ∧ chk l = 0:=by
 simp [hasB] at h
 obtain ⟨⟨h1,h2⟩,h3⟩:=h
 exact ⟨i.toNat,by omega,by omega,h3⟩
set_option maxHeartbeats 1000000 in
theorem has_any (A:Option Addr) (n c:Nat) (l:List Sh) (i:Int) (w:World) (h:Sts w (.slice A n c) l) (hm:n ≤ 9223372036854775807) :
 Calls Tryz.prog 128 #[.slice A n c,.int .i64 i] w (RetB w (hasB l i)):=by
 have hn:=h.len
 have HC:=Lib.hid (shpcheck_any A n c l w h hm)
 obtain ⟨ch,hch⟩:∃ ch,ch = chk l:=⟨_,rfl⟩
 rw [← hch] at HC
 have HH:Hid (hasB l i = (decide (0 ≤ i) && decide (i < n) && (ch == 0))):=Lib.hid (by rw [hn,hch]; rfl)
 obtain ⟨r,hr⟩:∃ r,r = hasB l i:=⟨_,rfl⟩
 rw [← hr] at HH ⊢
 clear h hn hch hr
 by_cases h0:0 ≤ i
 ·have g0:decide (0 ≤ i) = true:=decide_eq_true h0
  by_cases h1:i < n
  ·have g1:decide (i < n) = true:=decide_eq_true h1
   have HR:Hid (r = (ch == 0)):=Lib.hid (by rw [HH.out,g0,g1]; rfl)
   by_cases hc:ch = 0
   ·have gc:(ch == 0) = true:=by simpa using hc
    have HR2:Hid (r = true):=Lib.hid (HR.out.trans gc)
    clear hc
    go_enter Tryz.func128,Tryz.ntmps128
    go_wp2_with (go_at_call 106; (with_reducible refine HC.out.mono ?_))
    rintro e w1 ⟨rfl,hb⟩
    go_wp2_with fail
    go_ret
    exact ⟨ret_bool HR2.out.symm,hb⟩
   ·have gc:(ch == 0) = false:=by simpa using hc
    have HR2:Hid (r = false):=Lib.hid (HR.out.trans gc)
    clear hc
    go_enter Tryz.func128,Tryz.ntmps128
    go_wp2_with (go_at_call 106; (with_reducible refine HC.out.mono ?_))
    rintro e w1 ⟨rfl,hb⟩
    go_wp2_with fail
    go_ret
    exact ⟨ret_bool HR2.out.symm,hb⟩
  ·have g1:decide (i < n) = false:=decide_eq_false h1
   have HR:Hid (r = false):=Lib.hid (by rw [HH.out,g0,g1]; rfl)
   go_enter Tryz.func128,Tryz.ntmps128
   go_wp2_with fail
   go_ret
   exact ⟨ret_bool HR.out.symm,Below.refl _ _⟩
 ·have g0:decide (0 ≤ i) = false:=decide_eq_false h0
  have HR:Hid (r = false):=Lib.hid (by rw [HH.out,g0]; rfl)
  go_enter Tryz.func128,Tryz.ntmps128
  go_wp2_with fail
  go_ret
  exact ⟨ret_bool HR.out.symm,Below.refl _ _⟩
end Go.Proofs.YtckojimeglkobaaGreatDoor
namespace Go.Proofs.YtckojimeglkobaaGreatDoor
open Go.RowKit ShapeSpec
set_option maxRecDepth 100000
def kidsA (l:List Sh) (i:Int):List Int:=if hasB l i = true then kids l i.toNat else []
def aboveA (l:List Sh) (i:Int):List Int:=if hasB l i = true then upI l i.toNat else []
def depthA (l:List Sh) (i:Int):Int:=if hasB l i = true then ((up l i.toNat).length + 1:Nat) else 0
theorem has_at {l:List Sh} {n:Nat} {i:Int} (hn:n = l.length) (h:hasB l i = true):∃ k:Nat,i = k ∧ i.toNat = k ∧ k < n ∧ n ≤ 60 ∧ SU l n:=by
 obtain ⟨k,rfl,hk,hc⟩:=has_yes h
 subst hn
 exact ⟨k,rfl,rfl,hk,(chk_ok hc).1,chk_su hc⟩
def KidRel (W:World) (l:List Sh) (i n:Nat) (p v:Value) (wr:World):Prop:=∃ k:Nat,k ≤ n ∧ v = .int .i64 k ∧ RowI W wr p (kidsTo l i k)
def AbQ (W:World) (l:List Sh) (i n:Nat) (p v:Value) (wr:World):Prop:=∃ (j:Int) (xs:List Int),v = .int .i64 j ∧ j < n ∧ RowI W wr p xs ∧ xs.length ≤ i ∧ ((0 ≤ j ∧ xs ++ sfI l j.toNat = upI l i) ∨ (j = -1 ∧ xs = upI l i))
theorem ab_first {l:List Sh} {n i:Nat} (hs:SU l n) (hi:i < n):par l i < n ∧ ((0 ≤ par l i ∧ [] ++ sfI l (par l i).toNat = upI l i) ∨ (par l i = -1 ∧ [] = upI l i)):=by
 rcases Nat.eq_zero_or_pos i with h0 | h0
 ·subst h0
  rw [hs.root hi]
  exact ⟨by omega,.inr ⟨rfl,rfl⟩⟩
 ·obtain ⟨p,hp,hlt,hup,_⟩:=hs.parn hi h0
  rw [hp]
  refine ⟨by omega,.inl ⟨by omega,?_⟩⟩
  unfold upI
  rw [hup]
  rfl
theorem ab_next {l:List Sh} {n i j:Nat} {xs:List Int} (hs:SU l n) (hj:j < n) (h:xs ++ sfI l j = upI l i):par l j < n ∧ par l j < j ∧ (xs ++ [(j:Int)]).length ≤ i ∧ ((0 ≤ par l j ∧ (xs ++ [(j:Int)]) ++ sfI l (par l j).toNat = upI l i) ∨ (par l j = -1 ∧ xs ++ [(j:Int)] = upI l i)):=by
 have hle:(xs ++ [(j:Int)]).length ≤ i:=by
  have h1:=congrArg List.length h
  have h2:=up_length_le l i
  rw [upI_length,List.length_append,sfI_length] at h1
  rw [List.length_append,List.length_singleton]
  omega
 rcases Nat.eq_zero_or_pos j with h0 | h0
 ·subst h0
  rw [hs.root hj]
  exact ⟨by omega,by omega,hle,.inr ⟨rfl,h⟩⟩
 ·obtain ⟨p,hp,hlt,hup,_⟩:=hs.parn hj h0
  rw [hp]
  refine ⟨by omega,by omega,hle,.inl ⟨by omega,?_⟩⟩
  rw [sfI_cons,← List.append_assoc] at h
  rw [← h]
  congr 1
  unfold upI
  rw [hup]
  rfl
set_option maxHeartbeats 1000000 in
theorem shdep_any (A:Option Addr) (n c:Nat) (l:List Sh) (i:Int) (w:World) (h:Sts w (.slice A n c) l) (hm:n ≤ 9223372036854775807) :
 Calls Tryz.prog 117 #[.slice A n c,.int .i64 i] w (RetI w (depthA l i)):=by
 have hn:=h.len
 have HH:=Lib.hid (has_any A n c l i w h hm)
 cases hb:hasB l i with
 | false =>
   rw [hb] at HH
   have HE:Hid (depthA l i = 0):=Lib.hid (if_neg (by simp [hb]))
   rw [HE.out]
   clear h hn hb HE
   go_enter Tryz.func117,Tryz.ntmps117
   go_wp2_with (go_at_call 128; (with_reducible refine HH.out.mono ?_))
   rintro e w1 ⟨rfl,hb1⟩
   go_wp2_with fail
   go_ret
   exact ⟨rfl,hb1⟩
 | true =>
   rw [hb] at HH
   obtain ⟨a,rfl,ha,han,hn60,hsu⟩:=has_at hn hb
   have HE:Hid (depthA l (a:Int) = ((up l a).length + 1:Nat)):=Lib.hid (by unfold depthA; rw [if_pos hb]; rfl)
   rw [HE.out]
   have HT:=Lib.hid h
   have HD:=Lib.hid (fun w1 h => shdepth_any A n c l a w1 h hsu han (by omega))
   clear h hn hb HE ha hsu
   go_enter Tryz.func117,Tryz.ntmps117
   go_wp2_with (go_at_call 128; (with_reducible refine HH.out.mono ?_))
   rintro e w1 ⟨rfl,hb1⟩
   have HX:=Lib.hid (HD.out _ (HT.out.keep hb1))
   go_wp2_with (go_at_call 124; (with_reducible refine HX.out.mono ?_); rintro e w' ⟨rfl,rfl⟩)
   go_ret
   exact ⟨rfl,hb1⟩
end Go.Proofs.YtckojimeglkobaaGreatDoor
namespace Go.Proofs.YtckojimeglkobaaGreatDoor
open Go.RowKit ShapeSpec
set_option maxRecDepth 100000
def RAbQ (W:World) (l:List Sh) (i m:Nat) (p v:Value) (wr:World):Prop:=∃ (j:Nat) (xs:List Int),v = .int .i64 j ∧ j < m ∧ RowI W wr p xs ∧ xs.length ≤ i ∧ xs ++ upI l j = upI l i
theorem rab_next {l:List Sh} {m i j:Nat} {xs:List Int} (hs:SU l m) (hj:j < m) (h:xs ++ upI l j = upI l i):(par l j = -1 ∧ xs = upI l i) ∨ ∃ p:Nat,par l j = p ∧ p < m ∧ p < j ∧ (xs ++ [(p:Int)]).length ≤ i ∧ (xs ++ [(p:Int)]) ++ upI l p = upI l i:=by
 rcases Nat.eq_zero_or_pos j with h0 | h0
 ·subst h0
  refine .inl ⟨hs.root hj,?_⟩
  rw [← h]
  exact (List.append_nil xs).symm
 ·obtain ⟨p,hp,hlt,hup,_⟩:=hs.parn hj h0
  have e:(xs ++ [(p:Int)]) ++ upI l p = upI l i:=by
   rw [← h]
   unfold upI
   rw [hup,List.append_assoc]
   rfl
  refine .inr ⟨p,hp,by omega,hlt,?_,e⟩
  have h1:=congrArg List.length e
  have h2:=up_length_le l i
  rw [upI_length,List.length_append,upI_length] at h1
  omega
set_option maxHeartbeats 4000000 in
theorem rabove_any (A:Option Addr) (n c m:Nat) (l:List Sh) (a:Nat) (w:World) (h:Sts w (.slice A n c) l) (hs:SU l m) (ha:a < m) (hmn:m ≤ n) (hm:n ≤ 1000000) :
 Calls Tryz.prog 73 #[.slice A n c,.int .i64 a] w (RetInts w (upI l a)):=by
 have HT:=Lib.hid h
 have HS:=Lib.hid hs
 obtain ⟨i0,hi,hz0,hz1,hz2⟩:=info_parts inf_int
 have HI:=Lib.hid (And.intro hi (And.intro hz0 (And.intro hz1 hz2)))
 clear h hs hi hz0 hz1 hz2
 go_enter Tryz.func73,Tryz.ntmps73
 go_wp2_with fail
 go_loopw [1,5] (fun v p wr => RAbQ w l a m p v wr) (fun v _ _ => (intOf v).toNat)
 case atStart => exact ⟨a,[],rfl,ha,⟨World.ownsRow_lit w #[] 0 (Nat.le_refl _) (Nat.zero_le _) rfl,(Below.refl _ _).alloc (Nat.le_refl _) _⟩,Nat.zero_le _,rfl⟩
 case round =>
  obtain ⟨j,xs,rfl,hj,hrow,hxl,hq⟩:=hrel
  have HR:=Lib.hid hrow
  have HT1:=Lib.hid (HT.out.keep HR.out.2)
  obtain ⟨b,off,rfl,hb,-,c2⟩:=HT1.out.at_ (i:=j) (by omega)
  have hjn:(j:Int) < n:=by omega
  rcases rab_next HS.out hj hq with ⟨hp,hx⟩ | ⟨p,hp,hpm,hpj,hle,hx⟩
  ·rw [hp] at c2
   have HR3:Hid (RetInts w (upI l a) _ wr):=Lib.hid (by rw [← hx]; exact HR.out.ret)
   clear hq hrow hp hx
   go_wp2_with fail
   go_ret
   exact HR3.out
  ·rw [hp] at c2
   have HX:=Lib.hid hx
   have HLE:=Lib.hid hle
   have hxl':xs.length < a + 1:=by omega
   have HSZ:Hid (w.heap.size ≤ wr.heap.size):=Lib.hid HR.out.2.size
   have HL1:Hid (xs.length + (intV [(p:Int)]).length ≤ maxLen):=Lib.hid (by simp [maxLen]; omega)
   have HL2:Hid ((xs.length + (intV [(p:Int)]).length) * 8 ≤ 140737488355328):=Lib.hid (by simp; omega)
   clear hq hrow hp hx hle
   go_wp2_with (at_builtin; refine wpList_append_rd _ rfl (.tmp 18) (.tmp 20) _ rfl w.heap.size 3 i0 (.int .i64 0) 8 Tryz.underlying90 HI.out.1 HI.out.2.1 HI.out.2.2.1 HI.out.2.2.2 rfl _ _ _ rfl (HR.out.1.alloc _) _ (intV [(p:Int)]) rfl (lit_here rfl rfl rfl) (intV_one _) HL1.out HL2.out ?_ ?_; (have:=HSZ.out; simp; omega); intro p2 w2 hrow2 hg2 _; have HR2:=Lib.hid (RowI.add HR.out hrow2 hg2); clear hrow2 hg2)
   go_roundw
   case rel => exact ⟨p,_,rfl,hpm,HR2.out,HLE.out,HX.out⟩
   case measure => simp [intOf]; omega
def InQ (xs:List Int) (x:Int) (n:Nat) (v:Value):Prop:=∃ k:Nat,v = .int .i64 k ∧ k ≤ n ∧ x ∉ xs.take k
theorem in_next {xs:List Int} {x y:Int} {k:Nat} (h:xs[k]? = some y) (hne:y ≠ x) (hno:x ∉ xs.take k):x ∉ xs.take (k + 1):=by
 rw [take_next h,List.mem_append,List.mem_singleton]
 rintro (h1 | h1)
 ·exact hno h1
 ·exact hne h1.symm
theorem in_hit {xs:List Int} {x:Int} {k:Nat} (h:xs[k]? = some x):decide (x ∈ xs) = true:=decide_eq_true (List.mem_of_getElem? h)
theorem in_miss {xs:List Int} {x:Int} {n:Nat} (hn:xs.length ≤ n) (hno:x ∉ xs.take n):decide (x ∈ xs) = false:=by
 rw [List.take_of_length_le hn] at hno
 exact decide_eq_false hno
set_option maxHeartbeats 1000000 in
theorem rin_any (v:Value) (xs:List Int) (x:Int) (w:World) (h:Rd w v (intV xs)) (hm:xs.length ≤ 9223372036854775807) :
 Calls Tryz.prog 37 #[v,.int .i64 x] w (SameB w (decide (x ∈ xs))):=by
 obtain ⟨A,n,c,rfl,hn,hc,hA⟩:=h.ints
 have HA:=Lib.hid hA
 have HN:=Lib.hid hn
 have hm':n ≤ 9223372036854775807:=by omega
 have HY:Hid (∀ k:Nat,xs[k]? = some x → decide (x ∈ xs) = true):=Lib.hid (fun k h => in_hit h)
 have HM:Hid (x ∉ xs.take n → decide (x ∈ xs) = false):=Lib.hid (in_miss (by omega))
 obtain ⟨r,hr⟩:∃ r,r = decide (x ∈ xs):=⟨_,rfl⟩
 rw [← hr] at HY HM ⊢
 clear hA hn h hc hm hr
 go_enter Tryz.func37,Tryz.ntmps37
 go_wp2_with fail
 go_loop [5] (fun v => InQ xs x n v) (fun v => n - (intOf v).toNat)
 case atStart => exact ⟨0,rfl,Nat.zero_le _,by simp⟩
 case round =>
  obtain ⟨k,rfl,hk,hno⟩:=hrel
  have HO:=Lib.hid hno
  clear hno
  by_cases hlt:k < n
  ·obtain ⟨b,off,rfl,hb,hcell⟩:=HA.out (by omega)
   obtain ⟨y,hy⟩:∃ y,xs[k]? = some y:=get_some (by have:=HN.out; omega)
   have hck:=hcell k y hy
   have HX:=Lib.hid hy
   have hltI:(k:Int) < n:=by omega
   clear hcell hy
   by_cases hyx:y = x
   ·have g1:(y == x) = true:=by simpa using hyx
    have HR:Hid (r = true):=Lib.hid (HY.out k (by rw [HX.out,hyx]))
    clear hyx
    go_wp2_with fail
    go_ret
    exact ⟨ret_bool HR.out.symm,rfl⟩
   ·have g1:(y == x) = false:=by simpa using hyx
    have HR:=Lib.hid (in_next HX.out hyx HO.out)
    clear hyx
    go_wp2_with fail
    go_round
    case rel => exact ⟨k + 1,by simp,by omega,HR.out⟩
    case measure => simp [intOf]; omega
  ·obtain rfl:k = n:=by omega
   have HR:Hid (r = false):=Lib.hid (HM.out HO.out)
   go_wp2_with fail
   go_ret
   exact ⟨ret_bool HR.out.symm,rfl⟩
end Go.Proofs.YtckojimeglkobaaGreatDoor
namespace Go.Proofs.YtckojimeglkobaaGreatDoor
open Go.RowKit ShapeSpec
set_option maxRecDepth 100000
def RKidRel (W:World) (l:List Sh) (i n:Nat) (p v:Value) (wr:World):Prop:=∃ k:Nat,k ≤ n ∧ v = .int .i64 k ∧ RowI W wr p (kidsTo l i k)
set_option maxHeartbeats 4000000 in
theorem rshkids_any (A:Option Addr) (n c:Nat) (l:List Sh) (a:Nat) (w:World) (h:Sts w (.slice A n c) l) (hm:n ≤ 1000000) :
 Calls Tryz.prog 38 #[.slice A n c,.int .i64 a] w (RetInts w (kids l a)):=by
 have hn:=h.len
 have HE:Hid (kids l a = kidsTo l a n):=Lib.hid (by rw [hn]; rfl)
 rw [HE.out]
 have HT:=Lib.hid h
 obtain ⟨i0,hi,hz0,hz1,hz2⟩:=info_parts inf_int
 have HI:=Lib.hid (And.intro hi (And.intro hz0 (And.intro hz1 hz2)))
 clear h hn HE hi hz0 hz1 hz2
 go_enter Tryz.func38,Tryz.ntmps38
 go_wp2_with fail
 go_loopw [5,6] (fun p v wr => RKidRel w l a n p v wr) (fun _ v _ => n - (intOf v).toNat)
 case atStart => exact ⟨0,Nat.zero_le _,rfl,⟨World.ownsRow_lit w #[] 0 (Nat.le_refl _) (Nat.zero_le _) rfl,(Below.refl _ _).alloc (Nat.le_refl _) _⟩⟩
 case round =>
  obtain ⟨k,hk,rfl,hrow⟩:=hrel
  have HR:=Lib.hid hrow
  by_cases hlt:k < n
  ·have hltI:(k:Int) < n:=by omega
   obtain ⟨b,off,rfl,hb,-,c2⟩:=(HT.out.keep HR.out.2).at_ hlt
   obtain ⟨q,hq⟩:∃ q,q = par l k:=⟨_,rfl⟩
   rw [← hq] at c2
   have HP:=Lib.hid hq
   have HSZ:Hid (w.heap.size ≤ wr.heap.size):=Lib.hid HR.out.2.size
   have hkl:=kids_le l a k
   have HL1:Hid ((kidsTo l a k).length + (intV [(k:Int)]).length ≤ maxLen):=Lib.hid (by simp [maxLen]; omega)
   have HL2:Hid (((kidsTo l a k).length + (intV [(k:Int)]).length) * 8 ≤ 140737488355328):=Lib.hid (by simp; omega)
   clear hq hkl hrow
   by_cases hqa:q = a
   ·have g1:(q == (a:Int)) = true:=by simpa using hqa
    have HS:Hid (kidsTo l a (k + 1) = kidsTo l a k ++ [(k:Int)]):=Lib.hid (kids_yes (HP.out.symm.trans hqa))
    clear hqa
    go_wp2_with (at_builtin; refine wpList_append_rd _ rfl (.tmp 21) (.tmp 23) _ rfl w.heap.size 3 i0 (.int .i64 0) 8 Tryz.underlying90 HI.out.1 HI.out.2.1 HI.out.2.2.1 HI.out.2.2.2 rfl _ _ _ rfl (HR.out.1.alloc _) _ (intV [(k:Int)]) rfl (lit_here rfl rfl rfl) (intV_one _) HL1.out HL2.out ?_ ?_; (have:=HSZ.out; simp; omega); intro p2 w2 hrow2 hg2 _; have HR2:=Lib.hid (RowI.add HR.out hrow2 hg2); clear hrow2 hg2)
    go_roundw
    case rel => exact ⟨k + 1,by omega,by simp,by rw [HS.out]; exact HR2.out⟩
    case measure => simp [intOf]; omega
   ·have g1:(q == (a:Int)) = false:=by simpa using hqa
    have HS:Hid (kidsTo l a (k + 1) = kidsTo l a k):=Lib.hid (kids_no (by rw [← HP.out]; exact hqa))
    clear hqa
    go_wp2_with fail
    go_roundw
    case rel => exact ⟨k + 1,by omega,by simp,by rw [HS.out]; exact HR.out⟩
    case measure => simp [intOf]; omega
  ·obtain rfl:k = n:=by omega
   go_wp2_with fail
   go_ret
   exact HR.out.ret
end Go.Proofs.YtckojimeglkobaaGreatDoor