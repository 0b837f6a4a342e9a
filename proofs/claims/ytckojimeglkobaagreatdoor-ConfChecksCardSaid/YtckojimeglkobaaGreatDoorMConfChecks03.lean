/- ConfSpec, GroupCount, GroupTab, joined. -/
import Derived.Test.YtckojimeglkobaaGreatDoorMConfChecks02
import Derived.Test.YtckojimeglkobaaGreatDoorMConfChecks01
import Derived.Test.YtckojimeglkobaaGreatDoorRows
import Derived.Test.YtckojimeglkobaaGreatDoorMConfChecks00
import Derived.LaidLaws
import Derived.ChangeArms
import Derived.Lib.LaidTab
import Derived.OpenShut
import Derived.LaidMore
import Derived.Stop.Joined
import Derived.Lib.TrailingZeros
namespace Go.Proofs.YtckojimeglkobaaGreatDoor
namespace ConfSpec
open ShapeSpec GroupSpec AtlasSpec
theorem kids_mem {l:List Sh} {i n k:Nat}:(k:Int) ∈ kidsTo l i n ↔ k < n ∧ par l k = i:=by
 unfold kidsTo
 rw [mem_ints,List.mem_filter,List.mem_range,decide_eq_true_iff]
theorem par_out {l:List Sh} {k:Nat} (h:l.length ≤ k):par l k = -1:=by
 unfold par
 rw [List.getElem?_eq_none h]
 rfl
theorem kids_late {l:List Sh} {i n:Nat} (h:l.length ≤ n):kidsTo l i n = kids l i:=by
 induction n with
 | zero =>
   have:l.length = 0:=by omega
   unfold kids
   rw [this]
 | succ n ih =>
   by_cases e:l.length = n + 1
   ·unfold kids
    rw [e]
   ·rw [kids_no (by rw [par_out (by omega)]; omega)]
    exact ih (by omega)
theorem kid_mem {l:List Sh} {i k:Nat}:(k:Int) ∈ kids l i ↔ k < l.length ∧ par l k = i:=kids_mem
theorem kid_nat {l:List Sh} {i:Nat} {x:Int} (h:x ∈ kids l i):∃ k:Nat,x = k ∧ k < l.length ∧ par l k = i:=by
 unfold kids kidsTo at h
 obtain ⟨k,hk,rfl⟩:=List.mem_map.1 h
 rw [List.mem_filter,List.mem_range,decide_eq_true_iff] at hk
 exact ⟨k,rfl,hk.1,hk.2⟩
theorem root_sf {l:List Sh} {n:Nat} (hs:SU l n):∀ i,i < n → 0 ∈ sf l i:=by
 intro i
 induction i using Nat.strongRecOn with
 | ind i ih =>
   intro hi
   by_cases h0:i = 0
   ·rw [h0]
    exact sf_self _ _
   ·obtain ⟨p,hp,hlt,hup,_⟩:=hs.parn hi (by omega)
    exact up_in (by rw [hup]; exact ih p hlt (by omega))
def kidsIn (l:List Sh) (m i:Nat):Nat:=((kids l i).filter fun x => hasG m x).length
def kidsB (l:List Sh) (m i:Nat):Bool:=!(decide (kind l i = 2) && !decide (kidsIn l m i = 1)) && !(decide (kind l i = 3) && !decide (kidsIn l m i = (kids l i).length))
theorem bits_kids {l:List Sh} {m i:Nat}:∀ {k},k ≤ 64 → l.length ≤ 64 → bitsTo (ofG (kids l i) &&& m) k = (kidsTo l i k).filter fun x => hasG m x
 | 0,_,_ => rfl
 | k + 1,hk,hl => by
   have ih:=bits_kids (l:=l) (m:=m) (i:=i) (k:=k) (by omega) hl
   have hb:(ofG (kids l i) &&& m).testBit k = (decide (par l k = i) && m.testBit k):=by
    rw [Nat.testBit_and,ofG_bit,decide_eq_true (by omega:k < 64),Bool.true_and]
    congr 1
    rw [Bool.eq_iff_iff,decide_eq_true_iff,decide_eq_true_iff,kid_mem]
    constructor
    ·exact fun h => h.2
    ·intro h
     refine ⟨?_,h⟩
     apply Decidable.byContradiction
     intro hn
     rw [par_out (by omega)] at h
     omega
   by_cases hp:par l k = i
   ·rw [decide_eq_true hp,Bool.true_and] at hb
    have e:([(k:Int)].filter fun x => hasG m x) = if m.testBit k then [(k:Int)] else []:=by
     rw [List.filter_cons,bit_hasG (by omega)]
     rfl
    rw [kids_yes hp,List.filter_append,e]
    cases hm:m.testBit k with
    | true => rw [hm] at hb; rw [bitsTo_yes hb,ih]; rfl
    | false => rw [hm] at hb; rw [bitsTo_no hb,ih]; simp
   ·rw [decide_eq_false hp,Bool.false_and] at hb
    rw [bitsTo_no hb,kids_no hp,ih]
theorem count_kids {l:List Sh} (m i:Nat) (hl:l.length ≤ 64):(bitsL (ofG (kids l i) &&& m)).length = kidsIn l m i:=by
 unfold bitsL kidsIn
 rw [bits_kids (Nat.le_refl _) hl,kids_late hl]
theorem within_kids {l:List Sh} (m i:Nat) (hl:l.length ≤ 64):withinG (ofG (kids l i)) m = decide (kidsIn l m i = (kids l i).length):=by
 rw [Bool.eq_iff_iff,withinG_iff,decide_eq_true_iff]
 unfold kidsIn
 rw [List.length_filter_eq_length_iff]
 constructor
 ·intro h x hx
  obtain ⟨k,rfl,hk,hp⟩:=kid_nat hx
  rw [bit_hasG (by omega)]
  exact h k (by omega) (by rw [ofG_bit,decide_eq_true (by omega:k < 64),Bool.true_and,decide_eq_true_iff]; exact hx)
 ·intro h k hk hb
  rw [ofG_bit,Bool.and_eq_true,decide_eq_true_iff,decide_eq_true_iff] at hb
  rw [← bit_hasG hk]
  exact h _ hb.2
def roundP (l:List Sh) (m i:Nat):Bool:=withinG (abG l i) m && kidsB l m i
def statesP (l:List Sh) (m:Nat):Bool:=hasG m 0 && (withinG m (belowTb l 0) && (bitsL m).all fun x => roundP l m x.toNat)
def refP (l:List Sh) (m i:Nat):Bool:=!hasG m (i:Int) || (decide (i < l.length) && (decide (i = 0) || hasG m (par l i)) && kidsB l m i)
def statesR (l:List Sh) (m:Nat):Bool:=hasG m 0 && (List.range 64).all (refP l m)
theorem below_root {l:List Sh} (hk:chk l = 0) {k:Nat} (h:k < 64):(belowTb l 0).testBit k = decide (k < l.length):=by
 have hs:=chk_su hk
 have h0:0 < l.length:=(stand_su (chk_ok hk).2.1).1
 have e:belowTb l 0 = beG l 0:=belowTb_in (j:=0) h0
 rw [e]
 unfold beG
 rw [ofG_bit,decide_eq_true h,Bool.true_and,Bool.eq_iff_iff,decide_eq_true_iff,decide_eq_true_iff,belowTo_mem]
 exact ⟨fun h => h.1,fun h => ⟨h,root_sf hs k h⟩⟩
theorem states_eq {l:List Sh} (hk:chk l = 0) (m:Nat):statesP l m = statesR l m:=by
 have hs:=chk_su hk
 have hl:=(chk_ok hk).1
 unfold statesP statesR
 refine congrArg (fun b => hasG m 0 && b) ?_
 rw [Bool.eq_iff_iff,Bool.and_eq_true,withinG_iff,List.all_eq_true,List.all_eq_true]
 have hpar:∀ i,i < l.length → i ≠ 0 → ∃ p:Nat,par l i = p ∧ p < i ∧ up l i = sf l p:=fun i hi h0 => by
  obtain ⟨p,h1,h2,h3,_⟩:=hs.parn hi (by omega)
  exact ⟨p,h1,h2,h3⟩
 constructor
 ·rintro ⟨hw,ha⟩ i hi
  rw [List.mem_range] at hi
  unfold refP
  cases hb:hasG m (i:Int) with
  | false => rfl
  | true =>
    have hr:=ha (i:Int) (mem_bitsL.2 hb)
    rw [bit_hasG hi] at hb
    have hlt:=hw i hi hb
    rw [below_root hk hi,decide_eq_true_iff] at hlt
    unfold roundP at hr
    rw [Bool.and_eq_true,Int.toNat_natCast,withinG_iff] at hr
    rw [decide_eq_true hlt,hr.2]
    by_cases h0:i = 0
    ·simp [h0]
    ·obtain ⟨p,hp,hpl,hup⟩:=hpar i hlt h0
     have:m.testBit p = true:=hr.1 p (by omega) (by unfold abG; rw [ofG_bit,decide_eq_true (by omega:p < 64),Bool.true_and,decide_eq_true_iff,upI_mem,hup]; exact sf_self _ _)
     rw [hp,bit_hasG (by omega),this]
     simp
 ·intro h
  have key:∀ i,i < 64 → m.testBit i = true → i < l.length ∧ (i ≠ 0 → ∃ p:Nat,par l i = p ∧ p < i ∧ up l i = sf l p ∧ m.testBit p = true) ∧ kidsB l m i = true:=fun i hi hb => by
   have:=h i (List.mem_range.2 hi)
   unfold refP at this
   rw [bit_hasG hi,hb] at this
   simp only [Bool.not_true,Bool.false_or,Bool.and_eq_true,decide_eq_true_eq,Bool.or_eq_true] at this
   obtain ⟨⟨h1,h2⟩,h3⟩:=this
   refine ⟨h1,fun h0 => ?_,h3⟩
   obtain ⟨p,hp,hpl,hup⟩:=hpar i h1 h0
   refine ⟨p,hp,hpl,hup,?_⟩
   have:=h2.resolve_left h0
   rwa [hp,bit_hasG (by omega)] at this
  have hup:∀ i,i < 64 → m.testBit i = true → ∀ k,k ∈ up l i → m.testBit k = true:=by
   intro i
   induction i using Nat.strongRecOn with
   | ind i ih =>
     intro hi hb k hk
     obtain ⟨h1,h2,-⟩:=key i hi hb
     have h0:i ≠ 0:=by rintro rfl; have:=up_lt hk; omega
     obtain ⟨p,hp,hpl,hup,hpb⟩:=h2 h0
     rw [hup] at hk
     rcases List.mem_cons.1 hk with rfl | hk
     ·exact hpb
     ·exact ih p hpl (by omega) hpb k hk
  refine ⟨fun i hi hb => ?_,fun x hx => ?_⟩
  ·rw [below_root hk hi,decide_eq_true_iff]
   exact (key i hi hb).1
  ·obtain ⟨i,hi,rfl,hb⟩:=mem_bitsTo.1 hx
   unfold roundP
   rw [Int.toNat_natCast,(key i hi hb).2.2,Bool.and_true,withinG_iff]
   intro k hk hkb
   unfold abG at hkb
   rw [ofG_bit,Bool.and_eq_true,decide_eq_true_iff,decide_eq_true_iff,upI_mem] at hkb
   exact hup i hi hb k hkb.2
def stepF (l:List Sh) (m i:Nat):Nat :=
 if hasG m (i:Int) = true then (if kind l i = 3 then m ||| ofG (kids l i) else if kind l i = 2 ∧ ofG (kids l i) &&& m = 0 then withG m ((kids l i).headD 0) else m) else m
def fillTo (l:List Sh) (m:Nat):Nat → Nat
 | 0 => m &&& belowTb l 0
 | k + 1 => stepF l (fillTo l m k) k
def fillG (l:List Sh) (m:Nat):Nat:=fillTo l m l.length
theorem stepF_lt {l:List Sh} {m i:Nat} (h:m < 2 ^ 64):stepF l m i < 2 ^ 64:=by
 unfold stepF
 split
 ·split
  ·exact Nat.or_lt_two_pow h (ofG_lt _)
  ·split
   ·exact withG_lt h _
   ·exact h
 ·exact h
theorem fillTo_lt {l:List Sh} {m:Nat} (h:m < 2 ^ 64):∀ k,fillTo l m k < 2 ^ 64
 | 0 => Nat.lt_of_le_of_lt Nat.and_le_left h
 | k + 1 => stepF_lt (fillTo_lt h k)
def missL (l:List Sh) (a:List Int):Nat:=((List.range l.length).filter fun k:Nat => !decide ((k:Int) ∈ a)).length
structure FillR (l:List Sh) (m:Nat) (a:List Int):Prop where
 ok:∀ x ∈ a,∃ k:Nat,x = k ∧ k < l.length ∧ (fillG l m).testBit k = true
 has:∀ k:Nat,k < l.length → m.testBit k = true → (k:Int) ∈ a
 len:a.length + missL l a = l.length
theorem filter_less {α:Type} [DecidableEq α] (p:α → Bool) (x:α):∀ (l:List α),l.Pairwise (· ≠ ·) → x ∈ l → p x = true → (l.filter fun y => p y && !decide (y = x)).length + 1 = (l.filter p).length
 | [],_,h,_ => by cases h
 | y :: r,hn,h,hp => by
   rw [List.pairwise_cons] at hn
   rw [List.filter_cons,List.filter_cons]
   by_cases e:y = x
   ·subst e
    rw [hp,decide_eq_true rfl,if_neg (by simp),if_pos rfl,List.length_cons]
    have:r.filter (fun z => p z && !decide (z = y)) = r.filter p:=by
     refine List.filter_congr fun z hz => ?_
     rw [decide_eq_false (fun e => hn.1 z hz e.symm)]
     simp
    rw [this]
   ·have ih:=filter_less p x r hn.2 ((List.mem_cons.1 h).resolve_left fun e' => e e'.symm) hp
    rw [decide_eq_false e]
    cases p y with
    | true => simp; omega
    | false => simp; exact ih
theorem miss_add {l:List Sh} {a:List Int} {k:Nat} (hk:k < l.length) (hn:(k:Int) ∉ a):missL l (a ++ [(k:Int)]) + 1 = missL l a:=by
 unfold missL
 have h:(List.range l.length).Pairwise (· ≠ ·):=List.nodup_range
 rw [← filter_less (fun j:Nat => !decide ((j:Int) ∈ a)) k _ h (List.mem_range.2 hk) (by simp [hn])]
 congr 2
 refine List.filter_congr fun j _ => ?_
 rw [Bool.eq_iff_iff]
 simp only [List.mem_append,List.mem_singleton,Bool.not_eq_true',decide_eq_false_iff_not,Bool.and_eq_true,not_or]
 exact ⟨fun h => ⟨h.1,by have:=h.2; omega⟩,fun h => ⟨h.1,by have:=h.2; omega⟩⟩
theorem FillR.add {l:List Sh} {m:Nat} {a:List Int} {k:Nat} (h:FillR l m a) (hk:k < l.length) (hf:(fillG l m).testBit k = true) (hn:(k:Int) ∉ a):FillR l m (a ++ [(k:Int)]):=by
 refine ⟨fun x hx => ?_,fun j hj hm => List.mem_append_left _ (h.has j hj hm),?_⟩
 ·rcases List.mem_append.1 hx with hx | hx
  ·exact h.ok x hx
  ·exact ⟨k,List.mem_singleton.1 hx,hk,hf⟩
 ·have:=miss_add hk hn
  have:=h.len
  rw [List.length_append]
  simp only [List.length_cons,List.length_nil]
  omega
def closedTo (l:List Sh) (a:List Int) (n:Nat):Prop:=∀ i:Nat,i < n → (i:Int) ∈ a → (kind l i = 2 → ∃ x ∈ kids l i,x ∈ a) ∧ (kind l i = 3 → ∀ x ∈ kids l i,x ∈ a)
def valB (vs:List EvalSpec.Vr) (i:Nat) (n:Int):Bool:=(vs[i]?).elim (decide (n = 0)) fun v => decide (v.lo ≤ n) && decide (n ≤ v.hi)
def valsB (vs:List EvalSpec.Vr) (x:ActSpec.V4):Bool:=(List.range 4).all fun i => valB vs i (x.get i)
structure Cf where
 m:Nat
 v:ActSpec.V4
def mayCf (l:List Sh) (vs:List EvalSpec.Vr) (x:Cf):Bool:=statesR l x.m && valsB vs x.v
def iniV (vs:List EvalSpec.Vr) (i:Nat):Int:=(vs[i]?).elim 0 (·.ini)
def firstV (vs:List EvalSpec.Vr):ActSpec.V4:=⟨iniV vs 0,iniV vs 1,iniV vs 2,iniV vs 3⟩
end ConfSpec
end Go.Proofs.YtckojimeglkobaaGreatDoor
namespace Go.Proofs.YtckojimeglkobaaGreatDoor
namespace GroupSpec
def maskG (c:Nat):Nat → Nat
 | 0 => 0
 | k + 1 => c + 256 * maskG c k
theorem and_mask (x c k:Nat) (hc:c < 256):x &&& maskG c (k + 1) = (x % 256 &&& c) + 256 * (x / 256 &&& maskG c k):=by
 have e0:maskG c (k + 1) = c + 256 * maskG c k:=rfl
 rw [e0]
 generalize maskG c k = r
 have h1:=Nat.and_mod_two_pow (a:=x) (b:=c + 256 * r) (n:=8)
 have h2:=Nat.and_div_two_pow (a:=x) (b:=c + 256 * r) (n:=8)
 rw [show (2:Nat) ^ 8 = 256 from rfl] at h1 h2
 rw [show (c + 256 * r) % 256 = c by omega] at h1
 rw [show (c + 256 * r) / 256 = r by omega] at h2
 rw [← h1,← h2]
 omega
def s1 (b:Nat):Nat:=(b / 2 &&& 85) + (b &&& 85)
def s2 (b:Nat):Nat:=(b / 4 &&& 51) + (b &&& 51)
def f12 (b:Nat):Nat:=s2 (s1 b)
def popb (b:Nat):Nat:=(f12 b / 16 + f12 b) % 16
theorem half_85:∀ y:Fin 512,(y.val / 2 % 256 &&& 85) = (y.val % 256 / 2 &&& 85):=by decide +kernel
theorem quart_51:∀ y:Fin 1024,(y.val / 4 % 256 &&& 51) = (y.val % 256 / 4 &&& 51):=by decide +kernel
theorem s1_lt:∀ b:Fin 256,s1 b.val < 256:=by decide +kernel
theorem f12_lt:∀ b:Fin 256,f12 b.val < 256 ∧ f12 b.val % 16 ≤ 4 ∧ f12 b.val / 16 ≤ 4:=by decide +kernel
theorem popb_eq:∀ b:Fin 256,popb b.val = b.val % 2 + b.val / 2 % 2 + b.val / 4 % 2 + b.val / 8 % 2 + b.val / 16 % 2 + b.val / 32 % 2 + b.val / 64 % 2 + b.val / 128 % 2:=by decide +kernel
theorem half_mask (x:Nat):(x / 2 % 256 &&& 85) = (x % 256 / 2 &&& 85):=by
 have h:=half_85 ⟨x % 512,by omega⟩
 simp only at h
 rw [show x / 2 % 256 = x % 512 / 2 % 256 by omega,h,show x % 512 % 256 = x % 256 by omega]
theorem quart_mask (x:Nat):(x / 4 % 256 &&& 51) = (x % 256 / 4 &&& 51):=by
 have h:=quart_51 ⟨x % 1024,by omega⟩
 simp only at h
 rw [show x / 4 % 256 = x % 1024 / 4 % 256 by omega,h,show x % 1024 % 256 = x % 256 by omega]
def A1 (k x:Nat):Nat:=(x / 2 &&& maskG 85 k) + (x &&& maskG 85 k)
def A2 (k x:Nat):Nat:=(x / 4 &&& maskG 51 k) + (x &&& maskG 51 k)
def A3 (k x:Nat):Nat:=(x / 16 + x) &&& maskG 15 k
theorem A1_next (k x:Nat):A1 (k + 1) x = s1 (x % 256) + 256 * A1 k (x / 256):=by
 unfold A1 s1
 rw [and_mask _ 85 k (by decide),and_mask x 85 k (by decide),half_mask,show x / 2 / 256 = x / 256 / 2 by omega]
 omega
theorem A2_next (k x:Nat):A2 (k + 1) x = s2 (x % 256) + 256 * A2 k (x / 256):=by
 unfold A2 s2
 rw [and_mask _ 51 k (by decide),and_mask x 51 k (by decide),quart_mask,show x / 4 / 256 = x / 256 / 4 by omega]
 omega
def Z (k x:Nat):Nat:=A2 k (A1 k x)
theorem Z_next (k x:Nat):Z (k + 1) x = f12 (x % 256) + 256 * Z k (x / 256):=by
 unfold Z
 have h:=s1_lt ⟨x % 256,by omega⟩
 simp only at h
 rw [A2_next,A1_next,show (s1 (x % 256) + 256 * A1 k (x / 256)) % 256 = s1 (x % 256) by omega,show (s1 (x % 256) + 256 * A1 k (x / 256)) / 256 = A1 k (x / 256) by omega]
 rfl
theorem Z_low (k x:Nat):Z k x % 16 ≤ 4:=by
 cases k with
 | zero => simp [Z,A2,maskG]
 | succ k =>
   rw [Z_next]
   have h:=(f12_lt ⟨x % 256,by omega⟩).2.1
   simp only at h
   omega
def W (k x:Nat):Nat:=A3 k (Z k x)
theorem W_next (k x:Nat):W (k + 1) x = popb (x % 256) + 256 * W k (x / 256):=by
 unfold W A3
 have h:=f12_lt ⟨x % 256,by omega⟩
 simp only at h
 obtain ⟨h1,h2,h3⟩:=h
 have h4:=Z_low k (x / 256)
 rw [Z_next,and_mask _ 15 k (by decide)]
 generalize Z k (x / 256) = r at h4 ⊢
 unfold popb
 generalize f12 (x % 256) = b at h1 h2 h3 ⊢
 have e1:((b + 256 * r) / 16 + (b + 256 * r)) / 256 = r / 16 + r:=by omega
 have e2:((b + 256 * r) / 16 + (b + 256 * r)) % 256 % 16 = (b / 16 + b) % 16:=by omega
 rw [e1,show (15:Nat) = 2 ^ 4 - 1 from rfl,Nat.and_two_pow_sub_one_eq_mod,show (2:Nat) ^ 4 = 16 from rfl,e2]
theorem cnt_low (m k:Nat):(bitsTo m (k + 1)).length = m % 2 + (bitsTo (m / 2) k).length:=by
 induction k with
 | zero =>
   have e:decide (m % 2 = 1) = m.testBit 0:=by rw [Nat.testBit_zero]
   cases h:m.testBit 0 with
   | true => rw [bitsTo_yes h]; rw [h] at e; simp at e; simp [bitsTo]; omega
   | false => rw [bitsTo_no h]; rw [h] at e; simp at e; simp [bitsTo]; omega
 | succ k ih =>
   have e:(m / 2).testBit k = m.testBit (k + 1):=by rw [Nat.testBit_succ]
   cases h:m.testBit (k + 1) with
   | true => rw [bitsTo_yes h,bitsTo_yes (e.trans h),List.length_append,List.length_append,ih]; simp; omega
   | false => rw [bitsTo_no h,bitsTo_no (e.trans h),ih]
theorem bit_mod (m d e:Nat) (h:256 = d * (2 * e)):m % 256 / d % 2 = m / d % 2:=by rw [h,Nat.mod_mul_right_div_self,Nat.mod_mul_right_mod]
theorem cnt_byte (m k:Nat):(bitsTo m (k + 8)).length = popb (m % 256) + (bitsTo (m / 256) k).length:=by
 have h:=popb_eq ⟨m % 256,by omega⟩
 simp only at h
 rw [Nat.mod_mod_of_dvd m (by decide:2 ∣ 256),bit_mod m 2 64 rfl,bit_mod m 4 32 rfl,bit_mod m 8 16 rfl,bit_mod m 16 8 rfl,bit_mod m 32 4 rfl,bit_mod m 64 2 rfl,bit_mod m 128 1 rfl] at h
 have h1:=cnt_low m (k + 7)
 have h2:=cnt_low (m / 2) (k + 6)
 have h3:=cnt_low (m / 4) (k + 5)
 have h4:=cnt_low (m / 8) (k + 4)
 have h5:=cnt_low (m / 16) (k + 3)
 have h6:=cnt_low (m / 32) (k + 2)
 have h7:=cnt_low (m / 64) (k + 1)
 have h8:=cnt_low (m / 128) k
 rw [show m / 2 / 2 = m / 4 by omega] at h2
 rw [show m / 4 / 2 = m / 8 by omega] at h3
 rw [show m / 8 / 2 = m / 16 by omega] at h4
 rw [show m / 16 / 2 = m / 32 by omega] at h5
 rw [show m / 32 / 2 = m / 64 by omega] at h6
 rw [show m / 64 / 2 = m / 128 by omega] at h7
 rw [show m / 128 / 2 = m / 256 by omega] at h8
 generalize m % 2 = b0 at h h1
 generalize m / 2 % 2 = b1 at h h2
 generalize m / 4 % 2 = b2 at h h3
 generalize m / 8 % 2 = b3 at h h4
 generalize m / 16 % 2 = b4 at h h5
 generalize m / 32 % 2 = b5 at h h6
 generalize m / 64 % 2 = b6 at h h7
 generalize m / 128 % 2 = b7 at h h8
 have e:(bitsTo m (k + 8)).length = b0 + (bitsTo (m / 2) (k + 7)).length:=h1
 rw [e,h2,h3,h4,h5,h6,h7,h8,h]
 simp only [Nat.add_assoc]
theorem popb_le (x:Nat):popb (x % 256) ≤ 8:=by
 rw [popb_eq ⟨x % 256,by omega⟩]
 simp only
 omega
theorem parts8 (m:Nat):∃ p0 p1 p2 p3 p4 p5 p6 p7,p0 ≤ 8 ∧ p1 ≤ 8 ∧ p2 ≤ 8 ∧ p3 ≤ 8 ∧ p4 ≤ 8 ∧ p5 ≤ 8 ∧ p6 ≤ 8 ∧ p7 ≤ 8 ∧
 W 8 m = p0 + 256 * p1 + 65536 * p2 + 16777216 * p3 + 4294967296 * p4 + 1099511627776 * p5 + 281474976710656 * p6 + 72057594037927936 * p7 ∧
 (bitsL m).length = p0 + p1 + p2 + p3 + p4 + p5 + p6 + p7:=by
 refine ⟨_,_,_,_,_,_,_,_,popb_le m,popb_le (m / 256),popb_le (m / 256 / 256),popb_le (m / 256 / 256 / 256),popb_le (m / 256 / 256 / 256 / 256),popb_le (m / 256 / 256 / 256 / 256 / 256),popb_le (m / 256 / 256 / 256 / 256 / 256 / 256),popb_le (m / 256 / 256 / 256 / 256 / 256 / 256 / 256),?_,?_⟩
 ·rw [W_next,W_next,W_next,W_next,W_next,W_next,W_next,W_next]
  have z:∀ x,W 0 x = 0:=fun x => by unfold W A3; exact Nat.and_zero _
  rw [z]
  omega
 ·show (bitsTo m 64).length = _
  rw [cnt_byte,cnt_byte,cnt_byte,cnt_byte,cnt_byte,cnt_byte,cnt_byte,cnt_byte]
  show _ + (_ + (_ + (_ + (_ + (_ + (_ + (_ + ([]:List Int).length))))))) = _
  simp only [List.length_nil]
  omega
theorem div_of {y lo hi d:Nat} (h:y = lo + d * hi) (hl:lo < d):y / d = hi:=by
 rw [h,Nat.add_mul_div_left _ _ (by omega),Nat.div_eq_of_lt hl,Nat.zero_add]
section
variable {p0 p1 p2 p3 p4 p5 p6 p7:Nat} (h0:p0 ≤ 8) (h1:p1 ≤ 8) (h2:p2 ≤ 8) (h3:p3 ≤ 8) (h4:p4 ≤ 8) (h5:p5 ≤ 8) (h6:p6 ≤ 8) (h7:p7 ≤ 8)
include h0 h1 h2 h3 h4 h5 h6 h7
theorem st0:p0 + 256 * p1 + 65536 * p2 + 16777216 * p3 + 4294967296 * p4 + 1099511627776 * p5 + 281474976710656 * p6 + 72057594037927936 * p7 < 9223372036854775808:=by omega
omit h1 h2 h3 h4 h5 h6 h7 in
theorem st1:(p0 + 256 * p1 + 65536 * p2 + 16777216 * p3 + 4294967296 * p4 + 1099511627776 * p5 + 281474976710656 * p6 + 72057594037927936 * p7) + (p0 + 256 * p1 + 65536 * p2 + 16777216 * p3 + 4294967296 * p4 + 1099511627776 * p5 + 281474976710656 * p6 + 72057594037927936 * p7) / 256 = p0 + p1 + 256 * (p1 + p2) + 65536 * (p2 + p3 + 256 * (p3 + p4) + 65536 * (p4 + p5) + 16777216 * (p5 + p6) + 4294967296 * (p6 + p7) + 1099511627776 * p7):=by
 have d:(p0 + 256 * p1 + 65536 * p2 + 16777216 * p3 + 4294967296 * p4 + 1099511627776 * p5 + 281474976710656 * p6 + 72057594037927936 * p7) / 256 = p1 + 256 * p2 + 65536 * p3 + 16777216 * p4 + 4294967296 * p5 + 1099511627776 * p6 + 281474976710656 * p7:=div_of (lo:=p0) (by omega) (by omega)
 rw [d]
 omega
theorem st1b:p0 + p1 + 256 * (p1 + p2) + 65536 * (p2 + p3 + 256 * (p3 + p4) + 65536 * (p4 + p5) + 16777216 * (p5 + p6) + 4294967296 * (p6 + p7) + 1099511627776 * p7) < 9223372036854775808:=by omega
omit h3 h4 h5 h6 h7 in
theorem st2:(p0 + p1 + 256 * (p1 + p2) + 65536 * (p2 + p3 + 256 * (p3 + p4) + 65536 * (p4 + p5) + 16777216 * (p5 + p6) + 4294967296 * (p6 + p7) + 1099511627776 * p7)) + (p0 + p1 + 256 * (p1 + p2) + 65536 * (p2 + p3 + 256 * (p3 + p4) + 65536 * (p4 + p5) + 16777216 * (p5 + p6) + 4294967296 * (p6 + p7) + 1099511627776 * p7)) / 65536 = p0 + p1 + (p2 + p3) + 256 * (p1 + p2 + (p3 + p4)) + 65536 * (p2 + p3 + (p4 + p5)) + 16777216 * (p3 + p4 + (p5 + p6)) + 4294967296 * (p4 + p5 + (p6 + p7) + 256 * (p5 + p6 + p7) + 65536 * (p6 + p7) + 16777216 * p7):=by
 have d:(p0 + p1 + 256 * (p1 + p2) + 65536 * (p2 + p3 + 256 * (p3 + p4) + 65536 * (p4 + p5) + 16777216 * (p5 + p6) + 4294967296 * (p6 + p7) + 1099511627776 * p7)) / 65536 = (p2 + p3 + 256 * (p3 + p4) + 65536 * (p4 + p5) + 16777216 * (p5 + p6) + 4294967296 * (p6 + p7) + 1099511627776 * p7):=div_of (lo:=p0 + p1 + 256 * (p1 + p2)) rfl (by omega)
 rw [d]
 omega
theorem st2b:p0 + p1 + (p2 + p3) + 256 * (p1 + p2 + (p3 + p4)) + 65536 * (p2 + p3 + (p4 + p5)) + 16777216 * (p3 + p4 + (p5 + p6)) + 4294967296 * (p4 + p5 + (p6 + p7) + 256 * (p5 + p6 + p7) + 65536 * (p6 + p7) + 16777216 * p7) < 9223372036854775808:=by omega
omit h7 in
theorem st3:(p0 + p1 + (p2 + p3) + 256 * (p1 + p2 + (p3 + p4)) + 65536 * (p2 + p3 + (p4 + p5)) + 16777216 * (p3 + p4 + (p5 + p6)) + 4294967296 * (p4 + p5 + (p6 + p7) + 256 * (p5 + p6 + p7) + 65536 * (p6 + p7) + 16777216 * p7)) + (p0 + p1 + (p2 + p3) + 256 * (p1 + p2 + (p3 + p4)) + 65536 * (p2 + p3 + (p4 + p5)) + 16777216 * (p3 + p4 + (p5 + p6)) + 4294967296 * (p4 + p5 + (p6 + p7) + 256 * (p5 + p6 + p7) + 65536 * (p6 + p7) + 16777216 * p7)) / 4294967296 = p0 + p1 + p2 + p3 + p4 + p5 + p6 + p7 + 128 * (2 * (p1 + p2 + (p3 + p4)) + 512 * (p2 + p3 + (p4 + p5)) + 131072 * (p3 + p4 + (p5 + p6)) + 33554432 * (p4 + p5 + (p6 + p7) + 256 * (p5 + p6 + p7) + 65536 * (p6 + p7) + 16777216 * p7) + 2 * (p5 + p6 + p7) + 512 * (p6 + p7) + 131072 * p7):=by
 have d:(p0 + p1 + (p2 + p3) + 256 * (p1 + p2 + (p3 + p4)) + 65536 * (p2 + p3 + (p4 + p5)) + 16777216 * (p3 + p4 + (p5 + p6)) + 4294967296 * (p4 + p5 + (p6 + p7) + 256 * (p5 + p6 + p7) + 65536 * (p6 + p7) + 16777216 * p7)) / 4294967296 = (p4 + p5 + (p6 + p7) + 256 * (p5 + p6 + p7) + 65536 * (p6 + p7) + 16777216 * p7):=div_of (lo:=p0 + p1 + (p2 + p3) + 256 * (p1 + p2 + (p3 + p4)) + 65536 * (p2 + p3 + (p4 + p5)) + 16777216 * (p3 + p4 + (p5 + p6))) rfl (by omega)
 rw [d]
 omega
theorem st3b:p0 + p1 + p2 + p3 + p4 + p5 + p6 + p7 + 128 * (2 * (p1 + p2 + (p3 + p4)) + 512 * (p2 + p3 + (p4 + p5)) + 131072 * (p3 + p4 + (p5 + p6)) + 33554432 * (p4 + p5 + (p6 + p7) + 256 * (p5 + p6 + p7) + 65536 * (p6 + p7) + 16777216 * p7) + 2 * (p5 + p6 + p7) + 512 * (p6 + p7) + 131072 * p7) < 9223372036854775808:=by omega
end
theorem fold8 (m:Nat):∃ x0 x1 x2 x3:Nat,x0 = W 8 m ∧ x1 = x0 + x0 / 256 ∧ x2 = x1 + x1 / 65536 ∧ x3 = x2 + x2 / 4294967296 ∧ x0 < 9223372036854775808 ∧ x1 < 9223372036854775808 ∧ x2 < 9223372036854775808 ∧ x3 < 9223372036854775808 ∧ x3 % 128 = (bitsL m).length:=by
 obtain ⟨p0,p1,p2,p3,p4,p5,p6,p7,h0,h1,h2,h3,h4,h5,h6,h7,hw,hl⟩:=parts8 m
 rw [hl,hw]
 refine ⟨_,_,_,_,rfl,(st1 h0).symm,(st2 h0 h1 h2).symm,(st3 h0 h1 h2 h3 h4 h5 h6).symm,st0 h0 h1 h2 h3 h4 h5 h6 h7,st1b h0 h1 h2 h3 h4 h5 h6 h7,st2b h0 h1 h2 h3 h4 h5 h6 h7,st3b h0 h1 h2 h3 h4 h5 h6 h7,?_⟩
 rw [Nat.add_mul_mod_self_left,Nat.mod_eq_of_lt (by omega)]
theorem mask85:maskG 85 8 = 6148914691236517205:=by decide
theorem mask51:maskG 51 8 = 3689348814741910323:=by decide
theorem mask15:maskG 15 8 = 1085102592571150095:=by decide
end GroupSpec
end Go.Proofs.YtckojimeglkobaaGreatDoor
namespace Go.Proofs.YtckojimeglkobaaGreatDoor
open Go.RowKit
set_option maxRecDepth 100000
def tabV:List Value:=Lib.deBruijn64tab.map fun (k:Nat) => Value.int .u8 (k:Int)
def TabIn (w:World):Prop:=∃ T fr,w.heap[0]? = some (.cells tabV.toArray T fr)
theorem TabIn.pos {w:World} (h:TabIn w):0 < w.heap.size:=by
 obtain ⟨T,fr,h⟩:=h
 exact (Array.getElem?_eq_some_iff.1 h).1
theorem TabIn.keep {w w':World} (h:TabIn w) (hb:Below w.heap.size w w'):TabIn w':=by
 have hp:=h.pos
 obtain ⟨T,fr,h⟩:=h
 exact ⟨T,fr,(hb.block _ hp).trans h⟩
theorem TabIn.cell {w:World} (h:TabIn w) {i k:Nat} (hi:Lib.deBruijn64tab.getD i 0 = k) (hl:i < 64):w.cell? ⟨0,i,none⟩ = some (.int .u8 k):=by
 obtain ⟨T,fr,h⟩:=h
 have e:tabV[i]? = some (.int .u8 k):=by
  have hlen:Lib.deBruijn64tab.length = 64:=rfl
  have h1:Lib.deBruijn64tab[i]? = some k:=by
   rw [List.getD_eq_getElem?_getD] at hi
   rw [List.getElem?_eq_getElem (by omega)] at hi ⊢
   exact congrArg some hi
  unfold tabV
  rw [List.getElem?_map,h1]
  rfl
 simp [World.cell?,h,e]
theorem cells_of_u8s {H:Type} {enc:TypeId × Value → H} {P:Program} {w:World} {base:Nat} {sp:Nat → Bool} {held:Bool} {fuel:Nat} {t e:TypeId} {n:Nat} {cs:List Value} {bs:List Nat} {p:List MemPlace}
 (ht:P.underlying t = some (.array n e)) (he:P.underlying e = some (.int .u8)) (hce:P.cellsOf e = 1) (hct:P.cellsOf t = n)
 (h:DataW.trod enc P w base sp held fuel t cs = some (.agg (bs.map fun (b:Nat) => .lit (.int .u8 (b:Int))),p)):cs = bs.map fun (b:Nat) => Value.int .u8 (b:Int):=by
 obtain ⟨xs,m,rfl,hx,hl,hxl,hel⟩:=DataW.trod_array ht h
 simp only [Prod.mk.injEq,DataW.agg.injEq] at hx
 have hxs:=hx.1
 have hbl:bs.length = n:=by
  have:=congrArg List.length hxs
  simp at this
  omega
 rw [hct] at hl
 apply List.ext_getElem?
 intro i
 by_cases hi:i < n
 ·obtain ⟨b,hb⟩:∃ b,xs[i]? = some b:=get_some (by omega)
  have hf:=(hel i hi).trans hb
  rw [hce,Nat.mul_one] at hf
  obtain ⟨s,hc,rfl,_⟩:=DataW.trod_int he hf
  have h1:cs[i]? = some (.int .u8 s):=by
   have:=congrArg (·[0]?) hc
   simpa [List.getElem?_take,List.getElem?_drop] using this
  have h2:(xs.map (·.1))[i]? = some (DataW.lit (.int .u8 s):DataW H):=by simp [hb]
  rw [← hxs] at h2
  simp only [List.getElem?_map,Option.map_eq_some_iff,DataW.lit.injEq,Lit.int.injEq] at h2
  obtain ⟨z,hz,-,rfl⟩:=h2
  simp [h1,hz]
 ·rw [List.getElem?_eq_none (by omega),List.getElem?_eq_none (by simp; omega)]
theorem gTab : Tryz.prog.globalNamed "math/bits.deBruijn64tab" = some 0 := by kernel_rfl
theorem tTab:(Tryz.prog.globals[0]?).map (·.type) = some 152:=by kernel_rfl
theorem tab_in {W : World} {rest : List (String × DataW Unit)} (h : laidMet Tryz.prog (("math/bits.deBruijn64tab", Rows.laid_math_bits_deBruijn64tab) :: rest) W) : TabIn W := by
 obtain ⟨ps,⟨g',t',cs,fuel,p,q,hg',ht',hvar,hd,_,_⟩,_⟩:=h
 obtain rfl:=Option.some.inj (gTab.symm.trans hg')
 obtain rfl:=Option.some.inj (tTab.symm.trans ht')
 have hc:=cells_of_u8s (bs:=Lib.deBruijn64tab) Tryz.underlying152 Tryz.underlying5 (by kernel_rfl) (by kernel_rfl) hd
 have e:cs = tabV.toArray:=Array.toList_inj.mp hc
 subst e
 unfold World.var? at hvar
 rw [gTab] at hvar
 simp only [Option.bind_some] at hvar
 split at hvar
 ·rename_i cs' T fr hb
  cases hvar
  exact ⟨T,fr,hb⟩
 ·cases hvar
end Go.Proofs.YtckojimeglkobaaGreatDoor