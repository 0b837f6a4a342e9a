/- ShapeSpec, GroupSpec, GroupBits, AtlasSpec, joined. -/
import Derived.Test.YtckojimeglkobaaGreatDoorMConfFills00
import Derived.Lib.TrailingZeros
namespace Go.Proofs.YtckojimeglkobaaGreatDoor
namespace ShapeSpec
structure Sh where
 kind:Int
 par:Int
def par (l:List Sh) (i:Nat):Int:=(l[i]?).elim (-1) (·.par)
def kind (l:List Sh) (i:Nat):Int:=(l[i]?).elim 0 (·.kind)
theorem par_at {l:List Sh} {i:Nat} {s:Sh} (h:l[i]? = some s):par l i = s.par:=by simp [par,h]
theorem kind_at {l:List Sh} {i:Nat} {s:Sh} (h:l[i]? = some s):kind l i = s.kind:=by simp [kind,h]
def upF (l:List Sh):Nat → Nat → List Nat
 | 0,_ => []
 | f + 1,i => if 0 ≤ par l i ∧ par l i < i then (par l i).toNat :: upF l f (par l i).toNat else []
theorem upF_fuel (l:List Sh):∀ f g i,i ≤ f → i ≤ g → upF l f i = upF l g i
 | 0,0,_,_,_ => rfl
 | 0,g + 1,i,h,_ => by
   obtain rfl:i = 0:=by omega
   rw [upF,upF,if_neg (by omega)]
 | f + 1,0,i,_,h => by
   obtain rfl:i = 0:=by omega
   rw [upF,upF,if_neg (by omega)]
 | f + 1,g + 1,i,hf,hg => by
   rw [upF,upF]
   split
   ·rw [upF_fuel l f g _ (by omega) (by omega)]
   ·rfl
def up (l:List Sh) (i:Nat):List Nat:=upF l i i
theorem up_no {l:List Sh} {i:Nat} (h:¬ (0 ≤ par l i ∧ par l i < i)):up l i = []:=by
 unfold up
 cases i with
 | zero => rfl
 | succ i => rw [upF,if_neg h]
theorem up_par {l:List Sh} {i:Nat} (h0:0 ≤ par l i) (h1:par l i < i):up l i = (par l i).toNat :: up l (par l i).toNat:=by
 unfold up
 cases i with
 | zero => omega
 | succ i => rw [upF,if_pos ⟨h0,h1⟩,upF_fuel l i _ _ (by omega) (Nat.le_refl _)]
def sf (l:List Sh) (i:Nat):List Nat:=i :: up l i
theorem up_sf {l:List Sh} {i:Nat} (h0:0 ≤ par l i) (h1:par l i < i):up l i = sf l (par l i).toNat:=up_par h0 h1
theorem up_lt {l:List Sh}:∀ {i j:Nat},j ∈ up l i → j < i:=by
 intro i
 induction i using Nat.strongRecOn with
 | ind i ih =>
   intro j h
   by_cases hp:0 ≤ par l i ∧ par l i < i
   ·rw [up_par hp.1 hp.2,List.mem_cons] at h
    rcases h with rfl | h
    ·omega
    ·have:=ih _ (by omega) h
     omega
   ·rw [up_no hp] at h
    simp at h
theorem sf_le {l:List Sh} {i j:Nat} (h:j ∈ sf l i):j ≤ i:=by
 rcases List.mem_cons.1 h with rfl | h
 ·omega
 ·exact Nat.le_of_lt (up_lt h)
theorem sf_self (l:List Sh) (i:Nat):i ∈ sf l i:=List.mem_cons_self ..
theorem sf_up {l:List Sh} {i j:Nat} (h:j ∈ sf l i) (hne:j ≠ i):j ∈ up l i:=by
 rcases List.mem_cons.1 h with rfl | h
 ·exact absurd rfl hne
 ·exact h
theorem up_in {l:List Sh} {i j:Nat} (h:j ∈ up l i):j ∈ sf l i:=List.mem_cons_of_mem _ h
theorem sf_sub {l:List Sh}:∀ {i j m:Nat},j ∈ sf l i → m ∈ sf l j → m ∈ sf l i:=by
 intro i
 induction i using Nat.strongRecOn with
 | ind i ih =>
   intro j m hj hm
   by_cases hji:j = i
   ·subst hji
    exact hm
   ·have hj':=sf_up hj hji
    by_cases hp:0 ≤ par l i ∧ par l i < i
    ·rw [up_sf hp.1 hp.2] at hj'
     refine up_in ?_
     rw [up_sf hp.1 hp.2]
     exact ih _ (by omega) hj' hm
    ·rw [up_no hp] at hj'
     simp at hj'
theorem up_length_le (l:List Sh):∀ i,(up l i).length ≤ i:=by
 intro i
 induction i using Nat.strongRecOn with
 | ind i ih =>
   by_cases hp:0 ≤ par l i ∧ par l i < i
   ·rw [up_par hp.1 hp.2,List.length_cons]
    have:=ih (par l i).toNat (by omega)
    omega
   ·rw [up_no hp]
    simp
def hangB (l:List Sh) (i:Nat):Bool :=
 if i = 0 then decide (par l i = -1) else decide (0 ≤ par l i) && decide (par l i < i) && decide (kind l (par l i).toNat ≠ 1) && decide ((par l i).toNat ∈ sf l (i - 1))
def goodB (l:List Sh) (i:Nat):Bool:=decide (1 ≤ kind l i) && decide (kind l i ≤ 3) && hangB l i
def standB (l:List Sh):Bool:=decide (0 < l.length) && (List.range l.length).all (goodB l)
def deepB (l:List Sh):Bool:=(List.range l.length).any fun i => decide (11 < (up l i).length)
def chk (l:List Sh):Int:=if 60 < l.length then 8 else if standB l = false then 1 else if deepB l = true then 6 else 0
def SU (l:List Sh) (n:Nat):Prop:=∀ i,i < n → goodB l i = true
theorem SU.zero (l:List Sh):SU l 0:=fun _ h => absurd h (by omega)
theorem SU.next {l:List Sh} {n:Nat} (h:SU l n) (hg:goodB l n = true):SU l (n + 1):=fun i hi => by
 by_cases e:i = n
 ·rw [e]; exact hg
 ·exact h i (by omega)
theorem SU.mono {l:List Sh} {n m:Nat} (h:SU l n) (hm:m ≤ n):SU l m:=fun i hi => h i (by omega)
theorem SU.root {l:List Sh} {n:Nat} (h:SU l n) (hn:0 < n):par l 0 = -1:=by
 have:=h 0 hn
 simp [goodB,hangB] at this
 exact this.2
theorem SU.par {l:List Sh} {n i:Nat} (h:SU l n) (hi:i < n) (h0:0 < i):0 ≤ par l i ∧ par l i < i ∧ (par l i).toNat ∈ sf l (i - 1):=by
 have:=h i hi
 have e:i ≠ 0:=by omega
 simp [goodB,hangB,e] at this
 exact ⟨this.2.1.1.1,this.2.1.1.2,this.2.2⟩
theorem SU.parn {l:List Sh} {n i:Nat} (h:SU l n) (hi:i < n) (h0:0 < i):∃ p:Nat,ShapeSpec.par l i = p ∧ p < i ∧ up l i = sf l p ∧ p ∈ sf l (i - 1):=by
 obtain ⟨a,b,c⟩:=h.par hi h0
 exact ⟨(ShapeSpec.par l i).toNat,by omega,by omega,up_sf a b,c⟩
theorem stand_su {l:List Sh} (h:standB l = true):0 < l.length ∧ SU l l.length:=by
 simp [standB] at h
 refine ⟨?_,fun i hi => h.2 i hi⟩
 cases l with
 | nil => simp at h
 | cons => simp
theorem stand_of {l:List Sh} (h0:0 < l.length) (h:SU l l.length):standB l = true:=by
 simp only [standB,Bool.and_eq_true,decide_eq_true_eq,List.all_eq_true,List.mem_range]
 exact ⟨h0,h⟩
theorem stand_not {l:List Sh} {i:Nat} (hi:i < l.length) (h:goodB l i = false):standB l = false:=by
 cases hs:standB l with
 | false => rfl
 | true => rw [(stand_su hs).2 i hi] at h; cases h
theorem chk_ok {l:List Sh} (h:chk l = 0):l.length ≤ 60 ∧ standB l = true ∧ ∀ i,i < l.length → (up l i).length ≤ 11:=by
 unfold chk at h
 split at h
 ·cases h
 ·split at h
  ·cases h
  ·split at h
   ·cases h
   ·rename_i h1 h2 h3
    refine ⟨by omega,by simpa using h2,fun i hi => ?_⟩
    simp only [deepB,Bool.not_eq_true,List.any_eq_false,List.mem_range,decide_eq_true_eq] at h3
    exact Nat.le_of_not_lt (h3 i hi)
theorem chk_su {l:List Sh} (h:chk l = 0):SU l l.length:=(stand_su (chk_ok h).2.1).2
def kidsTo (l:List Sh) (i n:Nat):List Int:=((List.range n).filter fun k => decide (par l k = i)).map Int.ofNat
def kids (l:List Sh) (i:Nat):List Int:=kidsTo l i l.length
theorem kids_yes {l:List Sh} {i n:Nat} (h:par l n = i):kidsTo l i (n + 1) = kidsTo l i n ++ [(n:Int)]:=by simp [kidsTo,List.range_succ,List.filter_append,h]
theorem kids_no {l:List Sh} {i n:Nat} (h:par l n ≠ i):kidsTo l i (n + 1) = kidsTo l i n:=by simp [kidsTo,List.range_succ,List.filter_append,h]
theorem kids_le (l:List Sh) (i n:Nat):(kidsTo l i n).length ≤ n:=by
 unfold kidsTo
 rw [List.length_map]
 have:=List.length_filter_le (fun k => decide (par l k = i)) (List.range n)
 simpa using this
def upI (l:List Sh) (i:Nat):List Int:=(up l i).map Int.ofNat
def sfI (l:List Sh) (i:Nat):List Int:=(sf l i).map Int.ofNat
theorem upI_length (l:List Sh) (i:Nat):(upI l i).length = (up l i).length:=by simp [upI]
theorem sfI_length (l:List Sh) (i:Nat):(sfI l i).length = (up l i).length + 1:=by simp [sfI,sf]
theorem sfI_cons (l:List Sh) (i:Nat):sfI l i = [(i:Int)] ++ upI l i:=rfl
theorem mem_ints {a:List Nat} {j:Nat}:(j:Int) ∈ a.map Int.ofNat ↔ j ∈ a:=by
 rw [List.mem_map]
 constructor
 ·rintro ⟨x,hx,e⟩
  obtain rfl:x = j:=Int.ofNat.inj e
  exact hx
 ·exact fun h => ⟨j,h,rfl⟩
theorem upI_mem {l:List Sh} {i j:Nat}:(j:Int) ∈ upI l i ↔ j ∈ up l i:=mem_ints
def endTo (l:List Sh) (i:Nat):Nat → Nat
 | 0 => i + 1
 | k + 1 => if i ∈ up l k then k + 1 else endTo l i k
def endOf (l:List Sh) (i:Nat):Nat:=endTo l i l.length
theorem endTo_gt {l:List Sh} {i:Nat}:∀ n,i < endTo l i n
 | 0 => by rw [endTo]; omega
 | n + 1 => by
   rw [endTo]
   split
   ·have:=up_lt ‹_›
    omega
   ·exact endTo_gt n
theorem endTo_le {l:List Sh} {i:Nat}:∀ {n},endTo l i n ≤ max (i + 1) n
 | 0 => by rw [endTo]; omega
 | n + 1 => by
   rw [endTo]
   split
   ·omega
   ·have:=endTo_le (l:=l) (i:=i) (n:=n)
    omega
theorem endTo_mem {l:List Sh} {i k:Nat} (h:i ∈ up l k):∀ {n},k < n → k < endTo l i n
 | 0,hk => absurd hk (by omega)
 | n + 1,hk => by
   rw [endTo]
   split
   ·omega
   ·rename_i hn
    have:k ≠ n:=by rintro rfl; exact hn h
    exact endTo_mem h (by omega)
theorem endTo_last {l:List Sh} {i:Nat}:∀ {n},endTo l i n = i + 1 ∨ i ∈ up l (endTo l i n - 1) ∧ endTo l i n ≤ n
 | 0 => .inl rfl
 | n + 1 => by
   rw [endTo]
   split
   ·exact .inr ⟨by simpa using ‹i ∈ up l n›,Nat.le_refl _⟩
   ·rcases endTo_last (l:=l) (i:=i) (n:=n) with h | ⟨h,h'⟩
    ·exact .inl h
    ·exact .inr ⟨h,by omega⟩
theorem below_stop {l:List Sh} {n i k:Nat} (h:SU l n) (hk:k < n) (hi:i < k) (hno:i ∉ sf l (k - 1)):i ∉ up l k:=by
 obtain ⟨p,hp,hlt,hup,hin⟩:=h.parn hk (by omega)
 rw [hup]
 exact fun hm => hno (sf_sub hin hm)
theorem below_none {l:List Sh} {n i e:Nat} (h:SU l n) (hi:i < e) (hno:i ∉ up l e):∀ k,e ≤ k → k < n → i ∉ up l k:=by
 intro k
 induction k with
 | zero => intro h1 _; omega
 | succ k ih =>
   intro h1 h2
   by_cases e1:e = k + 1
   ·rw [← e1]
    exact hno
   ·have hk:=ih (by omega) (by omega)
    refine below_stop h h2 (by omega) fun hm => hk (sf_up (by simpa using hm) (by omega))
theorem end_bd {l:List Sh} {i:Nat} (hi:i < l.length):i < endOf l i ∧ endOf l i ≤ l.length:=by
 refine ⟨endTo_gt _,?_⟩
 have:=endTo_le (l:=l) (i:=i) (n:=l.length)
 unfold endOf
 omega
theorem end_iff {l:List Sh} {i k:Nat} (h:SU l l.length) (hi:i < l.length) (hk:k < l.length):i ∈ sf l k ↔ i ≤ k ∧ k < endOf l i:=by
 constructor
 ·intro hm
  refine ⟨sf_le hm,?_⟩
  by_cases e:i = k
  ·rw [← e]
   exact (end_bd hi).1
  ·exact endTo_mem (sf_up hm e) hk
 ·rintro ⟨h1,h2⟩
  rcases Classical.em (i ∈ sf l k) with hm | hm
  ·exact hm
  ·exfalso
   have hne:i ≠ k:=by rintro rfl; exact hm (sf_self _ _)
   have hno:i ∉ up l k:=fun hu => hm (up_in hu)
   rcases endTo_last (l:=l) (i:=i) (n:=l.length) with e | ⟨e,e'⟩
   ·have:endOf l i = i + 1:=e
    omega
   ·have hlt:k < endTo l i l.length:=h2
    exact below_none h (by omega) hno (endTo l i l.length - 1) (by omega) (by omega) e
def meet (l:List Sh) (i k:Nat):Int:=((sf l i).find? fun a => decide (a ∈ sf l k)).elim (-1) Int.ofNat
end ShapeSpec
end Go.Proofs.YtckojimeglkobaaGreatDoor
namespace Go.Proofs.YtckojimeglkobaaGreatDoor
namespace GroupSpec
def valTo (f:Nat → Bool):Nat → Nat
 | 0 => 0
 | k + 1 => valTo f k + if f k then 2 ^ k else 0
theorem valTo_lt (f:Nat → Bool) (k:Nat):valTo f k < 2 ^ k:=by
 induction k with
 | zero => exact Nat.one_pos
 | succ k ih =>
   show valTo f k + _ < _
   rw [Nat.pow_succ]
   split <;> omega
theorem valTo_bit (f:Nat → Bool) (k i:Nat):(valTo f k).testBit i = (decide (i < k) && f i):=by
 induction k with
 | zero => simp [valTo]
 | succ k ih =>
   show (valTo f k + _).testBit i = _
   have hlt:=valTo_lt f k
   cases hf:f k with
   | false =>
     rw [if_neg (by simp),Nat.add_zero,ih]
     by_cases h:i = k
     ·subst h; simp [hf]
     ·have e:decide (i < k + 1) = decide (i < k):=by simp; omega
      rw [e]
   | true =>
     rw [if_pos rfl,Nat.add_comm]
     by_cases h:i = k
     ·subst h
      rw [Nat.testBit_two_pow_add_eq,ih]
      simp [hf]
     ·rcases Nat.lt_or_gt_of_ne h with h1 | h1
      ·rw [Nat.testBit_two_pow_add_gt h1,ih]
       have e:decide (i < k + 1) = decide (i < k):=by simp; omega
       rw [e]
      ·have h2:2 ^ k + valTo f k < 2 ^ i:=by
        have:2 ^ (k + 1) ≤ 2 ^ i:=Nat.pow_le_pow_right (by decide) h1
        rw [Nat.pow_succ] at this
        omega
       rw [Nat.testBit_lt_two_pow h2]
       have e:decide (i < k + 1) = false:=by simp; omega
       rw [e]; rfl
theorem bits_eq {a b:Nat} (ha:a < 2 ^ 64) (hb:b < 2 ^ 64) (h:∀ i,i < 64 → a.testBit i = b.testBit i):a = b:=by
 apply Nat.eq_of_testBit_eq
 intro i
 by_cases hi:i < 64
 ·exact h i hi
 ·have hp:2 ^ 64 ≤ 2 ^ i:=Nat.pow_le_pow_right (by decide) (by omega)
  rw [Nat.testBit_lt_two_pow (Nat.lt_of_lt_of_le ha hp),Nat.testBit_lt_two_pow (Nat.lt_of_lt_of_le hb hp)]
def hasG (m:Nat) (i:Int):Bool:=decide (0 ≤ i) && (decide (i ≤ 63) && m.testBit i.toNat)
def bitsTo (m:Nat):Nat → List Int
 | 0 => []
 | k + 1 => bitsTo m k ++ if m.testBit k then [(k:Int)] else []
def bitsL (m:Nat):List Int:=bitsTo m 64
theorem bitsTo_yes {m k:Nat} (h:m.testBit k = true):bitsTo m (k + 1) = bitsTo m k ++ [(k:Int)]:=by show bitsTo m k ++ _ = _; rw [if_pos h]
theorem bitsTo_no {m k:Nat} (h:m.testBit k = false):bitsTo m (k + 1) = bitsTo m k:=by show bitsTo m k ++ _ = _; rw [if_neg (by simp [h]),List.append_nil]
theorem mem_bitsTo {m k:Nat} {x:Int}:x ∈ bitsTo m k ↔ ∃ i:Nat,i < k ∧ x = i ∧ m.testBit i = true:=by
 induction k with
 | zero => simp [bitsTo]
 | succ k ih =>
   cases h:m.testBit k with
   | true =>
     rw [bitsTo_yes h,List.mem_append,ih,List.mem_singleton]
     constructor
     ·rintro (⟨i,h1,h2,h3⟩ | rfl)
      ·exact ⟨i,by omega,h2,h3⟩
      ·exact ⟨k,by omega,rfl,h⟩
     ·rintro ⟨i,h1,rfl,h3⟩
      by_cases e:i = k
      ·subst e; exact .inr rfl
      ·exact .inl ⟨i,by omega,rfl,h3⟩
   | false =>
     rw [bitsTo_no h,ih]
     constructor
     ·rintro ⟨i,h1,h2,h3⟩
      exact ⟨i,by omega,h2,h3⟩
     ·rintro ⟨i,h1,rfl,h3⟩
      by_cases e:i = k
      ·subst e; rw [h] at h3; cases h3
      ·exact ⟨i,by omega,rfl,h3⟩
theorem mem_bitsL {m:Nat} {x:Int}:x ∈ bitsL m ↔ hasG m x = true:=by
 unfold bitsL hasG
 rw [mem_bitsTo]
 simp only [Bool.and_eq_true,decide_eq_true_eq]
 constructor
 ·rintro ⟨i,h1,rfl,h3⟩
  exact ⟨by omega,by omega,by simpa using h3⟩
 ·rintro ⟨h1,h2,h3⟩
  exact ⟨x.toNat,by omega,by omega,h3⟩
def ofG (l:List Int):Nat:=valTo (fun i => decide ((i:Int) ∈ l)) 64
theorem ofG_lt (l:List Int):ofG l < 2 ^ 64:=valTo_lt _ _
theorem ofG_bit (l:List Int) (i:Nat):(ofG l).testBit i = (decide (i < 64) && decide ((i:Int) ∈ l)):=valTo_bit _ _ _
def withG (m:Nat) (i:Int):Nat:=if 0 ≤ i ∧ i ≤ 63 then m ||| 2 ^ i.toNat else m
theorem high_next (m j:Nat):m / 2 ^ j = 2 * (m / 2 ^ (j + 1)) + (m.testBit j).toNat:=by
 have h1:m / 2 ^ (j + 1) = m / 2 ^ j / 2:=by rw [Nat.pow_succ,Nat.div_div_eq_div_mul]
 have h2:(m.testBit j).toNat = m / 2 ^ j % 2:=by
  rw [Nat.testBit_eq_decide_div_mod_eq]
  have:=Nat.mod_two_eq_zero_or_one (m / 2 ^ j)
  rcases this with h | h <;> simp [h]
 rw [h1,h2]
 omega
theorem low_next (m k:Nat):m / 2 ^ k / 2 = m / 2 ^ (k + 1):=by rw [Nat.pow_succ,Nat.div_div_eq_div_mul]
theorem low_bit (m k:Nat):decide (m / 2 ^ k % 2 = 1) = m.testBit k:=by rw [Nat.testBit_eq_decide_div_mod_eq]
def withinG (a b:Nat):Bool:=(bitsL a).all fun x => hasG b x
theorem bit_hasG {m i:Nat} (hi:i < 64):hasG m (i:Int) = m.testBit i:=by
 unfold hasG
 rw [Int.toNat_natCast,decide_eq_true (by omega:(0:Int) ≤ i),decide_eq_true (by omega:(i:Int) ≤ 63)]
 rfl
theorem withinG_iff {a b:Nat}:withinG a b = true ↔ ∀ i,i < 64 → a.testBit i = true → b.testBit i = true:=by
 unfold withinG
 rw [List.all_eq_true]
 constructor
 ·intro h i hi hb
  rw [← bit_hasG hi]
  exact h i (mem_bitsL.2 (by rw [bit_hasG hi]; exact hb))
 ·intro h x hx
  obtain ⟨i,hi,rfl,hb⟩:=mem_bitsTo.1 hx
  rw [bit_hasG hi]
  exact h i hi hb
end GroupSpec
end Go.Proofs.YtckojimeglkobaaGreatDoor
namespace Go.Proofs.YtckojimeglkobaaGreatDoor
namespace GroupSpec
def aloneG (i:Int):Nat:=if 0 ≤ i ∧ i ≤ 63 then 2 ^ i.toNat else 0
theorem aloneG_lt (i:Int):aloneG i < 2 ^ 64:=by
 unfold aloneG
 split
 ·exact Nat.pow_lt_pow_right (by decide) (by omega)
 ·decide
theorem aloneG_bit (i:Int) (k:Nat):(aloneG i).testBit k = (decide (i ≤ 63) && decide ((k:Int) = i)):=by
 unfold aloneG
 split
 ·rename_i h
  rw [Nat.testBit_two_pow,Bool.eq_iff_iff]
  simp only [Bool.and_eq_true,decide_eq_true_eq]
  omega
 ·rename_i h
  rw [Nat.zero_testBit,eq_comm,Bool.and_eq_false_iff]
  simp only [decide_eq_false_iff_not]
  omega
theorem not_bit {b:Nat} (hb:b < 2 ^ 64) (k:Nat):(18446744073709551615 - b).testBit k = (decide (k < 64) && !b.testBit k):=by
 have e:18446744073709551615 - b = 2 ^ 64 - (b + 1):=by omega
 rw [e,Nat.testBit_two_pow_sub_succ hb]
theorem has_and {m:Nat} (i:Int):decide (m &&& aloneG i ≠ 0) = hasG m i:=by
 rw [Bool.eq_iff_iff,decide_eq_true_iff]
 unfold hasG
 simp only [Bool.and_eq_true,decide_eq_true_eq]
 constructor
 ·intro h
  obtain ⟨k,hk⟩:=Nat.exists_testBit_of_ne_zero h
  rw [Nat.testBit_and,aloneG_bit] at hk
  simp only [Bool.and_eq_true,decide_eq_true_eq] at hk
  obtain ⟨h1,h2,rfl⟩:=hk
  exact ⟨by omega,by omega,by simpa using h1⟩
 ·rintro ⟨h1,h2,h3⟩ h0
  have:(m &&& aloneG i).testBit i.toNat = true:=by
   rw [Nat.testBit_and,aloneG_bit,h3]
   simp only [Bool.true_and,Bool.and_eq_true,decide_eq_true_eq]
   omega
  rw [h0,Nat.zero_testBit] at this
  cases this
theorem with_or (m:Nat) (i:Int):m ||| aloneG i = withG m i:=by
 unfold aloneG withG
 split
 ·rfl
 ·exact Nat.or_zero m
theorem withG_lt {m:Nat} (h:m < 2 ^ 64) (i:Int):withG m i < 2 ^ 64:=by
 rw [← with_or]
 exact Nat.or_lt_two_pow h (aloneG_lt i)
theorem withG_bit (m:Nat) (i:Int) (k:Nat):(withG m i).testBit k = (m.testBit k || (decide (i ≤ 63) && decide ((k:Int) = i))):=by
 rw [← with_or,Nat.testBit_or,aloneG_bit]
theorem within_and {a b:Nat} (hb:b < 2 ^ 64):decide (a &&& (18446744073709551615 - b) = 0) = withinG a b:=by
 rw [Bool.eq_iff_iff,decide_eq_true_iff,withinG_iff]
 constructor
 ·intro h i hi ha
  have:(a &&& (18446744073709551615 - b)).testBit i = false:=by rw [h,Nat.zero_testBit]
  rw [Nat.testBit_and,not_bit hb,ha,decide_eq_true hi] at this
  simpa using this
 ·intro h
  apply Nat.eq_of_testBit_eq
  intro i
  rw [Nat.zero_testBit,Nat.testBit_and,not_bit hb]
  by_cases hi:i < 64
  ·cases ha:a.testBit i with
   | false => rfl
   | true => rw [h i hi ha]; simp
  ·rw [decide_eq_false hi]; simp
theorem foldl_bit (l:List Int) (m k:Nat) (hk:k < 64):(l.foldl withG m).testBit k = (m.testBit k || decide ((k:Int) ∈ l)):=by
 induction l generalizing m with
 | nil => simp
 | cons x l ih =>
   rw [List.foldl_cons,ih,withG_bit,Bool.eq_iff_iff]
   simp only [Bool.or_eq_true,Bool.and_eq_true,decide_eq_true_eq,List.mem_cons]
   constructor
   ·rintro ((h | ⟨_,h⟩) | h)
    ·exact .inl h
    ·exact .inr (.inl h)
    ·exact .inr (.inr h)
   ·rintro (h | h | h)
    ·exact .inl (.inl h)
    ·exact .inl (.inr ⟨by omega,h⟩)
    ·exact .inr h
theorem foldl_lt (l:List Int) {m:Nat} (h:m < 2 ^ 64):l.foldl withG m < 2 ^ 64:=by
 induction l generalizing m with
 | nil => exact h
 | cons x l ih => exact ih (withG_lt h x)
theorem of_foldl (l:List Int):l.foldl withG 0 = ofG l:=by
 refine bits_eq (foldl_lt l (by decide)) (ofG_lt l) fun k hk => ?_
 rw [foldl_bit l 0 k hk,ofG_bit,Nat.zero_testBit,decide_eq_true hk]
 rfl
def dropG (m:Nat):Nat:=m &&& (m - 1)
theorem dropG_le (m:Nat):dropG m ≤ m:=Nat.and_le_left
theorem ctz_spec {m:Nat} (h0:m ≠ 0) (h:m < 2 ^ 64):∃ q,m = 2 ^ Lib.ctz 64 m * (2 * q + 1) ∧ Lib.ctz 64 m < 64:=by
 obtain ⟨q,h1,h2⟩:=Lib.ctzFrom_spec 64 m (by omega) h
 have e:Lib.ctz 64 m = Lib.ctzFrom 64 m:=by simp [Lib.ctz,h0]
 rw [e]
 exact ⟨q,h1,h2⟩
theorem low_bit_of (c q j:Nat):(2 ^ c * (2 * q + 1)).testBit j = (decide (c ≤ j) && (2 * q + 1).testBit (j - c)):=by
 rw [Nat.mul_comm,Nat.testBit_mul_two_pow]
theorem drop_bit (c q j:Nat):(dropG (2 ^ c * (2 * q + 1))).testBit j = ((2 ^ c * (2 * q + 1)).testBit j && !decide (j = c)):=by
 unfold dropG
 have hp:0 < 2 ^ c:=Nat.two_pow_pos c
 have e:2 ^ c * (2 * q + 1) - 1 = 2 ^ c * (2 * q) + (2 ^ c - 1):=by rw [Nat.mul_add,Nat.mul_one]; omega
 rw [Nat.testBit_and,e,Nat.testBit_two_pow_mul_add _ (by omega),low_bit_of]
 by_cases h1:j < c
 ·have:decide (c ≤ j) = false:=decide_eq_false (by omega)
  rw [this]
  rfl
 ·rw [if_neg h1]
  by_cases h2:j = c
  ·subst h2
   simp
  ·obtain ⟨s,hs⟩:∃ s,j - c = s + 1:=⟨j - c - 1,by omega⟩
   rw [hs,Nat.testBit_succ,Nat.testBit_succ,show (2 * q + 1) / 2 = q by omega,show 2 * q / 2 = q by omega,decide_eq_false h2]
   cases q.testBit s <;> simp
theorem bitsTo_low (c q:Nat) {k:Nat} (h:k ≤ c):bitsTo (2 ^ c * (2 * q + 1)) k = []:=by
 induction k with
 | zero => rfl
 | succ k ih =>
   rw [bitsTo_no,ih (by omega)]
   rw [low_bit_of,decide_eq_false (by omega)]
   rfl
theorem bitsTo_high (c q:Nat) {k:Nat} (h:c < k):bitsTo (2 ^ c * (2 * q + 1)) k = (c:Int) :: bitsTo (dropG (2 ^ c * (2 * q + 1))) k ∧ (k ≤ c + 1 → bitsTo (dropG (2 ^ c * (2 * q + 1))) k = []):=by
 have hd:∀ j,j ≤ c + 1 → bitsTo (dropG (2 ^ c * (2 * q + 1))) j = []:=by
  intro j
  induction j with
  | zero => intro _; rfl
  | succ j ih =>
    intro hj
    rw [bitsTo_no,ih (by omega)]
    rw [drop_bit,low_bit_of]
    by_cases hjc:j = c
    ·subst hjc; simp
    ·rw [decide_eq_false (by omega:¬ c ≤ j)]; rfl
 refine ⟨?_,fun h => hd k h⟩
 induction k with
 | zero => omega
 | succ k ih =>
   by_cases hk:k = c
   ·subst hk
    rw [hd (k + 1) (by omega),bitsTo_yes,bitsTo_low k q (Nat.le_refl k)]
    ·rfl
    ·rw [low_bit_of]; simp
   ·have ih':=ih (by omega)
    have hb:(dropG (2 ^ c * (2 * q + 1))).testBit k = (2 ^ c * (2 * q + 1)).testBit k:=by
     rw [drop_bit,decide_eq_false hk]; simp
    cases hbit:(2 ^ c * (2 * q + 1)).testBit k with
    | true => rw [bitsTo_yes hbit,ih',bitsTo_yes (hb.trans hbit)]; rfl
    | false => rw [bitsTo_no hbit,ih',bitsTo_no (hb.trans hbit)]
theorem bitsTo_zero (k:Nat):bitsTo 0 k = []:=by
 induction k with
 | zero => rfl
 | succ k ih => rw [bitsTo_no (Nat.zero_testBit k),ih]
theorem bits_low {m:Nat} (h0:m ≠ 0) (h:m < 2 ^ 64):bitsL m = (Lib.ctz 64 m:Int) :: bitsL (dropG m):=by
 obtain ⟨q,h1,h2⟩:=ctz_spec h0 h
 generalize Lib.ctz 64 m = c at h1 h2 ⊢
 subst h1
 exact (bitsTo_high c q h2).1
def restG (m:Nat):Nat → Nat
 | 0 => m
 | k + 1 => dropG (restG m k)
theorem restG_lt {m:Nat} (h:m < 2 ^ 64) (k:Nat):restG m k < 2 ^ 64:=by
 induction k with
 | zero => exact h
 | succ k ih => exact Nat.lt_of_le_of_lt (dropG_le _) ih
theorem rest_bits {m:Nat} (h:m < 2 ^ 64) (k:Nat):bitsL (restG m k) = (bitsL m).drop k:=by
 induction k with
 | zero => rfl
 | succ k ih =>
   show bitsL (dropG (restG m k)) = _
   by_cases h0:restG m k = 0
   ·rw [h0] at ih ⊢
    have e:dropG 0 = 0:=rfl
    rw [e]
    have z:bitsL 0 = []:=bitsTo_zero 64
    rw [z] at ih ⊢
    rw [List.drop_add_one_eq_tail_drop,← ih]
    rfl
   ·have:=bits_low h0 (restG_lt h k)
    rw [ih] at this
    rw [List.drop_add_one_eq_tail_drop,this]
    rfl
theorem rest_more {m k:Nat} (h:m < 2 ^ 64) (hk:k < (bitsL m).length):restG m k ≠ 0 ∧ (bitsL m)[k]? = some (Lib.ctz 64 (restG m k):Int):=by
 have e:=rest_bits h k
 have h0:restG m k ≠ 0:=by
  intro h0
  rw [h0,show bitsL 0 = [] from bitsTo_zero 64] at e
  have:=congrArg List.length e
  simp at this
  omega
 refine ⟨h0,?_⟩
 have e2:=bits_low h0 (restG_lt h k)
 rw [e] at e2
 have:=congrArg (·[0]?) e2
 simpa using this
theorem rest_none {m k:Nat} (h:m < 2 ^ 64) (hk:(bitsL m).length ≤ k):restG m k = 0:=by
 have e:=rest_bits h k
 rw [List.drop_eq_nil_of_le hk] at e
 refine Decidable.byContradiction fun h0 => ?_
 rw [bits_low h0 (restG_lt h k)] at e
 cases e
end GroupSpec
end Go.Proofs.YtckojimeglkobaaGreatDoor
namespace Go.Proofs.YtckojimeglkobaaGreatDoor
namespace AtlasSpec
open ShapeSpec GroupSpec
def belowTo (l:List Sh) (i n:Nat):List Int:=((List.range n).filter fun k => decide (i ∈ sf l k)).map Int.ofNat
theorem belowTo_yes {l:List Sh} {i n:Nat} (h:i ∈ sf l n):belowTo l i (n + 1) = belowTo l i n ++ [(n:Int)]:=by simp [belowTo,List.range_succ,List.filter_append,h]
theorem belowTo_no {l:List Sh} {i n:Nat} (h:i ∉ sf l n):belowTo l i (n + 1) = belowTo l i n:=by simp [belowTo,List.range_succ,List.filter_append,h]
theorem belowTo_mem {l:List Sh} {i n k:Nat}:(k:Int) ∈ belowTo l i n ↔ k < n ∧ i ∈ sf l k:=by
 unfold belowTo
 rw [mem_ints,List.mem_filter,List.mem_range,decide_eq_true_iff]
theorem belowTo_late {l:List Sh} {i n:Nat} (h:n ≤ i):belowTo l i n = []:=by
 induction n with
 | zero => rfl
 | succ n ih =>
   rw [belowTo_no (fun hm => by have:=sf_le hm; omega)]
   exact ih (by omega)
def abG (l:List Sh) (i:Nat):Nat:=ofG (upI l i)
def beG (l:List Sh) (i:Nat):Nat:=ofG (belowTo l i l.length)
def beP (l:List Sh) (i m:Nat) (b:Bool):Nat:=ofG (belowTo l i m ++ if b then [(m:Int)] else [])
theorem beP_no (l:List Sh) (i m:Nat):beP l i m false = ofG (belowTo l i m):=by
 unfold beP
 rw [if_neg (by simp),List.append_nil]
theorem beP_lt (l:List Sh) (i m:Nat) (b:Bool):beP l i m b < 2 ^ 64:=ofG_lt _
theorem beP_late {l:List Sh} {i m:Nat} (h:m ≤ i):beP l i m false = 0:=by
 rw [beP_no,belowTo_late h]
 rfl
theorem beP_with (l:List Sh) (i m:Nat) (b:Bool) (hm:m ≤ 63):withG (beP l i m b) (m:Int) = beP l i m true:=by
 unfold beP
 refine bits_eq (withG_lt (ofG_lt _) _) (ofG_lt _) fun k hk => ?_
 have e1:(if true = true then [(m:Int)] else []) = [(m:Int)]:=if_pos rfl
 rw [withG_bit,ofG_bit,ofG_bit,decide_eq_true hk,Bool.true_and,Bool.true_and,Bool.eq_iff_iff,Bool.or_eq_true,Bool.and_eq_true,decide_eq_true_iff,decide_eq_true_iff,decide_eq_true_iff,decide_eq_true_iff,List.mem_append,List.mem_append,e1,List.mem_singleton]
 have e2:(k:Int) ∈ (if b = true then [(m:Int)] else []) → (k:Int) = m:=by
  cases b with
  | true => rw [if_pos rfl,List.mem_singleton]; exact id
  | false => rw [if_neg (by simp)]; intro h; cases h
 constructor
 ·rintro ((h | h) | h)
  ·exact .inl h
  ·exact .inr (e2 h)
  ·exact .inr h.2
 ·rintro (h | h)
  ·exact .inl (.inl h)
  ·exact .inr ⟨by omega,h⟩
theorem beP_next {l:List Sh} {i m:Nat}:beP l i m (decide (i ∈ sf l m)) = beP l i (m + 1) false:=by
 rw [beP_no]
 unfold beP
 by_cases h:i ∈ sf l m
 ·rw [decide_eq_true h,if_pos rfl,belowTo_yes h]
 ·rw [decide_eq_false h,if_neg (by simp),List.append_nil,belowTo_no h]
theorem beP_all (l:List Sh) (i:Nat):beP l i l.length false = beG l i:=beP_no _ _ _
def kidsTb (l:List Sh) (i:Int):List Int:=if 0 ≤ i ∧ i < l.length then kids l i.toNat else []
def aboveTb (l:List Sh) (i:Int):Nat:=if 0 ≤ i ∧ i < l.length then abG l i.toNat else 0
def belowTb (l:List Sh) (i:Int):Nat:=if 0 ≤ i ∧ i < l.length then beG l i.toNat else 0
def depthTb (l:List Sh) (i:Int):Nat:=if 0 ≤ i ∧ i < l.length then (up l i.toNat).length + 1 else 0
theorem abG_lt (l:List Sh) (i:Nat):abG l i < 2 ^ 64:=ofG_lt _
theorem beG_lt (l:List Sh) (i:Nat):beG l i < 2 ^ 64:=ofG_lt _
theorem aboveTb_lt (l:List Sh) (i:Int):aboveTb l i < 2 ^ 64:=by
 unfold aboveTb
 split
 ·exact abG_lt _ _
 ·decide
theorem belowTb_lt (l:List Sh) (i:Int):belowTb l i < 2 ^ 64:=by
 unfold belowTb
 split
 ·exact beG_lt _ _
 ·decide
section
variable {l:List Sh} {i:Int} {j:Nat}
theorem kidsTb_in (h:j < l.length):kidsTb l (j:Int) = kids l j:=by unfold kidsTb; rw [if_pos (by omega)]; rfl
theorem aboveTb_in (h:j < l.length):aboveTb l (j:Int) = abG l j:=by unfold aboveTb; rw [if_pos (by omega)]; rfl
theorem belowTb_in (h:j < l.length):belowTb l (j:Int) = beG l j:=by unfold belowTb; rw [if_pos (by omega)]; rfl
theorem depthTb_in (h:j < l.length):depthTb l (j:Int) = (up l j).length + 1:=by unfold depthTb; rw [if_pos (by omega)]; rfl
theorem rowTb_out (h:¬ (0 ≤ i ∧ i < l.length)):kidsTb l i = [] ∧ aboveTb l i = 0 ∧ belowTb l i = 0 ∧ depthTb l i = 0:=by
 unfold kidsTb aboveTb belowTb depthTb
 rw [if_neg h,if_neg h,if_neg h,if_neg h]
 exact ⟨rfl,rfl,rfl,rfl⟩
end
theorem above_has {l:List Sh} {i k:Nat} (hi:i < 64):hasG (abG l k) (i:Int) = decide (i ∈ up l k):=by
 unfold abG
 rw [bit_hasG hi,ofG_bit,decide_eq_true hi,Bool.true_and,Bool.eq_iff_iff,decide_eq_true_iff,decide_eq_true_iff,upI_mem]
theorem below_has {l:List Sh} {i k:Nat} (hk:k < l.length) (h64:k < 64):hasG (beG l i) (k:Int) = decide (i ∈ sf l k):=by
 unfold beG
 rw [bit_hasG h64,ofG_bit,decide_eq_true h64,Bool.true_and,Bool.eq_iff_iff,decide_eq_true_iff,decide_eq_true_iff,belowTo_mem]
 exact ⟨fun h => h.2,fun h => ⟨hk,h⟩⟩
theorem turned {l:List Sh} {i k:Nat} (hl:l.length ≤ 64) (hi:i < l.length) (hk:k < l.length):(hasG (abG l k) (i:Int) || decide (i = k)) = hasG (beG l i) (k:Int) ∧ hasG (abG l i) (i:Int) = false:=by
 rw [above_has (by omega),above_has (by omega),below_has hk (by omega)]
 constructor
 ·rw [Bool.eq_iff_iff,Bool.or_eq_true,decide_eq_true_iff,decide_eq_true_iff,decide_eq_true_iff,sf,List.mem_cons]
  exact Or.comm
 ·exact decide_eq_false fun h => by have:=up_lt h; omega
end AtlasSpec
end Go.Proofs.YtckojimeglkobaaGreatDoor