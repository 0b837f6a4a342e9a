/- ConfSpec, joined. -/
import Derived.Test.YtckojimeglkobaaGreatDoorMConfFills02
import Derived.Test.YtckojimeglkobaaGreatDoorMConfFills01
namespace Go.Proofs.YtckojimeglkobaaGreatDoor
namespace ConfSpec
open ShapeSpec GroupSpec AtlasSpec
theorem kids_mem {l:List Sh} {i n k:Nat}:(k:Int) ∈ kidsTo l i n ↔ k < n ∧ par l k = i:=by
 unfold kidsTo
 rw [mem_ints,List.mem_filter,List.mem_range,decide_eq_true_iff]
theorem par_out {l:List Sh} {k:Nat} (h:l.length ≤ k):par l k = -1:=by
 unfold par
 rw [List.getElem?_eq_none h]
 rfl
theorem kids_late {l:List Sh} {i n:Nat} (h:l.length ≤ n):kidsTo l i n = kids l i:=by
 induction n with
 | zero =>
   have:l.length = 0:=by omega
   unfold kids
   rw [this]
 | succ n ih =>
   by_cases e:l.length = n + 1
   ·unfold kids
    rw [e]
   ·rw [kids_no (by rw [par_out (by omega)]; omega)]
    exact ih (by omega)
theorem kid_mem {l:List Sh} {i k:Nat}:(k:Int) ∈ kids l i ↔ k < l.length ∧ par l k = i:=kids_mem
theorem kid_nat {l:List Sh} {i:Nat} {x:Int} (h:x ∈ kids l i):∃ k:Nat,x = k ∧ k < l.length ∧ par l k = i:=by
 unfold kids kidsTo at h
 obtain ⟨k,hk,rfl⟩:=List.mem_map.1 h
 rw [List.mem_filter,List.mem_range,decide_eq_true_iff] at hk
 exact ⟨k,rfl,hk.1,hk.2⟩
theorem kid_lt {l:List Sh} {i k:Nat} (hs:SU l l.length) (hk:k < l.length) (hp:par l k = i):i < k:=by
 by_cases h0:k = 0
 ·subst h0
  have:=hs.root hk
  omega
 ·obtain ⟨p,hp',hlt,_,_⟩:=hs.parn hk (by omega)
  omega
theorem root_sf {l:List Sh} {n:Nat} (hs:SU l n):∀ i,i < n → 0 ∈ sf l i:=by
 intro i
 induction i using Nat.strongRecOn with
 | ind i ih =>
   intro hi
   by_cases h0:i = 0
   ·rw [h0]
    exact sf_self _ _
   ·obtain ⟨p,hp,hlt,hup,_⟩:=hs.parn hi (by omega)
    exact up_in (by rw [hup]; exact ih p hlt (by omega))
theorem kids_pair (l:List Sh) (i:Nat):(kids l i).Pairwise (· ≠ ·):=by
 unfold kids kidsTo
 rw [List.pairwise_map]
 have h:(List.range l.length).Pairwise (· ≠ ·):=List.nodup_range
 exact (h.filter _).imp fun h e => h (Int.ofNat.inj e)
def kidsIn (l:List Sh) (m i:Nat):Nat:=((kids l i).filter fun x => hasG m x).length
def kidsB (l:List Sh) (m i:Nat):Bool:=!(decide (kind l i = 2) && !decide (kidsIn l m i = 1)) && !(decide (kind l i = 3) && !decide (kidsIn l m i = (kids l i).length))
theorem bits_kids {l:List Sh} {m i:Nat}:∀ {k},k ≤ 64 → l.length ≤ 64 → bitsTo (ofG (kids l i) &&& m) k = (kidsTo l i k).filter fun x => hasG m x
 | 0,_,_ => rfl
 | k + 1,hk,hl => by
   have ih:=bits_kids (l:=l) (m:=m) (i:=i) (k:=k) (by omega) hl
   have hb:(ofG (kids l i) &&& m).testBit k = (decide (par l k = i) && m.testBit k):=by
    rw [Nat.testBit_and,ofG_bit,decide_eq_true (by omega:k < 64),Bool.true_and]
    congr 1
    rw [Bool.eq_iff_iff,decide_eq_true_iff,decide_eq_true_iff,kid_mem]
    constructor
    ·exact fun h => h.2
    ·intro h
     refine ⟨?_,h⟩
     apply Decidable.byContradiction
     intro hn
     rw [par_out (by omega)] at h
     omega
   by_cases hp:par l k = i
   ·rw [decide_eq_true hp,Bool.true_and] at hb
    have e:([(k:Int)].filter fun x => hasG m x) = if m.testBit k then [(k:Int)] else []:=by
     rw [List.filter_cons,bit_hasG (by omega)]
     rfl
    rw [kids_yes hp,List.filter_append,e]
    cases hm:m.testBit k with
    | true => rw [hm] at hb; rw [bitsTo_yes hb,ih]; rfl
    | false => rw [hm] at hb; rw [bitsTo_no hb,ih]; simp
   ·rw [decide_eq_false hp,Bool.false_and] at hb
    rw [bitsTo_no hb,kids_no hp,ih]
theorem count_kids {l:List Sh} (m i:Nat) (hl:l.length ≤ 64):(bitsL (ofG (kids l i) &&& m)).length = kidsIn l m i:=by
 unfold bitsL kidsIn
 rw [bits_kids (Nat.le_refl _) hl,kids_late hl]
theorem within_kids {l:List Sh} (m i:Nat) (hl:l.length ≤ 64):withinG (ofG (kids l i)) m = decide (kidsIn l m i = (kids l i).length):=by
 rw [Bool.eq_iff_iff,withinG_iff,decide_eq_true_iff]
 unfold kidsIn
 rw [List.length_filter_eq_length_iff]
 constructor
 ·intro h x hx
  obtain ⟨k,rfl,hk,hp⟩:=kid_nat hx
  rw [bit_hasG (by omega)]
  exact h k (by omega) (by rw [ofG_bit,decide_eq_true (by omega:k < 64),Bool.true_and,decide_eq_true_iff]; exact hx)
 ·intro h k hk hb
  rw [ofG_bit,Bool.and_eq_true,decide_eq_true_iff,decide_eq_true_iff] at hb
  rw [← bit_hasG hk]
  exact h _ hb.2
def roundP (l:List Sh) (m i:Nat):Bool:=withinG (abG l i) m && kidsB l m i
def statesP (l:List Sh) (m:Nat):Bool:=hasG m 0 && (withinG m (belowTb l 0) && (bitsL m).all fun x => roundP l m x.toNat)
def refP (l:List Sh) (m i:Nat):Bool:=!hasG m (i:Int) || (decide (i < l.length) && (decide (i = 0) || hasG m (par l i)) && kidsB l m i)
def statesR (l:List Sh) (m:Nat):Bool:=hasG m 0 && (List.range 64).all (refP l m)
theorem below_root {l:List Sh} (hk:chk l = 0) {k:Nat} (h:k < 64):(belowTb l 0).testBit k = decide (k < l.length):=by
 have hs:=chk_su hk
 have h0:0 < l.length:=(stand_su (chk_ok hk).2.1).1
 have e:belowTb l 0 = beG l 0:=belowTb_in (j:=0) h0
 rw [e]
 unfold beG
 rw [ofG_bit,decide_eq_true h,Bool.true_and,Bool.eq_iff_iff,decide_eq_true_iff,decide_eq_true_iff,belowTo_mem]
 exact ⟨fun h => h.1,fun h => ⟨h,root_sf hs k h⟩⟩
theorem states_eq {l:List Sh} (hk:chk l = 0) (m:Nat):statesP l m = statesR l m:=by
 have hs:=chk_su hk
 have hl:=(chk_ok hk).1
 unfold statesP statesR
 refine congrArg (fun b => hasG m 0 && b) ?_
 rw [Bool.eq_iff_iff,Bool.and_eq_true,withinG_iff,List.all_eq_true,List.all_eq_true]
 have hpar:∀ i,i < l.length → i ≠ 0 → ∃ p:Nat,par l i = p ∧ p < i ∧ up l i = sf l p:=fun i hi h0 => by
  obtain ⟨p,h1,h2,h3,_⟩:=hs.parn hi (by omega)
  exact ⟨p,h1,h2,h3⟩
 constructor
 ·rintro ⟨hw,ha⟩ i hi
  rw [List.mem_range] at hi
  unfold refP
  cases hb:hasG m (i:Int) with
  | false => rfl
  | true =>
    have hr:=ha (i:Int) (mem_bitsL.2 hb)
    rw [bit_hasG hi] at hb
    have hlt:=hw i hi hb
    rw [below_root hk hi,decide_eq_true_iff] at hlt
    unfold roundP at hr
    rw [Bool.and_eq_true,Int.toNat_natCast,withinG_iff] at hr
    rw [decide_eq_true hlt,hr.2]
    by_cases h0:i = 0
    ·simp [h0]
    ·obtain ⟨p,hp,hpl,hup⟩:=hpar i hlt h0
     have:m.testBit p = true:=hr.1 p (by omega) (by unfold abG; rw [ofG_bit,decide_eq_true (by omega:p < 64),Bool.true_and,decide_eq_true_iff,upI_mem,hup]; exact sf_self _ _)
     rw [hp,bit_hasG (by omega),this]
     simp
 ·intro h
  have key:∀ i,i < 64 → m.testBit i = true → i < l.length ∧ (i ≠ 0 → ∃ p:Nat,par l i = p ∧ p < i ∧ up l i = sf l p ∧ m.testBit p = true) ∧ kidsB l m i = true:=fun i hi hb => by
   have:=h i (List.mem_range.2 hi)
   unfold refP at this
   rw [bit_hasG hi,hb] at this
   simp only [Bool.not_true,Bool.false_or,Bool.and_eq_true,decide_eq_true_eq,Bool.or_eq_true] at this
   obtain ⟨⟨h1,h2⟩,h3⟩:=this
   refine ⟨h1,fun h0 => ?_,h3⟩
   obtain ⟨p,hp,hpl,hup⟩:=hpar i h1 h0
   refine ⟨p,hp,hpl,hup,?_⟩
   have:=h2.resolve_left h0
   rwa [hp,bit_hasG (by omega)] at this
  have hup:∀ i,i < 64 → m.testBit i = true → ∀ k,k ∈ up l i → m.testBit k = true:=by
   intro i
   induction i using Nat.strongRecOn with
   | ind i ih =>
     intro hi hb k hk
     obtain ⟨h1,h2,-⟩:=key i hi hb
     have h0:i ≠ 0:=by rintro rfl; have:=up_lt hk; omega
     obtain ⟨p,hp,hpl,hup,hpb⟩:=h2 h0
     rw [hup] at hk
     rcases List.mem_cons.1 hk with rfl | hk
     ·exact hpb
     ·exact ih p hpl (by omega) hpb k hk
  refine ⟨fun i hi hb => ?_,fun x hx => ?_⟩
  ·rw [below_root hk hi,decide_eq_true_iff]
   exact (key i hi hb).1
  ·obtain ⟨i,hi,rfl,hb⟩:=mem_bitsTo.1 hx
   unfold roundP
   rw [Int.toNat_natCast,(key i hi hb).2.2,Bool.and_true,withinG_iff]
   intro k hk hkb
   unfold abG at hkb
   rw [ofG_bit,Bool.and_eq_true,decide_eq_true_iff,decide_eq_true_iff,upI_mem] at hkb
   exact hup i hi hb k hkb.2
def addP (l:List Sh) (m p i:Nat):Prop:=kind l p = 3 ∨ (kind l p = 2 ∧ (kids l p).head? = some (i:Int) ∧ ∀ k:Nat,(k:Int) ∈ kids l p → m.testBit k = false)
def IsFill (l:List Sh) (m f:Nat):Prop:=f < 2 ^ 64 ∧ ∀ i,i < 64 → (f.testBit i = true ↔ i < l.length ∧ (m.testBit i = true ∨ ∃ p:Nat,par l i = p ∧ f.testBit p = true ∧ addP l m p i))
theorem fill_one {l:List Sh} (hk:chk l = 0) {m f g:Nat} (hf:IsFill l m f) (hg:IsFill l m g):f = g:=by
 have hs:=chk_su hk
 refine bits_eq hf.1 hg.1 fun i hi => ?_
 induction i using Nat.strongRecOn with
 | ind i ih =>
   rw [Bool.eq_iff_iff,hf.2 i hi,hg.2 i hi]
   refine and_congr_right fun hl => or_congr_right ?_
   constructor
   ·rintro ⟨p,hp,h1,h2⟩
    have:=kid_lt hs hl hp
    exact ⟨p,hp,by rw [← ih p this (by omega)]; exact h1,h2⟩
   ·rintro ⟨p,hp,h1,h2⟩
    have:=kid_lt hs hl hp
    exact ⟨p,hp,by rw [ih p this (by omega)]; exact h1,h2⟩
def stepF (l:List Sh) (m i:Nat):Nat :=
 if hasG m (i:Int) = true then (if kind l i = 3 then m ||| ofG (kids l i) else if kind l i = 2 ∧ ofG (kids l i) &&& m = 0 then withG m ((kids l i).headD 0) else m) else m
def fillTo (l:List Sh) (m:Nat):Nat → Nat
 | 0 => m &&& belowTb l 0
 | k + 1 => stepF l (fillTo l m k) k
def fillG (l:List Sh) (m:Nat):Nat:=fillTo l m l.length
theorem stepF_lt {l:List Sh} {m i:Nat} (h:m < 2 ^ 64):stepF l m i < 2 ^ 64:=by
 unfold stepF
 split
 ·split
  ·exact Nat.or_lt_two_pow h (ofG_lt _)
  ·split
   ·exact withG_lt h _
   ·exact h
 ·exact h
theorem fillTo_lt {l:List Sh} {m:Nat} (h:m < 2 ^ 64):∀ k,fillTo l m k < 2 ^ 64
 | 0 => Nat.lt_of_le_of_lt Nat.and_le_left h
 | k + 1 => stepF_lt (fillTo_lt h k)
theorem fillG_lt {l:List Sh} {m:Nat} (h:m < 2 ^ 64):fillG l m < 2 ^ 64:=fillTo_lt h _
theorem or_kids {l:List Sh} (_hl:l.length ≤ 64) (m j:Nat) {i:Nat} (hi:i < 64):(m ||| ofG (kids l j)).testBit i = (m.testBit i || decide (par l i = j)):=by
 rw [Nat.testBit_or,ofG_bit,decide_eq_true hi,Bool.true_and]
 congr 1
 rw [Bool.eq_iff_iff,decide_eq_true_iff,decide_eq_true_iff,kid_mem]
 constructor
 ·exact fun h => h.2
 ·intro h
  refine ⟨?_,h⟩
  apply Decidable.byContradiction
  intro hn
  rw [par_out (by omega)] at h
  omega
theorem none_kids {l:List Sh} (hl:l.length ≤ 64) (m j:Nat):ofG (kids l j) &&& m = 0 ↔ ∀ k:Nat,(k:Int) ∈ kids l j → m.testBit k = false:=by
 constructor
 ·intro h k hk
  have hkl:=(kid_mem.1 hk).1
  have:=congrArg (fun x => x.testBit k) h
  simp only [Nat.testBit_and,Nat.zero_testBit,ofG_bit,decide_eq_true (by omega:k < 64),Bool.true_and,decide_eq_true hk] at this
  exact this
 ·intro h
  apply Nat.eq_of_testBit_eq
  intro k
  rw [Nat.testBit_and,Nat.zero_testBit,ofG_bit]
  by_cases hk:(k:Int) ∈ kids l j
  ·rw [h k hk,Bool.and_false]
  ·rw [decide_eq_false hk,Bool.and_false,Bool.false_and]
def AtK18 (l:List Sh) (m f k:Nat):Prop:=f < 2 ^ 64 ∧ ∀ i,i < 64 → (f.testBit i = true ↔ i < l.length ∧ (m.testBit i = true ∨ ∃ p:Nat,p < k ∧ par l i = p ∧ f.testBit p = true ∧ addP l m p i))
theorem step_at {l:List Sh} (hc:chk l = 0) (hne:∀ i,i < l.length → kind l i = 2 → kids l i ≠ []) {m f k:Nat} (hk:k < l.length) (h:AtK18 l m f k):AtK18 l m (stepF l f k) (k + 1):=by
 have hs:=chk_su hc
 have hl:l.length ≤ 64:=by have:=(chk_ok hc).1; omega
 refine ⟨stepF_lt h.1,fun i hi => ?_⟩
 have hlow:∀ (g:Nat),(∀ j,j < 64 → par l j ≠ k → g.testBit j = f.testBit j) → ∀ p,p < k + 1 → g.testBit p = f.testBit p:=fun g hg p hp => hg p (by omega) fun e => by
  have:=kid_lt hs (by omega) e
  omega
 -- what a turn brings in is right below its state
 have keep:∀ (g:Nat),(∀ j,j < 64 → par l j ≠ k → g.testBit j = f.testBit j) → (∀ j,j < l.length → par l j = k → (g.testBit j = true ↔ m.testBit j = true ∨ (f.testBit k = true ∧ addP l m k j))) → (g.testBit i = true ↔ i < l.length ∧ (m.testBit i = true ∨ ∃ p:Nat,p < k + 1 ∧ par l i = p ∧ g.testBit p = true ∧ addP l m p i)):=by
  intro g h1 h2
  have hlo:=hlow g h1
  by_cases hp:par l i = k
  ·by_cases hil:i < l.length
   ·rw [h2 i hil hp]
    constructor
    ·rintro (h | ⟨h,h'⟩)
     ·exact ⟨hil,.inl h⟩
     ·exact ⟨hil,.inr ⟨k,by omega,hp,by rw [hlo k (by omega)]; exact h,h'⟩⟩
    ·rintro ⟨-,h | ⟨p,hp1,hp2,hp3,hp4⟩⟩
     ·exact .inl h
     ·obtain rfl:p = k:=by omega
      exact .inr ⟨by rw [← hlo p (by omega)]; exact hp3,hp4⟩
   ·rw [par_out (by omega)] at hp
    omega
  ·rw [h1 i hi hp,h.2 i hi]
   refine and_congr_right fun hil => or_congr_right ?_
   constructor
   ·rintro ⟨p,hp1,hp2,hp3,hp4⟩
    exact ⟨p,by omega,hp2,by rw [hlo p (by omega)]; exact hp3,hp4⟩
   ·rintro ⟨p,hp1,hp2,hp3,hp4⟩
    have:p ≠ k:=by rintro rfl; exact hp hp2
    exact ⟨p,by omega,hp2,by rw [← hlo p hp1]; exact hp3,hp4⟩
 -- those right below this state were in just if they were in the first set
 have hkid:∀ j,j < l.length → par l j = k → (f.testBit j = true ↔ m.testBit j = true):=fun j hj hp => by
  rw [h.2 j (by omega)]
  constructor
  ·rintro ⟨-,h | ⟨p,hp1,hp2,-⟩⟩
   ·exact h
   ·omega
  ·exact fun h => ⟨hj,.inl h⟩
 unfold stepF
 rw [bit_hasG (by omega)]
 by_cases hfk:f.testBit k = true
 ·rw [if_pos hfk]
  by_cases h3:kind l k = 3
  ·rw [if_pos h3]
   refine keep _ (fun j hj hp => ?_) fun j hj hp => ?_
   ·rw [or_kids hl f k hj,decide_eq_false hp,Bool.or_false]
   ·rw [or_kids hl f k (by omega),decide_eq_true hp,Bool.or_true]
    exact ⟨fun _ => .inr ⟨hfk,.inl h3⟩,fun _ => rfl⟩
  ·rw [if_neg h3]
   by_cases h2:kind l k = 2
   ·by_cases h0:ofG (kids l k) &&& f = 0
    ·rw [if_pos ⟨h2,h0⟩]
     rw [none_kids hl] at h0
     obtain ⟨x,r,hxr⟩:=List.exists_cons_of_ne_nil (hne k hk h2)
     obtain ⟨c,rfl,hcl,hcp⟩:=kid_nat (x:=x) (by rw [hxr]; exact List.mem_cons_self ..)
     have hm0:∀ q:Nat,(q:Int) ∈ kids l k → m.testBit q = false:=fun q hq => by
      have hq':=kid_mem.1 hq
      have e:=hkid q hq'.1 hq'.2
      rw [h0 q hq] at e
      cases hm:m.testBit q with
      | false => rfl
      | true => exact absurd (e.2 hm) (by simp)
     have hw:∀ j,(withG f ((kids l k).headD 0)).testBit j = (f.testBit j || decide (j = c)):=fun j => by
      rw [withG_bit,hxr]
      congr 1
      rw [Bool.eq_iff_iff]
      rw [List.headD_cons,Bool.and_eq_true,decide_eq_true_iff,decide_eq_true_iff,decide_eq_true_iff]
      exact ⟨fun h => by omega,fun h => ⟨by omega,by omega⟩⟩
     refine keep _ (fun j hj hp => ?_) fun j hj hp => ?_
     ·rw [hw,decide_eq_false (by rintro rfl; exact hp hcp),Bool.or_false]
     ·rw [hw,h0 j (kid_mem.2 ⟨hj,hp⟩),Bool.false_or,decide_eq_true_iff,hm0 j (kid_mem.2 ⟨hj,hp⟩)]
      constructor
      ·rintro rfl
       exact .inr ⟨hfk,.inr ⟨h2,by rw [hxr]; rfl,hm0⟩⟩
      ·rintro (h | ⟨-,h | ⟨-,h,-⟩⟩)
       ·cases h
       ·exact absurd h h3
       ·rw [hxr] at h
        simp at h
        omega
    ·rw [if_neg (fun h => h0 h.2)]
     refine keep _ (fun j hj hp => rfl) fun j hj hp => ?_
     rw [hkid j hj hp]
     refine ⟨.inl,?_⟩
     rintro (h | ⟨-,h | ⟨-,-,h⟩⟩)
     ·exact h
     ·exact absurd h h3
     ·exfalso
      refine h0 ((none_kids hl _ _).2 fun q hq => ?_)
      have hq':=kid_mem.1 hq
      cases hfq:f.testBit q with
      | false => rfl
      | true => have:=(hkid q hq'.1 hq'.2).1 hfq; rw [h q hq] at this; cases this
   ·rw [if_neg (fun h => h2 h.1)]
    refine keep _ (fun j hj hp => rfl) fun j hj hp => ?_
    rw [hkid j hj hp]
    refine ⟨.inl,?_⟩
    rintro (h | ⟨-,h | ⟨h,-⟩⟩)
    ·exact h
    ·exact absurd h h3
    ·exact absurd h h2
 ·rw [if_neg hfk]
  refine keep _ (fun j hj hp => rfl) fun j hj hp => ?_
  rw [hkid j hj hp]
  exact ⟨.inl,fun h => h.resolve_right fun h => hfk h.1⟩
theorem fill_is {l:List Sh} (hc:chk l = 0) (hne:∀ i,i < l.length → kind l i = 2 → kids l i ≠ []) {m:Nat} (hm:m < 2 ^ 64):IsFill l m (fillG l m):=by
 have key:∀ k,k ≤ l.length → AtK18 l m (fillTo l m k) k:=by
  intro k
  induction k with
  | zero =>
    intro _
    refine ⟨fillTo_lt hm 0,fun i hi => ?_⟩
    show (m &&& belowTb l 0).testBit i = true ↔ _
    rw [Nat.testBit_and,below_root hc hi,Bool.and_eq_true,decide_eq_true_iff]
    constructor
    ·exact fun h => ⟨h.2,.inl h.1⟩
    ·rintro ⟨h1,h2 | ⟨p,hp,-⟩⟩
     ·exact ⟨h2,h1⟩
     ·omega
  | succ k ih => exact fun hk => step_at hc hne (by omega) (ih (by omega))
 obtain ⟨h1,h2⟩:=key l.length (Nat.le_refl _)
 refine ⟨h1,fun i hi => ?_⟩
 show (fillTo l m l.length).testBit i = true ↔ _
 rw [h2 i hi]
 refine and_congr_right fun hil => or_congr_right ?_
 constructor
 ·rintro ⟨p,-,h⟩
  exact ⟨p,h⟩
 ·rintro ⟨p,hp,h⟩
  exact ⟨p,by have:=kid_lt (chk_su hc) hil hp; omega,hp,h⟩
theorem kid_filled {l:List Sh} {m f p k:Nat} (hl:l.length ≤ 64) (h:IsFill l m f) (hk:(k:Int) ∈ kids l p) (hp:f.testBit p = true) (ha:addP l m p k):f.testBit k = true:=by
 have hk':=kid_mem.1 hk
 exact (h.2 k (by omega)).2 ⟨hk'.1,.inr ⟨p,hk'.2,hp,ha⟩⟩
theorem in_filled {l:List Sh} {m f k:Nat} (hl:l.length ≤ 64) (h:IsFill l m f) (hk:k < l.length) (hm:m.testBit k = true):f.testBit k = true:=(h.2 k (by omega)).2 ⟨hk,.inl hm⟩
theorem fill_again {l:List Sh} (hc:chk l = 0) (hne:∀ i,i < l.length → kind l i = 2 → kids l i ≠ []) {m:Nat} (hm:m < 2 ^ 64):fillG l (fillG l m) = fillG l m:=by
 have h:=fill_is hc hne hm
 have hl:l.length ≤ 64:=by have:=(chk_ok hc).1; omega
 refine fill_one hc (fill_is hc hne h.1) ⟨h.1,fun i hi => ?_⟩
 constructor
 ·exact fun hf => ⟨((h.2 i hi).1 hf).1,.inl hf⟩
 ·rintro ⟨hil,hf | ⟨p,hp,hfp,ha⟩⟩
  ·exact hf
  ·have hik:(i:Int) ∈ kids l p:=kid_mem.2 ⟨hil,hp⟩
   rcases ha with h3 | ⟨h2,hh,hn⟩
   ·exact kid_filled hl h hik hfp (.inl h3)
   ·refine kid_filled hl h hik hfp (.inr ⟨h2,hh,fun k hk => ?_⟩)
    cases hmk:m.testBit k with
    | false => rfl
    | true => have:=in_filled hl h (kid_mem.1 hk).1 hmk; rw [hn k hk] at this; cases this
theorem one_in {a:List Int} {x:Int} (h:a.Pairwise (· ≠ ·)) (hx:x ∈ a) {p:Int → Bool} (hp:∀ y ∈ a,p y = decide (y = x)):(a.filter p).length = 1:=by
 induction a with
 | nil => cases hx
 | cons y r ih =>
   rw [List.pairwise_cons] at h
   rw [List.filter_cons,hp y (List.mem_cons_self ..)]
   by_cases e:y = x
   ·subst e
    rw [decide_eq_true rfl,if_pos rfl,List.length_cons]
    have:r.filter p = []:=by
     rw [List.filter_eq_nil_iff]
     intro z hz
     rw [hp z (List.mem_cons_of_mem _ hz),decide_eq_true_iff]
     exact fun e => h.1 z hz e.symm
    rw [this]
    rfl
   ·rw [decide_eq_false e,if_neg (by simp)]
    exact ih h.2 ((List.mem_cons.1 hx).resolve_left fun e' => e e'.symm) fun z hz => hp z (List.mem_cons_of_mem _ hz)
theorem first_may {l:List Sh} (hc:chk l = 0) (hne:∀ i,i < l.length → kind l i = 2 → kids l i ≠ []):statesR l (fillG l 1) = true:=by
 have h:=fill_is hc hne (m:=1) (by decide)
 have hs:=chk_su hc
 have hl:l.length ≤ 64:=by have:=(chk_ok hc).1; omega
 have h0:0 < l.length:=(stand_su (chk_ok hc).2.1).1
 generalize fillG l 1 = f at h ⊢
 have hb1:∀ k,Nat.testBit 1 k = decide (k = 0):=fun k => by
  cases k with
  | zero => rfl
  | succ k => rw [Nat.testBit_succ,Nat.zero_testBit]; rfl
 have hr:f.testBit 0 = true:=in_filled hl h h0 rfl
 unfold statesR
 rw [show hasG f 0 = true by rw [← hr]; exact bit_hasG (i:=0) (by decide),Bool.true_and,List.all_eq_true]
 intro i hi
 rw [List.mem_range] at hi
 unfold refP
 rw [bit_hasG hi]
 cases hf:f.testBit i with
 | false => rfl
 | true =>
   obtain ⟨hil,ho⟩:=(h.2 i hi).1 hf
   have hpar:(decide (i = 0) || hasG f (par l i)) = true:=by
    rcases ho with ho | ⟨p,hp,hfp,-⟩
    ·rw [hb1] at ho
     rw [ho]
     rfl
    ·have:=kid_lt hs hil hp
     rw [hp,bit_hasG (by omega),hfp,Bool.or_true]
   have hkid:kidsB l f i = true:=by
    unfold kidsB kidsIn
    rw [Bool.and_eq_true]
    constructor
    ·by_cases h2:kind l i = 2
     ·obtain ⟨x,r,hxr⟩:=List.exists_cons_of_ne_nil (hne i hil h2)
      obtain ⟨c,rfl,hcl,hcp⟩:=kid_nat (x:=x) (by rw [hxr]; exact List.mem_cons_self ..)
      have hm0:∀ q:Nat,(q:Int) ∈ kids l i → Nat.testBit 1 q = false:=fun q hq => by
       have hq':=kid_mem.1 hq
       have:=kid_lt hs hq'.1 hq'.2
       rw [hb1]
       exact decide_eq_false (by omega)
      have:=one_in (x:=(c:Int)) (p:=fun y => hasG f y) (kids_pair l i) (kid_mem.2 ⟨hcl,hcp⟩) fun y hy => by
       obtain ⟨k,rfl,hkl,hkp⟩:=kid_nat hy
       rw [bit_hasG (by omega),Bool.eq_iff_iff,decide_eq_true_iff]
       constructor
       ·intro hk
        rcases ((h.2 k (by omega)).1 hk).2 with h1 | ⟨p,hp,-,h3 | ⟨-,h3,-⟩⟩
        ·rw [hm0 k hy] at h1
         cases h1
        ·obtain rfl:p = i:=by omega
         omega
        ·obtain rfl:p = i:=by omega
         rw [hxr] at h3
         simpa using h3.symm
       ·intro e
        obtain rfl:k = c:=by omega
        exact kid_filled hl h hy hf (.inr ⟨h2,by rw [hxr]; rfl,hm0⟩)
      rw [this]
      simp
     ·simp [h2]
    ·by_cases h3:kind l i = 3
     ·rw [decide_eq_true h3,Bool.true_and,Bool.not_not,decide_eq_true_iff,List.length_filter_eq_length_iff]
      intro y hy
      obtain ⟨k,rfl,hkl,hkp⟩:=kid_nat hy
      rw [bit_hasG (by omega)]
      exact kid_filled hl h hy hf (.inl h3)
     ·simp [h3]
   rw [decide_eq_true hil,hpar,hkid]
   rfl
def missL (l:List Sh) (a:List Int):Nat:=((List.range l.length).filter fun k:Nat => !decide ((k:Int) ∈ a)).length
structure FillR (l:List Sh) (m:Nat) (a:List Int):Prop where
 ok:∀ x ∈ a,∃ k:Nat,x = k ∧ k < l.length ∧ (fillG l m).testBit k = true
 has:∀ k:Nat,k < l.length → m.testBit k = true → (k:Int) ∈ a
 len:a.length + missL l a = l.length
theorem filter_less {α:Type} [DecidableEq α] (p:α → Bool) (x:α):∀ (l:List α),l.Pairwise (· ≠ ·) → x ∈ l → p x = true → (l.filter fun y => p y && !decide (y = x)).length + 1 = (l.filter p).length
 | [],_,h,_ => by cases h
 | y :: r,hn,h,hp => by
   rw [List.pairwise_cons] at hn
   rw [List.filter_cons,List.filter_cons]
   by_cases e:y = x
   ·subst e
    rw [hp,decide_eq_true rfl,if_neg (by simp),if_pos rfl,List.length_cons]
    have:r.filter (fun z => p z && !decide (z = y)) = r.filter p:=by
     refine List.filter_congr fun z hz => ?_
     rw [decide_eq_false (fun e => hn.1 z hz e.symm)]
     simp
    rw [this]
   ·have ih:=filter_less p x r hn.2 ((List.mem_cons.1 h).resolve_left fun e' => e e'.symm) hp
    rw [decide_eq_false e]
    cases p y with
    | true => simp; omega
    | false => simp; exact ih
theorem miss_add {l:List Sh} {a:List Int} {k:Nat} (hk:k < l.length) (hn:(k:Int) ∉ a):missL l (a ++ [(k:Int)]) + 1 = missL l a:=by
 unfold missL
 have h:(List.range l.length).Pairwise (· ≠ ·):=List.nodup_range
 rw [← filter_less (fun j:Nat => !decide ((j:Int) ∈ a)) k _ h (List.mem_range.2 hk) (by simp [hn])]
 congr 2
 refine List.filter_congr fun j _ => ?_
 rw [Bool.eq_iff_iff]
 simp only [List.mem_append,List.mem_singleton,Bool.not_eq_true',decide_eq_false_iff_not,Bool.and_eq_true,not_or]
 exact ⟨fun h => ⟨h.1,by have:=h.2; omega⟩,fun h => ⟨h.1,by have:=h.2; omega⟩⟩
theorem FillR.add {l:List Sh} {m:Nat} {a:List Int} {k:Nat} (h:FillR l m a) (hk:k < l.length) (hf:(fillG l m).testBit k = true) (hn:(k:Int) ∉ a):FillR l m (a ++ [(k:Int)]):=by
 refine ⟨fun x hx => ?_,fun j hj hm => List.mem_append_left _ (h.has j hj hm),?_⟩
 ·rcases List.mem_append.1 hx with hx | hx
  ·exact h.ok x hx
  ·exact ⟨k,List.mem_singleton.1 hx,hk,hf⟩
 ·have:=miss_add hk hn
  have:=h.len
  rw [List.length_append]
  simp only [List.length_cons,List.length_nil]
  omega
def hasTo (m n:Nat):List Int:=((List.range n).filter fun k:Nat => hasG m (k:Int)).map Int.ofNat
theorem hasTo_yes {m n:Nat} (h:hasG m (n:Int) = true):hasTo m (n + 1) = hasTo m n ++ [(n:Int)]:=by simp [hasTo,List.range_succ,List.filter_append,h]
theorem hasTo_no {m n:Nat} (h:hasG m (n:Int) = false):hasTo m (n + 1) = hasTo m n:=by simp [hasTo,List.range_succ,List.filter_append,h]
theorem hasTo_length (m n:Nat):(hasTo m n).length ≤ n:=by
 unfold hasTo
 rw [List.length_map]
 exact Nat.le_trans (List.length_filter_le _ _) (by simp)
theorem hasTo_mem {m n k:Nat}:(k:Int) ∈ hasTo m n ↔ k < n ∧ hasG m (k:Int) = true:=by
 unfold hasTo
 rw [mem_ints,List.mem_filter,List.mem_range]
theorem filter_both {α:Type} (p:α → Bool) (l:List α):(l.filter p).length + (l.filter fun x => !p x).length = l.length:=by
 induction l with
 | nil => rfl
 | cons x r ih =>
   rw [List.filter_cons,List.filter_cons]
   cases p x with
   | true => simp; omega
   | false => simp; omega
theorem fillR_start {l:List Sh} (hc:chk l = 0) (hne:∀ i,i < l.length → kind l i = 2 → kids l i ≠ []) {m:Nat} (hm:m < 2 ^ 64):FillR l m (hasTo m l.length):=by
 have hl:l.length ≤ 64:=by have:=(chk_ok hc).1; omega
 refine ⟨fun x hx => ?_,fun k hk hb => hasTo_mem.2 ⟨hk,by rw [bit_hasG (by omega)]; exact hb⟩,?_⟩
 ·unfold hasTo at hx
  obtain ⟨k,hk,rfl⟩:=List.mem_map.1 hx
  rw [List.mem_filter,List.mem_range] at hk
  refine ⟨k,rfl,hk.1,in_filled hl (fill_is hc hne hm) hk.1 ?_⟩
  rw [← bit_hasG (by omega)]
  exact hk.2
 ·unfold missL
  have e:((List.range l.length).filter fun k:Nat => !decide ((k:Int) ∈ hasTo m l.length)) = (List.range l.length).filter fun k:Nat => !hasG m (k:Int):=by
   refine List.filter_congr fun k hk => ?_
   congr 1
   rw [Bool.eq_iff_iff,decide_eq_true_iff,hasTo_mem]
   exact ⟨fun h => h.2,fun h => ⟨List.mem_range.1 hk,h⟩⟩
  rw [e]
  have:=filter_both (fun k:Nat => hasG m (k:Int)) (List.range l.length)
  unfold hasTo
  rw [List.length_map]
  rw [List.length_range] at this
  exact this
def closedTo (l:List Sh) (a:List Int) (n:Nat):Prop:=∀ i:Nat,i < n → (i:Int) ∈ a → (kind l i = 2 → ∃ x ∈ kids l i,x ∈ a) ∧ (kind l i = 3 → ∀ x ∈ kids l i,x ∈ a)
theorem fillR_end {l:List Sh} (hc:chk l = 0) (hne:∀ i,i < l.length → kind l i = 2 → kids l i ≠ []) {m:Nat} (hm:m < 2 ^ 64) {a:List Int} (h:FillR l m a) (ha:closedTo l a l.length):ofG a = fillG l m:=by
 have hl:l.length ≤ 64:=by have:=(chk_ok hc).1; omega
 have hf:=fill_is hc hne hm
 have hs:=chk_su hc
 refine bits_eq (ofG_lt _) hf.1 fun i hi => ?_
 rw [ofG_bit,decide_eq_true hi,Bool.true_and,Bool.eq_iff_iff,decide_eq_true_iff]
 constructor
 ·intro hx
  obtain ⟨k,e,-,hk⟩:=h.ok _ hx
  obtain rfl:i = k:=by omega
  exact hk
 ·induction i using Nat.strongRecOn with
  | ind i ih =>
    intro hfi
    obtain ⟨hil,ho⟩:=(hf.2 i hi).1 hfi
    rcases ho with hmi | ⟨p,hp,hfp,ha'⟩
    ·exact h.has i hil hmi
    ·have hpl:=kid_lt hs hil hp
     have hpa:=ih p hpl (by omega) hfp
     obtain ⟨c2,c3⟩:=ha p (by omega) hpa
     rcases ha' with h3 | ⟨h2,hh,hno⟩
     ·exact c3 h3 _ (kid_mem.2 ⟨hil,hp⟩)
     ·obtain ⟨x,hx,hxa⟩:=c2 h2
      obtain ⟨k,rfl,hk1,hk2⟩:=kid_nat hx
      obtain ⟨k',e,-,hfk⟩:=h.ok _ hxa
      obtain rfl:k = k':=by omega
      rcases ((hf.2 k (by omega)).1 hfk).2 with h1 | ⟨q,hq,-,h4 | ⟨-,h4,-⟩⟩
      ·rw [hno k hx] at h1
       cases h1
      ·obtain rfl:q = p:=by omega
       omega
      ·obtain rfl:q = p:=by omega
       rw [hh] at h4
       obtain rfl:i = k:=by
        injection h4 with h4
        omega
       exact hxa
def valB (vs:List EvalSpec.Vr) (i:Nat) (n:Int):Bool:=(vs[i]?).elim (decide (n = 0)) fun v => decide (v.lo ≤ n) && decide (n ≤ v.hi)
def valsB (vs:List EvalSpec.Vr) (x:ActSpec.V4):Bool:=(List.range 4).all fun i => valB vs i (x.get i)
structure Cf where
 m:Nat
 v:ActSpec.V4
def mayCf (l:List Sh) (vs:List EvalSpec.Vr) (x:Cf):Bool:=statesR l x.m && valsB vs x.v
def iniV (vs:List EvalSpec.Vr) (i:Nat):Int:=(vs[i]?).elim 0 (·.ini)
def firstV (vs:List EvalSpec.Vr):ActSpec.V4:=⟨iniV vs 0,iniV vs 1,iniV vs 2,iniV vs 3⟩
theorem firstV_ok {vs:List EvalSpec.Vr} (h:∀ v ∈ vs,v.lo ≤ v.ini ∧ v.ini ≤ v.hi):valsB vs (firstV vs) = true:=by
 unfold valsB
 rw [List.all_eq_true]
 intro i hi
 rw [List.mem_range] at hi
 have e:(firstV vs).get i = iniV vs i:=by
  rcases (show i = 0 ∨ i = 1 ∨ i = 2 ∨ i = 3 by omega) with rfl | rfl | rfl | rfl <;> rfl
 rw [e]
 unfold valB iniV
 cases hv:vs[i]? with
 | none => rfl
 | some v =>
   have:=h v (List.mem_of_getElem? hv)
   simp [this.1,this.2]
end ConfSpec
end Go.Proofs.YtckojimeglkobaaGreatDoor