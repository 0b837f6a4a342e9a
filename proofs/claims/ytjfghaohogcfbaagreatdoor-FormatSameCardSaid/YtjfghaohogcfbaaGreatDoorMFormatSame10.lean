/- ShapeSpec, ExprPart, TermLits, TermCome, TermRefDeep, joined. -/
import Derived.Test.YtjfghaohogcfbaaGreatDoorMFormatSame08
import Derived.Deep.LoopGhost
import Derived.Test.YtjfghaohogcfbaaGreatDoorMFormatSame06
namespace Go.Proofs.YtjfghaohogcfbaaGreatDoor
namespace ShapeSpec
structure Sh where
 kind:Int
 par:Int
def par (l:List Sh) (i:Nat):Int:=(l[i]?).elim (-1) (·.par)
def kind (l:List Sh) (i:Nat):Int:=(l[i]?).elim 0 (·.kind)
theorem par_at {l:List Sh} {i:Nat} {s:Sh} (h:l[i]? = some s):par l i = s.par:=by simp [par,h]
theorem kind_at {l:List Sh} {i:Nat} {s:Sh} (h:l[i]? = some s):kind l i = s.kind:=by simp [kind,h]
def upF (l:List Sh):Nat → Nat → List Nat
 | 0,_ => []
 | f + 1,i => if 0 ≤ par l i ∧ par l i < i then (par l i).toNat :: upF l f (par l i).toNat else []
theorem upF_fuel (l:List Sh):∀ f g i,i ≤ f → i ≤ g → upF l f i = upF l g i
 | 0,0,_,_,_ => rfl
 | 0,g + 1,i,h,_ => by
   obtain rfl:i = 0:=by omega
   rw [upF,upF,if_neg (by omega)]
 | f + 1,0,i,_,h => by
   obtain rfl:i = 0:=by omega
   rw [upF,upF,if_neg (by omega)]
 | f + 1,g + 1,i,hf,hg => by
   rw [upF,upF]
   split
   ·rw [upF_fuel l f g _ (by omega) (by omega)]
   ·rfl
def up (l:List Sh) (i:Nat):List Nat:=upF l i i
theorem up_no {l:List Sh} {i:Nat} (h:¬ (0 ≤ par l i ∧ par l i < i)):up l i = []:=by
 unfold up
 cases i with
 | zero => rfl
 | succ i => rw [upF,if_neg h]
theorem up_par {l:List Sh} {i:Nat} (h0:0 ≤ par l i) (h1:par l i < i):up l i = (par l i).toNat :: up l (par l i).toNat:=by
 unfold up
 cases i with
 | zero => omega
 | succ i => rw [upF,if_pos ⟨h0,h1⟩,upF_fuel l i _ _ (by omega) (Nat.le_refl _)]
def sf (l:List Sh) (i:Nat):List Nat:=i :: up l i
theorem up_sf {l:List Sh} {i:Nat} (h0:0 ≤ par l i) (h1:par l i < i):up l i = sf l (par l i).toNat:=up_par h0 h1
theorem up_of {l:List Sh} {i p:Nat} (h:par l i = p) (h1:p < i):up l i = sf l p:=by
 rw [up_sf (by omega) (by omega),h]
 rfl
theorem up_lt {l:List Sh}:∀ {i j:Nat},j ∈ up l i → j < i:=by
 intro i
 induction i using Nat.strongRecOn with
 | ind i ih =>
   intro j h
   by_cases hp:0 ≤ par l i ∧ par l i < i
   ·rw [up_par hp.1 hp.2,List.mem_cons] at h
    rcases h with rfl | h
    ·omega
    ·have:=ih _ (by omega) h
     omega
   ·rw [up_no hp] at h
    simp at h
theorem sf_le {l:List Sh} {i j:Nat} (h:j ∈ sf l i):j ≤ i:=by
 rcases List.mem_cons.1 h with rfl | h
 ·omega
 ·exact Nat.le_of_lt (up_lt h)
theorem sf_self (l:List Sh) (i:Nat):i ∈ sf l i:=List.mem_cons_self ..
theorem sf_up {l:List Sh} {i j:Nat} (h:j ∈ sf l i) (hne:j ≠ i):j ∈ up l i:=by
 rcases List.mem_cons.1 h with rfl | h
 ·exact absurd rfl hne
 ·exact h
theorem up_in {l:List Sh} {i j:Nat} (h:j ∈ up l i):j ∈ sf l i:=List.mem_cons_of_mem _ h
theorem sf_chain {l:List Sh}:∀ {i j m:Nat},j ∈ sf l i → m ∈ sf l i → m ≤ j → m ∈ sf l j:=by
 intro i
 induction i using Nat.strongRecOn with
 | ind i ih =>
   intro j m hj hm hle
   by_cases hji:j = i
   ·subst hji
    exact hm
   ·have hj':=sf_up hj hji
    have hlt:=up_lt hj'
    have hm':=sf_up hm (by omega)
    by_cases hp:0 ≤ par l i ∧ par l i < i
    ·rw [up_sf hp.1 hp.2] at hj' hm'
     exact ih _ (by omega) hj' hm' hle
    ·rw [up_no hp] at hj'
     simp at hj'
theorem sf_sub {l:List Sh}:∀ {i j m:Nat},j ∈ sf l i → m ∈ sf l j → m ∈ sf l i:=by
 intro i
 induction i using Nat.strongRecOn with
 | ind i ih =>
   intro j m hj hm
   by_cases hji:j = i
   ·subst hji
    exact hm
   ·have hj':=sf_up hj hji
    by_cases hp:0 ≤ par l i ∧ par l i < i
    ·rw [up_sf hp.1 hp.2] at hj'
     refine up_in ?_
     rw [up_sf hp.1 hp.2]
     exact ih _ (by omega) hj' hm
    ·rw [up_no hp] at hj'
     simp at hj'
theorem up_length_le (l:List Sh):∀ i,(up l i).length ≤ i:=by
 intro i
 induction i using Nat.strongRecOn with
 | ind i ih =>
   by_cases hp:0 ≤ par l i ∧ par l i < i
   ·rw [up_par hp.1 hp.2,List.length_cons]
    have:=ih (par l i).toNat (by omega)
    omega
   ·rw [up_no hp]
    simp
def hangB (l:List Sh) (i:Nat):Bool :=
 if i = 0 then decide (par l i = -1) else decide (0 ≤ par l i) && decide (par l i < i) && decide (kind l (par l i).toNat ≠ 1) && decide ((par l i).toNat ∈ sf l (i - 1))
def goodB (l:List Sh) (i:Nat):Bool:=decide (1 ≤ kind l i) && decide (kind l i ≤ 3) && hangB l i
def standB (l:List Sh):Bool:=decide (0 < l.length) && (List.range l.length).all (goodB l)
def deepB (l:List Sh):Bool:=(List.range l.length).any fun i => decide (11 < (up l i).length)
def chk (l:List Sh):Int:=if 60 < l.length then 8 else if standB l = false then 1 else if deepB l = true then 6 else 0
def SU (l:List Sh) (n:Nat):Prop:=∀ i,i < n → goodB l i = true
theorem SU.zero (l:List Sh):SU l 0:=fun _ h => absurd h (by omega)
theorem SU.next {l:List Sh} {n:Nat} (h:SU l n) (hg:goodB l n = true):SU l (n + 1):=fun i hi => by
 by_cases e:i = n
 ·rw [e]; exact hg
 ·exact h i (by omega)
theorem SU.mono {l:List Sh} {n m:Nat} (h:SU l n) (hm:m ≤ n):SU l m:=fun i hi => h i (by omega)
theorem SU.root {l:List Sh} {n:Nat} (h:SU l n) (hn:0 < n):par l 0 = -1:=by
 have:=h 0 hn
 simp [goodB,hangB] at this
 exact this.2
theorem SU.par {l:List Sh} {n i:Nat} (h:SU l n) (hi:i < n) (h0:0 < i):0 ≤ par l i ∧ par l i < i ∧ (par l i).toNat ∈ sf l (i - 1):=by
 have:=h i hi
 have e:i ≠ 0:=by omega
 simp [goodB,hangB,e] at this
 exact ⟨this.2.1.1.1,this.2.1.1.2,this.2.2⟩
theorem SU.parn {l:List Sh} {n i:Nat} (h:SU l n) (hi:i < n) (h0:0 < i):∃ p:Nat,ShapeSpec.par l i = p ∧ p < i ∧ up l i = sf l p ∧ p ∈ sf l (i - 1):=by
 obtain ⟨a,b,c⟩:=h.par hi h0
 exact ⟨(ShapeSpec.par l i).toNat,by omega,by omega,up_sf a b,c⟩
theorem stand_su {l:List Sh} (h:standB l = true):0 < l.length ∧ SU l l.length:=by
 simp [standB] at h
 refine ⟨?_,fun i hi => h.2 i hi⟩
 cases l with
 | nil => simp at h
 | cons => simp
theorem stand_of {l:List Sh} (h0:0 < l.length) (h:SU l l.length):standB l = true:=by
 simp only [standB,Bool.and_eq_true,decide_eq_true_eq,List.all_eq_true,List.mem_range]
 exact ⟨h0,h⟩
theorem stand_not {l:List Sh} {i:Nat} (hi:i < l.length) (h:goodB l i = false):standB l = false:=by
 cases hs:standB l with
 | false => rfl
 | true => rw [(stand_su hs).2 i hi] at h; cases h
theorem chk_ok {l:List Sh} (h:chk l = 0):l.length ≤ 60 ∧ standB l = true ∧ ∀ i,i < l.length → (up l i).length ≤ 11:=by
 unfold chk at h
 split at h
 ·cases h
 ·split at h
  ·cases h
  ·split at h
   ·cases h
   ·rename_i h1 h2 h3
    refine ⟨by omega,by simpa using h2,fun i hi => ?_⟩
    simp only [deepB,Bool.not_eq_true,List.any_eq_false,List.mem_range,decide_eq_true_eq] at h3
    exact Nat.le_of_not_lt (h3 i hi)
theorem chk_su {l:List Sh} (h:chk l = 0):SU l l.length:=(stand_su (chk_ok h).2.1).2
def kidsTo (l:List Sh) (i n:Nat):List Int:=((List.range n).filter fun k => decide (par l k = i)).map Int.ofNat
def kids (l:List Sh) (i:Nat):List Int:=kidsTo l i l.length
theorem kids_yes {l:List Sh} {i n:Nat} (h:par l n = i):kidsTo l i (n + 1) = kidsTo l i n ++ [(n:Int)]:=by simp [kidsTo,List.range_succ,List.filter_append,h]
theorem kids_no {l:List Sh} {i n:Nat} (h:par l n ≠ i):kidsTo l i (n + 1) = kidsTo l i n:=by simp [kidsTo,List.range_succ,List.filter_append,h]
theorem kids_le (l:List Sh) (i n:Nat):(kidsTo l i n).length ≤ n:=by
 unfold kidsTo
 rw [List.length_map]
 have:=List.length_filter_le (fun k => decide (par l k = i)) (List.range n)
 simpa using this
def endTo (l:List Sh) (i:Nat):Nat → Nat
 | 0 => i + 1
 | k + 1 => if i ∈ up l k then k + 1 else endTo l i k
def endOf (l:List Sh) (i:Nat):Nat:=endTo l i l.length
theorem endTo_gt {l:List Sh} {i:Nat}:∀ n,i < endTo l i n
 | 0 => by rw [endTo]; omega
 | n + 1 => by
   rw [endTo]
   split
   ·have:=up_lt ‹_›
    omega
   ·exact endTo_gt n
theorem endTo_le {l:List Sh} {i:Nat}:∀ {n},endTo l i n ≤ max (i + 1) n
 | 0 => by rw [endTo]; omega
 | n + 1 => by
   rw [endTo]
   split
   ·omega
   ·have:=endTo_le (l:=l) (i:=i) (n:=n)
    omega
theorem endTo_mem {l:List Sh} {i k:Nat} (h:i ∈ up l k):∀ {n},k < n → k < endTo l i n
 | 0,hk => absurd hk (by omega)
 | n + 1,hk => by
   rw [endTo]
   split
   ·omega
   ·rename_i hn
    have:k ≠ n:=by rintro rfl; exact hn h
    exact endTo_mem h (by omega)
theorem endTo_last {l:List Sh} {i:Nat}:∀ {n},endTo l i n = i + 1 ∨ i ∈ up l (endTo l i n - 1) ∧ endTo l i n ≤ n
 | 0 => .inl rfl
 | n + 1 => by
   rw [endTo]
   split
   ·exact .inr ⟨by simpa using ‹i ∈ up l n›,Nat.le_refl _⟩
   ·rcases endTo_last (l:=l) (i:=i) (n:=n) with h | ⟨h,h'⟩
    ·exact .inl h
    ·exact .inr ⟨h,by omega⟩
theorem below_stop {l:List Sh} {n i k:Nat} (h:SU l n) (hk:k < n) (hi:i < k) (hno:i ∉ sf l (k - 1)):i ∉ up l k:=by
 obtain ⟨p,hp,hlt,hup,hin⟩:=h.parn hk (by omega)
 rw [hup]
 exact fun hm => hno (sf_sub hin hm)
theorem below_none {l:List Sh} {n i e:Nat} (h:SU l n) (hi:i < e) (hno:i ∉ up l e):∀ k,e ≤ k → k < n → i ∉ up l k:=by
 intro k
 induction k with
 | zero => intro h1 _; omega
 | succ k ih =>
   intro h1 h2
   by_cases e1:e = k + 1
   ·rw [← e1]
    exact hno
   ·have hk:=ih (by omega) (by omega)
    refine below_stop h h2 (by omega) fun hm => hk (sf_up (by simpa using hm) (by omega))
theorem end_bd {l:List Sh} {i:Nat} (hi:i < l.length):i < endOf l i ∧ endOf l i ≤ l.length:=by
 refine ⟨endTo_gt _,?_⟩
 have:=endTo_le (l:=l) (i:=i) (n:=l.length)
 unfold endOf
 omega
theorem end_iff {l:List Sh} {i k:Nat} (h:SU l l.length) (hi:i < l.length) (hk:k < l.length):i ∈ sf l k ↔ i ≤ k ∧ k < endOf l i:=by
 constructor
 ·intro hm
  refine ⟨sf_le hm,?_⟩
  by_cases e:i = k
  ·rw [← e]
   exact (end_bd hi).1
  ·exact endTo_mem (sf_up hm e) hk
 ·rintro ⟨h1,h2⟩
  rcases Classical.em (i ∈ sf l k) with hm | hm
  ·exact hm
  ·exfalso
   have hne:i ≠ k:=by rintro rfl; exact hm (sf_self _ _)
   have hno:i ∉ up l k:=fun hu => hm (up_in hu)
   rcases endTo_last (l:=l) (i:=i) (n:=l.length) with e | ⟨e,e'⟩
   ·have:endOf l i = i + 1:=e
    omega
   ·have hlt:k < endTo l i l.length:=h2
    exact below_none h (by omega) hno (endTo l i l.length - 1) (by omega) (by omega) e
def meet (l:List Sh) (i k:Nat):Int:=((sf l i).find? fun a => decide (a ∈ sf l k)).elim (-1) Int.ofNat
end ShapeSpec
end Go.Proofs.YtjfghaohogcfbaaGreatDoor
namespace Go.Proofs.YtjfghaohogcfbaaGreatDoor
open Go.RowKit CurSpec TermSpec ExprSpec NamesSpec
set_option maxRecDepth 100000
theorem atom_good {rec:Cur → Int → Pa} {c:Cur} (h:(atom rec c).1.bad = 0):c.bad = 0:=by
 by_cases h0:c.bad = 0
 ·exact h0
 ·have e:atom rec c = (nameC c,[⟨2,0,nameS c⟩]):=by
   unfold atom
   rw [if_neg (by rw [next_dead h0]; decide),if_neg (by rw [isB_dead _ _ h0]; decide),if_neg (by rw [isB_dead _ _ h0]; decide),if_neg (by rw [isB_dead _ _ h0]; decide),if_neg (by rw [isB_dead _ _ h0]; decide),if_neg (by rw [isB_dead _ _ h0]; decide),if_neg (by rw [isB_dead _ _ h0]; decide)]
  rw [e] at h
  have:=(nameC_good h).1
  rw [nameB_dead h0] at this
  cases this
theorem last_mid {f:Nat} {c:Cur} (hP:c.bad = 0 → PartOk f) (ok:Ok c) (hf:Fit (f + 1) c) {W:World} {R B:Nat} {v:Value} {pre:List Tm} {x:List Tm} {v1:Value} {l1:List Tm} {w:World} (h:Mid W R B v pre c x v1 l1 w) :
 Calls Tryz.prog 205 #[.pointer (some ⟨R,0,none⟩)] w fun e w' => ∃ v2 l2,e = .returned (.tuple #[]) ∧ Mid W R B v pre (atom (S f) c).1 (x ++ (atom (S f) c).2) v2 l2 w':=by
 refine (last_step f c hP ok hf R B v1 l1 w h.sig h.rd).mono ?_
 rintro e w' ⟨v2,l2,rfl,hr,hc,hh⟩
 exact ⟨v2,l2,rfl,h.part atom_good hr hc hh⟩
set_option maxHeartbeats 4000000 in
theorem head_step (f:Nat) (c:Cur) (hP:c.bad = 0 → PartOk f) (ok:Ok c) (hf:Fit (f + 1) c) (R B:Nat) (v:Value) (l:List Tm) (k:Int) (w:World) (hs:SignsIn w) (h:RdAt w R B v c l) :
 Calls Tryz.prog 195 #[.pointer (some ⟨R,0,none⟩),.int .i64 k] w (RetHead w R B v l (hd (S f) c k)):=by
 have HP:=Lib.hid hP
 have H0:=Lib.hid (Mid.start hs h)
 have r0:=H0.out.cell
 have HOK:=Lib.hid ok
 have HF:=Lib.hid hf
 have HFO:Hid (∀ {k:Int} {s:ByteArray},isB c k s = true → k ≠ 0 → Fit f (on c)):=Lib.hid (fun hb hk _ => by
  have:=isB_real hb hk
  have:=hf this.1
  omega)
 clear hs h ok hf hP
 by_cases hn:k ≤ 3 ∧ isB c 1 tNot = true
 ·have HE:Hid (hd (S f) c k = (((S f (on c) 3).1,opT 12 :: (S f (on c) 3).2),3)):=Lib.hid (if_pos hn)
  have HPG:=Lib.hid (HP.out (isB_next hn.2).1)
  have HFG:=Lib.hid (HFO.out hn.2 (by decide))
  have HB:=Lib.hid hn.2
  have hk:=hn.1
  clear hn
  go_enter Tryz.func195,Tryz.ntmps195
  go_wp2_with (go_at_call 52; (with_reducible refine (take_yes H0.out (k:=1) (s:=tNot) HB.out).mono ?_))
  rintro e w1 ⟨rfl,M1⟩
  have H1:=Lib.hid M1
  clear M1 r0
  go_wp2_with (go_at_call 204; (with_reducible refine (add_mid H1.out 12 0 ⟨#[]⟩ (by decide)).mono ?_))
  rintro e w2 ⟨v2,l2,rfl,M2⟩
  have H2:=Lib.hid M2
  clear M2
  go_wp2_with (go_at_call 187; (with_reducible refine (part_mid HPG.out H2.out 3 HOK.out.on HFG.out).mono ?_))
  rintro e w3 ⟨v3,l3,rfl,M3⟩
  have H3:=Lib.hid M3
  clear M3
  go_wp2_with fail
  go_ret
  exact H3.out.head HE.out
 ·have hX:∃ X:Prop,X:=⟨True,trivial⟩
  by_cases hk:k ≤ 3
  ·have hnb:isB c 1 tNot = false:=by simpa using fun h => hn ⟨hk,h⟩
   have HNB:=Lib.hid hnb
   by_cases hg:isB c 3 tNeg = true
   ·have HE:Hid (hd (S f) c k = (((S f (on c) 7).1,opT 3 :: (S f (on c) 7).2),7)):=Lib.hid (by unfold hd; rw [if_neg hn,if_pos hg])
    have HPG:=Lib.hid (HP.out (isB_next hg).1)
    have HFG:=Lib.hid (HFO.out hg (by decide))
    have HB:=Lib.hid hg
    clear hn hnb hg hX
    go_enter Tryz.func195,Tryz.ntmps195
    go_wp2_with (go_at_call 52; (with_reducible refine (take_no H0.out (k:=1) (s:=tNot) HNB.out).mono ?_))
    rintro e w1 ⟨rfl,M1⟩
    have H1:=Lib.hid M1
    have r1:=M1.cell
    clear M1 r0
    go_wp2_with (go_at_call 52; (with_reducible refine (take_yes H1.out (k:=3) (s:=tNeg) HB.out).mono ?_))
    rintro e w2 ⟨rfl,M2⟩
    have H2:=Lib.hid M2
    clear M2 r1
    go_wp2_with (go_at_call 204; (with_reducible refine (add_mid H2.out 3 0 ⟨#[]⟩ (by decide)).mono ?_))
    rintro e w3 ⟨v3,l3,rfl,M3⟩
    have H3:=Lib.hid M3
    clear M3
    go_wp2_with (go_at_call 187; (with_reducible refine (part_mid HPG.out H3.out 7 HOK.out.on HFG.out).mono ?_))
    rintro e w4 ⟨v4,l4,rfl,M4⟩
    have H4:=Lib.hid M4
    clear M4
    go_wp2_with fail
    go_ret
    exact H4.out.head HE.out
   ·have HE:Hid (hd (S f) c k = (atom (S f) c,8)):=Lib.hid (by unfold hd; rw [if_neg hn,if_neg hg])
    have hgb:isB c 3 tNeg = false:=by simpa using hg
    have HGB:=Lib.hid hgb
    clear hn hnb hg hgb hX
    go_enter Tryz.func195,Tryz.ntmps195
    go_wp2_with (go_at_call 52; (with_reducible refine (take_no H0.out (k:=1) (s:=tNot) HNB.out).mono ?_))
    rintro e w1 ⟨rfl,M1⟩
    have H1:=Lib.hid M1
    have r1:=M1.cell
    clear M1 r0
    go_wp2_with (go_at_call 52; (with_reducible refine (take_no H1.out (k:=3) (s:=tNeg) HGB.out).mono ?_))
    rintro e w2 ⟨rfl,M2⟩
    have H2:=Lib.hid M2
    clear M2 r1
    go_wp2_with (go_at_call 205; (with_reducible refine (last_mid HP.out HOK.out HF.out H2.out).mono ?_))
    rintro e w3 ⟨v3,l3,rfl,M3⟩
    have H3:=Lib.hid M3
    clear M3
    go_wp2_with fail
    go_ret
    exact H3.out.head HE.out
  ·have hkf:decide (k ≤ 3) = false:=decide_eq_false hk
   by_cases hg:isB c 3 tNeg = true
   ·have HE:Hid (hd (S f) c k = (((S f (on c) 7).1,opT 3 :: (S f (on c) 7).2),7)):=Lib.hid (by unfold hd; rw [if_neg hn,if_pos hg])
    have HPG:=Lib.hid (HP.out (isB_next hg).1)
    have HFG:=Lib.hid (HFO.out hg (by decide))
    have HB:=Lib.hid hg
    clear hn hg hX
    go_enter Tryz.func195,Tryz.ntmps195
    go_wp2_with (go_at_call 52; (with_reducible refine (take_yes H0.out (k:=3) (s:=tNeg) HB.out).mono ?_))
    (first | rintro e w2 rfl M2 | rintro e w2 ⟨rfl,M2⟩)
    have H2:=Lib.hid M2
    clear M2 r0
    go_wp2_with (go_at_call 204; (with_reducible refine (add_mid H2.out 3 0 ⟨#[]⟩ (by decide)).mono ?_))
    rintro e w3 ⟨v3,l3,rfl,M3⟩
    have H3:=Lib.hid M3
    clear M3
    go_wp2_with (go_at_call 187; (with_reducible refine (part_mid HPG.out H3.out 7 HOK.out.on HFG.out).mono ?_))
    rintro e w4 ⟨v4,l4,rfl,M4⟩
    have H4:=Lib.hid M4
    clear M4
    go_wp2_with fail
    go_ret
    exact H4.out.head HE.out
   ·have HE:Hid (hd (S f) c k = (atom (S f) c,8)):=Lib.hid (by unfold hd; rw [if_neg hn,if_neg hg])
    have hgb:isB c 3 tNeg = false:=by simpa using hg
    have HGB:=Lib.hid hgb
    clear hn hg hgb hX
    go_enter Tryz.func195,Tryz.ntmps195
    go_wp2_with (go_at_call 52; (with_reducible refine (take_no H0.out (k:=3) (s:=tNeg) HGB.out).mono ?_))
    (first | rintro e w2 rfl M2 | rintro e w2 ⟨rfl,M2⟩)
    have H2:=Lib.hid M2
    clear M2 r0
    go_wp2_with (go_at_call 205; (with_reducible refine (last_mid HP.out HOK.out HF.out H2.out).mono ?_))
    rintro e w3 ⟨v3,l3,rfl,M3⟩
    have H3:=Lib.hid M3
    clear M3
    go_wp2_with fail
    go_ret
    exact H3.out.head HE.out
def PtRel (W:World) (R B:Nat) (v:Value) (pre:List Tm) (q:Int) (f:Nat) (G:Prop) (P:Pa) (g:Nat) (i:Value) (wr:World):Prop :=
 ∃ lev c x v1 l1 k,i = .int .i64 lev ∧ Mid W R B v pre c x v1 l1 wr ∧ Ok c ∧ Fit k c ∧ k ≤ f ∧ (c.bad = 0 → G) ∧ C k lev q c x = P ∧ k = g
theorem hd_good {rec:Cur → Int → Pa} {c:Cur} {q:Int} (hb:(hd rec c q).1.1.bad = 0):c.bad = 0:=by
 by_cases h0:c.bad = 0
 ·exact h0
 ·have e:hd rec c q = (atom rec c,8):=by
   unfold hd
   rw [if_neg (by rw [isB_dead _ _ h0]; simp),if_neg (by rw [isB_dead _ _ h0]; decide)]
  rw [e] at hb
  exact atom_good hb
theorem sg_hold {w w':World} {R B:Nat} {v v':Value} {i:Nat} {o:Obj} (h:w.heap[i]? = some o) (hne:i ≠ B ∧ i ≠ R ∧ v.ownBlock ≠ some i) (hh:Hold R B v v' w w'):w'.heap[i]? = some o ∧ i ≠ B ∧ i ≠ R ∧ v'.ownBlock ≠ some i:=by
 have hi:=(Array.getElem?_eq_some_iff.1 h).1
 exact ⟨(hh.block i hi hne.1 hne.2.1 hne.2.2).trans h,hne.1,hne.2.1,hh.apart hi hne.2.2⟩
set_option maxHeartbeats 8000000 in
theorem part_walk (f:Nat) (c:Cur) (hP:c.bad = 0 → ∀ g,g ≤ f → PartOk g) (ok:Ok c) (hf:Fit (f + 1) c) (R B:Nat) (v:Value) (l:List Tm) (q:Int) (w:World) (hs:SignsIn w) (h:RdAt w R B v c l) :
 Calls Tryz.prog 187 #[.pointer (some ⟨R,0,none⟩),.int .i64 q] w (RetPart w R B v l (C f (hd (S f) c q).2 q (hd (S f) c q).1.1 (hd (S f) c q).1.2)):=by
 obtain ⟨A,cp,rfl⟩:=own_shape h.own
 obtain ⟨r0,r1⟩:=cells_2 h.blk
 obtain ⟨n,hn⟩:∃ n,n = l.length:=⟨_,rfl⟩
 have HH:=Lib.hid (head_step f c (fun h0 => hP h0 f (Nat.le_refl _)) ok hf R B _ l q w hs h)
 have HD:Hid (Ok (hd (S f) c q).1.1 ∧ Fit f (hd (S f) c q).1.1 ∧ ((hd (S f) c q).1.1.bad = 0 → c.bad = 0)):=Lib.hid (by
  refine ⟨inv_ok.hd (fun c k h => ok_S f k h) ok q,fun hb => ?_,hd_good⟩
  exact (hf.fitHd (hd_good hb) q) hb)
 obtain ⟨D,hD⟩:∃ D,D = hd (S f) c q:=⟨_,rfl⟩
 rw [← hD] at HH HD ⊢
 obtain ⟨P,hPp⟩:∃ P,P = C f D.2 q D.1.1 D.1.2:=⟨_,rfl⟩
 have HPP:=Lib.hid hPp
 rw [← hPp]
 have HN:=Lib.hid hn
 rw [← hn] at HH r1
 have HP:=Lib.hid hP
 have HS:=Lib.hid hs
 have HR:=Lib.hid h
 clear hn hD hPp hP ok hf hs h
 go_enter Tryz.func187,Tryz.ntmps187
 go_wp2_with (go_at_call 195; (with_reducible refine HH.out.mono ?_))
 rintro e w1 ⟨v1,l1,rfl,hr1,hc1,hh1⟩
 have H1:Hid (Mid w R B (.slice A n cp) l D.1.1 D.1.2 v1 l1 w1):=Lib.hid ⟨hr1,hc1,hh1,HS.out.hold (by rw [HN.out]; exact HR.out) hh1⟩
 clear hr1 hc1 hh1 r0 r1
 go_wp2_with fail
 go_loopg [5] f (fun g i wr => PtRel w R B (.slice A n cp) l q f (c.bad = 0) P g i wr)
 case atStart => exact ⟨D.2,D.1.1,D.1.2,v1,l1,f,rfl,H1.out,HD.out.1,HD.out.2.1,Nat.le_refl _,HD.out.2.2,HPP.out.symm,rfl⟩
 case round =>
  obtain ⟨lev,d,x,v2,l2,k,rfl,M2,okd,fd,hle,hG,hC,hk⟩:=hrel
  have HK:=Lib.hid hk
  clear hk
  have HB:=Lib.hid (between_at R B v2 d l2 lev q wr M2.sig M2.rd)
  have H2:=Lib.hid M2
  have HOK:=Lib.hid okd
  have HC:=Lib.hid hC
  cases hs:sgn d lev q with
  | none =>
    rw [hs] at HB
    have HE:=Lib.hid (C_stop k x hs)
    clear M2 okd fd hle hC hs hG
    go_wp2_with (go_at_call 196; (with_reducible refine HB.out.mono ?_))
    rintro e x3 ⟨s,b,y,rfl,⟨rfl,rfl,rfl⟩,hr3,hb3⟩
    have H3:=Lib.hid (H2.out.cur hr3.cur hb3 id)
    clear hr3 hb3
    go_wp2_with fail
    go_end0
    have hnl:=HN.out
    subst hnl
    exact (H3.out.alloc _).ret (HC.out.symm.trans HE.out)
  | some s =>
    rw [hs] at HB
    have hd0:=sgn_good hs
    cases k with
    | zero => exact absurd hd0 fd.zero
    | succ g =>
      have HE:=Lib.hid (C_step g x hs)
      have HFO:=Lib.hid (fd.fitOn hs)
      have HFS:=Lib.hid (fd.fitStep hs s.right)
      have HG:=Lib.hid (hG hd0)
      have HPG:=Lib.hid (HP.out (hG hd0) g (by omega))
      have HLE:=Lib.hid hle
      clear M2 okd fd hle hC hs hG hd0
      go_wp2_with (go_at_call 196; (with_reducible refine HB.out.mono ?_))
      rintro e x3 ⟨s',b,y,rfl,⟨rfl,rfl,rfl⟩,hr3,hb3⟩
      have H3:=Lib.hid (H2.out.cur hr3.cur hb3 (fun h => by rw [(on_bad d).1] at h; exact h))
      have HAP:=Lib.hid (H3.out.rd.apart (Nat.le_refl _))
      obtain ⟨s0,s1,s2,s3,s4⟩:=cells_5 (heap_alloc_new x3 (sgO s'))
      have HINS:Hid (Calls Tryz.prog 197 #[.pointer (some ⟨R,0,none⟩),.int .i64 n,.agg #[.int .i64 s'.op,.int .i64 0,.string ⟨#[]⟩]] (x3.alloc (sgO s')) (RetRd (x3.alloc (sgO s')) R B v2 (on d) (ins l2 l.length (opT s'.op)))):=Lib.hid (by
       rw [HN.out]
       exact insert_at R B v2 (on d) l2 l.length (opT s'.op) _ (H3.out.alloc _).rd H3.out.cap.1 (show (⟨#[]⟩:ByteArray).size ≤ 9223372036854775807 by decide))
      clear hr3 hb3
      go_wp2_with (go_at_call 197; (with_reducible refine HINS.out.mono ?_))
      rintro e x4 ⟨v4,rfl,hr4,hh4⟩
      have H4:=Lib.hid ((H3.out.alloc (sgO s')).ins (opT s'.op) hr4 hh4)
      have HK4:=Lib.hid (sg_hold (heap_alloc_new x3 (sgO s')) HAP.out hh4)
      obtain ⟨t0,t1,t2,t3,t4⟩:=cells_5 HK4.out.1
      have HPT:=Lib.hid (HPG.out R B v4 (on d) (ins l2 l.length (opT s'.op)) s'.right x4 H4.out.sig H4.out.rd HOK.out.on HFO.out)
      clear hr4 hh4 s0 s1 s2 s3 s4
      go_wp2_with (go_at_call 187; (with_reducible refine HPT.out.mono ?_))
      rintro e x5 ⟨v5,l5,rfl,hr5,hc5,hh5⟩
      have H5:=Lib.hid (H4.out.part (S_less g (on d) s'.right).2 hr5 hc5 hh5)
      obtain ⟨u0,u1,u2,u3,u4⟩:=cells_5 (sg_hold HK4.out.1 HK4.out.2 hh5).1
      clear hr5 hc5 hh5 t0 t1 t2 t3 t4
      go_wp2_with fail
      go_roundg g
      case rel => exact ⟨s'.lev,_,_,v5,l5,g,rfl,H5.out,ok_S g _ HOK.out.on,HFS.out,by have:=HLE.out; omega,fun _ => HG.out,by rw [← HC.out,HE.out]; rfl,rfl⟩
      case measure => have:=HK.out; omega
theorem part_ok:∀ f,PartOk f:=by
 intro f
 induction f using Nat.strongRecOn with
 | ind f ih =>
   intro R B v c l q w hs h ok hf
   by_cases h0:c.bad = 0
   ·cases f with
    | zero => exact absurd h0 hf.zero
    | succ f =>
      rw [S_good f q h0]
      exact part_walk f c (fun _ g hg => ih g (by omega)) ok hf R B v l q w hs h
   ·rw [S_dead f q h0]
    refine (part_walk 0 c (fun h => absurd h h0) ok (fun h => absurd h h0) R B v l q w hs h).mono ?_
    rintro e w' ⟨v',l',rfl,hr,hc,hh⟩
    have e1:(C 0 (hd (S 0) c q).2 q (hd (S 0) c q).1.1 (hd (S 0) c q).1.2).1 = c:=by
     show (hd (S 0) c q).1.1 = c
     have e:hd (S 0) c q = (atom (S 0) c,8):=by
      unfold hd
      rw [if_neg (by rw [isB_dead _ _ h0]; simp),if_neg (by rw [isB_dead _ _ h0]; decide)]
     rw [e]
     show (atom (S 0) c).1 = c
     unfold atom
     rw [if_neg (by rw [next_dead h0]; decide),if_neg (by rw [isB_dead _ _ h0]; decide),if_neg (by rw [isB_dead _ _ h0]; decide),if_neg (by rw [isB_dead _ _ h0]; decide),if_neg (by rw [isB_dead _ _ h0]; decide),if_neg (by rw [isB_dead _ _ h0]; decide),if_neg (by rw [isB_dead _ _ h0]; decide)]
     show nameC c = c
     unfold nameC
     rw [if_neg (by rw [nameB_dead h0]; decide)]
     exact fail_dead _ h0
    rw [e1] at hr hc
    exact ⟨v',l',rfl,hr,hc.dead h0,hh⟩
end Go.Proofs.YtjfghaohogcfbaaGreatDoor
namespace Go.Proofs.YtjfghaohogcfbaaGreatDoor
open Go.RowKit TermSpec
set_option maxRecDepth 100000
theorem max_if (a b:Int):max a b = if a < b then b else a:=by split <;> omega
def DeepRel (bs:List Int) (n:Nat) (v i:Value):Prop:=∃ k:Nat,k ≤ n ∧ i = .int .i64 k ∧ v = .int .i64 (deepest (bs.take k))
set_option maxHeartbeats 1000000 in
theorem deplit_any (o:Int) (v:Value) (bs:List Int) (w:World) (h:Rd w v (intV bs)) (hm:bs.length ≤ 4611686018427387903) (hb:∀ b ∈ bs,b ≤ 4611686018427387903) :
 Calls Tryz.prog 199 #[.int .i64 o,v] w (SameI w (depF o bs)):=by
 obtain ⟨A,n,c,rfl,hn,hc,hA⟩:=h.ints
 have HA:=Lib.hid hA
 have HN:=Lib.hid hn
 have HB:=Lib.hid hb
 have hm':n ≤ 4611686018427387903:=by omega
 clear hA hn h hc hm hb
 go_enter Tryz.func199,Tryz.ntmps199
 go_wp2_with fail
 go_loop [5,7,10] (fun v _ i => DeepRel bs n v i) (fun _ _ i => n - (intOf i).toNat)
 case atStart => exact ⟨0,Nat.zero_le _,rfl,rfl⟩
 case round =>
  obtain ⟨k,hk,rfl,rfl⟩:=hrel
  obtain ⟨g0,g1⟩:=deepest_bd (B:=4611686018427387903) (by omega) (bs.take k) (fun b h => HB.out b (List.mem_of_mem_take h))
  by_cases hlt:k < n
  ·obtain ⟨b,off,rfl,hb,hcell⟩:=HA.out (by omega)
   obtain ⟨x,hx⟩:∃ x,bs[k]? = some x:=get_some (by have:=HN.out; omega)
   have hck:=hcell k x hx
   have HS:Hid (deepest (bs.take (k + 1)) = if deepest (bs.take k) < x then x else deepest (bs.take k)):=Lib.hid (by rw [take_next hx,deepest_snoc])
   obtain ⟨d,hd⟩:∃ d,d = deepest (bs.take k):=⟨_,rfl⟩
   rw [← hd] at HS g0 g1 ⊢
   clear hcell hx hd
   go_wp2_with fail
   go_round
   case rel => exact ⟨k + 1,hlt,by simp,by rw [HS.out,← max_if]⟩
   case measure => simp [intOf]; omega
  ·go_wp2_with fail
   go_ret
   exact ⟨ret_int (by rw [List.take_of_length_le (by rw [HN.out]; omega)]; rfl),rfl⟩
end Go.Proofs.YtjfghaohogcfbaaGreatDoor
namespace Go.Proofs.YtjfghaohogcfbaaGreatDoor
open Go.RowKit TermSpec
set_option maxRecDepth 100000
theorem below_place {l:List Tm} {a q m k:Nat} (h:cnt q (l.drop (a + 1)) = some m) (hk:k < q) :
 ∃ x,(belows l a q)[k]? = some ((a + 1 + x:Nat):Int) ∧ 0 ≤ endA l ((a + 1 + x:Nat):Int) ∧ a + 1 + x ≤ max l.length (a + 1) ∧ (∀ f,(stack f (l.drop (a + 1))).take (k + 1) = (stack f (l.drop (a + 1))).take k ++ [come f (l.drop (a + 1 + x))]):=by
 have h':=h
 rw [show q = (k + 1) + (q - (k + 1)) by omega] at h'
 obtain ⟨z,_,hz,_,_⟩:=cnt_split h'
 obtain ⟨x,y,hx,hy,_⟩:=cnt_split hz
 have hle:=(cnt_le hx).1
 rw [List.length_drop] at hle
 refine ⟨x,?_,?_,by omega,fun f => ?_⟩
 ·rw [belows_get hk,hx]; rfl
 ·have:=(below_next h hk).1
  rw [hx] at this
  simp only [Option.getD_some] at this
  rw [this]; omega
 ·have:=stack_take_next (f:=f) hz hx
  rwa [List.drop_drop] at this
theorem come_at {f:Int → List Int → Int} {l:List Tm} {a:Nat} {t:Tm} (ht:l[a]? = some t):come f (l.drop a) = f t.op ((stack f (l.drop (a + 1))).take (arN t.op)):=by rw [drop_get ht,come_cons]
def ComeRel (f:Int → List Int → Int) (W:World) (l:List Tm) (a q:Nat) (p i:Value) (wr:World):Prop :=
 ∃ k:Nat,k ≤ q ∧ i = .int .i64 k ∧ RowI W wr p ((stack f (l.drop (a + 1))).take k)
def IHDep (A:Option Addr) (n c:Nat) (l:List Tm) (K:Nat):Prop:=∀ (a:Nat) (w:World),n ≤ a + K → Tms w (.slice A n c) l → 0 ≤ endA l a → Calls Tryz.prog 208 #[.slice A n c,.int .i64 a,.func (.func 199) #[] #[]] w (RetI w (come depF (l.drop a)))
set_option maxHeartbeats 2000000 in
theorem comeDep_step (A:Option Addr) (n c:Nat) (l:List Tm) (K:Nat) (hn:n = l.length) (hn62:n ≤ 70368744177664) (ih:IHDep A n c l K) (a:Nat) (w:World) (hK:n ≤ a + (K + 1)) (h:Tms w (.slice A n c) l) (he:0 ≤ endA l a) :
 Calls Tryz.prog 208 #[.slice A n c,.int .i64 a,.func (.func 199) #[] #[]] w (RetI w (come depF (l.drop a))):=by
 obtain ⟨k0,m0,hk0,hc0,_,_,_⟩:=endA_nn he
 obtain rfl:k0 = a:=by omega
 obtain ⟨t,m,ht,h0,_,hm⟩:=first_of hc0
 have han:=get_lt ht
 have HT:=Lib.hid h
 have HM:=Lib.hid hm
 have HIH:=Lib.hid ih
 have HBL:=Lib.hid (below_yes A n c l k0 w h hn hn62 t ht he)
 obtain ⟨b,off,rfl,hb,c0,-,-⟩:=h.at_ ht
 have HCELL:=Lib.hid c0
 have HCM:=Lib.hid (come_at (f:=depF) ht)
 have hq:=(ar_bd t.op).2
 have e0:=arN_of h0
 have hsl:=stack_len (f:=depF) hm
 have hdb:∀ b ∈ (stack depF (l.drop (k0 + 1))).take (arN t.op),b ≤ 4611686018427387903:=fun b hb => by
  have h1:=(stack_depth _ b (List.mem_of_mem_take hb)).2
  rw [List.length_drop] at h1
  omega
 have hdl:((stack depF (l.drop (k0 + 1))).take (arN t.op)).length ≤ 4611686018427387903:=by rw [List.length_take]; omega
 have HDB:=Lib.hid (And.intro hdl hdb)
 clear hdb hdl
 obtain ⟨o,ho⟩:∃ o,o = t.op:=⟨_,rfl⟩
 rw [← ho] at HBL HCELL HCM hq e0 HM hsl c0 HDB
 obtain ⟨q,hqe⟩:∃ q,q = arN o:=⟨_,rfl⟩
 rw [← hqe] at HBL HCM e0 HM hsl HDB
 have hq2:q ≤ 2:=by omega
 have hal:k0 < n:=by omega
 have hal':(k0:Int) < n:=by omega
 have hlen:l.length = n:=hn.symm
 obtain ⟨i0,hi,hz0,hz1,hz2⟩:=info_parts inf_int
 have HI:=Lib.hid (And.intro hi (And.intro hz0 (And.intro hz1 hz2)))
 have HLEN:=Lib.hid hlen
 have HSL:=Lib.hid hsl
 clear ht ho hqe hn h hc0 hk0 hm he h0 e0 han hi hz0 hz1 hz2 hq c0 ih hlen hsl
 go_enter Tryz.func208,Tryz.ntmps208
 go_wp2_with (go_at_call 200; (with_reducible refine HBL.out.mono ?_))
 rintro e w1 ⟨v2,rfl,hr2,hb1⟩
 obtain ⟨A2,n2,c2,rfl,hn2,hc2,hA2⟩:=hr2.ints
 rw [belows_length] at hn2
 obtain rfl:q = n2:=hn2
 have HA2:=Lib.hid hA2
 have HB1:=Lib.hid hb1
 clear hr2 hc2 hA2 hb1
 go_wp2_with fail
 go_loopw [7,9,14] (fun p _ i wr => ComeRel depF w1 l k0 q p i wr) (fun _ _ i _ => 3 - (intOf i).toNat)
 case atStart => exact ⟨0,Nat.zero_le _,rfl,RowI.nil _ _ (Below.refl _ _)⟩
 case round =>
  obtain ⟨k,hk,rfl,hrow⟩:=hrel
  have hbw:=below_two' HB1.out hrow.2
  have HR:=Lib.hid hrow
  have HBW:=Lib.hid hbw
  clear hrow hbw
  by_cases hlt:k < q
  ·obtain ⟨b2,off2,rfl,hb2,hcell⟩:=HA2.out (by omega)
   obtain ⟨x,hx,hex,hbx,hst⟩:=below_place HM.out hlt
   have hck:=(HR.out.2.cell (p:=⟨b2,off2 + k,none⟩) (by exact hb2)).trans (hcell k _ hx)
   have HST:=Lib.hid (hst depF)
   rw [HLEN.out] at hbx
   have HCI:=Lib.hid (HIH.out (k0 + 1 + x) wr (by omega) (HT.out.keep HBW.out) hex)
   obtain ⟨y,hy⟩:∃ y,y = come depF (l.drop (k0 + 1 + x)):=⟨_,rfl⟩
   rw [← hy] at HST HCI
   obtain ⟨p,hp⟩:∃ p,p = k0 + 1 + x:=⟨_,rfl⟩
   rw [← hp] at HCI hck
   have hl:((stack depF (l.drop (k0 + 1))).take k).length = k:=by rw [List.length_take]; have:=HSL.out; omega
   have HL1:Hid (((stack depF (l.drop (k0 + 1))).take k).length + (intV [(y:Int)]).length ≤ maxLen):=Lib.hid (by rw [hl]; simp [maxLen]; omega)
   have HL2:Hid ((((stack depF (l.drop (k0 + 1))).take k).length + (intV [(y:Int)]).length) * 8 ≤ 140737488355328):=Lib.hid (by rw [hl]; simp; omega)
   clear hx hex hbx hst hcell hl hy hp
   go_wp2_with (go_at_call 208; (with_reducible refine HCI.out.mono ?_))
   rintro e w3 ⟨rfl,hb3⟩
   have HR3:=Lib.hid (HR.out.keep hb3)
   have HRA:=Lib.hid HR3.out.1
   have HSZ:Hid (w1.heap.size ≤ w3.heap.size):=Lib.hid HR3.out.2.size
   clear hb3 hck
   go_wp2_with (at_builtin; refine wpList_append_rd _ rfl (.tmp 18) (.tmp 23) _ rfl w1.heap.size 3 i0 (.int .i64 0) 8 Tryz.underlying75 HI.out.1 HI.out.2.1 HI.out.2.2.1 HI.out.2.2.2 rfl _ _ _ rfl (HRA.out.alloc _) _ (intV [(y:Int)]) rfl (Rd.lit (cs:=#[.int .i64 y]) rfl) (intV_one _) HL1.out HL2.out ?_ ?_; (have:=HSZ.out; simp; omega); intro p2 w4 hrow2 hg2 _; have HR4:=Lib.hid (RowI.add HR3.out hrow2 hg2); clear hrow2 hg2)
   go_roundw
   case rel => exact ⟨k + 1,hlt,by simp,by rw [HST.out]; exact HR4.out⟩
   case measure => simp [intOf]; omega
  ·obtain rfl:k = q:=by omega
   obtain ⟨A3,n3,c3,rfl,hn3⟩:∃ A n c,u7 = .slice A n c ∧ True:=by
    obtain ⟨A,c,h⟩:=own_shape HR.out.1
    exact ⟨A,_,c,h,trivial⟩
   have c0:wr.cell? ⟨b,off + k0 * 3,none⟩ = some (.int .i64 o):=(HBW.out.cell (by exact hb)).trans HCELL.out
   have HLT:=Lib.hid (deplit_any o (.slice A3 n3 c3) _ wr HR.out.read HDB.out.1 HDB.out.2)
   go_wp2_with (go_at_call 199; (with_reducible refine HLT.out.mono ?_); rintro e w' ⟨rfl,rfl⟩)
   go_ret
   exact ⟨ret_int HCM.out.symm,HBW.out⟩
theorem comeDep_all (A:Option Addr) (n c:Nat) (l:List Tm) (hn:n = l.length) (hn62:n ≤ 70368744177664) (K:Nat):IHDep A n c l K:=by
 induction K with
 | zero =>
   intro a w hK _ he
   obtain ⟨k,m,hk,_,h1,h2,h3⟩:=endA_nn he
   omega
 | succ K ih => exact fun a w hK h he => comeDep_step A n c l K hn hn62 ih a w hK h he
theorem comeDep_any (A:Option Addr) (n c:Nat) (l:List Tm) (hn:n = l.length) (hn62:n ≤ 70368744177664) (a:Nat) (w:World) (h:Tms w (.slice A n c) l) (he:0 ≤ endA l a) :
 Calls Tryz.prog 208 #[.slice A n c,.int .i64 a,.func (.func 199) #[] #[]] w (RetI w (come depF (l.drop a))):=comeDep_all A n c l hn hn62 n a w (by omega) h he
end Go.Proofs.YtjfghaohogcfbaaGreatDoor
namespace Go.Proofs.YtjfghaohogcfbaaGreatDoor
open Go.RowKit TermSpec
set_option maxRecDepth 100000
end Go.Proofs.YtjfghaohogcfbaaGreatDoor