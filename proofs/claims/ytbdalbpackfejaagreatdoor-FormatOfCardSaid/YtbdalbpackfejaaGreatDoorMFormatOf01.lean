/- ExprLevel, ExprTree, ExprReads, KitN, KitB, NamesPlace, Posts, TermMem, ExprInsert, joined. -/
import Derived.Test.YtbdalbpackfejaaGreatDoorMFormatOf00
import Derived.Test.YtbdalbpackfejaaGreatDoorRows
import Derived.Test.YtbdalbpackfejaaGreatDoorShelf
import Derived.BigQuiet
import Derived.Lib.AppendZerosOnto
import Derived.Shelf.Spec.SlicesInsert
import Derived.Test.YtbdalbpackfejaaGreatDoorMFormatOfQ
set_option maxHeartbeats 16000000
set_option maxRecDepth 100000
namespace Go.Proofs.YtbdalbpackfejaaGreatDoor
section
namespace ExprSpec
open CurSpec TermSpec
theorem Z7 {s:Sg} (h:s ∈ sgs):s.right = s.lev + 1 /\ s.lev <= s.left /\ s.left = first s.lev /\ 1 <= s.lev /\ s.lev <= 6 /\ s.lev ≠ 3 /\ ar s.op = 2:=by
 obtain ⟨h1,h2,h3,h4,_⟩:=Qb6 s h;refine ⟨h1,?_,h2,by omega,by omega,by omega,h4⟩;rw [h2];unfold first
 split<;>omega
theorem C_end:∀ (f:Nat) (lev k:Int) (c:Cur) (x:List Tm),Fit f c -> k <= lev -> sgn (C f lev k c x).1 k k = none
 | 0,lev,k,c,x,h,_ => by rw [QY 0 x (Jp lev k h.zero)]; exact Jp k k h.zero
 | f + 1,lev,k,c,x,h,hk => by
   cases hs:sgn c lev k with
   | none =>
     rw [QY _ x hs];refine JG fun s h'=>?_
     obtain ⟨h1,h2,h3,h4,_⟩:=QZ h';rw [Qa0 h1 h2 (by omega) h4] at hs
     cases hs
   | some s =>
     rw [J2 f x hs];exact C_end f _ _ _ _ (h.fitStep hs _) (QZ hs).2.2.2.1
theorem C_split (k:Int):∀ (f g:Nat) (lev:Int) (c:Cur) (x:List Tm),Fit f c -> first k <= lev -> Fit g (C f lev (k + 1) c x).1 ->
 C f lev k c x=C g (first k) k (C f lev (k+1) c x).1 (C f lev (k+1) c x).2
 | 0,g,lev,c,x,h,_,_ => by rw [QY 0 x (Jp lev k h.zero),QY 0 x (Jp lev (k + 1) h.zero),QY g x (Jp _ k h.zero)]
 | f + 1,g,lev,c,x,h,hl,hg => by
   cases hs:sgn c lev k with
   | none =>
     have h1:sgn c lev (k + 1) = none:=JG fun s h' => by
      obtain ⟨h1,h2,h3,h4,_⟩:=QZ h';rw [Qa0 h1 h2 h3 (by omega)] at hs
      cases hs
     have h2:sgn c (first k) k = none:=JG fun s h' => by
      obtain ⟨h1,h2,h3,h4,_⟩:=QZ h';rw [Qa0 h1 h2 (by omega) h4] at hs
      cases hs
     rw [QY _ x hs,QY _ x h1,QY _ x h2]
   | some s =>
     obtain ⟨h1,h2,h3,h4,hm⟩:=QZ hs;obtain ⟨q1,q2,q3,q4,q5,q6,q7⟩:=Z7 hm
     by_cases hk:s.lev=k
     ·have e1:sgn c lev (k + 1) = none:=JG fun t h' => by
       obtain ⟨g1,g2,g3,g4,_⟩:=QZ h';rw [h1] at g1
       cases g1
       omega
      have e2:sgn c (first k) k=some s:=Qa0 h1 h2 (by rw [q3,hk]; omega) h4;rw [QY _ x e1] at hg ⊢
      cases g with
      | zero => exact absurd (Qet hs) hg.zero
      | succ g =>
        rw [J2 f x hs,J2 g x e2,S_same s.right (h.fitOn hs) (hg.fitOn e2),hk];refine C_same _ _ _ ?_ (hg.fitStep e2 _);rw [<- S_same s.right (h.fitOn hs) (hg.fitOn e2)];exact h.fitStep hs _
     ·have e1:sgn c lev (k + 1) = some s:=Qa0 h1 h2 h3 (by omega)
      rw [J2 f x e1] at hg ⊢;rw [J2 f x hs];refine C_split k f g _ _ _ (h.fitStep hs _) ?_ hg;unfold first
      split<;>omega
theorem stop_8 (c:Cur) (lev:Int):sgn c lev 8 = none:=JG fun s h => by
 obtain ⟨_,_,_,h4,hm⟩:=QZ h;have:=Z7 hm;omega
theorem stop_7 (c:Cur) (lev:Int):sgn c lev 7 = none:=JG fun s h => by
 obtain ⟨_,_,_,h4,hm⟩:=QZ h;have:=Z7 hm;omega
theorem stop_3 (c:Cur):sgn c 3 3 = none:=JG fun s h => by
 obtain ⟨_,_,h3,h4,hm⟩:=QZ h;have:=Z7 hm;omega
theorem stop_4 (c:Cur):sgn c 4 4 = none:=JG fun s h => by
 obtain ⟨_,_,h3,h4,hm⟩:=QZ h;have:=Z7 hm;obtain ⟨_,h5,h6,_⟩:=this;unfold first at h6
 split at h6<;>omega
theorem hd_next {rec:Cur -> Int -> Pa} {c:Cur} {k:Int} (h3:¬ (k = 3 /\ isB c 1 tNot = true)):hd rec c (k + 1) = hd rec c k:=by
 unfold hd
 by_cases h:isB c 1 tNot=true
 ·have:k ≠ 3:=fun e => h3 ⟨e,h⟩
  by_cases hk:k<=3
  ·rw [if_pos (show k+1<=3/\isB c 1 tNot=true from ⟨by omega,h⟩),if_pos (show k<=3/\isB c 1 tNot=true from ⟨hk,h⟩)]
  ·rw [if_neg (show ¬ (k+1<=3/\isB c 1 tNot=true) from fun h'=>by omega),if_neg (show ¬ (k<=3/\isB c 1 tNot=true) from fun h'=>hk h'.1)]
 ·rw [if_neg (show ¬ (k+1<=3/\isB c 1 tNot=true) from fun h'=>h h'.2),if_neg (show ¬ (k<=3/\isB c 1 tNot=true) from fun h'=>h h'.2)]
theorem hd_first {rec:Cur -> Int -> Pa} {c:Cur} {k:Int} (h1:1 <= k) (h7:k <= 7) (h3:¬ (k = 3 /\ isB c 1 tNot = true)) (hn:¬ (k = 7 /\ isB c 3 tNeg = true)):first k <= (hd rec c k).2 /\ (k ≠ 3 -> k + 1 <= (hd rec c k).2):=by
 have hf:first k<=k+1:=by unfold first; split<;>omega
 have hf':k=4\/first k=k:=by unfold first; split<;>omega
 unfold hd
 split
 ·rename_i h
  have:k≠3:=fun e=>h3 ⟨e,h.2⟩
  dsimp only;omega
 split
 ·rename_i h
  have:k≠7:=fun e=>hn ⟨e,h⟩
  dsimp only;omega
 ·dsimp only; omega
theorem S_level {f:Nat} {c:Cur} {k:Int} (hf:Fit f c) (h0:c.bad = 0) (h1:1 <= k) (h7:k <= 7) (h3:¬ (k = 3 /\ isB c 1 tNot = true)) (hn:¬ (k = 7 /\ isB c 3 tNeg = true)) :
 S f c k=C f (first k) k (S f c (k+1)).1 (S f c (k+1)).2/\(k=4->sgn (S f c (k+1)).1 5 5=none):=by
 cases f with
 | zero => exact absurd h0 hf.zero
 | succ f =>
   have hh:=hd_first (rec:=S f) h1 h7 h3 hn;rw [ZI f k h0,ZI f (k+1) h0,hd_next h3];refine ⟨C_split k f (f+1) _ _ _ (hf.fitHd h0 k) hh.1 ?_,fun h4=>?_⟩
   ·exact hf.le h0 (Nat.le_trans (C_len _ _ _ _ _) (hd_len (Q5 f) c k).1)
   ·subst h4
    exact C_end f _ 5 _ _ (hf.fitHd h0 4) (hh.2 (by decide))
theorem S_not {f:Nat} {c:Cur} (h:isB c 1 tNot = true):S (f + 1) c 3 = ((S f (on c) 3).1,opT 12 :: (S f (on c) 3).2):=by
 rw [ZI f 3 (Qr h).1];have e:hd (S f) c 3=(((S f (on c) 3).1,opT 12::(S f (on c) 3).2),3):=if_pos ⟨by decide,h⟩;rw [e];exact QY f _ (stop_3 _)
theorem S_neg {f:Nat} {c:Cur} (h:isB c 3 tNeg = true):S (f + 1) c 7 = ((S f (on c) 7).1,opT 3 :: (S f (on c) 7).2):=by
 rw [ZI f 7 (Qr h).1]
 have e:hd (S f) c 7 = (((S f (on c) 7).1,opT 3 :: (S f (on c) 7).2),7):=by
  unfold hd;rw [if_neg (fun h'=>absurd h'.1 (by decide)),if_pos h]
 rw [e];exact QY f _ (stop_7 _ _)
theorem S_atom {f:Nat} {c:Cur} (h0:c.bad = 0) (h:isB c 3 tNeg = false):S (f + 1) c 8 = atom (S f) c:=by
 rw [ZI f 8 h0]
 have e:hd (S f) c 8 = (atom (S f) c,8):=by
  unfold hd;rw [if_neg (fun h'=>absurd h'.1 (by decide)),if_neg (by rw [h]; decide)]
 rw [e];exact QY f _ (stop_8 _ _)
def WF (x:List Tm):Prop:=cnt 1 x=some x.length/\x.all mayB=true
theorem JF:∀ {l:List Tm} {k m:Nat} (r:List Tm),cnt k l = some m -> cnt k (l ++ r) = some m
 | l,0,m,r,h => by rw [Jq] at h; cases h; rw [Jq]
 | [],k + 1,m,r,h => by cases h
 | t :: l,k + 1,m,r,h => by
   obtain ⟨h0,m',rfl,h'⟩:=Zr h;exact QgC h0 (JF r h')
theorem WF.leaf {t:Tm} (h:ar t.op = 0) (hm:mayB t = true):WF [t]:=by
 refine ⟨?_,by simp [hm]⟩;refine QgC (m:=0) (by omega) ?_;rw [show 0+arN t.op=0 by unfold arN; omega]
 rfl
theorem WF.un {t:Tm} {a:List Tm} (h:ar t.op = 1) (hm:mayB t = true) (ha:WF a):WF (t :: a):=by
 refine ⟨?_,by rw [List.all_cons,hm,ha.2]; rfl⟩;refine QgC (m:=a.length) (by omega) ?_;rw [show 0+arN t.op=1 by unfold arN; omega];exact ha.1
theorem WF.bin {t:Tm} {a b:List Tm} (h:ar t.op = 2) (hm:mayB t = true) (ha:WF a) (hb:WF b):WF (t :: (a ++ b)):=by
 refine ⟨?_,by rw [List.all_cons,hm,List.all_append,ha.2,hb.2]; rfl⟩;refine QgC (m:=(a++b).length) (by omega) ?_;rw [show 0+arN t.op=1+1 by unfold arN; omega,List.length_append];refine Qhg (JF b ha.1) ?_;rw [List.drop_left];exact hb.1
theorem may_op {o:Int} (h1:o ≠ 1) (h2:o ≠ 2) (h11:o ≠ 11):mayB (opT o) = true:=by
 show ((if o=1 then _ else decide ((0:Int)=0))&&(if o=2\/o=11 then _ else decide ((⟨#[]⟩:ByteArray).size=0)))=true
 rw [if_neg h1,if_neg (fun h=>h.elim h2 h11)]
 rfl
theorem sg_may {s:Sg} (h:s ∈ sgs):mayB (opT s.op) = true:=by
 have:∀ s∈sgs,s.op≠1/\s.op≠2/\s.op≠11:=by decide
 obtain ⟨h1,h2,h3⟩:=this s h;exact may_op h1 h2 h3
theorem QgX (l:List UInt8):0 <= ValSpec.getN l /\ ValSpec.getN l <= 1000000:=by
 unfold ValSpec.getN
 split
 ·rename_i h
  split
  ·omega
  ·exact ⟨ValSpec.Qbb l (ValSpec.Qc4 h),by omega⟩
 ·omega
theorem numN_bd (c:Cur) (m:Int):0 <= numN c m /\ numN c m <= 1000000:=by
 unfold numN
 split
 ·exact QgX _
 ·omega
theorem wf_all:∀ f,(∀ c k,Fit f c -> (S f c k).1.bad = 0 -> WF (S f c k).2) /\ (∀ lev k c x,Fit f c -> WF x -> (C f lev k c x).1.bad = 0 -> WF (C f lev k c x).2)
 | 0 => ⟨fun c k h hb => absurd hb h.zero,fun lev k c x h _ hb => absurd hb h.zero⟩
 | f + 1 => by
   obtain ⟨ih1,ih2⟩:=wf_all f;refine ⟨fun c k hf hb=>?_,fun lev k c x hf hx hb=>?_⟩
   ·have h0:c.bad = 0:=(Q5 (f + 1) c k).2 hb
    have hs:∀ d j,d.L.length<c.L.length->(S f d j).1.bad=0->WF (S f d j).2:=fun d j hd hb=>ih1 d j (fun _=>by have:=hf h0; omega) hb
    rw [ZI f k h0] at hb ⊢;refine ih2 _ _ _ _ (hf.fitHd h0 k) ?_ hb;have hg:=((QbX f).2 _ _ _ _).2 hb;clear hb
    revert hg
    unfold hd
    split
    ·rename_i hn
     have:=Qv hn.2 (by decide);exact fun hg=>WF.un (by decide) (by decide) (hs _ _ (by omega) hg)
    split
    ·rename_i hn
     have:=Qv hn (by decide);exact fun hg=>WF.un (by decide) (by decide) (hs _ _ (by omega) hg)
    ·have two_wf:∀ o:Int,ar (opT o).op = 2 -> mayB (opT o) = true -> (on c).L.length < c.L.length -> (two (S f) (on c) o).1.bad = 0 -> WF (two (S f) (on c) o).2:=fun o ho hm hl hg => by
      unfold two at hg ⊢;dsimp only at hg ⊢;have g4:=(Qr (QW hg).1).1;have g3:=(Qr (QW ((Q5 f _ _).2 g4)).1).1;have l1:=QT (on c) 3 tOpen;have l2:=(Q5 f (want (on c) 3 tOpen) 1).1;have l3:=QT (S f (want (on c) 3 tOpen) 1).1 3 tComma;exact WF.bin ho hm (hs _ _ (by omega) g3) (hs _ _ (by omega) g4)
     dsimp only;unfold atom
     split
     ·intro _
      refine WF.leaf rfl ?_;have:=numN_bd c 1000000;unfold mayB;dsimp only;rw [if_pos rfl,if_neg (by decide),decide_eq_true this.1,decide_eq_true this.2]
      rfl
     split
     ·exact fun _=>WF.leaf (by decide) (by decide)
     split
     ·exact fun _=>WF.leaf (by decide) (by decide)
     split
     ·intro hg
      refine WF.leaf rfl ?_;have g1:=(Qr (QW hg).1).1;have g2:=(ZM g1).1;unfold mayB nameS;rw [if_pos g2];dsimp only;rw [if_neg (by decide),if_pos (by decide),(QaJ g2).2.2]
      rfl
     split
     ·rename_i hn
      have:=Qv hn (by decide);exact two_wf 7 (by decide) (by decide) (by omega)
     split
     ·rename_i hn
      have:=Qv hn (by decide);exact two_wf 8 (by decide) (by decide) (by omega)
     split
     ·rename_i hn
      have:=Qv hn (by decide);intro hg;exact hs _ _ (by omega) (Qr (QW hg).1).1
     ·intro hg
      refine WF.leaf rfl ?_;have g2:=(ZM hg).1;unfold mayB nameS;rw [if_pos g2];dsimp only;rw [if_neg (by decide),if_pos (by decide),(QaJ g2).2.2]
      rfl
   ·cases hs:sgn c lev k with
    | none => rw [QY _ x hs]; exact hx
    | some s =>
      rw [J2 f x hs] at hb ⊢;have hm:=(QZ hs).2.2.2.2;refine ih2 _ _ _ _ (hf.fitStep hs _) ?_ hb;exact WF.bin (Z7 hm).2.2.2.2.2.2 (sg_may hm) hx (ih1 _ _ (hf.fitOn hs) (((QbX f).2 _ _ _ _).2 hb))
theorem S_wf {f:Nat} {c:Cur} {k:Int} (hf:Fit f c) (hb:(S f c k).1.bad=0):WF (S f c k).2:=(wf_all f).1 c k hf hb
def Few (c:Cur) (p:Pa):Prop:=p.2.length+2*p.1.L.length<=2*c.L.length+1
def readP (f:Nat) (c:Cur):Pa :=
 let p:=S f c 1
 if p.1.bad=0 then (fail p.1 (chk p.2),if chk p.2=0 then p.2 else []) else (p.1,[])
theorem WF.chk_eq {x:List Tm} (h:WF x):chk x = if 40 < x.length then 8 else if 12 < come depF x then 6 else 0:=by
 unfold chk
 by_cases h4:40<x.length
 ·rw [if_pos h4,if_pos h4]
 ·have hw:wholeB x = true:=Q6.2 ⟨by omega,h.1⟩
  rw [if_neg h4,if_neg h4,if_neg (by rw [hw]; decide),if_neg (by rw [h.2]; decide)];unfold depth tell;rw [hw]
  rfl
end ExprSpec
end
section
namespace ExprSpec
open CurSpec TermSpec NamesSpec
inductive Ex where
 | leaf (t:Tm)
 | un (o:Int) (a:Ex)
 | bin (o:Int) (a b:Ex)
def flat:Ex -> List Tm
 | .leaf t => [t]
 | .un o a => opT o :: flat a
 | .bin o a b => opT o :: (flat a ++ flat b)
def Good:Ex -> Prop
 | .leaf t => ar t.op = 0 /\ mayB t = true
 | .un o a => ar o = 1 /\ Good a
 | .bin o a b => ar o = 2 /\ Good a /\ Good b
theorem Qfk {t:Tm} (h:mayB t = true) (h0:1 <= ar t.op):t = opT t.op:=by
 obtain ⟨o,n,s⟩:=t
 have h1:o ≠ 1 /\ o ≠ 2 /\ o ≠ 11:=by
  refine ⟨?_,?_,?_⟩<;>rintro rfl<;>exact absurd (show (1:Int)<=0 from h0) (by decide)
 unfold mayB at h;dsimp only at h;rw [if_neg h1.1,if_neg (fun h=>h.elim h1.2.1 h1.2.2)] at h;simp only [Bool.and_eq_true,decide_eq_true_eq] at h;obtain ⟨rfl,hs⟩:=h
 have:s = ⟨#[]⟩:=by
  apply ByteArray.ext
  apply Array.eq_empty_of_size_eq_zero
  exact hs
 rw [this]
 rfl
theorem ex_all:∀ (l:List Tm) (k m:Nat),cnt k l = some m -> (l.take m).all mayB = true -> ∃ es:List Ex,es.length = k /\ es.flatMap flat = l.take m /\ ∀ e ∈ es,Good e
 | l,0,m,h,_ => by
   rw [Jq] at h; cases h;exact ⟨[],rfl,by simp,by simp⟩
 | [],k + 1,m,h,_ => by cases h
 | t :: r,k + 1,m,h,hm => by
   obtain ⟨h0,m',rfl,h'⟩:=Zr h;rw [List.take_succ_cons,List.all_cons,Bool.and_eq_true] at hm;obtain ⟨es,hl,hf,hg⟩:=ex_all r _ m' h' hm.2;rw [List.take_succ_cons];have hb:=(Qdp t.op).2;have e0:=QaU h0
   rcases (show ar t.op=0\/ar t.op=1\/ar t.op=2 by omega) with h1 | h1 | h1
   ·refine ⟨.leaf t :: es,by rw [List.length_cons,hl]; omega,by rw [List.flatMap_cons,hf]; rfl,?_⟩
    intro e he
    rcases List.mem_cons.1 he with rfl | he
    ·exact ⟨h1,hm.1⟩
    ·exact hg e he
   ·match es,hl with
    | [],hl => simp at hl; omega
    | a :: es,hl =>
      refine ⟨.un t.op a::es,by rw [List.length_cons] at hl ⊢; omega,?_,?_⟩
      ·rw [List.flatMap_cons] at hf ⊢
       rw [<- hf]
       show (opT t.op::flat a)++_=_
       rw [<- Qfk hm.1 (by omega)]
       rfl
      ·intro e he
       rcases List.mem_cons.1 he with rfl | he
       ·exact ⟨h1,hg a (by simp)⟩
       ·exact hg e (by simp [he])
   ·match es,hl with
    | [],hl => simp at hl; omega
    | [a],hl => simp at hl; omega
    | a :: b :: es,hl =>
      refine ⟨.bin t.op a b::es,by simp only [List.length_cons] at hl ⊢; omega,?_,?_⟩
      ·rw [List.flatMap_cons,List.flatMap_cons] at hf
       rw [List.flatMap_cons,<- hf]
       show (opT t.op::(flat a++flat b))++_=_
       rw [<- Qfk hm.1 (by omega)];simp
      ·intro e he
       rcases List.mem_cons.1 he with rfl | he
       ·exact ⟨h1,hg a (by simp),hg b (by simp)⟩
       ·exact hg e (by simp [he])
theorem ex_of {x:List Tm} (h:WF x):∃ e,flat e = x /\ Good e:=by
 obtain ⟨es,hl,hf,hg⟩:=ex_all x 1 x.length h.1 (by rw [List.take_of_length_le (Nat.le_refl _)]; exact h.2);rw [List.take_of_length_le (Nat.le_refl _)] at hf
 match es,hl with
 | [e],_ =>
   refine ⟨e,by simpa using hf,hg e (by simp)⟩
theorem JY:∀ {e:Ex},Good e -> WF (flat e)
 | .leaf t,h => WF.leaf h.1 h.2
 | .un o a,h => WF.un h.1 (may_op (by rintro rfl; exact absurd h.1 (by decide)) (by rintro rfl; exact absurd h.1 (by decide)) (by rintro rfl; exact absurd h.1 (by decide))) (JY h.2)
 | .bin o a b,h => WF.bin h.1 (may_op (by rintro rfl; exact absurd h.1 (by decide)) (by rintro rfl; exact absurd h.1 (by decide)) (by rintro rfl; exact absurd h.1 (by decide))) (JY h.2.1) (JY h.2.2)
def sgOf (o:Int):Sg:=(sgs.find? fun s=>decide (s.op=o)).getD ⟨⟨#[]⟩,0,0,0,0⟩
def lev:Ex -> Int
 | .leaf _ => 8
 | .un o _ => if o = 3 then 7 else 3
 | .bin o _ _ => if o = 7 \/ o = 8 then 8 else (sgOf o).lev
abbrev Tx:=Int × List UInt8
def bs (l:List UInt8):ByteArray:=⟨l.toArray⟩
def lTrue:List UInt8:=[116,114,117,101]
def lFalse:List UInt8:=[102,97,108,115,101]
def lIn:List UInt8:=[105,110]
def lMin:List UInt8:=[109,105,110]
def lMax:List UInt8:=[109,97,120]
def lNot:List UInt8:=[110,111,116]
def twr (b:Prop) [Decidable b] (x:List Tx):List Tx:=if b then (3,[40])::(x++[(3,[41])]) else x
def tk:Ex -> List Tx
 | .leaf t => if t.op = 1 then [(2,ValSpec.text t.n)] else if t.op = 2 then [(1,t.s.data.toList)] else if t.op = 9 then [(1,lTrue)] else if t.op = 10 then [(1,lFalse)] else [(1,lIn),(3,[40]),(1,t.s.data.toList),(3,[41])]
 | .un o a => if o = 3 then (3,[45]) :: twr (lev a < 7) (tk a) else (1,lNot) :: twr (lev a < 3) (tk a)
 | .bin o a b => if o = 7 then (1,lMin) :: (3,[40]) :: (tk a ++ (3,[44]) :: (tk b ++ [(3,[41])]))
   else if o=8 then (1,lMax)::(3,[40])::(tk a++(3,[44])::(tk b++[(3,[41])]))
   else twr (lev a<(sgOf o).left) (tk a)++((if (sgOf o).lev<=2 then 1 else 3,(sgOf o).t.data.toList)::twr (lev b<(sgOf o).right) (tk b))
def Qu (lv:Int) (d:Cur):Prop:=∀ s,sgn d 9 0=some s->s.left<=lv
theorem Qu.mono {lv lv':Int} {d:Cur} (h:Qu lv d) (hl:lv<=lv'):Qu lv' d:=fun s hs=>by have:=h s hs; omega
theorem Qbj {o:Int} (ho:ar o = 2) (h7:¬ (o = 7 \/ o = 8)):sgOf o ∈ sgs /\ (sgOf o).op = o:=by
 have h1:o = 4 \/ o = 5 \/ o = 6 \/ o = 13 \/ o = 14 \/ o = 15 \/ o = 16 \/ o = 17 \/ o = 18 \/ o = 19 \/ o = 20:=by
  unfold ar at ho
  split at ho
  ·omega
  split at ho
  ·omega
  split at ho
  ·omega
  ·omega
 rcases h1 with rfl | rfl | rfl | rfl | rfl | rfl | rfl | rfl | rfl | rfl | rfl<;>exact ⟨by unfold sgOf sgs; simp,rfl⟩
theorem Qbv {e:Ex} (h:Good e):1 <= lev e /\ lev e <= 8:=by
 cases e with
 | leaf t => exact ⟨show (1:Int) <= 8 by decide,show (8:Int) <= 8 by decide⟩
 | un o a =>
   have e:lev (.un o a)=if o=3 then 7 else 3:=rfl
   rw [e]
   split<;>omega
 | bin o a b =>
   have e:lev (.bin o a b)=if o=7\/o=8 then 8 else (sgOf o).lev:=rfl
   rw [e]
   split
   ·omega
   ·rename_i h7
    have:=Z7 (Qbj h.1 h7).1;omega
end ExprSpec
end
section
namespace ExprSpec
open CurSpec TermSpec NamesSpec
theorem QaX {s:ByteArray} (h:s.size = 0):s = ⟨#[]⟩:=by
 apply ByteArray.ext
 apply Array.eq_empty_of_size_eq_zero
 exact h
theorem Qdw {t:Tm} (h1:t.op = 1) (hm:mayB t = true):(0 <= t.n /\ t.n <= 1000000) /\ t = ⟨1,t.n,⟨#[]⟩⟩:=by
 obtain ⟨o,n,s⟩:=t;dsimp only at h1;subst h1;have hm':(decide (0<=n)&&decide (n<=1000000)&&decide (s.size=0))=true:=hm;simp only [Bool.and_eq_true,decide_eq_true_eq] at hm';exact ⟨hm'.1,by rw [QaX hm'.2]⟩
theorem JS {t:Tm} (h2:t.op = 2 \/ t.op = 11) (hm:mayB t = true):isName t.s.data.toList = true /\ t = ⟨t.op,0,t.s⟩:=by
 obtain ⟨o,n,s⟩:=t;dsimp only at h2;unfold mayB at hm;dsimp only at hm;rw [if_neg (by rcases h2 with rfl | rfl<;>decide),if_pos h2] at hm;simp only [Bool.and_eq_true,decide_eq_true_eq] at hm;exact ⟨hm.2,by rw [hm.1]⟩
theorem Qip {t:Tm} (h9:t.op = 9 \/ t.op = 10) (hm:mayB t = true):t = opT t.op:=by
 obtain ⟨o,n,s⟩:=t;dsimp only at h9;unfold mayB at hm;dsimp only at hm;rw [if_neg (by rcases h9 with rfl | rfl<;>decide),if_neg (by rcases h9 with rfl | rfl<;>decide)] at hm;simp only [Bool.and_eq_true,decide_eq_true_eq] at hm;rw [hm.1,QaX hm.2]
 rfl
theorem Qa3 {o:Int} (h:ar o = 0):o = 1 \/ o = 2 \/ o = 9 \/ o = 10 \/ o = 11:=by
 unfold ar at h
 split at h
 ·assumption
 split at h
 ·omega
 split at h
 ·omega
 ·omega
theorem Qad {c:Cur} {k:Int} {w:List UInt8} {ww:ByteArray} (h:isB c k (bs w) = true) (hw:bs w = ww):want c k ww = on c:=by
 subst hw;unfold want;rw [if_pos h]
theorem bin_ops {o:Int} (_h:ar o=2):o=7\/o=8\/¬ (o=7\/o=8):=by omega
end ExprSpec
end
section
open Go.RowKit
def Rdk (k:Nat) (w:World) (v:Value) (n:Nat) (xs:List Value):Prop :=
 ∃ (A:Option Addr) (c:Nat),v = .slice A n c/\n<=c/\xs.length=n*k/\(0<n->∃ b off,A=some ⟨b,off,none⟩/\b<w.heap.size/\∀ j u,xs[j]?=some u->w.cell? ⟨b,off+j,none⟩=some u)
section
variable {k n:Nat} {w w':World} {v:Value} {xs:List Value}
theorem Rdk.keep (h:Rdk k w v n xs) (hb:Below w.heap.size w w'):Rdk k w' v n xs:=by
 obtain ⟨A,c,rfl,hc,hl,hA⟩:=h;refine ⟨A,c,rfl,hc,hl,fun h0=>?_⟩;obtain ⟨b,off,rfl,hlt,hcell⟩:=hA h0;exact ⟨b,off,rfl,Nat.lt_of_lt_of_le hlt hb.size,fun j u hj=>(hb.cell (p:=⟨b,off+j,none⟩) hlt).trans (hcell j u hj)⟩
theorem Rdk.alloc (h:Rdk k w v n xs) (o:Obj):Rdk k (w.alloc o) v n xs:=h.keep ((Below.refl _ _).alloc (Nat.le_refl _) _)
theorem Rdk.nil (k:Nat) (w:World):Rdk k w (.slice none 0 0) 0 []:=⟨none,0,rfl,Nat.le_refl _,by simp,fun h=>absurd h (by omega)⟩
theorem Rdk.own {base:Nat} {e:TypeId} (h:w.ownsRow base e k v n xs):Rdk k w v n xs:=by
 obtain ⟨hl,hv⟩:=h
 rcases hv with ⟨rfl,rfl⟩ | ⟨g,cap,cur,rfl,hbase,hb,hnc,hcm,hcs,ht⟩
 ·exact ⟨none,0,rfl,Nat.le_refl _,hl,fun h=>absurd h (by omega)⟩
 ·refine ⟨_,cap,rfl,hnc,hl,fun _ => ⟨g,0,rfl,(Array.getElem?_eq_some_iff.1 hb).1,fun j u hj => ?_⟩⟩
  have hj':j<xs.length:=(List.getElem?_eq_some_iff.1 hj).1;rw [<- ht,List.getElem?_take_of_lt (by omega),Array.getElem?_toList] at hj;simp [World.cell?,hb,hj]
end
theorem flat_get {α:Type} {k:Nat} {f:α -> List Value} (hf:∀ a,(f a).length = k):∀ {l:List α} {i j:Nat} {a:α},l[i]? = some a -> j < k -> (l.flatMap f)[i * k + j]? = (f a)[j]?
 | [],_,_,_,h,_ => by simp at h
 | b :: t,0,j,a,h,hj => by
   simp at h; subst h;rw [List.flatMap_cons,Nat.zero_mul,Nat.zero_add,List.getElem?_append_left (by rw [hf]; exact hj)]
 | b :: t,i + 1,j,a,h,hj => by
   rw [List.flatMap_cons,List.getElem?_append_right (by rw [hf,Nat.add_mul]; omega),hf,show (i+1)*k+j-k=i*k+j by rw [Nat.add_mul]; omega];exact flat_get hf (l:=t) (by simpa using h) hj
theorem Qbc {α:Type} {k:Nat} {f:α -> List Value} (hf:∀ a,(f a).length = k) (l:List α):(l.flatMap f).length = l.length * k:=by
 induction l with
 | nil => simp
 | cons b t ih => rw [List.flatMap_cons,List.length_append,hf,ih,List.length_cons,Nat.add_mul]; omega
section
variable {P:Program} (w:World)
theorem Qd8 (base:Nat) (t ty e:TypeId) (i:TypeInfo) (z:Value) (k bytes:Nat) (ht:P.underlying t = some (.slice e)) (hi:P.info? e = some i) (hz:i.zero = some z)
 (hsize:i.size=k) (hby:i.bytes=bytes) (hzs:z.cells.size=k) (hk:0<k)
 (v:Value) (n:Nat) (xs:List Value) (hown:w.ownsRow base e k v n xs) (x:Value) (m:Nat) (news:List Value) (hx:Rdk k w x m news) (h1:∀ u∈news,u.oneCell'=true)
 (h63:n+m<=maxLen) (hbytes:(n+m)*bytes<=140737488355328) (hbase:base<=w.heap.size) :
 ∃ v' w',(Builtin.append_ #[t,t] ty #[v,x]).run P w = .ok v' w' /\ w'.ownsRow base e k v' (n + m) (xs ++ news) /\ w.grownBy w' v.ownBlock /\
   (v'.ownBlock=v.ownBlock\/v'.ownBlock=some w.heap.size):=by
 obtain ⟨A,c,rfl,hmc,hl,hA⟩:=hx
 rcases Nat.eq_zero_or_pos m with h0 | h0
 ·subst h0
  have hn:news=[]:=List.eq_nil_of_length_eq_zero (by omega);subst hn
  rcases A with _ | a
  ·refine ⟨v,w,?_,by simpa using hown,⟨rfl,rfl,rfl,Nat.le_refl _,fun _ _ _ => rfl⟩,.inl rfl⟩
   rcases hown.2 with ⟨rfl,rfl⟩ | ⟨g,cap,cur,rfl,_,_,hnc,_⟩
   ·simp [Builtin.append_,run_underlying ht,sizeOf,typeInfo,hi,Builtin.lenOf,Builtin.firstCells]
   ·simp [Builtin.append_,run_underlying ht,sizeOf,typeInfo,hi,Builtin.lenOf,Builtin.firstCells,hnc,storeCells]
  ·obtain ⟨v',w',hrun,h2,h3,_,h5⟩:=run_append_own_at (P:=P) w base t ty e i z k bytes ht hi hz hsize hby hzs hk v n xs hown a 0 c [] (by simp) (by simp) (by simp) (by simpa using h63) (by simpa using hbytes) hbase
   exact ⟨v',w',hrun,by simpa using h2,h3,h5⟩
 ·obtain ⟨b,off,rfl,hlt,hcell⟩:=hA h0
  obtain ⟨v',w',hrun,h2,h3,_,h5⟩:=run_append_own_at (P:=P) w base t ty e i z k bytes ht hi hz hsize hby hzs hk v n xs hown ⟨b,off,none⟩ m c news hl
   (fun j u hj=>by rw [addr_add]; exact hcell j u hj) h1 h63 hbytes hbase
  exact ⟨v',w',hrun,h2,h3,h5⟩
theorem QQ {ops:Array Oper} {rest:List Oper} {o:Oper} {a:Act} {Q:Exit -> Act -> World -> Prop} (hgd:o.guard = none) (s x:Operand) (t:TypeId)
 (ho:o.op = .call { callee:=.builtin .append,args:=#[s,x],argTypes:=#[t,t] })
 (base:Nat) (e:TypeId) (i:TypeInfo) (z:Value) (k bytes:Nat) (ht:P.underlying t=some (.slice e)) (hi:P.info? e=some i) (hz:i.zero=some z)
 (hsize:i.size=k) (hby:i.bytes=bytes) (hzs:z.cells.size=k) (hk:0<k)
 (v:Value) (n:Nat) (xs:List Value) (hs:a.eval s=v) (hown:w.ownsRow base e k v n xs) (y:Value) (m:Nat) (news:List Value) (hy:a.eval x=y) (hr:Rdk k w y m news) (h1:∀ u∈news,u.oneCell'=true)
 (h63:n+m<=maxLen) (hbytes:(n+m)*bytes<=140737488355328) (hbase:base<=w.heap.size)
 (h:∀ v' w',w'.ownsRow base e k v' (n+m) (xs++news)->w.grownBy w' v.ownBlock->(v'.ownBlock=v.ownBlock\/v'.ownBlock=some w.heap.size)->wpList P ops Q rest (a.put o.dst v') w'):wpList P ops Q (o::rest) a w :=
 wpList_plain hgd fun _ hK => by
  obtain ⟨v',w',hrun,h2,h3,h4⟩:=Qd8 (P:=P) w base t o.type e i z k bytes ht hi hz hsize hby hzs hk v n xs hown y m news hr h1 h63 hbytes hbase;unfold Oper.wp execOp;simp only [ho,resolve,invoke,builtin,Sem.run_bind,Sem.run_pure,Result.andThen_ok,List.map_toArray,List.map_cons,List.map_nil,hs,hy,hrun];exact hK _ _ (h v' w' h2 h3 h4)
end
end
section
open Go.RowKit
theorem Qb {w:World} {b:Nat} {cs:Array Value} {t:TypeId} (h:w.heap[b]?=some (.cells cs t (0,0))) {i:Nat} {v:Value} (hi:cs[i]?=some v):w.cell? ⟨b,i,none⟩=some v:=by simp [World.cell?,h,hi]
theorem Qf {w:World} {b:Nat} {cs:Array Value} {t:TypeId} (h:w.heap[b]?=some (.cells cs t (0,0))) (i:Nat):w.frozen? ⟨b,i,none⟩=false:=by simp [World.frozen?,h]
theorem Qd {w:World} {b:Nat} {cs:Array Value} {t:TypeId} (h:w.heap[b]? = some (.cells cs t (0,0))) (i:Nat) (u:Value):(w.setCell ⟨b,i,none⟩ u).heap[b]? = some (.cells (cs.setIfInBounds i u) t (0,0)):=by
 have hlt:=(Array.getElem?_eq_some_iff.1 h).1;have h':w.heap[b] = .cells cs t (0,0):=by simpa [Array.getElem?_eq_getElem hlt] using h
 show (w.heap.modify b _)[b]?=_
 rw [Array.getElem?_eq_getElem (by simpa using hlt),Array.getElem_modify_self,h']
 rfl
theorem Qx (w:World) (v:Option Nat):w.grownBy w v:=⟨rfl,rfl,rfl,Nat.le_refl _,fun _ _ _=>rfl⟩
theorem Qt {a b c:World} {B:Nat} (h:a.grownBy b (some B)) (k:b.grownBy c (some B)):a.grownBy c (some B) :=
 ⟨k.os.trans h.os,k.tape.trans h.tape,k.output.trans h.output,Nat.le_trans h.size k.size,fun i hi hn=>(k.block i (Nat.lt_of_lt_of_le hi h.size) hn).trans (h.block i hi hn)⟩
theorem Ql {a b:World} {B:Nat} (h:a.grownBy b (some B)) (i:Nat) (u:Value):a.grownBy (b.setCell ⟨B,i,none⟩ u) (some B) :=
 Qt h ⟨rfl,rfl,rfl,by simp [World.setCell],fun k _ hn=>Below.heap_setCell _ _ _ _ (by intro e; exact hn (by rw [e]))⟩
theorem QJ {a b:World} {B:Nat} (h:a.grownBy b (some B)) {k:Nat} (hk:a.heap.size <= k) (i:Nat) (u:Value):a.grownBy (b.setCell ⟨k,i,none⟩ u) (some B) :=
 ⟨h.os,h.tape,h.output,by simp [World.setCell]; exact h.size,fun j hj hn=>(Below.heap_setCell _ _ _ _ (by simp; omega)).trans (h.block j hj hn)⟩
theorem QcB {a b:World} {B:Nat} (h:a.grownBy b (some B)) (o:Obj):a.grownBy (b.alloc o) (some B) :=
 ⟨h.os,h.tape,h.output,by simp; exact Nat.le_succ_of_le h.size,fun j hj hn=>(Below.heap_alloc _ _ _ (Nat.lt_of_lt_of_le hj h.size)).trans (h.block j hj hn)⟩
theorem Qba {a b:World} {B:Nat} (h:a.grownBy b (some B)):a.grownBy b.drew (some B):=⟨h.os,h.tape,h.output,h.size,h.block⟩
theorem but_from {w w':World} {B:Nat} {o:Obj} (h:(w.alloc o).grownBy w' (some B)):w.grownBy w' (some B) :=
 ⟨h.os,h.tape,h.output,Nat.le_trans (Nat.le_succ _) (by have:=h.size; rwa [World.size_alloc] at this),fun j hj hn=>(h.block j (by rw [World.size_alloc]; omega) hn).trans (heap_alloc_old _ _ hj)⟩
theorem Q9 {w w':World} {base n k:Nat} {e:TypeId} {v:Value} {xs:List Value} (h:w.ownsRow base e k v n xs) (hb:Below w.heap.size w w'):w'.ownsRow base e k v n xs:=by
 refine ⟨h.1,?_⟩
 rcases h.2 with h | ⟨g,cap,cur,h1,h2,h3,h4⟩
 ·exact .inl h
 ·exact .inr ⟨g,cap,cur,h1,h2,(hb.block g (Array.getElem?_eq_some_iff.1 h3).1).trans h3,h4⟩
theorem Q8 {w:World} {b:Nat} {T:TypeId} {x y:Value} (h:w.heap[b]? = some (.cells #[x,y] T (0,0))) (u v:Value) :
 (w.setCell ⟨b,0,none⟩ u).cell? ⟨b,0,none⟩=some u/\((w.setCell ⟨b,0,none⟩ u).setCell ⟨b,1,none⟩ v).cell? ⟨b,1,none⟩=some v :=
 ⟨Qb (Qd h 0 u) (i:=0) rfl,Qb (Qd (Qd h 0 u) 1 v) (i:=1) rfl⟩
theorem Q0 {w:World} {b:Nat} {T:TypeId} {x y z t:Value} (h:w.heap[b]? = some (.cells #[x,y,z,t] T (0,0))) (u0 u1 u2 u3:Value) :
 (w.setCell ⟨b,0,none⟩ u0).cell? ⟨b,0,none⟩=some u0/\((w.setCell ⟨b,0,none⟩ u0).setCell ⟨b,1,none⟩ u1).cell? ⟨b,1,none⟩=some u1 /\
 (((w.setCell ⟨b,0,none⟩ u0).setCell ⟨b,1,none⟩ u1).setCell ⟨b,2,none⟩ u2).cell? ⟨b,2,none⟩=some u2 /\
 ((((w.setCell ⟨b,0,none⟩ u0).setCell ⟨b,1,none⟩ u1).setCell ⟨b,2,none⟩ u2).setCell ⟨b,3,none⟩ u3).cell? ⟨b,3,none⟩=some u3 :=
 ⟨Qb (Qd h 0 u0) (i:=0) rfl,Qb (Qd (Qd h 0 u0) 1 u1) (i:=1) rfl,
  Qb (Qd (Qd (Qd h 0 u0) 1 u1) 2 u2) (i:=2) rfl,
  Qb (Qd (Qd (Qd (Qd h 0 u0) 1 u1) 2 u2) 3 u3) (i:=3) rfl⟩
theorem QaI {w w':World} {base n k B:Nat} {e:TypeId} {v:Value} {xs:List Value} (h:w.ownsRow base e k v n xs) (hb:w.grownBy w' (some B)) (hB:B < base):w'.ownsRow base e k v n xs:=by
 refine ⟨h.1,?_⟩
 rcases h.2 with h | ⟨g,cap,cur,h1,h2,h3,h4⟩
 ·exact .inl h
 ·exact .inr ⟨g,cap,cur,h1,h2,(hb.block g (Array.getElem?_eq_some_iff.1 h3).1 (by simp; omega)).trans h3,h4⟩
theorem QR {w:World} {base n k:Nat} {e:TypeId} {v:Value} {xs:List Value} (h:w.ownsRow base e k v n xs):∃ A c,v = .slice A n c:=by
 rcases h.2 with ⟨h1,h2⟩ | ⟨g,cap,cur,h1,_⟩
 ·subst h2
  exact ⟨_,_,h1⟩
 ·exact ⟨_,_,h1⟩
theorem QhL {w:World} {base base' n k:Nat} {e:TypeId} {v:Value} {xs:List Value} (h:w.ownsRow base e k v n xs) (hb:base' <= base):w.ownsRow base' e k v n xs:=by
 refine ⟨h.1,?_⟩
 rcases h.2 with h | ⟨g,cap,cur,h1,h2,h3⟩
 ·exact .inl h
 ·exact .inr ⟨g,cap,cur,h1,by omega,h3⟩
theorem Qs {w:World} {base n k:Nat} {e:TypeId} {v:Value} {xs:List Value} (h:w.ownsRow base e k v n xs):∀ j,v.ownBlock = some j -> base <= j /\ j < w.heap.size:=by
 intro j hj
 rcases h.2 with ⟨h1,h2⟩ | ⟨g,cap,cur,h1,h2,h3,h4⟩
 ·subst h1; simp [Value.ownBlock] at hj
 ·subst h1
  simp [Value.ownBlock] at hj;subst hj;exact ⟨h2,(Array.getElem?_eq_some_iff.1 h3).1⟩
theorem QC {w:World} {b:Nat} {T:TypeId} {x0 x1:Value} (h:w.heap[b]? = some (.cells #[x0,x1] T (0,0))):w.cell? ⟨b,0,none⟩ = some x0 /\ w.cell? ⟨b,1,none⟩ = some x1 :=
 ⟨Qb h (i:=0) rfl,Qb h (i:=1) rfl⟩
theorem Zu {w:World} {b:Nat} {T:TypeId} {cs:Array Value} (h:w.heap[b]? = some (.cells cs T (0,0))):w.frozen? ⟨b,0,none⟩ = false /\ w.frozen? ⟨b,1,none⟩ = false :=
 ⟨Qf h 0,Qf h 1⟩
theorem Qi {w:World} {b:Nat} {T:TypeId} {x0 x1 x2 x3:Value} (h:w.heap[b]? = some (.cells #[x0,x1,x2,x3] T (0,0))):w.cell? ⟨b,0,none⟩ = some x0 /\ w.cell? ⟨b,1,none⟩ = some x1 /\ w.cell? ⟨b,2,none⟩ = some x2 /\ w.cell? ⟨b,3,none⟩ = some x3 :=
 ⟨Qb h (i:=0) rfl,Qb h (i:=1) rfl,Qb h (i:=2) rfl,Qb h (i:=3) rfl⟩
theorem Q3 {w:World} {b:Nat} {T:TypeId} {cs:Array Value} (h:w.heap[b]? = some (.cells cs T (0,0))):w.frozen? ⟨b,0,none⟩ = false /\ w.frozen? ⟨b,1,none⟩ = false /\ w.frozen? ⟨b,2,none⟩ = false /\ w.frozen? ⟨b,3,none⟩ = false :=
 ⟨Qf h 0,Qf h 1,Qf h 2,Qf h 3⟩
theorem Qc {w:World} {b:Nat} {T:TypeId} {x0 x1 x2 x3 x4 x5:Value} (h:w.heap[b]? = some (.cells #[x0,x1,x2,x3,x4,x5] T (0,0))):w.cell? ⟨b,0,none⟩ = some x0 /\ w.cell? ⟨b,1,none⟩ = some x1 /\ w.cell? ⟨b,2,none⟩ = some x2 /\ w.cell? ⟨b,3,none⟩ = some x3 /\ w.cell? ⟨b,4,none⟩ = some x4 /\ w.cell? ⟨b,5,none⟩ = some x5 :=
 ⟨Qb h (i:=0) rfl,Qb h (i:=1) rfl,Qb h (i:=2) rfl,Qb h (i:=3) rfl,Qb h (i:=4) rfl,Qb h (i:=5) rfl⟩
theorem Qk {w:World} {b:Nat} {T:TypeId} {cs:Array Value} (h:w.heap[b]? = some (.cells cs T (0,0))):w.frozen? ⟨b,0,none⟩ = false /\ w.frozen? ⟨b,1,none⟩ = false /\ w.frozen? ⟨b,2,none⟩ = false /\ w.frozen? ⟨b,3,none⟩ = false /\ w.frozen? ⟨b,4,none⟩ = false /\ w.frozen? ⟨b,5,none⟩ = false :=
 ⟨Qf h 0,Qf h 1,Qf h 2,Qf h 3,Qf h 4,Qf h 5⟩
end
section
open Go.RowKit NamesSpec Go.Lib
set_option maxRecDepth 100000
def RetStrs (W:World) (l:List ByteArray) (e:Ending) (w':World):Prop:=∃ v,e = .returned v/\Rd w' v (strV l)/\Below W.heap.size W w'
def RetInts (W:World) (l:List Int) (e:Ending) (w':World):Prop:=∃ v,e = .returned v/\Rd w' v (intV l)/\Below W.heap.size W w'
def PlaceRel (l:List ByteArray) (n:Nat) (s:ByteArray) (i:Value):Prop:=∃ k:Nat,k<=n/\i = .int .i64 k/\s∉l.take k
theorem Jd (v:Value) (l:List ByteArray) (s:ByteArray) (w:World) (h:Rd w v (strV l)) (hm:l.length <= 9223372036854775807) :
 Calls Tryz.prog 141 #[v,.string s] w fun e w'=>e = .returned (.int .i64 (idxOfS l s))/\w=w':=by
 obtain ⟨A,n,c,rfl,hn,hc,hA⟩:=h.strs;have HA:=qh hA;have HN:=qh hn;have hm':n<=9223372036854775807:=by omega
 clear hA hn h hc hm;go_enter Tryz.func141,Tryz.ntmps141;go_wp2
 go_loop [5] (fun i=>PlaceRel l n s i) (fun i=>n-(RowKit.intOf i).toNat)
 case atStart=>exact ⟨0,Nat.zero_le _,rfl,by simp⟩
 case round =>
  obtain ⟨k,hk,rfl,hno⟩:=hrel
  by_cases hlt:k<n
  ·obtain ⟨b,off,rfl,hb,hcell⟩:=HA.o (by omega)
   obtain ⟨x,hx⟩:∃ x,l[k]?=some x:=Qp (by have:=HN.o; omega);have hck:=hcell k x hx;have HX:=qh hx;have HO:=qh hno;clear hcell hx hno
   rcases hxs:(x.toList==s.toList) with _ | _
   ·go_wp2
    go_round
    case rel =>
     refine ⟨k+1,by omega,by go_num,?_⟩;rw [QA HX.o,List.mem_append,List.mem_singleton];rintro (h1 | h1)
     ·exact HO.o h1
     ·exact Qii hxs h1.symm
    case measure=>simp [RowKit.intOf]; omega
   ·go_wp2
    go_ret;exact ⟨Qo (by rw [<- ZB hxs] at HO ⊢; exact (Qfq HX.o HO.o).symm),rfl⟩
  ·go_wp2
   go_ret;have:=HN.o;exact ⟨Qo (by rw [List.take_of_length_le (by omega)] at hno; exact (Qee hno).symm),rfl⟩
def BoolQuiet (W:World) (b:Bool) (e:Ending) (w':World):Prop:=e = .returned (.bool b)/\∃ q,w'=W.drewN q
theorem BoolQuiet.below {W:World} {b:Bool} {e:Ending} {w':World} (h:BoolQuiet W b e w'):e = .returned (.bool b) /\ Below W.heap.size W w':=by
 obtain ⟨rfl,q,rfl⟩:=h;exact ⟨rfl,below_drewN (Below.refl _ _) q⟩
end
section
open Go.RowKit
def RetPP (W:World) (s:ByteArray) (er:Int) (e:Ending) (w':World):Prop:=e = .returned (.tuple #[.string s,.int .i64 er])/\Below W.heap.size W w'
def RetI (W:World) (n:Int) (e:Ending) (w':World):Prop:=e = .returned (.int .i64 n)/\Below W.heap.size W w'
def RetB (W:World) (b:Bool) (e:Ending) (w':World):Prop:=e = .returned (.bool b)/\Below W.heap.size W w'
def SameI (W:World) (n:Int) (e:Ending) (w':World):Prop:=e = .returned (.int .i64 n)/\W=w'
def SameB (W:World) (b:Bool) (e:Ending) (w':World):Prop:=e = .returned (.bool b)/\W=w'
theorem JN {w:World} {cs:Array Value} {xs:List Value} {e:TypeId} {n k:Nat} (hk:k = w.heap.size) (hn:n = xs.length) (hx:cs.toList = xs):Rd (w.alloc (.cells cs e)) (.slice (some ⟨k,0,none⟩) n n) xs:=by
 subst hk; subst hx;exact Rd.lit (by simpa using hn)
theorem undrawn {w w':World} (h:Below w.drew.heap.size w.drew w'):Below w.heap.size w w':=⟨h.os,h.tape,h.output,h.size,h.block⟩
end
section
open Go.RowKit TermSpec
set_option maxRecDepth 100000
def tmV (t:Tm):List Value:=[.int .i64 t.op,.int .i64 t.n,.string t.s]
def tmsV (l:List Tm):List Value:=l.flatMap tmV
theorem Q7 (t:Tm):(tmV t).length=3:=rfl
theorem ZR (l:List Tm):(tmsV l).length=l.length*3:=Qbc Q7 l
theorem QgT (t:Tm):∀ u∈tmV t,u.oneCell'=true:=by simp [tmV,Value.oneCell']
theorem Qcj (l:List Tm):∀ u ∈ tmsV l,u.oneCell' = true:=by
 intro u hu;obtain ⟨t,_,h⟩:=List.mem_flatMap.1 hu;exact QgT t u h
theorem tmsV_get {l:List Tm} {i:Nat} {t:Tm} (h:l[i]? = some t):(tmsV l)[i * 3]? = some (.int .i64 t.op) /\ (tmsV l)[i * 3 + 1]? = some (.int .i64 t.n) /\ (tmsV l)[i * 3 + 2]? = some (.string t.s) :=
 ⟨flat_get (j:=0) Q7 h (by omega),flat_get (j:=1) Q7 h (by omega),flat_get (j:=2) Q7 h (by omega)⟩
def Tms (w:World) (v:Value) (l:List Tm):Prop:=∃ n,n=l.length/\Rdk 3 w v n (tmsV l)
theorem Tms.keep {w w':World} {v:Value} {l:List Tm} (h:Tms w v l) (hb:Below w.heap.size w w'):Tms w' v l:=by
 obtain ⟨n,hn,h⟩:=h;exact ⟨n,hn,h.keep hb⟩
theorem Tms.alloc {w:World} {v:Value} {l:List Tm} (h:Tms w v l) (o:Obj):Tms (w.alloc o) v l:=h.keep ((Below.refl _ _).alloc (Nat.le_refl _) _)
theorem Tms.shape {w:World} {v:Value} {l:List Tm} (h:Tms w v l):∃ A n c,v = .slice A n c /\ n = l.length /\ n <= c:=by
 obtain ⟨n,hn,A,c,hv,hc,_⟩:=h;exact ⟨A,n,c,hv,hn,hc⟩
theorem Tms.cap {w:World} {A:Option Addr} {n c:Nat} {l:List Tm} (h:Tms w (.slice A n c) l):n <= c:=by
 obtain ⟨A',n',c',heq,_,hc⟩:=h.shape
 cases heq
 exact hc
theorem Tms.at_ {w:World} {A:Option Addr} {n c:Nat} {l:List Tm} {i:Nat} {t:Tm} (h:Tms w (.slice A n c) l) (hi:l[i]? = some t) :
 ∃ b off,A=some ⟨b,off,none⟩/\b<w.heap.size/\w.cell? ⟨b,off+i*3,none⟩=some (.int .i64 t.op)/\w.cell? ⟨b,off+i*3+1,none⟩=some (.int .i64 t.n)/\w.cell? ⟨b,off+i*3+2,none⟩=some (.string t.s):=by
 obtain ⟨m,hm,A',c',heq,hc,hl,hA⟩:=h
 cases heq
 have:=Ja hi;obtain ⟨b,off,rfl,hb,hcell⟩:=hA (by omega);obtain ⟨g0,g1,g2⟩:=tmsV_get hi;exact ⟨b,off,rfl,hb,hcell _ _ g0,by rw [Nat.add_assoc]; exact hcell _ _ g1,by rw [Nat.add_assoc]; exact hcell _ _ g2⟩
theorem Qic {l:List Tm} {k:Nat}:tmsV (l.drop k) = (tmsV l).drop (k * 3):=by
 induction l generalizing k with
 | nil => simp [tmsV]
 | cons t r ih =>
   cases k with
   | zero => simp
   | succ k =>
     rw [List.drop_succ_cons,ih,show tmsV (t::r)=tmV t++tmsV r from List.flatMap_cons ..,show (k+1)*3=3+k*3 by omega,<- List.drop_drop]
     rfl
theorem Qiw {l:List Tm} {k:Nat}:tmsV (l.take k) = (tmsV l).take (k * 3):=by
 induction l generalizing k with
 | nil => simp [tmsV]
 | cons t r ih =>
   cases k with
   | zero => simp [tmsV]
   | succ k =>
     rw [List.take_succ_cons,show tmsV (t::r.take k)=tmV t++tmsV (r.take k) from List.flatMap_cons ..,ih,show tmsV (t::r)=tmV t++tmsV r from List.flatMap_cons ..,show (k+1)*3=3+k*3 by omega,List.take_append,Q7];rw [show (tmV t).take (3+k*3)=tmV t from List.take_of_length_le (by rw [Q7]; omega),Nat.add_sub_cancel_left]
theorem tms_lit {w:World} {cs:Array Value} {l:List Tm} {e:TypeId} {n k:Nat} (hk:k = w.heap.size) (hn:n = l.length) (hx:cs.toList = tmsV l):Tms (w.alloc (.cells cs e)) (.slice (some ⟨k,0,none⟩) n n) l:=by
 subst hk;refine ⟨n,hn,_,n,rfl,Nat.le_refl _,by rw [ZR,hn],fun _=>⟨w.heap.size,0,rfl,by simp,fun j u hj=>?_⟩⟩;rw [<- hx,Array.getElem?_toList] at hj;rw [World.cell?_alloc_at _ _ _ _ rfl]
 simpa using hj
theorem Tms.part {w:World} {b off n c c' i j:Nat} {l:List Tm} (h:Tms w (.slice (some ⟨b,off,none⟩) n c) l) (hij:i <= j) (hj:j <= n) (hc:j - i <= c'):Tms w (.slice (some ⟨b,off + i * 3,none⟩) (j - i) c') ((l.drop i).take (j - i)):=by
 obtain ⟨m,hm,A',c2,heq,hcm,hl,hA⟩:=h
 cases heq
 refine ⟨j-i,by rw [List.length_take,List.length_drop]; omega,_,c',rfl,hc,by rw [ZR,List.length_take,List.length_drop]; rw [show min (j-i) (l.length-i)=j-i by omega],fun h0=>?_⟩;obtain ⟨b',off',heq,hb,hcell⟩:=hA (by omega)
 cases heq
 refine ⟨b,off+i*3,rfl,hb,fun q u hq=>?_⟩;rw [Qiw,Qic] at hq;have hq1:q<(j-i)*3:=by have:=(List.getElem?_eq_some_iff.1 hq).1; rw [List.length_take] at this; omega
 rw [List.getElem?_take_of_lt hq1,List.getElem?_drop] at hq;rw [Nat.add_assoc];exact hcell _ _ hq
theorem Qas:Tryz.prog.elem 79=123:=by kernel_rfl
def Small (l:List Tm):Prop:=∀ t∈l,t.s.size<=9223372036854775807
end
section
open Go.RowKit TermSpec
set_option maxRecDepth 100000
theorem QdD:(Tryz.prog.info? 123).map (fun i=>(i.zero,i.size,i.bytes))=some (some (.agg #[.int .i64 0,.int .i64 0,.string ByteArray.empty]),3,32):=by kernel_rfl
theorem Zn {P:Program} (k:Nat) (w:World) (dT sT ty elem:TypeId) (g o dLen dCap:Nat) (a:Addr) (sLen sCap:Nat) (cur:Array Value) (t:TypeId) (cs:List Value)
 (hu:P.underlying dT=some (.slice elem)) (hs:(P.info? elem).map (·.size)=some k)
 (hg:w.heap[g]?=some (.cells cur t (0,0))) (hn:cs.length=Nat.min sLen dLen*k)
 (hsrc:∀ j v,cs[j]?=some v->w.cell? (a.add j)=some v) (hfit:o+cs.length<=cur.size) (h1:∀ v∈cs,v.oneCell'=true) :
 (Builtin.copy_ #[dT,sT] ty #[.slice (some ⟨g,o,none⟩) dLen dCap,.slice (some a) sLen sCap]).run P w =
   .ok (goInt (Nat.min sLen dLen)) (w.setRow g (cur.toList.take o++cs++cur.toList.drop (o+cs.length)).toArray):=by
 have hl:=run_loadCells_list (P:=P) w a cs hsrc;have hst:=run_storeCells_at P g o t cs 0 cur w hg (by simpa using hfit) h1
 cases hq:P.info? elem with
 | none => simp [hq] at hs
 | some i =>
   have hi:i.size=k:=by simpa [hq] using hs
   simp [Builtin.copy_,run_underlying hu,Builtin.lenOf,Builtin.firstCells,sizeOf,typeInfo,hq,hi,<- hn,hl,hst]
theorem slice_lo (a:Option Addr) (len cap lo:Nat) (li:Int) (hli:li = lo) (h1:lo <= len):∃ r,∀ W,(Instr.slice 79 (.slice a len cap) (some (.int .i64 li)) none none).run Tryz.prog W = .ok r W:=by
 refine ⟨sliced a lo len cap 3,fun W=>?_⟩;rw [run_slice_l (P:=Tryz.prog) W 79 a len cap (by rw [Qas]; exact Tryz.underlying79) .i64 li (by omega) (by omega),Qas,Tryz.sizeOf123];subst hli
 rfl
theorem QaT (g len cap lo:Nat) (li:Int) (hli:li = lo) (h1:lo <= len) (h2:lo < cap) (W:World):(Instr.slice 79 (.slice (some ⟨g,0,none⟩) len cap) (some (.int .i64 li)) none none).run Tryz.prog W = .ok (.slice (some ⟨g,lo * 3,none⟩) (len - lo) (cap - lo)) W:=by
 rw [run_slice_l (P:=Tryz.prog) W 79 _ len cap (by rw [Qas]; exact Tryz.underlying79) .i64 li (by omega) (by omega),Qas,Tryz.sizeOf123];subst hli;simp [sliced,Result.andThen,addr_add];omega
theorem Qh5 (g len cap hi:Nat) (h:Int) (hh:h = hi) (h2:hi <= cap) (_h0:0 < cap) (W:World):(Instr.slice 79 (.slice (some ⟨g,0,none⟩) len cap) none (some (.int .i64 h)) none).run Tryz.prog W = .ok (.slice (some ⟨g,0,none⟩) hi cap) W:=by
 rw [run_slice_h (P:=Tryz.prog) W 79 _ len cap (by rw [Qas]; exact Tryz.underlying79) .i64 h (by omega) (by omega),Qas,Tryz.sizeOf123];subst hh;simp [sliced,Result.andThen,addr_add]
 try omega
def InsPost (W:World) (base:Nat) (v:Value) (n:Nat) (l:List Tm) (e:Ending) (w':World):Prop :=
 ∃ v',e = .returned v'/\w'.ownsRow base 123 3 v' n (tmsV l)/\W.grownBy w' v.ownBlock/\(v'.ownBlock=v.ownBlock\/v'.ownBlock=some W.heap.size)
theorem Zt {w w':World} {g:Nat} (h:w.grownBy w' (some g)) (cs:Array Value):w.grownBy (w'.setRow g cs) (some g) :=
 ⟨h.os,h.tape,h.output,by simp [World.setRow]; exact h.size,fun i hi hn => by
  rw [<- h.block i hi hn];unfold World.setRow;simp only [Array.getElem?_modify];rw [if_neg (by intro e; exact hn (by rw [e]))]⟩
theorem QiU (base:Nat) (v:Value) (n:Nat) (l:List Tm) (t:Tm) (vb:Nat) (w:World) (_hn:n = l.length) (h40:n <= 1000) (hown:w.ownsRow base 123 3 v n (tmsV l)) (hbase:base <= w.heap.size)
 (hvb:w.heap[vb]?=some (.cells #[.int .i64 t.op,.int .i64 t.n,.string t.s] 123 (0,0))) :
 Calls Tryz.prog 193 #[v,.int .i64 n,.slice (some ⟨vb,0,none⟩) 1 1] w (InsPost w base v (n+1) (l++[t])):=by
 obtain ⟨i0,hi,hz0,hz1,hz2⟩:=info_parts QdD;obtain ⟨A,cp,rfl⟩:=QR hown;obtain ⟨r,hr⟩:=slice_lo A n cp n (n:Int) rfl (Nat.le_refl _);have HO:=qh hown
 have HF:Hid (∀ (w':World) (v':Value),w'.ownsRow base 123 3 v' (n + 1) (tmsV l ++ [.int .i64 t.op,.int .i64 t.n,.string t.s]) -> w'.ownsRow base 123 3 v' (n + 1) (tmsV (l ++ [t]))):=qh (fun w' v' h => by
  have:tmsV (l++[t])=tmsV l++[.int .i64 t.op,.int .i64 t.n,.string t.s]:=by simp [tmsV,tmV]
  rw [this]; exact h)
 clear hown _hn;go_enter Tryz.func193,Tryz.ntmps193;go_wp2_with (at_builtin; refine wpList_append_lies _ rfl (.tmp 23) (.tmp 24) 79 rfl base 123 i0 _ 3 32 Tryz.underlying79 hi hz0 hz1 hz2 rfl (by decide) _ n (tmsV l) rfl HO.o ⟨vb,0,none⟩ 1 1 [.int .i64 t.op,.int .i64 t.n,.string t.s] rfl rfl (World.news_of_block (cs:=#[.int .i64 t.op,.int .i64 t.n,.string t.s]) hvb) (by simp [Value.oneCell']) (by decide) (by unfold maxLen; omega) (by omega) hbase _ rfl ?_);intro g cap w2 hown2 hgrow2 hwhere hlt2;have HE:=qh (And.intro (HF.o _ _ hown2) (And.intro hgrow2 hwhere));clear hown2 hgrow2 hwhere;go_wp2_with fail;go_ret;refine ⟨_,rfl,HE.o.1,HE.o.2.1,?_⟩
 rcases HE.o.2.2 with h | h
 ·exact .inl h.symm
 ·exact .inr (by rw [<- h]; rfl)
theorem seg_list {cur cs t:List Value} {i n:Nat} (hcs:cur.take (n * 3) = cs) (hi:i < n) (hn:(n + 1) * 3 <= cur.length) (ht:t.length = 3) :
 ((cur.take ((i+1)*3)++cs.drop (i*3)++cur.drop ((i+1)*3+(cs.drop (i*3)).length)).take (i*3)++t++(cur.take ((i+1)*3)++cs.drop (i*3)++cur.drop ((i+1)*3+(cs.drop (i*3)).length)).drop (i*3+t.length)).take ((n+1)*3)=cs.take (i*3)++t++cs.drop (i*3):=by
 have hl:cs.length=n*3:=by rw [<- hcs,List.length_take]; omega
 have hd:(cs.drop (i*3)).length=n*3-i*3:=by rw [List.length_drop,hl]
 have h1:(cur.take ((i+1)*3)).length=(i+1)*3:=by rw [List.length_take]; omega
 have e1:(cur.take ((i + 1) * 3) ++ cs.drop (i * 3) ++ cur.drop ((i + 1) * 3 + (cs.drop (i * 3)).length)).take (i * 3) = cs.take (i * 3):=by
  rw [List.append_assoc,List.take_append_of_le_length (by omega),List.take_take,<- hcs,List.take_take,show min (i*3) ((i+1)*3)=i*3 by omega,show min (i*3) (n*3)=i*3 by omega]
 have e2:(cur.take ((i + 1) * 3) ++ cs.drop (i * 3) ++ cur.drop ((i + 1) * 3 + (cs.drop (i * 3)).length)).drop (i * 3 + t.length) = cs.drop (i * 3) ++ cur.drop ((i + 1) * 3 + (cs.drop (i * 3)).length):=by
  rw [List.append_assoc,show i*3+t.length=(cur.take ((i+1)*3)).length by omega,List.drop_left]
 rw [e1,e2];have h4:(cs.take (i*3)).length=i*3:=by rw [List.length_take]; omega
 rw [List.append_assoc,List.append_assoc,<- List.append_assoc,<- List.append_assoc,List.take_append_of_le_length (by simp only [List.length_append]; omega)];rw [List.take_of_length_le (by simp only [List.length_append]; omega),List.append_assoc]
theorem tms_mid (l:List Tm) (t:Tm) (i:Nat):tmsV (l.take i ++ t :: l.drop i) = (tmsV l).take (i * 3) ++ tmV t ++ (tmsV l).drop (i * 3):=by
 rw [<- Qiw,<- Qic];simp [tmsV]
theorem Qgd (base g cap:Nat) (n i:Nat) (l:List Tm) (t:Tm) (vb:Nat) (w:World) (hn:n = l.length) (h40:n <= 1000) (hi:i < n) (hroom:n + 1 <= cap)
 (hown:w.ownsRow base 123 3 (.slice (some ⟨g,0,none⟩) n cap) n (tmsV l))
 (hvb:w.heap[vb]?=some (.cells #[.int .i64 t.op,.int .i64 t.n,.string t.s] 123 (0,0))) (hne:vb≠g) :
 Calls Tryz.prog 193 #[.slice (some ⟨g,0,none⟩) n cap,.int .i64 i,.slice (some ⟨vb,0,none⟩) 1 1] w (InsPost w base (.slice (some ⟨g,0,none⟩) n cap) (n+1) (l.take i++t::l.drop i)):=by
 obtain ⟨i0,hi0,hz0,hz1,hz2⟩:=info_parts QdD;obtain ⟨hl,hv⟩:=hown
 rcases hv with ⟨hv,_⟩ | ⟨g',cap',cur,hv,hbase,hb,hnc,hcm,hcs,ht⟩
 ·cases hv
 cases hv
 have hsz:(Tryz.prog.info? 123).map (·.size)=some 3:=by rw [hi0]; simp [hz1]
 have hcur:cur.toList.length=cap*3:=by rw [Array.length_toList]; exact hcs
 have hc63:cap<=9223372036854775807:=hcm;have hdl:((tmsV l).drop (i*3)).length=(n-i)*3:=by rw [List.length_drop,hl]; omega
 have hone:=Qcj l;have hs1:=QaT g n cap i (i:Int) rfl (by omega) (by omega);have hs2:=Qh5 g n cap (n+1) ((n:Int)+1) (by omega) (by omega) (by omega);have hs3:=QaT g (n+1) cap (i+1) ((i:Int)+1) (by omega) (by omega) (by omega);have hs4:=QaT g (n+1) cap i (i:Int) rfl (by omega) (by omega)
 have hov:∀ lb cb,(callFunc 199 #[.slice (some ⟨vb,0,none⟩) 1 1,.slice (some ⟨g,(i + 1) * 3,none⟩) lb cb]).run Tryz.prog w = .ok (.value (.bool false)) w:=fun lb cb => by
  rw [run_callFunc_extern Tryz.func199 (by kernel_rfl) (by kernel_rfl) (by kernel_rfl) (e:=Extern.SlicesOverlaps.overlaps #[79,79] #[4]) (by kernel_rfl),
   Lib.run_overlaps_apart w 79 4 123 Tryz.underlying79 3 Tryz.sizeOf123 ⟨vb,0,none⟩ ⟨g,(i+1)*3,none⟩ 1 1 lb cb hne 123 123 3 (cap*3) (by simp [World.shape?,hvb]) (by simp [World.shape?,hb,hcs]) (by omega) (by simp [World.frozen?,hvb]) (by simp [World.frozen?,hvb])]
  rfl
 obtain ⟨row1,hrow1⟩:∃ row1,row1=cur.toList.take ((i+1)*3)++(tmsV l).drop (i*3)++cur.toList.drop ((i+1)*3+((tmsV l).drop (i*3)).length):=⟨_,rfl⟩;have hr1l:row1.length=cap*3:=by rw [hrow1]; simp only [List.length_append,List.length_take,List.length_drop,hcur,hl]; omega
 have hcell:∀ j u,(tmsV l)[j]? = some u -> w.cell? ⟨g,j,none⟩ = some u:=fun j u hj => by
  have hj':=(List.getElem?_eq_some_iff.1 hj).1;rw [<- ht,List.getElem?_take_of_lt (by omega),Array.getElem?_toList] at hj;simp [World.cell?,hb,hj]
 have hcp1:∀ ty dc sc,(Builtin.copy_ #[79,79] ty #[.slice (some ⟨g,(i + 1) * 3,none⟩) (n - i) dc,.slice (some ⟨g,i * 3,none⟩) (n + 1 - i) sc]).run Tryz.prog w.drew = .ok (goInt (Nat.min (n + 1 - i) (n - i))) (w.drew.setRow g row1.toArray):=fun ty dc sc => by
  rw [hrow1]
  exact Zn 3 w.drew _ _ ty 123 g ((i + 1) * 3) _ dc ⟨g,i * 3,none⟩ _ sc cur 123 ((tmsV l).drop (i * 3)) Tryz.underlying79 hsz hb
   (by rw [hdl,show Nat.min (n+1-i) (n-i)=n-i by simp only [Nat.min_def]; split<;>omega])
   (fun j v hj=>by rw [addr_add]; rw [List.getElem?_drop] at hj; exact hcell _ v hj) (by rw [hdl]; omega) (fun v hv=>hone v (List.mem_of_mem_drop hv))
 obtain ⟨row2,hrow2⟩:∃ row2,row2=row1.take (i*3)++tmV t++row1.drop (i*3+(tmV t).length):=⟨_,rfl⟩;have hr2l:row2.length=cap*3:=by rw [hrow2]; simp only [List.length_append,List.length_take,List.length_drop,hr1l,Q7]; omega
 have hb1:(w.drew.setRow g row1.toArray).heap[g]?=some (.cells row1.toArray 123 (0,0)):=setRow_heap w.drew g cur row1.toArray 123 (0,0) hb
 have hvb1:(w.drew.setRow g row1.toArray).heap[vb]? = some (.cells #[.int .i64 t.op,.int .i64 t.n,.string t.s] 123 (0,0)) :=
  ((Zt (Qx w (some g)) row1.toArray).block vb (Array.getElem?_eq_some_iff.1 hvb).1 (by simpa using hne)).trans hvb
 have hcp2:∀ ty dc,(Builtin.copy_ #[79,79] ty #[.slice (some ⟨g,i * 3,none⟩) (n + 1 - i) dc,.slice (some ⟨vb,0,none⟩) 1 1]).run Tryz.prog (w.drew.setRow g row1.toArray) = .ok (goInt (Nat.min 1 (n + 1 - i))) (w.drew.setRow g row2.toArray):=fun ty dc => by
  have:=Zn (P:=Tryz.prog) 3 (w.drew.setRow g row1.toArray) 79 79 ty 123 g (i * 3) (n + 1 - i) dc ⟨vb,0,none⟩ 1 1 row1.toArray 123 (tmV t) Tryz.underlying79 hsz hb1
   (by rw [Q7,show Nat.min 1 (n+1-i)=1 by simp only [Nat.min_def]; split<;>omega])
   (fun j v hj=>by rw [addr_add,Nat.zero_add]; exact Qb hvb1 (by rw [show (#[.int .i64 t.op,.int .i64 t.n,.string t.s]:Array Value)=(tmV t).toArray from rfl,List.getElem?_toArray]; exact hj))
   (by rw [Q7]; simp only [List.size_toArray]; omega) (QgT t)
  rw [this,setRow_setRow,hrow2]
 have hfin:InsPost w base (.slice (some ⟨g,0,none⟩) n cap) (n + 1) (l.take i ++ t :: l.drop i) (.returned (.slice (some ⟨g,0,none⟩) (n + 1) cap)) (w.drew.setRow g row2.toArray):=by
  refine ⟨_,rfl,⟨by rw [ZR]; simp; omega,.inr ⟨g,cap,row2.toArray,rfl,hbase,setRow_heap w.drew g cur row2.toArray 123 (0,0) hb,hroom,hcm,by simpa using hr2l,?_⟩⟩,Zt (Qba (Qx w (some g))) _,.inl rfl⟩;rw [tms_mid,hrow2,hrow1];exact seg_list ht hi (by omega) rfl
 have HF:=qh hfin;have hz3:¬ ((i:Int)=(n:Int)):=by omega
 have hz3':((i:Int)==(n:Int))=false:=by simpa using hz3
 have hz4:¬ ((cap:Int)<(n:Int)+1):=by omega
 have hz4':decide ((cap:Int)<(n:Int)+1)=false:=decide_eq_false hz4;clear hfin hrow2 hrow1 hr1l hr2l hb1 hvb1 hcell hone hdl hcur ht hl hcs hbase hn;have hw1:IntKind.i64.wrap ((i:Int)+1)=(i:Int)+1:=by rw [IntKind.wrap_i64]; omega
 have hb1:(0:Int)<=(i:Int)+1:=by omega
 have hb5:(i:Int)<=(n:Int):=by omega
 have htn:((i:Int)+1).toNat=i+1:=by omega
 have hb2:¬ (cap=i+1):=by omega
 have hb3:(i:Int)<=(n:Int)+1:=by omega
 have hb4:¬ (cap=i):=by omega
 have mixed:Tryz.prog.follows .mixedOrders=true:=by kernel_rfl
 go_enter Tryz.func193,Tryz.ntmps193;go_wp2_with (simp only [hov])
 go_region_law_o (refine step_copy_runI rfl _ _ 79 79 rfl _ _ (by simp [Act.eval,Act.put]) (by simp [Act.eval,Act.put]) (hcp1 _ _ _) ?_)
 go_wp2_with (at_builtin; refine wpList_copy_runI _ rfl _ _ 79 79 rfl _ _ rfl rfl (hcp2 _ _) ?_);go_ret;exact HF.o
end
end Go.Proofs.YtbdalbpackfejaaGreatDoor
