/- ShapeRef, ShapeRefTell, PrintIn, ShapeRefMay, ActRefCheck, TransRefCheck, PrintMay, ActCheck, TransCheck, PrintMayP, joined. -/
import Derived.Test.YtbdalbpackfejaaGreatDoorMFormatOf15
set_option maxHeartbeats 16000000
set_option maxRecDepth 100000
namespace Go.Proofs.YtbdalbpackfejaaGreatDoor
section
open Go.RowKit ShapeSpec
set_option maxRecDepth 100000
def RAbQ (W:World) (l:List Sh) (i m:Nat) (p v:Value) (wr:World):Prop:=∃ (j:Nat) (xs:List Int),v = .int .i64 j/\j<m/\RowI W wr p xs/\xs.length<=i/\xs++upI l j=upI l i
theorem rab_next {l:List Sh} {m i j:Nat} {xs:List Int} (hs:SU l m) (hj:j < m) (h:xs ++ upI l j = upI l i):(par l j = -1 /\ xs = upI l i) \/ ∃ p:Nat,par l j = p /\ p < m /\ p < j /\ (xs ++ [(p:Int)]).length <= i /\ (xs ++ [(p:Int)]) ++ upI l p = upI l i:=by
 rcases Nat.eq_zero_or_pos j with h0 | h0
 ·subst h0
  refine .inl ⟨hs.root hj,?_⟩;rw [<- h];exact (List.append_nil xs).symm
 ·obtain ⟨p,hp,hlt,hup,_⟩:=hs.parn hj h0
  have e:(xs ++ [(p:Int)]) ++ upI l p = upI l i:=by
   rw [<- h];unfold upI;rw [hup,List.append_assoc]
   rfl
  refine .inr ⟨p,hp,by omega,hlt,?_,e⟩;have h1:=congrArg List.length e;have h2:=JX l i;rw [J6,List.length_append,J6] at h1;omega
theorem QaO (A:Option Addr) (n c m:Nat) (l:List Sh) (a:Nat) (w:World) (h:Sts w (.slice A n c) l) (hs:SU l m) (ha:a < m) (hmn:m <= n) (hm:n <= 1000000) :
 Calls Tryz.prog 33 #[.slice A n c,.int .i64 a] w (RetInts w (upI l a)):=by
 have HT:=qh h;have HS:=qh hs;obtain ⟨i0,hi,hz0,hz1,hz2⟩:=info_parts QaK;have HI:=qh (And.intro hi (And.intro hz0 (And.intro hz1 hz2)));clear h hs hi hz0 hz1 hz2;go_enter Tryz.func33,Tryz.ntmps33;go_wp2_with fail
 go_loopw [1,5] (fun v p wr=>RAbQ w l a m p v wr) (fun v _ _=>(intOf v).toNat)
 case atStart=>exact ⟨a,[],rfl,ha,⟨World.ownsRow_lit w #[] 0 (Nat.le_refl _) (Nat.zero_le _) rfl,(Below.refl _ _).alloc (Nat.le_refl _) _⟩,Nat.zero_le _,rfl⟩
 case round =>
  obtain ⟨j,xs,rfl,hj,hrow,hxl,hq⟩:=hrel;have HR:=qh hrow;have HT1:=qh (HT.o.keep HR.o.2);obtain ⟨b,off,rfl,hb,-,c2⟩:=HT1.o.at_ (i:=j) (by omega);have hjn:(j:Int)<n:=by omega
  rcases rab_next HS.o hj hq with ⟨hp,hx⟩ | ⟨p,hp,hpm,hpj,hle,hx⟩
  ·rw [hp] at c2
   have HR3:Hid (RetInts w (upI l a) _ wr):=qh (by rw [<- hx]; exact HR.o.ret);clear hq hrow hp hx;go_wp2_with fail;go_ret;exact HR3.o
  ·rw [hp] at c2
   have HX:=qh hx;have HLE:=qh hle;have hxl':xs.length<a+1:=by omega
   have HSZ:Hid (w.heap.size<=wr.heap.size):=qh HR.o.2.size;have HL1:Hid (xs.length+(intV [(p:Int)]).length<=maxLen):=qh (by simp [maxLen]; omega);have HL2:Hid ((xs.length+(intV [(p:Int)]).length)*8<=140737488355328):=qh (by simp; omega);clear hq hrow hp hx hle;go_wp2_with (at_builtin; refine QK _ rfl (.tmp 18) (.tmp 20) _ rfl w.heap.size 3 i0 (.int .i64 0) 8 Tryz.underlying67 HI.o.1 HI.o.2.1 HI.o.2.2.1 HI.o.2.2.2 rfl _ _ _ rfl (HR.o.1.alloc _) _ (intV [(p:Int)]) rfl (JN rfl rfl rfl) (ZC _) HL1.o HL2.o ?_ ?_; (have:=HSZ.o; simp; omega); intro p2 w2 hrow2 hg2 _; have HR2:=qh (RowI.add HR.o hrow2 hg2); clear hrow2 hg2)
   go_roundw
   case rel=>exact ⟨p,_,rfl,hpm,HR2.o,HLE.o,HX.o⟩
   case measure=>simp [intOf]; omega
def InQ (xs:List Int) (x:Int) (n:Nat) (v:Value):Prop:=∃ k:Nat,v = .int .i64 k/\k<=n/\x∉xs.take k
theorem in_next {xs:List Int} {x y:Int} {k:Nat} (h:xs[k]? = some y) (hne:y ≠ x) (hno:x ∉ xs.take k):x ∉ xs.take (k + 1):=by
 rw [QA h,List.mem_append,List.mem_singleton];rintro (h1 | h1)
 ·exact hno h1
 ·exact hne h1.symm
theorem in_hit {xs:List Int} {x:Int} {k:Nat} (h:xs[k]?=some x):decide (x∈xs)=true:=decide_eq_true (List.mem_of_getElem? h)
theorem in_miss {xs:List Int} {x:Int} {n:Nat} (hn:xs.length <= n) (hno:x ∉ xs.take n):decide (x ∈ xs) = false:=by
 rw [List.take_of_length_le hn] at hno;exact decide_eq_false hno
theorem rin_any (v:Value) (xs:List Int) (x:Int) (w:World) (h:Rd w v (intV xs)) (hm:xs.length <= 9223372036854775807) :
 Calls Tryz.prog 68 #[v,.int .i64 x] w (SameB w (decide (x∈xs))):=by
 obtain ⟨A,n,c,rfl,hn,hc,hA⟩:=h.ints;have HA:=qh hA;have HN:=qh hn;have hm':n<=9223372036854775807:=by omega
 have HY:Hid (∀ k:Nat,xs[k]?=some x->decide (x∈xs)=true):=qh (fun k h=>in_hit h);have HM:Hid (x∉xs.take n->decide (x∈xs)=false):=qh (in_miss (by omega));obtain ⟨r,hr⟩:∃ r,r=decide (x∈xs):=⟨_,rfl⟩;rw [<- hr] at HY HM ⊢;clear hA hn h hc hm hr;go_enter Tryz.func68,Tryz.ntmps68;go_wp2_with fail
 go_loop [5] (fun v=>InQ xs x n v) (fun v=>n-(intOf v).toNat)
 case atStart=>exact ⟨0,rfl,Nat.zero_le _,by simp⟩
 case round =>
  obtain ⟨k,rfl,hk,hno⟩:=hrel;have HO:=qh hno;clear hno
  by_cases hlt:k<n
  ·obtain ⟨b,off,rfl,hb,hcell⟩:=HA.o (by omega)
   obtain ⟨y,hy⟩:∃ y,xs[k]?=some y:=Qp (by have:=HN.o; omega);have hck:=hcell k y hy;have HX:=qh hy;have hltI:(k:Int)<n:=by omega
   clear hcell hy
   by_cases hyx:y=x
   ·have g1:(y == x) = true:=by simpa using hyx
    have HR:Hid (r=true):=qh (HY.o k (by rw [HX.o,hyx]));clear hyx;go_wp2_with fail;go_ret;exact ⟨Qg HR.o.symm,rfl⟩
   ·have g1:(y == x) = false:=by simpa using hyx
    have HR:=qh (in_next HX.o hyx HO.o);clear hyx;go_wp2_with fail
    go_round
    case rel=>exact ⟨k+1,by simp,by omega,HR.o⟩
    case measure=>simp [intOf]; omega
  ·obtain rfl:k = n:=by omega
   have HR:Hid (r=false):=qh (HM.o HO.o);go_wp2_with fail;go_ret;exact ⟨Qg HR.o.symm,rfl⟩
theorem rself_any (A:Option Addr) (n c m:Nat) (l:List Sh) (a:Nat) (w:World) (h:Sts w (.slice A n c) l) (hs:SU l m) (ha:a < m) (hmn:m <= n) (hm:n <= 1000000) :
 Calls Tryz.prog 29 #[.slice A n c,.int .i64 a] w (RetInts w (sfI l a)):=by
 have HT:Hid (∀ o:Obj,Sts (w.alloc o) (.slice A n c) l):=qh (fun o=>h.alloc o);have HAb:=qh (fun w h=>QaO A n c m l a w h hs ha hmn hm);have hul:=JX l a;have HE:Hid (sfI l a=[(a:Int)]++upI l a):=qh (sfI_cons l a);rw [HE.o];have hull:(upI l a).length<=a:=by rw [J6]; exact hul
 obtain ⟨us,hus⟩:∃ us,us=upI l a:=⟨_,rfl⟩;rw [<- hus] at HAb hull ⊢;have HL1:Hid ([(a:Int)].length+(intV us).length<=maxLen):=qh (by simp [maxLen]; omega);have HL2:Hid (([(a:Int)].length+(intV us).length)*8<=140737488355328):=qh (by simp; omega);have HR0:Hid (RowI w (w.alloc (.cells #[.int .i64 a] 3)) (.slice (some ⟨w.heap.size,0,none⟩) 1 1) [(a:Int)]):=qh ⟨World.ownsRow_lit w #[.int .i64 a] 1 (Nat.le_refl _) (by decide) rfl,(Below.refl _ _).alloc (Nat.le_refl _) _⟩;obtain ⟨i0,hi,hz0,hz1,hz2⟩:=info_parts QaK;have HI:=qh (And.intro hi (And.intro hz0 (And.intro hz1 hz2)));clear h hs hul HE hus hi hz0 hz1 hz2;go_enter Tryz.func29,Tryz.ntmps29;go_wp2_with (go_at_call 33; go_fit (HAb.o _ (HT.o _)));rintro e w1 ⟨v,rfl,hrd,hb⟩;have HR1:=qh (HR0.o.keep hb);have HRD:=qh hrd;have HSZ:Hid (w.heap.size<=w1.heap.size):=qh HR1.o.2.size;clear hrd hb;go_wp2_with (at_builtin; refine QK _ rfl (.tmp 6) (.tmp 9) _ rfl w.heap.size 3 i0 (.int .i64 0) 8 Tryz.underlying67 HI.o.1 HI.o.2.1 HI.o.2.2.1 HI.o.2.2.2 rfl _ _ _ rfl HR1.o.1 _ (intV us) rfl HRD.o (ZC _) HL1.o HL2.o HSZ.o ?_; intro p2 w2 hrow2 hg2 _; have HR2:=qh (RowI.addB HR1.o hrow2 hg2); clear hrow2 hg2);go_ret;exact HR2.o.ret
end
section
open Go.RowKit ShapeSpec
set_option maxRecDepth 100000
def RKidRel (W:World) (l:List Sh) (i n:Nat) (p v:Value) (wr:World):Prop:=∃ k:Nat,k<=n/\v = .int .i64 k/\RowI W wr p (kidsTo l i k)
theorem QhZ (A:Option Addr) (n c:Nat) (l:List Sh) (a:Nat) (w:World) (h:Sts w (.slice A n c) l) (hm:n <= 1000000) :
 Calls Tryz.prog 69 #[.slice A n c,.int .i64 a] w (RetInts w (kids l a)):=by
 have hn:=h.len;have HE:Hid (kids l a=kidsTo l a n):=qh (by rw [hn]; rfl);rw [HE.o];have HT:=qh h;obtain ⟨i0,hi,hz0,hz1,hz2⟩:=info_parts QaK;have HI:=qh (And.intro hi (And.intro hz0 (And.intro hz1 hz2)));clear h hn HE hi hz0 hz1 hz2;go_enter Tryz.func69,Tryz.ntmps69;go_wp2_with fail
 go_loopw [5,6] (fun p v wr=>RKidRel w l a n p v wr) (fun _ v _=>n-(intOf v).toNat)
 case atStart=>exact ⟨0,Nat.zero_le _,rfl,⟨World.ownsRow_lit w #[] 0 (Nat.le_refl _) (Nat.zero_le _) rfl,(Below.refl _ _).alloc (Nat.le_refl _) _⟩⟩
 case round =>
  obtain ⟨k,hk,rfl,hrow⟩:=hrel;have HR:=qh hrow
  by_cases hlt:k<n
  ·have hltI:(k:Int) < n:=by omega
   obtain ⟨b,off,rfl,hb,-,c2⟩:=(HT.o.keep HR.o.2).at_ hlt;obtain ⟨q,hq⟩:∃ q,q=par l k:=⟨_,rfl⟩;rw [<- hq] at c2;have HP:=qh hq;have HSZ:Hid (w.heap.size<=wr.heap.size):=qh HR.o.2.size;have hkl:=Qgl l a k;have HL1:Hid ((kidsTo l a k).length+(intV [(k:Int)]).length<=maxLen):=qh (by simp [maxLen]; omega);have HL2:Hid (((kidsTo l a k).length+(intV [(k:Int)]).length)*8<=140737488355328):=qh (by simp; omega);clear hq hkl hrow
   by_cases hqa:q=a
   ·have g1:(q == (a:Int)) = true:=by simpa using hqa
    have HS:Hid (kidsTo l a (k+1)=kidsTo l a k++[(k:Int)]):=qh (Qiv (HP.o.symm.trans hqa));clear hqa;go_wp2_with (at_builtin; refine QK _ rfl (.tmp 21) (.tmp 23) _ rfl w.heap.size 3 i0 (.int .i64 0) 8 Tryz.underlying67 HI.o.1 HI.o.2.1 HI.o.2.2.1 HI.o.2.2.2 rfl _ _ _ rfl (HR.o.1.alloc _) _ (intV [(k:Int)]) rfl (JN rfl rfl rfl) (ZC _) HL1.o HL2.o ?_ ?_; (have:=HSZ.o; simp; omega); intro p2 w2 hrow2 hg2 _; have HR2:=qh (RowI.add HR.o hrow2 hg2); clear hrow2 hg2)
    go_roundw
    case rel=>exact ⟨k+1,by omega,by simp,by rw [HS.o]; exact HR2.o⟩
    case measure=>simp [intOf]; omega
   ·have g1:(q == (a:Int)) = false:=by simpa using hqa
    have HS:Hid (kidsTo l a (k+1)=kidsTo l a k):=qh (kids_no (by rw [<- HP.o]; exact hqa));clear hqa;go_wp2_with fail
    go_roundw
    case rel=>exact ⟨k+1,by omega,by simp,by rw [HS.o]; exact HR.o⟩
    case measure=>simp [intOf]; omega
  ·obtain rfl:k = n:=by omega
   go_wp2_with fail;go_ret;exact HR.o.ret
def REndQ (W:World) (l:List Sh) (a n:Nat) (v i:Value) (wr:World):Prop:=∃ k:Nat,k<=n/\i = .int .i64 k/\v = .int .i64 (endTo l a k:Nat)/\Below W.heap.size W wr
theorem QiO (A:Option Addr) (n c:Nat) (l:List Sh) (a:Nat) (w:World) (h:Sts w (.slice A n c) l) (hs:SU l n) (ha:a < n) (hm:n <= 1000000) :
 Calls Tryz.prog 30 #[.slice A n c,.int .i64 a] w (RetI w (endOf l a:Nat)):=by
 have HE:Hid (endOf l a=endTo l a n):=qh (by rw [h.len]; rfl);rw [HE.o];have HT:=qh h;have HAb:=qh (fun w' k h hk=>QaO A n c n l k w' h hs hk (Nat.le_refl _) hm);have HULL:Hid (∀ a:Nat,(upI l a).length<=a):=qh (fun a=>by rw [J6]; exact JX l a);clear h hs HE;go_enter Tryz.func30,Tryz.ntmps30;go_wp2_with fail
 go_loopw [5,6] (fun v i wr=>REndQ w l a n v i wr) (fun _ i _=>n-(intOf i).toNat)
 case atStart=>exact ⟨0,Nat.zero_le _,rfl,rfl,Below.refl _ _⟩
 case round =>
  obtain ⟨k,hk,rfl,rfl,hbw⟩:=hrel;have HBW:=qh hbw;clear hbw
  by_cases hlt:k<n
  ·have hltI:(k:Int) < n:=by omega
   have HA1:=qh (HAb.o wr k (HT.o.keep HBW.o) hlt);have HIN:Hid (∀ v w',Rd w' v (intV (upI l k))->Calls Tryz.prog 68 #[v,.int .i64 a] w' (SameB w' (decide ((a:Int)∈upI l k)))):=qh (fun v w' h=>rin_any v _ a w' h (by have:=HULL.o k; omega))
   cases hd:decide ((a:Int)∈upI l k) with
   | true =>
     rw [hd] at HIN;have HX:Hid (endTo l a (k+1)=k+1):=qh (if_pos (upI_mem.1 (of_decide_eq_true hd)));clear hd;go_wp2_with (go_at_call 33; go_fit HA1.o);rintro e w1 ⟨v,rfl,hrd,hb3⟩;have HI1:=qh (HIN.o _ _ hrd);have HB3:=qh (Qa HBW.o hb3);clear hrd hb3;go_wp2_with (go_at_call 68; go_fit HI1.o; rintro e w' ⟨rfl,rfl⟩)
     go_roundw
     case rel=>exact ⟨k+1,by omega,by simp,by rw [HX.o]; simp,HB3.o⟩
     case measure=>simp [intOf]; omega
   | false =>
     rw [hd] at HIN;have HX:Hid (endTo l a (k+1)=endTo l a k):=qh (if_neg (fun h=>by simp [upI_mem.2 h] at hd));clear hd;go_wp2_with (go_at_call 33; go_fit HA1.o);rintro e w1 ⟨v,rfl,hrd,hb3⟩;have HI1:=qh (HIN.o _ _ hrd);have HB3:=qh (Qa HBW.o hb3);clear hrd hb3;go_wp2_with (go_at_call 68; go_fit HI1.o; rintro e w' ⟨rfl,rfl⟩)
     go_roundw
     case rel=>exact ⟨k+1,by omega,by simp,by rw [HX.o],HB3.o⟩
     case measure=>simp [intOf]; omega
  ·obtain rfl:k = n:=by omega
   go_wp2_with fail;go_ret;exact ⟨rfl,HBW.o⟩
end
section
open Go.RowKit Go.Sort CurSpec TermSpec EvalSpec ActSpec NamesSpec ExprSpec TransSpec SynSpec PrintSpec
open ShapeSpec (Sh up sf endOf SU)
set_option maxRecDepth 100000
def SameS (W:World) (s:ByteArray) (e:Ending) (w':World):Prop:=e = .returned (.string s)/\W=w'
theorem QX (a b:List UInt8):bs a++bs b=bs (a++b):=by apply ByteArray.ext; simp [bs,ByteArray.data_append]
theorem Jc (l:List UInt8):(bs l).size=l.length:=by simp [bs,ByteArray.size]
theorem inT_next (n:Nat):bs (inT n) ++ ⟨#[32,32]⟩ = bs (inT (n + 1)):=by
 rw [show (⟨#[32,32]⟩:ByteArray)=bs [32,32] from rfl,QX];unfold inT;rw [show 2*(n+1)=2*n+1+1 by omega,List.replicate_succ',List.replicate_succ',List.append_assoc]
 rfl
theorem in_any (n:Nat) (hn:n <= 1000) (w:World):Calls Tryz.prog 32 #[.int .i64 n] w (SameS w (bs (inT n))):=by
 obtain ⟨R,hR⟩:∃ R,R=bs (inT n):=⟨_,rfl⟩;have HR:=qh hR;rw [<- hR];clear hR;go_enter Tryz.func32,Tryz.ntmps32;go_wp2
 go_loop [3,4] (fun s i=>∃ k:Nat,k<=n/\i = .int .i64 k/\s = .string (bs (inT k))) (fun _ i=>n-(intOf i).toNat)
 case atStart=>exact ⟨0,Nat.zero_le _,rfl,rfl⟩
 case round =>
  obtain ⟨k,hk,rfl,rfl⟩:=hrel;have HX:=qh (inT_next k);have hz:(bs (inT k)).size=2*k:=by rw [Jc,Jb]
  obtain ⟨S,hS⟩:∃ S,S=bs (inT k):=⟨_,rfl⟩;have HS:=qh hS;rw [<- hS] at HX hz ⊢;clear hS
  by_cases hlt:k<n
  ·have q1:¬ 9223372036854775807 < S.size + 2:=by omega
   go_wp2
   go_round
   case rel=>exact ⟨k+1,by omega,by go_num,congrArg Value.string HX.o⟩
   case measure=>simp [intOf]; omega
  ·obtain rfl:k = n:=by omega
   go_wp2;go_ret;exact ⟨by rw [HR.o,<- HS.o]; rfl,rfl⟩
theorem sh_of (l:List Ts):(l.map Ts.sx).map shOf=l.map fun t=>⟨t.kind,t.par⟩:=by rw [List.map_map]; rfl
theorem QaX (l:List Ts) (sh:List Sh) {i:Nat} {t:Ts} (ht:l[i]? = some t):emptyB sh l i = (decide (t.en.length = 0) && (decide (t.ex.length = 0) && (decide (t.tr.length = 0) && decide ((ShapeSpec.kids sh i).length = 0)))):=by
 unfold emptyB bareB;rw [ht];simp only [Option.elim];have he:∀ {α:Type} (l:List α),l.isEmpty=decide (l.length=0):=fun l=>by cases l<;>simp
 rw [he,he,he,show decide (ShapeSpec.kids sh i=[])=decide ((ShapeSpec.kids sh i).length=0) by simp [List.length_eq_zero_iff]];simp [Bool.and_assoc]
theorem Qe6 (A:Option Addr) (n c:Nat) (l:List Ts) (i:Nat) (w:World) (h:StsP w (.slice A n c) (l.map Ts.sx)) (hi:i < n) (hm:n <= 1000000) :
 Calls Tryz.prog 31 #[.slice A n c,.int .i64 i] w (RetB w (emptyB (l.map fun t=>⟨t.kind,t.par⟩) l i)):=by
 obtain ⟨hn,hc⟩:=h.len;rw [List.length_map] at hn;obtain ⟨t,ht⟩:=Qp (l:=l) (k:=i) (by omega);obtain ⟨b,off,a3,n3,c3,a4,n4,c4,a5,n5,c5,rfl,hb,-,-,-,d3,d4,d5,k3,k4,k5⟩:=h.at_ (i:=i) (s:=t.sx) (by rw [List.getElem?_map,ht]; rfl);have l3:n3=t.en.length:=by rw [k3.len.1]; exact List.length_map _
 have l4:n4=t.ex.length:=by rw [k4.len.1]; exact List.length_map _
 have l5:n5=t.tr.length:=by rw [k5.len.1]; exact List.length_map _
 have HK:=qh (QhZ (some ⟨b,off,none⟩) n c (l.map fun t=>(⟨t.kind,t.par⟩:Sh)) i w (by rw [<- sh_of]; exact h.sts) hm);have hkl:=ShapeSpec.Qgl (l.map fun t=>(⟨t.kind,t.par⟩:Sh)) i (l.map fun t=>(⟨t.kind,t.par⟩:Sh)).length;rw [List.length_map] at hkl;have hE:=QaX l (l.map fun t=>⟨t.kind,t.par⟩) ht;rw [<- l3,<- l4,<- l5] at hE;obtain ⟨r,hr⟩:∃ r,r=emptyB (l.map fun t=>⟨t.kind,t.par⟩) l i:=⟨_,rfl⟩;rw [<- hr] at hE ⊢;obtain ⟨ks,hks⟩:∃ ks,ks=ShapeSpec.kids (l.map fun t=>(⟨t.kind,t.par⟩:Sh)) i:=⟨_,rfl⟩;rw [show ShapeSpec.kids (l.map fun t=>(⟨t.kind,t.par⟩:Sh)) i=ks from hks.symm] at HK hE;rw [show ShapeSpec.kidsTo (l.map fun t=>(⟨t.kind,t.par⟩:Sh)) i l.length=ks by rw [hks]; unfold ShapeSpec.kids; rw [List.length_map]] at hkl;have HE:=qh hE;have hkl':ks.length<=1000000:=by omega
 clear h k3 k4 k5 l3 l4 l5 ht hr hks hE hn hkl
 by_cases e3:n3=0
 case neg =>
  have g3:((n3:Int)==0)=false:=by simp; omega
  have HR:Hid (r=false):=qh (by rw [HE.o]; simp [e3]);go_enter Tryz.func31,Tryz.ntmps31;go_wp2_with fail;go_ret;exact ⟨Qg HR.o.symm,Below.refl _ _⟩
 subst e3
 by_cases e4:n4=0
 case neg =>
  have g4:((n4:Int)==0)=false:=by simp; omega
  have HR:Hid (r=false):=qh (by rw [HE.o]; simp [e4]);go_enter Tryz.func31,Tryz.ntmps31;go_wp2_with fail;go_ret;exact ⟨Qg HR.o.symm,Below.refl _ _⟩
 subst e4
 by_cases e5:n5=0
 case neg =>
  have g5:((n5:Int)==0)=false:=by simp; omega
  have HR:Hid (r=false):=qh (by rw [HE.o]; simp [e5]);go_enter Tryz.func31,Tryz.ntmps31;go_wp2_with fail;go_ret;exact ⟨Qg HR.o.symm,Below.refl _ _⟩
 subst e5;have HR:Hid (r=decide (ks.length=0)):=qh (by rw [HE.o]; simp);go_enter Tryz.func31,Tryz.ntmps31;go_wp2_with (go_at_call 69; go_fit HK.o);rintro e2 w2 hx;obtain ⟨A2,c2,rfl,hv,hb2⟩:=Zi hx;have HB:=qh hb2;clear hb2 hv hx;go_wp2_with fail;go_ret;exact ⟨Qg (by rw [HR.o,Bool.eq_iff_iff]; simp),HB.o⟩
end
section
open Go.RowKit ShapeSpec
end
section
open Go.RowKit TermSpec EvalSpec ActSpec NamesSpec
end
section
open Go.RowKit TermSpec EvalSpec ActSpec NamesSpec ExprSpec TransSpec
end
section
open Go.RowKit Go.Sort CurSpec TermSpec EvalSpec ActSpec NamesSpec ExprSpec TransSpec SynSpec PrintSpec
set_option maxRecDepth 100000
structure FitM (x:Cx):Prop where
 s:x.s.size<=9223372036854775807
 evs:∀ e∈x.evs,e.size<=9223372036854775807
 vars:∀ v∈x.vars,v.s.size<=9223372036854775807
 stl:x.sts.length<=100000
 sts:∀ s∈x.sts,s.s.size<=9223372036854775807/\(∀ a∈s.en,SmallA a)/\s.en.length<=100000/\(∀ a∈s.ex,SmallA a)/\s.ex.length<=100000/\s.tr.length<=100000/\∀ t∈s.tr,SmallT t
end
section
open Go.RowKit TermSpec EvalSpec ActSpec NamesSpec
set_option maxRecDepth 100000
theorem may_act (a:Ac) (A:Option Addr) (n c:Nat) (hs:SmallA a) (w:World) (h:Tms w (.slice A n c) a.x) :
 Calls Tryz.prog 157 #[.agg #[.string a.s,.bool a.any,.slice A n c]] w (RetI w (oneA a)):=by
 obtain ⟨A',n',c',heq,hn,hnc⟩:=h.shape
 cases heq
 have HIS:=qh (fun w=>QeH a.s w hs.1);have HC:=qh (fun w h=>QbA A n c a.x hn (by have:=hs.2.2; omega) hs.2.1 w h);have HT:=qh h;obtain ⟨q,hq⟩:∃ q,q=isName a.s.data.toList:=⟨_,rfl⟩;rw [<- hq] at HIS;obtain ⟨r,hr⟩:∃ r,r=oneA a:=⟨_,rfl⟩;rw [<- hr]
 rcases hb:q with _ | _
 ·rw [hb] at HIS hq
  have HR:=qh (hr.trans (oneA_name hq.symm));obtain ⟨s,any,x⟩:=a;simp only at HIS HC HT hn ⊢;clear hs h hq hr hb hn;go_enter Tryz.func157,Tryz.ntmps157;go_wp2_with (go_at_call 79; go_fit (HIS.o _));rintro e2 w2 ⟨rfl,hb2⟩;obtain ⟨B2,hbb,_⟩:=KitC.Qy hb2;have HB2:=qh hbb;obtain ⟨c0,c1,c2⟩:=Qj B2;clear hb2 hbb B2;go_wp2_with fail;go_ret;exact ⟨Qo HR.o.symm,HB2.o⟩
 ·rw [hb] at HIS hq
  rcases ha:a.any with _ | _
  ·have HR:=qh (hr.trans (oneA_expr hq.symm ha))
   obtain ⟨s,any,x⟩:=a;simp only at HIS HC HT HR hn ha ⊢;subst ha;obtain ⟨m,hm⟩:∃ m,m=chk x:=⟨_,rfl⟩;rw [<- hm] at HR HC;clear hs h hq hr hb hn hm;go_enter Tryz.func157,Tryz.ntmps157;go_wp2_with (go_at_call 79; go_fit (HIS.o _));rintro e2 w2 ⟨rfl,hb2⟩;obtain ⟨B2,hbb,_⟩:=KitC.Qy hb2;have HB2:=qh hbb;obtain ⟨c0,c1,c2⟩:=Qj B2;clear hb2 hbb B2;go_wp2_with (go_at_call 165; go_fit (HC.o _ (HT.o.keep HB2.o)));rintro e2 w3 ⟨rfl,hb3⟩;have HB3:=qh (Qa HB2.o hb3);clear hb3;go_wp2_with fail;go_ret;exact ⟨Qo HR.o.symm,HB3.o⟩
  ·have HR0:=qh (hr.trans (oneA_any hq.symm ha))
   rw [<- hn] at HR0;obtain ⟨s,any,x⟩:=a;simp only at HIS HC HT hn ha ⊢;subst ha
   by_cases h0:n=0
   ·have HR:Hid (r = 0):=qh (by rw [HR0.o,if_pos h0])
    have g:decide (0<n)=false:=by simp; omega
    have g2:decide (0<(n:Int))=false:=by simp; omega
    clear hs h hq hr hb hn h0 HR0;go_enter Tryz.func157,Tryz.ntmps157;go_wp2_with (go_at_call 79; go_fit (HIS.o _));rintro e2 w2 ⟨rfl,hb2⟩;obtain ⟨B2,hbb,_⟩:=KitC.Qy hb2;have HB2:=qh hbb;obtain ⟨c0,c1,c2⟩:=Qj B2;clear hb2 hbb B2;go_wp2_with fail;go_ret;exact ⟨Qo HR.o.symm,HB2.o⟩
   ·have HR:Hid (r = 1):=qh (by rw [HR0.o,if_neg h0])
    have g:decide (0<n)=true:=by simp; omega
    have g2:decide (0<(n:Int))=true:=by simp; omega
    clear hs h hq hr hb hn h0 HR0;go_enter Tryz.func157,Tryz.ntmps157;go_wp2_with (go_at_call 79; go_fit (HIS.o _));rintro e2 w2 ⟨rfl,hb2⟩;obtain ⟨B2,hbb,_⟩:=KitC.Qy hb2;have HB2:=qh hbb;obtain ⟨c0,c1,c2⟩:=Qj B2;clear hb2 hbb B2;go_wp2_with fail;go_ret;exact ⟨Qo HR.o.symm,HB2.o⟩
def PChkRel (W:World) (l:List Ac) (n:Nat) (i:Value) (wr:World):Prop:=∃ k:Nat,k<=n/\i = .int .i64 k/\firstA (l.take k)=0/\Below W.heap.size W wr
abbrev acO (a:Ac) (xA:Option Addr) (xn xc:Nat):Obj:=.cells #[.string a.s,.bool a.any,.slice xA xn xc] 126
theorem QaF (A:Option Addr) (n c:Nat) (l:List Ac) (hs:∀ a ∈ l,SmallA a) (hl:l.length <= 9223372036854775807) (w:World) (h:Acs w (.slice A n c) l) :
 Calls Tryz.prog 129 #[.slice A n c] w (RetI w (chkA l)):=by
 have hn:=h.len.1;have hcap:=h.len.2;have HN:=qh hn;have HT:=qh h;have HS:=qh hs;obtain ⟨r,hr⟩:∃ r,r=chkA l:=⟨_,rfl⟩;rw [<- hr]
 by_cases h8:8<n
 ·have HR:Hid (r = 8):=qh (by rw [hr]; unfold chkA; rw [if_pos (by omega)])
  have g:decide (8<n)=true:=by simp; omega
  have h8':8<(n:Int):=by omega
  clear hn h hs hr hl;go_enter Tryz.func129,Tryz.ntmps129;go_wp2_with fail;go_ret;exact ⟨Qo HR.o.symm,Below.refl _ _⟩
 ·have HR:Hid (r = firstA l):=qh (by rw [hr]; unfold chkA; rw [if_neg (by omega)])
  have h8':¬ 8<(n:Int):=by omega
  clear hn h hs hr hl;go_enter Tryz.func129,Tryz.ntmps129;go_wp2_with fail
  go_loopw [11] (fun i wr=>PChkRel w l n i wr) (fun i _=>n-(intOf i).toNat)
  case atStart=>exact ⟨0,Nat.zero_le _,rfl,rfl,Below.refl _ _⟩
  case round =>
   obtain ⟨k,hk,rfl,hall,hbw⟩:=hrel;have HA:=qh hall;have HB:=qh hbw;clear hall hbw
   by_cases hlt:k<n
   ·obtain ⟨a,ha⟩:∃ a,l[k]? = some a:=Qp (by rw [<- HN.o]; exact hlt)
    obtain ⟨b,off,xA,xn,xc,rfl,hb,htm,c0,c1,c2⟩:=(HT.o.keep HB.o).at_ ha;have HC:Hid (Calls Tryz.prog 157 #[.agg #[.string a.s,.bool a.any,.slice xA xn xc]] (wr.alloc (acO a xA xn xc)) (RetI (wr.alloc (acO a xA xn xc)) (oneA a))):=qh (may_act a xA xn xc (HS.o a (List.mem_of_getElem? ha)) _ (htm.keep (KitC.Qh _ _)));have HNX:=qh (fun h1=>Qhj ha HA.o h1);have HST:=qh (fun h1=>Qh3 ha HA.o h1);obtain ⟨q,hq⟩:∃ q,q=oneA a:=⟨_,rfl⟩;rw [<- hq] at HC HNX HST;have hkI:(k:Int)<n:=by omega
    clear ha hq htm;obtain ⟨s,any,x⟩:=a;simp only at c0 c1 c2 HC
    by_cases hq0:q=0
    ·have HNX':=qh (HNX.o hq0)
     have g:(q != 0)=false:=by simp [hq0]
     clear HNX HST hq0;go_wp2_with (go_at_call 157; go_fit HC.o);rintro e2 w2 ⟨rfl,hb2⟩;have HB2:=qh (Qa HB.o (Qa (KitC.Qh _ _) hb2));clear hb2;go_wp2_with fail
     go_roundw
     case rel=>exact ⟨k+1,by omega,by go_num,HNX'.o,HB2.o⟩
     case measure=>simp [intOf]; omega
    ·have HST':=qh (HST.o hq0)
     have g:(q != 0)=true:=by simp [hq0]
     clear HNX HST hq0;go_wp2_with (go_at_call 157; go_fit HC.o);rintro e2 w2 ⟨rfl,hb2⟩;have HB2:=qh (Qa HB.o (Qa (KitC.Qh _ _) hb2));clear hb2;go_wp2_with fail;go_ret;exact ⟨Qo (by rw [HR.o,HST'.o]),HB2.o⟩
   ·have HE:Hid (firstA l = 0):=qh (by
     have h1:=HN.o;have h2:=HA.o
     rwa [List.take_of_length_le (by omega)] at h2)
    go_wp2_with fail;go_ret;exact ⟨Qo (by rw [HR.o,HE.o]),HB.o⟩
end
section
open Go.RowKit TermSpec EvalSpec ActSpec NamesSpec ExprSpec TransSpec
set_option maxRecDepth 100000
theorem Qha (s:ByteArray) (w:World) (hs:s.size <= 9223372036854775807):Calls Tryz.prog 164 #[.string s] w (RetB w (okN s)):=by
 rcases Nat.eq_zero_or_pos s.size with h0 | h0
 ·have HE:=qh (okN_nil h0)
  have hnil:=Qa1 h0;clear h0 hs;go_enter Tryz.func164,Tryz.ntmps164;go_wp2_with fail;go_ret;exact ⟨Qg HE.o.symm,Below.refl _ _⟩
 ·have hne:=QdB h0
  have HE:=qh (okN_pos h0);have HI:=qh (QeH s w hs);clear h0 hs;go_enter Tryz.func164,Tryz.ntmps164;go_wp2_with (go_at_call 79; go_fit HI.o);rintro e w2 ⟨rfl,hb⟩;have HB:=qh hb;clear hb;go_wp2_with fail;go_ret;exact ⟨Qg HE.o.symm,HB.o⟩
theorem QeM (t:Tr) (gA:Option Addr) (gn gc:Nat) (aA:Option Addr) (an ac:Nat) (w:World) (hs:SmallT t) (h:TrIn w gA gn gc aA an ac t) :
 Calls Tryz.prog 139 #[.agg #[.string t.ev,.slice gA gn gc,.slice aA an ac,.string t.tg]] w (RetI w (chkT t)):=by
 have hgn:=h.len.1;have hcap:=h.cap.1;have H1:=qh (fun W=>Qha t.ev W hs.ev);have H2:=qh (fun W=>Qha t.tg W hs.tg);have H3:=qh (fun W (hW:Below w.heap.size w W)=>QbA gA gn gc t.g hgn (by have:=hs.glen; omega) hs.g W (h.g.keep hW));have H4:=qh (fun W (hW:Below w.heap.size w W)=>QaF aA an ac t.acts hs.acts hs.alen W (h.a.keep hW));have HN:=qh (fun h'=>chkT_name (t:=t) h');have HO:=qh (fun a b c=>chkT_nog (t:=t) a b c);have HX:=qh (fun a b c d=>chkT_bad (t:=t) a b c d);have HG:=qh (fun a b c=>chkT_good (t:=t) a b c);have HL:=qh hgn;have hn62:(gn:Int)<=4398046511104:=by have:=hs.glen; omega
 obtain ⟨r,hr⟩:∃ r,r=chkT t:=⟨_,rfl⟩;rw [<- hr] at HN HO HX HG ⊢;obtain ⟨b1,hb1⟩:∃ b,b=okN t.ev:=⟨_,rfl⟩;obtain ⟨b2,hb2⟩:∃ b,b=okN t.tg:=⟨_,rfl⟩;obtain ⟨k,hk⟩:∃ b,b=chk t.g:=⟨_,rfl⟩;obtain ⟨m,hm⟩:∃ b,b=chkA t.acts:=⟨_,rfl⟩;rw [<- hb1] at H1 HN HO HX HG;rw [<- hb2] at H2 HN HO HX HG;rw [<- hk] at H3 HX HG;rw [<- hm] at H4 HO HG;obtain ⟨ev,g,acts,tg⟩:=t;simp only at H1 H2 H3 H4 HL HO HX HG ⊢;clear hr hb1 hb2 hk hm hgn hs h
 rcases b1 with _ | _
 ·have HR:=qh (HN.o (.inl rfl))
  clear HN HO HX HG HL;go_enter Tryz.func139,Tryz.ntmps139;go_wp2_with (go_at_call 164; go_fit (H1.o _));rintro e w2 ⟨rfl,hb2⟩;have HB2:=qh (Qa (KitC.Qh _ _) hb2);clear hb2;go_wp2_with fail;go_ret;exact ⟨Qo HR.o.symm,HB2.o⟩
 ·rcases b2 with _ | _
  ·have HR:=qh (HN.o (.inr rfl))
   clear HN HO HX HG HL;go_enter Tryz.func139,Tryz.ntmps139;go_wp2_with (go_at_call 164; go_fit (H1.o _));rintro e w2 ⟨rfl,hb2⟩;have HB2:=qh (KitC.Qy hb2);obtain ⟨c0,c1,c2,c3⟩:=Qi HB2.o.1;clear hb2;go_wp2_with (go_at_call 164; go_fit (H2.o _));rintro e w3 ⟨rfl,hb3⟩;have HB3:=qh (Qa HB2.o.2.1 hb3);clear hb3;go_wp2_with fail;go_ret;exact ⟨Qo HR.o.symm,HB3.o⟩
  ·by_cases h0:gn = 0
   ·have HR:=qh (HO.o rfl rfl (by rw [<- HL.o,h0]))
    subst h0;clear HN HO HX HG HL;go_enter Tryz.func139,Tryz.ntmps139;go_wp2_with (go_at_call 164; go_fit (H1.o _));rintro e w2 ⟨rfl,hb2⟩;have HB2:=qh (KitC.Qy hb2);obtain ⟨c0,c1,c2,c3⟩:=Qi HB2.o.1;clear hb2;go_wp2_with (go_at_call 164; go_fit (H2.o _));rintro e w3 ⟨rfl,hb3⟩;have HB3:=qh (And.intro (KitC.Qe HB2.o.1 hb3) (Qa HB2.o.2.1 hb3));clear hb3 c0 c1 c2 c3;obtain ⟨c0,c1,c2,c3⟩:=Qi HB3.o.1;go_wp2_with (go_at_call 129; go_fit (H4.o _ HB3.o.2));rintro e w4 ⟨rfl,hb4⟩;have HB4:=qh (Qa HB3.o.2 hb4);clear hb4;go_wp2_with fail;go_ret;exact ⟨Qo HR.o.symm,HB4.o⟩
   ·have g0:decide (0 < gn) = true:=by simp; omega
    by_cases hk0:k=0
    ·have HR:=qh (HG.o rfl rfl hk0)
     subst hk0;clear HN HO HX HG HL h0;go_enter Tryz.func139,Tryz.ntmps139;go_wp2_with (go_at_call 164; go_fit (H1.o _));rintro e w2 ⟨rfl,hb2⟩;have HB2:=qh (KitC.Qy hb2);obtain ⟨c0,c1,c2,c3⟩:=Qi HB2.o.1;clear hb2;go_wp2_with (go_at_call 164; go_fit (H2.o _));rintro e w3 ⟨rfl,hb3⟩;have HB3:=qh (And.intro (KitC.Qe HB2.o.1 hb3) (Qa HB2.o.2.1 hb3));clear hb3 c0 c1 c2 c3;obtain ⟨c0,c1,c2,c3⟩:=Qi HB3.o.1;go_wp2_with (go_at_call 165; go_fit (H3.o _ HB3.o.2));rintro e w4 ⟨rfl,hb4⟩;have HB4:=qh (And.intro (KitC.Qe HB3.o.1 hb4) (Qa HB3.o.2 hb4));clear hb4 c0 c1 c2 c3;obtain ⟨c0,c1,c2,c3⟩:=Qi HB4.o.1;go_wp2_with (go_at_call 129; go_fit (H4.o _ HB4.o.2));rintro e w5 ⟨rfl,hb5⟩;have HB5:=qh (Qa HB4.o.2 hb5);clear hb5;go_wp2_with fail;go_ret;exact ⟨Qo HR.o.symm,HB5.o⟩
    ·have HR:=qh (HX.o rfl rfl (by rw [<- HL.o]; exact h0) hk0)
     have e1:(k != 0)=true:=by simpa using hk0
     clear HN HO HX HG HL h0 hk0;go_enter Tryz.func139,Tryz.ntmps139;go_wp2_with (go_at_call 164; go_fit (H1.o _));rintro e w2 ⟨rfl,hb2⟩;have HB2:=qh (KitC.Qy hb2);obtain ⟨c0,c1,c2,c3⟩:=Qi HB2.o.1;clear hb2;go_wp2_with (go_at_call 164; go_fit (H2.o _));rintro e w3 ⟨rfl,hb3⟩;have HB3:=qh (And.intro (KitC.Qe HB2.o.1 hb3) (Qa HB2.o.2.1 hb3));clear hb3 c0 c1 c2 c3;obtain ⟨c0,c1,c2,c3⟩:=Qi HB3.o.1;go_wp2_with (go_at_call 165; go_fit (H3.o _ HB3.o.2));rintro e w4 ⟨rfl,hb4⟩;have HB4:=qh (Qa HB3.o.2 hb4);clear hb4;go_wp2_with fail;go_ret;exact ⟨Qo HR.o.symm,HB4.o⟩
end
section
open Go.RowKit Go.Sort CurSpec TermSpec EvalSpec ActSpec NamesSpec ExprSpec TransSpec SynSpec PrintSpec
set_option maxRecDepth 100000
theorem ZU {s:ByteArray} (hs:s.size <= 9223372036854775807) {b:Bool} (hb:isName s.data.toList = b) (W:World):Calls Tryz.prog 79 #[.string s] W (RetB W b):=by
 subst hb;exact QeH s W hs
theorem Qjf (n:Int) (w:World):Calls Tryz.prog 126 #[.int .i64 n] w (SameB w (smallV n)):=by
 by_cases h1:-1000<=n
 ·by_cases h2:n <= 1000
  ·have HE:Hid (smallV n = true):=qh (by unfold smallV; rw [decide_eq_true h1,decide_eq_true h2]; rfl)
   have g1:decide (-1000<=n)=true:=decide_eq_true h1;have g2:decide (n<=1000)=true:=decide_eq_true h2;go_enter Tryz.func126,Tryz.ntmps126;go_wp2_with fail;go_ret;exact ⟨Qg HE.o.symm,rfl⟩
  ·have HE:Hid (smallV n = false):=qh (by unfold smallV; rw [decide_eq_false h2,Bool.and_false])
   have g1:decide (-1000<=n)=true:=decide_eq_true h1;have g2:decide (n<=1000)=false:=decide_eq_false h2;go_enter Tryz.func126,Tryz.ntmps126;go_wp2_with fail;go_ret;exact ⟨Qg HE.o.symm,rfl⟩
 ·have HE:Hid (smallV n = false):=qh (by unfold smallV; rw [decide_eq_false h1]; rfl)
  have g1:decide (-1000<=n)=false:=decide_eq_false h1;go_enter Tryz.func126,Tryz.ntmps126;go_wp2_with fail;go_ret;exact ⟨Qg HE.o.symm,rfl⟩
theorem Js {n:Int} {b:Bool} (hb:smallV n = b) (W:World):Calls Tryz.prog 126 #[.int .i64 n] W (SameB W b):=by
 subst hb;exact Qjf n W
theorem QiG (v:Vr) (hs:v.s.size <= 9223372036854775807) (w:World):Calls Tryz.prog 92 #[.agg #[.string v.s,.int .i64 v.lo,.int .i64 v.hi,.int .i64 v.ini]] w (RetB w (okV v)):=by
 obtain ⟨nm,lo,hi,ini⟩:=v;simp only at hs;have HOV:Hid (okV ⟨nm,lo,hi,ini⟩=(isName nm.data.toList&&(smallV lo&&(smallV hi&&smallV ini)))):=qh rfl;obtain ⟨OV,hOV⟩:∃ OV:Obj,OV = .cells #[.string nm,.int .i64 lo,.int .i64 hi,.int .i64 ini] 46:=⟨_,rfl⟩;have hkv:=heap_alloc_new w OV;have HKV:=qh (fun W (hW:Below (w.alloc OV).heap.size (w.alloc OV) W)=>Qi (KitC.Qe (by rw [<- hOV]; exact hkv) hW));rw [hOV] at HKV;have c0:(w.alloc (.cells #[.string nm,.int .i64 lo,.int .i64 hi,.int .i64 ini] 46)).cell? ⟨w.heap.size,0,none⟩=some (.string nm):=(HKV.o _ (Below.refl _ _)).1;rw [HOV.o];clear hkv hOV OV HOV;obtain ⟨r,hr⟩:∃ r,r=(isName nm.data.toList&&(smallV lo&&(smallV hi&&smallV ini))):=⟨_,rfl⟩;rw [<- hr]
 rcases h0:isName nm.data.toList with _ | _
 ·have HR:Hid (r = false):=qh (by rw [hr,h0]; rfl)
  have HN:=qh (fun W=>ZU hs h0 W);clear hr h0 hs;go_enter Tryz.func92,Tryz.ntmps92;go_wp2_with (go_at_call 79; go_fit (HN.o _));rintro e w2 ⟨rfl,hb2⟩;have HB2:=qh (Qa (KitC.Qh _ _) hb2);clear c0;obtain ⟨c0,c1,c2,c3⟩:=HKV.o _ hb2;clear hb2;go_wp2_with fail;go_ret;exact ⟨Qg HR.o.symm,HB2.o⟩
 ·rcases h1:smallV lo with _ | _
  ·have HR:Hid (r = false):=qh (by rw [hr,h0,h1]; rfl)
   have HN:=qh (fun W=>ZU hs h0 W);have H1:=qh (fun W=>Js h1 W);clear hr h0 h1 hs;go_enter Tryz.func92,Tryz.ntmps92;go_wp2_with (go_at_call 79; go_fit (HN.o _));rintro e w2 ⟨rfl,hb2⟩;have HB2:=qh (Qa (KitC.Qh _ _) hb2);clear c0;obtain ⟨c0,c1,c2,c3⟩:=HKV.o _ hb2;clear hb2;go_wp2_with (go_at_call 126; go_fit (H1.o _));rintro e w' ⟨rfl,rfl⟩;go_wp2_with fail;go_ret;exact ⟨Qg HR.o.symm,HB2.o⟩
  ·rcases h2:smallV hi with _ | _
   ·have HR:Hid (r = false):=qh (by rw [hr,h0,h1,h2]; rfl)
    have HN:=qh (fun W=>ZU hs h0 W);have H1:=qh (fun W=>Js h1 W);have H2:=qh (fun W=>Js h2 W);clear hr h0 h1 h2 hs;go_enter Tryz.func92,Tryz.ntmps92;go_wp2_with (go_at_call 79; go_fit (HN.o _));rintro e w2 ⟨rfl,hb2⟩;have HB2:=qh (Qa (KitC.Qh _ _) hb2);clear c0;obtain ⟨c0,c1,c2,c3⟩:=HKV.o _ hb2;clear hb2;go_wp2_with (go_at_call 126; go_fit (H1.o _));rintro e w' ⟨rfl,rfl⟩;go_wp2_with (go_at_call 126; go_fit (H2.o _));rintro e w' ⟨rfl,rfl⟩;go_wp2_with fail;go_ret;exact ⟨Qg HR.o.symm,HB2.o⟩
   ·rcases h3:smallV ini with _ | _
    ·have HR:Hid (r = false):=qh (by rw [hr,h0,h1,h2,h3]; rfl)
     have HN:=qh (fun W=>ZU hs h0 W);have H1:=qh (fun W=>Js h1 W);have H2:=qh (fun W=>Js h2 W);have H3:=qh (fun W=>Js h3 W);clear hr h0 h1 h2 h3 hs;go_enter Tryz.func92,Tryz.ntmps92;go_wp2_with (go_at_call 79; go_fit (HN.o _));rintro e w2 ⟨rfl,hb2⟩;have HB2:=qh (Qa (KitC.Qh _ _) hb2);clear c0;obtain ⟨c0,c1,c2,c3⟩:=HKV.o _ hb2;clear hb2;go_wp2_with (go_at_call 126; go_fit (H1.o _));rintro e w' ⟨rfl,rfl⟩;go_wp2_with (go_at_call 126; go_fit (H2.o _));rintro e w' ⟨rfl,rfl⟩;go_wp2_with (go_at_call 126; go_fit (H3.o _));rintro e w' ⟨rfl,rfl⟩;go_wp2_with fail;go_ret;exact ⟨Qg HR.o.symm,HB2.o⟩
    ·have HR:Hid (r = true):=qh (by rw [hr,h0,h1,h2,h3]; rfl)
     have HN:=qh (fun W=>ZU hs h0 W);have H1:=qh (fun W=>Js h1 W);have H2:=qh (fun W=>Js h2 W);have H3:=qh (fun W=>Js h3 W);clear hr h0 h1 h2 h3 hs;go_enter Tryz.func92,Tryz.ntmps92;go_wp2_with (go_at_call 79; go_fit (HN.o _));rintro e w2 ⟨rfl,hb2⟩;have HB2:=qh (Qa (KitC.Qh _ _) hb2);clear c0;obtain ⟨c0,c1,c2,c3⟩:=HKV.o _ hb2;clear hb2;go_wp2_with (go_at_call 126; go_fit (H1.o _));rintro e w' ⟨rfl,rfl⟩;go_wp2_with (go_at_call 126; go_fit (H2.o _));rintro e w' ⟨rfl,rfl⟩;go_wp2_with (go_at_call 126; go_fit (H3.o _));rintro e w' ⟨rfl,rfl⟩;go_wp2_with fail;go_ret;exact ⟨Qg HR.o.symm,HB2.o⟩
def AllStrRel (W:World) (l:List ByteArray) (n:Nat) (i:Value) (wr:World):Prop:=∃ k:Nat,k<=n/\i = .int .i64 k/\(l.take k).all (fun e:ByteArray=>isName e.data.toList)=true/\Below W.heap.size W wr
theorem Qju (A:Option Addr) (n c:Nat) (l:List ByteArray) (w:World) (h:Rd w (.slice A n c) (strV l)) (hf:∀ x ∈ l,x.size <= 9223372036854775807) (hm:n <= 9223372036854775807) :
 Calls Tryz.prog 90 #[.slice A n c,.func (.func 79) #[] #[]] w (RetB w (l.all (fun e:ByteArray=>isName e.data.toList))):=by
 have HT:=qh h;have hn:n=l.length:=by obtain ⟨_,_,_,heq,hn,_⟩:=h.strs; cases heq; exact hn.symm
 have HN:=qh hn;have HF:=qh hf;obtain ⟨r,hr⟩:∃ r,r=l.all (fun e:ByteArray=>isName e.data.toList):=⟨_,rfl⟩;rw [<- hr];have HR:=qh hr;clear h hn hf hr;go_enter Tryz.func90,Tryz.ntmps90;go_wp2_with fail
 go_loopw [6,9] (fun _ i wr=>AllStrRel w l n i wr) (fun _ i _=>n-(intOf i).toNat)
 case atStart=>exact ⟨0,Nat.zero_le _,rfl,rfl,Below.refl _ _⟩
 case round =>
  obtain ⟨k,hk,rfl,hall,hbw⟩:=hrel;have HA:=qh hall;have HB:=qh hbw;clear hall hbw
  by_cases hlt:k<n
  ·obtain ⟨x,hx⟩:∃ x,l[k]? = some x:=Qp (by rw [<- HN.o]; exact hlt)
   obtain ⟨A',n',c',heq,-,hnc,hcl⟩:=(HT.o.keep HB.o).strs
   cases heq
   obtain ⟨b,off,rfl,hb,hcell⟩:=hcl (by omega);have hck:=hcell k x hx;have HBAD:=qh (fun h1=>(show r=false by rw [HR.o]; exact Qdy (f:=fun e:ByteArray=>isName e.data.toList) hx h1));have HAT:=qh (fun h1=>Qah (f:=fun e:ByteArray=>isName e.data.toList) hx HA.o h1);have HX:=qh (HF.o x (List.mem_of_getElem? hx));have HC:=qh (fun W=>ZU HX.o rfl W);obtain ⟨q,hq⟩:∃ q,q=(isName x.data.toList):=⟨_,rfl⟩;have HC2:Hid (∀ W,Calls Tryz.prog 79 #[.string x] W (RetB W q)):=qh (by rw [hq]; exact HC.o);rw [<- hq] at HBAD HAT;clear hcell hcl;clear hx hq HC
   rcases q with _ | _
   ·have HE:=qh (HBAD.o rfl)
    go_wp2_with (go_at_call 79; go_fit (HC2.o _));rintro e w4 ⟨rfl,hb4⟩;have HB4:=qh (Qa HB.o hb4);clear hb4;go_wp2_with fail;go_ret;exact ⟨Qg HE.o.symm,HB4.o⟩
   ·have HE:=qh (HAT.o rfl)
    go_wp2_with (go_at_call 79; go_fit (HC2.o _));rintro e w4 ⟨rfl,hb4⟩;have HB4:=qh (Qa HB.o hb4);clear hb4;go_wp2_with fail
    go_roundw
    case rel=>exact ⟨k+1,by omega,by go_num,HE.o,HB4.o⟩
    case measure=>simp [intOf]; omega
  ·have HE:Hid (r = true):=qh (by
    have:=HA.o;rw [List.take_of_length_le (by rw [<- HN.o]; omega)] at this;rw [HR.o,this])
   go_wp2_with fail;go_ret;exact ⟨Qg HE.o.symm,HB.o⟩
def AllVarRel (W:World) (l:List Vr) (n:Nat) (i:Value) (wr:World):Prop:=∃ k:Nat,k<=n/\i = .int .i64 k/\(l.take k).all (okV)=true/\Below W.heap.size W wr
theorem QiS (A:Option Addr) (n c:Nat) (l:List Vr) (w:World) (h:RdV w (.slice A n c) l) (hf:∀ x ∈ l,x.s.size <= 9223372036854775807) (hm:n <= 9223372036854775807) :
 Calls Tryz.prog 91 #[.slice A n c,.func (.func 92) #[] #[]] w (RetB w (l.all (okV))):=by
 have HT:=qh h;have hn:=(RdV.len h).1;have hnc:=(RdV.len h).2;have HN:=qh hn;have HF:=qh hf;obtain ⟨r,hr⟩:∃ r,r=l.all (okV):=⟨_,rfl⟩;rw [<- hr];have HR:=qh hr;clear h hn hf hr;go_enter Tryz.func91,Tryz.ntmps91;go_wp2_with fail
 go_loopw [6,9] (fun _ i wr=>AllVarRel w l n i wr) (fun _ i _=>n-(intOf i).toNat)
 case atStart=>exact ⟨0,Nat.zero_le _,rfl,rfl,Below.refl _ _⟩
 case round =>
  obtain ⟨k,hk,rfl,hall,hbw⟩:=hrel;have HA:=qh hall;have HB:=qh hbw;clear hall hbw
  by_cases hlt:k<n
  ·obtain ⟨x,hx⟩:∃ x,l[k]? = some x:=Qp (by rw [<- HN.o]; exact hlt)
   obtain ⟨b,off,rfl,hb,d0,d1,d2,d3⟩:=(RdV.vars (Rdk.keep HT.o HB.o)).at_ hx;have HBAD:=qh (fun h1=>(show r=false by rw [HR.o]; exact Qdy (f:=okV) hx h1));have HAT:=qh (fun h1=>Qah (f:=okV) hx HA.o h1);have HX:=qh (HF.o x (List.mem_of_getElem? hx));have HC:=qh (fun W=>QiG x HX.o W);obtain ⟨q,hq⟩:∃ q,q=(okV x):=⟨_,rfl⟩;have HC2:Hid (∀ W,Calls Tryz.prog 92 #[.agg #[.string x.s,.int .i64 x.lo,.int .i64 x.hi,.int .i64 x.ini]] W (RetB W q)):=qh (by rw [hq]; exact HC.o);rw [<- hq] at HBAD HAT;obtain ⟨nm,lo,hi,ini⟩:=x;simp only at d0 d1 d2 d3 HC2;clear hx hq HC
   rcases q with _ | _
   ·have HE:=qh (HBAD.o rfl)
    go_wp2_with (go_at_call 92; go_fit (HC2.o _));rintro e w4 ⟨rfl,hb4⟩;have HB4:=qh (Qa HB.o (Qa (KitC.Qh _ _) hb4));clear hb4;go_wp2_with fail;go_ret;exact ⟨Qg HE.o.symm,HB4.o⟩
   ·have HE:=qh (HAT.o rfl)
    go_wp2_with (go_at_call 92; go_fit (HC2.o _));rintro e w4 ⟨rfl,hb4⟩;have HB4:=qh (Qa HB.o (Qa (KitC.Qh _ _) hb4));clear hb4;go_wp2_with fail
    go_roundw
    case rel=>exact ⟨k+1,by omega,by go_num,HE.o,HB4.o⟩
    case measure=>simp [intOf]; omega
  ·have HE:Hid (r = true):=qh (by
    have:=HA.o;rw [List.take_of_length_le (by rw [<- HN.o]; omega)] at this;rw [HR.o,this])
   go_wp2_with fail;go_ret;exact ⟨Qg HE.o.symm,HB.o⟩
theorem QgU (t:Tr) (gA:Option Addr) (gn gc:Nat) (aA:Option Addr) (an ac:Nat) (w:World) (hs:SmallT t) (h:TrIn w gA gn gc aA an ac t) :
 Calls Tryz.prog 131 #[.agg #[.string t.ev,.slice gA gn gc,.slice aA an ac,.string t.tg]] w (RetB w (decide (chkT t=0))):=by
 have HC:Hid (Calls Tryz.prog 139 #[.agg #[.string t.ev,.slice gA gn gc,.slice aA an ac,.string t.tg]] (w.alloc (.cells #[.string t.ev,.slice gA gn gc,.slice aA an ac,.string t.tg] 81)) (RetI (w.alloc (.cells #[.string t.ev,.slice gA gn gc,.slice aA an ac,.string t.tg] 81)) (chkT t))):=qh (QeM t gA gn gc aA an ac _ hs (h.alloc _));obtain ⟨q,hq⟩:∃ q,q=chkT t:=⟨_,rfl⟩;rw [<- hq] at HC ⊢;have HE:Hid ((q==0)=decide (q=0)):=qh (by by_cases h:q=0<;>simp [h]);obtain ⟨ev,g,acts,tg⟩:=t;simp only at HC;clear hs h hq;go_enter Tryz.func131,Tryz.ntmps131;go_wp2_with (go_at_call 139; go_fit HC.o);rintro e w2 ⟨rfl,hb2⟩;have HB2:=qh (Qa (KitC.Qh _ _) hb2);clear hb2;go_wp2_with fail;go_ret;exact ⟨Qg HE.o,HB2.o⟩
def AllTransRel (W:World) (l:List Tr) (n:Nat) (i:Value) (wr:World):Prop:=∃ k:Nat,k<=n/\i = .int .i64 k/\(l.take k).all (fun t:Tr=>decide (chkT t=0))=true/\Below W.heap.size W wr
theorem QgK (A:Option Addr) (n c:Nat) (l:List Tr) (w:World) (h:Trs w (.slice A n c) l) (hf:∀ x ∈ l,SmallT x) (hm:n <= 9223372036854775807) :
 Calls Tryz.prog 130 #[.slice A n c,.func (.func 131) #[] #[]] w (RetB w (l.all (fun t:Tr=>decide (chkT t=0)))):=by
 have HT:=qh h;have hn:=h.len.1;have hnc:=h.len.2;have HN:=qh hn;have HF:=qh hf;obtain ⟨r,hr⟩:∃ r,r=l.all (fun t:Tr=>decide (chkT t=0)):=⟨_,rfl⟩;rw [<- hr];have HR:=qh hr;clear h hn hf hr;go_enter Tryz.func130,Tryz.ntmps130;go_wp2_with fail
 go_loopw [6,9] (fun _ i wr=>AllTransRel w l n i wr) (fun _ i _=>n-(intOf i).toNat)
 case atStart=>exact ⟨0,Nat.zero_le _,rfl,rfl,Below.refl _ _⟩
 case round =>
  obtain ⟨k,hk,rfl,hall,hbw⟩:=hrel;have HA:=qh hall;have HB:=qh hbw;clear hall hbw
  by_cases hlt:k<n
  ·obtain ⟨x,hx⟩:∃ x,l[k]? = some x:=Qp (by rw [<- HN.o]; exact hlt)
   obtain ⟨b,off,gA,gn,gc,aA,an,ac,rfl,hb,d0,d1,d2,d3,htr⟩:=(HT.o.keep HB.o).at_ hx;have HBAD:=qh (fun h1=>(show r=false by rw [HR.o]; exact Qdy (f:=fun t:Tr=>decide (chkT t=0)) hx h1));have HAT:=qh (fun h1=>Qah (f:=fun t:Tr=>decide (chkT t=0)) hx HA.o h1);have HX:=qh (HF.o x (List.mem_of_getElem? hx));have HC:=qh (fun W (hW:Below wr.heap.size wr W)=>QgU x gA gn gc aA an ac W HX.o (htr.keep hW));obtain ⟨q,hq⟩:∃ q,q=(decide (chkT x=0)):=⟨_,rfl⟩;have HC2:Hid (∀ W,Below wr.heap.size wr W->Calls Tryz.prog 131 #[.agg #[.string x.ev,.slice gA gn gc,.slice aA an ac,.string x.tg]] W (RetB W q)):=qh (by rw [hq]; exact HC.o);rw [<- hq] at HBAD HAT;obtain ⟨ev,g,acts,tg⟩:=x;simp only at d0 d1 d2 d3 HC2;clear htr;clear hx hq HC
   rcases q with _ | _
   ·have HE:=qh (HBAD.o rfl)
    go_wp2_with (go_at_call 131; go_fit (HC2.o _ (KitC.Qh _ _)));rintro e w4 ⟨rfl,hb4⟩;have HB4:=qh (Qa HB.o (Qa (KitC.Qh _ _) hb4));clear hb4;go_wp2_with fail;go_ret;exact ⟨Qg HE.o.symm,HB4.o⟩
   ·have HE:=qh (HAT.o rfl)
    go_wp2_with (go_at_call 131; go_fit (HC2.o _ (KitC.Qh _ _)));rintro e w4 ⟨rfl,hb4⟩;have HB4:=qh (Qa HB.o (Qa (KitC.Qh _ _) hb4));clear hb4;go_wp2_with fail
    go_roundw
    case rel=>exact ⟨k+1,by omega,by go_num,HE.o,HB4.o⟩
    case measure=>simp [intOf]; omega
  ·have HE:Hid (r = true):=qh (by
    have:=HA.o;rw [List.take_of_length_le (by rw [<- HN.o]; omega)] at this;rw [HR.o,this])
   go_wp2_with fail;go_ret;exact ⟨Qg HE.o.symm,HB.o⟩
end
end Go.Proofs.YtbdalbpackfejaaGreatDoor
