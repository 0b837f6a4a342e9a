/- ExprRefStep, ExprRefAll, joined. -/
import Derived.Test.YtbdalbpackfejaaGreatDoorMFormatOf24
import Derived.Test.YtbdalbpackfejaaGreatDoorMFormatOf26
set_option maxHeartbeats 16000000
set_option maxRecDepth 100000
namespace Go.Proofs.YtbdalbpackfejaaGreatDoor
section
open Go.RowKit CurSpec TermSpec ExprSpec NamesSpec Go.Lib
set_option maxRecDepth 100000
theorem six_at {w:World} {b:Nat} {T:TypeId} {x0 x1 x2 x3 x4 x5:Value} (h:w.heap[b]? = some (.cells #[x0,x1,x2,x3,x4,x5] T (0,0))) (u0 u1 u2 u3 u4 u5:Value) :
 ((((((w.setCell ⟨b,0,none⟩ u0).setCell ⟨b,1,none⟩ u1).setCell ⟨b,2,none⟩ u2).setCell ⟨b,3,none⟩ u3).setCell ⟨b,4,none⟩ u4).setCell ⟨b,5,none⟩ u5).heap[b]?=some (.cells #[u0,u1,u2,u3,u4,u5] T (0,0)) :=
 Qd (Qd (Qd (Qd (Qd (Qd h 0 u0) 1 u1) 2 u2) 3 u3) 4 u4) 5 u5
theorem rd_but {w w':World} {v:Value} {xs:List Value} {B:Nat} (h:Rd w v xs) (hb:w.grownBy w' (some B)) (hne:v.ownBlock ≠ some B):Rd w' v xs:=by
 obtain ⟨A,n,c,rfl,hn,hc,hA⟩:=h;refine ⟨A,n,c,rfl,hn,hc,fun h0=>?_⟩;obtain ⟨b,off,rfl,hlt,hcell⟩:=hA h0;refine ⟨b,off,rfl,Nat.lt_of_lt_of_le hlt hb.size,fun j u hj=>?_⟩;rw [<- hcell j u hj];have:=hb.block b hlt (fun e=>hne (by rw [<- e]; rfl));simp [World.cell?,this]
structure LpS (W0 w wr:World) (c:Cur) (k:Int) (vs1 vs2:Value) (A:Option Addr) (n cp:Nat) (d:Cur) (Av:Option Addr) (nv cv:Nat) (x:List Tm):Prop where
 toks:Toks W0 (.slice A n cp) d.L
 cur:wr.heap[w.heap.size]?=some (rcO A n cp d)
 res:wr.heap[w.heap.size+1]?=some rcZ
 below:Below w.heap.size w wr
 w0:Below W0.heap.size W0 w
 top:w.heap.size+2<=wr.heap.size
 s1:Rd wr vs1 (strV (sigT k))
 o1:∀ b,vs1.ownBlock=some b->w.heap.size+1<b
 s2:Rd wr vs2 (intV (sigO k))
 o2:∀ b,vs2.ownBlock=some b->w.heap.size+1<b
 tms:Tms wr (.slice Av nv cv) x
 ot:∀ b,(Value.slice Av nv cv).ownBlock=some b->w.heap.size+1<b
 few:x.length+2*d.L.length<=2*c.L.length+1
section
variable {W0 w wr wr':World} {c:Cur} {k:Int} {vs1 vs2:Value} {A:Option Addr} {n cp:Nat} {d:Cur} {Av:Option Addr} {nv cv:Nat} {x:List Tm}
theorem LpS.on (h:LpS W0 w wr c k vs1 vs2 A n cp d Av nv cv x) (hb:Below wr.heap.size wr wr'):LpS W0 w wr' c k vs1 vs2 A n cp d Av nv cv x :=
 ⟨h.toks,Qe h.cur hb,Qe h.res hb,Qa h.below hb,h.w0,Nat.le_trans h.top hb.size,h.s1.keep hb,h.o1,h.s2.keep hb,h.o2,h.tms.keep hb,h.ot,h.few⟩
theorem LpS.alloc (h:LpS W0 w wr c k vs1 vs2 A n cp d Av nv cv x) (o:Obj):LpS W0 w (wr.alloc o) c k vs1 vs2 A n cp d Av nv cv x:=h.on ((Below.refl _ _).alloc (Nat.le_refl _) _)
theorem LpS.now (h:LpS W0 w wr c k vs1 vs2 A n cp d Av nv cv x):Below W0.heap.size W0 wr:=Qa h.w0 h.below
theorem LpS.set (h:LpS W0 w wr c k vs1 vs2 A n cp d Av nv cv x) {A':Option Addr} {n' cp':Nat} {d':Cur} {Av':Option Addr} {nv' cv':Nat} {x':List Tm} (hT:Toks W0 (.slice A' n' cp') d'.L) (hM:Tms wr (.slice Av' nv' cv') x')
 (ho:∀ b,(Value.slice Av' nv' cv').ownBlock=some b->w.heap.size+1<b) (hl:x'.length+2*d'.L.length<=2*c.L.length+1) :
 LpS W0 w ((((((wr.setCell ⟨w.heap.size,0,none⟩ (.slice A' n' cp')).setCell ⟨w.heap.size,1,none⟩ (.int .i64 d'.w1)).setCell ⟨w.heap.size,2,none⟩ (.int .i64 d'.w2)).setCell ⟨w.heap.size,3,none⟩ (.int .i64 d'.a1)).setCell ⟨w.heap.size,4,none⟩ (.int .i64 d'.a2)).setCell ⟨w.heap.size,5,none⟩ (.int .i64 d'.bad)) c k vs1 vs2 A' n' cp' d' Av' nv' cv' x':=by
 have hg:=QaN wr w.heap.size (.slice A' n' cp') (.int .i64 d'.w1) (.int .i64 d'.w2) (.int .i64 d'.a1) (.int .i64 d'.a2) (.int .i64 d'.bad);have htop:=h.top;have hz:=hg.size
 exact ⟨hT,six_at h.cur _ _ _ _ _ _,(hg.block _ (by omega) (by simp)).trans h.res,QL h.below (Nat.le_refl _) _ _ _ _ _ _,h.w0,by omega,rd_but h.s1 hg (fun e => by have:=h.o1 _ e; omega),h.o1,
  rd_but h.s2 hg (fun e=>by have:=h.o2 _ e; omega),h.o2,JJ hM hg (fun e=>by have:=ho _ e; omega),ho,hl⟩
theorem LpS.ret (h:LpS W0 w wr c k vs1 vs2 A n cp d Av nv cv x) {p:Pa} (hp:p.1 = d) (hx:d.bad = 0 -> x = p.2) :
 RetLev W0 w c p (.returned (.tuple #[.agg #[.slice A n cp,.int .i64 d.w1,.int .i64 d.w2,.int .i64 d.a1,.int .i64 d.a2,.int .i64 d.bad],.slice Av nv cv]))
  ((((((wr.setCell ⟨w.heap.size+1,0,none⟩ (.slice A n cp)).setCell ⟨w.heap.size+1,1,none⟩ (.int .i64 d.w1)).setCell ⟨w.heap.size+1,2,none⟩ (.int .i64 d.w2)).setCell ⟨w.heap.size+1,3,none⟩ (.int .i64 d.a1)).setCell ⟨w.heap.size+1,4,none⟩ (.int .i64 d.a2)).setCell ⟨w.heap.size+1,5,none⟩ (.int .i64 d.bad)) :=
 QgW (by omega) h.toks h.tms h.ot hp hx h.few h.below
end
theorem QcU {W0 w y3 y4:World} {c d:Cur} {k:Int} {vs1 vs2:Value} {A0:Option Addr} {n0 cp0:Nat} {A:Option Addr} {n cp:Nat} {Av:Option Addr} {nv cv:Nat} {x:List Tm} (hS:LvS W0 w y3 A0 n0 cp0 c) (hW:Below W0.heap.size W0 w)
 (hT:Toks W0 (.slice A n cp) d.L) (hM:Tms y3 (.slice Av nv cv) x) (ho:∀ b,(Value.slice Av nv cv).ownBlock=some b->w.heap.size+1<b) (hl:x.length+2*d.L.length<=2*c.L.length+1)
 {y3':World} (hy:y3'=((((((y3.setCell ⟨w.heap.size,0,none⟩ (.slice A n cp)).setCell ⟨w.heap.size,1,none⟩ (.int .i64 d.w1)).setCell ⟨w.heap.size,2,none⟩ (.int .i64 d.w2)).setCell ⟨w.heap.size,3,none⟩ (.int .i64 d.a1)).setCell ⟨w.heap.size,4,none⟩ (.int .i64 d.a2)).setCell ⟨w.heap.size,5,none⟩ (.int .i64 d.bad)))
 (hb:Below y3'.heap.size y3' y4) (h1:Rd y4 vs1 (strV (sigT k))) (h2:Rd y4 vs2 (intV (sigO k))) (o1:∀ b,vs1.ownBlock=some b->y3'.heap.size<=b) (o2:∀ b,vs2.ownBlock=some b->y3'.heap.size<=b) :
 LpS W0 w y4 c k vs1 vs2 A n cp d Av nv cv x:=by
 have hg:=QaN y3 w.heap.size (.slice A n cp) (.int .i64 d.w1) (.int .i64 d.w2) (.int .i64 d.a1) (.int .i64 d.a2) (.int .i64 d.bad);have hc:=six_at hS.cur (.slice A n cp) (.int .i64 d.w1) (.int .i64 d.w2) (.int .i64 d.a1) (.int .i64 d.a2) (.int .i64 d.bad);have hbl:=QL hS.below (b:=w.heap.size) (Nat.le_refl _) (.slice A n cp) (.int .i64 d.w1) (.int .i64 d.w2) (.int .i64 d.a1) (.int .i64 d.a2) (.int .i64 d.bad);rw [<- hy] at hg hc hbl;have htop:=hS.top;have hz:=hg.size;have hz2:=hb.size
 exact ⟨hT,Qe hc hb,Qe ((hg.block _ (by omega) (by simp)).trans hS.res) hb,Qa hbl hb,hW,by omega,h1,fun b hb => by have:=o1 b hb; omega,h2,fun b hb => by have:=o2 b hb; omega,
  (JJ hM hg (fun e=>by have:=ho _ e; omega)).keep hb,ho,hl⟩
theorem QbO {d:Cur} {k:Int} {s:Sg} (hn:sgn d (first k) (k + 1) = none) (hs:sgn d (first k) k = some s):s.lev = k /\ s.right = k + 1 /\ k <= 6 /\ (∃ j:Nat,idxOfS (sigT k) (next d).t = j /\ (sigO k)[j]? = some s.op):=by
 obtain ⟨h1,h2,h3,h4,hm⟩:=QZ hs;obtain ⟨q1,q2,q3,q4,q5,q6,q7⟩:=Z7 hm
 have hlev:s.lev = k:=by
  by_cases h:k+1<=s.lev
  ·rw [Qa0 h1 h2 h3 h] at hn; cases hn
  ·omega
 refine ⟨hlev,by omega,by omega,?_⟩;have hml:s∈lvl k:=List.mem_filter.2 ⟨hm,by simp [hlev]⟩;have ht:s.t=(next d).t:=(Qeo h1).2;obtain ⟨j,hj,hf⟩:=first_at (l:=sigT k) (s:=(next d).t) (List.mem_map.2 ⟨s,hml,ht⟩);refine ⟨j,Qfq hj hf,?_⟩;unfold sigT at hj;rw [List.getElem?_map,Option.map_eq_some_iff] at hj;obtain ⟨s',hs',he⟩:=hj;have hm':=(List.mem_filter.1 (List.mem_of_getElem? hs')).1;have:=Qc2 hm';rw [he,h1] at this
 cases this
 unfold sigO;rw [List.getElem?_map,hs']
 rfl
theorem QbH {d:Cur} {k:Int} (hs:sgn d (first k) k = none):idxOfS (sigT k) (next d).t = -1 \/ (next d).k ≠ 3 /\ (next d).k ≠ 1:=by
 by_cases hk:(next d).k=3\/(next d).k=1
 ·refine .inl (Qee (fun h => ?_))
  obtain ⟨s,hm,ht⟩:=List.mem_map.1 h;obtain ⟨hm',hl⟩:=List.mem_filter.1 hm;have hlev:s.lev=k:=by simpa using hl
  have:=Qc2 hm';rw [ht] at this;rw [Qa0 this hk (by rw [(Z7 hm').2.2.1,hlev]; exact Int.le_refl _) (by rw [hlev]; exact Int.le_refl _)] at hs
  cases hs
 ·exact .inr ⟨fun h=>hk (.inl h),fun h=>hk (.inr h)⟩
def LvRel (W0 w:World) (c:Cur) (k:Int) (vs1 vs2:Value) (F:Nat) (P:Pa) (G:Nat) (v m:Value) (wr:World):Prop :=
 ∃ A n cp d Av nv cv x y more g,v = .slice Av nv cv /\ m = .bool more /\ LpS W0 w wr c k vs1 vs2 A n cp d Av nv cv x /\ Ok d /\ Fit g d /\ g <= F /\ d.L.length <= 100000 /\ (d.bad = 0 -> x = y) /\
   (more=true->C g (first k) k d y=P/\sgn d (first k) (k+1)=none)/\(more=false->P=(d,y))/\2*g+more.toNat=G
theorem Qem {d:Cur} {k:Int} (h:k ≠ 4):sgn d (first k) (k + 1) = none:=JG fun s hs => by
 obtain ⟨_,_,h3,h4,hm⟩:=QZ hs;have:=Z7 hm;unfold first at h3
 rw [if_neg h] at h3;omega
theorem JU (k:Int):(sigT k).length <= 9223372036854775807:=by
 unfold sigT lvl;rw [List.length_map];exact Nat.le_trans (List.length_filter_le _ _) (by decide)
theorem Qeu {w:World} {As:Option Addr} {ns cs j:Nat} {k o:Int} (h:Rd w (.slice As ns cs) (intV (sigO k))) (hj:(sigO k)[j]? = some o):∃ b off,j < ns /\ As = some ⟨b,off,none⟩ /\ w.cell? ⟨b,off + j,none⟩ = some (.int .i64 o):=by
 obtain ⟨A',n',c',heq,hl,hc,hA⟩:=h.ints
 cases heq
 have:=Ja hj;obtain ⟨b,off,rfl,hb,hcell⟩:=hA (by omega);exact ⟨b,off,by omega,rfl,hcell j o hj⟩
theorem QgM {k:Int} {g g':Nat} {d e:Cur} {z y:List Tm} {P:Pa} (h4:k ≠ 4) (h1:C g' (first k) k d z = C g k k e y) (h2:C g' (first k) k d z = P):C g (first k) k e y = P /\ sgn e (first k) (k + 1) = none:=by
 refine ⟨?_,Qem h4⟩;rw [<- h2,h1];unfold first
 rw [if_neg h4]
theorem QgG {k:Int} {g g':Nat} {d e:Cur} {z y:List Tm} {P:Pa} (h4:k = 4) (h1:C g' (first k) k d z = C g k k e y) (h2:C g' (first k) k d z = P):P = (e,y):=by
 subst h4;rw [<- h2,h1];exact QY g y (stop_4 e)
theorem lev_step (F:Nat) (c:Cur) (k:Int) (hk1:1 <= k) (hk7:k <= 7) (h0:c.bad = 0) (h3:¬ (k = 3 /\ isB c 1 tNot = true)) (hn:¬ (k = 7 /\ isB c 3 tNeg = true)) (hIH:∀ g,g < F -> LevOk g) (ok:Ok c) (hf:Fit F c) (hlen:c.L.length <= 100000)
 (A:Option Addr) (n cp:Nat) (W0 w:World) (hT:Toks W0 (.slice A n cp) c.L) (hW:Below W0.heap.size W0 w)
 (hN:∀ W,Below W0.heap.size W0 W->Calls Tryz.prog 168 #[.agg #[.slice A n cp,.int .i64 c.w1,.int .i64 c.w2,.int .i64 c.a1,.int .i64 c.a2,.int .i64 c.bad],.int .i64 (k+1)] W (RetLev W0 W c (S F c (k+1)))) :
 Calls Tryz.prog 168 #[.agg #[.slice A n cp,.int .i64 c.w1,.int .i64 c.w2,.int .i64 c.a1,.int .i64 c.a2,.int .i64 c.bad],.int .i64 k] w (RetLev W0 w c (S F c k)):=by
 have HS1:=qh (Qae hT hW);have hlv:=S_level hf h0 hk1 hk7 h3 hn;obtain ⟨p,hp⟩:∃ p,p=S F c (k+1):=⟨_,rfl⟩;obtain ⟨P,hP⟩:∃ P,P=S F c k:=⟨_,rfl⟩
 have HIN:Hid (C F (first k) k p.1 p.2 = P /\ sgn p.1 (first k) (k + 1) = none /\ Ok p.1 /\ Fit F p.1 /\ p.1.L.length <= 100000):=qh (by
  refine ⟨by rw [hP,hp]; exact hlv.1.symm,?_,by rw [hp]; exact ok_S F _ ok,by rw [hp]; exact QeZ hf _,by rw [hp]; exact Nat.le_trans (Q5 F c (k+1)).1 hlen⟩
  by_cases h4:k=4
  ·rw [hp,h4]
   have:=hlv.2 h4;rw [h4] at this;exact this
  ·exact Qem h4)
 have HIS:Hid (∀ kd s,Calls Tryz.prog 62 #[.agg #[.slice A n cp,.int .i64 c.w1,.int .i64 c.w2,.int .i64 c.a1,.int .i64 c.a2,.int .i64 c.bad],.int .i64 kd,.string s] ((w.alloc (rcO A n cp c)).alloc rcZ) (RetBool ((w.alloc (rcO A n cp c)).alloc rcZ) (isB c kd s))):=qh (fun kd s=>QaW c kd s A n cp _ (((hT.keep hW).alloc (rcO A n cp c)).alloc rcZ));have HN:=qh hN;rw [<- hp] at HN;rw [<- hP];have HIH:=qh hIH;have HWW:=qh hW;have HK:=qh (And.intro hk1 hk7);have HLEN:=qh hlen;have e0:(c.bad != 0)=false:=by simpa using h0
 have e8:(k==8)=false:=by simp; omega
 have hkk:(k = 3 /\ isB c 1 tNot = false) \/ (k = 7 /\ isB c 3 tNeg = false) \/ (k ≠ 3 /\ k ≠ 7):=by
  by_cases e3:k=3
  ·exact .inl ⟨e3,by simpa using fun h=>h3 ⟨e3,h⟩⟩
  ·by_cases e7:k = 7
   ·exact .inr (.inl ⟨e7,by simpa using fun h=>hn ⟨e7,h⟩⟩)
   ·exact .inr (.inr ⟨e3,e7⟩)
 clear hlv hp hP hT hW hN hIH ok hf hlen h0 h3 hn;obtain ⟨c0,c1,c2,c3,c4,c5⟩:=Qc HS1.o.cur
 rcases hkk with ⟨e3,eb⟩ | ⟨e7,eb⟩ | ⟨e3,e7⟩
 ·have HIB:=qh (HIS.o 1 tNot)
  rw [eb] at HIB;have e33:(k==3)=true:=by simpa using e3
  have e77:(k==7)=false:=by simp; omega
  clear e3 eb HIS;go_enter Tryz.func168,Tryz.ntmps168;go_wp2_with (go_at_call 62; go_fit HIB.o);rintro e y2 ⟨rfl,hb2⟩;have HS2:=qh (HS1.o.on hb2);clear hb2 c0 c1 c2 c3 c4 c5;obtain ⟨c0,c1,c2,c3,c4,c5⟩:=Qc HS2.o.cur;go_wp2_with (go_at_call 168; go_fit (HN.o _ HS2.o.w0));rintro e y3 ⟨A3,n3,cp3,Av,nv,cv,x,rfl,hT3,hM3,ho3,hx3,hl3,hb3⟩;have HS3:=qh (HS2.o.on hb3);have ho3':∀ b,(Value.slice Av nv cv).ownBlock=some b->w.heap.size+1<b:=fun b hb=>by have h1:=ho3 b hb; have h2:=HS2.o.top; omega
  have HL3:=qh (And.intro hT3 (And.intro hM3 (And.intro ho3' (And.intro hx3 hl3))));clear hT3 hM3 ho3 ho3' hx3 hl3 hb3 c0 c1 c2 c3 c4 c5;obtain ⟨c0,c1,c2,c3,c4,c5⟩:=Qc HS3.o.cur;obtain ⟨f0,f1,f2,f3,f4,f5⟩:=Qk HS3.o.cur;go_wp2_with (go_at_call 148; go_fit (Qap k _));rintro e y4 ⟨vs1,vs2,rfl,hr1,hr2,o1,o2,hb4⟩;have hLp:=QcU HS3.o HWW.o HL3.o.1 HL3.o.2.1 HL3.o.2.2.1 HL3.o.2.2.2.2 rfl hb4 hr1 hr2 o1 o2;obtain ⟨As1,ns1,cs1,rfl,-⟩:=hr1;obtain ⟨As2,ns2,cs2,rfl,-⟩:=hr2;have HL:=qh hLp;clear hLp o1 o2 hb4 c0 c1 c2 c3 c4 c5 f0 f1 f2 f3 f4 f5;go_wp2_with fail
  go_loopg [10,13] (2*F+1) (fun G v m wr=>LvRel W0 w c k (.slice As1 ns1 cs1) (.slice As2 ns2 cs2) F P G v m wr)
  case atStart=>exact ⟨A3,n3,cp3,p.1,Av,nv,cv,x,p.2,true,F,rfl,rfl,HL.o,HIN.o.2.2.1,HIN.o.2.2.2.1,Nat.le_refl _,HIN.o.2.2.2.2,HL3.o.2.2.2.1,fun _=>⟨HIN.o.1,HIN.o.2.1⟩,(fun h=>by cases h),rfl⟩
  case round =>
   obtain ⟨A5,n5,cp5,d,Av5,nv5,cv5,x5,z5,more,g,rfl,rfl,hL,okd,fd,hle,hln,hxy,hmt,hmf,hG⟩:=hrel;have HL5:=qh hL;have HOK:=qh (And.intro okd (And.intro fd (And.intro hle (And.intro hln hxy))));have HGG:=qh hG;obtain ⟨b0,b1,b2,b3,b4,b5⟩:=Qc hL.cur;clear okd fd hle hln hxy hG
   by_cases hend:more=false\/d.bad≠0
   ·have HP:Hid (P = (d,z5)):=qh (by
     cases hm:more with
     | false => exact hmf hm
     | true =>
       rcases hend with h | h
       ·rw [hm] at h; cases h
       ·rw [<- (hmt hm).1,QY g z5 (Jp _ _ h)])
    have hcase:more = false \/ (more = true /\ (d.bad == 0) = false):=by
     cases hm:more with
     | false => exact .inl rfl
     | true => exact .inr ⟨rfl,by rcases hend with h | h; · rw [hm] at h; cases h
                                  ·simpa using h⟩
    have HRS:=qh hL.res;obtain ⟨r0,r1,r2,r3,r4,r5⟩:=Qc hL.res;obtain ⟨f0,f1,f2,f3,f4,f5⟩:=Qk hL.res;clear hend hmt hmf hL
    rcases hcase with rfl | ⟨rfl,ed⟩
    all_goals
     go_wp2_with fail;obtain ⟨q0,q1,q2,q3,q4,q5⟩:=Qq (QD HRS.o (n:=6) rfl) (.slice A5 n5 cp5) (.int .i64 d.w1) (.int .i64 d.w2) (.int .i64 d.a1) (.int .i64 d.a2) (.int .i64 d.bad);refine bodyPost_ret (v:=.tuple #[.agg #[.slice A5 n5 cp5,.int .i64 d.w1,.int .i64 d.w2,.int .i64 d.a1,.int .i64 d.a2,.int .i64 d.bad],.slice Av5 nv5 cv5]) (by simp [results,Tryz.results168,go_sem,q0,q1,q2,q3,q4,q5]) rfl ?_;exact HL5.o.ret (by rw [HP.o]) (fun h=>by rw [HP.o]; exact HOK.o.2.2.2.2 h)
   ·have hm:more = true:=by cases more with
     | false => exact absurd (.inl rfl) hend
     | true => rfl
    have hd:d.bad=0:=Classical.byContradiction fun h=>hend (.inr h)
    subst hm;have HM:=qh (hmt rfl);have ed:(d.bad==0)=true:=by simpa using hd
    have HNX:=qh (Q4 d A5 n5 cp5 wr (hL.toks.keep hL.now));have HON:=qh (fun W hW=>Ji d A5 n5 cp5 W0 W hL.toks hW);have hps:=fun s (hs:sgn d (first k) k=some s)=>QbO HM.o.2 hs
    have hpn:=fun (hs:sgn d (first k) k=none)=>QbH hs
    obtain ⟨t,ht⟩:∃ t,t=next d:=⟨_,rfl⟩;rw [<- ht] at HNX hps hpn;have HTK:=qh ht;have HD:=qh hd;clear hend hmt hmf hL hd ht
    cases hs:sgn d (first k) k with
    | none =>
      have HST:=qh (QY g z5 hs);have hpn':=hpn hs;clear hps hpn hs
      by_cases hi:idxOfS (sigT k) t.t = -1
      ·have HPL:Hid (∀ W,Rd W (.slice As1 ns1 cs1) (strV (sigT k)) -> Calls Tryz.prog 141 #[.slice As1 ns1 cs1,.string t.t] W fun e w' => e = .returned (.int .i64 (-1)) /\ W = w'):=qh (fun W h => by rw [<- hi]; exact Jd _ _ _ W h (JU k))
       clear hi hpn';go_wp2_with (go_at_call 104; go_fit HNX.o);rintro e y6 ⟨rfl,hb6⟩;have HL7:=qh ((HL5.o.on hb6).alloc (tkO t));obtain ⟨t0,t1,t2,t3⟩:=Qi (heap_alloc_new y6 (tkO t));clear hb6 b0 b1 b2 b3 b4 b5;go_wp2_with (go_at_call 141; go_fit (HPL.o _ HL7.o.s1); rintro e w' ⟨rfl,rfl⟩)
       go_roundg (2*g)
       case rel=>exact ⟨A5,n5,cp5,d,Av5,nv5,cv5,x5,z5,false,g,rfl,rfl,HL7.o,HOK.o.1,HOK.o.2.1,HOK.o.2.2.1,HOK.o.2.2.2.1,HOK.o.2.2.2.2,(fun h=>by cases h),(fun _=>by rw [<- HM.o.1,HST.o]),by simp⟩
       case measure=>have:=HGG.o; simp at this; omega
      ·obtain ⟨i,hii⟩:∃ i,i = idxOfS (sigT k) t.t:=⟨_,rfl⟩
       have HPL:Hid (∀ W,Rd W (.slice As1 ns1 cs1) (strV (sigT k))->Calls Tryz.prog 141 #[.slice As1 ns1 cs1,.string t.t] W fun e w'=>e = .returned (.int .i64 i)/\W=w'):=qh (fun W h=>by rw [hii]; exact Jd _ _ _ W h (JU k));have e3':(t.k==3)=false:=by simpa using (hpn'.resolve_left hi).1
       have e1':(t.k==1)=false:=by simpa using (hpn'.resolve_left hi).2
       clear hi hpn' hii
       by_cases h0i:0<=i
       all_goals
        have hi0:decide (0<=i)=decide (0<=i):=rfl;go_wp2_with (go_at_call 104; go_fit HNX.o);rintro e y6 ⟨rfl,hb6⟩;have HL7:=qh ((HL5.o.on hb6).alloc (tkO t));obtain ⟨t0,t1,t2,t3⟩:=Qi (heap_alloc_new y6 (tkO t));clear hb6 b0 b1 b2 b3 b4 b5 hi0;go_wp2_with (go_at_call 141; go_fit (HPL.o _ HL7.o.s1); rintro e w' ⟨rfl,rfl⟩)
        go_roundg (2*g)
        case rel=>exact ⟨A5,n5,cp5,d,Av5,nv5,cv5,x5,z5,false,g,rfl,rfl,HL7.o,HOK.o.1,HOK.o.2.1,HOK.o.2.2.1,HOK.o.2.2.2.1,HOK.o.2.2.2.2,(fun h=>by cases h),(fun _=>by rw [<- HM.o.1,HST.o]),by simp⟩
        case measure=>have:=HGG.o; simp at this; omega
    | some s =>
      obtain ⟨hlev,hright,hk6,j,hj,hop⟩:=hps s hs;have hkd:t.k=3\/t.k=1:=by rw [HTK.o]; exact (QZ hs).2.1
      cases g with
      | zero => exact absurd HD.o (HOK.o.2.1).zero
      | succ g =>
        have HST:=qh (J2 g z5 hs);have hfo:=HOK.o.2.1.fitOn hs;have hrl:=Qab hs;obtain ⟨d1,hd1⟩:∃ d1,d1=on d:=⟨_,rfl⟩;obtain ⟨q,hq⟩:∃ q,q=S g d1 (k+1):=⟨_,rfl⟩
        have HQ:Hid (C (g + 1) (first k) k d z5 = C g k k q.1 (opT s.op :: (z5 ++ q.2)) /\ Ok q.1 /\ Fit g q.1 /\ q.1.L.length <= d1.L.length /\ d1.L.length + 1 = d.L.length /\ (q.1.bad = 0 -> d.bad = 0) /\ g < F):=qh (by
         have:=HOK.o.2.2.1;refine ⟨?_,by rw [hq,hd1]; exact ok_S g _ HOK.o.1.on,by rw [hq,hd1]; exact QeZ hfo _,by rw [hq]; exact (Q5 g d1 _).1,by rw [hd1]; exact hrl.2.1,fun _=>HD.o,by omega⟩;rw [HST.o,hq,hd1,hlev,hright])
        have HLV:=qh (fun A n cp W hT hW=>HIH.o g HQ.o.2.2.2.2.2.2 (k+1) (by have:=HK.o; omega) (by omega) d1 A n cp W0 W hT hW (by rw [hd1]; exact HOK.o.1.on) (by rw [hd1]; exact hfo) (by have:=HQ.o; have:=HOK.o.2.2.2.1; omega));rw [<- hq] at HLV;rw [<- hd1] at HON;have HPL:Hid (∀ W,Rd W (.slice As1 ns1 cs1) (strV (sigT k))->Calls Tryz.prog 141 #[.slice As1 ns1 cs1,.string t.t] W fun e w'=>e = .returned (.int .i64 (j:Int))/\W=w'):=qh (fun W h=>by rw [<- hj]; exact Jd _ _ _ W h (JU k));have HOP:=qh hop;obtain ⟨m4,h4⟩:∃ m4,m4=(k != 4):=⟨_,rfl⟩;have e4:(k != 4)=m4:=h4.symm;have H4:=qh h4
        have hkk2:((t.k == 3) = true) \/ ((t.k == 3) = false /\ (t.k == 1) = true):=by
         rcases hkd with h | h
         ·exact .inl (by simpa using h)
         ·exact .inr ⟨by simp; omega,by simpa using h⟩
        clear hps hpn hs hlev hright hk6 hj hop hkd hfo hrl hd1 hq h4
        rcases hkk2 with ek | ⟨ek,ek1⟩
        all_goals
         go_wp2_with (go_at_call 104; go_fit HNX.o);rintro e y6 ⟨rfl,hb6⟩;have HL7:=qh ((HL5.o.on hb6).alloc (tkO t));obtain ⟨t0,t1,t2,t3⟩:=Qi (heap_alloc_new y6 (tkO t));clear hb6 b0 b1 b2 b3 b4 b5;obtain ⟨b0,b1,b2,b3,b4,b5⟩:=Qc HL7.o.cur
         go_wp2_with (first
          | (go_at_call 141; go_fit (HPL.o _ HL7.o.s1); rintro e w' ⟨rfl,rfl⟩)
          | (go_at_call 63; go_fit (HON.o _ HL7.o.now)))
         rintro e y8 ⟨A8,n8,cp8,rfl,hT8,hb8⟩;have HT8:=qh hT8;have HL8:=qh (HL7.o.on hb8);clear hT8 hb8 t0 t1 t2 t3 b0 b1 b2 b3 b4 b5;go_wp2_with (go_at_call 168; go_fit (HLV.o _ _ _ _ HT8.o HL8.o.now));rintro e y9 ⟨A9,n9,cp9,Aq,nq,cq,xq,rfl,hT9,hM9,ho9,hx9,hl9,hb9⟩;have HL9:=qh (HL8.o.on hb9);have HT9:=qh hT9;have HX9:=qh (And.intro hx9 hl9);have HLD:=qh ((HL9.o.alloc (rcO A9 n9 cp9 q.1)).on (Below.refl _ _).drew);have HOV:=qh (ZG s.op (.slice Av5 nv5 cv5) (.slice Aq nq cq) x5 xq (y9.alloc (rcO A9 n9 cp9 q.1)).drew HLD.o.tms (hM9.alloc _) (by have:=HL5.o.few; have:=HLEN.o; omega) (by have:=hl9; have:=HQ.o; have:=HOK.o.2.2.2.1; omega));have k16:(y9.alloc (rcO A9 n9 cp9 q.1)).heap[y9.heap.size]?=some (rcO A9 n9 cp9 q.1):=heap_alloc_new _ _;have HK16:=qh k16;obtain ⟨m0,m1,m2,m3,m4',m5⟩:=Qc k16;obtain ⟨bs,off,hjn,hel⟩:=Qeu HLD.o.s2 HOP.o;obtain ⟨hAs,hcell⟩:=hel;subst hAs;have hjI:(j:Int)<(ns2:Int):=by omega
         have hj0:(0:Int)<=(j:Int):=by omega
         have hcell':(y9.alloc (rcO A9 n9 cp9 q.1)).cell? ⟨bs,off+j,none⟩=some (.int .i64 s.op):=hcell;clear hT9 hM9 ho9 hx9 hl9 hb9 k16 hcell;go_wp2_with fail;go_region_law (go_simp; go_at_call 179; go_fit HOV.o; rintro e y11 ⟨A6,n6,c6,rfl,hM6,ho6,hb11⟩; have HM6:=qh (And.intro hM6 ho6); have HL11:=qh (HLD.o.on hb11); obtain ⟨a0,a1,a2,a3,a4,a5⟩:=Qc (Qe HK16.o (undrew hb11)); obtain ⟨r0,r1,r2,r3,r4,r5⟩:=Qc HL11.o.cur; obtain ⟨f0,f1,f2,f3,f4,f5⟩:=Qk HL11.o.cur; clear hM6 ho6 hb11)
         all_goals
          go_wp2_with fail
          go_roundg (2*g+m4.toNat)
          case rel=>exact ⟨A9,n9,cp9,q.1,A6,n6,c6,opT s.op::(x5++xq),opT s.op::(z5++q.2),m4,g,rfl,rfl,HL11.o.set HT9.o HM6.o.1 (fun b hb=>by have h1:=HM6.o.2 b hb; have h2:=HLD.o.top; omega) (by have:=HL5.o.few; have:=HX9.o.2; have:=HQ.o; simp only [List.length_cons,List.length_append]; omega),HQ.o.2.1,HQ.o.2.2.1,by have:=HOK.o.2.2.1; omega,by have:=HQ.o; have:=HOK.o.2.2.2.1; omega,fun h=>by rw [HOK.o.2.2.2.2 (HQ.o.2.2.2.2.2.1 h),HX9.o.1 h],fun h=>by rw [H4.o] at h; exact QgM (by simpa using h) HQ.o.1 HM.o.1,fun h=>by rw [H4.o] at h; exact QgG (by simpa using h) HQ.o.1 HM.o.1,rfl⟩
          case measure=>have h1:=HGG.o; have h2:=m4.toNat_le; simp at h1; omega
 ·have HIB:=qh (HIS.o 3 tNeg)
  rw [eb] at HIB;have e77:(k==7)=true:=by simpa using e7
  have e33:(k==3)=false:=by simp; omega
  clear e7 eb HIS;go_enter Tryz.func168,Tryz.ntmps168;go_wp2_with (go_at_call 62; go_fit HIB.o);rintro e y2 ⟨rfl,hb2⟩;have HS2:=qh (HS1.o.on hb2);clear hb2 c0 c1 c2 c3 c4 c5;obtain ⟨c0,c1,c2,c3,c4,c5⟩:=Qc HS2.o.cur;go_wp2_with (go_at_call 168; go_fit (HN.o _ HS2.o.w0));rintro e y3 ⟨A3,n3,cp3,Av,nv,cv,x,rfl,hT3,hM3,ho3,hx3,hl3,hb3⟩;have HS3:=qh (HS2.o.on hb3);have ho3':∀ b,(Value.slice Av nv cv).ownBlock=some b->w.heap.size+1<b:=fun b hb=>by have h1:=ho3 b hb; have h2:=HS2.o.top; omega
  have HL3:=qh (And.intro hT3 (And.intro hM3 (And.intro ho3' (And.intro hx3 hl3))));clear hT3 hM3 ho3 ho3' hx3 hl3 hb3 c0 c1 c2 c3 c4 c5;obtain ⟨c0,c1,c2,c3,c4,c5⟩:=Qc HS3.o.cur;obtain ⟨f0,f1,f2,f3,f4,f5⟩:=Qk HS3.o.cur;go_wp2_with (go_at_call 148; go_fit (Qap k _));rintro e y4 ⟨vs1,vs2,rfl,hr1,hr2,o1,o2,hb4⟩;have hLp:=QcU HS3.o HWW.o HL3.o.1 HL3.o.2.1 HL3.o.2.2.1 HL3.o.2.2.2.2 rfl hb4 hr1 hr2 o1 o2;obtain ⟨As1,ns1,cs1,rfl,-⟩:=hr1;obtain ⟨As2,ns2,cs2,rfl,-⟩:=hr2;have HL:=qh hLp;clear hLp o1 o2 hb4 c0 c1 c2 c3 c4 c5 f0 f1 f2 f3 f4 f5;go_wp2_with fail
  go_loopg [10,13] (2*F+1) (fun G v m wr=>LvRel W0 w c k (.slice As1 ns1 cs1) (.slice As2 ns2 cs2) F P G v m wr)
  case atStart=>exact ⟨A3,n3,cp3,p.1,Av,nv,cv,x,p.2,true,F,rfl,rfl,HL.o,HIN.o.2.2.1,HIN.o.2.2.2.1,Nat.le_refl _,HIN.o.2.2.2.2,HL3.o.2.2.2.1,fun _=>⟨HIN.o.1,HIN.o.2.1⟩,(fun h=>by cases h),rfl⟩
  case round =>
   obtain ⟨A5,n5,cp5,d,Av5,nv5,cv5,x5,z5,more,g,rfl,rfl,hL,okd,fd,hle,hln,hxy,hmt,hmf,hG⟩:=hrel;have HL5:=qh hL;have HOK:=qh (And.intro okd (And.intro fd (And.intro hle (And.intro hln hxy))));have HGG:=qh hG;obtain ⟨b0,b1,b2,b3,b4,b5⟩:=Qc hL.cur;clear okd fd hle hln hxy hG
   by_cases hend:more=false\/d.bad≠0
   ·have HP:Hid (P = (d,z5)):=qh (by
     cases hm:more with
     | false => exact hmf hm
     | true =>
       rcases hend with h | h
       ·rw [hm] at h; cases h
       ·rw [<- (hmt hm).1,QY g z5 (Jp _ _ h)])
    have hcase:more = false \/ (more = true /\ (d.bad == 0) = false):=by
     cases hm:more with
     | false => exact .inl rfl
     | true => exact .inr ⟨rfl,by rcases hend with h | h; · rw [hm] at h; cases h
                                  ·simpa using h⟩
    have HRS:=qh hL.res;obtain ⟨r0,r1,r2,r3,r4,r5⟩:=Qc hL.res;obtain ⟨f0,f1,f2,f3,f4,f5⟩:=Qk hL.res;clear hend hmt hmf hL
    rcases hcase with rfl | ⟨rfl,ed⟩
    all_goals
     go_wp2_with fail;obtain ⟨q0,q1,q2,q3,q4,q5⟩:=Qq (QD HRS.o (n:=6) rfl) (.slice A5 n5 cp5) (.int .i64 d.w1) (.int .i64 d.w2) (.int .i64 d.a1) (.int .i64 d.a2) (.int .i64 d.bad);refine bodyPost_ret (v:=.tuple #[.agg #[.slice A5 n5 cp5,.int .i64 d.w1,.int .i64 d.w2,.int .i64 d.a1,.int .i64 d.a2,.int .i64 d.bad],.slice Av5 nv5 cv5]) (by simp [results,Tryz.results168,go_sem,q0,q1,q2,q3,q4,q5]) rfl ?_;exact HL5.o.ret (by rw [HP.o]) (fun h=>by rw [HP.o]; exact HOK.o.2.2.2.2 h)
   ·have hm:more = true:=by cases more with
     | false => exact absurd (.inl rfl) hend
     | true => rfl
    have hd:d.bad=0:=Classical.byContradiction fun h=>hend (.inr h)
    subst hm;have HM:=qh (hmt rfl);have ed:(d.bad==0)=true:=by simpa using hd
    have HNX:=qh (Q4 d A5 n5 cp5 wr (hL.toks.keep hL.now));have HON:=qh (fun W hW=>Ji d A5 n5 cp5 W0 W hL.toks hW);have hps:=fun s (hs:sgn d (first k) k=some s)=>QbO HM.o.2 hs
    have hpn:=fun (hs:sgn d (first k) k=none)=>QbH hs
    obtain ⟨t,ht⟩:∃ t,t=next d:=⟨_,rfl⟩;rw [<- ht] at HNX hps hpn;have HTK:=qh ht;have HD:=qh hd;clear hend hmt hmf hL hd ht
    cases hs:sgn d (first k) k with
    | none =>
      have HST:=qh (QY g z5 hs);have hpn':=hpn hs;clear hps hpn hs
      by_cases hi:idxOfS (sigT k) t.t = -1
      ·have HPL:Hid (∀ W,Rd W (.slice As1 ns1 cs1) (strV (sigT k)) -> Calls Tryz.prog 141 #[.slice As1 ns1 cs1,.string t.t] W fun e w' => e = .returned (.int .i64 (-1)) /\ W = w'):=qh (fun W h => by rw [<- hi]; exact Jd _ _ _ W h (JU k))
       clear hi hpn';go_wp2_with (go_at_call 104; go_fit HNX.o);rintro e y6 ⟨rfl,hb6⟩;have HL7:=qh ((HL5.o.on hb6).alloc (tkO t));obtain ⟨t0,t1,t2,t3⟩:=Qi (heap_alloc_new y6 (tkO t));clear hb6 b0 b1 b2 b3 b4 b5;go_wp2_with (go_at_call 141; go_fit (HPL.o _ HL7.o.s1); rintro e w' ⟨rfl,rfl⟩)
       go_roundg (2*g)
       case rel=>exact ⟨A5,n5,cp5,d,Av5,nv5,cv5,x5,z5,false,g,rfl,rfl,HL7.o,HOK.o.1,HOK.o.2.1,HOK.o.2.2.1,HOK.o.2.2.2.1,HOK.o.2.2.2.2,(fun h=>by cases h),(fun _=>by rw [<- HM.o.1,HST.o]),by simp⟩
       case measure=>have:=HGG.o; simp at this; omega
      ·obtain ⟨i,hii⟩:∃ i,i = idxOfS (sigT k) t.t:=⟨_,rfl⟩
       have HPL:Hid (∀ W,Rd W (.slice As1 ns1 cs1) (strV (sigT k))->Calls Tryz.prog 141 #[.slice As1 ns1 cs1,.string t.t] W fun e w'=>e = .returned (.int .i64 i)/\W=w'):=qh (fun W h=>by rw [hii]; exact Jd _ _ _ W h (JU k));have e3':(t.k==3)=false:=by simpa using (hpn'.resolve_left hi).1
       have e1':(t.k==1)=false:=by simpa using (hpn'.resolve_left hi).2
       clear hi hpn' hii
       by_cases h0i:0<=i
       all_goals
        have hi0:decide (0<=i)=decide (0<=i):=rfl;go_wp2_with (go_at_call 104; go_fit HNX.o);rintro e y6 ⟨rfl,hb6⟩;have HL7:=qh ((HL5.o.on hb6).alloc (tkO t));obtain ⟨t0,t1,t2,t3⟩:=Qi (heap_alloc_new y6 (tkO t));clear hb6 b0 b1 b2 b3 b4 b5 hi0;go_wp2_with (go_at_call 141; go_fit (HPL.o _ HL7.o.s1); rintro e w' ⟨rfl,rfl⟩)
        go_roundg (2*g)
        case rel=>exact ⟨A5,n5,cp5,d,Av5,nv5,cv5,x5,z5,false,g,rfl,rfl,HL7.o,HOK.o.1,HOK.o.2.1,HOK.o.2.2.1,HOK.o.2.2.2.1,HOK.o.2.2.2.2,(fun h=>by cases h),(fun _=>by rw [<- HM.o.1,HST.o]),by simp⟩
        case measure=>have:=HGG.o; simp at this; omega
    | some s =>
      obtain ⟨hlev,hright,hk6,j,hj,hop⟩:=hps s hs;have hkd:t.k=3\/t.k=1:=by rw [HTK.o]; exact (QZ hs).2.1
      cases g with
      | zero => exact absurd HD.o (HOK.o.2.1).zero
      | succ g =>
        have HST:=qh (J2 g z5 hs);have hfo:=HOK.o.2.1.fitOn hs;have hrl:=Qab hs;obtain ⟨d1,hd1⟩:∃ d1,d1=on d:=⟨_,rfl⟩;obtain ⟨q,hq⟩:∃ q,q=S g d1 (k+1):=⟨_,rfl⟩
        have HQ:Hid (C (g + 1) (first k) k d z5 = C g k k q.1 (opT s.op :: (z5 ++ q.2)) /\ Ok q.1 /\ Fit g q.1 /\ q.1.L.length <= d1.L.length /\ d1.L.length + 1 = d.L.length /\ (q.1.bad = 0 -> d.bad = 0) /\ g < F):=qh (by
         have:=HOK.o.2.2.1;refine ⟨?_,by rw [hq,hd1]; exact ok_S g _ HOK.o.1.on,by rw [hq,hd1]; exact QeZ hfo _,by rw [hq]; exact (Q5 g d1 _).1,by rw [hd1]; exact hrl.2.1,fun _=>HD.o,by omega⟩;rw [HST.o,hq,hd1,hlev,hright])
        have HLV:=qh (fun A n cp W hT hW=>HIH.o g HQ.o.2.2.2.2.2.2 (k+1) (by have:=HK.o; omega) (by omega) d1 A n cp W0 W hT hW (by rw [hd1]; exact HOK.o.1.on) (by rw [hd1]; exact hfo) (by have:=HQ.o; have:=HOK.o.2.2.2.1; omega));rw [<- hq] at HLV;rw [<- hd1] at HON;have HPL:Hid (∀ W,Rd W (.slice As1 ns1 cs1) (strV (sigT k))->Calls Tryz.prog 141 #[.slice As1 ns1 cs1,.string t.t] W fun e w'=>e = .returned (.int .i64 (j:Int))/\W=w'):=qh (fun W h=>by rw [<- hj]; exact Jd _ _ _ W h (JU k));have HOP:=qh hop;obtain ⟨m4,h4⟩:∃ m4,m4=(k != 4):=⟨_,rfl⟩;have e4:(k != 4)=m4:=h4.symm;have H4:=qh h4
        have hkk2:((t.k == 3) = true) \/ ((t.k == 3) = false /\ (t.k == 1) = true):=by
         rcases hkd with h | h
         ·exact .inl (by simpa using h)
         ·exact .inr ⟨by simp; omega,by simpa using h⟩
        clear hps hpn hs hlev hright hk6 hj hop hkd hfo hrl hd1 hq h4
        rcases hkk2 with ek | ⟨ek,ek1⟩
        all_goals
         go_wp2_with (go_at_call 104; go_fit HNX.o);rintro e y6 ⟨rfl,hb6⟩;have HL7:=qh ((HL5.o.on hb6).alloc (tkO t));obtain ⟨t0,t1,t2,t3⟩:=Qi (heap_alloc_new y6 (tkO t));clear hb6 b0 b1 b2 b3 b4 b5;obtain ⟨b0,b1,b2,b3,b4,b5⟩:=Qc HL7.o.cur
         go_wp2_with (first
          | (go_at_call 141; go_fit (HPL.o _ HL7.o.s1); rintro e w' ⟨rfl,rfl⟩)
          | (go_at_call 63; go_fit (HON.o _ HL7.o.now)))
         rintro e y8 ⟨A8,n8,cp8,rfl,hT8,hb8⟩;have HT8:=qh hT8;have HL8:=qh (HL7.o.on hb8);clear hT8 hb8 t0 t1 t2 t3 b0 b1 b2 b3 b4 b5;go_wp2_with (go_at_call 168; go_fit (HLV.o _ _ _ _ HT8.o HL8.o.now));rintro e y9 ⟨A9,n9,cp9,Aq,nq,cq,xq,rfl,hT9,hM9,ho9,hx9,hl9,hb9⟩;have HL9:=qh (HL8.o.on hb9);have HT9:=qh hT9;have HX9:=qh (And.intro hx9 hl9);have HLD:=qh ((HL9.o.alloc (rcO A9 n9 cp9 q.1)).on (Below.refl _ _).drew);have HOV:=qh (ZG s.op (.slice Av5 nv5 cv5) (.slice Aq nq cq) x5 xq (y9.alloc (rcO A9 n9 cp9 q.1)).drew HLD.o.tms (hM9.alloc _) (by have:=HL5.o.few; have:=HLEN.o; omega) (by have:=hl9; have:=HQ.o; have:=HOK.o.2.2.2.1; omega));have k16:(y9.alloc (rcO A9 n9 cp9 q.1)).heap[y9.heap.size]?=some (rcO A9 n9 cp9 q.1):=heap_alloc_new _ _;have HK16:=qh k16;obtain ⟨m0,m1,m2,m3,m4',m5⟩:=Qc k16;obtain ⟨bs,off,hjn,hel⟩:=Qeu HLD.o.s2 HOP.o;obtain ⟨hAs,hcell⟩:=hel;subst hAs;have hjI:(j:Int)<(ns2:Int):=by omega
         have hj0:(0:Int)<=(j:Int):=by omega
         have hcell':(y9.alloc (rcO A9 n9 cp9 q.1)).cell? ⟨bs,off+j,none⟩=some (.int .i64 s.op):=hcell;clear hT9 hM9 ho9 hx9 hl9 hb9 k16 hcell;go_wp2_with fail;go_region_law (go_simp; go_at_call 179; go_fit HOV.o; rintro e y11 ⟨A6,n6,c6,rfl,hM6,ho6,hb11⟩; have HM6:=qh (And.intro hM6 ho6); have HL11:=qh (HLD.o.on hb11); obtain ⟨a0,a1,a2,a3,a4,a5⟩:=Qc (Qe HK16.o (undrew hb11)); obtain ⟨r0,r1,r2,r3,r4,r5⟩:=Qc HL11.o.cur; obtain ⟨f0,f1,f2,f3,f4,f5⟩:=Qk HL11.o.cur; clear hM6 ho6 hb11)
         all_goals
          go_wp2_with fail
          go_roundg (2*g+m4.toNat)
          case rel=>exact ⟨A9,n9,cp9,q.1,A6,n6,c6,opT s.op::(x5++xq),opT s.op::(z5++q.2),m4,g,rfl,rfl,HL11.o.set HT9.o HM6.o.1 (fun b hb=>by have h1:=HM6.o.2 b hb; have h2:=HLD.o.top; omega) (by have:=HL5.o.few; have:=HX9.o.2; have:=HQ.o; simp only [List.length_cons,List.length_append]; omega),HQ.o.2.1,HQ.o.2.2.1,by have:=HOK.o.2.2.1; omega,by have:=HQ.o; have:=HOK.o.2.2.2.1; omega,fun h=>by rw [HOK.o.2.2.2.2 (HQ.o.2.2.2.2.2.1 h),HX9.o.1 h],fun h=>by rw [H4.o] at h; exact QgM (by simpa using h) HQ.o.1 HM.o.1,fun h=>by rw [H4.o] at h; exact QgG (by simpa using h) HQ.o.1 HM.o.1,rfl⟩
          case measure=>have h1:=HGG.o; have h2:=m4.toNat_le; simp at h1; omega
 ·have e33:(k == 3) = false:=by simpa using e3
  have e77:(k==7)=false:=by simpa using e7
  clear e3 e7 HIS;go_enter Tryz.func168,Tryz.ntmps168;go_wp2_with (go_at_call 168; (with_reducible refine (HN.o _ HS1.o.w0).mono ?_));rintro e y3 ⟨A3,n3,cp3,Av,nv,cv,x,rfl,hT3,hM3,ho3,hx3,hl3,hb3⟩;have HS3:=qh (HS1.o.on hb3);have ho3':∀ b,(Value.slice Av nv cv).ownBlock=some b->w.heap.size+1<b:=fun b hb=>by have h1:=ho3 b hb; have h2:=HS1.o.top; omega
  have HL3:=qh (And.intro hT3 (And.intro hM3 (And.intro ho3' (And.intro hx3 hl3))));clear hT3 hM3 ho3 ho3' hx3 hl3 hb3 c0 c1 c2 c3 c4 c5;obtain ⟨c0,c1,c2,c3,c4,c5⟩:=Qc HS3.o.cur;obtain ⟨f0,f1,f2,f3,f4,f5⟩:=Qk HS3.o.cur;go_wp2_with (go_at_call 148; go_fit (Qap k _));rintro e y4 ⟨vs1,vs2,rfl,hr1,hr2,o1,o2,hb4⟩;have hLp:=QcU HS3.o HWW.o HL3.o.1 HL3.o.2.1 HL3.o.2.2.1 HL3.o.2.2.2.2 rfl hb4 hr1 hr2 o1 o2;obtain ⟨As1,ns1,cs1,rfl,-⟩:=hr1;obtain ⟨As2,ns2,cs2,rfl,-⟩:=hr2;have HL:=qh hLp;clear hLp o1 o2 hb4 c0 c1 c2 c3 c4 c5 f0 f1 f2 f3 f4 f5;go_wp2_with fail
  go_loopg [10,13] (2*F+1) (fun G v m wr=>LvRel W0 w c k (.slice As1 ns1 cs1) (.slice As2 ns2 cs2) F P G v m wr)
  case atStart=>exact ⟨A3,n3,cp3,p.1,Av,nv,cv,x,p.2,true,F,rfl,rfl,HL.o,HIN.o.2.2.1,HIN.o.2.2.2.1,Nat.le_refl _,HIN.o.2.2.2.2,HL3.o.2.2.2.1,fun _=>⟨HIN.o.1,HIN.o.2.1⟩,(fun h=>by cases h),rfl⟩
  case round =>
   obtain ⟨A5,n5,cp5,d,Av5,nv5,cv5,x5,z5,more,g,rfl,rfl,hL,okd,fd,hle,hln,hxy,hmt,hmf,hG⟩:=hrel;have HL5:=qh hL;have HOK:=qh (And.intro okd (And.intro fd (And.intro hle (And.intro hln hxy))));have HGG:=qh hG;obtain ⟨b0,b1,b2,b3,b4,b5⟩:=Qc hL.cur;clear okd fd hle hln hxy hG
   by_cases hend:more=false\/d.bad≠0
   ·have HP:Hid (P = (d,z5)):=qh (by
     cases hm:more with
     | false => exact hmf hm
     | true =>
       rcases hend with h | h
       ·rw [hm] at h; cases h
       ·rw [<- (hmt hm).1,QY g z5 (Jp _ _ h)])
    have hcase:more = false \/ (more = true /\ (d.bad == 0) = false):=by
     cases hm:more with
     | false => exact .inl rfl
     | true => exact .inr ⟨rfl,by rcases hend with h | h; · rw [hm] at h; cases h
                                  ·simpa using h⟩
    have HRS:=qh hL.res;obtain ⟨r0,r1,r2,r3,r4,r5⟩:=Qc hL.res;obtain ⟨f0,f1,f2,f3,f4,f5⟩:=Qk hL.res;clear hend hmt hmf hL
    rcases hcase with rfl | ⟨rfl,ed⟩
    all_goals
     go_wp2_with fail;obtain ⟨q0,q1,q2,q3,q4,q5⟩:=Qq (QD HRS.o (n:=6) rfl) (.slice A5 n5 cp5) (.int .i64 d.w1) (.int .i64 d.w2) (.int .i64 d.a1) (.int .i64 d.a2) (.int .i64 d.bad);refine bodyPost_ret (v:=.tuple #[.agg #[.slice A5 n5 cp5,.int .i64 d.w1,.int .i64 d.w2,.int .i64 d.a1,.int .i64 d.a2,.int .i64 d.bad],.slice Av5 nv5 cv5]) (by simp [results,Tryz.results168,go_sem,q0,q1,q2,q3,q4,q5]) rfl ?_;exact HL5.o.ret (by rw [HP.o]) (fun h=>by rw [HP.o]; exact HOK.o.2.2.2.2 h)
   ·have hm:more = true:=by cases more with
     | false => exact absurd (.inl rfl) hend
     | true => rfl
    have hd:d.bad=0:=Classical.byContradiction fun h=>hend (.inr h)
    subst hm;have HM:=qh (hmt rfl);have ed:(d.bad==0)=true:=by simpa using hd
    have HNX:=qh (Q4 d A5 n5 cp5 wr (hL.toks.keep hL.now));have HON:=qh (fun W hW=>Ji d A5 n5 cp5 W0 W hL.toks hW);have hps:=fun s (hs:sgn d (first k) k=some s)=>QbO HM.o.2 hs
    have hpn:=fun (hs:sgn d (first k) k=none)=>QbH hs
    obtain ⟨t,ht⟩:∃ t,t=next d:=⟨_,rfl⟩;rw [<- ht] at HNX hps hpn;have HTK:=qh ht;have HD:=qh hd;clear hend hmt hmf hL hd ht
    cases hs:sgn d (first k) k with
    | none =>
      have HST:=qh (QY g z5 hs);have hpn':=hpn hs;clear hps hpn hs
      by_cases hi:idxOfS (sigT k) t.t = -1
      ·have HPL:Hid (∀ W,Rd W (.slice As1 ns1 cs1) (strV (sigT k)) -> Calls Tryz.prog 141 #[.slice As1 ns1 cs1,.string t.t] W fun e w' => e = .returned (.int .i64 (-1)) /\ W = w'):=qh (fun W h => by rw [<- hi]; exact Jd _ _ _ W h (JU k))
       clear hi hpn';go_wp2_with (go_at_call 104; go_fit HNX.o);rintro e y6 ⟨rfl,hb6⟩;have HL7:=qh ((HL5.o.on hb6).alloc (tkO t));obtain ⟨t0,t1,t2,t3⟩:=Qi (heap_alloc_new y6 (tkO t));clear hb6 b0 b1 b2 b3 b4 b5;go_wp2_with (go_at_call 141; go_fit (HPL.o _ HL7.o.s1); rintro e w' ⟨rfl,rfl⟩)
       go_roundg (2*g)
       case rel=>exact ⟨A5,n5,cp5,d,Av5,nv5,cv5,x5,z5,false,g,rfl,rfl,HL7.o,HOK.o.1,HOK.o.2.1,HOK.o.2.2.1,HOK.o.2.2.2.1,HOK.o.2.2.2.2,(fun h=>by cases h),(fun _=>by rw [<- HM.o.1,HST.o]),by simp⟩
       case measure=>have:=HGG.o; simp at this; omega
      ·obtain ⟨i,hii⟩:∃ i,i = idxOfS (sigT k) t.t:=⟨_,rfl⟩
       have HPL:Hid (∀ W,Rd W (.slice As1 ns1 cs1) (strV (sigT k))->Calls Tryz.prog 141 #[.slice As1 ns1 cs1,.string t.t] W fun e w'=>e = .returned (.int .i64 i)/\W=w'):=qh (fun W h=>by rw [hii]; exact Jd _ _ _ W h (JU k));have e3':(t.k==3)=false:=by simpa using (hpn'.resolve_left hi).1
       have e1':(t.k==1)=false:=by simpa using (hpn'.resolve_left hi).2
       clear hi hpn' hii
       by_cases h0i:0<=i
       all_goals
        have hi0:decide (0<=i)=decide (0<=i):=rfl;go_wp2_with (go_at_call 104; go_fit HNX.o);rintro e y6 ⟨rfl,hb6⟩;have HL7:=qh ((HL5.o.on hb6).alloc (tkO t));obtain ⟨t0,t1,t2,t3⟩:=Qi (heap_alloc_new y6 (tkO t));clear hb6 b0 b1 b2 b3 b4 b5 hi0;go_wp2_with (go_at_call 141; go_fit (HPL.o _ HL7.o.s1); rintro e w' ⟨rfl,rfl⟩)
        go_roundg (2*g)
        case rel=>exact ⟨A5,n5,cp5,d,Av5,nv5,cv5,x5,z5,false,g,rfl,rfl,HL7.o,HOK.o.1,HOK.o.2.1,HOK.o.2.2.1,HOK.o.2.2.2.1,HOK.o.2.2.2.2,(fun h=>by cases h),(fun _=>by rw [<- HM.o.1,HST.o]),by simp⟩
        case measure=>have:=HGG.o; simp at this; omega
    | some s =>
      obtain ⟨hlev,hright,hk6,j,hj,hop⟩:=hps s hs;have hkd:t.k=3\/t.k=1:=by rw [HTK.o]; exact (QZ hs).2.1
      cases g with
      | zero => exact absurd HD.o (HOK.o.2.1).zero
      | succ g =>
        have HST:=qh (J2 g z5 hs);have hfo:=HOK.o.2.1.fitOn hs;have hrl:=Qab hs;obtain ⟨d1,hd1⟩:∃ d1,d1=on d:=⟨_,rfl⟩;obtain ⟨q,hq⟩:∃ q,q=S g d1 (k+1):=⟨_,rfl⟩
        have HQ:Hid (C (g + 1) (first k) k d z5 = C g k k q.1 (opT s.op :: (z5 ++ q.2)) /\ Ok q.1 /\ Fit g q.1 /\ q.1.L.length <= d1.L.length /\ d1.L.length + 1 = d.L.length /\ (q.1.bad = 0 -> d.bad = 0) /\ g < F):=qh (by
         have:=HOK.o.2.2.1;refine ⟨?_,by rw [hq,hd1]; exact ok_S g _ HOK.o.1.on,by rw [hq,hd1]; exact QeZ hfo _,by rw [hq]; exact (Q5 g d1 _).1,by rw [hd1]; exact hrl.2.1,fun _=>HD.o,by omega⟩;rw [HST.o,hq,hd1,hlev,hright])
        have HLV:=qh (fun A n cp W hT hW=>HIH.o g HQ.o.2.2.2.2.2.2 (k+1) (by have:=HK.o; omega) (by omega) d1 A n cp W0 W hT hW (by rw [hd1]; exact HOK.o.1.on) (by rw [hd1]; exact hfo) (by have:=HQ.o; have:=HOK.o.2.2.2.1; omega));rw [<- hq] at HLV;rw [<- hd1] at HON;have HPL:Hid (∀ W,Rd W (.slice As1 ns1 cs1) (strV (sigT k))->Calls Tryz.prog 141 #[.slice As1 ns1 cs1,.string t.t] W fun e w'=>e = .returned (.int .i64 (j:Int))/\W=w'):=qh (fun W h=>by rw [<- hj]; exact Jd _ _ _ W h (JU k));have HOP:=qh hop;obtain ⟨m4,h4⟩:∃ m4,m4=(k != 4):=⟨_,rfl⟩;have e4:(k != 4)=m4:=h4.symm;have H4:=qh h4
        have hkk2:((t.k == 3) = true) \/ ((t.k == 3) = false /\ (t.k == 1) = true):=by
         rcases hkd with h | h
         ·exact .inl (by simpa using h)
         ·exact .inr ⟨by simp; omega,by simpa using h⟩
        clear hps hpn hs hlev hright hk6 hj hop hkd hfo hrl hd1 hq h4
        rcases hkk2 with ek | ⟨ek,ek1⟩
        all_goals
         go_wp2_with (go_at_call 104; go_fit HNX.o);rintro e y6 ⟨rfl,hb6⟩;have HL7:=qh ((HL5.o.on hb6).alloc (tkO t));obtain ⟨t0,t1,t2,t3⟩:=Qi (heap_alloc_new y6 (tkO t));clear hb6 b0 b1 b2 b3 b4 b5;obtain ⟨b0,b1,b2,b3,b4,b5⟩:=Qc HL7.o.cur
         go_wp2_with (first
          | (go_at_call 141; go_fit (HPL.o _ HL7.o.s1); rintro e w' ⟨rfl,rfl⟩)
          | (go_at_call 63; go_fit (HON.o _ HL7.o.now)))
         rintro e y8 ⟨A8,n8,cp8,rfl,hT8,hb8⟩;have HT8:=qh hT8;have HL8:=qh (HL7.o.on hb8);clear hT8 hb8 t0 t1 t2 t3 b0 b1 b2 b3 b4 b5;go_wp2_with (go_at_call 168; go_fit (HLV.o _ _ _ _ HT8.o HL8.o.now));rintro e y9 ⟨A9,n9,cp9,Aq,nq,cq,xq,rfl,hT9,hM9,ho9,hx9,hl9,hb9⟩;have HL9:=qh (HL8.o.on hb9);have HT9:=qh hT9;have HX9:=qh (And.intro hx9 hl9);have HLD:=qh ((HL9.o.alloc (rcO A9 n9 cp9 q.1)).on (Below.refl _ _).drew);have HOV:=qh (ZG s.op (.slice Av5 nv5 cv5) (.slice Aq nq cq) x5 xq (y9.alloc (rcO A9 n9 cp9 q.1)).drew HLD.o.tms (hM9.alloc _) (by have:=HL5.o.few; have:=HLEN.o; omega) (by have:=hl9; have:=HQ.o; have:=HOK.o.2.2.2.1; omega));have k16:(y9.alloc (rcO A9 n9 cp9 q.1)).heap[y9.heap.size]?=some (rcO A9 n9 cp9 q.1):=heap_alloc_new _ _;have HK16:=qh k16;obtain ⟨m0,m1,m2,m3,m4',m5⟩:=Qc k16;obtain ⟨bs,off,hjn,hel⟩:=Qeu HLD.o.s2 HOP.o;obtain ⟨hAs,hcell⟩:=hel;subst hAs;have hjI:(j:Int)<(ns2:Int):=by omega
         have hj0:(0:Int)<=(j:Int):=by omega
         have hcell':(y9.alloc (rcO A9 n9 cp9 q.1)).cell? ⟨bs,off+j,none⟩=some (.int .i64 s.op):=hcell;clear hT9 hM9 ho9 hx9 hl9 hb9 k16 hcell;go_wp2_with fail;go_region_law (go_simp; go_at_call 179; go_fit HOV.o; rintro e y11 ⟨A6,n6,c6,rfl,hM6,ho6,hb11⟩; have HM6:=qh (And.intro hM6 ho6); have HL11:=qh (HLD.o.on hb11); obtain ⟨a0,a1,a2,a3,a4,a5⟩:=Qc (Qe HK16.o (undrew hb11)); obtain ⟨r0,r1,r2,r3,r4,r5⟩:=Qc HL11.o.cur; obtain ⟨f0,f1,f2,f3,f4,f5⟩:=Qk HL11.o.cur; clear hM6 ho6 hb11)
         all_goals
          go_wp2_with fail
          go_roundg (2*g+m4.toNat)
          case rel=>exact ⟨A9,n9,cp9,q.1,A6,n6,c6,opT s.op::(x5++xq),opT s.op::(z5++q.2),m4,g,rfl,rfl,HL11.o.set HT9.o HM6.o.1 (fun b hb=>by have h1:=HM6.o.2 b hb; have h2:=HLD.o.top; omega) (by have:=HL5.o.few; have:=HX9.o.2; have:=HQ.o; simp only [List.length_cons,List.length_append]; omega),HQ.o.2.1,HQ.o.2.2.1,by have:=HOK.o.2.2.1; omega,by have:=HQ.o; have:=HOK.o.2.2.2.1; omega,fun h=>by rw [HOK.o.2.2.2.2 (HQ.o.2.2.2.2.2.1 h),HX9.o.1 h],fun h=>by rw [H4.o] at h; exact QgM (by simpa using h) HQ.o.1 HM.o.1,fun h=>by rw [H4.o] at h; exact QgG (by simpa using h) HQ.o.1 HM.o.1,rfl⟩
          case measure=>have h1:=HGG.o; have h2:=m4.toNat_le; simp at h1; omega
end
section
open Go.RowKit CurSpec TermSpec ExprSpec NamesSpec
set_option maxRecDepth 100000
theorem atom_say (f:Nat) (c:Cur) (hL:LevAt f 1) (ok:Ok c) (h0:c.bad = 0) (hf:Fit (f + 1) c) (hlen:c.L.length <= 100000):AtOk f c:=by
 have hfo:∀ {k:Int} {s:ByteArray},isB c k s = true -> k ≠ 0 -> Fit f (on c):=fun hb hk _ => by
  have:=Qv hb hk;have:=hf h0;omega
 by_cases h2:(next c).k=2
 ·exact atom_num f c ok h2
 by_cases ho:isB c 3 tOpen=true
 ·exact atom_open f c hL ok (hfo ho (by decide)) hlen ho
 have hno:isB c 3 tOpen=false:=by simpa using ho
 by_cases h1:(next c).k=1
 ·by_cases w0:isB c 1 tTrue = true
  ·exact atom_w0 f c w0 h2 hno
  by_cases w1:isB c 1 tFalse=true
  ·exact atom_w1 f c w1 h2 hno
  by_cases w2:isB c 1 tIn=true
  ·exact atom_in f c ok w2 h2 hno
  by_cases w3:isB c 1 tMin=true
  ·exact atom_w3 f c hL ok (hfo w3 (by decide)) hlen w3 h2 hno
  by_cases w4:isB c 1 tMax=true
  ·exact atom_w4 f c hL ok (hfo w4 (by decide)) hlen w4 h2 hno
  cases hnm:NamesSpec.isName (next c).t.data.toList with
  | true => exact atom_name f c ok h1 ⟨w0,w1,w2,w3,w4⟩ hnm h2 hno
  | false => exact atom_none f c ok h1 ⟨w0,w1,w2,w3,w4⟩ hnm h2 hno
 ·exact atom_bad f c h1 h2 hno
theorem lev_all:∀ F,LevOk F:=by
 intro F
 induction F using Nat.strongRecOn with
 | ind F ih =>
   intro k hk1 hk7 d A n cp W0 W hT hW ok hf hlen
   by_cases h0:d.bad=0
   ·cases F with
    | zero => exact absurd h0 hf.zero
    | succ f =>
      have key:∀ (j:Nat) (k:Int),k = 8 - (j:Int) -> 1 <= k -> (k = 8 -> isB d 3 tNeg = false) -> ∀ W,Below W0.heap.size W0 W ->
       Calls Tryz.prog 168 #[.agg #[.slice A n cp,.int .i64 d.w1,.int .i64 d.w2,.int .i64 d.a1,.int .i64 d.a2,.int .i64 d.bad],.int .i64 k] W (RetLev W0 W d (S (f+1) d k)):=by
       intro j
       induction j with
       | zero =>
         intro k hk _ hneg W hW;obtain rfl:k=8:=by omega
         exact lev_8 f d h0 (hneg rfl) A n cp W0 W hT hW (fun W hW=>atom_say f d (ih f (by omega) 1 (by decide) (by decide)) ok h0 hf hlen A n cp W0 W hT hW)
       | succ j jh =>
         intro k hk h1 _ W hW
         by_cases h3:k=3/\isB d 1 tNot=true
         ·obtain ⟨rfl,hb⟩:=h3
          exact lev_not f d (ih f (by omega) 3 (by decide) (by decide)) ok (fun _=>by have:=Qv hb (by decide); have:=hf h0; omega) hlen hb A n cp W0 W hT hW
         by_cases hn:k=7/\isB d 3 tNeg=true
         ·obtain ⟨rfl,hb⟩:=hn
          exact lev_neg f d (ih f (by omega) 7 (by decide) (by decide)) ok (fun _=>by have:=Qv hb (by decide); have:=hf h0; omega) hlen hb A n cp W0 W hT hW
         exact lev_step (f+1) d k h1 (by omega) h0 h3 hn (fun g hg=>ih g hg) ok hf hlen A n cp W0 W hT hW (fun W hW=>jh (k+1) (by omega) (by omega) (fun h8=>by simpa using fun hb=>hn ⟨by omega,hb⟩) W hW)
      exact key (8-k).toNat k (by omega) hk1 (fun h=>by omega) W hW
   ·rw [Z5 F k h0]
    exact lev_dead d h0 k A n cp W0 W hT
end
end Go.Proofs.YtbdalbpackfejaaGreatDoor
