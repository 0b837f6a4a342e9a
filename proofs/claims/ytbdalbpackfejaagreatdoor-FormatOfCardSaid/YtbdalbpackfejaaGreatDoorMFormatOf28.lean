/- FormActs, FormTrans, FormState, joined. -/
import Derived.Test.YtbdalbpackfejaaGreatDoorMFormatOf25
import Derived.Test.YtbdalbpackfejaaGreatDoorMFormatOf27
import Derived.Test.YtbdalbpackfejaaGreatDoorMFormatOf14
set_option maxHeartbeats 16000000
set_option maxRecDepth 100000
namespace Go.Proofs.YtbdalbpackfejaaGreatDoor
section
open Go.RowKit CurSpec TermSpec EvalSpec ActSpec NamesSpec ExprSpec TransSpec SynSpec
set_option maxRecDepth 100000
theorem rb_act (w:World):(Instr.build 126 #[]).run Tryz.prog w = .ok (.agg #[.string ⟨#[]⟩,.bool false,.slice none 0 0]) w:=run_build w 126 _ _ (by kernel_rfl)
structure ActStep (d:Cur) (out:List Ac) (F:Cur × List Ac) (a:Ac) (d3:Cur) (bm:Bool):Prop where
 ok:Ok d3
 len:d3.L.length<=d.L.length
 more:bm=true->d3.L.length+1<=d.L.length/\out.length+1<=8/\allR d3 (out++[a])=F
 done:bm=false->F=(d3,out++[a])
theorem act_step {d:Cur} {out:List Ac} {F:Cur × List Ac} {c2:Cur} {a:Ac} (hok:Ok d) (h8:out.length <= 8) (hF:allR d out = F) (hone:(c2,a) = oneR (fullR d out)):ActStep d out F a (take c2 3 wCom) (isB c2 3 wCom):=by
 have hs:stepR d out=(c2,out++[a]):=by unfold stepR; rw [<- hone]
 have h1:=ZN d out;have h2:=Qco out hok;have h3:=QcE d out;rw [hs] at h1 h2 h3;dsimp only at h1 h2 h3
 by_cases hb:isB c2 3 wCom=true
 ·have hr:=Qv hb (by decide)
  have hT:take c2 3 wCom=on c2:=by unfold take; rw [if_pos hb]
  refine ⟨h2.take _ _,by rw [hT]; omega,fun _=>⟨by rw [hT]; omega,?_,?_⟩,fun h=>by rw [hb] at h; cases h⟩
  ·rcases Nat.lt_or_ge out.length 8 with h | h
   ·omega
   ·exact absurd hr.1 (h1.2.2.1 (by omega))
  ·rw [hT,<- hF,h3]
   unfold tailR;rw [if_pos hb]
 ·have hT:take c2 3 wCom = c2:=by unfold take; rw [if_neg hb]
  exact ⟨h2.take _ _,by rw [hT]; exact h1.1,fun h=>absurd h hb,fun _=>by rw [hT,<- hF,h3,QhV hb]⟩
def acN (p:AP) (w:World):Prop:=Tms w (.slice p.xA p.xn p.xc) p.a.x
abbrev RowAc (N:Nat) (wr:World) (pv:Value) (ps:List AP):Prop:=RowC 126 3 acV acN N wr pv ps
abbrev VA (W0 w x:World) (V:Nat) (A:Option Addr) (n cp:Nat) (c:Cur) (cs:Array Value) (pv:Value) (ps:List AP):Prop:=VB 126 3 acV acN 126 W0 w x V A n cp c cs pv ps
def RaRel (W0 w:World) (F:Cur × List Ac) (gh:Nat) (out more:Value) (wr:World):Prop :=
 ∃ (c:Cur) (ps:List AP) (A:Option Addr) (n cp:Nat) (b:Bool),more = .bool b /\ CB W0 w wr none w.heap.size A n cp c /\ Ok c /\ c.L.length <= 100000 /\ RowAc (w.heap.size + 2) wr out ps /\
   (b=true->ps.length<=8/\allR c (ps.map (·.a))=F/\c.L.length<gh)/\(b=false->F=(c,ps.map (·.a)))
def RaD (W0 w:World) (D:Cur) (pv:Value) (ps:List AP) (wx:World):Prop:=∃ A n cp,CB W0 w wx none w.heap.size A n cp D/\RowAc (w.heap.size+2) wx pv ps
def RaA (W0 w:World) (V:Nat) (c2:Cur) (a:Ac) (pv:Value) (ps:List AP) (wx:World):Prop :=
 ∃ A n cp xA xn xc,VA W0 w wx V A n cp c2 #[.string a.s,.bool a.any,.slice xA xn xc] pv ps/\Dep wx (fun b=>V<b) (fun y=>Tms y (.slice xA xn xc) a.x)
theorem QfH (c:Cur) (A:Option Addr) (n cp:Nat) (W0 w:World) (ok:Ok c) (hlen:c.L.length <= 100000) (hT:Toks W0 (.slice A n cp) c.L) (hW:Below W0.heap.size W0 w) :
 Calls Tryz.prog 144 #[.agg #[.slice A n cp,.int .i64 c.w1,.int .i64 c.w2,.int .i64 c.a1,.int .i64 c.a2,.int .i64 c.bad]] w (RetLs (fun x v=>Acs x v (readA c).2) W0 w (readA c).1):=by
 have b0:=rb_act;obtain ⟨i0,hi,hz0,hz1,hz2⟩:=info_parts inf_act;have HI:=qh (And.intro hi (And.intro hz0 (And.intro hz1 hz2)));have H0:=qh (CB.start hT hW);obtain ⟨F,hF⟩:∃ F,F=allR c []:=⟨_,rfl⟩;have HR:Hid (readA c=if F.1.bad=0 then F else (F.1,[])):=qh (by rw [hF]; rfl);obtain ⟨R,hR⟩:∃ R,R=readA c:=⟨_,rfl⟩;rw [<- hR] at HR ⊢
 have HST:Hid (RaRel W0 w F (c.L.length + 1) (.slice (some ⟨w.heap.size + 2,0,none⟩) 0 0) (.bool true) (((w.alloc (rcO A n cp c)).alloc rcZ).alloc (.cells #[] 126))):=Lib.hid
  ⟨c,[],A,n,cp,true,rfl,H0.o.alloc _,ok,hlen,by have:=RowC.lit0 (T:=126) (k:=3) (cv:=acV) (nest:=acN) (N:=w.heap.size+2) (wr:=(w.alloc (rcO A n cp c)).alloc rcZ) (by simp); simpa using this,fun _=>⟨by simp,hF.symm,Nat.lt_succ_self _⟩,fun h=>by cases h⟩
 clear hi hz0 hz1 hz2 hF hR ok hlen hT hW;go_enter Tryz.func144,Tryz.ntmps144;go_wp2_with fail
 go_loopg [4,5,6,7,8] (c.L.length+1) (fun gh out more _ _ _ wr=>RaRel W0 w F gh out more wr)
 case atStart=>exact HST.o
 case round =>
  obtain ⟨t,ps,A4,n4,p4,b,rfl,hcb,hok,hln,hrow,htr,hfa⟩:=hrel;have HC:=qh hcb;have HRW:=qh hrow;obtain ⟨pA,pc,rfl⟩:=hrow.shape;obtain ⟨k,hk⟩:∃ k,k=ps.length:=⟨_,rfl⟩;rw [<- hk];rw [<- hk] at HRW;have HK:=qh hk;obtain ⟨c0,c1,c2,c3,c4,c5⟩:=Qc hcb.cur
  rcases b with _ | _
  ·have HF:=qh (hfa rfl)
   obtain ⟨⟨r0,r1,r2,r3,r4,r5⟩,g0,g1,g2,g3,g4,g5⟩:=And.intro (Qc hcb.res) (Qk hcb.res);obtain ⟨q0,q1,q2,q3,q4,q5⟩:=Jt HC.o.res A4 n4 p4 t;clear hcb hok hln hrow htr hfa hk
   by_cases h0:t.bad=0
   ·have g:(t.bad != 0) = false:=by simp [h0]
    have HR2:Hid (R=(t,ps.map (·.a))):=qh (by rw [HR.o,HF.o,if_pos h0]);clear h0;go_wp2_with fail;refine bodyPost_ret (v:=.tuple #[.agg #[.slice A4 n4 p4,.int .i64 t.w1,.int .i64 t.w2,.int .i64 t.a1,.int .i64 t.a2,.int .i64 t.bad],.slice pA k pc]) (by simp [results,Tryz.results144,go_sem,q0,q1,q2,q3,q4,q5]) rfl ?_;rw [HR2.o];exact ⟨A4,n4,p4,_,_,_,rfl,HC.o.toks,((HRW.o.low (Qw wr (w.heap.size+1) A4 n4 p4 t) (by intro j e; cases e; omega)).far.mono fun b _ hb=>by omega).imp fun x hx=>⟨ps,rfl,by rw [List.length_map]; exact hx.1,hx.2⟩,HC.o.done _ _ _ _⟩
   ·have g:(t.bad != 0) = true:=by simp [h0]
    have HR2:Hid (R=(t,[])):=qh (by rw [HR.o,HF.o,if_neg h0]);clear h0;go_wp2_with fail;refine bodyPost_ret (v:=.tuple #[.agg #[.slice A4 n4 p4,.int .i64 t.w1,.int .i64 t.w2,.int .i64 t.a1,.int .i64 t.a2,.int .i64 t.bad],.slice none 0 0]) (by simp [results,Tryz.results144,go_sem,q0,q1,q2,q3,q4,q5]) rfl ?_;rw [HR2.o];exact ⟨A4,n4,p4,none,0,0,rfl,HC.o.toks,Dep.triv fun x=>ZT x,HC.o.done _ _ _ _⟩
  ·obtain ⟨h8,hlo,hgh⟩:=htr rfl
   have HGH:=qh hgh;have HLN:=qh hln;have hkI:(k:Int)<=8:=by omega
   have HSI:=qh (fun c2 a hone=>act_step (c2:=c2) (a:=a) hok (by rw [List.length_map]; exact h8) hlo hone);have hfu:fullR t (ps.map (·.a))=if k=8 then fail t 8 else t:=by unfold fullR; rw [List.length_map,hk]
   have hokD:=QeT (ps.map (·.a)) hok;have hlnD:=Nat.le_trans (QhX t (ps.map (·.a))).1 hln;obtain ⟨D,hD⟩:∃ D,D=fullR t (ps.map (·.a)):=⟨_,rfl⟩;rw [<- hD] at HSI hfu hokD hlnD;have HFU:=qh hfu;have HFA:=qh (fun A n cp W hT hW=>Jw t 8 A n cp W0 W hT hW);have HTK:=qh (fun A n cp W hT hW=>Jf D 1 wAny A n cp W0 W hT hW);obtain ⟨q,hq⟩:∃ q,q=isB D 1 wAny:=⟨_,rfl⟩;obtain ⟨d0,hd0⟩:∃ d0,d0=take D 1 wAny:=⟨_,rfl⟩;have hok0:Ok d0:=hd0 ▸ hokD.take 1 wAny;rw [<- hq,<- hd0] at HTK;have HN0:=qh (fun A n cp W hT hW=>JZ d0 hok0 A n cp W0 W hT hW);have HN1:=qh (fun A n cp W hT hW=>JZ D hokD A n cp W0 W hT hW);have HMK:=qh (fun A n cp W hT hW=>QS (nameC D) wSet A n cp W0 W hT hW);have HRD:=qh (fun A n cp W hT hW=>Qif ((want (nameC D) 3 wSet).L.length+1) (want (nameC D) 3 wSet) (lev_all _ 1 (by decide) (by decide)) (hokD.nameC.want 3 wSet) (Qcq _) (Nat.le_trans (ZW (nameC D) 3 wSet).1 (Nat.le_trans (ZF D).1 hlnD)) A n cp W0 W hT hW)
   have HONE:Hid (oneR D = if q = true then (nameC d0,⟨nameS d0,true,[]⟩) else ((rdE (want (nameC D) 3 wSet)).1,⟨nameS D,false,(rdE (want (nameC D) 3 wSet)).2⟩)):=qh (by
    unfold oneR;rw [<- hq]
    cases q with
    | true => rw [if_pos rfl,if_pos rfl,hd0,show take D 1 wAny = on D by unfold take; rw [if_pos hq.symm]]
    | false => rw [if_neg (by decide),if_neg (by decide)])
   obtain ⟨⟨e2,ac⟩,hone⟩:∃ r,r=oneR D:=⟨_,rfl⟩;have HST2:=qh (HSI.o e2 ac hone);rw [<- hone] at HONE;have HTC:=qh (fun A n cp W hT hW=>Jf e2 3 wCom A n cp W0 W hT hW);obtain ⟨d3,hd3⟩:∃ d3,d3=take e2 3 wCom:=⟨_,rfl⟩;obtain ⟨bm,hbm⟩:∃ bm,bm=isB e2 3 wCom:=⟨_,rfl⟩;rw [<- hd3,<- hbm] at HTC HST2;have HD3:=qh hd3;have HL1:Hid (ps.length+1<=maxLen):=qh (by unfold maxLen; omega);have HL2:Hid ((ps.length+1)*48<=140737488355328):=qh (by omega);clear hcb hok hln hrow htr hfa h8 hlo hgh HSI hfu hokD hlnD hD hq hd0 hok0 hone hd3 hbm hk;go_upto_if 13 with fail
   go_cut [] from 10 to 52 (fun wx=>RaD W0 w D (.slice pA k pc) ps wx)
   case first =>
    by_cases h8e:k=8
    ·have g1:((k:Int) == 8) = true:=by simp; omega
     have HE:=HFU.o;rw [if_pos h8e] at HE;have HE:=qh HE;clear h8e;go_wp2_with (go_at_call 64; go_fit (HFA.o _ _ _ _ HC.o.toks HC.o.now));rintro e y1 ⟨A5,n5,p5,rfl,hT,hb⟩;obtain ⟨⟨z0,z1,z2,z3,z4,z5⟩,f0,f1,f2,f3,f4,f5⟩:=And.intro (Qc (HC.o.on hb).cur) (Qk (HC.o.on hb).cur);have H5:=qh ((HC.o.on hb).set hT);have HR5:=qh ((HRW.o.keep hb).low (Qw y1 w.heap.size A5 n5 p5 (fail t 8)) (by intro j e; cases e; omega));clear hT hb;go_wp2_with fail;go_meet;exact ⟨A5,n5,p5,by rw [HE.o]; exact H5.o,by rw [HE.o] at *; exact HR5.o⟩
    ·have g1:((k:Int) == 8) = false:=by simp; omega
     have HE:=HFU.o;rw [if_neg h8e] at HE;have HE:=qh HE;clear h8e;go_wp2_with fail;go_meet;exact ⟨A4,n4,p4,by rw [HE.o]; exact HC.o,HRW.o⟩
   case rest =>
    obtain ⟨A5,n5,p5,hc5,hr5⟩:=hcut;obtain ⟨W5,hW5⟩:∃ W5,W5=wc:=⟨_,rfl⟩;subst hW5;have H5:=qh (VB.start (Tb:=126) hc5 hr5 #[.string ⟨#[]⟩,.bool false,.slice none 0 0]);have HV5:=qh hc5.lt;clear hc5 hr5 c0 c1 c2 c3 c4 c5 HC HRW HFA HFU;obtain ⟨c0,c1,c2,c3,c4,c5⟩:=Qc H5.o.cb.cur;go_wp2_with (go_at_call 107; go_fit (HTK.o _ _ _ _ H5.o.cb.toks H5.o.cb.now));rintro e y1 ⟨A6,n6,p6,rfl,hT,hb⟩;have HT6:=qh hT;have H6:=qh ((H5.o.on hb).on (KitC.Qh y1 (rcO A6 n6 p6 d0)));have hlt:=(Array.getElem?_eq_some_iff.1 (H5.o.on hb).bx).1;have n1:¬ y1.heap.size=W5.heap.size:=by omega
    have n2:¬ W5.heap.size=y1.heap.size:=by omega
    have n3:¬ W5.heap.size=w.heap.size:=by have:=HV5.o; omega
    have n4:¬ w.heap.size=W5.heap.size:=by have:=HV5.o; omega
    clear hT hb hlt c0 c1 c2 c3 c4 c5;obtain ⟨c0,c1,c2,c3,c4,c5⟩:=Qc H6.o.cb.cur;obtain ⟨v0,v1,v2⟩:=Qj (show (y1.alloc (rcO A6 n6 p6 d0)).heap[W5.heap.size]?=some (.cells #[.string ⟨#[]⟩,.bool false,.slice none 0 0] 126 (0,0)) from H6.o.bx);obtain ⟨f0,f1,f2⟩:=JW (show (y1.alloc (rcO A6 n6 p6 d0)).heap[W5.heap.size]?=some (.cells #[.string ⟨#[]⟩,.bool false,.slice none 0 0] 126 (0,0)) from H6.o.bx);obtain ⟨k0,k1,k2,k3,k4,k5⟩:=Qc (heap_alloc_new y1 (rcO A6 n6 p6 d0));go_upto_if 22 with fail
    go_cut [] from 10 to 52 (fun wx=>RaA W0 w W5.heap.size e2 ac (.slice pA k pc) ps wx)
    case first =>
     rcases q with _ | _
     ·have hE:=HONE.o
      rw [if_neg (by decide),Prod.mk.injEq] at hE;have hr2:readP ((want (nameC D) 3 wSet).L.length+1) (want (nameC D) 3 wSet)=rdE (want (nameC D) 3 wSet):=rfl;rw [hr2] at HRD;obtain ⟨u1,hu1⟩:∃ u,u=nameC D:=⟨_,rfl⟩;obtain ⟨m1,hm1⟩:∃ u,u=nameS D:=⟨_,rfl⟩;obtain ⟨u2,hu2⟩:∃ u,u=want (nameC D) 3 wSet:=⟨_,rfl⟩;rw [<- hu2] at hE HMK HRD;rw [<- hu1] at HMK HN1;rw [<- hm1] at hE HN1;obtain ⟨⟨u3,x3⟩,hu3⟩:∃ u,u=rdE u2:=⟨_,rfl⟩;rw [<- hu3] at hE HRD;have HE:=qh hE;clear hE hr2 hu1 hm1 hu2 hu3;go_wp2_with (go_at_call 56; go_fit (HN1.o _ _ _ _ H6.o.cb.toks H6.o.cb.now));rintro e y2 ⟨A7,n7,p7,rfl,hT,hb⟩;clear c0 c1 c2 c3 c4 c5 v0 v1 v2 f0 f1 f2 k0 k1 k2 k3 k4 k5;obtain ⟨⟨z0,z1,z2,z3,z4,z5⟩,f0,f1,f2,f3,f4,f5⟩:=And.intro (Qc (H6.o.on hb).cb.cur) (Qk (H6.o.on hb).cb.cur);have fv:=Qf (H6.o.on hb).bx 0;have fc:=Qb (H6.o.on hb).bx (i:=0) (v:=.string ⟨#[]⟩) rfl;have H7:=qh (((H6.o.on hb).set hT).put 0 (.string m1));clear hT hb;obtain ⟨c0,c1,c2,c3,c4,c5⟩:=Qc H7.o.cb.cur;go_wp2_with (go_at_call 59; go_fit (HMK.o _ _ _ _ H7.o.cb.toks H7.o.cb.now));rintro e y3 ⟨A8,n8,p8,rfl,hT,hb⟩;clear c0 c1 c2 c3 c4 c5 z0 z1 z2 z3 z4 z5 f0 f1 f2 f3 f4 f5 fv fc;obtain ⟨⟨z0,z1,z2,z3,z4,z5⟩,f0,f1,f2,f3,f4,f5⟩:=And.intro (Qc (H7.o.on hb).cb.cur) (Qk (H7.o.on hb).cb.cur);have H8:=qh ((H7.o.on hb).set hT);clear hT hb;obtain ⟨c0,c1,c2,c3,c4,c5⟩:=Qc H8.o.cb.cur;go_wp2_with (go_at_call 145; go_fit (HRD.o _ _ _ _ H8.o.cb.toks H8.o.cb.now));rintro e y4 ⟨A9,n9,p9,xA,xn,xc,rfl,hT,hM,hO,-,hb⟩;clear c0 c1 c2 c3 c4 c5 z0 z1 z2 z3 z4 z5 f0 f1 f2 f3 f4 f5;obtain ⟨⟨z0,z1,z2,z3,z4,z5⟩,f0,f1,f2,f3,f4,f5⟩:=And.intro (Qc (H8.o.on hb).cb.cur) (Qk (H8.o.on hb).cb.cur);have fv:=Qf (H8.o.on hb).bx 2;have fc:=Qb (H8.o.on hb).bx (i:=2) (v:=.slice none 0 0) rfl;have H9:=qh (((H8.o.on hb).set hT).put 2 (.slice xA xn xc));have hd:=(QgB hM hO).mono (S':=fun b=>W5.heap.size<b) fun b _ h=>Nat.lt_of_lt_of_le (Array.getElem?_eq_some_iff.1 H8.o.bx).1 h
      have HD:=qh ((hd.go (Qw y4 w.heap.size A9 n9 p9 u3) fun b hb e=>by cases e; have:=HV5.o.1; omega).go (Ql (Qx _ _) 2 (.slice xA xn xc):(setQ y4 w.heap.size A9 n9 p9 u3).grownBy _ (some W5.heap.size)) fun b hb e=>by cases e; omega);clear hT hM hO hb hd;go_wp2_with fail;go_meet;refine ⟨A9,n9,p9,xA,xn,xc,?_,?_⟩
      ·rw [HE.o.1,HE.o.2]; exact H9.o
      ·rw [HE.o.2]; exact HD.o
     ·have hE:=HONE.o
      rw [if_pos rfl,Prod.mk.injEq] at hE;obtain ⟨u1,hu1⟩:∃ u,u=nameC d0:=⟨_,rfl⟩;obtain ⟨m1,hm1⟩:∃ u,u=nameS d0:=⟨_,rfl⟩;rw [<- hu1,<- hm1] at hE HN0;have HE:=qh hE;have H7:=qh (H6.o.put 1 (.bool true));clear hE hu1 hm1;go_wp2_with (go_at_call 56; go_fit (HN0.o _ _ _ _ HT6.o H7.o.cb.now));rintro e y2 ⟨A7,n7,p7,rfl,hT,hb⟩;clear c0 c1 c2 c3 c4 c5 v0 v1 v2 f0 f1 f2 k0 k1 k2 k3 k4 k5;obtain ⟨⟨z0,z1,z2,z3,z4,z5⟩,f0,f1,f2,f3,f4,f5⟩:=And.intro (Qc (H7.o.on hb).cb.cur) (Qk (H7.o.on hb).cb.cur);have fv:=Qf (H7.o.on hb).bx 0;have fc:=Qb (H7.o.on hb).bx (i:=0) (v:=.string ⟨#[]⟩) rfl;have H8:=qh (((H7.o.on hb).set hT).put 0 (.string m1));clear hT hb;go_wp2_with fail;go_meet;refine ⟨A7,n7,p7,none,0,0,?_,?_⟩
      ·rw [HE.o.1,HE.o.2]; exact H8.o
      ·rw [HE.o.2]; exact Dep.triv fun x=>tmsNil x
    case rest =>
     obtain ⟨A7,n7,p7,xA,xn,xc,hv7,hd7⟩:=hcut;obtain ⟨W7,hW7⟩:∃ W7,W7=wc:=⟨_,rfl⟩;subst hW7;obtain ⟨sn,an,xx⟩:=ac;dsimp only at hv7 hd7;have HBK:=qh hv7.back;have HCB:=qh hv7.cb;have HNW:Hid (w.heap.size+2<=W7.heap.size):=qh (by have:=hv7.cb.lt.2; omega);have HDN:Hid (Dep W7 (fun b=>w.heap.size+2<=b/\(Value.slice pA k pc).ownBlock≠some b) (acN ⟨⟨sn,an,xx⟩,xA,xn,xc⟩)):=qh (hd7.mono fun b _ h=>⟨by have:=hv7.lt; omega,fun e=>by have:=hv7.own b e; omega⟩);have HRB:=qh hv7.row.bd;clear c0 c1 c2 c3 c4 c5 v0 v1 v2 f0 f1 f2 k0 k1 k2 k3 k4 k5 H5 H6;obtain ⟨v0,v1,v2⟩:=Qj hv7.bx;clear hv7 hd7;go_wp2_with (at_builtin; refine Jh rfl (.tmp 44) (.tmp 46) _ rfl i0 (.agg #[.string ByteArray.empty,.bool false,.slice none 0 0]) 48 Tryz.underlying48 HI.o.1 HI.o.2.1 HI.o.2.2.1 HI.o.2.2.2 rfl (by decide) HBK.o HNW.o ⟨⟨sn,an,xx⟩,xA,xn,xc⟩ HDN.o rfl rfl rfl (acV_one _) HL1.o HL2.o ?_; intro p2 w2 hadd; have HAD:=qh hadd; have H8:=qh (HCB.o.go hadd.2.1 fun j e=>by have:=HRB.o j e; omega); clear hadd; obtain ⟨c0,c1,c2,c3,c4,c5⟩:=Qc H8.o.cur);go_wp2_with (go_at_call 107; go_fit (HTC.o _ _ _ _ H8.o.toks H8.o.now));rintro e y9 ⟨A9,n9,p9,rfl,hT,hb⟩;obtain ⟨⟨z0,z1,z2,z3,z4,z5⟩,f0,f1,f2,f3,f4,f5⟩:=And.intro (Qc (H8.o.on hb).cur) (Qk (H8.o.on hb).cur);have H9:=qh ((H8.o.on hb).set hT);have HR9:=qh ((HAD.o.1.keep hb).low (Qw y9 w.heap.size A9 n9 p9 d3) (by intro j e; cases e; omega));clear hT hb;go_wp2_with fail
     go_roundg (if bm=true then d3.L.length+1 else 0)
     case measure =>
      have h1:=HGH.o;have h2:=HST2.o.more
      split
      ·have:=(h2 ‹_›).1; omega
      ·omega
     case rel =>
      refine ⟨d3,ps++[⟨⟨sn,an,xx⟩,xA,xn,xc⟩],A9,n9,p9,bm,rfl,H9.o,HST2.o.ok,Nat.le_trans HST2.o.len HLN.o,HR9.o,fun hb=>?_,fun hb=>?_⟩
      ·have h2:=HST2.o.more hb
       rw [if_pos hb,List.map_append,List.length_append];rw [List.length_map] at h2;exact ⟨h2.2.1,h2.2.2,Nat.lt_succ_self _⟩
      ·rw [List.map_append]
       exact HST2.o.done hb
end
section
open Go.RowKit CurSpec TermSpec EvalSpec ActSpec NamesSpec ExprSpec TransSpec SynSpec FormSpec
set_option maxRecDepth 100000
theorem QhE (c:Cur) (s:ByteArray) (ok:Ok c) (hlen:c.L.length <= 100000) (A:Option Addr) (n cp:Nat) (W0 w:World) (h:Toks W0 (.slice A n cp) c.L) (hw:Below W0.heap.size W0 w) :
 Calls Tryz.prog 110 #[.agg #[.slice A n cp,.int .i64 c.w1,.int .i64 c.w2,.int .i64 c.a1,.int .i64 c.a2,.int .i64 c.bad],.string s] w (RetLs (fun x v=>Acs x v (acX c s).2) W0 w (acX c s).1):=by
 have H0:=qh (CB.start h hw);have HQ:=qh (fun b hb A n cp W hT hW=>Qax c s b hb A n cp W0 W hT hW);obtain ⟨P,hP⟩:∃ P,P=acX c s:=⟨_,rfl⟩;rw [<- hP];obtain ⟨c0,c1,c2,c3,c4,c5⟩:=Qc H0.o.cur
 by_cases hq:isB c 1 s=true
 ·have HQ2:=qh (HQ.o true hq)
  obtain ⟨a0,e0⟩:∃ a,a=on c:=⟨_,rfl⟩;have o0:Ok a0:=e0 ▸ ok.on;have l0:a0.L.length<=100000:=by have:=QaD c; rw [<- e0] at this; omega
  have HON:=qh (fun A n cp W hT hW=>Ji c A n cp W0 W hT hW);have HRD:=qh (fun A n cp W hT hW=>QfH a0 A n cp W0 W o0 l0 hT hW);obtain ⟨⟨a1,l⟩,e1⟩:∃ a,a=readA a0:=⟨_,rfl⟩;have HMK:=qh (fun A n cp W hT hW=>QS a1 wEnd A n cp W0 W hT hW);obtain ⟨a2,e2⟩:∃ a,a=want a1 3 wEnd:=⟨_,rfl⟩;have HP:Hid (P=(a2,l)):=qh (by rw [hP]; unfold acX; rw [if_pos hq,<- e0,<- e1,<- e2]);rw [<- e0] at HON;rw [<- e1] at HRD;rw [<- e2] at HMK;clear hP hq h hw ok hlen o0 l0 e0 e1 e2 HQ;go_enter Tryz.func110,Tryz.ntmps110;go_wp2_with (go_at_call 106; go_fit (HQ2.o _ _ _ _ H0.o.toks H0.o.now));rintro e x1 ⟨rfl,hb⟩;have H1:=qh (H0.o.on hb);clear hb c0 c1 c2 c3 c4 c5;obtain ⟨c0,c1,c2,c3,c4,c5⟩:=Qc H1.o.cur;go_wp2_with (go_at_call 63; go_fit (HON.o _ _ _ _ H1.o.toks H1.o.now));rintro e x2 ⟨A2,n2,p2,rfl,hT,hb⟩;have H2:=qh (H1.o.on hb);have HT2:=qh hT;clear hT hb;go_wp2_with (go_at_call 144; go_fit (HRD.o _ _ _ _ HT2.o H2.o.now));rintro e x3 ⟨A3,n3,p3,B,m,q,rfl,hT,ha,hb⟩;have H3:=qh ((H2.o.on hb).fresh hT);have HA3:=qh ha;clear hT hb ha c0 c1 c2 c3 c4 c5;obtain ⟨c0,c1,c2,c3,c4,c5⟩:=Qc H3.o.cur;go_wp2_with (go_at_call 59; go_fit (HMK.o _ _ _ _ H3.o.toks H3.o.now));rintro e x4 ⟨A4,n4,p4,rfl,hT,hb⟩;have H4:=qh (H3.o.on hb);have HT4:=qh hT;have HA4:=qh ((HA3.o.alloc (rcO A3 n3 p3 a1)).keep hb);clear hT hb;obtain ⟨⟨r0,r1,r2,r3,r4,r5⟩,g0,g1,g2,g3,g4,g5⟩:=And.intro (Qc H4.o.res) (Qk H4.o.res);obtain ⟨q0,q1,q2,q3,q4,q5⟩:=Jt H4.o.res A4 n4 p4 a2;go_wp2_with fail;refine bodyPost_ret (v:=.tuple #[.agg #[.slice A4 n4 p4,.int .i64 a2.w1,.int .i64 a2.w2,.int .i64 a2.a1,.int .i64 a2.a2,.int .i64 a2.bad],.slice B m q]) (by simp [results,Tryz.results110,go_sem,q0,q1,q2,q3,q4,q5]) rfl ?_;rw [HP.o];have hl:=H2.o.lt.2;exact ⟨A4,n4,p4,B,m,q,rfl,HT4.o,(HA4.o.go (Qw x4 (w.heap.size+1) A4 n4 p4 a2) fun b hb e=>by cases e; omega).mono fun b _ hb=>by omega,H4.o.done _ _ _ _⟩
 ·have HQ2:=qh (HQ.o false (by simpa using hq))
  have HP:Hid (P=(c,[])):=qh (by rw [hP]; unfold acX; rw [if_neg hq]);clear hP hq h hw ok hlen HQ;go_enter Tryz.func110,Tryz.ntmps110;go_wp2_with (go_at_call 106; go_fit (HQ2.o _ _ _ _ H0.o.toks H0.o.now));rintro e x1 ⟨rfl,hb⟩;have H1:=qh (H0.o.on hb);clear hb c0 c1 c2 c3 c4 c5;obtain ⟨c0,c1,c2,c3,c4,c5⟩:=Qc H1.o.cur;obtain ⟨⟨r0,r1,r2,r3,r4,r5⟩,g0,g1,g2,g3,g4,g5⟩:=And.intro (Qc H1.o.res) (Qk H1.o.res);obtain ⟨q0,q1,q2,q3,q4,q5⟩:=Jt H1.o.res A n cp c;go_wp2_with fail;refine bodyPost_ret (v:=.tuple #[.agg #[.slice A n cp,.int .i64 c.w1,.int .i64 c.w2,.int .i64 c.a1,.int .i64 c.a2,.int .i64 c.bad],.slice none 0 0]) (by simp [results,Tryz.results110,go_sem,q0,q1,q2,q3,q4,q5]) rfl ?_;rw [HP.o];exact ⟨A,n,cp,none,0,0,rfl,H1.o.toks,Dep.triv fun x=>ZT x,H1.o.done _ _ _ _⟩
abbrev trA (gA:Option Addr) (gn gc:Nat) (aA:Option Addr) (an ac:Nat) (t:Tr):Array Value:=#[.string t.ev,.slice gA gn gc,.slice aA an ac,.string t.tg]
structure TQ (W0 w x:World) (A:Option Addr) (n cp:Nat) (c:Cur) (gA:Option Addr) (gn gc:Nat) (aA:Option Addr) (an ac:Nat) (t:Tr):Prop where
 cb:CB W0 w x none w.heap.size A n cp c
 rs:x.heap[w.heap.size+2]?=some trZ
 bx:x.heap[w.heap.size+3]?=some (.cells (trA gA gn gc aA an ac t) 81 (0,0))
 g:Dep x (fun b=>w.heap.size+4<=b) (fun y=>Tms y (.slice gA gn gc) t.g)
 a:Dep x (fun b=>w.heap.size+4<=b) (fun y=>Acs y (.slice aA an ac) t.acts)
def TqIs (W0 w:World) (c:Cur) (t:Tr) (x:World):Prop:=∃ A n cp gA gn gc aA an ac,TQ W0 w x A n cp c gA gn gc aA an ac t
section
variable {W0 w x y:World} {A A':Option Addr} {n cp n' cp':Nat} {c c':Cur} {gA gA':Option Addr} {gn gc gn' gc':Nat} {aA aA':Option Addr} {an ac an' ac':Nat} {t t':Tr}
theorem TQ.on (h:TQ W0 w x A n cp c gA gn gc aA an ac t) (hb:Below x.heap.size x y):TQ W0 w y A n cp c gA gn gc aA an ac t:=⟨h.cb.on hb,Qe h.rs hb,Qe h.bx hb,h.g.keep hb,h.a.keep hb⟩
theorem TQ.lt (h:TQ W0 w x A n cp c gA gn gc aA an ac t):w.heap.size+4<=x.heap.size:=(Array.getElem?_eq_some_iff.1 h.bx).1
theorem TQ.set (h:TQ W0 w x A n cp c gA gn gc aA an ac t) (hT:Toks W0 (.slice A' n' cp') c'.L):TQ W0 w (setQ x w.heap.size A' n' cp' c') A' n' cp' c' gA gn gc aA an ac t :=
 ⟨h.cb.set hT,Je h.rs (Qw _ _ _ _ _ _) (by omega),Je h.bx (Qw _ _ _ _ _ _) (by omega),h.g.go (Qw _ _ _ _ _ _) (fun b hb e=>by cases e; omega),h.a.go (Qw _ _ _ _ _ _) (fun b hb e=>by cases e; omega)⟩
theorem TQ.put (h:TQ W0 w x A n cp c gA gn gc aA an ac t) {i:Nat} {u:Value} (hc:(trA gA gn gc aA an ac t).setIfInBounds i u = trA gA' gn' gc' aA' an' ac' t') (hg:Dep x (fun b => w.heap.size + 4 <= b) (fun y => Tms y (.slice gA' gn' gc') t'.g))
 (ha:Dep x (fun b=>w.heap.size+4<=b) (fun y=>Acs y (.slice aA' an' ac') t'.acts)):TQ W0 w (x.setCell ⟨w.heap.size+3,i,none⟩ u) A n cp c gA' gn' gc' aA' an' ac' t' :=
 have hs:x.grownBy (x.setCell ⟨w.heap.size+3,i,none⟩ u) (some (w.heap.size+3)):=Ql (Qx _ _) _ _
 ⟨h.cb.but hs (by omega) (by omega),Je h.rs hs (by omega),by have:=Qd h.bx i u; rwa [hc] at this,hg.go hs (fun b hb e=>by cases e; omega),ha.go hs (fun b hb e=>by cases e; omega)⟩
abbrev setR4 (x:World) (b:Nat) (u0 u1 u2 u3:Value):World:=(((x.setCell ⟨b,0,none⟩ u0).setCell ⟨b,1,none⟩ u1).setCell ⟨b,2,none⟩ u2).setCell ⟨b,3,none⟩ u3
theorem Zz (x:World) (b:Nat) (u0 u1 u2 u3:Value):x.grownBy (setR4 x b u0 u1 u2 u3) (some b):=Ql (Ql (Ql (Ql (Qx _ _) _ _) _ _) _ _) _ _
theorem Qgs {b b':Nat} {T:TypeId} {z0 z1 z2 z3:Value} (h1:x.heap[b]? = some rcZ) (h2:x.heap[b']? = some (.cells #[z0,z1,z2,z3] T (0,0))) (hne:b ≠ b') (A:Option Addr) (n cp:Nat) (c:Cur) (u0 u1 u2 u3:Value) :
 (setR4 (setQ x b A n cp c) b' u0 u1 u2 u3).heap[b]?=some (rcO A n cp c)/\(setR4 (setQ x b A n cp c) b' u0 u1 u2 u3).heap[b']?=some (.cells #[u0,u1,u2,u3] T (0,0)) :=
 ⟨Je (QbT (A0:=none) (n0:=0) (cp0:=0) (c0:=⟨[],0,0,0,0,0⟩) h1) (Zz _ _ _ _ _ _) hne,Qd (Qd (Qd (Qd (Je h2 (Qw _ _ _ _ _ _) hne.symm) 0 u0) 1 u1) 2 u2) 3 u3⟩
end
def RetTq (W0 W:World) (p:Cur × Tr) (e:Ending) (w':World):Prop :=
 ∃ A n cp gA gn gc aA an ac,e = .returned (.tuple #[.agg #[.slice A n cp,.int .i64 p.1.w1,.int .i64 p.1.w2,.int .i64 p.1.a1,.int .i64 p.1.a2,.int .i64 p.1.bad],.agg (trA gA gn gc aA an ac p.2)]) /\ Toks W0 (.slice A n cp) p.1.L /\
   Dep w' (fun b=>W.heap.size<=b) (tpN ⟨p.2,gA,gn,gc,aA,an,ac⟩)/\Below W.heap.size W w'
theorem rtr_say (c:Cur) (ok:Ok c) (hlen:c.L.length <= 100000) (A:Option Addr) (n cp:Nat) (W0 w:World) (h:Toks W0 (.slice A n cp) c.L) (hw:Below W0.heap.size W0 w) :
 Calls Tryz.prog 111 #[.agg #[.slice A n cp,.int .i64 c.w1,.int .i64 c.w2,.int .i64 c.a1,.int .i64 c.a2,.int .i64 c.bad]] w (RetTq W0 w (readT c)):=by
 have b0:=tb_zero
 have H0:Hid (TQ W0 w ((((w.alloc (rcO A n cp c)).alloc rcZ).alloc trZ).alloc trZ) A n cp c none 0 0 none 0 0 zeroT):=Lib.hid
  ⟨((CB.start h hw).alloc _).alloc _,by have:=Qe (heap_alloc_new ((w.alloc (rcO A n cp c)).alloc rcZ) trZ) (KitC.Qh _ trZ); simpa using this,by have:=heap_alloc_new (((w.alloc (rcO A n cp c)).alloc rcZ).alloc trZ) trZ; simpa using this,Dep.triv fun x=>tmsNil x,Dep.triv fun x=>ZT x⟩
 obtain ⟨⟨c1,ev⟩,e1⟩:∃ p,p=hdT c:=⟨_,rfl⟩;have t1:To c c1:=by have:=hdT_le c; have k:=@hdT_ok c; rw [<- e1] at this k; exact ⟨this.1,this.2,k⟩
 obtain ⟨⟨c2,g⟩,e2⟩:∃ p,p=guT c1:=⟨_,rfl⟩;have t2:To c c2:=t1.trans (by have:=Qei c1; have k:=@QgV c1; rw [<- e2] at this k; exact ⟨this.1,this.2,k⟩);obtain ⟨⟨c3,acts⟩,e3⟩:∃ p,p=acT c2:=⟨_,rfl⟩;have t3:To c c3:=t2.trans (by have:=QdY c2; have k:=@QgS c2; rw [<- e3] at this k; exact ⟨this.1,this.2,k⟩);obtain ⟨⟨c4,tg⟩,e4⟩:∃ p,p=tgT c3:=⟨_,rfl⟩;obtain ⟨c5,e5⟩:∃ p,p=want c4 3 wEnd:=⟨_,rfl⟩;obtain ⟨P,hP⟩:∃ P,P=readT c:=⟨_,rfl⟩;rw [<- hP]
 have HP:Hid (P = (c5,if c5.bad = 0 then ⟨ev,g,acts,tg⟩ else zeroT)):=qh (by
  rw [hP]; unfold readT seqT;rw [<- e1]; dsimp only;rw [<- e2]; dsimp only;rw [<- e3]; dsimp only;rw [<- e4]; dsimp only;rw [<- e5])
 have HT0:=qh (fun A n cp W hT hW=>Jf c 1 wAuto A n cp W0 W hT hW);have HW1:=qh (fun A n cp W hT hW=>QfX c wOn A n cp W0 W hT hW);have HN1:=qh (fun A n cp W hT hW=>JZ (want c 1 wOn) (ok.want 1 wOn) A n cp W0 W hT hW)
 have HE1:Hid ((isB c 1 wAuto = true -> take c 1 wAuto = c1 /\ ev = ⟨#[]⟩) /\ (isB c 1 wAuto = false -> take c 1 wAuto = c /\ c1 = nameC (want c 1 wOn) /\ ev = nameS (want c 1 wOn))):=qh (by
  have:=e1;unfold hdT at this;unfold take;refine ⟨fun hb=>?_,fun hb=>?_⟩
  ·rw [if_pos hb] at this ⊢; cases this; exact ⟨rfl,rfl⟩
  ·rw [if_neg (by rw [hb]; decide)] at this ⊢; cases this; exact ⟨rfl,rfl,rfl⟩)
 have HI2:=qh (fun W hT=>QaW c1 3 wBra none 0 0 W hT);have HIS:=qh (fun (d:Cur) (s:ByteArray) (b:Bool) (hb:isB d 3 s=b) A n cp W (hT:Toks W0 (.slice A n cp) d.L) (hW:Below W0.heap.size W0 W)=>by have:=QaW d 3 s A n cp W (hT.keep hW); rwa [hb] at this);have HO2:=qh (fun A n cp W hT hW=>Ji c1 A n cp W0 W hT hW);have HO3:=qh (fun A n cp W hT hW=>Ji c2 A n cp W0 W hT hW);have HO4:=qh (fun A n cp W hT hW=>Ji c3 A n cp W0 W hT hW);have hl1:(on c1).L.length<=100000:=Nat.le_trans (QaD _) (Nat.le_trans t1.len hlen);have hl2:(on c2).L.length<=100000:=Nat.le_trans (QaD _) (Nat.le_trans t2.len hlen);have HR2:=qh (fun A n cp W hT hW=>Qif ((on c1).L.length+1) (on c1) (lev_all _ 1 (by decide) (by decide)) (t1.ok ok).on (Qcq _) hl1 A n cp W0 W hT hW);have HR3:=qh (fun A n cp W hT hW=>QfH (on c2) A n cp W0 W (t2.ok ok).on hl2 hT hW);have HN4:=qh (fun A n cp W hT hW=>JZ (on c3) (t3.ok ok).on A n cp W0 W hT hW);have HM2:=qh (fun A n cp W hT hW=>QS (rdE (on c1)).1 wKet A n cp W0 W hT hW);have HM5:=qh (fun A n cp W hT hW=>QS c4 wEnd A n cp W0 W hT hW)
 have HE2:Hid (if isB c1 3 wBra = true then c2 = want (rdE (on c1)).1 3 wKet /\ g = (rdE (on c1)).2 else c2 = c1 /\ g = []):=qh (by
  have:=e2;unfold guT at this
  split at this<;>(rename_i hb; cases this)
  ·rw [if_pos hb]; exact ⟨rfl,rfl⟩
  ·rw [if_neg hb]; exact ⟨rfl,rfl⟩)
 have HE3:Hid (if isB c2 3 wDo = true then (c3,acts) = readA (on c2) else c3 = c2 /\ acts = []):=qh (by
  have:=e3;unfold acT at this
  split at this
  ·rename_i hb; rw [if_pos hb]; exact this
  ·rename_i hb; rw [if_neg hb]; cases this; exact ⟨rfl,rfl⟩)
 have HE4:Hid (if isB c3 3 wTo = true then c4 = nameC (on c3) /\ tg = nameS (on c3) else c4 = c3 /\ tg = ⟨#[]⟩):=qh (by
  have:=e4;unfold tgT at this
  split at this<;>(rename_i hb; cases this)
  ·rw [if_pos hb]; exact ⟨rfl,rfl⟩
  ·rw [if_neg hb]; exact ⟨rfl,rfl⟩)
 rw [<- e5] at HM5;clear e1 e2 e3 e4 e5 t1 t2 t3 hP h hw ok hlen hl1 hl2 HI2;obtain ⟨q1,hq1⟩:∃ q,q=isB c 1 wAuto:=⟨_,rfl⟩;obtain ⟨d1,hd1⟩:∃ d,d=take c 1 wAuto:=⟨_,rfl⟩;rw [<- hq1,<- hd1] at HT0 HE1;obtain ⟨k0,k1,k2,k3,k4,k5⟩:=Qc H0.o.cb.cur;clear hq1 hd1;go_enter Tryz.func111,Tryz.ntmps111;go_wp2_with (go_at_call 107; go_fit (HT0.o _ _ _ _ H0.o.cb.toks H0.o.cb.now));rintro e x1 ⟨A1,n1,p1,rfl,hT,hb⟩;obtain ⟨⟨z0,z1,z2,z3,z4,z5⟩,f0,f1,f2,f3,f4,f5⟩:=And.intro (Qc ((H0.o.on hb).cb.cur)) (Qk ((H0.o.on hb).cb.cur));have H1:=qh ((H0.o.on hb).set hT);clear hT hb k0 k1 k2 k3 k4 k5;obtain ⟨k0,k1,k2,k3,k4,k5⟩:=Qc H1.o.cb.cur;go_upto_if 13 with fail
 go_cut [] from 6 (fun wx=>TqIs W0 w c1 ⟨ev,[],[],⟨#[]⟩⟩ wx)
 case first =>
  rcases q1 with _ | _
  ·obtain ⟨rfl,h2,h3⟩:=HE1.o.2 rfl
   rw [<- h2,<- h3] at HN1;clear h2 h3;rw [show (!false)=true from rfl];go_wp2_with (go_at_call 57; go_fit (HW1.o _ _ _ _ H1.o.cb.toks H1.o.cb.now));rintro e x2 ⟨A2,n2,p2,rfl,hT,hb⟩;have H2:=qh (H1.o.on hb);have HT2:=qh hT;clear hT hb k0 k1 k2 k3 k4 k5 z0 z1 z2 z3 z4 z5 f0 f1 f2 f3 f4 f5;go_wp2_with (go_at_call 56; go_fit (HN1.o _ _ _ _ HT2.o H2.o.cb.now));rintro e x3 ⟨A3,n3,p3,rfl,hT,hb⟩;obtain ⟨⟨z0,z1,z2,z3,z4,z5⟩,f0,f1,f2,f3,f4,f5⟩:=And.intro (Qc (H2.o.on hb).cb.cur) (Qk (H2.o.on hb).cb.cur);have fv:=Qf (H2.o.on hb).bx 0;have fc:=Qb (H2.o.on hb).bx (i:=0) (v:=.string ⟨#[]⟩) rfl;have H3:=qh (((H2.o.on hb).set hT).put (i:=0) (u:=.string ev) (t':=⟨ev,[],[],⟨#[]⟩⟩) rfl (Dep.triv fun x=>tmsNil x) (Dep.triv fun x=>ZT x));clear hT hb;go_wp2_with fail;go_meet;exact ⟨A3,n3,p3,none,0,0,none,0,0,H3.o⟩
  ·obtain ⟨rfl,rfl⟩:=HE1.o.1 rfl
   rw [show (!true)=false from rfl];go_wp2_with fail;go_meet;exact ⟨A1,n1,p1,none,0,0,none,0,0,H1.o⟩
 case rest =>
  obtain ⟨A4,n4,p4,gA,gn,gc,aA,an,ac,h4⟩:=hcut;have H4:=qh h4;clear h4 k0 k1 k2 k3 k4 k5 z0 z1 z2 z3 z4 z5 f0 f1 f2 f3 f4 f5 HE1 HT0 HW1 HN1 H0 H1;obtain ⟨q2,hq2⟩:∃ q,q=isB c1 3 wBra:=⟨_,rfl⟩;have HQ:=qh (HIS.o c1 wBra q2 hq2.symm);rw [<- hq2] at HE2;clear hq2;obtain ⟨k0,k1,k2,k3,k4,k5⟩:=Qc H4.o.cb.cur;go_wp2_with (go_at_call 62; go_fit (HQ.o _ _ _ _ H4.o.cb.toks H4.o.cb.now));rintro e x5 ⟨rfl,hb⟩;have H5:=qh (H4.o.on hb);clear hb k0 k1 k2 k3 k4 k5 H4;obtain ⟨k0,k1,k2,k3,k4,k5⟩:=Qc H5.o.cb.cur;go_upto_if 22 with fail
  go_cut [] from 6 (fun wx=>TqIs W0 w c2 ⟨ev,g,[],⟨#[]⟩⟩ wx)
  case first =>
   rcases q2 with _ | _
   ·have hE:=HE2.o
    rw [if_neg (by decide)] at hE;obtain ⟨rfl,rfl⟩:=hE;go_wp2_with fail;go_meet;exact ⟨A4,n4,p4,gA,gn,gc,aA,an,ac,H5.o⟩
   ·have hE:=HE2.o
    rw [if_pos rfl] at hE;have hr2:readP ((on c1).L.length+1) (on c1)=rdE (on c1):=rfl;rw [hr2,show rdE (on c1)=((rdE (on c1)).1,(rdE (on c1)).2) from rfl,<- hE.2] at HR2;rw [<- hE.1] at HM2;obtain ⟨b1,hb1⟩:∃ b,b=(rdE (on c1)).1:=⟨_,rfl⟩;rw [<- hb1] at HM2 HR2;obtain ⟨b2,hb2⟩:∃ b,b=on c1:=⟨_,rfl⟩;rw [<- hb2] at HO2 HR2;clear hE hr2 hb1 hb2;go_wp2_with (go_at_call 63; go_fit (HO2.o _ _ _ _ H5.o.cb.toks H5.o.cb.now));rintro e x6 ⟨A6,n6,p6,rfl,hT,hb⟩;have H6:=qh (H5.o.on hb);have HT6:=qh hT;clear hT hb k0 k1 k2 k3 k4 k5;go_wp2_with (go_at_call 145; go_fit (HR2.o _ _ _ _ HT6.o H6.o.cb.now));rintro e x7 ⟨A7,n7,p7,gA2,gn2,gc2,rfl,hT,hM,hO,-,hb⟩;obtain ⟨⟨z0,z1,z2,z3,z4,z5⟩,f0,f1,f2,f3,f4,f5⟩:=And.intro (Qc (H6.o.on hb).cb.cur) (Qk (H6.o.on hb).cb.cur);have fv:=Qf (H6.o.on hb).bx 1;have fc:=Qb (H6.o.on hb).bx (i:=1) (v:=.slice gA gn gc) rfl;have hd:=(QgB hM hO).mono (S':=fun b=>w.heap.size+4<=b) fun b _ h=>by have:=H6.o.lt; omega
    have h7:=(H6.o.on hb).set hT;have H7:=qh (h7.put (i:=1) (u:=.slice gA2 gn2 gc2) (t':=⟨ev,g,[],⟨#[]⟩⟩) rfl (hd.go (Qw _ _ _ _ _ _) fun b hb e=>by cases e; omega) h7.a);clear hT hM hO hb hd h7;obtain ⟨k0,k1,k2,k3,k4,k5⟩:=Qc H7.o.cb.cur;go_wp2_with (go_at_call 59; go_fit (HM2.o _ _ _ _ H7.o.cb.toks H7.o.cb.now));rintro e x8 ⟨A8,n8,p8,rfl,hT,hb⟩;clear z0 z1 z2 z3 z4 z5 f0 f1 f2 f3 f4 f5 fv fc k0 k1 k2 k3 k4 k5;obtain ⟨⟨z0,z1,z2,z3,z4,z5⟩,f0,f1,f2,f3,f4,f5⟩:=And.intro (Qc (H7.o.on hb).cb.cur) (Qk (H7.o.on hb).cb.cur);have H8:=qh ((H7.o.on hb).set hT);clear hT hb;go_wp2_with fail;go_meet;exact ⟨A8,n8,p8,gA2,gn2,gc2,aA,an,ac,H8.o⟩
  case rest =>
   obtain ⟨A6,n6,p6,gA2,gn2,gc2,aA2,an2,ac2,h6⟩:=hcut;have H6:=qh h6;clear h6 k0 k1 k2 k3 k4 k5 H5 HQ HE2 HO2 HR2 HM2;obtain ⟨q3,hq3⟩:∃ q,q=isB c2 3 wDo:=⟨_,rfl⟩;have HQ:=qh (HIS.o c2 wDo q3 hq3.symm);rw [<- hq3] at HE3;clear hq3;obtain ⟨k0,k1,k2,k3,k4,k5⟩:=Qc H6.o.cb.cur;go_wp2_with (go_at_call 62; go_fit (HQ.o _ _ _ _ H6.o.cb.toks H6.o.cb.now));rintro e x7 ⟨rfl,hb⟩;have H7:=qh (H6.o.on hb);clear hb k0 k1 k2 k3 k4 k5 H6;obtain ⟨k0,k1,k2,k3,k4,k5⟩:=Qc H7.o.cb.cur;go_upto_if 33 with fail
   go_cut [] from 6 (fun wx=>TqIs W0 w c3 ⟨ev,g,acts,⟨#[]⟩⟩ wx)
   case first =>
    rcases q3 with _ | _
    ·have hE:=HE3.o
     rw [if_neg (by decide)] at hE;obtain ⟨rfl,rfl⟩:=hE;go_wp2_with fail;go_meet;exact ⟨A6,n6,p6,gA2,gn2,gc2,aA2,an2,ac2,H7.o⟩
    ·have hE:=HE3.o
     rw [if_pos rfl] at hE;rw [<- hE] at HR3;obtain ⟨b2,hb2⟩:∃ b,b=on c2:=⟨_,rfl⟩;rw [<- hb2] at HO3 HR3;clear hE hb2;go_wp2_with (go_at_call 63; go_fit (HO3.o _ _ _ _ H7.o.cb.toks H7.o.cb.now));rintro e x8 ⟨A8,n8,p8,rfl,hT,hb⟩;have H8:=qh (H7.o.on hb);have HT8:=qh hT;clear hT hb k0 k1 k2 k3 k4 k5;go_wp2_with (go_at_call 144; go_fit (HR3.o _ _ _ _ HT8.o H8.o.cb.now));rintro e x9 ⟨A9,n9,p9,aA3,an3,ac3,rfl,hT,ha,hb⟩;obtain ⟨⟨z0,z1,z2,z3,z4,z5⟩,f0,f1,f2,f3,f4,f5⟩:=And.intro (Qc (H8.o.on hb).cb.cur) (Qk (H8.o.on hb).cb.cur);have fv:=Qf (H8.o.on hb).bx 2;have fc:=Qb (H8.o.on hb).bx (i:=2) (v:=.slice aA2 an2 ac2) rfl;have hd:=ha.mono (S':=fun b=>w.heap.size+4<=b) fun b _ h=>by have:=H8.o.lt; omega
     have h9:=(H8.o.on hb).set hT;have H9:=qh (h9.put (i:=2) (u:=.slice aA3 an3 ac3) (t':=⟨ev,g,acts,⟨#[]⟩⟩) rfl h9.g (hd.go (Qw _ _ _ _ _ _) fun b hb e=>by cases e; omega));clear hT ha hb hd h9;go_wp2_with fail;go_meet;exact ⟨A9,n9,p9,gA2,gn2,gc2,aA3,an3,ac3,H9.o⟩
   case rest =>
    obtain ⟨A8,n8,p8,gA3,gn3,gc3,aA3,an3,ac3,h8⟩:=hcut;have H8:=qh h8;clear h8 k0 k1 k2 k3 k4 k5 H7 HQ HE3 HO3 HR3;obtain ⟨q4,hq4⟩:∃ q,q=isB c3 3 wTo:=⟨_,rfl⟩;have HQ:=qh (HIS.o c3 wTo q4 hq4.symm);rw [<- hq4] at HE4;clear hq4;obtain ⟨k0,k1,k2,k3,k4,k5⟩:=Qc H8.o.cb.cur;go_wp2_with (go_at_call 62; go_fit (HQ.o _ _ _ _ H8.o.cb.toks H8.o.cb.now));rintro e x9 ⟨rfl,hb⟩;have H9:=qh (H8.o.on hb);clear hb k0 k1 k2 k3 k4 k5 H8;obtain ⟨k0,k1,k2,k3,k4,k5⟩:=Qc H9.o.cb.cur;go_upto_if 42 with fail
    go_cut [] from 6 (fun wx=>TqIs W0 w c4 ⟨ev,g,acts,tg⟩ wx)
    case first =>
     rcases q4 with _ | _
     ·have hE:=HE4.o
      rw [if_neg (by decide)] at hE;obtain ⟨rfl,rfl⟩:=hE;go_wp2_with fail;go_meet;exact ⟨A8,n8,p8,gA3,gn3,gc3,aA3,an3,ac3,H9.o⟩
     ·have hE:=HE4.o
      rw [if_pos rfl] at hE;rw [<- hE.1,<- hE.2] at HN4;obtain ⟨b2,hb2⟩:∃ b,b=on c3:=⟨_,rfl⟩;rw [<- hb2] at HO4 HN4;clear hE hb2;go_wp2_with (go_at_call 63; go_fit (HO4.o _ _ _ _ H9.o.cb.toks H9.o.cb.now));rintro e x10 ⟨A10,n10,p10,rfl,hT,hb⟩;have H10:=qh (H9.o.on hb);have HT10:=qh hT;clear hT hb k0 k1 k2 k3 k4 k5;go_wp2_with (go_at_call 56; go_fit (HN4.o _ _ _ _ HT10.o H10.o.cb.now));rintro e x11 ⟨A11,n11,p11,rfl,hT,hb⟩;obtain ⟨⟨z0,z1,z2,z3,z4,z5⟩,f0,f1,f2,f3,f4,f5⟩:=And.intro (Qc (H10.o.on hb).cb.cur) (Qk (H10.o.on hb).cb.cur);have fv:=Qf (H10.o.on hb).bx 3;have fc:=Qb (H10.o.on hb).bx (i:=3) (v:=.string ⟨#[]⟩) rfl;have h11:=(H10.o.on hb).set hT;have H11:=qh (h11.put (i:=3) (u:=.string tg) (t':=⟨ev,g,acts,tg⟩) rfl h11.g h11.a);clear hT hb h11;go_wp2_with fail;go_meet;exact ⟨A11,n11,p11,gA3,gn3,gc3,aA3,an3,ac3,H11.o⟩
    case rest =>
     obtain ⟨A10,n10,p10,gA4,gn4,gc4,aA4,an4,ac4,h10⟩:=hcut;have H10:=qh h10;clear h10 k0 k1 k2 k3 k4 k5 H9 HQ HE4 HO4 HN4;obtain ⟨k0,k1,k2,k3,k4,k5⟩:=Qc H10.o.cb.cur;go_wp2_with (go_at_call 59; go_fit (HM5.o _ _ _ _ H10.o.cb.toks H10.o.cb.now));rintro e x11 ⟨A11,n11,p11,rfl,hT,hb⟩;obtain ⟨⟨z0,z1,z2,z3,z4,z5⟩,f0,f1,f2,f3,f4,f5⟩:=And.intro (Qc (H10.o.on hb).cb.cur) (Qk (H10.o.on hb).cb.cur);have H11:=qh ((H10.o.on hb).set hT);clear hT hb k0 k1 k2 k3 k4 k5;obtain ⟨k0,k1,k2,k3,k4,k5⟩:=Qc H11.o.cb.cur;obtain ⟨t0,t1,t2,t3⟩:=Qi H11.o.bx;obtain ⟨⟨r0,r1,r2,r3,r4,r5⟩,g0,g1,g2,g3,g4,g5⟩:=And.intro (Qc H11.o.cb.res) (Qk H11.o.cb.res);obtain ⟨⟨s0,s1,s2,s3⟩,j0,j1,j2,j3⟩:=And.intro (Qi H11.o.rs) (Q3 H11.o.rs);have HDN:=qh (fun (u0 u1 u2 u3:Value)=>Qa6 (QcZ (H11.o.cb.fin A11 n11 p11 c5) (Zz (setQ (setQ x11 w.heap.size A11 n11 p11 c5) (w.heap.size+1) A11 n11 p11 c5) (w.heap.size+2) u0 u1 u2 u3) fun j e=>by cases e; exact .inr (by omega)))
     by_cases hc5:c5.bad=0
     ·have g6:(c5.bad != 0) = false:=by simp [hc5]
      have HP2:Hid (P=(c5,⟨ev,g,acts,tg⟩)):=qh (by rw [HP.o,if_pos hc5]);clear hc5;go_wp2_with fail;go_region
      all_goals
       go_wp2_with fail;have HS:=qh (Qgs H11.o.cb.res H11.o.rs (by omega) A11 n11 p11 c5 (.string ev) (.slice gA4 gn4 gc4) (.slice aA4 an4 ac4) (.string tg));obtain ⟨p0,p1,p2,p3,p4,p5⟩:=Qc HS.o.1;obtain ⟨y0,y1,y2,y3⟩:=Qi HS.o.2;refine bodyPost_ret (v:=.tuple #[.agg #[.slice A11 n11 p11,.int .i64 c5.w1,.int .i64 c5.w2,.int .i64 c5.a1,.int .i64 c5.a2,.int .i64 c5.bad],.agg #[.string ev,.slice gA4 gn4 gc4,.slice aA4 an4 ac4,.string tg]]) (by simp [results,Tryz.results111,go_sem,p0,p1,p2,p3,p4,p5,y0,y1,y2,y3]) rfl ?_;rw [HP2.o];exact ⟨A11,n11,p11,gA4,gn4,gc4,aA4,an4,ac4,rfl,H11.o.cb.toks,((((((H11.o.g.and H11.o.a).imp fun x hx=>(⟨hx.1,hx.2⟩:TrIn x gA4 gn4 gc4 aA4 an4 ac4 ⟨ev,g,acts,tg⟩)).go (Qw _ (w.heap.size+1) A11 n11 p11 c5) fun b hb e=>by cases e; omega).go (Zz _ (w.heap.size+2) _ _ _ _) fun b hb e=>by cases e; omega).keep ((Below.refl _ _).drew)).mono fun b _ hb=>by omega),(HDN.o _ _ _ _).drew⟩
     ·have g6:(c5.bad != 0) = true:=by simp [hc5]
      have HP2:Hid (P=(c5,zeroT)):=qh (by rw [HP.o,if_neg hc5]);clear hc5;go_wp2_with fail;have HS:=qh (Qgs H11.o.cb.res H11.o.rs (by omega) A11 n11 p11 c5 (.string ⟨#[]⟩) (.slice none 0 0) (.slice none 0 0) (.string ⟨#[]⟩));obtain ⟨p0,p1,p2,p3,p4,p5⟩:=Qc HS.o.1;obtain ⟨y0,y1,y2,y3⟩:=Qi HS.o.2;refine bodyPost_ret (v:=.tuple #[.agg #[.slice A11 n11 p11,.int .i64 c5.w1,.int .i64 c5.w2,.int .i64 c5.a1,.int .i64 c5.a2,.int .i64 c5.bad],.agg #[.string ⟨#[]⟩,.slice none 0 0,.slice none 0 0,.string ⟨#[]⟩]]) (by simp [results,Tryz.results111,go_sem,p0,p1,p2,p3,p4,p5,y0,y1,y2,y3]) rfl ?_;rw [HP2.o];exact ⟨A11,n11,p11,none,0,0,none,0,0,rfl,H11.o.cb.toks,Dep.triv fun x=>⟨tmsNil x,ZT x⟩,HDN.o _ _ _ _⟩
end
section
open Go.RowKit CurSpec TermSpec EvalSpec ActSpec NamesSpec ExprSpec TransSpec SynSpec FormSpec
set_option maxRecDepth 100000
def KF (K:Nat->Prop) (m S b:Nat):Prop:=(K b/\b<m)\/S<b
theorem kf_not {K:Nat->Prop} {m S j:Nat} (h1:m<=j) (h2:j<=S):¬ KF K m S j:=fun h=>by rcases h with ⟨_,h⟩ | h<;>omega
abbrev RowSt (N:Nat) (K:Nat->Prop) (wr:World) (pv:Value) (ps:List SP):Prop:=RowK 51 6 spV spN N K wr pv ps
theorem sb_kind (a b:Int) (w:World):(Instr.build 51 #[(1,.int .i64 a),(2,.int .i64 b)]).run Tryz.prog w = .ok (.agg #[.string ⟨#[]⟩,.int .i64 a,.int .i64 b,.slice none 0 0,.slice none 0 0,.slice none 0 0]) w:=run_build w 51 _ _ (by kernel_rfl)
structure SB (W0 w x:World) (N:Nat) (K KK:Nat -> Prop) (o0:Option Nat) (S:Nat) (A:Option Addr) (n cp:Nat) (c:Cur) (cs:Array Value) (pv:Value) (ps:List SP):Prop where
 cb:CB W0 w x o0 w.heap.size A n cp c
 bx:x.heap[S]?=some (.cells cs 51 (0,0))
 lt:w.heap.size+1<S
 old:∀ j,o0=some j->j<w.heap.size
 row:RowSt N KK x pv ps
 kk:∀ b,KK b->KF K w.heap.size S b
 own:∀ j,pv.ownBlock=some j->o0=some j\/S<j
section
variable {W0 w x y:World} {N:Nat} {K KK:Nat->Prop} {o0:Option Nat} {S:Nat} {A A':Option Addr} {n cp n' cp':Nat} {c c':Cur} {cs:Array Value} {pv pv':Value} {ps ps':List SP}
theorem SB.apart (h:SB W0 w x N K KK o0 S A n cp c cs pv ps) {j:Nat} (h1:w.heap.size <= j) (h2:j <= S):¬ KK j /\ pv.ownBlock ≠ some j :=
 ⟨fun hk=>kf_not h1 h2 (h.kk j hk),fun e=>by rcases h.own j e with h' | h'<;>(try have:=h.old j h')<;>omega⟩
theorem SB.on (h:SB W0 w x N K KK o0 S A n cp c cs pv ps) (hb:Below x.heap.size x y):SB W0 w y N K KK o0 S A n cp c cs pv ps:=⟨h.cb.on hb,Qe h.bx hb,h.lt,h.old,h.row.keep hb,h.kk,h.own⟩
theorem SB.set (h:SB W0 w x N K KK o0 S A n cp c cs pv ps) (hT:Toks W0 (.slice A' n' cp') c'.L):SB W0 w (setQ x w.heap.size A' n' cp' c') N K KK o0 S A' n' cp' c' cs pv ps :=
 ⟨h.cb.set hT,Je h.bx (Qw _ _ _ _ _ _) (by have:=h.lt; omega),h.lt,h.old,h.row.go (Qw _ _ _ _ _ _) (fun j e=>by cases e; exact h.apart (Nat.le_refl _) (by have:=h.lt; omega)),h.kk,h.own⟩
theorem SB.put (h:SB W0 w x N K KK o0 S A n cp c cs pv ps) (i:Nat) (u:Value):SB W0 w (x.setCell ⟨S,i,none⟩ u) N K KK o0 S A n cp c (cs.setIfInBounds i u) pv ps :=
 have hs:x.grownBy (x.setCell ⟨S,i,none⟩ u) (some S):=Ql (Qx _ _) _ _
 ⟨h.cb.but hs h.lt (by have:=h.lt; omega),Qd h.bx i u,h.lt,h.old,h.row.go hs (fun j e=>by cases e; exact h.apart (by have:=h.lt; omega) (Nat.le_refl _)),h.kk,h.own⟩
theorem SB.grow (h:SB W0 w x N K KK o0 S A n cp c cs pv ps) (g:x.grownBy y pv.ownBlock) (hr:RowSt N KK y pv' ps') (ho:∀ j,pv'.ownBlock = some j -> pv.ownBlock = some j \/ x.heap.size <= j):SB W0 w y N K KK o0 S A n cp c cs pv' ps' :=
 have hS:=(Array.getElem?_eq_some_iff.1 h.bx).1;have hl:=h.lt
 have ha:∀ j,pv.ownBlock = some j -> o0 = some j /\ j < w.heap.size \/ S < j:=fun j e => by
  rcases h.own j e with h' | h'
  ·exact .inl ⟨h',h.old j h'⟩
  ·exact .inr h'
 ⟨h.cb.go g fun j e => by
  rcases ha j e with ⟨h1,h2⟩ | h1
  ·exact ⟨by omega,by omega,.inl h1⟩
  ·exact ⟨by omega,by omega,.inr (by omega)⟩,stay h.bx g fun j e=>by rcases ha j e with ⟨_,h2⟩ | h1<;>omega,h.lt,h.old,hr,h.kk,fun j e=>by
  rcases ho j e with h1 | h1
  ·exact h.own j h1
  ·exact .inr (by omega)⟩
theorem SB.fin (h:SB W0 w x N K KK o0 S A n cp c cs pv ps) (A':Option Addr) (n' cp':Nat) (c':Cur):RowSt N (fun b => K b \/ w.heap.size <= b) (setQ x (w.heap.size + 1) A' n' cp' c') pv ps /\ w.grownBy (setQ x (w.heap.size + 1) A' n' cp' c') o0 /\ ∀ j,pv.ownBlock = some j -> o0 = some j \/ w.heap.size <= j :=
 ⟨(h.row.go (Qw _ _ _ _ _ _) fun j e => by cases e; exact h.apart (Nat.le_succ _) (by have:=h.lt; omega)).mono fun b _ hb => by
   rcases h.kk b hb with hb | hb
   ·exact .inl hb.1
   ·exact .inr (by have:=h.lt; omega),h.cb.fin _ _ _ _,fun j e=>by
   rcases h.own j e with h1 | h1
   ·exact .inl h1
   ·exact .inr (by have:=h.lt; omega)⟩
theorem SB.behind (h:SB W0 w x N K KK o0 S A n cp c cs pv ps) {oc:Option Nat} (g:x.grownBy y oc) (hj:∀ j,oc = some j -> S < j /\ pv.ownBlock ≠ some j) (hk:∀ b,KK b -> b < w.heap.size):SB W0 w y N K KK o0 S A n cp c cs pv ps :=
 have hl:=h.lt
 ⟨h.cb.go g fun j e=>by have:=(hj j e).1; exact ⟨by omega,by omega,.inr (by omega)⟩,stay h.bx g fun j e=>by have:=(hj j e).1; omega,h.lt,h.old,h.row.go g fun j e=>⟨fun hb=>by have:=hk j hb; have:=(hj j e).1; omega,(hj j e).2⟩,h.kk,h.own⟩
theorem SB.wide (h:SB W0 w x N K KK o0 S A n cp c cs pv ps):SB W0 w x N K (KF K w.heap.size S) o0 S A n cp c cs pv ps:=⟨h.cb,h.bx,h.lt,h.old,h.row.mono fun b _ hb=>h.kk b hb,fun _ h=>h,h.own⟩
end
def RetSt (W0 W:World) (N:Nat) (K:Nat -> Prop) (p:Cur × List Sx) (pv:Value) (ps:List SP) (e:Ending) (w':World):Prop :=
 ∃ A n cp B m q qs,e = .returned (.tuple #[.agg #[.slice A n cp,.int .i64 p.1.w1,.int .i64 p.1.w2,.int .i64 p.1.a1,.int .i64 p.1.a2,.int .i64 p.1.bad],.slice B m q]) /\ Toks W0 (.slice A n cp) p.1.L /\ (p.1.bad = 0 -> qs.map (·.x) = p.2) /\
   RowSt N (fun b=>K b\/W.heap.size<=b) w' (.slice B m q) (ps++qs)/\W.grownBy w' pv.ownBlock/\(∀ j,(Value.slice B m q).ownBlock=some j->pv.ownBlock=some j\/W.heap.size<=j)/\(ps++qs).length<=60
section
variable {W0 w x:World} {N:Nat} {K KK:Nat->Prop} {S:Nat} {A A':Option Addr} {n cp n' cp':Nat} {c m:Cur} {cs:Array Value} {pv:Value} {B:Option Addr} {l q:Nat} {ps qs:List SP} {P:Cur × List Sx}
theorem SB.o (h:SB W0 w x N K KK pv.ownBlock S A n cp c cs (.slice B l q) (ps ++ qs)) (hT:Toks W0 (.slice A' n' cp') m.L) (hp:P.1 = m) (hq:m.bad = 0 -> qs.map (·.x) = P.2) (h60:(ps ++ qs).length <= 60) :
 RetSt W0 w N K P pv ps (.returned (.tuple #[.agg #[.slice A' n' cp',.int .i64 m.w1,.int .i64 m.w2,.int .i64 m.a1,.int .i64 m.a2,.int .i64 m.bad],.slice B l q])) (setQ x (w.heap.size+1) A' n' cp' m):=by
 subst hp;have hf:=h.fin A' n' cp' P.1;exact ⟨A',n',cp',B,l,q,qs,rfl,hT,hq,hf.1,hf.2.1,hf.2.2,h60⟩
theorem SB.off (h:SB W0 w x N K KK (Value.slice B l q).ownBlock S A n cp c cs (.slice B l q) ps) (hT:Toks W0 (.slice A' n' cp') m.L) (hp:P.1 = m) (hb:m.bad ≠ 0) (h60:ps.length <= 60) :
 RetSt W0 w N K P (.slice B l q) ps (.returned (.tuple #[.agg #[.slice A' n' cp',.int .i64 m.w1,.int .i64 m.w2,.int .i64 m.a1,.int .i64 m.a2,.int .i64 m.bad],.slice B l q])) (setQ x (w.heap.size+1) A' n' cp' m) :=
 SB.o (qs:=[]) (by rw [List.append_nil]; exact h) hT hp (fun h'=>absurd h' hb) (by rw [List.append_nil]; exact h60)
end
def StOk (W0:World) (N k:Nat):Prop:=∀ (c:Cur) (ps:List SP) (par D:Int) (K:Nat -> Prop) (pA:Option Addr) (pc:Nat) (A:Option Addr) (n cp:Nat) (w:World),Ok c -> c.L.length <= 100000 -> Toks W0 (.slice A n cp) c.L -> Below W0.heap.size W0 w -> N <= w.heap.size ->
 RowSt N K w (.slice pA ps.length pc) ps->ps.length<=60->D=13-k ->
 Calls Tryz.prog 61 #[.agg #[.slice A n cp,.int .i64 c.w1,.int .i64 c.w2,.int .i64 c.a1,.int .i64 c.a2,.int .i64 c.bad],.slice pA ps.length pc,.int .i64 par,.int .i64 D] w (RetSt W0 w N K (XS k ps.length par c) (.slice pA ps.length pc) ps)
theorem sb_start {W0 w x:World} {N:Nat} {K:Nat -> Prop} {A pA:Option Addr} {n cp pn pc:Nat} {c:Cur} {ps:List SP} (hN:W0.heap.size <= N) (hT:Toks W0 (.slice A n cp) c.L) (hW:Below W0.heap.size W0 w) (hr:RowSt N K w (.slice pA pn pc) ps)
 (hb:Below ((w.alloc (rcO A n cp c)).alloc rcZ).heap.size ((w.alloc (rcO A n cp c)).alloc rcZ) x) (a b:Int) :
 SB W0 w (x.alloc (.cells #[.string ⟨#[]⟩,.int .i64 a,.int .i64 b,.slice none 0 0,.slice none 0 0,.slice none 0 0] 51)) N K (fun b => K b /\ b < w.heap.size) (Value.slice pA pn pc).ownBlock x.heap.size A n cp c
  #[.string ⟨#[]⟩,.int .i64 a,.int .i64 b,.slice none 0 0,.slice none 0 0,.slice none 0 0] (.slice pA pn pc) ps:=by
 have hz:=hb.size;simp only [World.size_alloc] at hz;have hw:Below w.heap.size w x:=Qa (Qa (KitC.Qh _ _) (KitC.Qh _ _)) hb;exact ⟨(((CB.start hT hW).as (ob:=(Value.slice pA pn pc).ownBlock) fun j e=>Nat.le_trans hN (hr.bd j e).1).on hb).alloc _,heap_alloc_new _ _,by omega,fun j e=>(hr.bd j e).2,((hr.mono (K':=fun b=>K b/\b<w.heap.size) fun b hb' hk=>⟨hk,hb'⟩).keep hw).keep (KitC.Qh _ _),fun b hb => .inl hb,fun j e => .inl e⟩
structure TsM (W0 w:World) (N:Nat) (K:Nat -> Prop) (o0:Option Nat) (S:Nat) (eA:Option Addr) (en ec:Nat) (fA:Option Addr) (fn fc:Nat) (s:Sx) (pv:Value) (ps:List SP) (d:Cur) (ts:List TP) (A:Option Addr) (n cp:Nat) (tA:Option Addr) (tc:Nat) (M:Nat) (wr:World):Prop where
 sb:SB W0 w wr N K (fun b=>K b/\b<w.heap.size) o0 S A n cp d #[.string s.s,.int .i64 s.kind,.int .i64 s.par,.slice eA en ec,.slice fA fn fc,.slice tA ts.length tc] pv ps
 row:RowC 81 4 tpV tpN M wr (.slice tA ts.length tc) ts
 lt:S<M
 sz:M<=wr.heap.size
 dep:Dep wr (fun b=>S<b/\b<M) (fun y=>Acs y (.slice eA en ec) s.en/\Acs y (.slice fA fn fc) s.ex)
theorem TsM.on {W0 w:World} {N:Nat} {K:Nat -> Prop} {o0:Option Nat} {S:Nat} {eA:Option Addr} {en ec:Nat} {fA:Option Addr} {fn fc:Nat} {s:Sx} {pv:Value} {ps:List SP} {d:Cur} {ts:List TP} {A:Option Addr} {n cp:Nat} {tA:Option Addr} {tc M:Nat} {wr y:World}
 (h:TsM W0 w N K o0 S eA en ec fA fn fc s pv ps d ts A n cp tA tc M wr) (hb:Below wr.heap.size wr y):TsM W0 w N K o0 S eA en ec fA fn fc s pv ps d ts A n cp tA tc M y:=⟨h.sb.on hb,h.row.keep hb,h.lt,Nat.le_trans h.sz hb.size,h.dep.keep hb⟩
def TsRel (W0 w:World) (N:Nat) (K:Nat -> Prop) (o0:Option Nat) (S:Nat) (eA:Option Addr) (en ec:Nat) (fA:Option Addr) (fn fc:Nat) (s:Sx) (pv:Value) (ps:List SP) (F:Cur × List Tr) (M gh:Nat) (wr:World):Prop :=
 ∃ (d:Cur) (ts:List TP) (A:Option Addr) (n cp:Nat) (tA:Option Addr) (tc:Nat),TsM W0 w N K o0 S eA en ec fA fn fc s pv ps d ts A n cp tA tc M wr/\Ok d/\d.L.length<=100000/\ts.length<=16/\loopT qT stT d (ts.map (·.t))=F/\left d<=gh
def KdRel (W0 w:World) (N:Nat) (K:Nat -> Prop) (o0:Option Nat) (S k:Nat) (ps:List SP) (p:SP) (cs:Array Value) (F:Cur × List Sx) (gh:Nat) (pv:Value) (wr:World):Prop :=
 ∃ (d:Cur) (qs:List SP) (A:Option Addr) (n cp:Nat),SB W0 w wr N K (KF K w.heap.size S) o0 S A n cp d cs pv (ps ++ p :: qs) /\ Ok d /\ d.L.length <= 100000 /\ (ps ++ p :: qs).length <= 60 /\
   (p.x.kind=1->F=(d,qs.map (·.x)))/\(p.x.kind≠1->d.bad=0->loopT qS (stS (stR k) k ps.length) d (qs.map (·.x))=F)/\(d.bad≠0->F.1=d)/\left d<=gh
end
end Go.Proofs.YtbdalbpackfejaaGreatDoor
