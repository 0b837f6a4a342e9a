/- FormVars, FormRead, FormParse, PrintStateW, joined. -/
import Derived.Test.YtbdalbpackfejaaGreatDoorMFormatOf29
import Derived.Test.YtbdalbpackfejaaGreatDoorMFormatOf21
set_option maxHeartbeats 16000000
set_option maxRecDepth 100000
namespace Go.Proofs.YtbdalbpackfejaaGreatDoor
section
open Go.RowKit CurSpec TermSpec EvalSpec ActSpec NamesSpec ExprSpec TransSpec SynSpec FormSpec
set_option maxRecDepth 100000
abbrev RowVx (N:Nat) (wr:World) (pv:Value) (ps:List Vr):Prop:=RowC 46 4 vrV (fun _ _=>True) N wr pv ps
theorem vb_zero (w:World):(Instr.build 46 #[]).run Tryz.prog w = .ok (.agg #[.string ⟨#[]⟩,.int .i64 0,.int .i64 0,.int .i64 0]) w:=run_build w 46 _ _ (by kernel_rfl)
def VsRel (W0 w:World) (F:Cur × List Vr) (gh:Nat) (out:Value) (wr:World):Prop :=
 ∃ (c:Cur) (ps:List Vr) (A:Option Addr) (n cp:Nat),CB W0 w wr none w.heap.size A n cp c/\Ok c/\RowVx (w.heap.size+2) wr out ps/\ps.length<=4/\loopT qV SynSpec.stV c ps=F/\left c<=gh
theorem rva_say (c:Cur) (ok:Ok c) (A:Option Addr) (n cp:Nat) (W0 w:World) (h:Toks W0 (.slice A n cp) c.L) (hw:Below W0.heap.size W0 w) :
 Calls Tryz.prog 60 #[.agg #[.slice A n cp,.int .i64 c.w1,.int .i64 c.w2,.int .i64 c.a1,.int .i64 c.a2,.int .i64 c.bad]] w (RetLs (fun x v=>(vaR c).1.bad=0->RdV x v (vaR c).2) W0 w (vaR c).1):=by
 have b0:=vb_zero;obtain ⟨i0,hi,hz0,hz1,hz2⟩:=info_parts inf_var;have HI:=qh (And.intro hi (And.intro hz0 (And.intro hz1 hz2)));have H0:=qh (CB.start h hw);obtain ⟨F,hF⟩:∃ F,F=vaR c:=⟨_,rfl⟩;rw [<- hF]
 have HST:Hid (VsRel W0 w F (left c) (.slice (some ⟨w.heap.size + 2,0,none⟩) 0 0) (((w.alloc (rcO A n cp c)).alloc rcZ).alloc (.cells #[] 46))):=Lib.hid
  ⟨c,[],A,n,cp,H0.o.alloc _,ok,by have:=RowC.lit0 (T:=46) (k:=4) (cv:=vrV) (nest:=fun _ _=>True) (N:=w.heap.size+2) (wr:=(w.alloc (rcO A n cp c)).alloc rcZ) (by simp); simpa using this,by simp,hF.symm,Nat.le_refl _⟩
 clear h hw ok hF hi hz0 hz1 hz2;go_enter Tryz.func60,Tryz.ntmps60;go_wp2_with fail
 go_loopg [4,5] (left c) (fun gh out _ wr=>VsRel W0 w F gh out wr)
 case atStart=>exact HST.o
 case round =>
  obtain ⟨t,ps,A4,n4,p4,hcb,hok,hrow,h4,hlo,hgh⟩:=hrel;have HC:=qh hcb;have HR:=qh hrow;have HGH:=qh hgh;obtain ⟨pA,pc,rfl⟩:=hrow.shape;obtain ⟨k,hk⟩:∃ k,k=ps.length:=⟨_,rfl⟩;rw [<- hk];rw [<- hk] at HR;have HK:=qh hk;have hkI:(k:Int)<=4:=by omega
  obtain ⟨c0,c1,c2,c3,c4,c5⟩:=Qc hcb.cur;have HQ:=qh (fun b hb A n cp W hT hW=>Qax t wVar b hb A n cp W0 W hT hW)
  by_cases hq:qV t=true
  ·have HQ2:=qh (HQ.o true hq)
   have hlo2:=JA QbQ (out:=ps) hq;rw [hlo] at hlo2
   by_cases hk4:k=4
   ·have g1:((k:Int) == 4) = true:=by simp; omega
    have hbad:=QB t (show (8:Int)≠0 by decide)
    have HF:Hid (F.1 = fail t 8 /\ (fail t 8).bad ≠ 0):=qh (by
     refine ⟨?_,hbad⟩;have h1:(SynSpec.stV t ps).1=fail t 8:=by show (varR (fullO 4 t ps)).1=_; unfold fullO; rw [if_pos (hk ▸ hk4)]; exact varR_dead hbad
     rw [hlo2,Jm (fun h'=>hbad (by rw [<- h1]; exact (QbQ.real h').1)),h1])
    have HFA:=qh (fun A n cp W hT hW=>Jw t 8 A n cp W0 W hT hW);obtain ⟨m,hm⟩:∃ m,m=fail t 8:=⟨_,rfl⟩;rw [<- hm] at HFA HF;clear hcb hok hrow h4 hlo hgh hlo2 hbad hm hk hq hk4 HQ;go_wp2_with (go_at_call 106; go_fit (HQ2.o _ _ _ _ HC.o.toks HC.o.now));rintro e y1 ⟨rfl,hb1⟩;have HC1:=qh (HC.o.on hb1);have HR1:=qh (HR.o.keep hb1);clear hb1 c0 c1 c2 c3 c4 c5;obtain ⟨c0,c1,c2,c3,c4,c5⟩:=Qc HC1.o.cur;go_wp2_with (go_at_call 64; go_fit (HFA.o _ _ _ _ HC1.o.toks HC1.o.now));rintro e y2 ⟨A5,n5,p5,rfl,hT5,hb5⟩;have HT5:=qh hT5;have H5:=qh (HC1.o.on hb5);obtain ⟨⟨r0,r1,r2,r3,r4,r5⟩,g0,g1,g2,g3,g4,g5⟩:=And.intro (Qc H5.o.res) (Qk H5.o.res);obtain ⟨q0,q1,q2,q3,q4,q5⟩:=Jt H5.o.res A5 n5 p5 m;clear hT5 hb5;go_wp2_with fail;refine bodyPost_ret (v:=.tuple #[.agg #[.slice A5 n5 p5,.int .i64 m.w1,.int .i64 m.w2,.int .i64 m.a1,.int .i64 m.a2,.int .i64 m.bad],.slice pA k pc]) (by simp [results,Tryz.results60,go_sem,q0,q1,q2,q3,q4,q5]) rfl ?_;exact ⟨A5,n5,p5,pA,k,pc,by rw [HF.o.1],by rw [HF.o.1]; exact HT5.o,Dep.triv fun x hb=>absurd (HF.o.1 ▸ hb) HF.o.2,H5.o.done _ _ _ _⟩
   ·have g1:((k:Int) == 4) = false:=by simp; omega
    have hst:SynSpec.stV t ps=((varR t).1,ps++[(varR t).2]):=by unfold SynSpec.stV fullO; rw [if_neg fun h'=>hk4 (hk.trans h')]
    have hlf:=Za QbQ ps hq;rw [hst] at hlo2 hlf;have hok7:=(QdG t).ok hok;obtain ⟨a0,e0⟩:∃ a,a=on t:=⟨_,rfl⟩;have o0:Ok a0:=e0 ▸ hok.on;obtain ⟨a1,e1⟩:∃ a,a=nameC a0:=⟨_,rfl⟩;obtain ⟨nm,en⟩:∃ a,a=nameS a0:=⟨_,rfl⟩;have o1:Ok a1:=e1 ▸ o0.nameC;obtain ⟨⟨a2,lo⟩,e2⟩:∃ a,a=intR a1:=⟨_,rfl⟩;have o2:Ok a2:=by have:=(Zm a1).ok o1; rwa [<- e2] at this
    obtain ⟨a3,e3⟩:∃ a,a=want a2 3 wDots:=⟨_,rfl⟩;have o3:Ok a3:=e3 ▸ o2.want _ _;obtain ⟨⟨a4,hi⟩,e4⟩:∃ a,a=intR a3:=⟨_,rfl⟩;have o4:Ok a4:=by have:=(Zm a3).ok o3; rwa [<- e4] at this
    obtain ⟨a5,e5⟩:∃ a,a=want a4 3 wIs:=⟨_,rfl⟩;have o5:Ok a5:=e5 ▸ o4.want _ _;obtain ⟨⟨a6,ini⟩,e6⟩:∃ a,a=intR a5:=⟨_,rfl⟩;obtain ⟨a7,e7⟩:∃ a,a=want a6 3 wEnd:=⟨_,rfl⟩
    have hv:varR t = (a7,⟨nm,lo,hi,ini⟩):=by
     unfold varR;rw [SynSpec.Qad hq,<- e0,<- e1,<- en,<- e2];dsimp only;rw [<- e3,<- e4];dsimp only;rw [<- e5,<- e6];dsimp only;rw [<- e7]
    rw [hv] at hlo2 hlf hok7;dsimp only at hlo2 hlf hok7;have HON:=qh (fun A n cp W hT hW=>Ji t A n cp W0 W hT hW);have HNM:=qh (fun A n cp W hT hW=>JZ a0 o0 A n cp W0 W hT hW);have HI1:=qh (fun A n cp W hT hW=>Qer a1 o1 A n cp W0 W hT hW);have HM1:=qh (fun A n cp W hT hW=>QS a2 wDots A n cp W0 W hT hW);have HI2:=qh (fun A n cp W hT hW=>Qer a3 o3 A n cp W0 W hT hW);have HM2:=qh (fun A n cp W hT hW=>QS a4 wIs A n cp W0 W hT hW);have HI3:=qh (fun A n cp W hT hW=>Qer a5 o5 A n cp W0 W hT hW);have HM3:=qh (fun A n cp W hT hW=>QS a6 wEnd A n cp W0 W hT hW);rw [<- e0] at HON;rw [<- e1,<- en] at HNM;rw [<- e2] at HI1;rw [<- e3] at HM1;rw [<- e4] at HI2;rw [<- e5] at HM2;rw [<- e6] at HI3;rw [<- e7] at HM3;have HEND:=qh (And.intro hok7 (And.intro hlo2.symm hlf));have HL1:Hid (ps.length+1<=maxLen):=qh (by unfold maxLen; omega);have HL2:Hid ((ps.length+1)*40<=140737488355328):=qh (by omega);have HK3:Hid ((ps++[(⟨nm,lo,hi,ini⟩:Vr)]).length<=4):=qh (by rw [List.length_append]; show ps.length+1<=4; omega);clear hcb hok hrow h4 hlo hgh hlo2 hst hlf hok7 hk hq hk4 HQ e0 e1 en e2 e3 e4 e5 e6 e7 o0 o1 o2 o3 o4 o5 hv;go_wp2_with (go_at_call 106; go_fit (HQ2.o _ _ _ _ HC.o.toks HC.o.now));rintro e y1 ⟨rfl,hb1⟩;have HV1:=qh (VB.start (Tb:=46) (HC.o.on hb1) (HR.o.keep hb1) #[.string ⟨#[]⟩,.int .i64 0,.int .i64 0,.int .i64 0]);have hlt:=(HC.o.on hb1).lt.2;have hn1:¬ y1.heap.size=w.heap.size:=by omega
    have hn2:¬ w.heap.size=y1.heap.size:=by omega
    clear hb1 c0 c1 c2 c3 c4 c5 hlt;obtain ⟨c0,c1,c2,c3,c4,c5⟩:=Qc HV1.o.cb.cur;go_wp2_with (go_at_call 63; go_fit (HON.o _ _ _ _ HV1.o.cb.toks HV1.o.cb.now));rintro e y2 ⟨A5,n5,p5,rfl,hT5,hb5⟩;have HT5:=qh hT5;have HV2:=qh (HV1.o.on hb5);clear hT5 hb5 c0 c1 c2 c3 c4 c5;go_wp2_with (go_at_call 56; go_fit (HNM.o _ _ _ _ HT5.o HV2.o.cb.now));rintro e y3 ⟨A6,n6,p6,rfl,hT,hb⟩;obtain ⟨⟨z0,z1,z2,z3,z4,z5⟩,f0,f1,f2,f3,f4,f5⟩:=And.intro (Qc ((HV2.o.on hb).cb.cur)) (Qk ((HV2.o.on hb).cb.cur));have fv:=Qf (HV2.o.on hb).bx 0;have fc:=Qb (HV2.o.on hb).bx (i:=0) (v:=.string ⟨#[]⟩) rfl;have HV3:=qh (((HV2.o.on hb).set hT).put 0 (.string nm));clear hT hb;obtain ⟨c0,c1,c2,c3,c4,c5⟩:=Qc HV3.o.cb.cur;go_wp2_with (go_at_call 108; go_fit (HI1.o _ _ _ _ HV3.o.cb.toks HV3.o.cb.now));rintro e y4 ⟨A7,n7,p7,rfl,hT,hb⟩;clear z0 z1 z2 z3 z4 z5 f0 f1 f2 f3 f4 f5 fv fc c0 c1 c2 c3 c4 c5;obtain ⟨⟨z0,z1,z2,z3,z4,z5⟩,f0,f1,f2,f3,f4,f5⟩:=And.intro (Qc ((HV3.o.on hb).cb.cur)) (Qk ((HV3.o.on hb).cb.cur));have fv:=Qf (HV3.o.on hb).bx 1;have fc:=Qb (HV3.o.on hb).bx (i:=1) (v:=.int .i64 0) rfl;have HV4:=qh (((HV3.o.on hb).set hT).put 1 (.int .i64 lo));clear hT hb;obtain ⟨c0,c1,c2,c3,c4,c5⟩:=Qc HV4.o.cb.cur;go_wp2_with (go_at_call 59; go_fit (HM1.o _ _ _ _ HV4.o.cb.toks HV4.o.cb.now));rintro e y5 ⟨A8,n8,p8,rfl,hT5,hb5⟩;have HT5:=qh hT5;have HV5:=qh (HV4.o.on hb5);clear hT5 hb5 z0 z1 z2 z3 z4 z5 f0 f1 f2 f3 f4 f5 fv fc c0 c1 c2 c3 c4 c5;go_wp2_with (go_at_call 108; go_fit (HI2.o _ _ _ _ HT5.o HV5.o.cb.now));rintro e y6 ⟨A9,n9,p9,rfl,hT,hb⟩;obtain ⟨⟨z0,z1,z2,z3,z4,z5⟩,f0,f1,f2,f3,f4,f5⟩:=And.intro (Qc ((HV5.o.on hb).cb.cur)) (Qk ((HV5.o.on hb).cb.cur));have fv:=Qf (HV5.o.on hb).bx 2;have fc:=Qb (HV5.o.on hb).bx (i:=2) (v:=.int .i64 0) rfl;have HV6:=qh (((HV5.o.on hb).set hT).put 2 (.int .i64 hi));clear hT hb;obtain ⟨c0,c1,c2,c3,c4,c5⟩:=Qc HV6.o.cb.cur;go_wp2_with (go_at_call 59; go_fit (HM2.o _ _ _ _ HV6.o.cb.toks HV6.o.cb.now));rintro e y7 ⟨A10,n10,p10,rfl,hT5,hb5⟩;have HT5:=qh hT5;have HV7:=qh (HV6.o.on hb5);clear hT5 hb5 z0 z1 z2 z3 z4 z5 f0 f1 f2 f3 f4 f5 fv fc c0 c1 c2 c3 c4 c5;go_wp2_with (go_at_call 108; go_fit (HI3.o _ _ _ _ HT5.o HV7.o.cb.now));rintro e y8 ⟨A11,n11,p11,rfl,hT,hb⟩;obtain ⟨⟨z0,z1,z2,z3,z4,z5⟩,f0,f1,f2,f3,f4,f5⟩:=And.intro (Qc ((HV7.o.on hb).cb.cur)) (Qk ((HV7.o.on hb).cb.cur));have fv:=Qf (HV7.o.on hb).bx 3;have fc:=Qb (HV7.o.on hb).bx (i:=3) (v:=.int .i64 0) rfl;have HV8:=qh (((HV7.o.on hb).set hT).put 3 (.int .i64 ini));clear hT hb;obtain ⟨c0,c1,c2,c3,c4,c5⟩:=Qc HV8.o.cb.cur;go_wp2_with (go_at_call 59; go_fit (HM3.o _ _ _ _ HV8.o.cb.toks HV8.o.cb.now));rintro e y9 ⟨A12,n12,p12,rfl,hT,hb⟩;clear z0 z1 z2 z3 z4 z5 f0 f1 f2 f3 f4 f5 fv fc c0 c1 c2 c3 c4 c5;obtain ⟨⟨z0,z1,z2,z3,z4,z5⟩,f0,f1,f2,f3,f4,f5⟩:=And.intro (Qc ((HV8.o.on hb).cb.cur)) (Qk ((HV8.o.on hb).cb.cur));have hv9:=(HV8.o.on hb).set hT;obtain ⟨X,hX⟩:∃ X,setQ y9 w.heap.size A12 n12 p12 a7=X:=⟨_,rfl⟩;rw [hX] at hv9;unfold setQ at hX;have HV9:=qh hv9;have HX:=qh hX;clear hT hb hv9 hX;go_upto_region 11 with fail;rw [HX.o];obtain ⟨v0,v1,v2,v3⟩:=Qi (show X.heap[y1.heap.size]?=some (.cells #[.string nm,.int .i64 lo,.int .i64 hi,.int .i64 ini] 46 (0,0)) from HV9.o.bx);go_wp2_with (at_builtin; refine Jh rfl (.tmp 45) (.tmp 47) _ rfl i0 (.agg #[.string ByteArray.empty,.int .i64 0,.int .i64 0,.int .i64 0]) 40 Tryz.underlying31 HI.o.1 HI.o.2.1 HI.o.2.2.1 HI.o.2.2.2 rfl (by decide) HV9.o.back (by have:=HV9.o.cb.lt.2; omega) ⟨nm,lo,hi,ini⟩ (Dep.triv fun _=>trivial) rfl rfl rfl (QgI _) HL1.o HL2.o ?_; intro p2 w2 ⟨hrow2,hg2,ho2⟩; have HR9:=qh hrow2; have HG9:=qh hg2; clear hrow2 hg2 ho2);have HC9:=qh (HV9.o.cb.go HG9.o fun j e=>by have:=HV9.o.row.bd j e; omega)
    go_roundg (left a7)
    case measure=>have h1:=HEND.o.2.2; have h3:=HGH.o; omega
    case rel =>
     refine ⟨a7,ps++[⟨nm,lo,hi,ini⟩],A12,n12,p12,HC9.o,HEND.o.1,?_,?_,?_,?_⟩
     ·exact HR9.o
     ·exact HK3.o
     ·exact HEND.o.2.1
     ·exact Nat.le_refl _
  ·have HQ2:=qh (HQ.o false (by simpa [qV] using hq))
   have HF:Hid (F=(t,ps)):=qh (by rw [<- hlo,Jm hq]);clear hcb hok hrow h4 hlo hgh hk hq HQ;go_wp2_with (go_at_call 106; go_fit (HQ2.o _ _ _ _ HC.o.toks HC.o.now));rintro e y1 ⟨rfl,hb1⟩;have HC1:=qh (HC.o.on hb1);have HR1:=qh (HR.o.keep hb1);clear hb1 c0 c1 c2 c3 c4 c5;obtain ⟨c0,c1,c2,c3,c4,c5⟩:=Qc HC1.o.cur;obtain ⟨⟨r0,r1,r2,r3,r4,r5⟩,g0,g1,g2,g3,g4,g5⟩:=And.intro (Qc HC1.o.res) (Qk HC1.o.res);obtain ⟨q0,q1,q2,q3,q4,q5⟩:=Jt HC1.o.res A4 n4 p4 t;go_wp2_with fail;refine bodyPost_ret (v:=.tuple #[.agg #[.slice A4 n4 p4,.int .i64 t.w1,.int .i64 t.w2,.int .i64 t.a1,.int .i64 t.a2,.int .i64 t.bad],.slice pA k pc]) (by simp [results,Tryz.results60,go_sem,q0,q1,q2,q3,q4,q5]) rfl ?_;rw [HF.o];exact ⟨A4,n4,p4,pA,k,pc,rfl,HC1.o.toks,((HR1.o.low (Qw y1 (w.heap.size+1) A4 n4 p4 t) (by intro j e; cases e; omega)).far.mono fun b _ hb=>by omega).imp fun x hx _=>hx.1,HC1.o.done _ _ _ _⟩
end
section
open Go.RowKit CurSpec TermSpec EvalSpec ActSpec NamesSpec ExprSpec TransSpec SynSpec FormSpec ScanSpec
set_option maxRecDepth 100000
structure CQ (W0 w x:World) (A:Option Addr) (n cp:Nat) (c:Cur) (cs:Array Value):Prop where
 cb:CB W0 w x none w.heap.size A n cp c
 rs:x.heap[w.heap.size+2]?=some chZ
 bx:x.heap[w.heap.size+3]?=some (.cells cs 34 (0,0))
section
variable {W0 w x y:World} {A A':Option Addr} {n cp n' cp':Nat} {c c':Cur} {cs:Array Value}
theorem CQ.on (h:CQ W0 w x A n cp c cs) (hb:Below x.heap.size x y):CQ W0 w y A n cp c cs:=⟨h.cb.on hb,Qe h.rs hb,Qe h.bx hb⟩
theorem CQ.lt (h:CQ W0 w x A n cp c cs):w.heap.size+4<=x.heap.size:=(Array.getElem?_eq_some_iff.1 h.bx).1
theorem CQ.set (h:CQ W0 w x A n cp c cs) (hT:Toks W0 (.slice A' n' cp') c'.L):CQ W0 w (setQ x w.heap.size A' n' cp' c') A' n' cp' c' cs :=
 ⟨h.cb.set hT,Je h.rs (Qw _ _ _ _ _ _) (by omega),Je h.bx (Qw _ _ _ _ _ _) (by omega)⟩
theorem CQ.put (h:CQ W0 w x A n cp c cs) (i:Nat) (u:Value):CQ W0 w (x.setCell ⟨w.heap.size + 3,i,none⟩ u) A n cp c (cs.setIfInBounds i u) :=
 have hs:x.grownBy (x.setCell ⟨w.heap.size+3,i,none⟩ u) (some (w.heap.size+3)):=Ql (Qx _ _) _ _
 ⟨h.cb.but hs (by omega) (by omega),Je h.rs hs (by omega),Qd h.bx i u⟩
theorem CQ.dep {P:World -> Prop} (hd:Dep x (fun b => w.heap.size + 4 <= b) P) (A':Option Addr) (n' cp':Nat) (c':Cur) (i:Nat) (u:Value):Dep ((setQ x w.heap.size A' n' cp' c').setCell ⟨w.heap.size + 3,i,none⟩ u) (fun b => w.heap.size + 4 <= b) P :=
 (hd.go (Qw _ _ _ _ _ _) fun b hb e=>by cases e; omega).go (Ql (Qx _ _) i u:(setQ x w.heap.size A' n' cp' c').grownBy _ (some (w.heap.size+3))) fun b hb e=>by cases e; omega
end
def RetCq (W0 W:World) (p:Cur × Cx) (e:Ending) (w':World):Prop :=
 ∃ A n cp eA en ec vA vn vc sA sn sc,e = .returned (.tuple #[.agg #[.slice A n cp,.int .i64 p.1.w1,.int .i64 p.1.w2,.int .i64 p.1.a1,.int .i64 p.1.a2,.int .i64 p.1.bad],.agg #[.string p.2.s,.slice eA en ec,.slice vA vn vc,.slice sA sn sc]]) /\ Toks W0 (.slice A n cp) p.1.L /\
   Dep w' (fun b=>W.heap.size<=b) (fun x=>ChIn x (.slice eA en ec) (.slice vA vn vc) (.slice sA sn sc) p.2)/\Below W.heap.size W w'
theorem rrd_say (c:Cur) (ok:Ok c) (hlen:c.L.length <= 100000) (A:Option Addr) (n cp:Nat) (W0 w:World) (h:Toks W0 (.slice A n cp) c.L) (hw:Below W0.heap.size W0 w) :
 Calls Tryz.prog 25 #[.agg #[.slice A n cp,.int .i64 c.w1,.int .i64 c.w2,.int .i64 c.a1,.int .i64 c.a2,.int .i64 c.bad]] w (RetCq W0 w (readC c)):=by
 have b0:=QaP
 have H0:Hid (CQ W0 w ((((w.alloc (rcO A n cp c)).alloc rcZ).alloc chZ).alloc chZ) A n cp c #[.string ⟨#[]⟩,.slice none 0 0,.slice none 0 0,.slice none 0 0]):=Lib.hid
  ⟨((CB.start h hw).alloc _).alloc _,by have:=Qe (heap_alloc_new ((w.alloc (rcO A n cp c)).alloc rcZ) chZ) (KitC.Qh _ chZ); simpa using this,by have:=heap_alloc_new (((w.alloc (rcO A n cp c)).alloc rcZ).alloc chZ) chZ; simpa using this⟩
 obtain ⟨a1,e1⟩:∃ a,a=want c 1 wChart:=⟨_,rfl⟩;have t1:To c a1:=e1 ▸ QM c 1 wChart;obtain ⟨a2,e2⟩:∃ a,a=nameC a1:=⟨_,rfl⟩;have t2:To c a2:=t1.trans (e2 ▸ Ju a1);obtain ⟨nm,en⟩:∃ a,a=nameS a1:=⟨_,rfl⟩;obtain ⟨a3,e3⟩:∃ a,a=want a2 3 wOpen:=⟨_,rfl⟩;have t3:To c a3:=t2.trans (e3 ▸ QM a2 3 wOpen);obtain ⟨⟨a4,evs⟩,e4⟩:∃ a,a=evR a3:=⟨_,rfl⟩;have t4:To c a4:=t3.trans (by have:=to_evR a3; rwa [<- e4] at this);obtain ⟨⟨a5,vs⟩,e5⟩:∃ a,a=vaR a4:=⟨_,rfl⟩;have k5:To a4 a5:=by have:=to_vaR a4; rwa [<- e5] at this
 have t5:=t4.trans k5;obtain ⟨X,eX⟩:∃ a,a=XS 12 0 (-1) a5:=⟨_,rfl⟩;have hx:=xs_first (c:=a5);rw [<- eX] at hx;have k6:To a5 X.1:=by have:=xs_to 12 0 (-1) a5; rwa [<- eX] at this
 obtain ⟨a7,e7⟩:∃ a,a=want X.1 3 wShut:=⟨_,rfl⟩;have k7:To X.1 a7:=e7 ▸ QM X.1 3 wShut;obtain ⟨P,hP⟩:∃ P,P=readC c:=⟨_,rfl⟩;rw [<- hP]
 have HP:Hid (P.1 = a7 /\ (a7.bad = 0 -> P.2 = ⟨nm,evs,vs,X.2⟩) /\ (a7.bad ≠ 0 -> P.2 = zeroC)):=qh (by
  have h1:(seqC c).1 = a7:=by
   unfold seqC;dsimp only;rw [<- e1,<- e2,<- e3,<- e4]; dsimp only;rw [<- e5]; dsimp only;rw [<- hx.1,<- e7]
  have h2:a7.bad = 0 -> (seqC c).2 = ⟨nm,evs,vs,X.2⟩:=fun h0 => by
   have hX0:X.1.bad=0:=Decidable.byContradiction fun h'=>k7.bad h' h0
   unfold seqC;dsimp only;rw [<- e1,<- e2,<- e3,<- e4,<- en]; dsimp only;rw [<- e5]; dsimp only;rw [hx.2 hX0]
  refine ⟨by rw [hP]; exact h1,fun h0=>?_,fun h0=>?_⟩
  ·rw [hP]; unfold readC; rw [h1]; dsimp only; rw [if_pos h0]; exact h2 h0
  ·rw [hP]; unfold readC; rw [h1]; dsimp only; rw [if_neg h0])
 have HG5:Hid (a7.bad = 0 -> a4.bad = 0 /\ a5.bad = 0 /\ X.1.bad = 0):=qh fun h0 => by
  have hX0:X.1.bad=0:=Decidable.byContradiction fun h'=>k7.bad h' h0
  have h5:a5.bad=0:=Decidable.byContradiction fun h'=>k6.bad h' hX0
  exact ⟨Decidable.byContradiction fun h'=>k5.bad h' h5,h5,hX0⟩
 have HW1:=qh (fun A n cp W hT hW=>QfX c wChart A n cp W0 W hT hW);have HN1:=qh (fun A n cp W hT hW=>JZ a1 (t1.ok ok) A n cp W0 W hT hW);have HM3:=qh (fun A n cp W hT hW=>QS a2 wOpen A n cp W0 W hT hW);have HE4:=qh (fun A n cp W hT hW=>rev_say a3 (t3.ok ok) A n cp W0 W hT hW);have HV5:=qh (fun A n cp W hT hW=>rva_say a4 (t4.ok ok) A n cp W0 W hT hW);have HS6:=qh (fun A n cp (W:World) (hT:Toks W0 (.slice A n cp) a5.L) (hW:Below W0.heap.size W0 W)=>QeW W0 W0.heap.size (Nat.le_refl _) 12 (Nat.le_refl _) a5 [] (-1) 1 (fun b=>W.heap.size<=b) none 0 A n cp W (t5.ok ok) (Nat.le_trans t5.len hlen) hT hW hW.size RowK.nil (Nat.zero_le _) rfl);have HM7:=qh (fun A n cp W hT hW=>QS X.1 wShut A n cp W0 W hT hW);rw [<- e1] at HW1;rw [<- e2,<- en] at HN1;rw [<- e3] at HM3;rw [<- e4] at HE4;rw [<- e5] at HV5;rw [List.length_nil,<- eX] at HS6;rw [<- e7] at HM7;clear e1 t1 e2 t2 en e3 t3 e4 t4 e5 t5 k5 eX hx k6 e7 k7 hP h hw ok hlen;obtain ⟨c0,c1,c2,c3,c4,c5⟩:=Qc H0.o.cb.cur;go_enter Tryz.func25,Tryz.ntmps25;go_wp2_with (go_at_call 57; go_fit (HW1.o _ _ _ _ H0.o.cb.toks H0.o.cb.now));rintro e x1 ⟨A1,n1,p1,rfl,hT,hb⟩;have H1:=qh (H0.o.on hb);have HT1:=qh hT;clear hT hb c0 c1 c2 c3 c4 c5;go_wp2_with (go_at_call 56; go_fit (HN1.o _ _ _ _ HT1.o H1.o.cb.now));rintro e x2 ⟨A2,n2,p2,rfl,hT,hb⟩;obtain ⟨⟨z0,z1,z2,z3,z4,z5⟩,f0,f1,f2,f3,f4,f5⟩:=And.intro (Qc (H1.o.on hb).cb.cur) (Qk (H1.o.on hb).cb.cur);have fv:=Qf (H1.o.on hb).bx 0;have fc:=Qb (H1.o.on hb).bx (i:=0) (v:=.string ⟨#[]⟩) rfl;have H2:=qh (((H1.o.on hb).set hT).put 0 (.string nm));clear hT hb;obtain ⟨c0,c1,c2,c3,c4,c5⟩:=Qc H2.o.cb.cur;go_wp2_with (go_at_call 59; go_fit (HM3.o _ _ _ _ H2.o.cb.toks H2.o.cb.now));rintro e x3 ⟨A3,n3,p3,rfl,hT,hb⟩;have H3:=qh (H2.o.on hb);have HT3:=qh hT;clear hT hb c0 c1 c2 c3 c4 c5 z0 z1 z2 z3 z4 z5 f0 f1 f2 f3 f4 f5 fv fc;go_wp2_with (go_at_call 58; go_fit (HE4.o _ _ _ _ HT3.o H3.o.cb.now));rintro e x4 ⟨A4,n4,p4,eA,en,ec,rfl,hT,hd,hb⟩;obtain ⟨⟨z0,z1,z2,z3,z4,z5⟩,f0,f1,f2,f3,f4,f5⟩:=And.intro (Qc (H3.o.on hb).cb.cur) (Qk (H3.o.on hb).cb.cur);have fv:=Qf (H3.o.on hb).bx 1;have fc:=Qb (H3.o.on hb).bx (i:=1) (v:=.slice none 0 0) rfl;have H4:=qh (((H3.o.on hb).set hT).put 1 (.slice eA en ec));have HD4:=qh (CQ.dep (hd.mono (S':=fun b=>w.heap.size+4<=b) fun b _ h=>Nat.le_trans H3.o.lt h) A4 n4 p4 a4 1 (.slice eA en ec));clear hT hb hd;obtain ⟨c0,c1,c2,c3,c4,c5⟩:=Qc H4.o.cb.cur;go_wp2_with (go_at_call 60; go_fit (HV5.o _ _ _ _ H4.o.cb.toks H4.o.cb.now));rintro e x5 ⟨A5,n5,p5,vA,vn,vc,rfl,hT,hd,hb⟩;clear c0 c1 c2 c3 c4 c5 z0 z1 z2 z3 z4 z5 f0 f1 f2 f3 f4 f5 fv fc;obtain ⟨⟨z0,z1,z2,z3,z4,z5⟩,f0,f1,f2,f3,f4,f5⟩:=And.intro (Qc (H4.o.on hb).cb.cur) (Qk (H4.o.on hb).cb.cur);have fv:=Qf (H4.o.on hb).bx 2;have fc:=Qb (H4.o.on hb).bx (i:=2) (v:=.slice none 0 0) rfl;have H5:=qh (((H4.o.on hb).set hT).put 2 (.slice vA vn vc));have HD5:=qh (CQ.dep ((HD4.o.keep hb).and (hd.mono (S':=fun b=>w.heap.size+4<=b) fun b _ h=>Nat.le_trans H4.o.lt h)) A5 n5 p5 a5 2 (.slice vA vn vc));clear hT hb hd;obtain ⟨c0,c1,c2,c3,c4,c5⟩:=Qc H5.o.cb.cur;go_wp2_with (go_at_call 61; go_fit (HS6.o _ _ _ _ H5.o.cb.toks H5.o.cb.now));rintro e x6 ⟨A6,n6,p6,sA,sn,sc,qs,rfl,hT,hq,hr,hg,ho,h60⟩;have hb:Below (World.heap _).size _ x6:=Qa6 hg;clear c0 c1 c2 c3 c4 c5 z0 z1 z2 z3 z4 z5 f0 f1 f2 f3 f4 f5 fv fc;obtain ⟨⟨z0,z1,z2,z3,z4,z5⟩,f0,f1,f2,f3,f4,f5⟩:=And.intro (Qc (H5.o.on hb).cb.cur) (Qk (H5.o.on hb).cb.cur);have fv:=Qf (H5.o.on hb).bx 3;have fc:=Qb (H5.o.on hb).bx (i:=3) (v:=.slice none 0 0) rfl;have H6:=qh (((H5.o.on hb).set hT).put 3 (.slice sA sn sc))
 have hsts:Dep x6 (fun b => w.heap.size + 4 <= b) (fun x => X.1.bad = 0 -> StsP x (.slice sA sn sc) X.2):=by
  have hlt:=H5.o.lt
  have h1:Dep x6 (fun b => w.heap.size + 4 <= b) (fun x => Rdk 6 x (.slice sA sn sc) qs.length (qs.flatMap spV)):=Qbr (Rdk.own hr.own) fun _ b e => by
   rcases ho b e with h' | h'
   ·cases h'
   ·exact Nat.le_trans hlt h'
  refine (h1.and (Q:=fun x=>∀ p∈qs,spN p x) fun w2 hz hx p hp=>(hr.dep p hp) w2 hz fun b hlt' hS=>hx b hlt' ?_).imp fun x hx h0=>⟨qs,hq h0,hx.1,hx.2⟩
  rcases hS.1 with h' | h'<;>exact Nat.le_trans hlt h'
 have HD6:=qh (CQ.dep ((HD5.o.keep hb).and hsts) A6 n6 p6 X.1 3 (.slice sA sn sc));clear hT hb hq hr hg ho h60 hsts;obtain ⟨c0,c1,c2,c3,c4,c5⟩:=Qc H6.o.cb.cur;go_wp2_with (go_at_call 59; go_fit (HM7.o _ _ _ _ H6.o.cb.toks H6.o.cb.now));rintro e x7 ⟨A7,n7,p7,rfl,hT,hb⟩;clear c0 c1 c2 c3 c4 c5 z0 z1 z2 z3 z4 z5 f0 f1 f2 f3 f4 f5 fv fc;obtain ⟨⟨z0,z1,z2,z3,z4,z5⟩,f0,f1,f2,f3,f4,f5⟩:=And.intro (Qc (H6.o.on hb).cb.cur) (Qk (H6.o.on hb).cb.cur);have H7:=qh ((H6.o.on hb).set hT);have HD7:=qh ((HD6.o.keep hb).go (Qw x7 w.heap.size A7 n7 p7 a7) fun b hb e=>by cases e; omega);clear hT hb;obtain ⟨c0,c1,c2,c3,c4,c5⟩:=Qc H7.o.cb.cur;obtain ⟨t0,t1,t2,t3⟩:=Qi (show (setQ x7 w.heap.size A7 n7 p7 a7).heap[w.heap.size+3]?=some (.cells #[.string nm,.slice eA en ec,.slice vA vn vc,.slice sA sn sc] 34 (0,0)) from H7.o.bx);obtain ⟨⟨r0,r1,r2,r3,r4,r5⟩,g0,g1,g2,g3,g4,g5⟩:=And.intro (Qc H7.o.cb.res) (Qk H7.o.cb.res);obtain ⟨⟨s0,s1,s2,s3⟩,j0,j1,j2,j3⟩:=And.intro (Qi H7.o.rs) (Q3 H7.o.rs);have HDN:=qh (fun (u0 u1 u2 u3:Value)=>Qa6 (QcZ (H7.o.cb.fin A7 n7 p7 a7) (Zz (setQ (setQ x7 w.heap.size A7 n7 p7 a7) (w.heap.size+1) A7 n7 p7 a7) (w.heap.size+2) u0 u1 u2 u3) fun j e=>by cases e; exact .inr (by omega)))
 by_cases hc7:a7.bad=0
 ·have g6:(a7.bad != 0) = false:=by simp [hc7]
  have HP2:Hid (P=(a7,⟨nm,evs,vs,X.2⟩)):=qh (by rw [<- HP.o.1,<- HP.o.2.1 hc7]);have HGG:=qh (HG5.o hc7);clear hc7;go_wp2_with fail;go_region
  all_goals
   go_wp2_with fail;have HS:=qh (Qgs H7.o.cb.res H7.o.rs (by omega) A7 n7 p7 a7 (.string nm) (.slice eA en ec) (.slice vA vn vc) (.slice sA sn sc));obtain ⟨p0,p1,p2,p3,p4,p5⟩:=Qc HS.o.1;obtain ⟨y0,y1,y2,y3⟩:=Qi HS.o.2;refine bodyPost_ret (v:=.tuple #[.agg #[.slice A7 n7 p7,.int .i64 a7.w1,.int .i64 a7.w2,.int .i64 a7.a1,.int .i64 a7.a2,.int .i64 a7.bad],.agg #[.string nm,.slice eA en ec,.slice vA vn vc,.slice sA sn sc]]) (by simp [results,Tryz.results25,go_sem,p0,p1,p2,p3,p4,p5,y0,y1,y2,y3]) rfl ?_;rw [HP2.o];have hd:=((((HD7.o.imp (Q:=fun x=>ChIn x (.slice eA en ec) (.slice vA vn vc) (.slice sA sn sc) ⟨nm,evs,vs,X.2⟩) fun x hx=>⟨hx.1.1 HGG.o.1,hx.1.2 HGG.o.2.1,hx.2 HGG.o.2.2⟩).go (Qw _ (w.heap.size+1) A7 n7 p7 a7) fun b hb e=>by cases e; omega).go (Zz _ (w.heap.size+2) (.string nm) (.slice eA en ec) (.slice vA vn vc) (.slice sA sn sc)) fun b hb e=>by cases e; omega).keep ((Below.refl _ _).drew)).mono (S':=fun b=>w.heap.size<=b) fun b _ hb=>by omega
   exact ⟨A7,n7,p7,eA,en,ec,vA,vn,vc,sA,sn,sc,rfl,H7.o.cb.toks,hd,(HDN.o _ _ _ _).drew⟩
 ·have g6:(a7.bad != 0) = true:=by simp [hc7]
  have HP2:Hid (P=(a7,zeroC)):=qh (by rw [<- HP.o.1,<- HP.o.2.2 hc7]);clear hc7;go_wp2_with fail;have HS:=qh (Qgs H7.o.cb.res H7.o.rs (by omega) A7 n7 p7 a7 (.string ⟨#[]⟩) (.slice none 0 0) (.slice none 0 0) (.slice none 0 0));obtain ⟨p0,p1,p2,p3,p4,p5⟩:=Qc HS.o.1;obtain ⟨y0,y1,y2,y3⟩:=Qi HS.o.2;refine bodyPost_ret (v:=.tuple #[.agg #[.slice A7 n7 p7,.int .i64 a7.w1,.int .i64 a7.w2,.int .i64 a7.a1,.int .i64 a7.a2,.int .i64 a7.bad],.agg #[.string ⟨#[]⟩,.slice none 0 0,.slice none 0 0,.slice none 0 0]]) (by simp [results,Tryz.results25,go_sem,p0,p1,p2,p3,p4,p5,y0,y1,y2,y3]) rfl ?_;rw [HP2.o];exact ⟨A7,n7,p7,none,0,0,none,0,0,none,0,0,rfl,H7.o.cb.toks,Dep.triv fun x=>ChIn.zero x,HDN.o _ _ _ _⟩
end
section
open Go.RowKit CurSpec TermSpec EvalSpec ActSpec NamesSpec ExprSpec TransSpec SynSpec FormSpec ScanSpec
set_option maxRecDepth 100000
theorem Qi0 (s:ByteArray) (w:World) (hz:s.size <= 9223372036854775800) (he:(scanT s.data.toList).2.2 ≠ 0):Calls Tryz.prog 11 #[.string s] w (RetPc w (parseC s)):=by
 have b1:=QaP;have b2:=Qbm;have HT:=qh (Qfg s ((w.alloc chZ).alloc poZ) hz);obtain ⟨er,her⟩:∃ er,er=(scanT s.data.toList).2.2:=⟨_,rfl⟩;obtain ⟨l,hl⟩:∃ l,l=(pos s.data.toList (scanT s.data.toList).2.1).1:=⟨_,rfl⟩;obtain ⟨c,hc⟩:∃ c,c=(pos s.data.toList (scanT s.data.toList).2.1).2:=⟨_,rfl⟩;have HP:Hid (parseC s=⟨zeroC,l,c,er⟩):=qh (by unfold parseC; rw [if_pos he,<- her,<- hl,<- hc]);rw [<- her] at he;have e1:(er != 0)=true:=by simpa using he
 have HX:=qh (fun e w' (h:TokPost ((w.alloc chZ).alloc poZ) s e w') => by
  have:=h.2.1 (by rw [<- her]; exact he);rw [<- her,<- hl,<- hc] at this;exact And.intro this h.1)
 clear hz he her hl hc;go_enter Tryz.func11,Tryz.ntmps11;go_wp2_with (go_at_call 13; go_fit HT.o);intro e x1 hx1;obtain ⟨rfl,hb1⟩:=HX.o e x1 hx1;obtain ⟨k1,k2,hB1,hz1⟩:=Qz hb1;have HB1:=qh hB1;have HK1:=qh (And.intro k1 k2);clear hx1 hb1 hB1 k1 k2
 have HA:Hid ((x1.alloc (.cells #[.int .i64 l,.int .i64 c] 24)).heap[w.heap.size]? = some chZ /\ (x1.alloc (.cells #[.int .i64 l,.int .i64 c] 24)).heap[w.heap.size + 1]? = some poZ) :=
  qh ⟨(heap_alloc_old _ _ (by omega)).trans HK1.o.1,(heap_alloc_old _ _ (by omega)).trans HK1.o.2⟩
 obtain ⟨q0,q1,q2,q3⟩:=Qi HA.o.1;obtain ⟨f0,f1,f2,f3⟩:=Q3 HA.o.1;obtain ⟨r0,r1⟩:=QC HA.o.2;obtain ⟨g0,g1⟩:=Zu HA.o.2;go_wp2_with fail;go_region;have HS:=qh (Qac HA.o.1 HA.o.2 (.string ⟨#[]⟩) (.slice none 0 0) (.slice none 0 0) (.slice none 0 0) (.int .i64 l) (.int .i64 c));go_wp2_with fail;obtain ⟨p0,p1,p2,p3⟩:=Qi HS.o.1;obtain ⟨p4,p5⟩:=QC HS.o.2;refine bodyPost_ret (v:=.tuple #[.agg #[.string ⟨#[]⟩,.slice none 0 0,.slice none 0 0,.slice none 0 0],.agg #[.int .i64 l,.int .i64 c],.int .i64 er]) (by simp [results,Tryz.results11,go_sem,p0,p1,p2,p3,p4,p5]) rfl ?_;rw [HP.o];exact ⟨none,0,0,none,0,0,none,0,0,rfl,ChIn.zero _,(Qaj (HB1.o.alloc HB1.o.size _) (Nat.le_refl _) _ _ _ _ _ _).drew⟩
theorem cub_zero (A:Option Addr) (n cp:Nat) (w:World):(Instr.build 61 #[(0,.slice A n cp)]).run Tryz.prog w = .ok (.agg #[.slice A n cp,.int .i64 0,.int .i64 0,.int .i64 0,.int .i64 0,.int .i64 0]) w:=run_build w 61 _ _ (by kernel_rfl)
theorem rparse_ok (s:ByteArray) (w:World) (hz:s.size <= 9223372036854775800) (he:(scanT s.data.toList).2.2 = 0):Calls Tryz.prog 11 #[.string s] w (RetPc w (parseC s)):=by
 have b1:=QaP;have b2:=Qbm;have b3:=cub_zero;have HT:=qh (Qfg s ((w.alloc chZ).alloc poZ) hz);have HP:Hid (parseC s=endPc (readC (cur0 (tkAll s)))):=qh (if_neg (fun h=>h he));have HX:=qh (fun e w' (h:TokPost ((w.alloc chZ).alloc poZ) s e w')=>QdH h he);have hok:=Qhp s (by omega);have hlen:(cur0 (tkAll s)).L.length<=100000:=Nat.le_trans (tkAll_len s) (by decide);obtain ⟨P,hP⟩:∃ P,P=parseC s:=⟨_,rfl⟩;rw [<- hP] at HP ⊢;obtain ⟨L,hL⟩:∃ L,L=tkAll s:=⟨_,rfl⟩;rw [<- hL] at HP HX hok hlen;have HRD:=qh (fun A n cp W0 W (hT:Toks W0 (.slice A n cp) L) hW=>rrd_say (cur0 L) hok hlen A n cp W0 W hT hW);obtain ⟨r,hr⟩:∃ r,r=readC (cur0 L):=⟨_,rfl⟩;rw [<- hr] at HP HRD;have HRD2:Hid (∀ (A:Option Addr) (n cp:Nat) (W0 W:World),Toks W0 (.slice A n cp) L->Below W0.heap.size W0 W->Calls Tryz.prog 25 #[.agg #[.slice A n cp,.int .i64 0,.int .i64 0,.int .i64 0,.int .i64 0,.int .i64 0]] W (RetCq W0 W r)):=qh HRD.o;obtain ⟨d,hd⟩:∃ d,d=want r.1 0 ⟨#[]⟩:=⟨_,rfl⟩;have HW:=qh (fun A n cp W0 W hT hW=>Qd5 r.1 0 ⟨#[]⟩ A n cp W0 W hT hW);rw [<- hd] at HW;have HQ:Hid (P=if d.bad≠0 then ⟨zeroC,d.a1,d.a2,d.bad⟩ else ⟨r.2,0,0,0⟩):=qh (by rw [HP.o]; unfold endPc; rw [<- hd]);clear hz he hP hL hok hlen HRD hr hd;go_enter Tryz.func11,Tryz.ntmps11;go_wp2_with (go_at_call 13; go_fit HT.o);intro e x1 hx1;obtain ⟨A,n,cp,rfl,hT,-,hb1⟩:=HX.o e x1 hx1;obtain ⟨k1,k2,hB1,hz1⟩:=Qz hb1;have H1:=qh (And.intro k1 (And.intro k2 hB1));have HT1:=qh hT;clear hx1 hb1 hB1 k1 k2 hT HX HT;go_wp2_with (go_at_call 25; go_fit (HRD2.o A n cp x1 _ HT1.o (KitC.Qh x1 poZ)));rintro e x2 ⟨A2,n2,p2,eA,en,ec,vA,vn,vc,sA,sn,sc,rfl,hT,hd,hb⟩;obtain ⟨CO,hCO⟩:∃ CO:Obj,CO = .cells #[.string r.2.s,.slice eA en ec,.slice vA vn vc,.slice sA sn sc] 34:=⟨_,rfl⟩;have hb2:Below x1.heap.size x1 x2:=Qa (KitC.Qh x1 poZ) hb;have hsz:x1.heap.size<x2.heap.size:=by have:=hb.size; rw [World.size_alloc] at this; omega
 obtain ⟨Y,hY⟩:∃ Y,(x2.alloc (rcO A2 n2 p2 r.1)).alloc CO=Y:=⟨_,rfl⟩;have hby:Below x2.heap.size x2 Y:=by rw [<- hY]; exact Qa (KitC.Qh _ _) (KitC.Qh _ _)
 have hcy:Y.heap[x2.heap.size]?=some (rcO A2 n2 p2 r.1):=by rw [<- hY]; exact Qe (heap_alloc_new _ _) (KitC.Qh _ _)
 have hxy:Y.heap[x2.heap.size+1]?=some CO:=by have:=heap_alloc_new (x2.alloc (rcO A2 n2 p2 r.1)) CO; rw [World.size_alloc,hY] at this; exact this
 rw [hCO] at hxy hY;have HY:=qh hY;have HTY:=qh hT;have HB:=qh (And.intro (Qe (Qe H1.o.1 hb2) hby) (And.intro (Qe (Qe H1.o.2.1 hb2) hby) (And.intro (Qa hb2 hby) (And.intro hcy hxy))));have HDY:=qh ((hd.mono (S':=fun b=>x1.heap.size<b/\b<x2.heap.size) fun b hb' h=>⟨by rw [World.size_alloc] at h; omega,hb'⟩).keep hby);have HSZ:=qh (And.intro hsz hz1);clear hT hd hb hb2 hY hby hsz hz1 hCO;obtain ⟨c0,c1,c2,c3,c4,c5⟩:=Qc hcy;clear hcy hxy;go_upto_region 5 with fail;rw [HY.o];go_wp2_with (go_at_call 26; go_fit (HW.o A2 n2 p2 x1 _ HTY.o HB.o.2.2.1));rintro e x3 ⟨A3,n3,p3,rfl,hT,hb⟩;obtain ⟨⟨z0,z1,z2,z3,z4,z5⟩,f0,f1,f2,f3,f4,f5⟩:=And.intro (Qc (Qe HB.o.2.2.2.1 hb)) (Qk (Qe HB.o.2.2.2.1 hb));have hcz:(setQ x3 x2.heap.size A3 n3 p3 d).heap[x2.heap.size]?=some (rcO A3 n3 p3 d):=QbT (Qe HB.o.2.2.2.1 hb);have hg:x3.grownBy (setQ x3 x2.heap.size A3 n3 p3 d) (some x2.heap.size):=Qw _ _ _ _ _ _;have HZ:=qh (And.intro (Je (Qe HB.o.1 hb) hg (by have:=HSZ.o; omega)) (And.intro (Je (Qe HB.o.2.1 hb) hg (by have:=HSZ.o; omega)) (Je (Qe HB.o.2.2.2.2 hb) hg (by omega))));have HBW:Hid (Below w.heap.size w (setQ x3 x2.heap.size A3 n3 p3 d)):=qh (QL (Qa (Qa H1.o.2.2 HB.o.2.2.1) hb) (by have:=HSZ.o; omega) _ _ _ _ _ _);have HDZ:=qh ((HDY.o.keep hb).go hg fun b hb e=>by cases e; have:=hb.2; omega);clear hT hb hg c0 c1 c2 c3 c4 c5;obtain ⟨c0,c1,c2,c3,c4,c5⟩:=Qc hcz;clear hcz;obtain ⟨⟨q0,q1,q2,q3⟩,g0,g1,g2,g3⟩:=And.intro (Qi HZ.o.1) (Q3 HZ.o.1);obtain ⟨⟨r0,r1⟩,j0,j1⟩:=And.intro (QC HZ.o.2.1) (Zu HZ.o.2.1)
 by_cases h0:d.bad=0
 ·have HQ2:Hid (P = ⟨r.2,0,0,0⟩):=qh (by rw [HQ.o,if_neg (by simpa using h0)])
  have e1:(d.bad != 0)=false:=by simpa using h0
  have hl:=HSZ.o;have hd:=((HDZ.o.go (Zz _ w.heap.size (.string r.2.s) (.slice eA en ec) (.slice vA vn vc) (.slice sA sn sc)) fun b hb e=>by cases e; have:=hb.1; omega).go (Ql (Ql (Qx (setR4 (setQ x3 x2.heap.size A3 n3 p3 d) w.heap.size (.string r.2.s) (.slice eA en ec) (.slice vA vn vc) (.slice sA sn sc)) (some (w.heap.size+1))) 0 (.int .i64 0)) 1 (.int .i64 0)) fun b hb e=>by cases e; have:=hb.1; omega).now;have HDF:=qh hd;clear hl hd;obtain ⟨t0,t1,t2,t3⟩:=Qi HZ.o.2.2;clear h0;go_wp2_with fail;have HST:=qh (Qac HZ.o.1 HZ.o.2.1 (.string r.2.s) (.slice eA en ec) (.slice vA vn vc) (.slice sA sn sc) (.int .i64 0) (.int .i64 0));obtain ⟨y0,y1,y2,y3⟩:=Qi HST.o.1;obtain ⟨y4,y5⟩:=QC HST.o.2;refine bodyPost_ret (v:=.tuple #[.agg #[.string r.2.s,.slice eA en ec,.slice vA vn vc,.slice sA sn sc],.agg #[.int .i64 0,.int .i64 0],.int .i64 0]) (by simp [results,Tryz.results11,go_sem,y0,y1,y2,y3,y4,y5]) rfl ?_;rw [HQ2.o];exact ⟨eA,en,ec,vA,vn,vc,sA,sn,sc,rfl,HDF.o,Qaj HBW.o (Nat.le_refl _) _ _ _ _ _ _⟩
 ·have HQ2:Hid (P = ⟨zeroC,d.a1,d.a2,d.bad⟩):=qh (by rw [HQ.o,if_pos h0])
  have e1:(d.bad != 0)=true:=by simpa using h0
  have hn:=HSZ.o;have n1:¬ x2.heap.size=w.heap.size:=by omega
  have n2:¬ w.heap.size=x2.heap.size:=by omega
  have n3:¬ x2.heap.size=w.heap.size+1:=by omega
  have n4:¬ w.heap.size+1=x2.heap.size:=by omega
  clear h0 hn;go_wp2_with fail;go_region
  all_goals
   go_wp2_with fail;have HST:=qh (Qac HZ.o.1 HZ.o.2.1 (.string ⟨#[]⟩) (.slice none 0 0) (.slice none 0 0) (.slice none 0 0) (.int .i64 d.a1) (.int .i64 d.a2));obtain ⟨y0,y1,y2,y3⟩:=Qi HST.o.1;obtain ⟨y4,y5⟩:=QC HST.o.2;refine bodyPost_ret (v:=.tuple #[.agg #[.string ⟨#[]⟩,.slice none 0 0,.slice none 0 0,.slice none 0 0],.agg #[.int .i64 d.a1,.int .i64 d.a2],.int .i64 d.bad]) (by simp [results,Tryz.results11,go_sem,y0,y1,y2,y3,y4,y5]) rfl ?_;rw [HQ2.o];exact ⟨none,0,0,none,0,0,none,0,0,rfl,ChIn.zero _,(Qaj HBW.o (Nat.le_refl _) _ _ _ _ _ _).drew⟩
theorem QdX (s:ByteArray) (w:World) (hz:s.size <= 9223372036854775800):Calls Tryz.prog 11 #[.string s] w (RetPc w (parseC s)):=by
 by_cases he:(scanT s.data.toList).2.2=0
 ·exact rparse_ok s w hz he
 ·exact Qi0 s w hz he
end
section
open Go.RowKit Go.Sort CurSpec TermSpec EvalSpec ActSpec NamesSpec ExprSpec TransSpec SynSpec PrintSpec
open ShapeSpec (Sh up sf endOf SU)
set_option maxRecDepth 100000
def StTrRel (W:World) (S:ByteArray) (n1 m:Nat) (l:List Tt) (p i:Value) (wr:World):Prop:=∃ k:Nat,k<=m/\i = .int .i64 k/\p = .string (S++bs ((l.take k).flatMap (lineT n1)))/\Below W.heap.size W wr
theorem state_any (sh:List Sh) (l:List Ts) (H:Stand sh l) (A:Option Addr) (n c i:Nat) (w:World) (h:StsP w (.slice A n c) (l.map Ts.sx)) (hi:i < n) (hg:SignsIn w) :
 Calls Tryz.prog 28 #[.slice A n c,.int .i64 i] w (RetS w (bs (PrintSpec.stT sh l i))):=by
 obtain ⟨hn,hc⟩:=h.len;rw [List.length_map] at hn;have hl:=H.len;obtain ⟨t,ht,hok,hkk,hpp,hk1,hk3⟩:=H.at_ (i:=i) (by omega);have hup:=H.deep i (by omega);have hf:=H.few;have hR:=stT_at sh ht
 have HEM:Hid (∀ W,Below w.heap.size w W -> Calls Tryz.prog 31 #[.slice A n c,.int .i64 i] W (RetB W (emptyB sh l i))):=qh fun W hW => by
  rw [H.eq];exact Qe6 A n c l i W (h.keep hW) hi (by omega)
 have HAB:Hid (∀ W,Below w.heap.size w W -> Calls Tryz.prog 33 #[.slice A n c,.int .i64 i] W (RetInts W (ShapeSpec.upI sh i))):=qh fun W hW => by
  refine QaO A n c sh.length sh i W ?_ H.su (by omega) (by omega) (by omega);rw [H.eq,<- sh_of];exact (h.keep hW).sts
 obtain ⟨b,off,a3,n3,m3,a4,n4,m4,a5,n5,m5,rfl,hb,d0,d1,d2,d3,d4,d5,k3,k4,k5⟩:=h.at_ (i:=i) (s:=t.sx) (by rw [List.getElem?_map,ht]; rfl);have l3:n3=t.en.length:=by rw [k3.len.1]; exact List.length_map _
 have l4:n4=t.ex.length:=by rw [k4.len.1]; exact List.length_map _
 have l5:n5=t.tr.length:=by rw [k5.len.1]; exact List.length_map _
 have c3:=k3.len.2;have c4:=k4.len.2;have c5:=k5.len.2;have h12:=QG hok.nm;obtain ⟨OB,hOB⟩:∃ OB:Obj,OB = .cells #[.string t.s,.int .i64 t.kind,.int .i64 t.par,.slice a3 n3 m3,.slice a4 n4 m4,.slice a5 n5 m5] 51:=⟨_,rfl⟩;obtain ⟨W1,hW1⟩:∃ W1,w.alloc OB=W1:=⟨_,rfl⟩;have hb1:Below w.heap.size w W1:=by rw [<- hW1]; exact KitC.Qh _ _
 have hkb:W1.heap[w.heap.size]?=some OB:=by rw [<- hW1]; exact heap_alloc_new _ _
 have HPE:=qh (fun W (hW:Below w.heap.size w W)=>QcD t.en hok.en hok.enf a3 n3 m3 W (k3.keep hW) (hg.keep hW));have HPX:=qh (fun W (hW:Below w.heap.size w W)=>QcD t.ex hok.ex hok.exf a4 n4 m4 W (k4.keep hW) (hg.keep hW));have HTR:=qh (fun W (hW:Below w.heap.size w W)=>k5.keep hW);have HTO:=qh (fun W (hW:Below w.heap.size w W) (x:Tt) (hx:x∈t.tr) gA gn gc aA an ac (h:TrIn W gA gn gc aA an ac x.tr)=>trput_any x (hok.tr x hx) gA gn gc aA an ac W h (hg.keep hW));have HTS:=qh (fun (x:Tt) (hx:x∈t.tr)=>QeU (hok.tr x hx));have z3:=Zy hok.en;have z4:=Zy hok.ex;have f3:=hok.enf;have f4:=hok.exf;have f5:=hok.trf;have hhd:∀ m,bs (inT m++headT t)=_:=fun m=>head_bs m t ⟨hk1,hk3⟩
 rw [hOB] at hW1 hkb;have HK:=qh (fun W (hW:Below W1.heap.size W1 W)=>Qc (KitC.Qe hkb hW));obtain ⟨p0,p1,p2,p3,p4,p5⟩:=Qc hkb;have HW1:=qh hW1;have HB1:=qh hb1;have HUL:=qh (ShapeSpec.J6 sh i);obtain ⟨u,hu⟩:∃ u,u=(up sh i).length:=⟨_,rfl⟩;rw [<- hu] at hR hup HUL;obtain ⟨e,he⟩:∃ e,e=emptyB sh l i:=⟨_,rfl⟩;rw [<- he] at hR HEM;obtain ⟨R,hRR⟩:∃ R,R=bs (PrintSpec.stT sh l i):=⟨_,rfl⟩;rw [<- hRR];rw [hR] at hRR;have HR:=qh hRR;have HHD:=qh (hhd (u+1));obtain ⟨S,hS⟩:∃ S,S=bs (inT (u+1)++headT t):=⟨_,rfl⟩;rw [<- hS] at HHD;have HS:=qh hS
 have hSz:S.size <= 50:=by
  rw [hS,Jc];have:=Qg8 t.kind;have hT:(T t.s).length=t.s.size:=rfl;simp only [headT,List.length_append,List.length_cons,Jb];omega
 obtain ⟨ib,hib⟩:∃ ib,ib=bs (inT (u+1)):=⟨_,rfl⟩;have hibz:ib.size<=24:=by rw [hib,Jc,Jb]; omega
 have HIN1:Hid (∀ W,Calls Tryz.prog 32 #[.int .i64 ((u:Int)+1)] W (SameS W (bs (inT (u+1))))):=qh (fun W=>by have:=in_any (u+1) (by omega) W; rwa [show ((u+1:Nat):Int)=(u:Int)+1 by omega] at this);rw [<- hib] at HHD HIN1;have HIN2:Hid (∀ W,Calls Tryz.prog 32 #[.int .i64 ((u:Int)+1+1)] W (SameS W (bs (inT (u+2))))):=qh (fun W=>by have:=in_any (u+2) (by omega) W; rwa [show ((u+2:Nat):Int)=(u:Int)+1+1 by omega] at this);obtain ⟨ic,hic⟩:∃ ic,ic=bs (inT (u+2)):=⟨_,rfl⟩;have hicz:ic.size<=26:=by rw [hic,Jc,Jb]; omega
 rw [<- hic] at HIN2;have HIC:=qh hic;have L3:=qh l3;have L4:=qh l4;have L5:=qh l5;obtain ⟨nm,kind,par,ten,tex,ttr⟩:=t;simp only [Ts.sx] at d0 d1 d2 hk1 hk3 h12 HHD HK p0 p1 p2 HPE HPX HTR HTO HTS z3 z4 f3 f4 f5 HW1 L3 L4 L5;have hz3:(putB ten).size<=11000:=by omega
 have hz4:(putB tex).size<=11000:=by omega
 clear h hg H ht hok hkk hpp k3 k4 k5 l3 l4 l5 hW1 hb1 hkb hOB OB hhd hR hRR hS hib hic hu he z3 z4 f3 f4 hl hn hf;go_enter Tryz.func28,Tryz.ntmps28;go_wp2_with (rw [HW1.o]; go_at_call 33; go_fit (HAB.o _ HB1.o));rintro e2 w2 hx;obtain ⟨A2,c2,rfl,hv,hb2⟩:=Zi hx;rw [HUL.o] at hv ⊢;have HB2:=qh hb2;clear hx hv hb2 p0 p1 p2 p3 p4 p5;obtain ⟨p0,p1,p2,p3,p4,p5⟩:=HK.o _ HB2.o;have hz1:w.heap.size<W1.heap.size:=(Array.getElem?_eq_some_iff.1 (show W1.heap[w.heap.size]?=some _ from by rw [<- HW1.o]; exact heap_alloc_new _ _)).1;have hz2:w.heap.size<w2.heap.size:=Nat.lt_of_lt_of_le hz1 HB2.o.size;have hne1:¬ w.heap.size=w2.heap.size:=by omega
 have hne2:¬ w2.heap.size=w.heap.size:=by omega
 have pa0:∀ o,(w2.drew.alloc o).cell? ⟨w.heap.size,0,none⟩=some (.string nm):=fun o=>((KitC.Qh w2.drew o).cell (p:=⟨w.heap.size,0,none⟩) hz2).trans p0
 have pa1:∀ o,(w2.drew.alloc o).cell? ⟨w.heap.size,1,none⟩=some (.int .i64 kind):=fun o=>((KitC.Qh w2.drew o).cell (p:=⟨w.heap.size,1,none⟩) hz2).trans p1
 go_wp2_with fail
 go_cut [7] from 9 (fun p wx=>StrAt W1 S p wx)
 case first =>
  obtain ⟨kk,rfl⟩:∃ kk:Nat,kind=kk:=⟨kind.toNat,by omega⟩;obtain ⟨wd,hwd⟩:∃ wd,wd=if ((kk:Int)=1) then (⟨#[108,101,97,102,32]⟩:ByteArray) else if ((kk:Int)=2) then ⟨#[111,114,32]⟩ else ⟨#[97,110,100,32]⟩:=⟨_,rfl⟩
  rw [<- hwd] at HHD;have HX:Hid ((.string (ib++wd++nm):Value) = .string S):=qh (by rw [HHD.o]);have hkn:kk=1\/kk=2\/kk=3:=by omega
  have hwz:wd.size <= 5:=by
   rcases hkn with rfl | rfl | rfl
   ·rw [hwd]; exact Nat.le_refl 5
   ·rw [hwd]; exact (by decide:3<=5)
   ·rw [hwd]; exact (by decide:4<=5)
  have hlit:(#[.string ⟨#[]⟩,.string ⟨#[108,101,97,102,32]⟩,.string ⟨#[111,114,32]⟩,.string ⟨#[97,110,100,32]⟩]:Array Value)[kk]? = some (.string wd):=by
   rcases hkn with rfl | rfl | rfl<;>rw [hwd]<;>rfl
  have la:(w2.alloc (.cells #[.string ⟨#[]⟩,.string ⟨#[108,101,97,102,32]⟩,.string ⟨#[111,114,32]⟩,.string ⟨#[97,110,100,32]⟩] 9)).cell? ⟨w2.heap.size,kk,none⟩=some (.string wd):=Qb (heap_alloc_new _ _) hlit;have hk4:kk<4:=by omega
  have hk4i:(kk:Int)<4:=by omega
  have q1:¬ 9223372036854775807<ib.size+wd.size:=by omega
  have q2:¬ 9223372036854775807<ib.size+wd.size+nm.size:=by omega
  clear hwd hkn hlit;go_region_law ((go_simp; go_at_call 32; go_fit (HIN1.o _); rintro e w5 ⟨rfl,rfl⟩))
  all_goals
   go_wp2_with fail;go_meet
   case rel=>exact ⟨HX.o,(Qa HB2.o (KitC.Qh _ _)).drew⟩
 case rest =>
  obtain ⟨rfl,hbc⟩:=hcut;have HBC:=qh hbc;clear p0 p1 p2 p3 p4 p5 pa0 pa1 hne1 hne2 hz1 hz2 HB2;have HE1:=qh (HEM.o _ (Qa HB1.o hbc));clear hbc HEM
  rcases e with _ | _
  case true =>
   have HX:Hid ((.string (S ++ ⟨#[59,10]⟩):Value) = .string R):=qh (by
    rw [HR.o,if_pos rfl,HS.o,show (⟨#[59,10]⟩:ByteArray)=bs [59,10] from rfl,QX];simp)
   have q1:¬ 9223372036854775807<S.size+2:=by omega
   go_wp2_with (go_at_call 31; go_fit HE1.o);rintro e2 w3 ⟨rfl,hb3⟩;have HB3:=qh (Qa HBC.o hb3);clear hb3;go_wp2_with fail;go_ret;exact ⟨congrArg Ending.returned HX.o,Qa HB1.o HB3.o⟩
  obtain ⟨S2,hS2⟩:∃ S2,S2=S++⟨#[32,123,10]⟩:=⟨_,rfl⟩
  have HX:Hid (R = S2 ++ bs (lineA [101,110,116,101,114] (u + 2) ten) ++ bs (lineA [101,120,105,116] (u + 2) tex) ++ bs (ttr.flatMap (lineT (u + 2)))):=qh (by
   rw [HR.o,if_neg (by decide),hS2,HS.o,show (⟨#[32,123,10]⟩:ByteArray)=bs [32,123,10] from rfl,QX,QX,QX,QX];unfold insT;simp)
  have hS2z:S2.size<=60:=by rw [hS2,ByteArray.size_append]; show S.size+3<=60; omega
  have q1:¬ 9223372036854775807<S.size+3:=by omega
  have HS2:=qh hS2;go_wp2_with (go_at_call 31; go_fit HE1.o);rintro e2 w3 ⟨rfl,hb3⟩;have HB3:=qh (Qa HBC.o hb3);obtain ⟨p0,p1,p2,p3,p4,p5⟩:=HK.o _ HB3.o;clear hb3 HR HS hS2;go_upto_if 39 with fail;rw [<- HS2.o]
  go_cut [7] from 9 (fun p wx=>StrAt W1 (S2++bs (lineA [101,110,116,101,114] (u+2) ten)) p wx)
  case first =>
   rcases Nat.eq_zero_or_pos n3 with h0 | h0
   ·have HY:=qh (Qhn S2 [101,110,116,101,114] (u + 2) (ts:=ten) (by have:=L3.o; omega))
    subst h0;go_wp2_with fail;go_meet
    case rel=>exact ⟨congrArg Value.string HY.o.symm,HB3.o⟩
   ·have HY:=qh (line_bs S2 [101,110,116,101,114] (u + 2) (ts:=ten) (fun h => by rw [h] at L3; have:=L3.o; simp at this; omega))
    have g0:decide (0<n3)=true:=by simp; omega
    obtain ⟨y,hy⟩:∃ y,y=putB ten:=⟨_,rfl⟩;rw [<- hy] at HPE HY hz3;rw [<- HIC.o] at HY;have q2:¬ 9223372036854775807<S2.size+ic.size:=by omega
    have q3:¬ 9223372036854775807<S2.size+ic.size+6:=by omega
    have q4:¬ 9223372036854775807<S2.size+ic.size+6+y.size:=by omega
    have q5:¬ 9223372036854775807<S2.size+ic.size+6+y.size+2:=by omega
    have HY2:Hid (S2++bs (lineA [101,110,116,101,114] (u+2) ten)=S2++ic++⟨#[101,110,116,101,114,32]⟩++y++⟨#[59,10]⟩):=qh HY.o
    have HQ1:Hid (∀ d os,Calls Tryz.prog 32 #[.int .i64 ((u:Int) + 1 + 1)] (grow (redrawn w3 d) os) fun e w'' => e = .returned (.string ic) /\ ∃ p:Regrown,w'' = grow (redrawn w3 p.d) p.os) :=
     qh (fun d os=>Calls.regrown_of ((HIN2.o _).mono fun _ _ h=>⟨h.1,h.2 ▸ Below.refl _ _⟩))
    have HQ2:Hid (∀ d os,Calls Tryz.prog 66 #[.slice a3 n3 m3] (grow (redrawn w3 d) os) fun e w'' => e = .returned (.string y) /\ ∃ p:Regrown,w'' = grow (redrawn w3 p.d) p.os) :=
     qh (fun d os=>Calls.regrown_of (HPE.o _ (Qa HB1.o (Qa HB3.o (below_regrown w3 d os)))))
    have rp3:=cell_regrown p3;clear hy h0 HY HPE p0 p1 p2 p3 p4 p5;rw [g0];go_wp2_with fail;refine wp_region_quiet_below (by kernel_rfl) (by kernel_rfl) ?_
    repeat (go_big_quiet_step (first | (with_reducible exact HQ1.o _ _) | (with_reducible exact HQ2.o _ _)))
    refine wpQuiet_nil ?_;intro _ hw';obtain ⟨⟨dq,osq⟩,hw''⟩:=hw';subst hw'';simp only;have HB4:=qh (Qa HB3.o (below_regrown w3 dq osq));go_wp2_with fail;go_meet
    case rel=>exact ⟨congrArg Value.string HY2.o.symm,HB4.o⟩
  case rest =>
   obtain ⟨rfl,hbc⟩:=hcut;have HBD:=qh hbc;clear p0 p1 p2 p3 p4 p5;obtain ⟨p0,p1,p2,p3,p4,p5⟩:=HK.o _ hbc
   have hS3z:(S2 ++ bs (lineA [101,110,116,101,114] (u + 2) ten)).size <= 11200:=by
    rw [ByteArray.size_append,Jc];unfold lineA
    split
    ·simp; omega
    ·have hpp:(putB ten).size = (putT ten).length:=rfl
     simp only [List.length_append,List.length_cons,List.length_nil,Jb];omega
   obtain ⟨S3,hS3⟩:∃ S3,S3=S2++bs (lineA [101,110,116,101,114] (u+2) ten):=⟨_,rfl⟩;rw [<- hS3] at HX hS3z ⊢;clear hbc hS3 HB3 HBC HPE hz3 HS2 hS2z q1 w3;go_upto_if 54 with fail
   go_cut [7] from 9 (fun p wx=>StrAt W1 (S3++bs (lineA [101,120,105,116] (u+2) tex)) p wx)
   case first =>
    rcases Nat.eq_zero_or_pos n4 with h0 | h0
    ·have HY:=qh (Qhn S3 [101,120,105,116] (u + 2) (ts:=tex) (by have:=L4.o; omega))
     subst h0;go_wp2_with fail;go_meet
     case rel=>exact ⟨congrArg Value.string HY.o.symm,HBD.o⟩
    ·have HY:=qh (line_bs S3 [101,120,105,116] (u + 2) (ts:=tex) (fun h => by rw [h] at L4; have:=L4.o; simp at this; omega))
     have g0:decide (0<n4)=true:=by simp; omega
     obtain ⟨y,hy⟩:∃ y,y=putB tex:=⟨_,rfl⟩;rw [<- hy] at HPX HY hz4;rw [<- HIC.o] at HY;have q2:¬ 9223372036854775807<S3.size+ic.size:=by omega
     have q3:¬ 9223372036854775807<S3.size+ic.size+5:=by omega
     have q4:¬ 9223372036854775807<S3.size+ic.size+5+y.size:=by omega
     have q5:¬ 9223372036854775807<S3.size+ic.size+5+y.size+2:=by omega
     have HY2:Hid (S3++bs (lineA [101,120,105,116] (u+2) tex)=S3++ic++⟨#[101,120,105,116,32]⟩++y++⟨#[59,10]⟩):=qh HY.o
     have HQ1:Hid (∀ d os,Calls Tryz.prog 32 #[.int .i64 ((u:Int) + 1 + 1)] (grow (redrawn wc d) os) fun e w'' => e = .returned (.string ic) /\ ∃ p:Regrown,w'' = grow (redrawn wc p.d) p.os) :=
      qh (fun d os=>Calls.regrown_of ((HIN2.o _).mono fun _ _ h=>⟨h.1,h.2 ▸ Below.refl _ _⟩))
     have HQ2:Hid (∀ d os,Calls Tryz.prog 66 #[.slice a4 n4 m4] (grow (redrawn wc d) os) fun e w'' => e = .returned (.string y) /\ ∃ p:Regrown,w'' = grow (redrawn wc p.d) p.os) :=
      qh (fun d os=>Calls.regrown_of (HPX.o _ (Qa HB1.o (Qa HBD.o (below_regrown wc d os)))))
     have rp4:=cell_regrown p4;clear hy h0 HY HPX p0 p1 p2 p3 p4 p5;rw [g0];go_wp2_with fail;refine wp_region_quiet_below (by kernel_rfl) (by kernel_rfl) ?_
     repeat (go_big_quiet_step (first | (with_reducible exact HQ1.o _ _) | (with_reducible exact HQ2.o _ _)))
     refine wpQuiet_nil ?_;intro _ hw';obtain ⟨⟨dq,osq⟩,hw''⟩:=hw';subst hw'';simp only;have HB4:=qh (Qa HBD.o (below_regrown wc dq osq));go_wp2_with fail;go_meet
     case rel=>exact ⟨congrArg Value.string HY2.o.symm,HB4.o⟩
   case rest =>
    obtain ⟨rfl,hbc⟩:=hcut;have HBE:=qh hbc;clear p0 p1 p2 p3 p4 p5;obtain ⟨p0,p1,p2,p3,p4,p5⟩:=HK.o _ hbc
    have hS4z:(S3 ++ bs (lineA [101,120,105,116] (u + 2) tex)).size <= 22400:=by
     rw [ByteArray.size_append,Jc];unfold lineA
     split
     ·simp; omega
     ·have hpp:(putB tex).size = (putT tex).length:=rfl
      simp only [List.length_append,List.length_cons,List.length_nil,Jb];omega
    obtain ⟨S4,hS4⟩:∃ S4,S4=S3++bs (lineA [101,120,105,116] (u+2) tex):=⟨_,rfl⟩;rw [<- hS4] at HX hS4z ⊢;have hn16:n5<=16:=by have:=L5.o; omega
    clear hbc hS4 HBD HPX hz4 hS3z;go_wp2_with fail
    go_loopw [7,8] (fun p i wr=>StTrRel W1 S4 (u+2) n5 ttr p i wr) (fun _ i _=>n5-(intOf i).toNat)
    case atStart=>exact ⟨0,Nat.zero_le _,rfl,congrArg Value.string (J3 S4).symm,HBE.o⟩
    case round =>
     obtain ⟨j,hj,rfl,rfl,hbw⟩:=hrel;have HBW:=qh hbw;clear p0 p1 p2 p3 p4 p5;obtain ⟨p0,p1,p2,p3,p4,p5⟩:=HK.o _ hbw;clear hbw
     by_cases hlt:j<n5
     case neg =>
      obtain rfl:j=n5:=by omega
      have g1:decide ((j:Int)<j)=false:=by simp
      have HFE:Hid ((.string (S4 ++ bs ((ttr.take j).flatMap (lineT (u + 2)))):Value) = .string R):=qh (by
       rw [HX.o,List.take_of_length_le (by rw [<- L5.o]; omega)])
      go_wp2_with fail;go_ret;exact ⟨congrArg Ending.returned HFE.o,Qa HB1.o HBW.o⟩
     have g1:decide ((j:Int)<n5)=true:=by simp; omega
     obtain ⟨x,hx⟩:=Qp (l:=ttr) (k:=j) (by rw [<- L5.o]; exact hlt);have hm:=List.mem_of_getElem? hx;obtain ⟨bt,ot,gA,gn,gc,aA,an,ac,rfl,hbt,e0,e1,e2,e3,htr⟩:=(HTR.o _ (Qa HB1.o HBW.o)).at_ (i:=j) (t:=x.tr) (by rw [List.getElem?_map,hx]; rfl);have HY:=qh (tr_next S4 (u+2) hx);rw [<- HIC.o] at HY
     have hlz:(bs ((ttr.take j).flatMap (lineT (u + 2)))).size <= 11700 * 16:=by
      rw [Jc]
      have:=Zk (lineT (u + 2)) (fun _ => 0) 11700 0 (L:=ttr.take j) fun y hy => by
       have hh:=HTS.o y (List.mem_of_mem_take hy);have hyT:(T (txT y)).length=(txT y).size:=rfl;simp only [lineT,List.length_append,List.length_cons,List.length_nil,Jb];omega
      rw [List.length_take] at this;omega
     have hyz:=HTS.o x hm;have hPT:=fun W hW=>HTO.o W hW x hm gA gn gc aA an ac
     obtain ⟨z,hz⟩:∃ z,z=S4++bs ((ttr.take j).flatMap (lineT (u+2))):=⟨_,rfl⟩;have hzz:z.size<=300000:=by rw [hz,ByteArray.size_append]; omega
     rw [<- hz] at HY ⊢;obtain ⟨y,hy⟩:∃ y,y=txT x:=⟨_,rfl⟩;rw [<- hy] at HY hyz hPT
     have HQ1:Hid (∀ d os,Calls Tryz.prog 32 #[.int .i64 ((u:Int) + 1 + 1)] (grow (redrawn wr d) os) fun e w'' => e = .returned (.string ic) /\ ∃ p:Regrown,w'' = grow (redrawn wr p.d) p.os) :=
      qh (fun d os=>Calls.regrown_of ((HIN2.o _).mono fun _ _ h=>⟨h.1,h.2 ▸ Below.refl _ _⟩))
     have HQ2:Hid (∀ d os,Calls Tryz.prog 67 #[.agg #[.string x.ev,.slice gA gn gc,.slice aA an ac,.string x.tg]] (grow (redrawn wr d) os) fun e w'' => e = .returned (.string y) /\ ∃ p:Regrown,w'' = grow (redrawn wr p.d) p.os) :=
      qh (fun d os=>Calls.regrown_of (hPT _ (Qa HB1.o (Qa HBW.o (below_regrown wr d os))) (htr.keep (below_regrown wr d os))))
     obtain ⟨ev,g,ts,tg⟩:=x;simp only [Tt.tr] at e0 e3 HQ2;have q2:¬ 9223372036854775807<z.size+ic.size:=by omega
     have q3:¬ 9223372036854775807<z.size+ic.size+y.size:=by omega
     have q4:¬ 9223372036854775807<z.size+ic.size+y.size+1:=by omega
     have rp5:=cell_regrown p5;have r0:=cell_regrown e0;have r1:=cell_regrown e1;have r2:=cell_regrown e2;have r3:=cell_regrown e3;have HJ1:Hid (j+1<=n5):=qh hlt;clear hy hz hx hm hPT htr;go_wp2_with fail;refine wp_region_quiet_below (by kernel_rfl) (by kernel_rfl) ?_
     repeat (go_big_quiet_step (first | (with_reducible exact HQ1.o _ _) | (with_reducible exact HQ2.o _ _)))
     refine wpQuiet_nil ?_;intro _ hw';obtain ⟨⟨dq,osq⟩,hw''⟩:=hw';subst hw'';simp only;have HB5:=qh (Qa HBW.o (below_regrown wr dq osq));go_wp2_with fail
     go_roundw
     case rel=>exact ⟨j+1,HJ1.o,by go_num,congrArg Value.string HY.o.symm,HB5.o⟩
     case measure=>have:=HJ1.o; simp [intOf]; omega
end
end Go.Proofs.YtbdalbpackfejaaGreatDoor
