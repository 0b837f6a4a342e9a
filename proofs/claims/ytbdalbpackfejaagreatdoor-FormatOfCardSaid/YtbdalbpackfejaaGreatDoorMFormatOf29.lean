/- FormStateW, FormEvents, joined. -/
import Derived.Test.YtbdalbpackfejaaGreatDoorMFormatOf28
set_option maxHeartbeats 16000000
set_option maxRecDepth 100000
namespace Go.Proofs.YtbdalbpackfejaaGreatDoor
section
open Go.RowKit CurSpec TermSpec EvalSpec ActSpec NamesSpec ExprSpec TransSpec SynSpec FormSpec
set_option maxRecDepth 100000
abbrev stLit (nm:ByteArray) (kd par:Int):Obj:=.cells #[.string nm,.int .i64 kd,.int .i64 par,.slice none 0 0,.slice none 0 0,.slice none 0 0] 51
theorem st_body (W0:World) (N k:Nat) (hk12:k <= 12) (hN:W0.heap.size <= N) (IH:∀ k',k = k' + 1 -> StOk W0 N k'):StOk W0 N k:=by
 intro c ps par D K pA pc A n cp w ok hlen hT hW hNw hrow h60 hD;have b1:=sb_kind;obtain ⟨i0,hi,hz0,hz1,hz2⟩:=info_parts QfC;have HI:=qh (And.intro hi (And.intro hz0 (And.intro hz1 hz2)));obtain ⟨j0,hj,hy0,hy1,hy2⟩:=info_parts QfA;have HJ:=qh (And.intro hj (And.intro hy0 (And.intro hy1 hy2)));have H0:=qh (CB.start hT hW);have HKI:=qh (fun A n cp W hT hW=>Qft c A n cp W0 W hT hW);obtain ⟨kd,hkd⟩:∃ kd:Int,kd=(kindN c:Int):=⟨_,rfl⟩;rw [<- hkd] at HKI;have HST:=qh (fun x hb=>sb_start (x:=x) hN hT hW hrow hb kd par);obtain ⟨m,hm⟩:∃ m,m=ps.length:=⟨_,rfl⟩;rw [<- hm];rw [<- hm] at HST;have HM:=qh hm;obtain ⟨P,hP⟩:∃ P,P=XS k m par c:=⟨_,rfl⟩;rw [<- hP];obtain ⟨c0,c1,c2,c3,c4,c5⟩:=Qc H0.o.cur;have HFA:=qh (fun er A n cp W hT hW=>Jw c er A n cp W0 W hT hW);have hD0:D<=13:=by omega
 have hD1:1<=D:=by omega
 have hmI:(m:Int)<=60:=by omega
 have HNW:=qh hNw;clear hT hW hrow hi hz0 hz1 hz2 hj hy0 hy1 hy2 hNw
 by_cases hA:kindN c=0
 ·have g0:(kd == 0) = true:=by rw [hkd,hA]; rfl
  have HP:Hid (P.1=fail c 2/\(fail c 2).bad≠0):=qh ⟨by rw [hP]; exact xs_none hA,QB c (by decide)⟩;have HF2:=qh (HFA.o 2);obtain ⟨r,hr⟩:∃ r,r=fail c 2:=⟨_,rfl⟩;rw [<- hr] at HP HF2;have H60:=qh h60;clear hA hkd hP hm h60 hD hr IH hlen ok hk12 hN HI HJ;go_enter Tryz.func61,Tryz.ntmps61;go_wp2_with (go_at_call 109; go_fit (HKI.o _ _ _ _ H0.o.toks H0.o.now));rintro e x1 ⟨rfl,hb⟩;have H1:=qh (HST.o x1 hb);clear hb c0 c1 c2 c3 c4 c5;obtain ⟨c0,c1,c2,c3,c4,c5⟩:=Qc H1.o.cb.cur;obtain ⟨s0,s1,s2,s3,s4,s5⟩:=Qc H1.o.bx;go_wp2_with (go_at_call 64; go_fit (HF2.o _ _ _ _ H1.o.cb.toks H1.o.cb.now));rintro e x2 ⟨A2,n2,p2,rfl,hT,hb⟩;have H2:=qh (H1.o.on hb);have HT2:=qh hT;clear hT hb;obtain ⟨⟨r0,r1,r2,r3,r4,r5⟩,g0,g1,g2,g3,g4,g5⟩:=And.intro (Qc H2.o.cb.res) (Qk H2.o.cb.res);obtain ⟨q0,q1,q2,q3,q4,q5⟩:=Jt H2.o.cb.res A2 n2 p2 r;go_wp2_with fail;refine bodyPost_ret (v:=.tuple #[.agg #[.slice A2 n2 p2,.int .i64 r.w1,.int .i64 r.w2,.int .i64 r.a1,.int .i64 r.a2,.int .i64 r.bad],.slice pA m pc]) (by simp [results,Tryz.results61,go_sem,q0,q1,q2,q3,q4,q5]) rfl ?_;exact H2.o.off HT2.o HP.o.1 HP.o.2 H60.o
 ·have g0:(kd == 0) = false:=by rw [hkd]; simpa using hA
  have hpos:0<kindN c:=by omega
  by_cases hB:m=60
  ·have g1:(60:Int) <= (m:Int):=by omega
   have HP:Hid (P.1=fail c 8/\(fail c 8).bad≠0):=qh ⟨by rw [hP]; exact xs_full hpos hB,QB c (by decide)⟩;have HF2:=qh (HFA.o 8);obtain ⟨r,hr⟩:∃ r,r=fail c 8:=⟨_,rfl⟩;rw [<- hr] at HP HF2;have H60:=qh h60;clear hA hkd hP hm h60 hD hr IH hlen ok hk12 hN HI HJ hpos hB;go_enter Tryz.func61,Tryz.ntmps61;go_wp2_with (go_at_call 109; go_fit (HKI.o _ _ _ _ H0.o.toks H0.o.now));rintro e x1 ⟨rfl,hb⟩;have H1:=qh (HST.o x1 hb);clear hb c0 c1 c2 c3 c4 c5;obtain ⟨c0,c1,c2,c3,c4,c5⟩:=Qc H1.o.cb.cur;obtain ⟨s0,s1,s2,s3,s4,s5⟩:=Qc H1.o.bx;go_wp2_with (go_at_call 64; go_fit (HF2.o _ _ _ _ H1.o.cb.toks H1.o.cb.now));rintro e x2 ⟨A2,n2,p2,rfl,hT,hb⟩;have H2:=qh (H1.o.on hb);have HT2:=qh hT;clear hT hb;obtain ⟨⟨r0,r1,r2,r3,r4,r5⟩,g0,g1,g2,g3,g4,g5⟩:=And.intro (Qc H2.o.cb.res) (Qk H2.o.cb.res);obtain ⟨q0,q1,q2,q3,q4,q5⟩:=Jt H2.o.cb.res A2 n2 p2 r;go_wp2_with fail;refine bodyPost_ret (v:=.tuple #[.agg #[.slice A2 n2 p2,.int .i64 r.w1,.int .i64 r.w2,.int .i64 r.a1,.int .i64 r.a2,.int .i64 r.bad],.slice pA m pc]) (by simp [results,Tryz.results61,go_sem,q0,q1,q2,q3,q4,q5]) rfl ?_;exact H2.o.off HT2.o HP.o.1 HP.o.2 H60.o
  ·have g1:¬ (60:Int) <= (m:Int):=by omega
   have g1':(m:Int)<60:=by omega
   by_cases hC:k=0
   ·have g2:(12:Int) < D:=by omega
    have HP:Hid (P.1=fail c 6/\(fail c 6).bad≠0):=qh ⟨by rw [hP,hC]; exact xs_deep hpos (by omega),QB c (by decide)⟩;have HF2:=qh (HFA.o 6);obtain ⟨r,hr⟩:∃ r,r=fail c 6:=⟨_,rfl⟩;rw [<- hr] at HP HF2;have H60:=qh h60;clear hA hkd hP hm h60 hD hr IH hlen ok hk12 hN HI HJ hpos hB hC;go_enter Tryz.func61,Tryz.ntmps61;go_wp2_with (go_at_call 109; go_fit (HKI.o _ _ _ _ H0.o.toks H0.o.now));rintro e x1 ⟨rfl,hb⟩;have H1:=qh (HST.o x1 hb);clear hb c0 c1 c2 c3 c4 c5;obtain ⟨c0,c1,c2,c3,c4,c5⟩:=Qc H1.o.cb.cur;obtain ⟨s0,s1,s2,s3,s4,s5⟩:=Qc H1.o.bx;go_wp2_with (go_at_call 64; go_fit (HF2.o _ _ _ _ H1.o.cb.toks H1.o.cb.now));rintro e x2 ⟨A2,n2,p2,rfl,hT,hb⟩;have H2:=qh (H1.o.on hb);have HT2:=qh hT;clear hT hb;obtain ⟨⟨r0,r1,r2,r3,r4,r5⟩,g0,g1,g2,g3,g4,g5⟩:=And.intro (Qc H2.o.cb.res) (Qk H2.o.cb.res);obtain ⟨q0,q1,q2,q3,q4,q5⟩:=Jt H2.o.cb.res A2 n2 p2 r;go_wp2_with fail;refine bodyPost_ret (v:=.tuple #[.agg #[.slice A2 n2 p2,.int .i64 r.w1,.int .i64 r.w2,.int .i64 r.a1,.int .i64 r.a2,.int .i64 r.bad],.slice pA m pc]) (by simp [results,Tryz.results61,go_sem,q0,q1,q2,q3,q4,q5]) rfl ?_;exact H2.o.off HT2.o HP.o.1 HP.o.2 H60.o
   ·have g2:¬ (12:Int) < D:=by omega
    obtain ⟨k',rfl⟩:∃ k',k=k'+1:=⟨k-1,by omega⟩;have HIH:=qh (IH k' rfl);have hb0:=xs_body (k:=k') (par:=par) hpos (show m<60 by omega);rw [<- hP] at hb0;have hhd:=xs_head (par:=par) hpos;rw [<- hkd] at hhd;obtain ⟨a1,e1⟩:∃ a,a=on c:=⟨_,rfl⟩;have o1:Ok a1:=e1 ▸ ok.on;have l1:a1.L.length<=100000:=by have:=QaD c; rw [<- e1] at this; omega
    obtain ⟨a2,e2⟩:∃ a,a=nameC a1:=⟨_,rfl⟩;have t2:To a1 a2:=e2 ▸ Ju a1;obtain ⟨nm,en⟩:∃ a,a=nameS a1:=⟨_,rfl⟩;rw [<- e1,<- e2,<- en] at hhd;obtain ⟨d,ed⟩:∃ a,a=take a2 3 wEnd:=⟨_,rfl⟩;obtain ⟨q,eq⟩:∃ q,q=isB a2 3 wEnd:=⟨_,rfl⟩;have HON:=qh (fun A n cp W hT hW=>Ji c A n cp W0 W hT hW);have HNM:=qh (fun A n cp W hT hW=>JZ a1 o1 A n cp W0 W hT hW);have HTK:=qh (fun A n cp W hT hW=>Jf a2 3 wEnd A n cp W0 W hT hW);rw [<- e1] at HON;rw [<- e2,<- en] at HNM;rw [<- ed,<- eq] at HTK;have HB:=qh hb0;have HHD:=qh hhd;have HED:=qh (And.intro ed eq);have HT2:=qh t2;have HO1:=qh o1;have HL1:=qh l1;have H60:=qh h60;have HDD:=qh hD;have HCC:=qh hC;have HAL1:Hid (ps.length+1<=maxLen):=qh (by unfold maxLen; omega);have HAL2:Hid ((ps.length+1)*104<=140737488355328):=qh (by omega);have HM60:Hid (m<60):=qh (by omega);have hkd1:1<=kd:=by omega
    clear hA hkd hP hm h60 hD IH hlen ok hk12 hN hpos hB hC hb0 hhd e1 e2 en ed eq o1 l1 t2;go_enter Tryz.func61,Tryz.ntmps61;go_wp2_with (go_at_call 109; go_fit (HKI.o _ _ _ _ H0.o.toks H0.o.now));rintro e x1 ⟨rfl,hb⟩;have H1:=qh (HST.o x1 hb);have hlt:=H1.o.lt;have hn1:¬ x1.heap.size=w.heap.size:=by omega
    have hn2:¬ w.heap.size=x1.heap.size:=by omega
    clear hb c0 c1 c2 c3 c4 c5 hlt;obtain ⟨c0,c1,c2,c3,c4,c5⟩:=Qc H1.o.cb.cur;obtain ⟨s0,s1,s2,s3,s4,s5⟩:=Qc H1.o.bx;go_wp2_with (go_at_call 63; go_fit (HON.o _ _ _ _ H1.o.cb.toks H1.o.cb.now));rintro e x2 ⟨A2,n2,p2,rfl,hT,hb⟩;have H2:=qh (H1.o.on hb);have HTN:=qh hT;clear hT hb c0 c1 c2 c3 c4 c5 s0 s1 s2 s3 s4 s5;go_wp2_with (go_at_call 56; go_fit (HNM.o _ _ _ _ HTN.o H2.o.cb.now));rintro e x3 ⟨A3,n3,p3,rfl,hT,hb⟩;obtain ⟨⟨z0,z1,z2,z3,z4,z5⟩,f0,f1,f2,f3,f4,f5⟩:=And.intro (Qc (H2.o.on hb).cb.cur) (Qk (H2.o.on hb).cb.cur);have fv:=Qf (H2.o.on hb).bx 0;have fc:=Qb (H2.o.on hb).bx (i:=0) (v:=.string ⟨#[]⟩) rfl;have H3:=qh (((H2.o.on hb).set hT).put 0 (.string nm));clear hT hb;obtain ⟨c0,c1,c2,c3,c4,c5⟩:=Qc H3.o.cb.cur;go_wp2_with (go_at_call 107; go_fit (HTK.o _ _ _ _ H3.o.cb.toks H3.o.cb.now));rintro e x4 ⟨A4,n4,p4,rfl,hT,hb⟩;have h4:=(H3.o.on hb).on (KitC.Qh x4 (rcO A4 n4 p4 d));have hd4:(x4.alloc (rcO A4 n4 p4 d)).heap[x4.heap.size]?=some (rcO A4 n4 p4 d):=heap_alloc_new _ _;have HTD:=qh hT;have HLT4:Hid (x1.heap.size<x4.heap.size/\w.heap.size<x1.heap.size):=qh ⟨(Array.getElem?_eq_some_iff.1 (H3.o.on hb).bx).1,by have:=H3.o.lt; omega⟩;obtain ⟨X,hX⟩:∃ X,x4.alloc (rcO A4 n4 p4 d)=X:=⟨_,rfl⟩;rw [hX] at h4 hd4;have HX:=qh hX;have H4:=qh h4;have HD4:=qh hd4;obtain ⟨d0,d1,d2,d3,d4,d5⟩:=Qc hd4;clear hT hb c0 c1 c2 c3 c4 c5 z0 z1 z2 z3 z4 z5 f0 f1 f2 f3 f4 f5 fv fc hX h4 hd4;obtain ⟨c0,c1,c2,c3,c4,c5⟩:=Qc H4.o.cb.cur;obtain ⟨s0,s1,s2,s3,s4,s5⟩:=Qc (show X.heap[x1.heap.size]?=some (.cells #[.string nm,.int .i64 kd,.int .i64 par,.slice none 0 0,.slice none 0 0,.slice none 0 0] 51 (0,0)) from H4.o.bx);go_upto_region 10 with fail;rw [HX.o]
    go_cut [54] from 49 (fun v wx=>v = .bool (q||decide (a2.bad≠0))/\wx=X)
    case first =>
     rcases q with _ | _
     ·by_cases hu0:a2.bad = 0
      ·have g9:(a2.bad != 0) = false:=by simp [hu0]
       go_wp2_with fail;go_meet;exact ⟨by simp [hu0],rfl⟩
      ·have g9:(a2.bad != 0) = true:=by simp [hu0]
       go_wp2_with fail;go_meet;exact ⟨by simp [hu0],rfl⟩
     ·go_wp2_with fail
      go_meet;exact ⟨by simp,rfl⟩
    case rest =>
     obtain ⟨rfl,hwc⟩:=hcut;have hwc:=hwc.symm;subst hwc;obtain ⟨qq,hqq⟩:∃ qq,qq=(q||decide (a2.bad≠0)):=⟨_,rfl⟩;rw [<- hqq]
     rcases qq with _ | _
     ·have HQF:Hid (q = false /\ a2.bad = 0):=qh (by
       cases q with
       | true => simp at hqq
       | false => exact ⟨rfl,by simpa using hqq⟩)
      have hi2:isB a2 3 wEnd=false:=by rw [<- HED.o.2]; exact HQF.o.1
      have ok2:Ok a2:=HT2.o.ok HO1.o;have l2:a2.L.length<=100000:=Nat.le_trans HT2.o.len HL1.o;obtain ⟨a3,e3⟩:∃ a,a=want a2 3 wOpen:=⟨_,rfl⟩;have t3:To a2 a3:=e3 ▸ QM a2 3 wOpen;obtain ⟨⟨a4,en4⟩,e4⟩:∃ a,a=acX a3 wEnter:=⟨_,rfl⟩;have t4:To a2 a4:=t3.trans (by have:=Qcz a3 wEnter; rwa [<- e4] at this);obtain ⟨⟨a5,ex5⟩,e5⟩:∃ a,a=acX a4 wExit:=⟨_,rfl⟩;have t5:To a2 a5:=t4.trans (by have:=Qcz a4 wExit; rwa [<- e5] at this);obtain ⟨⟨a6,tr⟩,e6⟩:∃ a,a=trX a5:=⟨_,rfl⟩;have t6:To a2 a6:=t5.trans (by have:=to_trX a5; rwa [<- e6] at this)
      have hins:insR a2 = (a6,en4,ex5,tr):=by
       unfold insR;rw [<- e3,<- e4]; dsimp only;rw [<- e5]; dsimp only;rw [<- e6]
      obtain ⟨F,hF⟩:∃ F,F=if kd=1 then (a6,[]) else kidsR (stR k') k' m a6:=⟨_,rfl⟩
      have HP3:Hid (P = (want F.1 3 wShut,⟨nm,kd,par,en4,ex5,tr⟩ :: F.2)):=qh (by
       rw [HB.o];unfold bodyS;rw [HHD.o];dsimp only;rw [if_neg (by rw [hi2]; decide),hins,hF]
       by_cases h1:kd=1
       ·rw [if_pos h1,if_pos h1]; rfl
       ·rw [if_neg h1,if_neg h1]; rfl)
      have HPB:Hid (a6.bad ≠ 0 -> P.1 = a6):=qh fun hb => by
       have:F.1 = a6:=by
        rw [hF]
        split
        ·rfl
        ·rw [ZJ hb]
       rw [HP3.o]
       show want F.1 3 wShut=a6
       rw [this];exact FormSpec.QV hb 3 wShut
      have HF0:Hid ((kd = 1 -> F = (a6,[])) /\ (kd ≠ 1 -> a6.bad = 0 -> loopT qS (stS (stR k') k' m) a6 [] = F) /\ (a6.bad ≠ 0 -> F.1 = a6)):=qh ⟨fun h => by rw [hF,if_pos h],fun h _ => by rw [hF,if_neg h]; rfl,fun hb => by
       rw [hF]
       split
       ·rfl
       ·rw [ZJ hb]⟩
      have HM3:=qh (fun A n cp W hT hW=>QS a2 wOpen A n cp W0 W hT hW);have HA4:=qh (fun A n cp W hT hW=>QhE a3 wEnter (t3.ok ok2) (Nat.le_trans t3.len l2) A n cp W0 W hT hW);have HA5:=qh (fun A n cp W hT hW=>QhE a4 wExit (t4.ok ok2) (Nat.le_trans t4.len l2) A n cp W0 W hT hW);have HMS:=qh (fun A n cp W hT hW=>QS F.1 wShut A n cp W0 W hT hW);obtain ⟨z,hz⟩:∃ z,z=want F.1 3 wShut:=⟨_,rfl⟩;rw [<- hz] at HMS HP3;have HZB:Hid (z.bad=0->F.1.bad=0):=qh fun h=>Decidable.byContradiction fun h'=>(QM F.1 3 wShut).bad h' (hz ▸ h)
      rw [<- e3] at HM3;rw [<- e4] at HA4;rw [<- e5] at HA5;have HO5:=qh (t5.ok ok2);have HL5:=qh (Nat.le_trans t5.len l2);have HO6:=qh (t6.ok ok2);have HL6:=qh (Nat.le_trans t6.len l2);have HE6:=qh e6.symm;have HKD:=qh hkd1;clear hqq hi2 ok2 l2 e3 t3 e4 t4 e5 t5 e6 t6 hins hF hz d0 d1 d2 d3 d4 d5 HON HNM HTK;go_wp2_with (go_at_call 59; go_fit (HM3.o _ _ _ _ H4.o.cb.toks H4.o.cb.now));rintro e x5 ⟨A5,n5,p5,rfl,hT,hb⟩;obtain ⟨⟨z0,z1,z2,z3,z4,z5⟩,f0,f1,f2,f3,f4,f5⟩:=And.intro (Qc (H4.o.on hb).cb.cur) (Qk (H4.o.on hb).cb.cur);have H5:=qh ((H4.o.on hb).set hT);have HLT5:=qh hb.size;clear hT hb c0 c1 c2 c3 c4 c5 s0 s1 s2 s3 s4 s5;obtain ⟨c0,c1,c2,c3,c4,c5⟩:=Qc H5.o.cb.cur;go_wp2_with (go_at_call 110; go_fit (HA4.o _ _ _ _ H5.o.cb.toks H5.o.cb.now));rintro e x6 ⟨A6,n6,p6,eA,en,ec,rfl,hT,hd,hb⟩;have hS5:x1.heap.size<x6.heap.size:=(Array.getElem?_eq_some_iff.1 (H5.o.on hb).bx).1;clear z0 z1 z2 z3 z4 z5 f0 f1 f2 f3 f4 f5;obtain ⟨⟨z0,z1,z2,z3,z4,z5⟩,f0,f1,f2,f3,f4,f5⟩:=And.intro (Qc (H5.o.on hb).cb.cur) (Qk (H5.o.on hb).cb.cur);have fv:=Qf (H5.o.on hb).bx 3;have fc:=Qb (H5.o.on hb).bx (i:=3) (v:=.slice none 0 0) rfl;have H6:=qh (((H5.o.on hb).set hT).put 3 (.slice eA en ec));have hd1:=hd.mono (S':=fun b=>x1.heap.size<b) fun b _ h=>Nat.lt_of_lt_of_le (Array.getElem?_eq_some_iff.1 H5.o.bx).1 h
      have HE:=qh ((hd1.go (Qw x6 w.heap.size A6 n6 p6 a4) fun b hb e=>by cases e; have:=HLT4.o; omega).go (Ql (Qx _ _) 3 (.slice eA en ec):(setQ x6 w.heap.size A6 n6 p6 a4).grownBy ((setQ x6 w.heap.size A6 n6 p6 a4).setCell ⟨x1.heap.size,3,none⟩ (.slice eA en ec)) (some x1.heap.size)) fun b hb e=>by cases e; omega);clear hT hb hd hd1 hS5 c0 c1 c2 c3 c4 c5;obtain ⟨c0,c1,c2,c3,c4,c5⟩:=Qc H6.o.cb.cur;go_wp2_with (go_at_call 110; go_fit (HA5.o _ _ _ _ H6.o.cb.toks H6.o.cb.now));rintro e x7 ⟨A7,n7,p7,fA,fn,fc',rfl,hT,hd,hb⟩;clear z0 z1 z2 z3 z4 z5 f0 f1 f2 f3 f4 f5 fv fc;obtain ⟨⟨z0,z1,z2,z3,z4,z5⟩,f0,f1,f2,f3,f4,f5⟩:=And.intro (Qc (H6.o.on hb).cb.cur) (Qk (H6.o.on hb).cb.cur);have fv:=Qf (H6.o.on hb).bx 4;have fc:=Qb (H6.o.on hb).bx (i:=4) (v:=.slice none 0 0) rfl;have h7:=((H6.o.on hb).set hT).put 4 (.slice fA fn fc');have hd1:=(HE.o.keep hb).and (hd.mono (S':=fun b=>x1.heap.size<b) fun b _ h=>Nat.lt_of_lt_of_le (Array.getElem?_eq_some_iff.1 H6.o.bx).1 h);have HS7:Hid (x1.heap.size<x7.heap.size/\x7.heap.size<=((setQ x7 w.heap.size A7 n7 p7 a5).setCell ⟨x1.heap.size,4,none⟩ (.slice fA fn fc')).heap.size):=qh ⟨(Array.getElem?_eq_some_iff.1 (H6.o.on hb).bx).1,Nat.le_trans (Qw x7 w.heap.size A7 n7 p7 a5).size (Ql (Qx _ _) 4 (.slice fA fn fc'):(setQ x7 w.heap.size A7 n7 p7 a5).grownBy _ (some x1.heap.size)).size⟩;have hd2:=((hd1.mono (S':=fun b=>x1.heap.size<b/\b<x7.heap.size) fun b hb' h=>⟨h,hb'⟩).go (Qw x7 w.heap.size A7 n7 p7 a5) fun b hb e=>by cases e; have:=HLT4.o; have:=hb.1; omega).go (Ql (Qx _ _) 4 (.slice fA fn fc'):(setQ x7 w.heap.size A7 n7 p7 a5).grownBy ((setQ x7 w.heap.size A7 n7 p7 a5).setCell ⟨x1.heap.size,4,none⟩ (.slice fA fn fc')) (some x1.heap.size)) fun b hb e=>by cases e; have:=hb.1; omega
      have HST2:Hid (TsRel W0 w N K (Value.slice pA m pc).ownBlock x1.heap.size eA en ec fA fn fc' ⟨nm,kd,par,en4,ex5,[]⟩ (.slice pA m pc) ps (a6,tr) x7.heap.size (left a5) ((setQ x7 w.heap.size A7 n7 p7 a5).setCell ⟨x1.heap.size,4,none⟩ (.slice fA fn fc'))):=Lib.hid
       ⟨a5,[],A7,n7,p7,none,0,⟨h7,RowK.nil,HS7.o.1,HS7.o.2,hd2⟩,HO5.o,HL5.o,Nat.zero_le _,HE6.o,Nat.le_refl _⟩
      clear hT hb hd hd1 hd2 h7 c0 c1 c2 c3 c4 c5;go_wp2_with fail;clear z0 z1 z2 z3 z4 z5 f0 f1 f2 f3 f4 f5 fv fc
      go_loopg [13,14] (left a5) (fun gh _ _ wr=>TsRel W0 w N K (Value.slice pA m pc).ownBlock x1.heap.size eA en ec fA fn fc' ⟨nm,kd,par,en4,ex5,[]⟩ (.slice pA m pc) ps (a6,tr) x7.heap.size gh wr)
      case atStart=>exact HST2.o
      case round =>
       obtain ⟨d',ts,A8,n8,p8,tA,tc,hm,hok,hl,h16,hlo,hgh⟩:=hrel;have HTM:=qh hm;have HOK:=qh hok;have HLL:=qh hl;have HGH:=qh hgh;have HLO:=qh hlo;obtain ⟨kt,hkt⟩:∃ kt,kt=ts.length:=⟨_,rfl⟩;have HKT:=qh hkt;have hktI:(kt:Int)<=16:=by omega
       have HQ:=qh (fun s b hb A n cp W hT hW=>Qax d' s b hb A n cp W0 W hT hW);obtain ⟨c0,c1,c2,c3,c4,c5⟩:=Qc hm.sb.cb.cur;clear hm hok hl h16 hlo hgh hkt;go_upto_region 15 with fail
       go_cut [79] from 74 to 98 (fun v wx=>v = .bool (qT d')/\TsM W0 w N K (Value.slice pA m pc).ownBlock x1.heap.size eA en ec fA fn fc' ⟨nm,kd,par,en4,ex5,[]⟩ (.slice pA m pc) ps d' ts A8 n8 p8 tA tc x7.heap.size wx)
       case first =>
        cases hq1:isB d' 1 wOn with
        | true =>
          have HQ1:=qh (HQ.o wOn true hq1);have HV:Hid (qT d'=true):=qh (by unfold qT; rw [hq1]; rfl);clear hq1;go_wp2_with (go_at_call 106; go_fit (HQ1.o _ _ _ _ HTM.o.sb.cb.toks HTM.o.sb.cb.now));rintro e y1 ⟨rfl,hb⟩;have HY:=qh (HTM.o.on hb);clear hb;go_wp2_with fail;go_meet;exact ⟨by rw [HV.o],HY.o⟩
        | false =>
          have HQ1:=qh (HQ.o wOn false hq1);obtain ⟨bq,hbq⟩:∃ bq,isB d' 1 wAuto=bq:=⟨_,rfl⟩;have HQ2:=qh (HQ.o wAuto bq hbq);have HV:Hid (qT d'=bq):=qh (by unfold qT; rw [hq1,hbq]; rfl);clear hq1 hbq;go_wp2_with (go_at_call 106; go_fit (HQ1.o _ _ _ _ HTM.o.sb.cb.toks HTM.o.sb.cb.now));rintro e y1 ⟨rfl,hb⟩;have HY:=qh (HTM.o.on hb);clear hb c0 c1 c2 c3 c4 c5;obtain ⟨c0,c1,c2,c3,c4,c5⟩:=Qc HY.o.sb.cb.cur;go_wp2_with (go_at_call 106; go_fit (HQ2.o _ _ _ _ HY.o.sb.cb.toks HY.o.sb.cb.now));rintro e y2 ⟨rfl,hb⟩;have HY2:=qh (HY.o.on hb);clear hb;go_wp2_with fail;go_meet;exact ⟨by rw [HV.o],HY2.o⟩
       case rest =>
        obtain ⟨rfl,hm⟩:=hcut;have HTN:=qh hm;clear hm c0 c1 c2 c3 c4 c5 HQ HTM;obtain ⟨qb,hqb⟩:∃ qb,qb=qT d':=⟨_,rfl⟩;rw [<- hqb];obtain ⟨c0,c1,c2,c3,c4,c5⟩:=Qc HTN.o.sb.cb.cur;obtain ⟨s0,s1,s2,s3,s4,s5⟩:=Qc (show wc.heap[x1.heap.size]?=some (.cells #[.string nm,.int .i64 kd,.int .i64 par,.slice eA en ec,.slice fA fn fc',.slice tA kt tc] 51 (0,0)) by rw [HKT.o]; exact HTN.o.sb.bx)
        rcases qb with _ | _
        ·have hq2:=HLO.o
         rw [Jm (by rw [<- hqb]; decide)] at hq2;have hda:d'=a6:=by rw [Prod.mk.injEq] at hq2; exact hq2.1
         subst hda;have HTR:Hid (ts.map (·.t)=tr):=qh (by rw [Prod.mk.injEq] at hq2; exact hq2.2);clear hq2 hqb;obtain ⟨p,hp⟩:∃ p:SP,p=⟨⟨nm,kd,par,en4,ex5,tr⟩,eA,en,ec,fA,fn,fc',tA,kt,tc⟩:=⟨_,rfl⟩
         have hnp:Dep wc (fun b => KF K w.heap.size x1.heap.size b /\ (Value.slice pA m pc).ownBlock ≠ some b) (spN p):=by
          have hd1:=HTN.o.dep.mono (S':=fun b=>x1.heap.size<b) fun b _ h=>h.1
          have hd2:=HTN.o.row.far.mono (S':=fun b=>x1.heap.size<b) fun b _ h=>by have:=HTN.o.lt; omega
          refine ((hd1.and hd2).imp (Q:=spN p) fun x hx=>?_).mono fun b _ hb=>⟨.inr hb,fun e=>by have h1:=HTN.o.sb.old b e; have h2:=HLT4.o; omega⟩
          rw [hp];refine ⟨hx.1.1,hx.1.2,ts,HTR.o,?_,hx.2.2⟩;have:=hx.2.1;rw [<- HKT.o] at this ⊢;exact this
         have HNP:=qh hnp;have HPK:Hid (p.x=⟨nm,kd,par,en4,ex5,tr⟩):=qh (by rw [hp]);have HSV:Hid (spV p=[.string nm,.int .i64 kd,.int .i64 par,.slice eA en ec,.slice fA fn fc',.slice tA kt tc]):=qh (by rw [hp]; rfl);have HXN:Hid (N<=wc.heap.size):=qh (by have:=HNW.o; have:=HTN.o.sb.cb.lt.2; omega);have HWD:=qh HTN.o.sb.wide;have HBX:Hid (wc.heap[x1.heap.size]?=some (.cells #[.string nm,.int .i64 kd,.int .i64 par,.slice eA en ec,.slice fA fn fc',.slice tA kt tc] 51 (0,0))):=qh (by rw [HKT.o]; exact HTN.o.sb.bx);have hlit:(Obj.cells #[.string nm,.int .i64 kd,.int .i64 par,.slice eA en ec,.slice fA fn fc',.slice tA kt tc] 51:Obj) = .cells (spV p).toArray 51:=by rw [HSV.o]
         clear hnp;subst hp;go_wp2_with (at_builtin; refine Jh rfl (.tmp 101) (.tmp 103) _ rfl i0 (.agg #[.string ByteArray.empty,.int .i64 0,.int .i64 0,.slice none 0 0,.slice none 0 0,.slice none 0 0]) 104 Tryz.underlying32 HI.o.1 HI.o.2.1 HI.o.2.2.1 HI.o.2.2.2 rfl (by decide) HWD.o.row HXN.o ⟨⟨nm,kd,par,en4,ex5,tr⟩,eA,en,ec,fA,fn,fc',tA,kt,tc⟩ HNP.o rfl rfl rfl (QdF _) HAL1.o HAL2.o ?_; intro p2 w2 hadd; have H9:=qh (HWD.o.grow hadd.2.1 hadd.1 fun j e=>(hadd.2.2 j e).imp id Nat.le_of_lt); clear hadd);clear c0 c1 c2 c3 c4 c5 s0 s1 s2 s3 s4 s5;obtain ⟨p,hp⟩:∃ p:SP,p=⟨⟨nm,kd,par,en4,ex5,tr⟩,eA,en,ec,fA,fn,fc',tA,kt,tc⟩:=⟨_,rfl⟩;rw [<- hp] at H9;have HPX:Hid (p.x=⟨nm,kd,par,en4,ex5,tr⟩):=qh (by rw [hp]);clear hp hlit
         have HKS:Hid (KdRel W0 w N K (Value.slice pA m pc).ownBlock x1.heap.size k' ps p #[.string nm,.int .i64 kd,.int .i64 par,.slice eA en ec,.slice fA fn fc',.slice tA ts.length tc] F (left d') p2 w2):=Lib.hid
          ⟨d',[],A8,n8,p8,H9.o,HO6.o,HL6.o,by have h1:=HM60.o; have h2:=HM.o; simp; omega,fun h=>by rw [HPX.o] at h; exact HF0.o.1 h,fun h hb=>by rw [HPX.o] at h; rw [<- HM.o]; exact HF0.o.2.1 h hb,HF0.o.2.2,Nat.le_refl _⟩
         go_wp2_with fail
         go_loopg [1] (left d') (fun gh pv wr=>KdRel W0 w N K (Value.slice pA m pc).ownBlock x1.heap.size k' ps p #[.string nm,.int .i64 kd,.int .i64 par,.slice eA en ec,.slice fA fn fc',.slice tA ts.length tc] F gh pv wr)
         case atStart=>exact HKS.o
         case round =>
          obtain ⟨d2,qs,A10,n10,p10,hsb,hok,hl,hlen,hF1,hF2,hF3,hgh⟩:=hrel;rw [HPX.o] at hF1 hF2;dsimp only at hF1 hF2;rw [<- HM.o] at hF2;obtain ⟨lA,lc,rfl⟩:=hsb.row.shape;obtain ⟨M,hM⟩:∃ M,M=(ps++p::qs).length:=⟨_,rfl⟩;rw [<- hM] at hsb ⊢;have HMM:Hid (M=(ps++p::qs).length/\M=m+1+(qs.map (·.x)).length):=qh ⟨hM,by rw [hM,HM.o]; simp; omega⟩;have HSB:=qh hsb;have HOK2:=qh hok;have HLL2:=qh hl;have HGH2:=qh hgh;have HLEN:=qh hlen;have HFF:=qh (And.intro hF1 (And.intro hF2 hF3));have HKI2:=qh (fun A n cp W hT hW=>Qft d2 A n cp W0 W hT hW);obtain ⟨ki,hki⟩:∃ ki:Int,ki=(kindN d2:Int):=⟨_,rfl⟩;rw [<- hki] at HKI2;have HKIN:=qh hki;have hki0:0<=ki:=by omega
          obtain ⟨c0,c1,c2,c3,c4,c5⟩:=Qc hsb.cb.cur;have s1:=Qb hsb.bx (i:=1) (v:=.int .i64 kd) rfl;clear hsb hok hl hlen hF1 hF2 hF3 hgh hM hki;go_upto_region 23 with fail
          go_cut [112] from 105 to 121 (fun v wx=>v = .bool (decide (1<kd)&&decide (0<ki))/\SB W0 w wx N K (KF K w.heap.size x1.heap.size) (Value.slice pA m pc).ownBlock x1.heap.size A10 n10 p10 d2 #[.string nm,.int .i64 kd,.int .i64 par,.slice eA en ec,.slice fA fn fc',.slice tA ts.length tc] (.slice lA M lc) (ps++p::qs))
          case first =>
           by_cases hk1:1<kd
           ·go_wp2_with (go_at_call 109; go_fit (HKI2.o _ _ _ _ HSB.o.cb.toks HSB.o.cb.now))
            rintro e y1 ⟨rfl,hb⟩;have HY:=qh (HSB.o.on hb);clear hb;go_wp2_with fail;go_meet;exact ⟨by simp [hk1],HY.o⟩
           ·have hk2:decide (1 < kd) = false:=decide_eq_false hk1
            have HVF:Hid ((decide (1<kd)&&decide (0<ki))=false):=qh (by rw [hk2]; rfl);go_wp2_with fail;go_meet;exact ⟨by rw [HVF.o],HSB.o⟩
          case rest =>
           obtain ⟨rfl,hsb⟩:=hcut;have HSC:=qh hsb;clear c0 c1 c2 c3 c4 c5 s1 hsb HSB;obtain ⟨c0,c1,c2,c3,c4,c5⟩:=Qc HSC.o.cb.cur;obtain ⟨gq,hgq⟩:∃ gq,gq=(decide (1<kd)&&decide (0<ki)):=⟨_,rfl⟩;rw [<- hgq]
           rcases gq with _ | _
           ·have HEX:Hid (F.1 = d2 /\ (d2.bad = 0 -> F.2 = qs.map (·.x))):=qh (by
             have h:=HFF.o
             by_cases h1:kd=1
             ·rw [h.1 h1]; exact ⟨rfl,fun _=>rfl⟩
             ·by_cases hb:d2.bad = 0
              ·have hq:¬ qS d2 = true:=fun h' => by
                have h2:=Qbq.2 h';have h3:=HKIN.o;have h4:1<kd:=by have:=HKD.o; omega
                have h5:0<ki:=by omega
                simp [h4,h5] at hgq
               have h2:=h.2.1 h1 hb;rw [Jm hq] at h2;rw [<- h2]; exact ⟨rfl,fun _=>rfl⟩
              ·exact ⟨h.2.2 hb,fun h'=>absurd h' hb⟩)
            rw [HEX.o.1] at HMS;clear hgq;go_wp2_with (go_at_call 59; go_fit (HMS.o _ _ _ _ HSC.o.cb.toks HSC.o.cb.now));rintro e y2 ⟨A11,n11,p11,rfl,hT,hb⟩;have H11:=qh (HSC.o.on hb);have HT11:=qh hT;clear hT hb;obtain ⟨⟨r0,r1,r2,r3,r4,r5⟩,g0,g1,g2,g3,g4,g5⟩:=And.intro (Qc H11.o.cb.res) (Qk H11.o.cb.res);obtain ⟨q0,q1,q2,q3,q4,q5⟩:=Jt H11.o.cb.res A11 n11 p11 z;go_wp2_with fail;refine bodyPost_ret (v:=.tuple #[.agg #[.slice A11 n11 p11,.int .i64 z.w1,.int .i64 z.w2,.int .i64 z.a1,.int .i64 z.a2,.int .i64 z.bad],.slice lA M lc]) (by simp [results,Tryz.results61,go_sem,q0,q1,q2,q3,q4,q5]) rfl ?_;refine H11.o.o HT11.o (by rw [HP3.o]) (fun h=>?_) HLEN.o;rw [HP3.o]
            show p.x::qs.map (·.x)=_
            rw [HPX.o,HEX.o.2 (by rw [<- HEX.o.1]; exact HZB.o h)]
           ·have hg1:1 < kd:=by simp at hgq; exact hgq.1
            have hqs:qS d2=true:=Qbq.1 (by have h3:=HKIN.o; simp at hgq; omega);have hst:=xs_kids (k:=k') (n:=m) (out:=qs.map (·.x)) hqs;have hlf:=Za (QcL k' m) (qs.map (·.x)) hqs;have hlo:=JA (QcL k' m) (out:=qs.map (·.x)) hqs;rw [HFF.o.2.1 (by omega) (Zp hqs).1] at hlo;rw [hst,<- HMM.o.2] at hlf hlo;have hto:=xs_to k' M m d2;have hc:=HIH.o d2 (ps++p::qs) m (D+1) (KF K w.heap.size x1.heap.size) lA lc;rw [<- HMM.o.1] at hc;have hl60:M<=60:=by rw [HMM.o.1]; exact HLEN.o
            have hd1:D+1=13-(k':Int):=by have:=HDD.o; omega
            have HCS:=qh (fun A n cp W hT hW hN hr=>hc A n cp W HOK2.o HLL2.o hT hW hN hr hl60 hd1);clear hc hl60 hd1;obtain ⟨⟨y,R⟩,hy⟩:∃ r,r=XS k' M m d2:=⟨_,rfl⟩;rw [<- hy] at hlf hlo hto HCS;dsimp only at hlf hlo hto;have HEND:=qh (And.intro hlf (And.intro hlo (And.intro (hto.ok HOK2.o) (Nat.le_trans hto.len HLL2.o))));have HKN1:=qh hg1;clear hgq hqs hst hlf hlo hto hy hg1;have HXN2:Hid (N<=wc.heap.size):=qh (by have:=HNW.o; have:=HSC.o.cb.lt.2; omega);go_wp2_with (go_at_call 61; go_fit (HCS.o _ _ _ _ HSC.o.cb.toks HSC.o.cb.now HXN2.o HSC.o.row));rintro e y2 ⟨A11,n11,p11,lB,lm,lq,qs2,rfl,hT,hq,hr,hg,ho,h60'⟩;have hsz:x1.heap.size<wc.heap.size:=(Array.getElem?_eq_some_iff.1 HSC.o.bx).1
            have hgr:=HSC.o.grow hg (hr.mono (K':=KF K w.heap.size x1.heap.size) fun b _ hb => by
             rcases hb with hb | hb
             ·exact hb
             ·exact .inr (by omega)) ho
            obtain ⟨⟨z0,z1,z2,z3,z4,z5⟩,f0,f1,f2,f3,f4,f5⟩:=And.intro (Qc hgr.cb.cur) (Qk hgr.cb.cur);have H11:=qh (hgr.set hT);have HQ2:=qh hq;have H62:=qh h60';clear hT hq hr hg ho h60' hsz hgr c0 c1 c2 c3 c4 c5;go_wp2_with fail
            go_roundg (left y)
            case measure=>have h1:=HEND.o.1; have h3:=HGH2.o; omega
            case rel =>
             refine ⟨y,qs++qs2,A11,n11,p11,?_,HEND.o.2.2.1,HEND.o.2.2.2,?_,fun h=>?_,fun _ hb=>?_,fun hb=>?_,Nat.le_refl _⟩
             ·have:=H11.o
              rw [List.append_assoc,List.cons_append] at this;exact this
             ·have:=H62.o
              rw [List.append_assoc,List.cons_append] at this;exact this
             ·rw [HPX.o] at h
              have:=HKN1.o;dsimp only at h;omega
             ·rw [<- HM.o,List.map_append,HQ2.o hb]
              exact HEND.o.2.1.symm
             ·have:=HEND.o.2.1
              rw [Jm fun h'=>hb (Zp h').1] at this;rw [this]
        ·by_cases h16e:kt = 16
         ·have g7:((kt:Int) == 16) = true:=by simp; omega
          have hbad:=QB d' (show (8:Int)≠0 by decide)
          have HP6:Hid (P.1 = fail d' 8 /\ (fail d' 8).bad ≠ 0):=qh (by
           have h1:(stT d' (ts.map (·.t))).1=fail d' 8:=by show (readT (fullO 16 d' (ts.map (·.t)))).1=_; unfold fullO; rw [if_pos (by rw [List.length_map,<- HKT.o]; exact h16e)]; exact Qi6 hbad
           have h2:=HLO.o;rw [JA Z4 (out:=ts.map (·.t)) hqb.symm,Jm (fun h'=>hbad (by rw [<- h1]; exact (Z4.real h').1)),h1] at h2;have h3:a6=fail d' 8:=by rw [Prod.mk.injEq] at h2; exact h2.1.symm
           exact ⟨by rw [HPB.o (by rw [h3]; exact hbad),h3],hbad⟩)
          have HFL:=qh (fun A n cp W hT hW=>Jw d' 8 A n cp W0 W hT hW);obtain ⟨r,hr⟩:∃ r,r=fail d' 8:=⟨_,rfl⟩;rw [<- hr] at HP6 HFL;clear hbad hr hqb h16e;go_wp2_with (go_at_call 64; go_fit (HFL.o _ _ _ _ HTN.o.sb.cb.toks HTN.o.sb.cb.now));rintro e y2 ⟨A9,n9,p9,rfl,hT,hb⟩;have H9:=qh (HTN.o.sb.on hb);have HT9:=qh hT;clear hT hb;obtain ⟨⟨r0,r1,r2,r3,r4,r5⟩,g0,g1,g2,g3,g4,g5⟩:=And.intro (Qc H9.o.cb.res) (Qk H9.o.cb.res);obtain ⟨q0,q1,q2,q3,q4,q5⟩:=Jt H9.o.cb.res A9 n9 p9 r;go_wp2_with fail;refine bodyPost_ret (v:=.tuple #[.agg #[.slice A9 n9 p9,.int .i64 r.w1,.int .i64 r.w2,.int .i64 r.a1,.int .i64 r.a2,.int .i64 r.bad],.slice pA m pc]) (by simp [results,Tryz.results61,go_sem,q0,q1,q2,q3,q4,q5]) rfl ?_;exact H9.o.off HT9.o HP6.o.1 HP6.o.2 H60.o
         ·have g7:((kt:Int) == 16) = false:=by simp; omega
          have hst:stT d' (ts.map (·.t))=((readT d').1,ts.map (·.t)++[(readT d').2]):=by unfold SynSpec.stT fullO; rw [if_neg (by rw [List.length_map,<- HKT.o]; exact h16e)]
          have hlo2:=HLO.o;have hlf:=Za Z4 (ts.map (·.t)) hqb.symm;rw [JA Z4 (out:=ts.map (·.t)) hqb.symm,hst] at hlo2;rw [hst] at hlf;have hto:=Qb3 d';have HRT:=qh (fun A n cp W hT hW=>rtr_say d' HOK.o HLL.o A n cp W0 W hT hW);obtain ⟨⟨y,t'⟩,hy⟩:∃ p,p=readT d':=⟨_,rfl⟩;rw [<- hy] at hlo2 hlf hto HRT;dsimp only at hlo2 hlf hto;have HEND:=qh (And.intro hlo2 (And.intro hlf (And.intro (hto.ok HOK.o) (Nat.le_trans hto.len HLL.o))));have HTL1:Hid (ts.length+1<=maxLen):=qh (by have:=HKT.o; unfold maxLen; omega);have HTL2:Hid ((ts.length+1)*80<=140737488355328):=qh (by have:=HKT.o; omega);have HT16:Hid (∀ p:TP,(ts++[p]).length<=16):=qh (fun p=>by have:=HKT.o; rw [List.length_append]; show ts.length+1<=16; omega);clear hst hlo2 hlf hto hy hqb h16e;go_wp2_with (go_at_call 111; go_fit (HRT.o _ _ _ _ HTN.o.sb.cb.toks HTN.o.sb.cb.now));rintro e y2 ⟨A9,n9,p9,gA,gn,gc,aA,an,ac,rfl,hT,hd,hb⟩;have hm1:=(HTN.o.on hb).on (Qa (KitC.Qh y2 (rcO A9 n9 p9 y)) (KitC.Qh (y2.alloc (rcO A9 n9 p9 y)) (.cells (trA gA gn gc aA an ac t') 81)));have hbd:∀ j,(Value.slice tA ts.length tc).ownBlock=some j->x7.heap.size<=j/\j<wc.heap.size:=fun j e=>HTN.o.row.bd j e
          have hsz:=HTN.o.sz;have hslt:=HTN.o.lt;have hdn:=(((hd.mono (S':=fun b=>x7.heap.size<=b/\(Value.slice tA ts.length tc).ownBlock≠some b) fun b _ h=>⟨Nat.le_trans hsz h,fun e=>absurd (hbd b e).2 (Nat.not_lt.2 h)⟩).alloc (rcO A9 n9 p9 y)).alloc (.cells (trA gA gn gc aA an ac t') 81)).go (Qw _ w.heap.size A9 n9 p9 y) fun b hb e=>by cases e; have:=HLT4.o; have:=hb.1; omega
          have hsq:=hm1.sb.set hT;have hrq:=hm1.row.low (Qw _ w.heap.size A9 n9 p9 y) (by intro j e; cases e; have:=HLT4.o; omega);have hdq:=hm1.dep.go (Qw _ w.heap.size A9 n9 p9 y) fun b hb e=>by cases e; have:=HLT4.o; have:=hb.1; omega
          have hszq:=Nat.le_trans hm1.sz (Qw ((y2.alloc (rcO A9 n9 p9 y)).alloc (.cells (trA gA gn gc aA an ac t') 81)) w.heap.size A9 n9 p9 y).size;have hxb:(((y2.alloc (rcO A9 n9 p9 y)).alloc (.cells (trA gA gn gc aA an ac t') 81))).heap[y2.heap.size]?=some (rcO A9 n9 p9 y):=Qe (heap_alloc_new y2 (rcO A9 n9 p9 y)) (KitC.Qh _ _);have htb:(setQ ((y2.alloc (rcO A9 n9 p9 y)).alloc (.cells (trA gA gn gc aA an ac t') 81)) w.heap.size A9 n9 p9 y).heap[y2.heap.size+1]?=some (.cells (trA gA gn gc aA an ac t') 81 (0,0)):=Je (by have:=heap_alloc_new (y2.alloc (rcO A9 n9 p9 y)) (.cells (trA gA gn gc aA an ac t') 81); rwa [World.size_alloc] at this) (Qw _ _ _ _ _ _) (by have:=(HTN.o.on hb).sb.cb.lt.1; omega);obtain ⟨⟨z0,z1,z2,z3,z4,z5⟩,f0,f1,f2,f3,f4,f5⟩:=And.intro (Qc hm1.sb.cb.cur) (Qk hm1.sb.cb.cur);obtain ⟨x0,x01,x02,x03,x04,x05⟩:=Qc hxb;obtain ⟨Y,hY⟩:∃ Y,setQ ((y2.alloc (rcO A9 n9 p9 y)).alloc (.cells (trA gA gn gc aA an ac t') 81)) w.heap.size A9 n9 p9 y=Y:=⟨_,rfl⟩;rw [hY] at hdn hsq hrq hdq htb hszq;unfold setQ at hY;have HY:=qh hY;have HDN:=qh hdn;have HSQ:=qh hsq;have HRQ:=qh hrq;have HDQ:=qh hdq;have HNY:=qh hszq;have HSL:=qh hslt;clear hT hd hb hm1 hbd hsz hslt hszq hdn hsq hrq hdq hxb hY c0 c1 c2 c3 c4 c5 s0 s1 s2 s3 s4 s5;obtain ⟨t0,t1,t2,t3⟩:=Qi htb;clear htb;go_upto_region 20 with fail;rw [HY.o];clear z0 z1 z2 z3 z4 z5 f0 f1 f2 f3 f4 f5 x0 x01 x02 x03 x04 x05;have s5:=Qb HSQ.o.bx (i:=5) (v:=.slice tA ts.length tc) rfl;go_wp2_with (at_builtin; refine Jh rfl (.tmp 94) (.tmp 96) _ rfl j0 (.agg #[.string ByteArray.empty,.slice none 0 0,.slice none 0 0,.string ByteArray.empty]) 80 Tryz.underlying49 HJ.o.1 HJ.o.2.1 HJ.o.2.2.1 HJ.o.2.2.2 rfl (by decide) HRQ.o HNY.o ⟨t',gA,gn,gc,aA,an,ac⟩ HDN.o rfl rfl rfl (Qcc _) HTL1.o HTL2.o ?_; intro p2 w2 hadd; obtain ⟨tB,tq,rfl⟩:=hadd.1.shape; have hbj:∀ j,(Value.slice tA ts.length tc).ownBlock=some j->x1.heap.size<j/\(Value.slice pA m pc).ownBlock≠some j:=(fun j e=>⟨by have h2:=(HRQ.o.bd j e).1; have h3:=HSL.o; omega,fun e'=>by have h1:=HSQ.o.old j e'; have h2:=(HRQ.o.bd j e).1; have h3:=HLT4.o; have h4:=HSL.o; omega⟩); have HSW:=qh (HSQ.o.behind hadd.2.1 hbj fun b hb=>hb.2); have HAD:=qh hadd; have HDW:=qh (HDQ.o.go hadd.2.1 fun b hb e=>by have h2:=(HRQ.o.bd b e).1; have h3:=hb.2; omega); have fv:=Qf HSW.o.bx 5; have fc:=Qb HSW.o.bx (i:=5) (v:=.slice tA ts.length tc) rfl; clear hadd hbj)
          go_roundg (left y)
          case measure=>have h1:=HEND.o.2.1; have h3:=HGH.o; omega
          case rel =>
           have hs5:w2.grownBy (w2.setCell ⟨x1.heap.size,5,none⟩ (.slice tB (ts++[(⟨t',gA,gn,gc,aA,an,ac⟩:TP)]).length tq)) (some x1.heap.size):=Ql (Qx _ _) _ _
           have hrel:TsM W0 w N K (Value.slice pA m pc).ownBlock x1.heap.size eA en ec fA fn fc' ⟨nm,kd,par,en4,ex5,[]⟩ (.slice pA m pc) ps y (ts ++ [(⟨t',gA,gn,gc,aA,an,ac⟩:TP)]) A9 n9 p9 tB tq x7.heap.size (w2.setCell ⟨x1.heap.size,5,none⟩ (.slice tB (ts ++ [(⟨t',gA,gn,gc,aA,an,ac⟩:TP)]).length tq)) :=
            ⟨HSW.o.put 5 _,HAD.o.1.low hs5 (by intro j e; cases e; exact HSL.o),HSL.o,Nat.le_trans HNY.o (Nat.le_trans HAD.o.2.1.size hs5.size),HDW.o.go hs5 fun b hb e=>by cases e; have:=hb.1; omega⟩
           refine ⟨y,ts++[⟨t',gA,gn,gc,aA,an,ac⟩],A9,n9,p9,tB,tq,?_,HEND.o.2.2.1,HEND.o.2.2.2,HT16.o _,?_,Nat.le_refl _⟩
           ·have:=hrel
            simpa using this
           ·have:=HEND.o.1
            rw [List.map_append];exact this
     ·have HPQ:Hid (P.1 = d /\ (d.bad = 0 -> P.2 = [⟨nm,kd,par,[],[],[]⟩])):=qh (by
       have h1:=HHD.o;have h2:=HED.o;rw [HB.o]
       cases hq:isB a2 3 wEnd with
       | true =>
         unfold bodyS;rw [h1,if_pos hq];exact ⟨by rw [h2.1]; unfold take; rw [if_pos hq],fun _=>rfl⟩
       | false =>
         have hb:a2.bad≠0:=by rw [h2.2,hq] at hqq; simpa using hqq.symm
         have hd':d=a2:=by rw [h2.1]; exact FormSpec.QcS hb 3 wEnd
         refine ⟨?_,fun h0=>absurd (hd' ▸ h0) hb⟩;rw [bodyS_off (fun d hd=>by rw [ZJ hd]) (by rw [h1]; exact hb),h1,hd'])
      clear hqq;obtain ⟨k0,k1,k2,k3,k4,k5⟩:=Qc (Qe HD4.o ((KitC.Qh X (stLit nm kd par)).drew));have HXN:Hid (N<=X.heap.size):=qh (by have:=HNW.o; have:=H4.o.cb.lt.2; omega);go_wp2_with fail;go_region_law (refine QcF rfl (.tmp 56) (.tmp 58) _ rfl i0 (.agg #[.string ByteArray.empty,.int .i64 0,.int .i64 0,.slice none 0 0,.slice none 0 0,.slice none 0 0]) 104 Tryz.underlying32 HI.o.1 HI.o.2.1 HI.o.2.2.1 HI.o.2.2.2 rfl (by decide) H4.o.row HXN.o ⟨⟨nm,kd,par,[],[],[]⟩,none,0,0,none,0,0,none,0,0⟩ (QgO _ ⟨rfl,rfl,rfl⟩) (by simp [Act.eval]) (by simp [Act.eval]) rfl (QdF _) HAL1.o HAL2.o ?_; intro p2 w2 hadd; have HAD:=qh hadd; have HD5:=qh (stay HD4.o hadd.2.1 fun j e=>by have h1:=H1.o.old j e; have h2:=HLT4.o; omega); have H5:=qh (H4.o.grow hadd.2.1 hadd.1 fun j e=>(hadd.2.2 j e).imp id Nat.le_of_lt); clear hadd; obtain ⟨y0,y1,y2,y3,y4,y5⟩:=Qc HD5.o; obtain ⟨⟨r0,r1,r2,r3,r4,r5⟩,g0,g1,g2,g3,g4,g5⟩:=And.intro (Qc H5.o.cb.res) (Qk H5.o.cb.res))
      all_goals
       go_wp2_with fail;obtain ⟨q0,q1,q2,q3,q4,q5⟩:=Jt H5.o.cb.res A4 n4 p4 d;obtain ⟨B,qv,rfl⟩:=HAD.o.1.shape;refine bodyPost_ret (v:=.tuple #[.agg #[.slice A4 n4 p4,.int .i64 d.w1,.int .i64 d.w2,.int .i64 d.a1,.int .i64 d.a2,.int .i64 d.bad],.slice B (ps++[(⟨⟨nm,kd,par,[],[],[]⟩,none,0,0,none,0,0,none,0,0⟩:SP)]).length qv]) (by simp [results,Tryz.results61,go_sem,q0,q1,q2,q3,q4,q5]) rfl ?_;exact H5.o.o HTD.o HPQ.o.1 (fun h=>(HPQ.o.2 h).symm) (by have:=HM60.o; have:=HM.o; simp; omega)
theorem QeW (W0:World) (N:Nat) (hN:W0.heap.size <= N):∀ k,k <= 12 -> StOk W0 N k
 | 0,_ => st_body W0 N 0 (by omega) hN (fun k' h => by omega)
 | k + 1,hk => st_body W0 N (k + 1) hk hN (fun k' h => by obtain rfl:k' = k:=(by omega); exact QeW W0 N hN k' (by omega))
end
section
open Go.RowKit CurSpec TermSpec EvalSpec ActSpec NamesSpec ExprSpec TransSpec SynSpec FormSpec
set_option maxRecDepth 100000
def nextE (c:Cur) (ps:List ByteArray):Cur × List ByteArray:=loopT qE stE (nameC (fullE c ps)) (ps++[nameS (fullE c ps)])
structure EvStep (c:Cur) (ps:List ByteArray) (F:Cur × List ByteArray) (d:Cur) (s:ByteArray):Prop where
 ok:Ok (take d 3 wCom)
 more:isB d 3 wCom=true->(take d 3 wCom).bad=0/\(ps++[s]).length<=8/\(take d 3 wCom).L.length+1<=c.L.length/\nextE (take d 3 wCom) (ps++[s])=F
 done:isB d 3 wCom=false->F.1=take d 3 wCom/\((take d 3 wCom).bad=0->F.2=ps++[s])
theorem ev_step {c:Cur} {ps:List ByteArray} (h8:ps.length <= 8) (ok:Ok c):EvStep c ps (nextE c ps) (nameC (fullE c ps)) (nameS c):=by
 have ht:=(Qck c ps).trans (Ju _)
 have hs:(nameC (fullE c ps)).bad = 0 -> nameS (fullE c ps) = nameS c /\ ps.length + 1 <= 8:=fun h0 => by
  by_cases h:ps.length=8/\nameB c=true
  ·unfold fullE at h0
   rw [if_pos h] at h0;exact absurd h0 ((Ju _).bad (QB c (by decide)))
  ·unfold fullE at h0 ⊢
   rw [if_neg h] at h0 ⊢;refine ⟨rfl,?_⟩
   rcases Nat.lt_or_ge ps.length 8 with h1 | h1
   ·exact h1
   ·have hn:nameB c = true:=by
     cases hb:nameB c with
     | true => rfl
     | false =>
       unfold nameC at h0;rw [hb] at h0;exact absurd h0 (QB c (by decide))
    exact absurd ⟨by omega,hn⟩ h
 refine ⟨(ht.ok ok).take _ _,fun hb=>?_,fun hb=>?_⟩
 ·have hr:=Qv hb (by decide)
  have hT:take (nameC (fullE c ps)) 3 wCom=on (nameC (fullE c ps)):=by unfold take; rw [if_pos hb]
  rw [hT,(JL _).1];have hl:=ht.len;refine ⟨hr.1,by have:=(hs hr.1).2; simpa using this,by have:=hr.2.1; omega,?_⟩
  show _=loopT qE stE (nameC (fullE c ps)) (ps++[nameS (fullE c ps)])
  rw [JA Qgz (out:=ps++[nameS (fullE c ps)]) hb,(hs hr.1).1]
  rfl
 ·have hb':¬ isB (nameC (fullE c ps)) 3 wCom = true:=by rw [hb]; decide
  have hT:take (nameC (fullE c ps)) 3 wCom=nameC (fullE c ps):=by unfold take; rw [if_neg hb']
  rw [hT]
  show (loopT qE stE (nameC (fullE c ps)) (ps++[nameS (fullE c ps)])).1=_/\(_->(loopT qE stE (nameC (fullE c ps)) (ps++[nameS (fullE c ps)])).2=_)
  rw [Jm hb'];exact ⟨rfl,fun h0=>by rw [(hs h0).1]⟩
abbrev RowTx (N:Nat) (wr:World) (pv:Value) (ps:List ByteArray):Prop:=RowC 9 1 sC (fun _ _=>True) N wr pv ps
def ErRel (W0 w:World) (F:Cur × List ByteArray) (gh:Nat) (out more:Value) (wr:World):Prop :=
 ∃ (c:Cur) (ps:List ByteArray) (A:Option Addr) (n cp:Nat) (b:Bool),more = .bool b /\ CB W0 w wr none w.heap.size A n cp c /\ Ok c /\ RowTx (w.heap.size + 2) wr out ps /\
   (b=true->c.bad=0/\ps.length<=8/\nextE c ps=F/\c.L.length<gh)/\(b=false->F.1=c/\(c.bad=0->F.2=ps))
def ErCut (W0 w:World) (c d:Cur) (E:Nat) (pv:Value) (ps:List ByteArray) (wx:World):Prop :=
 ∃ A n cp A' n' cp',CB W0 w wx none w.heap.size A n cp c/\CB W0 w wx none E A' n' cp' d/\RowTx (w.heap.size+2) wx pv ps
theorem rev_say (c:Cur) (ok:Ok c) (A:Option Addr) (n cp:Nat) (W0 w:World) (h:Toks W0 (.slice A n cp) c.L) (hw:Below W0.heap.size W0 w) :
 Calls Tryz.prog 58 #[.agg #[.slice A n cp,.int .i64 c.w1,.int .i64 c.w2,.int .i64 c.a1,.int .i64 c.a2,.int .i64 c.bad]] w (RetLs (fun x v=>(evR c).1.bad=0->RdS x v (evR c).2) W0 w (evR c).1):=by
 obtain ⟨i0,hi,hz0,hz1,hz2⟩:=info_parts QdC;have HI:=qh (And.intro hi (And.intro hz0 (And.intro hz1 hz2)));have H0:=qh (CB.start h hw);have HR0:Hid (RowTx (w.heap.size+2) (((w.alloc (rcO A n cp c)).alloc rcZ).alloc (.cells #[] 9)) (.slice (some ⟨w.heap.size+2,0,none⟩) 0 0) []):=qh (by have:=RowC.lit0 (T:=9) (k:=1) (cv:=sC) (nest:=fun _ _=>True) (N:=w.heap.size+2) (wr:=(w.alloc (rcO A n cp c)).alloc rcZ) (by simp); simpa using this);have HQ:=qh (fun b hb A n cp W hT hW=>Qax c wEvent b hb A n cp W0 W hT hW);obtain ⟨P,hP⟩:∃ P,P=evR c:=⟨_,rfl⟩;rw [<- hP];obtain ⟨c0,c1,c2,c3,c4,c5⟩:=Qc H0.o.cur
 by_cases hb:isB c 1 wEvent=true
 ·obtain ⟨F,hF⟩:∃ F,F = nextE (on c) []:=⟨_,rfl⟩
  have HP:Hid (P=(want F.1 3 wEnd,F.2)):=qh (by rw [hP]; unfold evR; rw [if_pos hb,hF]; rfl);have HQ2:=qh (HQ.o true hb);have HON:=qh (fun A n cp W hT hW=>Ji c A n cp W0 W hT hW);have HMK:=qh (fun A n cp W hT hW=>QS F.1 wEnd A n cp W0 W hT hW);have h0:=(Qv hb (by decide)).1;have HD:=qh (And.intro (ok.on) (And.intro (show (on c).bad=0 by rw [(JL c).1]; exact h0) hF.symm));obtain ⟨d,hd⟩:∃ d,d=on c:=⟨_,rfl⟩;rw [<- hd] at HON HD;clear hP hb h ok hF hi hz0 hz1 hz2 hw h0 hd HQ;go_enter Tryz.func58,Tryz.ntmps58;go_wp2_with (go_at_call 106; go_fit (HQ2.o _ _ _ _ H0.o.toks (H0.o.alloc _).now));rintro e x2 ⟨rfl,hb2⟩;have H2:=qh ((H0.o.alloc _).on hb2);have HR2:=qh (HR0.o.keep hb2);clear c0 c1 c2 c3 c4 c5 hb2;obtain ⟨c0,c1,c2,c3,c4,c5⟩:=Qc H2.o.cur;go_wp2_with (go_at_call 63; go_fit (HON.o _ _ _ _ H2.o.toks H2.o.now));rintro e x3 ⟨A3,n3,p3,rfl,hT,hb3⟩;obtain ⟨⟨z0,z1,z2,z3,z4,z5⟩,f0,f1,f2,f3,f4,f5⟩:=And.intro (Qc ((H2.o.on hb3).cur)) (Qk ((H2.o.on hb3).cur));have H3:=qh ((H2.o.on hb3).set hT);have HR3:=qh ((HR2.o.keep hb3).low (Qw x3 w.heap.size A3 n3 p3 d) (by intro j e; cases e; omega))
  have HST:Hid (ErRel W0 w F (d.L.length + 1) (.slice (some ⟨w.heap.size + 2,0,none⟩) 0 0) (.bool true) (setQ x3 w.heap.size A3 n3 p3 d)):=Lib.hid
   ⟨d,[],A3,n3,p3,true,rfl,H3.o,HD.o.1,HR3.o,fun _=>⟨HD.o.2.1,by simp,HD.o.2.2,Nat.lt_succ_self _⟩,fun h=>by cases h⟩
  clear hT hb3 c0 c1 c2 c3 c4 c5;go_wp2_with fail
  go_loopg [4,5,6,7] (d.L.length+1) (fun gh out more _ _ wr=>ErRel W0 w F gh out more wr)
  case atStart=>exact HST.o
  case round =>
   obtain ⟨t,ps,A4,n4,p4,b,rfl,hcb,hok,hrow,htr,hfa⟩:=hrel;have HC:=qh hcb;have HR:=qh hrow;obtain ⟨pA,pc,rfl⟩:=hrow.shape;obtain ⟨k,hk⟩:∃ k,k=ps.length:=⟨_,rfl⟩;rw [<- hk];rw [<- hk] at HR;have HK:=qh hk
   rcases b with _ | _
   ·obtain ⟨rfl,hf⟩:=hfa rfl
    have HF:=qh hf;obtain ⟨m,hm⟩:∃ m,m=want F.1 3 wEnd:=⟨_,rfl⟩;have HMB:Hid (m.bad=0->F.1.bad=0):=qh fun h=>Decidable.byContradiction fun h'=>(QM F.1 3 wEnd).bad h' (hm ▸ h)
    rw [<- hm] at HMK HP;obtain ⟨c0,c1,c2,c3,c4,c5⟩:=Qc hcb.cur;clear hcb hok hrow htr hfa hf hk hm;go_wp2_with (go_at_call 59; go_fit (HMK.o _ _ _ _ HC.o.toks HC.o.now));rintro e y2 ⟨A5,n5,p5,rfl,hT5,hb5⟩;have HT5:=qh hT5;have H5:=qh (HC.o.on hb5);have HR5:=qh (HR.o.keep hb5);obtain ⟨⟨r0,r1,r2,r3,r4,r5⟩,g0,g1,g2,g3,g4,g5⟩:=And.intro (Qc H5.o.res) (Qk H5.o.res);obtain ⟨q0,q1,q2,q3,q4,q5⟩:=Jt H5.o.res A5 n5 p5 m;clear hT5 hb5;go_wp2_with fail;refine bodyPost_ret (v:=.tuple #[.agg #[.slice A5 n5 p5,.int .i64 m.w1,.int .i64 m.w2,.int .i64 m.a1,.int .i64 m.a2,.int .i64 m.bad],.slice pA k pc]) (by simp [results,Tryz.results58,go_sem,q0,q1,q2,q3,q4,q5]) rfl ?_;rw [HP.o];exact ⟨A5,n5,p5,_,_,_,rfl,HT5.o,((HR5.o.low (Qw y2 (w.heap.size+1) A5 n5 p5 m) (by intro j e; cases e; omega)).far.mono fun b _ hb=>by omega).imp fun x hx hbad=>by have:=hx.1; rw [<- HF.o (HMB.o hbad),sC_flat] at this; exact rd_one this,H5.o.done _ _ _ _⟩
   ·obtain ⟨h0,h8,hn,hgh⟩:=htr rfl
    have hs:=ev_step h8 hok;rw [hn] at hs;have HNM:=qh (fun A n cp W hT hW=>JZ t hok A n cp W0 W hT hW);have HFA:=qh (fun A n cp W hT hW=>Jw t 8 A n cp W0 W hT hW);obtain ⟨d2,hd2⟩:∃ d2,d2=nameC (fullE t ps):=⟨_,rfl⟩;obtain ⟨u,hu⟩:∃ u,u=nameC t:=⟨_,rfl⟩;obtain ⟨s,es⟩:∃ s,s=nameS t:=⟨_,rfl⟩;rw [<- hd2,<- es] at hs;rw [<- hu,<- es] at HNM
    have hub:u.bad = 0 ↔ nameB t = true:=by
     rw [hu];unfold nameC
     cases nameB t with
     | true => rw [if_pos rfl,(JL t).1]; simp [h0]
     | false => rw [if_neg (by decide)]; simp [QB t (show (2:Int) ≠ 0 by decide)]
    have HD2:Hid ((k=8/\u.bad=0->d2=fail t 8)/\(¬ (k=8/\u.bad=0)->d2=u)):=qh ⟨fun h=>by rw [hd2]; unfold fullE; rw [if_pos ⟨hk ▸ h.1,hub.1 h.2⟩]; exact ZP (QB t (by decide)),fun h=>by rw [hd2]; unfold fullE; rw [if_neg fun h'=>h ⟨hk.trans h'.1,hub.2 h'.2⟩,hu]⟩;have HTK:=qh (fun A n cp W hT hW=>Jf d2 3 wCom A n cp W0 W hT hW);have HS:=qh hs;obtain ⟨d3,hd3⟩:∃ d3,d3=take d2 3 wCom:=⟨_,rfl⟩;obtain ⟨bm,hbm⟩:∃ bm,bm=isB d2 3 wCom:=⟨_,rfl⟩;rw [<- hd3,<- hbm] at HTK;have HD3:=qh (And.intro hd3 hbm);have HGH:=qh hgh;have HL1:Hid (ps.length+1<=maxLen):=qh (by unfold maxLen; omega);have HL2:Hid ((ps.length+1)*16<=140737488355328):=qh (by omega);have e0:(t.bad==0)=true:=by simpa using h0
    have hkI:(k:Int)<=8:=by omega
    obtain ⟨c0,c1,c2,c3,c4,c5⟩:=Qc hcb.cur;clear hcb hok hrow htr hfa h0 h8 hn hs hgh hd2 hu es hub hd3 hbm hk;go_wp2_with (go_at_call 56; go_fit (HNM.o _ _ _ _ HC.o.toks HC.o.now));rintro e y2 ⟨A5,n5,p5,rfl,hT5,hb5⟩;have H5:=qh ((HC.o.on hb5).alloc (rcO A5 n5 p5 u));have H6:=qh ((HC.o.on hb5).fresh hT5);have HR6:=qh ((HR.o.keep hb5).keep (KitC.Qh y2 (rcO A5 n5 p5 u)));have HOB:=qh ((HR.o.keep hb5).bd);have HTU:=qh hT5;have HLT:=qh (HC.o.on hb5).lt;clear hT5 hb5 c0 c1 c2 c3 c4 c5;obtain ⟨X,hX⟩:∃ X,y2.alloc (rcO A5 n5 p5 u)=X:=⟨_,rfl⟩;obtain ⟨E,hE⟩:∃ E,E=y2.heap.size:=⟨_,rfl⟩;rw [hX,<- hE] at H6;rw [hX] at H5 HR6;rw [<- hE] at HOB HLT;have HX:=qh hX;have HE:=qh hE;obtain ⟨c0,c1,c2,c3,c4,c5⟩:=Qc H5.o.cur;obtain ⟨d0,d1,d22,d33,d4,d5⟩:=Qc H6.o.cur;obtain ⟨⟨z0,z1,z2,z3,z4,z5⟩,f0,f1,f2,f3,f4,f5⟩:=And.intro (Qc H6.o.cur) (Qk H6.o.cur);clear hX hE;go_upto_region 8 with fail;rw [HX.o,<- HE.o]
    go_cut [34] from 16 to 45 (fun v wx=>v = .bool (decide (u.bad=0)&&decide (k=8))/\wx=X)
    case first =>
     by_cases hu0:u.bad=0
     ·have g0:(u.bad == 0) = true:=by simpa using hu0
      by_cases h8e:k=8
      ·have g1:((k:Int) == 8) = true:=by simp; omega
       go_wp2_with fail;go_meet;exact ⟨by simp [hu0,h8e],rfl⟩
      ·have g1:((k:Int) == 8) = false:=by simp; omega
       go_wp2_with fail;go_meet;exact ⟨by simp [hu0,h8e],rfl⟩
     ·have g0:(u.bad == 0) = false:=by simpa using hu0
      go_wp2_with fail;go_meet;exact ⟨by simp [hu0],rfl⟩
    case rest =>
     obtain ⟨rfl,rfl⟩:=hcut;obtain ⟨q,hq⟩:∃ q,q=(decide (u.bad=0)&&decide (k=8)):=⟨_,rfl⟩;rw [<- hq]
     have HQ3:Hid (d2 = if q = true then fail t 8 else u):=qh (by
      cases q with
      | true => rw [if_pos rfl]; simp at hq; exact HD2.o.1 ⟨hq.2,hq.1⟩
      | false => rw [if_neg (by decide)]; refine HD2.o.2 fun h => ?_; simp [h.1,h.2] at hq)
     clear hq;go_upto_if 34 with fail
     go_cut [] from 16 to 45 (fun wx=>ErCut W0 w t d2 E (.slice pA k pc) ps wx)
     case first =>
      rcases q with _ | _
      ·go_wp2_with fail
       go_meet;exact ⟨A4,n4,p4,A5,n5,p5,H5.o,by rw [HQ3.o]; exact H6.o,HR6.o⟩
      ·go_wp2_with (go_at_call 64; go_fit (HFA.o _ _ _ _ H5.o.toks H5.o.now))
       rintro e y3 ⟨A7,n7,p7,rfl,hT7,hb7⟩;have H7:=qh ((H6.o.on hb7).set hT7);have H8:=qh ((H5.o.on hb7).but (Qw y3 E A7 n7 p7 (fail t 8)) HLT.o.2 (by have:=HLT.o.1; omega));have HR8:=qh ((HR6.o.keep hb7).put (Qw y3 E A7 n7 p7 (fail t 8)) (fun e=>by have:=(HOB.o _ e).2; omega) fun _ _=>trivial);obtain ⟨⟨r0,r1,r2,r3,r4,r5⟩,g0,g1,g2,g3,g4,g5⟩:=And.intro (Qc ((H6.o.on hb7).cur)) (Qk ((H6.o.on hb7).cur));clear hT7 hb7;go_wp2_with fail;go_meet;exact ⟨A4,n4,p4,A7,n7,p7,H8.o,by rw [HQ3.o]; exact H7.o,HR8.o⟩
     case rest =>
      obtain ⟨A7,n7,p7,A8,n8,p8,hc7,hc8,hr7⟩:=hcut;have H7:=qh hc7;have H8:=qh hc8;have HR7:=qh hr7;clear hc7 hc8 hr7 c0 c1 c2 c3 c4 c5 d0 d1 d22 d33 d4 d5 z0 z1 z2 z3 z4 z5 f0 f1 f2 f3 f4 f5;go_wp2_with (at_builtin; refine Jh rfl (.tmp 37) (.tmp 39) _ rfl i0 (.string ByteArray.empty) 16 Tryz.underlying30 HI.o.1 HI.o.2.1 HI.o.2.2.1 HI.o.2.2.2 rfl (by decide) HR7.o (by have:=H7.o.lt.2; omega) s (Dep.triv fun _=>trivial) rfl rfl rfl (by simp [Value.oneCell']) HL1.o HL2.o ?_; intro p2 w2 ⟨hrow2,hg2,ho2⟩; have HR9:=qh hrow2; have H9:=qh (H7.o.go hg2 fun j e=>by have:=HOB.o j e; omega); have H10:=qh (H8.o.go hg2 fun j e=>by have:=HOB.o j e; omega); obtain ⟨d0,d1,d22,d33,d4,d5⟩:=Qc H10.o.cur; clear hrow2 hg2 ho2);go_wp2_with (go_at_call 107; go_fit (HTK.o _ _ _ _ H10.o.toks H10.o.now));rintro e y4 ⟨A9,n9,p9,rfl,hT9,hb9⟩;have H11:=qh ((H9.o.on hb9).set hT9);have HR11:=qh ((HR9.o.keep hb9).low (Qw y4 w.heap.size A9 n9 p9 d3) (by intro j e; cases e; omega));obtain ⟨⟨z0,z1,z2,z3,z4,z5⟩,f0,f1,f2,f3,f4,f5⟩:=And.intro (Qc ((H9.o.on hb9).cur)) (Qk ((H9.o.on hb9).cur));clear hT9 hb9;go_wp2_with fail
      go_roundg (if bm=true then d3.L.length+1 else 0)
      case measure =>
       have h1:=HGH.o;have h2:=HS.o.more;rw [<- HD3.o.1,<- HD3.o.2] at h2
       split
       ·have:=(h2 ‹_›).2.2.1; omega
       ·omega
      case rel =>
       have h1:=HS.o.ok;have h2:=HS.o.more;have h3:=HS.o.done;rw [<- HD3.o.1] at h1 h2 h3;rw [<- HD3.o.2] at h2 h3;exact ⟨d3,ps++[s],A9,n9,p9,bm,rfl,H11.o,h1,HR11.o,fun hb=>by rw [if_pos hb]; exact ⟨(h2 hb).1,(h2 hb).2.1,(h2 hb).2.2.2,Nat.lt_succ_self _⟩,h3⟩
 ·have HP:Hid (P = (c,[])):=qh (by rw [hP]; unfold evR; rw [if_neg hb])
  have HQ2:=qh (HQ.o false (by simpa using hb));clear hP hb h ok hi hz0 hz1 hz2 hw HQ;go_enter Tryz.func58,Tryz.ntmps58;go_wp2_with (go_at_call 106; go_fit (HQ2.o _ _ _ _ H0.o.toks (H0.o.alloc _).now));rintro e x2 ⟨rfl,hb2⟩;have H2:=qh ((H0.o.alloc _).on hb2);have HR2:=qh (HR0.o.keep hb2);clear c0 c1 c2 c3 c4 c5 hb2;obtain ⟨c0,c1,c2,c3,c4,c5⟩:=Qc H2.o.cur;obtain ⟨⟨r0,r1,r2,r3,r4,r5⟩,g0,g1,g2,g3,g4,g5⟩:=And.intro (Qc H2.o.res) (Qk H2.o.res);obtain ⟨q0,q1,q2,q3,q4,q5⟩:=Jt H2.o.res A n cp c;go_wp2_with fail;refine bodyPost_ret (v:=.tuple #[.agg #[.slice A n cp,.int .i64 c.w1,.int .i64 c.w2,.int .i64 c.a1,.int .i64 c.a2,.int .i64 c.bad],.slice (some ⟨w.heap.size+2,0,none⟩) 0 0]) (by simp [results,Tryz.results58,go_sem,q0,q1,q2,q3,q4,q5]) rfl ?_;rw [HP.o];exact ⟨A,n,cp,_,_,_,rfl,H2.o.toks,((HR2.o.low (Qw x2 (w.heap.size+1) A n cp c) (by intro j e; cases e; omega)).far.mono fun b _ hb=>by omega).imp fun x hx _=>rd_one hx.1,H2.o.done _ _ _ _⟩
end
end Go.Proofs.YtbdalbpackfejaaGreatDoor
