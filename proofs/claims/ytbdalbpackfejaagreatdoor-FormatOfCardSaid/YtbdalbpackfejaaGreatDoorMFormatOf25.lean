/- ExprRefRead, joined. -/
import Derived.Test.YtbdalbpackfejaaGreatDoorMFormatOf24
set_option maxHeartbeats 16000000
set_option maxRecDepth 100000
namespace Go.Proofs.YtbdalbpackfejaaGreatDoor
section
open Go.RowKit CurSpec TermSpec ExprSpec NamesSpec
set_option maxRecDepth 100000
structure RrS (W0 w wr:World) (c:Cur) (A:Option Addr) (n cp:Nat) (d:Cur) (Av:Option Addr) (nv cv:Nat) (x:List Tm):Prop where
 toks:Toks W0 (.slice A n cp) d.L
 cur:wr.heap[w.heap.size]?=some (rcO A n cp d)
 res:wr.heap[w.heap.size+1]?=some rcZ
 below:Below w.heap.size w wr
 w0:Below W0.heap.size W0 w
 top:w.heap.size+2<=wr.heap.size
 tms:Tms wr (.slice Av nv cv) x
 ot:∀ b,(Value.slice Av nv cv).ownBlock=some b->w.heap.size+1<b
 few:x.length+2*d.L.length<=2*c.L.length+1
theorem Qij {w:World} {b:Nat} {T:TypeId} {x0 x1 x2 x3 x4 x5:Value} (h:w.heap[b]? = some (.cells #[x0,x1,x2,x3,x4,x5] T (0,0))) (u0 u1 u2 u3 u4 u5:Value) :
 ((((((w.setCell ⟨b,0,none⟩ u0).setCell ⟨b,1,none⟩ u1).setCell ⟨b,2,none⟩ u2).setCell ⟨b,3,none⟩ u3).setCell ⟨b,4,none⟩ u4).setCell ⟨b,5,none⟩ u5).heap[b]?=some (.cells #[u0,u1,u2,u3,u4,u5] T (0,0)) :=
 Qd (Qd (Qd (Qd (Qd (Qd h 0 u0) 1 u1) 2 u2) 3 u3) 4 u4) 5 u5
theorem rr_start {W0 w y:World} {A0:Option Addr} {n0 cp0:Nat} {c d:Cur} {A:Option Addr} {n cp:Nat} {Av:Option Addr} {nv cv:Nat} {x:List Tm} (hS:LvS W0 w y A0 n0 cp0 c) (hW:Below W0.heap.size W0 w)
 (hT:Toks W0 (.slice A n cp) d.L) (hM:Tms y (.slice Av nv cv) x) (ho:∀ b,(Value.slice Av nv cv).ownBlock=some b->w.heap.size+1<b) (hl:x.length+2*d.L.length<=2*c.L.length+1) :
 RrS W0 w ((((((y.setCell ⟨w.heap.size,0,none⟩ (.slice A n cp)).setCell ⟨w.heap.size,1,none⟩ (.int .i64 d.w1)).setCell ⟨w.heap.size,2,none⟩ (.int .i64 d.w2)).setCell ⟨w.heap.size,3,none⟩ (.int .i64 d.a1)).setCell ⟨w.heap.size,4,none⟩ (.int .i64 d.a2)).setCell ⟨w.heap.size,5,none⟩ (.int .i64 d.bad)) c A n cp d Av nv cv x:=by
 have hg:=QaN y w.heap.size (.slice A n cp) (.int .i64 d.w1) (.int .i64 d.w2) (.int .i64 d.a1) (.int .i64 d.a2) (.int .i64 d.bad);have htop:=hS.top;have hz:=hg.size;exact ⟨hT,Qij hS.cur _ _ _ _ _ _,(hg.block _ (by omega) (by simp)).trans hS.res,QL hS.below (Nat.le_refl _) _ _ _ _ _ _,hW,by omega,JJ hM hg (fun e=>by have:=ho _ e; omega),ho,hl⟩
def RetRR (W0 W:World) (c:Cur) (p:Pa) (e:Ending) (w':World):Prop :=
 ∃ A n cp A2 n2 c2,e = .returned (.tuple #[.agg #[.slice A n cp,.int .i64 p.1.w1,.int .i64 p.1.w2,.int .i64 p.1.a1,.int .i64 p.1.a2,.int .i64 p.1.bad],.slice A2 n2 c2]) /\ Toks W0 (.slice A n cp) p.1.L /\
   Tms w' (.slice A2 n2 c2) p.2/\(∀ b,(Value.slice A2 n2 c2).ownBlock=some b->W.heap.size<=b)/\p.2.length+2*p.1.L.length<=2*c.L.length+1/\Below W.heap.size W w'
theorem RetRR.lev {W0 W w':World} {c:Cur} {p:Pa} {e:Ending} (h:RetRR W0 W c p e w'):RetLev W0 W c p e w':=by
 obtain ⟨A,n,cp,A2,n2,c2,h1,h2,h3,h4,h5,h6⟩:=h;exact ⟨A,n,cp,A2,n2,c2,p.2,h1,h2,h3,h4,fun _=>rfl,h5,h6⟩
theorem ret_rr {W0 W Y:World} {c d:Cur} {p:Pa} {A:Option Addr} {n cp:Nat} {A2:Option Addr} {n2 c2 k:Nat} {x:List Tm} (hk:W.heap.size <= k) (hT:Toks W0 (.slice A n cp) d.L) (hM:Tms Y (.slice A2 n2 c2) x)
 (ho:∀ b,(Value.slice A2 n2 c2).ownBlock=some b->k<b) (hp:p.1=d) (hx:x=p.2) (hl:x.length+2*d.L.length<=2*c.L.length+1) (hB:Below W.heap.size W Y) :
 RetRR W0 W c p (.returned (.tuple #[.agg #[.slice A n cp,.int .i64 d.w1,.int .i64 d.w2,.int .i64 d.a1,.int .i64 d.a2,.int .i64 d.bad],.slice A2 n2 c2]))
  ((((((Y.setCell ⟨k,0,none⟩ (.slice A n cp)).setCell ⟨k,1,none⟩ (.int .i64 d.w1)).setCell ⟨k,2,none⟩ (.int .i64 d.w2)).setCell ⟨k,3,none⟩ (.int .i64 d.a1)).setCell ⟨k,4,none⟩ (.int .i64 d.a2)).setCell ⟨k,5,none⟩ (.int .i64 d.bad)):=by
 subst hp;subst hx;exact ⟨A,n,cp,A2,n2,c2,rfl,hT,JJ hM (QaN _ _ _ _ _ _ _ _) (fun e=>by have:=ho _ e; omega),fun b hb=>by have:=ho b hb; omega,hl,QL hB hk _ _ _ _ _ _⟩
theorem Qff {f:Nat} {c:Cur} (h:(readP f c).1.bad ≠ 0):(readP f c).2 = []:=by
 unfold readP at h ⊢;dsimp only at h ⊢
 by_cases h0:(S f c 1).1.bad=0
 ·rw [if_pos h0] at h ⊢
  by_cases hk:chk (S f c 1).2=0
  ·rw [hk,JM] at h
   exact absurd h0 h
  ·exact if_neg hk
 ·rw [if_neg h0]
section
variable {W0 w wr wr':World} {c:Cur} {A:Option Addr} {n cp:Nat} {d:Cur} {Av:Option Addr} {nv cv:Nat} {x:List Tm}
theorem RrS.on (h:RrS W0 w wr c A n cp d Av nv cv x) (hb:Below wr.heap.size wr wr'):RrS W0 w wr' c A n cp d Av nv cv x :=
 ⟨h.toks,Qe h.cur hb,Qe h.res hb,Qa h.below hb,h.w0,Nat.le_trans h.top hb.size,h.tms.keep hb,h.ot,h.few⟩
theorem RrS.now (h:RrS W0 w wr c A n cp d Av nv cv x):Below W0.heap.size W0 wr:=Qa h.w0 h.below
theorem RrS.set (h:RrS W0 w wr c A n cp d Av nv cv x) {A':Option Addr} {n' cp':Nat} {d':Cur} (hT:Toks W0 (.slice A' n' cp') d'.L) (hl:d'.L.length <= d.L.length) :
 RrS W0 w ((((((wr.setCell ⟨w.heap.size,0,none⟩ (.slice A' n' cp')).setCell ⟨w.heap.size,1,none⟩ (.int .i64 d'.w1)).setCell ⟨w.heap.size,2,none⟩ (.int .i64 d'.w2)).setCell ⟨w.heap.size,3,none⟩ (.int .i64 d'.a1)).setCell ⟨w.heap.size,4,none⟩ (.int .i64 d'.a2)).setCell ⟨w.heap.size,5,none⟩ (.int .i64 d'.bad)) c A' n' cp' d' Av nv cv x:=by
 have hg:=QaN wr w.heap.size (.slice A' n' cp') (.int .i64 d'.w1) (.int .i64 d'.w2) (.int .i64 d'.a1) (.int .i64 d'.a2) (.int .i64 d'.bad);have htop:=h.top;have hz:=hg.size;have hf:=h.few;exact ⟨hT,Qij h.cur _ _ _ _ _ _,(hg.block _ (by omega) (by simp)).trans h.res,QL h.below (Nat.le_refl _) _ _ _ _ _ _,h.w0,by omega,JJ h.tms hg (fun e=>by have:=h.ot _ e; omega),h.ot,by omega⟩
theorem RrS.ret (h:RrS W0 w wr c A n cp d Av nv cv x) {p:Pa} (hp:p.1 = d) (hx:x = p.2) :
 RetRR W0 w c p (.returned (.tuple #[.agg #[.slice A n cp,.int .i64 d.w1,.int .i64 d.w2,.int .i64 d.a1,.int .i64 d.a2,.int .i64 d.bad],.slice Av nv cv]))
  ((((((wr.setCell ⟨w.heap.size+1,0,none⟩ (.slice A n cp)).setCell ⟨w.heap.size+1,1,none⟩ (.int .i64 d.w1)).setCell ⟨w.heap.size+1,2,none⟩ (.int .i64 d.w2)).setCell ⟨w.heap.size+1,3,none⟩ (.int .i64 d.a1)).setCell ⟨w.heap.size+1,4,none⟩ (.int .i64 d.a2)).setCell ⟨w.heap.size+1,5,none⟩ (.int .i64 d.bad)) :=
 ret_rr (by omega) h.toks h.tms h.ot hp hx h.few h.below
theorem RrS.ret0 (h:RrS W0 w wr c A n cp d Av nv cv x) {p:Pa} (hp:p.1 = d) (hx:p.2 = []) :
 RetRR W0 w c p (.returned (.tuple #[.agg #[.slice A n cp,.int .i64 d.w1,.int .i64 d.w2,.int .i64 d.a1,.int .i64 d.a2,.int .i64 d.bad],.slice none 0 0]))
  ((((((wr.setCell ⟨w.heap.size+1,0,none⟩ (.slice A n cp)).setCell ⟨w.heap.size+1,1,none⟩ (.int .i64 d.w1)).setCell ⟨w.heap.size+1,2,none⟩ (.int .i64 d.w2)).setCell ⟨w.heap.size+1,3,none⟩ (.int .i64 d.a1)).setCell ⟨w.heap.size+1,4,none⟩ (.int .i64 d.a2)).setCell ⟨w.heap.size+1,5,none⟩ (.int .i64 d.bad)) :=
 ret_rr (by omega) h.toks (tmsNil _) (by simp [Value.ownBlock]) hp hx.symm (by have:=h.few; simp; omega) h.below
end
theorem Qif (f:Nat) (c:Cur) (hL:LevAt f 1) (ok:Ok c) (hf:Fit f c) (hlen:c.L.length <= 100000) (A:Option Addr) (n cp:Nat) (W0 w:World) (hT:Toks W0 (.slice A n cp) c.L) (hW:Below W0.heap.size W0 w) :
 Calls Tryz.prog 145 #[.agg #[.slice A n cp,.int .i64 c.w1,.int .i64 c.w2,.int .i64 c.a1,.int .i64 c.a2,.int .i64 c.bad]] w (RetRR W0 w c (readP f c)):=by
 have HS1:=qh (Qae hT hW);have HLV:=qh (hL c A n cp W0 _ hT HS1.o.w0 ok hf hlen);have hwf:(S f c 1).1.bad=0->WF (S f c 1).2:=fun h=>S_wf hf h
 obtain ⟨p,hp⟩:∃ p,p=S f c 1:=⟨_,rfl⟩;have HE:Hid (readP f c=if p.1.bad=0 then (fail p.1 (chk p.2),if chk p.2=0 then p.2 else []) else (p.1,[])):=qh (by rw [hp]; rfl);rw [<- hp] at HLV hwf;have HWF:=qh hwf;have HWW:=qh hW;have HLE:=qh hlen;clear hp hT hW hL ok hf hlen hwf;obtain ⟨c0,c1,c2,c3,c4,c5⟩:=Qc HS1.o.cur;go_enter Tryz.func145,Tryz.ntmps145;go_wp2_with (go_at_call 168; go_fit HLV.o);rintro e y2 ⟨A2,n2,cp2,Av,nv,cv,x,rfl,hT2,hM2,ho2,hx2,hl2,hb2⟩;have hS2:=HS1.o.on hb2;have ho2':∀ b,(Value.slice Av nv cv).ownBlock=some b->w.heap.size+1<b:=fun b hb=>by have h1:=ho2 b hb; simp only [World.size_alloc] at h1; omega
 have HR2:=qh (rr_start hS2 HWW.o hT2 hM2 ho2' hl2);obtain ⟨b0,b1,b2,b3,b4,b5⟩:=Qc hS2.cur;obtain ⟨f0,f1,f2,f3,f4,f5⟩:=Qk hS2.cur;have hnv:nv=x.length:=by obtain ⟨A',n',c',heq,hn',_⟩:=hM2.shape; cases heq; exact hn'
 have HNV:=qh hnv;have HX2:=qh hx2;have HFW:=qh hl2;have HOUT:=qh (fun er W hW=>Jw p.1 er A2 n2 cp2 W0 W hT2 hW);clear hT2 hM2 ho2 ho2' hx2 hl2 hb2 c0 c1 c2 c3 c4 c5 hnv hS2
 -- from here on the cursor's block is written
 obtain ⟨Y,hY⟩:∃ Y,Y=((((((y2.setCell ⟨w.heap.size,0,none⟩ (.slice A2 n2 cp2)).setCell ⟨w.heap.size,1,none⟩ (.int .i64 p.1.w1)).setCell ⟨w.heap.size,2,none⟩ (.int .i64 p.1.w2)).setCell ⟨w.heap.size,3,none⟩ (.int .i64 p.1.a1)).setCell ⟨w.heap.size,4,none⟩ (.int .i64 p.1.a2)).setCell ⟨w.heap.size,5,none⟩ (.int .i64 p.1.bad)):=⟨_,rfl⟩;obtain ⟨m0,m1,m2,m3,m4,m5⟩:=Qc HR2.o.cur;obtain ⟨r0,r1,r2,r3,r4,r5⟩:=Qc HR2.o.res;obtain ⟨g0,g1,g2,g3,g4,g5⟩:=Qk HR2.o.res;obtain ⟨k0,k1,k2,k3,k4,k5⟩:=Qk HR2.o.cur;clear hY
 by_cases h0:p.1.bad=0
 ·have hw:=HWF.o h0
  have hx:=HX2.o h0;have hch:=hw.chk_eq;have e0:(p.1.bad==0)=true:=by simpa using h0
  by_cases h40:40<x.length
  ·have HP:Hid ((readP f c).1 = fail p.1 8 /\ (fail p.1 8).L = p.1.L /\ (fail p.1 8).bad ≠ 0):=qh (by
    refine ⟨?_,ZL _ _,QB (by decide)⟩;rw [HE.o,if_pos h0,hch,if_pos (by rw [<- hx]; exact h40)])
   have h40':(40:Int)<(nv:Int):=by rw [HNV.o]; omega
   obtain ⟨d,hd⟩:∃ d,d=fail p.1 8:=⟨_,rfl⟩;rw [<- hd] at HP;have HFL:=qh (HOUT.o 8);rw [<- hd] at HFL;have HDB:=qh HP.o.2.2;have ed:(d.bad==0)=false:=by simpa using HP.o.2.2
   have edn:(d.bad != 0)=true:=by simpa using HP.o.2.2
   clear hw hx hch h0 h40 hd;go_wp2_with (go_at_call 64; go_fit (HFL.o _ HR2.o.now));rintro e y3 ⟨A3,n3,cp3,rfl,hT3,hb3⟩;have hR3:=HR2.o.on hb3;obtain ⟨f0,f1,f2,f3,f4,f5⟩:=Qk hR3.cur;obtain ⟨b0,b1,b2,b3,b4,b5⟩:=Qc hR3.cur;have HR3:=qh (hR3.set hT3 (by rw [HP.o.2.1]; exact Nat.le_refl _));obtain ⟨m0,m1,m2,m3,m4,m5⟩:=Qc HR3.o.cur;obtain ⟨r0,r1,r2,r3,r4,r5⟩:=Qc HR3.o.res;obtain ⟨g0,g1,g2,g3,g4,g5⟩:=Qk HR3.o.res;clear hT3 hb3 hR3;go_wp2_with fail;obtain ⟨q0,q1,q2,q3,q4,q5⟩:=Qq (QD HR3.o.res (n:=6) rfl) (.slice A3 n3 cp3) (.int .i64 d.w1) (.int .i64 d.w2) (.int .i64 d.a1) (.int .i64 d.a2) (.int .i64 d.bad);refine bodyPost_ret (v:=.tuple #[.agg #[.slice A3 n3 cp3,.int .i64 d.w1,.int .i64 d.w2,.int .i64 d.a1,.int .i64 d.a2,.int .i64 d.bad],.slice none 0 0]) (by simp [results,Tryz.results145,go_sem,q0,q1,q2,q3,q4,q5]) rfl ?_;exact HR3.o.ret0 HP.o.1 (Qff (by rw [HP.o.1]; exact HDB.o))
  ·have hwb:wholeB x = true:=Q6.2 ⟨by omega,by rw [hx]; exact hw.1⟩
   have h40':¬ (40:Int)<(nv:Int):=by rw [HNV.o]; omega
   have g40:decide ((40:Int)<(nv:Int))=false:=decide_eq_false h40';have HDP:=qh (rdep_zero Av nv cv x HNV.o (by rw [HNV.o]; omega) _ HR2.o.tms hwb);have hdc:depth x=come depF p.2:=by unfold depth tell; rw [hwb,hx]; rfl
   rw [hdc] at HDP;obtain ⟨D,hD⟩:∃ D,D=come depF p.2:=⟨_,rfl⟩;rw [<- hD] at HDP
   by_cases h12:12<D
   ·have HP:Hid ((readP f c).1 = fail p.1 6 /\ (fail p.1 6).L = p.1.L /\ (fail p.1 6).bad ≠ 0):=qh (by
     refine ⟨?_,ZL _ _,QB (by decide)⟩;rw [HE.o,if_pos h0,hch,if_neg (by rw [<- hx]; exact h40),if_pos (by rw [<- hD]; exact h12)])
    obtain ⟨d,hd⟩:∃ d,d=fail p.1 6:=⟨_,rfl⟩;rw [<- hd] at HP;have HFL:=qh (HOUT.o 6);rw [<- hd] at HFL;have HDB:=qh HP.o.2.2;have edn:(d.bad != 0)=true:=by simpa using HP.o.2.2
    clear hw hx hch h0 h40 hd hwb hdc hD;go_wp2_with (go_at_call 169; go_fit HDP.o);rintro e y3 ⟨rfl,hb3⟩;have HR3:=qh (HR2.o.on hb3);clear hb3 m0 m1 m2 m3 m4 m5 r0 r1 r2 r3 r4 r5 g0 g1 g2 g3 g4 g5 k0 k1 k2 k3 k4 k5;obtain ⟨m0,m1,m2,m3,m4,m5⟩:=Qc HR3.o.cur;go_wp2_with (go_at_call 64; go_fit (HFL.o _ HR3.o.now));rintro e y4 ⟨A3,n3,cp3,rfl,hT3,hb4⟩;have hR4:=HR3.o.on hb4;obtain ⟨f0,f1,f2,f3,f4,f5⟩:=Qk hR4.cur;obtain ⟨b0,b1,b2,b3,b4,b5⟩:=Qc hR4.cur;have HR5:=qh (hR4.set hT3 (by rw [HP.o.2.1]; exact Nat.le_refl _));obtain ⟨m0,m1,m2,m3,m4,m5⟩:=Qc HR5.o.cur;obtain ⟨r0,r1,r2,r3,r4,r5⟩:=Qc HR5.o.res;obtain ⟨g0,g1,g2,g3,g4,g5⟩:=Qk HR5.o.res;clear hT3 hb4 hR4;go_wp2_with fail;obtain ⟨q0,q1,q2,q3,q4,q5⟩:=Qq (QD HR5.o.res (n:=6) rfl) (.slice A3 n3 cp3) (.int .i64 d.w1) (.int .i64 d.w2) (.int .i64 d.a1) (.int .i64 d.a2) (.int .i64 d.bad);refine bodyPost_ret (v:=.tuple #[.agg #[.slice A3 n3 cp3,.int .i64 d.w1,.int .i64 d.w2,.int .i64 d.a1,.int .i64 d.a2,.int .i64 d.bad],.slice none 0 0]) (by simp [results,Tryz.results145,go_sem,q0,q1,q2,q3,q4,q5]) rfl ?_;exact HR5.o.ret0 HP.o.1 (Qff (by rw [HP.o.1]; exact HDB.o))
   ·have HP:Hid (readP f c = (p.1,p.2)):=qh (by
     have h00:chk p.2=0:=by rw [hch,if_neg (by rw [<- hx]; exact h40),if_neg (by rw [<- hD]; exact h12)]
     rw [HE.o,if_pos h0,h00,JM,if_pos rfl])
    have HX:=qh hx;have g12:decide (12<D)=false:=decide_eq_false h12;have en:(p.1.bad != 0)=false:=by simpa using h0
    clear hw hx hch h0 h40 hwb hdc hD;go_wp2_with (go_at_call 169; go_fit HDP.o);rintro e y3 ⟨rfl,hb3⟩;have HR3:=qh (HR2.o.on hb3);clear hb3 m0 m1 m2 m3 m4 m5 r0 r1 r2 r3 r4 r5 g0 g1 g2 g3 g4 g5 k0 k1 k2 k3 k4 k5;obtain ⟨m0,m1,m2,m3,m4,m5⟩:=Qc HR3.o.cur;obtain ⟨r0,r1,r2,r3,r4,r5⟩:=Qc HR3.o.res;obtain ⟨g0,g1,g2,g3,g4,g5⟩:=Qk HR3.o.res;go_wp2_with fail;obtain ⟨q0,q1,q2,q3,q4,q5⟩:=Qq (QD HR3.o.res (n:=6) rfl) (.slice A2 n2 cp2) (.int .i64 p.1.w1) (.int .i64 p.1.w2) (.int .i64 p.1.a1) (.int .i64 p.1.a2) (.int .i64 p.1.bad);refine bodyPost_ret (v:=.tuple #[.agg #[.slice A2 n2 cp2,.int .i64 p.1.w1,.int .i64 p.1.w2,.int .i64 p.1.a1,.int .i64 p.1.a2,.int .i64 p.1.bad],.slice Av nv cv]) (by simp [results,Tryz.results145,go_sem,q0,q1,q2,q3,q4,q5]) rfl ?_;exact HR3.o.ret (by rw [HP.o]) (by rw [HP.o,HX.o])
 ·have HP:Hid (readP f c = (p.1,[])):=qh (by rw [HE.o,if_neg h0])
  have HDB:=qh h0;have e0:(p.1.bad==0)=false:=by simpa using h0
  have en:(p.1.bad != 0)=true:=by simpa using h0
  clear h0;go_wp2_with fail;obtain ⟨q0,q1,q2,q3,q4,q5⟩:=Qq (QD HR2.o.res (n:=6) rfl) (.slice A2 n2 cp2) (.int .i64 p.1.w1) (.int .i64 p.1.w2) (.int .i64 p.1.a1) (.int .i64 p.1.a2) (.int .i64 p.1.bad);refine bodyPost_ret (v:=.tuple #[.agg #[.slice A2 n2 cp2,.int .i64 p.1.w1,.int .i64 p.1.w2,.int .i64 p.1.a1,.int .i64 p.1.a2,.int .i64 p.1.bad],.slice none 0 0]) (by simp [results,Tryz.results145,go_sem,q0,q1,q2,q3,q4,q5]) rfl ?_;exact HR2.o.ret0 (by rw [HP.o]) (by rw [HP.o])
end
end Go.Proofs.YtbdalbpackfejaaGreatDoor
