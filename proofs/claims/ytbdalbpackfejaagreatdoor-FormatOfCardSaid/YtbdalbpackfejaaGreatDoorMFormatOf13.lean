/- TransRead, SynParts, SynVar, TermNames, SynEvents, joined. -/
import Derived.Test.YtbdalbpackfejaaGreatDoorMFormatOf12
set_option maxHeartbeats 16000000
set_option maxRecDepth 100000
namespace Go.Proofs.YtbdalbpackfejaaGreatDoor
section
open Go.RowKit CurSpec TermSpec EvalSpec ActSpec NamesSpec ExprSpec TransSpec
set_option maxRecDepth 100000
theorem tb_ev (s:ByteArray) (w:World):(Instr.build 81 #[(0,.string s)]).run Tryz.prog w = .ok (.agg #[.string s,.slice none 0 0,.slice none 0 0,.string ⟨#[]⟩]) w:=run_build w 81 _ _ (by kernel_rfl)
theorem tb_zero (w:World):(Instr.build 81 #[]).run Tryz.prog w = .ok (.agg #[.string ⟨#[]⟩,.slice none 0 0,.slice none 0 0,.string ⟨#[]⟩]) w:=run_build w 81 _ _ (by kernel_rfl)
theorem tev_at (B:Nat) (c:Cur) (w:World) (h:CurAt w B c) (ok:Ok c) :
 Calls Tryz.prog 154 #[.pointer (some ⟨B,0,none⟩)] w (RetAtS w B (hdT c).1 (hdT c).2):=by
 have HT:=qh (take_at B c 1 wAuto w h);obtain ⟨P,hP⟩:∃ P,P=hdT c:=⟨_,rfl⟩;rw [<- hP]
 by_cases hb:isB c 1 wAuto=true
 ·have HP:Hid (P = (on c,⟨#[]⟩)):=qh (by rw [hP]; unfold hdT; rw [if_pos hb])
  rw [hb,show take c 1 wAuto=on c by unfold take; rw [if_pos hb]] at HT;clear hP hb h ok;go_enter Tryz.func154,Tryz.ntmps154;go_wp2_with (go_at_call 46; go_fit HT.o);rintro e x2 ⟨rfl,hc2,hb2⟩;have HC:=qh (And.intro hc2 hb2);clear hc2 hb2;go_wp2_with fail;go_ret;exact ⟨by rw [HP.o]; rfl,by rw [HP.o]; exact HC.o.1,HC.o.2⟩
 ·have HP:Hid (P = (nameC (want c 1 wOn),nameS (want c 1 wOn))):=qh (by rw [hP]; unfold hdT; rw [if_neg hb])
  have hb':isB c 1 wAuto=false:=by simpa using hb
  rw [hb',show take c 1 wAuto=c by unfold take; rw [if_neg hb]] at HT;have HW:=qh (fun W (hW:CurAt W B c)=>Jl B c 1 wOn W hW);have HN:=qh (fun W (hW:CurAt W B (want c 1 wOn))=>Zj B (want c 1 wOn) (ok.want 1 wOn) W hW);clear hP hb hb' h ok;go_enter Tryz.func154,Tryz.ntmps154;go_wp2_with (go_at_call 46; go_fit HT.o);rintro e x2 ⟨rfl,hc2,hb2⟩;have HC2:=qh (And.intro hc2 hb2);clear hc2 hb2;go_wp2_with (go_at_call 21; go_fit (HW.o _ HC2.o.1));rintro e x3 ⟨rfl,hc3,hb3⟩;have HC3:=qh (And.intro hc3 (Qt HC2.o.2 hb3));clear hc3 hb3;go_wp2_with (go_at_call 41; go_fit (HN.o _ HC3.o.1));rintro e x4 ⟨rfl,hc4,hb4⟩;have HC4:=qh (And.intro hc4 (Qt HC3.o.2 hb4));clear hc4 hb4;go_wp2_with fail;go_ret;exact ⟨by rw [HP.o]; rfl,by rw [HP.o]; exact HC4.o.1,HC4.o.2⟩
theorem rdk_but {k n:Nat} {w w':World} {A:Option Addr} {m cp:Nat} {xs:List Value} {ob:Option Nat} (h:Rdk k w (.slice A m cp) n xs) (hb:w.grownBy w' ob) (hne:∀ b,(Value.slice A m cp).ownBlock = some b -> ob ≠ some b):Rdk k w' (.slice A m cp) n xs:=by
 obtain ⟨A',c',heq,hc,hl,hA⟩:=h
 cases heq
 refine ⟨A,cp,rfl,hc,hl,fun h0=>?_⟩;obtain ⟨b,off,rfl,hlt,hcell⟩:=hA h0;refine ⟨b,off,rfl,Nat.lt_of_lt_of_le hlt hb.size,fun j u hj=>?_⟩;rw [<- hcell j u hj];have:=hb.block b hlt (fun e=>hne b rfl e.symm);simp [World.cell?,this]
theorem AcsFar.but {B0 E:Nat} {w w':World} {A:Option Addr} {n c:Nat} {l:List Ac} (h:AcsFar B0 w (.slice A n c) l) (hb:w.grownBy w' (some E)) (hE:E < B0):AcsFar B0 w' (.slice A n c) l:=by
 obtain ⟨ps,h1,h2,h3,h4,h5⟩:=h;refine ⟨ps,h1,rdk_but h2 hb (fun b hb' e=>by have:=h4 b hb'; injection e with e; omega),fun p hp=>Qgo (h3 p hp) hb (fun h0 b hb' e=>by have:=h5 p hp h0 b hb'; injection e with e; omega),h4,h5⟩
theorem AcsFar.mono {B0 B1:Nat} {w:World} {v:Value} {l:List Ac} (h:AcsFar B0 w v l) (hl:B1 <= B0):AcsFar B1 w v l:=by
 obtain ⟨ps,h1,h2,h3,h4,h5⟩:=h;exact ⟨ps,h1,h2,h3,fun b hb=>Nat.le_trans hl (h4 b hb),fun p hp h0 b hb=>Nat.le_trans hl (h5 p hp h0 b hb)⟩
abbrev trZ:Obj:=.cells #[.string ⟨#[]⟩,.slice none 0 0,.slice none 0 0,.string ⟨#[]⟩] 81
structure RdT (W:World) (B T:Nat) (wx:World) (c:Cur) (gA:Option Addr) (gn gc:Nat) (aA:Option Addr) (an ac:Nat) (t:Tr):Prop where
 cur:CurAt wx B c
 res:wx.heap[W.heap.size]?=some trZ
 blk:wx.heap[T]?=some (.cells #[.string t.ev,.slice gA gn gc,.slice aA an ac,.string t.tg] 81 (0,0))
 tms:Tms wx (.slice gA gn gc) t.g
 far:∀ b,(Value.slice gA gn gc).ownBlock=some b->T<b
 acs:AcsFar (T+1) wx (.slice aA an ac) t.acts
 grown:W.grownBy wx (some B)
 lt:B<W.heap.size/\W.heap.size<T
section
variable {W wx wy:World} {B T:Nat} {c c':Cur} {gA aA:Option Addr} {gn gc an ac:Nat} {t:Tr}
theorem RdT.but (h:RdT W B T wx c gA gn gc aA an ac t) (hb:wx.grownBy wy (some B)) (hc:CurAt wy B c'):RdT W B T wy c' gA gn gc aA an ac t:=by
 have h1:=h.lt;exact ⟨hc,QF h.res hb (by omega),QF h.blk hb (by omega),JJ h.tms hb (fun e=>by have:=h.far _ e; omega),h.far,h.acs.but hb (by omega),Qt h.grown hb,h.lt⟩
theorem RdT.size (h:RdT W B T wx c gA gn gc aA an ac t):T<wx.heap.size:=(Array.getElem?_eq_some_iff.1 h.blk).1
theorem RdT.store (_h:RdT W B T wx c gA gn gc aA an ac t) (i:Nat) (u:Value):wx.grownBy (wx.setCell ⟨T,i,none⟩ u) (some T):=Ql (Qx _ _) i u
theorem RdT.grownT (h:RdT W B T wx c gA gn gc aA an ac t) (i:Nat) (u:Value):W.grownBy (wx.setCell ⟨T,i,none⟩ u) (some B):=QJ h.grown (by have:=h.lt; omega) i u
theorem RdT.setG {A:Option Addr} {n cp:Nat} {l:List Tm} (h:RdT W B T wx c gA gn gc aA an ac t) (ht:Tms wx (.slice A n cp) l) (hf:∀ b,(Value.slice A n cp).ownBlock = some b -> T < b) :
 RdT W B T (wx.setCell ⟨T,1,none⟩ (.slice A n cp)) c A n cp aA an ac { t with g:=l }:=by
 have h1:=h.lt;have hs:=h.store 1 (.slice A n cp);exact ⟨h.cur.own hs (by omega),QF h.res hs (by omega),Qd h.blk 1 _,JJ ht hs (fun e=>by have:=hf _ e; omega),hf,h.acs.but hs (by omega),h.grownT _ _,h.lt⟩
theorem RdT.setA {A:Option Addr} {n cp:Nat} {l:List Ac} (h:RdT W B T wx c gA gn gc aA an ac t) (ht:AcsFar (T + 1) wx (.slice A n cp) l) :
 RdT W B T (wx.setCell ⟨T,2,none⟩ (.slice A n cp)) c gA gn gc A n cp { t with acts:=l }:=by
 have h1:=h.lt;have hs:=h.store 2 (.slice A n cp);exact ⟨h.cur.own hs (by omega),QF h.res hs (by omega),Qd h.blk 2 _,JJ h.tms hs (fun e=>by have:=h.far _ e; omega),h.far,ht.but hs (by omega),h.grownT _ _,h.lt⟩
theorem RdT.setT (s:ByteArray) (h:RdT W B T wx c gA gn gc aA an ac t) :
 RdT W B T (wx.setCell ⟨T,3,none⟩ (.string s)) c gA gn gc aA an ac { t with tg:=s }:=by
 have h1:=h.lt;have hs:=h.store 3 (.string s);exact ⟨h.cur.own hs (by omega),QF h.res hs (by omega),Qd h.blk 3 _,JJ h.tms hs (fun e=>by have:=h.far _ e; omega),h.far,h.acs.but hs (by omega),h.grownT _ _,h.lt⟩
theorem RdT.done (_h:RdT W B T wx c gA gn gc aA an ac t) (u0 u1 u2 u3:Value) :
 wx.grownBy ((((wx.setCell ⟨W.heap.size,0,none⟩ u0).setCell ⟨W.heap.size,1,none⟩ u1).setCell ⟨W.heap.size,2,none⟩ u2).setCell ⟨W.heap.size,3,none⟩ u3) (some W.heap.size) :=
 Ql (Ql (Ql (Ql (Qx _ _) 0 _) 1 _) 2 _) 3 _
theorem Z8 {W wx wy:World} {B:Nat} (h:W.grownBy wx (some B)) (hy:wx.grownBy wy (some W.heap.size)):W.grownBy wy (some B) :=
 ⟨hy.os.trans h.os,hy.tape.trans h.tape,hy.output.trans h.output,Nat.le_trans h.size hy.size,fun i hi hn=>(hy.block i (Nat.lt_of_lt_of_le hi h.size) (by simp; omega)).trans (h.block i hi hn)⟩
end
def RetTr (W:World) (B:Nat) (p:Cur × Tr) (e:Ending) (w':World):Prop :=
 ∃ gA gn gc aA an ac,e = .returned (.agg #[.string p.2.ev,.slice gA gn gc,.slice aA an ac,.string p.2.tg])/\CurAt w' B p.1/\TrIn w' gA gn gc aA an ac p.2/\W.grownBy w' (some B)
def RetTrF (W:World) (B:Nat) (p:Cur × Tr) (e:Ending) (w':World):Prop :=
 ∃ gA gn gc aA an ac,e = .returned (.agg #[.string p.2.ev,.slice gA gn gc,.slice aA an ac,.string p.2.tg])/\CurAt w' B p.1/\Tms w' (.slice gA gn gc) p.2.g/\(∀ b,(Value.slice gA gn gc).ownBlock=some b->W.heap.size<=b)/\AcsFar W.heap.size w' (.slice aA an ac) p.2.acts/\W.grownBy w' (some B)
theorem RetTrF.tr {W w':World} {B:Nat} {p:Cur × Tr} {e:Ending} (h:RetTrF W B p e w'):RetTr W B p e w':=by
 obtain ⟨gA,gn,gc,aA,an,ac,h1,h2,h3,_,h5,h6⟩:=h;exact ⟨gA,gn,gc,aA,an,ac,h1,h2,⟨h3,h5.acs⟩,h6⟩
def PartT (W:World) (B T:Nat) (c:Cur) (t:Tr) (wx:World):Prop:=∃ gA gn gc aA an ac,RdT W B T wx c gA gn gc aA an ac t
theorem RdT.part {W wx:World} {B T:Nat} {c:Cur} {gA:Option Addr} {gn gc:Nat} {aA:Option Addr} {an ac:Nat} {t:Tr} (h:RdT W B T wx c gA gn gc aA an ac t):PartT W B T c t wx:=⟨_,_,_,_,_,_,h⟩
theorem tread_atF (B:Nat) (c:Cur) (w:World) (hs:SignsIn w) (h:CurAt w B c) (ok:Ok c) :
 Calls Tryz.prog 125 #[.pointer (some ⟨B,0,none⟩)] w (RetTrF w B (readT c)):=by
 have hB:=h.lt;have b1:=tb_ev;have b2:=tb_zero;have h1:=h.alloc trZ;have hk:=heap_alloc_new w trZ;obtain ⟨w1,hw1⟩:∃ w1,w.alloc trZ=w1:=⟨_,rfl⟩;have hsz:w1.heap.size=w.heap.size+1:=by rw [<- hw1,World.size_alloc]
 have hg1:w.grownBy w1 (some B):=by rw [<- hw1]; exact QH (KitC.Qh _ _)
 rw [hw1] at h1 hk;have HSG:=qh (fun W (hW:w.grownBy W (some B))=>Jk hs h hW);have HEV:=qh (tev_at B c w1 h1 ok);obtain ⟨⟨c1,ev⟩,e1⟩:∃ p,p=hdT c:=⟨_,rfl⟩;have ok1:Ok c1:=by have:=hdT_ok ok; rw [<- e1] at this; exact this
 obtain ⟨⟨c2,g⟩,e2⟩:∃ p,p=guT c1:=⟨_,rfl⟩;have ok2:Ok c2:=by have:=QgV ok1; rw [<- e2] at this; exact this
 obtain ⟨⟨c3,acts⟩,e3⟩:∃ p,p=acT c2:=⟨_,rfl⟩;have ok3:Ok c3:=by have:=QgS ok2; rw [<- e3] at this; exact this
 obtain ⟨⟨c4,tg⟩,e4⟩:∃ p,p=tgT c3:=⟨_,rfl⟩
 have HR:Hid (readT c = (want c4 3 wEnd,if (want c4 3 wEnd).bad = 0 then ⟨ev,g,acts,tg⟩ else zeroT)):=qh (by
  unfold readT seqT;rw [<- e1];dsimp only;rw [<- e2];dsimp only;rw [<- e3];dsimp only;rw [<- e4])
 rw [<- e1] at HEV;have HG:Hid ((c2,g)=if isB c1 3 wBra=true then (want (rdE (on c1)).1 3 wKet,(rdE (on c1)).2) else (c1,[])):=qh (by rw [e2]; rfl);have HA:Hid ((c3,acts)=if isB c2 3 wDo=true then readA (on c2) else (c2,[])):=qh (by rw [e3]; rfl);have HT:Hid ((c4,tg)=if isB c3 3 wTo=true then (nameC (on c3),nameS (on c3)) else (c3,⟨#[]⟩)):=qh (by rw [e4]; rfl);have HTK:=qh (fun (d:Cur) (s:ByteArray) W (hW:CurAt W B d)=>take_at B d 3 s W hW);have HWA:=qh (fun (d:Cur) (s:ByteArray) W (hW:CurAt W B d)=>Jl B d 3 s W hW);have HRD:=qh (fun W (hs:SignsIn W) (hW:CurAt W B (on c1))=>read_at B (on c1) _ W hs hW ok1.on (Qcq _));have HRA:=qh (fun W (hs:SignsIn W) (hW:CurAt W B (on c2))=>QdT B (on c2) W hs hW ok2.on);have HNM:=qh (fun W (hW:CurAt W B (on c3))=>Zj B (on c3) ok3.on W hW);obtain ⟨P,hP⟩:∃ P,P=readT c:=⟨_,rfl⟩;rw [<- hP] at HR ⊢;have HW:=qh hw1;have HK:=qh hk;have HG1:=qh hg1;have HSZ:=qh hsz;have HLT:=qh hB;clear e1 e2 e3 e4 ok ok1 ok2 ok3 hP hw1 hk hg1 hsz h1 h hs;go_enter Tryz.func125,Tryz.ntmps125;go_wp2_with (rw [HW.o]; go_at_call 154; go_fit HEV.o);rintro e x2 ⟨rfl,hc2,hb2⟩
 have H2:Hid (RdT w B x2.heap.size (x2.alloc (.cells #[.string ev,.slice none 0 0,.slice none 0 0,.string ⟨#[]⟩] 81)) c1 none 0 0 none 0 0 ⟨ev,[],[],⟨#[]⟩⟩):=qh (by
  have hg2:=Qt HG1.o hb2;refine ⟨hc2.alloc _,(QF (QF HK.o hb2 (by have:=HLT.o; omega)) (QH (B:=B) (KitC.Qh _ _)) (by have:=HLT.o; omega)),heap_alloc_new _ _,tmsNil _,by simp [Value.ownBlock],AcsFar.nil _ _,Qt hg2 (QH (KitC.Qh _ _)),HLT.o,?_⟩;have:=hb2.size;have:=HSZ.o;omega)
 obtain ⟨T,hT⟩:∃ T,T=x2.heap.size:=⟨_,rfl⟩;have HTT:=qh hT;clear hc2 hb2 hT;go_wp2_with (go_at_call 46; go_fit (HTK.o c1 wBra _ H2.o.cur));rintro e x3 ⟨rfl,hc3,hb3⟩;have H3:=qh (H2.o.but hb3 hc3);rw [<- HTT.o] at H3 ⊢;clear hc3 hb3 H2;go_upto_if 8 with fail
 go_cut [] from 4 (fun wx=>PartT w B T c2 ⟨ev,g,[],⟨#[]⟩⟩ wx)
 case first =>
  rcases hq:isB c1 3 wBra with _ | _
  ·have HE:Hid (c2 = c1 /\ g = []):=qh (by have:=HG.o; rw [hq,if_neg (by decide)] at this; cases this; exact ⟨rfl,rfl⟩)
   have HC3:Hid (take c1 3 wBra=c1):=qh (by unfold take; rw [if_neg (by rw [hq]; decide)]);clear hq;go_wp2_with fail;go_meet
   case rel =>
    have:=H3.o;rw [HC3.o] at this;rw [HE.o.1,HE.o.2];exact this.part
  ·have HE:Hid (c2 = want (rdE (on c1)).1 3 wKet /\ g = (rdE (on c1)).2):=qh (by have:=HG.o; rw [hq,if_pos rfl] at this; cases this; exact ⟨rfl,rfl⟩)
   have HC3:Hid (take c1 3 wBra=on c1):=qh (by unfold take; rw [if_pos hq]);clear hq;have h3:=H3.o;rw [HC3.o] at h3;have HX3:=qh h3;clear h3;go_wp2_with (go_at_call 155; go_fit (HRD.o _ (HSG.o _ HX3.o.grown) HX3.o.cur));rintro e x4 ⟨A4,n4,c4',rfl,hc4,ht4,hn4,hb4,ho4⟩;have HX4:=qh (HX3.o.but hb4 hc4);have HT4:=qh (And.intro ht4 (fun b hb=>Nat.lt_of_lt_of_le HX3.o.size (ho4 b hb)));clear hc4 ht4 hn4 hb4 ho4;obtain ⟨q0,q1,q2,q3⟩:=Qi HX4.o.blk;obtain ⟨f0,f1,f2,f3⟩:=Q3 HX4.o.blk;have HX5:=qh (HX4.o.setG HT4.o.1 HT4.o.2);go_wp2_with (go_at_call 21; go_fit (HWA.o _ wKet _ HX5.o.cur));rintro e x6 ⟨rfl,hc6,hb6⟩;have HX6:=qh (HX5.o.but hb6 hc6);clear hc6 hb6 q0 q1 q2 q3 f0 f1 f2 f3;go_wp2_with fail;go_meet
   case rel =>
    rw [HE.o.1,HE.o.2];exact HX6.o.part
 case rest =>
  obtain ⟨gA2,gn2,gc2,aA2,an2,ac2,h4⟩:=hcut;have H4:=qh h4;clear h4 H3 HG HRD;go_wp2_with (go_at_call 46; go_fit (HTK.o c2 wDo _ H4.o.cur));rintro e y3 ⟨rfl,hc3,hb3⟩;have H5:=qh (H4.o.but hb3 hc3);clear hc3 hb3 H4;go_upto_if 15 with fail
  go_cut [] from 4 (fun wx=>PartT w B T c3 ⟨ev,g,acts,⟨#[]⟩⟩ wx)
  case first =>
   rcases hq:isB c2 3 wDo with _ | _
   ·have HE:Hid (c3 = c2 /\ acts = []):=qh (by have:=HA.o; rw [hq,if_neg (by decide)] at this; cases this; exact ⟨rfl,rfl⟩)
    have HC3:Hid (take c2 3 wDo=c2):=qh (by unfold take; rw [if_neg (by rw [hq]; decide)]);clear hq;go_wp2_with fail;go_meet
    case rel =>
     have:=H5.o;rw [HC3.o] at this;rw [HE.o.1,HE.o.2];exact this.part
   ·have HE:Hid (c3 = (readA (on c2)).1 /\ acts = (readA (on c2)).2):=qh (by have:=HA.o; rw [hq,if_pos rfl] at this; rw [<- this]; exact ⟨rfl,rfl⟩)
    have HC3:Hid (take c2 3 wDo=on c2):=qh (by unfold take; rw [if_pos hq]);clear hq;have h3:=H5.o;rw [HC3.o] at h3;have HX3:=qh h3;clear h3;go_wp2_with (go_at_call 124; go_fit (HRA.o _ (HSG.o _ HX3.o.grown) HX3.o.cur));rintro e x4 ⟨A4,n4,c4',rfl,hc4,ht4,hb4⟩;have HX4:=qh (HX3.o.but hb4 hc4);have HT4:=qh (ht4.mono (B1:=T+1) HX3.o.size);clear hc4 ht4 hb4;obtain ⟨q0,q1,q2,q3⟩:=Qi HX4.o.blk;obtain ⟨f0,f1,f2,f3⟩:=Q3 HX4.o.blk;have HX5:=qh (HX4.o.setA HT4.o);go_wp2_with fail;go_meet
    case rel =>
     rw [HE.o.1,HE.o.2];exact HX5.o.part
  case rest =>
   obtain ⟨gA3,gn3,gc3,aA3,an3,ac3,h4⟩:=hcut;have H6:=qh h4;clear h4 H5 HA HRA;go_wp2_with (go_at_call 46; go_fit (HTK.o c3 wTo _ H6.o.cur));rintro e y4 ⟨rfl,hc3,hb3⟩;have H7:=qh (H6.o.but hb3 hc3);clear hc3 hb3 H6;go_upto_if 20 with fail
   go_cut [] from 4 (fun wx=>PartT w B T c4 ⟨ev,g,acts,tg⟩ wx)
   case first =>
    rcases hq:isB c3 3 wTo with _ | _
    ·have HE:Hid (c4 = c3 /\ tg = ⟨#[]⟩):=qh (by have:=HT.o; rw [hq,if_neg (by decide)] at this; cases this; exact ⟨rfl,rfl⟩)
     have HC3:Hid (take c3 3 wTo=c3):=qh (by unfold take; rw [if_neg (by rw [hq]; decide)]);clear hq;go_wp2_with fail;go_meet
     case rel =>
      have:=H7.o;rw [HC3.o] at this;rw [HE.o.1,HE.o.2];exact this.part
    ·have HE:Hid (c4 = nameC (on c3) /\ tg = nameS (on c3)):=qh (by have:=HT.o; rw [hq,if_pos rfl] at this; cases this; exact ⟨rfl,rfl⟩)
     have HC3:Hid (take c3 3 wTo=on c3):=qh (by unfold take; rw [if_pos hq]);clear hq;have h3:=H7.o;rw [HC3.o] at h3;have HX3:=qh h3;clear h3;go_wp2_with (go_at_call 41; go_fit (HNM.o _ HX3.o.cur));rintro e x4 ⟨rfl,hc4,hb4⟩;have HX4:=qh (HX3.o.but hb4 hc4);clear hc4 hb4;obtain ⟨q0,q1,q2,q3⟩:=Qi HX4.o.blk;obtain ⟨f0,f1,f2,f3⟩:=Q3 HX4.o.blk;have HX5:=qh (HX4.o.setT (nameS (on c3)));go_wp2_with fail;go_meet
     case rel =>
      rw [HE.o.1,HE.o.2];exact HX5.o.part
   case rest =>
    obtain ⟨gA4,gn4,gc4,aA4,an4,ac4,h4⟩:=hcut;have H8:=qh h4;clear h4 H7 HT HNM;go_wp2_with (go_at_call 21; go_fit (HWA.o c4 wEnd _ H8.o.cur));rintro e y5 ⟨rfl,hc3,hb3⟩;have H9:=qh (H8.o.but hb3 hc3);clear hc3 hb3 H8;obtain ⟨c5,hc5⟩:∃ c5,c5=want c4 3 wEnd:=⟨_,rfl⟩;rw [<- hc5] at H9 HR;have HGOOD:=qh (fun b hb=>JR _ _ _ _ y5 (Fl.of H9.o.cur) (b:=b) hb);clear hc5
    by_cases h0:c5.bad=0
    ·have HP:Hid (P = (c5,⟨ev,g,acts,tg⟩)):=qh (by rw [HR.o,if_pos h0])
     have HGD:=qh (HGOOD.o true (by simpa using h0));clear h0 HGOOD HR;go_wp2_with (go_at_call 45; go_fit HGD.o);rintro e y6 ⟨rfl,hb6⟩;have HX:=qh (H9.o.but (QH hb6) (H9.o.cur.keep hb6));clear hb6;obtain ⟨q0,q1,q2,q3⟩:=Qi HX.o.blk;obtain ⟨r0,r1,r2,r3⟩:=Qi HX.o.res;obtain ⟨f0,f1,f2,f3⟩:=Q3 HX.o.res;have HD:=qh (HX.o.done (.string ev) (.slice gA4 gn4 gc4) (.slice aA4 an4 ac4) (.string tg));go_wp2_with fail;obtain ⟨p0,p1,p2,p3⟩:=Q0 HX.o.res (.string ev) (.slice gA4 gn4 gc4) (.slice aA4 an4 ac4) (.string tg);refine bodyPost_ret (v:=.agg #[.string ev,.slice gA4 gn4 gc4,.slice aA4 an4 ac4,.string tg]) (by simp [results,Tryz.results125,go_sem,p0,p1,p2,p3]) rfl ?_;have hlt:=HX.o.lt;refine ⟨gA4,gn4,gc4,aA4,an4,ac4,by rw [HP.o],by rw [HP.o]; exact HX.o.cur.own HD.o hlt.1,?_,fun b hb=>by have:=HX.o.far b hb; omega,?_,Z8 HX.o.grown HD.o⟩
     ·rw [HP.o]
      exact JJ HX.o.tms HD.o (fun e=>by have:=HX.o.far _ e; omega)
     ·rw [HP.o]
      exact (HX.o.acs.but HD.o (by omega)).mono (by omega)
    ·have HP:Hid (P = (c5,zeroT)):=qh (by rw [HR.o,if_neg h0])
     have HGD:=qh (HGOOD.o false (by simpa using h0));clear h0 HGOOD HR;go_wp2_with (go_at_call 45; go_fit HGD.o);rintro e y6 ⟨rfl,hb6⟩;have HX:=qh (H9.o.but (QH hb6) (H9.o.cur.keep hb6));clear hb6;obtain ⟨r0,r1,r2,r3⟩:=Qi HX.o.res;obtain ⟨f0,f1,f2,f3⟩:=Q3 HX.o.res;have HD:=qh (HX.o.done (.string ⟨#[]⟩) (.slice none 0 0) (.slice none 0 0) (.string ⟨#[]⟩));go_wp2_with fail;obtain ⟨p0,p1,p2,p3⟩:=Q0 HX.o.res (.string ⟨#[]⟩) (.slice none 0 0) (.slice none 0 0) (.string ⟨#[]⟩);refine bodyPost_ret (v:=.agg #[.string ⟨#[]⟩,.slice none 0 0,.slice none 0 0,.string ⟨#[]⟩]) (by simp [results,Tryz.results125,go_sem,p0,p1,p2,p3]) rfl ?_;have hlt:=HX.o.lt;refine ⟨none,0,0,none,0,0,by rw [HP.o],by rw [HP.o]; exact HX.o.cur.own HD.o hlt.1,?_,by simp [Value.ownBlock],?_,Z8 HX.o.grown HD.o⟩
     ·rw [HP.o]
      exact tmsNil _
     ·rw [HP.o]
      exact AcsFar.nil _ _
end
section
open Go.RowKit CurSpec TermSpec EvalSpec ActSpec NamesSpec ExprSpec TransSpec SynSpec
set_option maxRecDepth 100000
theorem isName_tk (k:Int) (s:ByteArray) (l c:Int) (hs:s.size <= 9223372036854775807) (w:World) {b:Bool} (hb:(decide (k = 1) && isName s.data.toList) = b):Calls Tryz.prog 81 #[.agg #[.int .i64 k,.string s,.int .i64 l,.int .i64 c]] w (RetBool w b):=by
 by_cases h1:k=1
 ·have g:(k == 1) = true:=by simp [h1]
  have HI:=qh (fun W=>nis_say (s:=s) (b:=b) (by rw [<- hb]; simp [h1]) hs W);clear hb h1 hs;go_enter Tryz.func81,Tryz.ntmps81;go_wp2_with (go_at_call 79; go_fit (HI.o _));rintro e x2 ⟨rfl,hb2⟩;have HB:=qh (Qa (KitC.Qh _ _) hb2);clear hb2;go_wp2_with fail;go_ret;exact ⟨rfl,HB.o⟩
 ·have g:(k == 1) = false:=by simp [h1]
  have hb':b=false:=by rw [<- hb]; simp [h1]
  subst hb';clear hb h1 hs;go_enter Tryz.func81,Tryz.ntmps81;go_wp2_with fail;go_ret;exact ⟨rfl,KitC.Qh _ _⟩
theorem QcV (B:Nat) (c:Cur) (s:ByteArray) (w:World) (h:CurAt w B c) {b:Bool} (hb:isB c 1 s = b):Calls Tryz.prog 82 #[.pointer (some ⟨B,0,none⟩),.string s] w (RetBool w b):=by
 have HI:=qh (is_at B c 1 s w h);rw [hb] at HI;clear h hb;go_enter Tryz.func82,Tryz.ntmps82;go_wp2_with (go_at_call 89; go_fit HI.o);rintro e x2 ⟨rfl,hb2⟩;have HB:=qh hb2;clear hb2;go_wp2_with fail;go_ret;exact ⟨rfl,HB.o⟩
theorem Qjd (B:Nat) (c:Cur) (w:World) (h:CurAt w B c) {b:Bool} (hb:qS c = b):Calls Tryz.prog 87 #[.pointer (some ⟨B,0,none⟩)] w (RetBool w b):=by
 have HI:=qh (fun s W b (hW:Below w.heap.size w W) (hb:isB c 1 s=b)=>QcV B c s W (h.keep hW) hb);unfold qS at hb;clear h
 rcases h1:isB c 1 wLeaf with _ | _
 ·have H1:=qh h1
  rw [h1] at hb;clear h1
  rcases h2:isB c 1 wOr with _ | _
  ·have H2:=qh h2
   rw [h2] at hb;have H3:=qh (show isB c 1 wAnd=b by simpa using hb);clear h2 hb;go_enter Tryz.func87,Tryz.ntmps87;go_wp2_with (go_at_call 82; go_fit (HI.o wLeaf _ _ (Below.refl _ _) H1.o));rintro e x2 ⟨rfl,hb2⟩;have HB2:=qh hb2;clear hb2;go_wp2_with (go_at_call 82; go_fit (HI.o wOr _ _ HB2.o H2.o));rintro e x3 ⟨rfl,hb3⟩;have HB3:=qh (Qa HB2.o hb3);clear hb3;go_wp2_with (go_at_call 82; go_fit (HI.o wAnd _ _ HB3.o H3.o));rintro e x4 ⟨rfl,hb4⟩;have HB4:=qh (Qa HB3.o hb4);clear hb4;go_wp2_with fail;go_ret;exact ⟨rfl,HB4.o⟩
  ·have H2:=qh h2
   obtain rfl:true=b:=by rw [<- hb,h2]; rfl
   clear h2 hb;go_enter Tryz.func87,Tryz.ntmps87;go_wp2_with (go_at_call 82; go_fit (HI.o wLeaf _ _ (Below.refl _ _) H1.o));rintro e x2 ⟨rfl,hb2⟩;have HB2:=qh hb2;clear hb2;go_wp2_with (go_at_call 82; go_fit (HI.o wOr _ _ HB2.o H2.o));rintro e x3 ⟨rfl,hb3⟩;have HB3:=qh (Qa HB2.o hb3);clear hb3;go_wp2_with fail;go_ret;exact ⟨rfl,HB3.o⟩
 ·have H1:=qh h1
  obtain rfl:true=b:=by rw [<- hb,h1]; rfl
  clear h1 hb;go_enter Tryz.func87,Tryz.ntmps87;go_wp2_with (go_at_call 82; go_fit (HI.o wLeaf _ _ (Below.refl _ _) H1.o));rintro e x2 ⟨rfl,hb2⟩;have HB2:=qh hb2;clear hb2;go_wp2_with fail;go_ret;exact ⟨rfl,HB2.o⟩
theorem QeR (c:Cur):0 <= numN c 1000 /\ numN c 1000 <= 1000:=by
 unfold numN
 split
 ·rename_i h
  unfold numE at h
  split at h
  ·split at h
   ·split at h
    ·cases h
    ·rename_i h1
     exact ⟨(ExprSpec.QgX _).1,by omega⟩
   ·rename_i h1
    exact absurd h h1
  ·cases h
 ·exact ⟨Int.le_refl _,by decide⟩
theorem QbG (B:Nat) (c:Cur) (w:World) (h:CurAt w B c) (ok:Ok c):Calls Tryz.prog 122 #[.pointer (some ⟨B,0,none⟩)] w (RetAtN w B (intR c).1 (intR c).2):=by
 have HT:=qh (take_at B c 3 wMin w h);obtain ⟨P,hP⟩:∃ P,P=intR c:=⟨_,rfl⟩;rw [<- hP]
 by_cases hb:isB c 3 wMin=true
 ·obtain ⟨n,hn⟩:∃ n,n = numN (on c) 1000:=⟨_,rfl⟩
  have hs:=QeR (on c);rw [<- hn] at hs;have HP:Hid (P=(numC (on c) 1000,- n)):=qh (by rw [hP,hn]; unfold intR; rw [if_pos hb]);have HN:=qh (fun W (hW:CurAt W B (on c))=>QcI B (on c) 1000 ok.on W hW);rw [<- hn] at HN;rw [hb,show take c 3 wMin=on c by unfold take; rw [if_pos hb]] at HT;clear hP hb h ok hn;go_enter Tryz.func122,Tryz.ntmps122;go_wp2_with (go_at_call 46; go_fit HT.o);rintro e x2 ⟨rfl,hc2,hb2⟩;have HC:=qh (And.intro hc2 hb2);clear hc2 hb2;go_wp2_with (go_at_call 152; go_fit (HN.o _ HC.o.1));rintro e x3 ⟨rfl,hc3,hb3⟩;have HC3:=qh (And.intro hc3 (Qt HC.o.2 hb3));clear hc3 hb3;go_wp2_with fail;go_ret;exact ⟨by rw [HP.o]; rfl,by rw [HP.o]; exact HC3.o.1,HC3.o.2⟩
 ·have HP:Hid (P = (numC c 1000,numN c 1000)):=qh (by rw [hP]; unfold intR; rw [if_neg hb])
  have hb':isB c 3 wMin=false:=by simpa using hb
  have HN:=qh (fun W (hW:CurAt W B c)=>QcI B c 1000 ok W hW);rw [hb',show take c 3 wMin=c by unfold take; rw [if_neg hb]] at HT;clear hP hb hb' h ok;go_enter Tryz.func122,Tryz.ntmps122;go_wp2_with (go_at_call 46; go_fit HT.o);rintro e x2 ⟨rfl,hc2,hb2⟩;have HC:=qh (And.intro hc2 hb2);clear hc2 hb2;go_wp2_with (go_at_call 152; go_fit (HN.o _ HC.o.1));rintro e x3 ⟨rfl,hc3,hb3⟩;have HC3:=qh (And.intro hc3 (Qt HC.o.2 hb3));clear hc3 hb3;go_wp2_with fail;go_ret;exact ⟨by rw [HP.o]; rfl,by rw [HP.o]; exact HC3.o.1,HC3.o.2⟩
theorem Qik (B:Nat) (c:Cur) (w:World) (h:CurAt w B c):Calls Tryz.prog 123 #[.pointer (some ⟨B,0,none⟩)] w (RetAtN w B (kdR c).1 (kdR c).2):=by
 have HT:=qh (take_at B c 1 wLeaf w h);have HO:=qh (fun W (hW:CurAt W B c)=>take_at B c 1 wOr W hW);have HA:=qh (fun W (hW:CurAt W B c)=>Jl B c 1 wAnd W hW);obtain ⟨P,hP⟩:∃ P,P=kdR c:=⟨_,rfl⟩;rw [<- hP];clear h
 by_cases hb:isB c 1 wLeaf=true
 ·have HP:Hid (P = (on c,1)):=qh (by rw [hP]; unfold kdR; rw [if_pos hb])
  rw [hb,show take c 1 wLeaf=on c by unfold take; rw [if_pos hb]] at HT;clear hP hb;go_enter Tryz.func123,Tryz.ntmps123;go_wp2_with (go_at_call 46; go_fit HT.o);rintro e x2 ⟨rfl,hc2,hb2⟩;have HC:=qh (And.intro hc2 hb2);clear hc2 hb2;go_wp2_with fail;go_ret;exact ⟨by rw [HP.o]; rfl,by rw [HP.o]; exact HC.o.1,HC.o.2⟩
 ·rw [show isB c 1 wLeaf = false by simpa using hb,show take c 1 wLeaf = c by unfold take; rw [if_neg hb]] at HT
  by_cases ho:isB c 1 wOr=true
  ·have HP:Hid (P = (on c,2)):=qh (by rw [hP]; unfold kdR; rw [if_neg hb,if_pos ho])
   rw [ho,show take c 1 wOr=on c by unfold take; rw [if_pos ho]] at HO;clear hP hb ho;go_enter Tryz.func123,Tryz.ntmps123;go_wp2_with (go_at_call 46; go_fit HT.o);rintro e x2 ⟨rfl,hc2,hb2⟩;have HC:=qh (And.intro hc2 hb2);clear hc2 hb2;go_wp2_with (go_at_call 46; go_fit (HO.o _ HC.o.1));rintro e x3 ⟨rfl,hc3,hb3⟩;have HC3:=qh (And.intro hc3 (Qt HC.o.2 hb3));clear hc3 hb3;go_wp2_with fail;go_ret;exact ⟨by rw [HP.o]; rfl,by rw [HP.o]; exact HC3.o.1,HC3.o.2⟩
  ·have HP:Hid (P = (want c 1 wAnd,3)):=qh (by rw [hP]; unfold kdR; rw [if_neg hb,if_neg ho])
   rw [show isB c 1 wOr=false by simpa using ho,show take c 1 wOr=c by unfold take; rw [if_neg ho]] at HO;clear hP hb ho;go_enter Tryz.func123,Tryz.ntmps123;go_wp2_with (go_at_call 46; go_fit HT.o);rintro e x2 ⟨rfl,hc2,hb2⟩;have HC:=qh (And.intro hc2 hb2);clear hc2 hb2;go_wp2_with (go_at_call 46; go_fit (HO.o _ HC.o.1));rintro e x3 ⟨rfl,hc3,hb3⟩;have HC3:=qh (And.intro hc3 (Qt HC.o.2 hb3));clear hc3 hb3;go_wp2_with (go_at_call 21; go_fit (HA.o _ HC3.o.1));rintro e x4 ⟨rfl,hc4,hb4⟩;have HC4:=qh (And.intro hc4 (Qt HC3.o.2 hb4));clear hc4 hb4;go_wp2_with fail;go_ret;exact ⟨by rw [HP.o]; rfl,by rw [HP.o]; exact HC4.o.1,HC4.o.2⟩
theorem room_any (m d:Int) (w:World) {r:Int} (hr:SynSpec.room m d = r):Calls Tryz.prog 88 #[.int .i64 m,.int .i64 d] w (SameI w r):=by
 subst hr;unfold SynSpec.room
 by_cases h1:m=60
 ·have g:(m == 60) = true:=by simp [h1]
  rw [if_pos h1];clear h1;go_enter Tryz.func88,Tryz.ntmps88;go_wp2_with fail;go_ret;exact ⟨rfl,rfl⟩
 ·have g:(m == 60) = false:=by simp [h1]
  rw [if_neg h1];clear h1
  by_cases h2:12<d
  ·have g2:decide (12 < d) = true:=by simp [h2]
   have g3:(d > 12)=True:=by simp; omega
   rw [if_pos h2];go_enter Tryz.func88,Tryz.ntmps88;go_wp2_with fail;go_ret;exact ⟨rfl,rfl⟩
  ·have g2:decide (12 < d) = false:=by simp; omega
   rw [if_neg h2];go_enter Tryz.func88,Tryz.ntmps88;go_wp2_with fail;go_ret;exact ⟨rfl,rfl⟩
def RetHeadS (W:World) (B:Nat) (p:Cur × Sx) (e:Ending) (w':World):Prop:=e = .returned (.agg #[.string p.2.s,.int .i64 p.2.kind,.int .i64 p.2.par,.slice none 0 0,.slice none 0 0,.slice none 0 0])/\CurAt w' B p.1/\W.grownBy w' (some B)
theorem hb_state (s:ByteArray) (k p:Int) (w:World):(Instr.build 51 #[(0,.string s),(1,.int .i64 k),(2,.int .i64 p)]).run Tryz.prog w = .ok (.agg #[.string s,.int .i64 k,.int .i64 p,.slice none 0 0,.slice none 0 0,.slice none 0 0]) w:=run_build w 51 _ _ (by kernel_rfl)
abbrev stZ:Obj:=.cells #[.string ⟨#[]⟩,.int .i64 0,.int .i64 0,.slice none 0 0,.slice none 0 0,.slice none 0 0] 51
theorem set_six (w:World) (b:Nat) (u0 u1 u2 u3 u4 u5:Value):w.grownBy ((((((w.setCell ⟨b,0,none⟩ u0).setCell ⟨b,1,none⟩ u1).setCell ⟨b,2,none⟩ u2).setCell ⟨b,3,none⟩ u3).setCell ⟨b,4,none⟩ u4).setCell ⟨b,5,none⟩ u5) (some b) :=
 Ql (Ql (Ql (Ql (Ql (Ql (Qx _ _) 0 _) 1 _) 2 _) 3 _) 4 _) 5 _
theorem QhF (B:Nat) (c:Cur) (par:Int) (w:World) (h:CurAt w B c) (ok:Ok c):Calls Tryz.prog 84 #[.pointer (some ⟨B,0,none⟩),.int .i64 par] w (RetHeadS w B (headR c par)):=by
 have hB:=h.lt;have b1:=hb_state;have h1:=h.alloc stZ;have hk:=heap_alloc_new w stZ;obtain ⟨w1,hw1⟩:∃ w1,w.alloc stZ=w1:=⟨_,rfl⟩;have hsz:w1.heap.size=w.heap.size+1:=by rw [<- hw1,World.size_alloc]
 rw [hw1] at h1 hk;have HK:=qh (Qik B c w1 h1);have HN:=qh (fun W (hW:CurAt W B (kdR c).1)=>Zj B (kdR c).1 ((QbS c).ok ok) W hW);obtain ⟨⟨c1,k⟩,hc1⟩:∃ p,p=kdR c:=⟨_,rfl⟩;have HP:Hid (headR c par=(nameC c1,⟨nameS c1,k,par,[],[],[]⟩)):=qh (by unfold headR; rw [<- hc1]);obtain ⟨P,hP⟩:∃ P,P=headR c par:=⟨_,rfl⟩;rw [<- hP] at HP ⊢;rw [<- hc1] at HK HN;have HW:=qh hw1;have HKB:=qh hk;have HSZ:=qh hsz;have HLT:=qh hB;clear hP hc1 h ok h1 hk hw1 hsz;go_enter Tryz.func84,Tryz.ntmps84;go_wp2_with (rw [HW.o]; go_at_call 123; go_fit HK.o);rintro e x2 ⟨rfl,hc2,hb2⟩;have HC2:=qh (And.intro hc2 hb2);clear hc2 hb2;go_wp2_with (go_at_call 41; go_fit (HN.o _ HC2.o.1));rintro e x3 ⟨rfl,hc3,hb3⟩;have HC3:=qh (And.intro hc3 (Qt HC2.o.2 hb3));clear hc3 hb3;have HBK:=qh (QF HKB.o HC3.o.2 (by have:=HLT.o; omega));obtain ⟨f0,f1,f2,f3,f4,f5⟩:=Qk HBK.o;obtain ⟨q0,q1,q2,q3,q4,q5⟩:=Qc HBK.o;go_wp2_with fail;obtain ⟨p0,p1,p2,p3,p4,p5⟩:=Qq (QD HBK.o rfl) (.string (nameS c1)) (.int .i64 k) (.int .i64 par) (.slice none 0 0) (.slice none 0 0) (.slice none 0 0);refine bodyPost_ret (v:=.agg #[.string (nameS c1),.int .i64 k,.int .i64 par,.slice none 0 0,.slice none 0 0,.slice none 0 0]) (by simp [results,Tryz.results84,go_sem,p0,p1,p2,p3,p4,p5]) rfl ?_;have hd:=set_six x3 w.heap.size (.string (nameS c1)) (.int .i64 k) (.int .i64 par) (.slice none 0 0) (.slice none 0 0) (.slice none 0 0);refine ⟨by rw [HP.o],by rw [HP.o]; exact HC3.o.1.own hd HLT.o,?_⟩;have hg:=HC3.o.2;rw [<- HW.o] at hg;exact QgR hg hd
end
section
open Go.RowKit CurSpec TermSpec EvalSpec ActSpec NamesSpec ExprSpec TransSpec SynSpec
set_option maxRecDepth 100000
structure Rd4 (T:TypeId) (z0 z1 z2 z3:Value) (W:World) (B:Nat) (wx:World) (c:Cur) (x0 x1 x2 x3:Value):Prop where
 cur:CurAt wx B c
 res:wx.heap[W.heap.size]?=some (.cells #[z0,z1,z2,z3] T (0,0))
 blk:wx.heap[W.heap.size+1]?=some (.cells #[x0,x1,x2,x3] T (0,0))
 grown:W.grownBy wx (some B)
 lt:B<W.heap.size
section
variable {T:TypeId} {z0 z1 z2 z3:Value} {W wx wy:World} {B:Nat} {c c':Cur} {x0 x1 x2 x3:Value}
theorem Rd4.start (h:CurAt W B c):Rd4 T z0 z1 z2 z3 W B ((W.alloc (.cells #[z0,z1,z2,z3] T)).alloc (.cells #[z0,z1,z2,z3] T)) c z0 z1 z2 z3:=by
 refine ⟨(h.alloc _).alloc _,(heap_alloc_old _ _ (by simp)).trans (heap_alloc_new _ _),?_,QH (KitC.Qm _ _ _),h.lt⟩;have:=heap_alloc_new (W.alloc (.cells #[z0,z1,z2,z3] T)) (.cells #[z0,z1,z2,z3] T)
 rwa [World.size_alloc] at this
theorem Rd4.but (h:Rd4 T z0 z1 z2 z3 W B wx c x0 x1 x2 x3) (hb:wx.grownBy wy (some B)) (hc:CurAt wy B c'):Rd4 T z0 z1 z2 z3 W B wy c' x0 x1 x2 x3:=by
 have h1:=h.lt;exact ⟨hc,QF h.res hb (by omega),QF h.blk hb (by omega),Qt h.grown hb,h.lt⟩
theorem Rd4.keep (h:Rd4 T z0 z1 z2 z3 W B wx c x0 x1 x2 x3) (hb:Below wx.heap.size wx wy):Rd4 T z0 z1 z2 z3 W B wy c x0 x1 x2 x3:=h.but (QH hb) (h.cur.keep hb)
theorem Rd4.store (i:Nat) (u:Value):wx.grownBy (wx.setCell ⟨W.heap.size+1,i,none⟩ u) (some (W.heap.size+1)):=Ql (Qx _ _) i u
theorem Rd4.set (h:Rd4 T z0 z1 z2 z3 W B wx c x0 x1 x2 x3) (i:Nat) (u:Value) {y0 y1 y2 y3:Value} (hy:(#[x0,x1,x2,x3]:Array Value).setIfInBounds i u = #[y0,y1,y2,y3]):Rd4 T z0 z1 z2 z3 W B (wx.setCell ⟨W.heap.size + 1,i,none⟩ u) c y0 y1 y2 y3:=by
 have h1:=h.lt;have hs:=Rd4.store (W:=W) (wx:=wx) i u;refine ⟨h.cur.own hs (by omega),QF h.res hs (by omega),?_,QJ h.grown (by omega) _ _,h.lt⟩;rw [<- hy];exact Qd h.blk i u
theorem Rd4.size (h:Rd4 T z0 z1 z2 z3 W B wx c x0 x1 x2 x3):W.heap.size+2<=wx.heap.size:=(Array.getElem?_eq_some_iff.1 h.blk).1
theorem Rd4.done (_h:Rd4 T z0 z1 z2 z3 W B wx c x0 x1 x2 x3) (u0 u1 u2 u3:Value) :
 wx.grownBy ((((wx.setCell ⟨W.heap.size,0,none⟩ u0).setCell ⟨W.heap.size,1,none⟩ u1).setCell ⟨W.heap.size,2,none⟩ u2).setCell ⟨W.heap.size,3,none⟩ u3) (some W.heap.size) :=
 Ql (Ql (Ql (Ql (Qx _ _) 0 _) 1 _) 2 _) 3 _
end
abbrev vrA (v:Vr):Value:=.agg #[.string v.s,.int .i64 v.lo,.int .i64 v.hi,.int .i64 v.ini]
def RetVar (W:World) (B:Nat) (p:Cur × Vr) (e:Ending) (w':World):Prop:=e = .returned (vrA p.2)/\CurAt w' B p.1/\W.grownBy w' (some B)
theorem Qjv (B:Nat) (c:Cur) (w:World) (h:CurAt w B c) (ok:Ok c):Calls Tryz.prog 83 #[.pointer (some ⟨B,0,none⟩)] w (RetVar w B (varR c)):=by
 have H0:=qh (Rd4.start (T:=46) (z0:=.string ⟨#[]⟩) (z1:=.int .i64 0) (z2:=.int .i64 0) (z3:=.int .i64 0) h);obtain ⟨c1,e1⟩:∃ d,d=want c 1 wVar:=⟨_,rfl⟩;have k1:Ok c1:=e1 ▸ ok.want _ _;obtain ⟨c2,e2⟩:∃ d,d=nameC c1:=⟨_,rfl⟩;have k2:Ok c2:=e2 ▸ k1.nameC;obtain ⟨s,es⟩:∃ s,s=nameS c1:=⟨_,rfl⟩;obtain ⟨⟨c3,lo⟩,e3⟩:∃ p,p=intR c2:=⟨_,rfl⟩;have k3:Ok c3:=by have:=(Zm c2).ok k2; rw [<- e3] at this; exact this
 obtain ⟨c4,e4⟩:∃ d,d=want c3 3 wDots:=⟨_,rfl⟩;have k4:Ok c4:=e4 ▸ k3.want _ _;obtain ⟨⟨c5,hi⟩,e5⟩:∃ p,p=intR c4:=⟨_,rfl⟩;have k5:Ok c5:=by have:=(Zm c4).ok k4; rw [<- e5] at this; exact this
 obtain ⟨c6,e6⟩:∃ d,d=want c5 3 wIs:=⟨_,rfl⟩;have k6:Ok c6:=e6 ▸ k5.want _ _;obtain ⟨⟨c7,ini⟩,e7⟩:∃ p,p=intR c6:=⟨_,rfl⟩;obtain ⟨c8,e8⟩:∃ d,d=want c7 3 wEnd:=⟨_,rfl⟩;have HP:Hid (varR c=(c8,⟨s,lo,hi,ini⟩)):=qh (by unfold varR; rw [<- e1,<- e2,<- es,<- e3]; dsimp only; rw [<- e4,<- e5]; dsimp only; rw [<- e6,<- e7,<- e8]);have HW1:=qh (fun W (hW:CurAt W B c)=>Jl B c 1 wVar W hW);have HN2:=qh (fun W (hW:CurAt W B c1)=>Zj B c1 k1 W hW);have HI3:=qh (fun W (hW:CurAt W B c2)=>QbG B c2 W hW k2);have HW4:=qh (fun W (hW:CurAt W B c3)=>Jl B c3 3 wDots W hW);have HI5:=qh (fun W (hW:CurAt W B c4)=>QbG B c4 W hW k4);have HW6:=qh (fun W (hW:CurAt W B c5)=>Jl B c5 3 wIs W hW);have HI7:=qh (fun W (hW:CurAt W B c6)=>QbG B c6 W hW k6);have HW8:=qh (fun W (hW:CurAt W B c7)=>Jl B c7 3 wEnd W hW);rw [<- e1] at HW1;rw [<- e2,<- es] at HN2;rw [<- e3] at HI3;rw [<- e4] at HW4;rw [<- e5] at HI5;rw [<- e6] at HW6;rw [<- e7] at HI7;rw [<- e8] at HW8;obtain ⟨P,hP⟩:∃ P,P=varR c:=⟨_,rfl⟩;rw [<- hP] at HP ⊢;clear e1 e2 es e3 e4 e5 e6 e7 e8 k1 k2 k3 k4 k5 k6 hP h ok;go_enter Tryz.func83,Tryz.ntmps83;go_wp2_with (go_at_call 21; go_fit (HW1.o _ H0.o.cur));rintro e x1 ⟨rfl,hc,hb⟩;have H1:=qh (H0.o.but hb hc);clear hc hb H0;go_wp2_with (go_at_call 41; go_fit (HN2.o _ H1.o.cur));rintro e x2 ⟨rfl,hc,hb⟩;have H2:=qh (H1.o.but hb hc);clear hc hb H1;have H2s:=qh (H2.o.set 0 (.string s) rfl);obtain ⟨f0,f1,f2,f3⟩:=Q3 H2.o.blk;obtain ⟨q0,q1,q2,q3⟩:=Qi H2.o.blk;go_wp2_with (go_at_call 122; go_fit (HI3.o _ H2s.o.cur));rintro e x3 ⟨rfl,hc,hb⟩;have H3:=qh (H2s.o.but hb hc);clear hc hb H2 H2s f0 f1 f2 f3 q0 q1 q2 q3;have H3s:=qh (H3.o.set 1 (.int .i64 lo) rfl);obtain ⟨f0,f1,f2,f3⟩:=Q3 H3.o.blk;obtain ⟨q0,q1,q2,q3⟩:=Qi H3.o.blk;go_wp2_with (go_at_call 21; go_fit (HW4.o _ H3s.o.cur));rintro e x4 ⟨rfl,hc,hb⟩;have H4:=qh (H3s.o.but hb hc);clear hc hb H3 H3s f0 f1 f2 f3 q0 q1 q2 q3;go_wp2_with (go_at_call 122; go_fit (HI5.o _ H4.o.cur));rintro e x5 ⟨rfl,hc,hb⟩;have H5:=qh (H4.o.but hb hc);clear hc hb H4;have H5s:=qh (H5.o.set 2 (.int .i64 hi) rfl);obtain ⟨f0,f1,f2,f3⟩:=Q3 H5.o.blk;obtain ⟨q0,q1,q2,q3⟩:=Qi H5.o.blk;go_wp2_with (go_at_call 21; go_fit (HW6.o _ H5s.o.cur));rintro e x6 ⟨rfl,hc,hb⟩;have H6:=qh (H5s.o.but hb hc);clear hc hb H5 H5s f0 f1 f2 f3 q0 q1 q2 q3;go_wp2_with (go_at_call 122; go_fit (HI7.o _ H6.o.cur));rintro e x7 ⟨rfl,hc,hb⟩;have H7:=qh (H6.o.but hb hc);clear hc hb H6;have H7s:=qh (H7.o.set 3 (.int .i64 ini) rfl);obtain ⟨f0,f1,f2,f3⟩:=Q3 H7.o.blk;obtain ⟨q0,q1,q2,q3⟩:=Qi H7.o.blk;go_wp2_with (go_at_call 21; go_fit (HW8.o _ H7s.o.cur));rintro e x8 ⟨rfl,hc,hb⟩;have HX:=qh (H7s.o.but hb hc);clear hc hb H7 H7s f0 f1 f2 f3 q0 q1 q2 q3;obtain ⟨q0,q1,q2,q3⟩:=Qi HX.o.blk;obtain ⟨r0,r1,r2,r3⟩:=Qi HX.o.res;obtain ⟨f0,f1,f2,f3⟩:=Q3 HX.o.res;have HD:=qh (HX.o.done (.string s) (.int .i64 lo) (.int .i64 hi) (.int .i64 ini));go_wp2_with fail;obtain ⟨p0,p1,p2,p3⟩:=Q0 HX.o.res (.string s) (.int .i64 lo) (.int .i64 hi) (.int .i64 ini);refine bodyPost_ret (v:=.agg #[.string s,.int .i64 lo,.int .i64 hi,.int .i64 ini]) (by simp [results,Tryz.results83,go_sem,p0,p1,p2,p3]) rfl ?_;exact ⟨by rw [HP.o],by rw [HP.o]; exact HX.o.cur.own HD.o HX.o.lt,Z8 HX.o.grown HD.o⟩
theorem acs_dep {B0:Nat} {w:World} {v:Value} {l:List Ac} (h:AcsFar B0 w v l):Dep w (fun b => B0 <= b) (fun x => Acs x v l):=by
 intro w2 hz hx;obtain ⟨ps,h1,h2,h3,h4,h5⟩:=h;refine ⟨ps,h1,(Qbr (S:=fun b=>B0<=b) h2 fun _ b hb=>h4 b hb) w2 hz hx,fun p hp=>?_⟩;obtain ⟨m,hm,hr⟩:=h3 p hp;obtain ⟨A',c',heq,-⟩:=id hr
 cases heq
 exact ⟨_,hm,(Qbr (S:=fun b=>B0<=b) hr fun h0 b hb=>h5 p hp h0 b hb) w2 hz hx⟩
theorem QgB {B0:Nat} {w:World} {A:Option Addr} {n c:Nat} {l:List Tm} (h:Tms w (.slice A n c) l) (hf:∀ b,(Value.slice A n c).ownBlock = some b -> B0 <= b):Dep w (fun b => B0 <= b) (fun x => Tms x (.slice A n c) l):=by
 intro w2 hz hx;obtain ⟨m,hm,hr⟩:=h;exact ⟨m,hm,(Qbr (S:=fun b=>B0<=b) hr fun _ b hb=>hf b hb) w2 hz hx⟩
def RetActsD (W:World) (B:Nat) (p:Cur × List Ac) (e:Ending) (w':World):Prop:=∃ A n cp,e = .returned (.slice A n cp)/\CurAt w' B p.1/\Dep w' (fun b=>W.heap.size<=b) (fun x=>Acs x (.slice A n cp) p.2)/\W.grownBy w' (some B)
theorem ZT (w:World):Acs w (.slice none 0 0) []:=(AcsFar.nil 0 w).acs
theorem Qdh (B:Nat) (c:Cur) (s:ByteArray) (w:World) (hs:SignsIn w) (h:CurAt w B c) (ok:Ok c):Calls Tryz.prog 85 #[.pointer (some ⟨B,0,none⟩),.string s] w (RetActsD w B (acX c s)):=by
 have HT:=qh (take_at B c 1 s w h);have HSG:=qh (fun W (hW:w.grownBy W (some B))=>Jk hs h hW);obtain ⟨P,hP⟩:∃ P,P=acX c s:=⟨_,rfl⟩;rw [<- hP]
 by_cases hb:isB c 1 s=true
 ·obtain ⟨⟨c2,l⟩,e2⟩:∃ p,p = readA (on c):=⟨_,rfl⟩
  have HP:Hid (P=(want c2 3 wEnd,l)):=qh (by rw [hP]; unfold acX; rw [if_pos hb,<- e2]);have HR:=qh (fun W (hs:SignsIn W) (hW:CurAt W B (on c))=>QdT B (on c) W hs hW ok.on);rw [<- e2] at HR;have HW:=qh (fun W (hW:CurAt W B c2)=>Jl B c2 3 wEnd W hW);rw [hb,show take c 1 s=on c by unfold take; rw [if_pos hb]] at HT;have HLT:=qh h.lt;clear hP hb h ok hs e2;go_enter Tryz.func85,Tryz.ntmps85;go_wp2_with (go_at_call 46; go_fit HT.o);rintro e x2 ⟨rfl,hc2,hb2⟩;have HC:=qh (And.intro hc2 hb2);clear hc2 hb2;go_wp2_with (go_at_call 124; go_fit (HR.o _ (HSG.o _ HC.o.2) HC.o.1));rintro e x3 ⟨A,n,cp,rfl,hc3,hf3,hb3⟩;have HC3:=qh (And.intro hc3 (Qt HC.o.2 hb3));have HF3:=qh (acs_dep (hf3.mono HC.o.2.size));clear hc3 hb3 hf3;go_wp2_with (go_at_call 21; go_fit (HW.o _ HC3.o.1));rintro e x4 ⟨rfl,hc4,hb4⟩;have HC4:=qh (And.intro hc4 (Qt HC3.o.2 hb4));have HF4:=qh (HF3.o.go hb4 fun b hS e=>by injection e with e; have:=HLT.o; omega);clear hc4 hb4;go_wp2_with fail;go_ret;exact ⟨A,n,cp,rfl,by rw [HP.o]; exact HC4.o.1,by rw [HP.o]; exact HF4.o,HC4.o.2⟩
 ·have HP:Hid (P = (c,[])):=qh (by rw [hP]; unfold acX; rw [if_neg hb])
  rw [show isB c 1 s=false by simpa using hb,show take c 1 s=c by unfold take; rw [if_neg hb]] at HT;clear hP hb h ok hs;go_enter Tryz.func85,Tryz.ntmps85;go_wp2_with (go_at_call 46; go_fit HT.o);rintro e x2 ⟨rfl,hc2,hb2⟩;have HC:=qh (And.intro hc2 hb2);clear hc2 hb2;go_wp2_with fail;go_ret;exact ⟨none,0,0,rfl,by rw [HP.o]; exact HC.o.1,by rw [HP.o]; exact Dep.triv ZT,HC.o.2⟩
end
section
open Go.RowKit TermSpec
set_option maxRecDepth 100000
theorem QdC:(Tryz.prog.info? 9).map (fun i=>(i.zero,i.size,i.bytes))=some (some (.string ByteArray.empty),1,16):=by kernel_rfl
def RowS (W wr:World) (p:Value) (xs:List ByteArray):Prop:=wr.ownsRow W.heap.size 9 1 p xs.length (strV xs)/\Below W.heap.size W wr
theorem RowS.nil (W wr:World) (hb:Below W.heap.size W wr):RowS W wr (.slice none 0 0) []:=⟨World.ownsRow_nil _ _ _ _,hb⟩
theorem RowS.keep {W w w':World} {p:Value} {xs:List ByteArray} (h:RowS W w p xs) (hb:Below w.heap.size w w'):RowS W w' p xs:=⟨Q9 h.1 hb,Qa h.2 hb⟩
theorem RowS.alloc {W w:World} {p:Value} {xs:List ByteArray} (h:RowS W w p xs) (o:Obj):RowS W (w.alloc o) p xs:=h.keep ((Below.refl _ _).alloc (Nat.le_refl _) _)
theorem RowS.add {W wr w2:World} {p p':Value} {xs:List ByteArray} {x:ByteArray} {o:Obj} (h:RowS W wr p xs) (hrow:w2.ownsRow W.heap.size 9 1 p' (xs.length + (strV [x]).length) (strV xs ++ strV [x])) (hg:(wr.alloc o).grownBy w2 p.ownBlock):RowS W w2 p' (xs ++ [x]):=by
 refine ⟨?_,(h.2.alloc h.2.size o).grown hg (by have:=h.2.size; simp; omega) (fun j hj=>(Qs h.1 j hj).1)⟩;rw [<- Qc7,List.length_append];exact hrow
theorem RowS.read {W wr:World} {p:Value} {xs:List ByteArray} (h:RowS W wr p xs):Rd wr p (strV xs):=Rd.own h.1
end
section
open Go.RowKit CurSpec TermSpec EvalSpec ActSpec NamesSpec ExprSpec TransSpec SynSpec
set_option maxRecDepth 100000
abbrev sC (s:ByteArray):List Value:=[.string s]
theorem sC_flat (l:List ByteArray):l.flatMap sC = strV l:=by
 induction l with
 | nil => rfl
 | cons a t ih => rw [List.flatMap_cons,ih]; rfl
theorem rd_one {w:World} {v:Value} {n:Nat} {xs:List Value} (h:Rdk 1 w v n xs):Rd w v xs:=by
 obtain ⟨A,c,rfl,hc,hl,hA⟩:=h;exact ⟨A,n,c,rfl,by omega,hc,hA⟩
theorem inf_var:(Tryz.prog.info? 46).map (fun i=>(i.zero,i.size,i.bytes))=some (some (.agg #[.string ByteArray.empty,.int .i64 0,.int .i64 0,.int .i64 0]),4,40):=by kernel_rfl
theorem QfA:(Tryz.prog.info? 81).map (fun i=>(i.zero,i.size,i.bytes))=some (some (.agg #[.string ByteArray.empty,.slice none 0 0,.slice none 0 0,.string ByteArray.empty]),4,80):=by kernel_rfl
theorem QgI (v:Vr):∀ u ∈ vrV v,u.oneCell' = true:=by
 intro u hu;simp only [vrV,List.mem_cons,List.not_mem_nil,or_false] at hu
 rcases hu with rfl | rfl | rfl | rfl<;>rfl
structure TP where
 t:Tr
 gA:Option Addr
 gn:Nat
 gc:Nat
 aA:Option Addr
 an:Nat
 ac:Nat
def tpV (p:TP):List Value:=[.string p.t.ev,.slice p.gA p.gn p.gc,.slice p.aA p.an p.ac,.string p.t.tg]
def tpN (p:TP) (w:World):Prop:=TrIn w p.gA p.gn p.gc p.aA p.an p.ac p.t
theorem QaL (p:TP):(tpV p).length=4:=rfl
theorem Qcc (p:TP):∀ u ∈ tpV p,u.oneCell' = true:=by
 intro u hu;simp only [tpV,List.mem_cons,List.not_mem_nil,or_false] at hu
 rcases hu with rfl | rfl | rfl | rfl<;>rfl
def Trs (w:World) (v:Value) (l:List Tr):Prop:=∃ ps:List TP,ps.map (·.t)=l/\Rdk 4 w v ps.length (ps.flatMap tpV)/\∀ p∈ps,tpN p w
theorem Trs.keep {w w':World} {v:Value} {l:List Tr} (h:Trs w v l) (hb:Below w.heap.size w w'):Trs w' v l:=by
 obtain ⟨ps,h1,h2,h3⟩:=h;exact ⟨ps,h1,h2.keep hb,fun p hp=>(h3 p hp).keep hb⟩
theorem Trs.nil (w:World):Trs w (.slice none 0 0) []:=⟨[],rfl,Rdk.nil 4 w,by simp⟩
def RetD {α:Type} (R:World->Value->List α->Prop) (W:World) (B:Nat) (p:Cur × List α) (e:Ending) (w':World):Prop:=∃ A n cp,e = .returned (.slice A n cp)/\CurAt w' B p.1/\Dep w' (fun b=>W.heap.size<=b) (fun x=>R x (.slice A n cp) p.2)/\W.grownBy w' (some B)
def RdS (w:World) (v:Value) (l:List ByteArray):Prop:=Rd w v (strV l)
def RdV (w:World) (v:Value) (l:List Vr):Prop:=Rdk 4 w v l.length (vrsV l)
def EvRel (W:World) (B:Nat) (F:Cur × List ByteArray) (gh:Nat) (pv:Value) (wr:World):Prop :=
 ∃ (c:Cur) (ps:List ByteArray),left c<=gh/\Ok c/\CurAt wr B c/\RowB 9 1 sC (fun _ _=>True) W B wr pv ps/\Few 8 c ps/\loopT qE stE c ps=F
theorem Qe0 (B:Nat) (c:Cur) (w:World) (h:CurAt w B c) (ok:Ok c):Calls Tryz.prog 42 #[.pointer (some ⟨B,0,none⟩)] w (RetD RdS w B (evR c)):=by
 have hB:=h.lt;obtain ⟨i0,hi,hz0,hz1,hz2⟩:=info_parts QdC;have HI:=qh (And.intro hi (And.intro hz0 (And.intro hz1 hz2)));have HT:=qh (take_at B c 1 wEvent w h);obtain ⟨P,hP⟩:∃ P,P=evR c:=⟨_,rfl⟩;rw [<- hP];have HBB:=qh hB
 by_cases hb:isB c 1 wEvent=true
 ·obtain ⟨c1,e1⟩:∃ d,d = nameC (on c):=⟨_,rfl⟩
  obtain ⟨s,es⟩:∃ s,s=nameS (on c):=⟨_,rfl⟩;obtain ⟨F,eF⟩:∃ F,F=loopT qE stE c1 [s]:=⟨_,rfl⟩;have HP:Hid (P=(want F.1 3 wEnd,F.2)):=qh (by rw [hP]; unfold evR; rw [if_pos hb,<- e1,<- es,<- eF]);have HOK1:Hid (Ok c1):=qh (e1 ▸ ok.on.nameC);have HN:=qh (fun W (hW:CurAt W B (on c))=>Zj B (on c) ok.on W hW);rw [<- e1,<- es] at HN;have HWF:=qh (fun W (hW:CurAt W B F.1)=>Jl B F.1 3 wEnd W hW);rw [hb,show take c 1 wEvent=on c by unfold take; rw [if_pos hb]] at HT;have HF:=qh eF.symm;clear hP hb h ok e1 es eF hi hz0 hz1 hz2;go_enter Tryz.func42,Tryz.ntmps42;go_wp2_with (go_at_call 46; go_fit HT.o);rintro e x2 ⟨rfl,hc2,hb2⟩;have HC:=qh (And.intro hc2 hb2);clear hc2 hb2;go_wp2_with (go_at_call 41; go_fit (HN.o _ HC.o.1));rintro e x3 ⟨rfl,hc3,hb3⟩
  have HST:Hid (EvRel w B F (left c1) (.slice (some ⟨x3.heap.size,0,none⟩) 1 1) (x3.alloc (.cells #[.string s] 9))):=Lib.hid
   ⟨c1,[s],Nat.le_refl _,HOK1.o,hc3.alloc _,RowB.one (p:=s) (Qt HC.o.2 hb3) hB rfl (Dep.triv fun _=>trivial),⟨by simp,fun h=>by simp at h⟩,HF.o⟩
  clear hc3 hb3;go_wp2_with fail
  go_loopg [3] (left c1) (fun gh pv wr=>EvRel w B F gh pv wr)
  case atStart=>exact HST.o
  case round =>
   obtain ⟨d,ps,hgh,hok,hcur,hrow,hfew,htail⟩:=hrel;have HGH:=qh hgh;have HROW:=qh hrow;have HTAIL:=qh htail;have HCUR:=qh hcur;have HTK:=qh (take_at B d 3 wCom wr hcur);obtain ⟨pA,pc,rfl⟩:=hrow.shape;obtain ⟨n,hn⟩:∃ n,n=ps.length:=⟨_,rfl⟩;rw [<- hn];rw [<- hn] at HROW;have HN2:=qh hn
   by_cases hb:qE d=true
   ·have HLS:=qh (Za Qgz ps hb)
    have HFW:=qh (few_E hb hfew);have HT1:=qh (JA Qgz (out:=ps) hb);have h0:=(Qv hb (by decide)).1;have h0':=(Qv hb (by decide)).2.2
    have h8:n <= 8:=by
     rcases Nat.lt_or_ge n 9 with h' | h'
     ·omega
     ·exact absurd h0 (hfew.2 (by have:=hfew.1; omega))
    rw [show isB d 3 wCom=true from hb,show take d 3 wCom=on d by unfold take; rw [if_pos (show isB d 3 wCom=true from hb)]] at HTK;have HOK2:=qh ((QgF d ps).ok hok);have HD:Hid (stE d ps=(nameC (fullE (on d) ps),ps++[nameS (fullE (on d) ps)])):=qh rfl;have HOKD:=qh ((Qck (on d) ps).ok hok.on);have HFU:Hid (fullE (on d) ps=if n=8/\nameB (on d)=true then fail (on d) 8 else on d):=qh (by unfold fullE; rw [hn]);obtain ⟨D,hD⟩:∃ D,D=fullE (on d) ps:=⟨_,rfl⟩;rw [<- hD] at HD HOKD HFU;have HNM:=qh (fun W (hW:CurAt W B D)=>Zj B D HOKD.o W hW);obtain ⟨c4,hc4⟩:∃ q,q=nameC D:=⟨_,rfl⟩;obtain ⟨s4,hs4⟩:∃ q,q=nameS D:=⟨_,rfl⟩;rw [<- hc4,<- hs4] at HD HNM;rw [HD.o] at HLS HFW HOK2 HT1;have HL1:Hid (ps.length+1<=maxLen):=qh (by unfold maxLen; omega);have HL2:Hid ((ps.length+1)*16<=140737488355328):=qh (by omega);have HNX:=qh (fun W (hW:CurAt W B (on d))=>Qbu B (on d) W hW);have HIS:=qh (fun b W (hb:nameB (on d)=b)=>isName_tk (next (on d)).k (next (on d)).t (next (on d)).l (next (on d)).c hok.on.next W (b:=b) (by rw [<- hb]; simp [nameB,h0']));have HFA:=qh (fun W (hW:CurAt W B (on d))=>Zg B (on d) 8 W hW);clear hgh hok hfew htail hb h0 h0' hD hc4 hs4
    by_cases h8e:n=8
    ·have g1:((n:Int) == 8) = true:=by simp; omega
     have g1':(n==8)=true:=by simp; omega
     rcases hnb:nameB (on d) with _ | _
     ·have HFD:Hid (D = on d):=qh (by rw [HFU.o,if_neg (by simp [hnb])])
      have HIS2:=qh (fun W=>HIS.o false W hnb);clear h8e h8 hn hrow hcur hnb;go_wp2_with (go_at_call 46; go_fit HTK.o);rintro e x3 ⟨rfl,hc3,hb3⟩;have HC3:=qh hc3;have HR3:=qh (HROW.o.but hb3);clear hc3 hb3;go_wp2_with (go_at_call 78; go_fit (HNX.o _ HC3.o));rintro e x4 ⟨rfl,hb4⟩;have HC4:=qh (HC3.o.keep hb4);have HR4:=qh (HR3.o.keep hb4);clear hb4;go_wp2_with (go_at_call 81; go_fit (HIS2.o _));rintro e x5 ⟨rfl,hb5⟩;have HCD:=qh (HC4.o.keep hb5);have HRW:=qh (HR4.o.keep hb5);rw [<- HFD.o] at HCD;clear hb5;go_wp2_with (go_at_call 41; go_fit (HNM.o _ HCD.o));rintro e x7 ⟨rfl,hc7,hb7⟩;have HC7:=qh hc7;have HR7:=qh (HRW.o.but hb7);clear hc7 hb7;go_wp2_with (at_builtin; refine QE rfl (.tmp 22) (.tmp 25) _ rfl i0 (.string ByteArray.empty) 16 Tryz.underlying30 HI.o.1 HI.o.2.1 HI.o.2.2.1 HI.o.2.2.2 rfl (by decide) HR7.o s4 (Dep.triv fun _=>trivial) rfl rfl rfl (fun u hu=>by rw [List.mem_singleton] at hu; subst hu; rfl) HL1.o HL2.o ?_; intro p2 w2 hrow2 hcur2; have HR8:=qh hrow2; have HC8:=qh (hcur2 _ HC7.o); clear hrow2 hcur2)
      go_roundg (left c4)
      case measure=>have h1:=HLS.o; have h3:=HGH.o; omega
      case rel=>exact ⟨c4,ps++[s4],Nat.le_refl _,HOK2.o,HC8.o,HR8.o,HFW.o,by rw [<- HTAIL.o,HT1.o]⟩
     ·have HFD:Hid (D = fail (on d) 8):=qh (by rw [HFU.o,if_pos ⟨h8e,hnb⟩])
      have HIS2:=qh (fun W=>HIS.o true W hnb);clear h8e h8 hn hrow hcur hnb;go_wp2_with (go_at_call 46; go_fit HTK.o);rintro e x3 ⟨rfl,hc3,hb3⟩;have HC3:=qh hc3;have HR3:=qh (HROW.o.but hb3);clear hc3 hb3;go_wp2_with (go_at_call 78; go_fit (HNX.o _ HC3.o));rintro e x4 ⟨rfl,hb4⟩;have HC4:=qh (HC3.o.keep hb4);have HR4:=qh (HR3.o.keep hb4);clear hb4;go_wp2_with (go_at_call 81; go_fit (HIS2.o _));rintro e x5 ⟨rfl,hb5⟩;have HC5:=qh (HC4.o.keep hb5);have HR5:=qh (HR4.o.keep hb5);clear hb5;go_wp2_with (go_at_call 47; go_fit (HFA.o _ HC5.o));rintro e x6 ⟨rfl,hc6,hb6⟩;rw [<- HFD.o] at hc6;have HCD:=qh hc6;have HRW:=qh (HR5.o.but hb6);clear hc6 hb6;go_wp2_with (go_at_call 41; go_fit (HNM.o _ HCD.o));rintro e x7 ⟨rfl,hc7,hb7⟩;have HC7:=qh hc7;have HR7:=qh (HRW.o.but hb7);clear hc7 hb7;go_wp2_with (at_builtin; refine QE rfl (.tmp 22) (.tmp 25) _ rfl i0 (.string ByteArray.empty) 16 Tryz.underlying30 HI.o.1 HI.o.2.1 HI.o.2.2.1 HI.o.2.2.2 rfl (by decide) HR7.o s4 (Dep.triv fun _=>trivial) rfl rfl rfl (fun u hu=>by rw [List.mem_singleton] at hu; subst hu; rfl) HL1.o HL2.o ?_; intro p2 w2 hrow2 hcur2; have HR8:=qh hrow2; have HC8:=qh (hcur2 _ HC7.o); clear hrow2 hcur2)
      go_roundg (left c4)
      case measure=>have h1:=HLS.o; have h3:=HGH.o; omega
      case rel=>exact ⟨c4,ps++[s4],Nat.le_refl _,HOK2.o,HC8.o,HR8.o,HFW.o,by rw [<- HTAIL.o,HT1.o]⟩
    ·have g1:((n:Int) == 8) = false:=by simp; omega
     have g1':(n==8)=false:=by simp; omega
     have HFD:Hid (D=on d):=qh (by rw [HFU.o,if_neg (fun h=>h8e h.1)]);clear h8e h8 hn hrow hcur;go_wp2_with (go_at_call 46; go_fit HTK.o);rintro e x3 ⟨rfl,hc3,hb3⟩;have HC3:=qh hc3;have HR3:=qh (HROW.o.but hb3);clear hc3 hb3;have HCD:=HC3;rw [<- HFD.o] at HCD;have HRW:=HR3;go_wp2_with (go_at_call 41; go_fit (HNM.o _ HCD.o));rintro e x7 ⟨rfl,hc7,hb7⟩;have HC7:=qh hc7;have HR7:=qh (HRW.o.but hb7);clear hc7 hb7;go_wp2_with (at_builtin; refine QE rfl (.tmp 22) (.tmp 25) _ rfl i0 (.string ByteArray.empty) 16 Tryz.underlying30 HI.o.1 HI.o.2.1 HI.o.2.2.1 HI.o.2.2.2 rfl (by decide) HR7.o s4 (Dep.triv fun _=>trivial) rfl rfl rfl (fun u hu=>by rw [List.mem_singleton] at hu; subst hu; rfl) HL1.o HL2.o ?_; intro p2 w2 hrow2 hcur2; have HR8:=qh hrow2; have HC8:=qh (hcur2 _ HC7.o); clear hrow2 hcur2)
     go_roundg (left c4)
     case measure=>have h1:=HLS.o; have h3:=HGH.o; omega
     case rel=>exact ⟨c4,ps++[s4],Nat.le_refl _,HOK2.o,HC8.o,HR8.o,HFW.o,by rw [<- HTAIL.o,HT1.o]⟩
   ·have HFE:Hid (F = (d,ps)):=qh (by rw [<- htail,Jm hb])
    rw [show isB d 3 wCom=false by simpa [qE] using hb,show take d 3 wCom=d by unfold take; rw [if_neg (show ¬ isB d 3 wCom=true from hb)]] at HTK;clear hgh hok hfew htail hb hn hrow hcur;go_wp2_with (go_at_call 46; go_fit HTK.o);rintro e x3 ⟨rfl,hc3,hb3⟩;have HC3:=qh hc3;have HR3:=qh (HROW.o.but hb3);clear hc3 hb3;have HC3':=HC3;rw [show d=F.1 by rw [HFE.o]] at HC3';go_wp2_with (go_at_call 21; go_fit (HWF.o _ HC3'.o));rintro e x4 ⟨rfl,hc4,hb4⟩;have HC4:=qh hc4;have HR4:=qh (HR3.o.but hb4);clear hc4 hb4;go_wp2_with fail;go_ret;refine ⟨pA,n,pc,rfl,by rw [HP.o]; exact HC4.o,?_,HR4.o.grown⟩;rw [HP.o,HFE.o];exact HR4.o.far.imp fun x hx=>by rw [sC_flat] at hx; exact rd_one hx.1
 ·have HP:Hid (P = (c,[])):=qh (by rw [hP]; unfold evR; rw [if_neg hb])
  rw [show isB c 1 wEvent=false by simpa using hb,show take c 1 wEvent=c by unfold take; rw [if_neg hb]] at HT;clear hP hb h ok hi hz0 hz1 hz2;go_enter Tryz.func42,Tryz.ntmps42;go_wp2_with (go_at_call 46; go_fit HT.o);rintro e x2 ⟨rfl,hc2,hb2⟩;have HC:=qh (And.intro hc2 hb2);clear hc2 hb2;go_wp2_with fail;go_ret;exact ⟨none,0,0,rfl,by rw [HP.o]; exact HC.o.1,by rw [HP.o]; exact Dep.triv fun x=>Rd.nil x,HC.o.2⟩
end
end Go.Proofs.YtbdalbpackfejaaGreatDoor
