/- ExprRefPut, joined. -/
import Derived.Test.YtbdalbpackfejaaGreatDoorMFormatOf19
set_option maxHeartbeats 16000000
set_option maxRecDepth 100000
namespace Go.Proofs.YtbdalbpackfejaaGreatDoor
section
open Go.RowKit CurSpec TermSpec ExprSpec
set_option maxRecDepth 100000
def RPutOk (e:Ex):Prop:=∀ A n c l (a:Nat) rest (k:Int) W,TxAt W A n c l->l.drop a=flat e++rest->Calls Tryz.prog 112 #[.slice A n c,.int .i64 a,.int .i64 k] W (RetS W (bk (lev e<k) (tx e)))
theorem Qai {A:Option Addr} {n c:Nat} {l:List Tm} {a:Nat} {e:Ex} {rest:List Tm} {W:World} (h:TxAt W A n c l) (hd:l.drop a = flat e ++ rest) (hg:ExprSpec.Good e) :
 ∃ b off t,A = some ⟨b,off,none⟩ /\ b < W.heap.size /\ t.op = opE e /\ a < n /\ n <= 1000 /\ (∃ r,flat e = t :: r) /\
   W.cell? ⟨b,off+a*3,none⟩=some (.int .i64 t.op)/\W.cell? ⟨b,off+a*3+1,none⟩=some (.int .i64 t.n)/\W.cell? ⟨b,off+a*3+2,none⟩=some (.string t.s) /\
   (∀ w',Below W.heap.size W w'->Calls Tryz.prog 147 #[.slice A n c,.int .i64 a] w' (RetInts w' (belows l a (arN (opE e))))) /\
   (∀ w',Calls Tryz.prog 146 #[.int .i64 t.op] w' (RetI w' (lev e))):=by
 obtain ⟨t,r,hf,hop⟩:=QaE e
 have hla:l[a]? = some t:=by
  have:(l.drop a)[0]?=some t:=by rw [hd,hf]; rfl
  rwa [List.getElem?_drop] at this
 obtain ⟨b,off,rfl,hb,c0,c1,c2⟩:=h.tms.at_ hla;have hal:=Ja hla;have hwf:=JY hg;have hc:cnt 1 (l.drop a)=some (flat e).length:=by rw [hd]; exact JF rest hwf.1
 have he:0<=endA l a:=by rw [Zb hc]; omega
 have har:0 <= ar t.op:=by
  have:=QfI hwf.1 t (by rw [List.take_of_length_le (Nat.le_refl _),hf]; simp);exact this
 refine ⟨b,off,t,rfl,hb,hop,by rw [h.len]; exact hal,h.few,⟨r,hf⟩,c0,c1,c2,fun w' hw=>?_,fun w'=>?_⟩
 ·rw [<- hop]
  exact Qeh (some ⟨b,off,none⟩) n c l a w' (h.tms.keep hw) h.len (by have:=h.few; omega) t hla he
 ·rw [lev_opE hg,<- hop]
  exact Qi8 t.op w' har
theorem rput_leaf {t:Tm} (hg:ExprSpec.Good (.leaf t)):RPutOk (.leaf t):=by
 intro A n c l a rest k w h hd;obtain ⟨b,off,t',rfl,hb,hop,hal,hfew,⟨r,hr⟩,c0,c1,c2,hbl,hlv⟩:=Qai h hd hg;obtain rfl:t=t':=by injection hr
 have hal':(a:Int)<n:=by omega
 have ha0:(0:Int)<=(a:Int):=by omega
 have HB:=qh hbl;have h1:=Qa3 hg.1;have HE:Hid (arN (opE (.leaf t))=0):=qh (by rw [<- hop]; unfold arN; rw [hg.1]; rfl);rw [HE.o,Qbh] at HB;have HLV:Hid (∀ w',Calls Tryz.prog 146 #[.int .i64 t.op] w' (RetI w' 8)):=qh hlv;have HBK:Hid (∀ X,tx (.leaf t)=X->bk (lev (.leaf t)<k) (tx (.leaf t))=if 8<k then (⟨#[40]⟩++X)++⟨#[41]⟩ else X):=qh (fun X hX=>by subst hX; rfl);have hm:=hg.2;clear h hd hop hr hbl hlv HE hg
 by_cases h1:t.op=1
 ·have hn1:=(Qdw h1 hm).1
  have hz:=QfB hn1;have HT:Hid (tx (.leaf t)=bs (ValSpec.text t.n)):=qh (by unfold tx; rw [if_pos h1]);rw [h1] at c0 HLV;obtain ⟨m,hm1⟩:=Int.eq_ofNat_of_zero_le hn1.1;have htx:ValSpec.text t.n=ValSpec.digs m:=by unfold ValSpec.text; rw [if_neg (by omega),hm1]; rfl
  have HPT:=qh (fun w=>Qed m m w (Nat.le_refl _) (by omega));rw [htx] at HT hz;obtain ⟨nn,hnn⟩:∃ nn,nn=t.n:=⟨_,rfl⟩;obtain ⟨ss,hss⟩:∃ ss,ss=t.s:=⟨_,rfl⟩;rw [<- hnn] at c1;rw [<- hss] at c2;rw [hm1] at hnn;obtain ⟨tt,htt⟩:∃ tt,tt=bs (ValSpec.digs m):=⟨_,rfl⟩;have hz':tt.size<=12:=by rw [htt]; exact hz
  rw [<- htt] at HT;have HPT':Hid (∀ W,Calls Tryz.prog 65 #[.int .i64 nn] W fun e w'=>e = .returned (.string tt)/\W=w'):=qh (by rw [hnn,htt]; exact HPT.o);clear hz HPT htt hm1 htx hn1 hnn;clear hm hss h1
  by_cases h8:8<k
  ·have HF:Hid (bk (lev (.leaf t) < k) (tx (.leaf t)) = (⟨#[40]⟩ ++ (tt)) ++ ⟨#[41]⟩):=qh (by rw [HBK.o _ HT.o,if_pos h8])
   rw [HF.o];clear HF HBK HT;go_enter Tryz.func112,Tryz.ntmps112;go_wp2_with (go_at_call 146; go_fit (HLV.o _));rintro e w1 ⟨rfl,hb1⟩;have hk1:=Qe (heap_alloc_new w (.cells #[.int .i64 1,.int .i64 nn,.string ss] 123)) hb1;have HB1:=qh (((Below.refl _ _).alloc (Nat.le_refl _) (.cells #[.int .i64 1,.int .i64 nn,.string ss] 123)).trans (hb1.mono (by simp)));obtain ⟨p0,p1,p2⟩:=Qj hk1;have HK1:=qh hk1;clear hb1 hk1 c0 c1 c2;go_wp2_with (go_at_call 147; go_fit (HB.o _ HB1.o));rintro e w2 ⟨v,rfl,hr2,hb2⟩;have HZ:=qh (Qa HB1.o hb2);have hk2:=Qe HK1.o hb2;have HK2:=qh hk2;clear p0 p1 p2 hb2;obtain ⟨y0,y1,y2⟩:=Qj hk2;clear hk2;obtain ⟨Ab,nb,cb,rfl,hnb,-,-⟩:=hr2.ints;obtain rfl:0=nb:=hnb;clear hr2;go_wp2_with (go_at_call 65; go_fit (HPT'.o _); rintro e w' ⟨rfl,rfl⟩);go_ret;exact ⟨rfl,HZ.o⟩
  ·have HF:Hid (bk (lev (.leaf t) < k) (tx (.leaf t)) = tt):=qh (by rw [HBK.o _ HT.o,if_neg h8])
   rw [HF.o];clear HF HBK HT;go_enter Tryz.func112,Tryz.ntmps112;go_wp2_with (go_at_call 146; go_fit (HLV.o _));rintro e w1 ⟨rfl,hb1⟩;have hk1:=Qe (heap_alloc_new w (.cells #[.int .i64 1,.int .i64 nn,.string ss] 123)) hb1;have HB1:=qh (((Below.refl _ _).alloc (Nat.le_refl _) (.cells #[.int .i64 1,.int .i64 nn,.string ss] 123)).trans (hb1.mono (by simp)));obtain ⟨p0,p1,p2⟩:=Qj hk1;have HK1:=qh hk1;clear hb1 hk1 c0 c1 c2;go_wp2_with (go_at_call 147; go_fit (HB.o _ HB1.o));rintro e w2 ⟨v,rfl,hr2,hb2⟩;have HZ:=qh (Qa HB1.o hb2);have hk2:=Qe HK1.o hb2;have HK2:=qh hk2;clear p0 p1 p2 hb2;obtain ⟨y0,y1,y2⟩:=Qj hk2;clear hk2;obtain ⟨Ab,nb,cb,rfl,hnb,-,-⟩:=hr2.ints;obtain rfl:0=nb:=hnb;clear hr2;go_wp2_with (go_at_call 65; go_fit (HPT'.o _); rintro e w' ⟨rfl,rfl⟩);go_ret;exact ⟨rfl,HZ.o⟩
 by_cases h2:t.op=2
 ·have hz:=QG (ExprSpec.JS (.inl h2) hm).1
  have HT:Hid (tx (.leaf t)=t.s):=qh (by unfold tx; rw [if_neg (by omega)]; rw [if_pos h2]);rw [h2] at c0 HLV;obtain ⟨nn,hnn⟩:∃ nn,nn=t.n:=⟨_,rfl⟩;obtain ⟨ss,hss⟩:∃ ss,ss=t.s:=⟨_,rfl⟩;rw [<- hnn] at c1;rw [<- hss] at c2;rw [<- hss] at HT hz;clear hnn;clear hm hss h1;clear h2
  by_cases h8:8<k
  ·have HF:Hid (bk (lev (.leaf t) < k) (tx (.leaf t)) = (⟨#[40]⟩ ++ (ss)) ++ ⟨#[41]⟩):=qh (by rw [HBK.o _ HT.o,if_pos h8])
   rw [HF.o];clear HF HBK HT;go_enter Tryz.func112,Tryz.ntmps112;go_wp2_with (go_at_call 146; go_fit (HLV.o _));rintro e w1 ⟨rfl,hb1⟩;have hk1:=Qe (heap_alloc_new w (.cells #[.int .i64 2,.int .i64 nn,.string ss] 123)) hb1;have HB1:=qh (((Below.refl _ _).alloc (Nat.le_refl _) (.cells #[.int .i64 2,.int .i64 nn,.string ss] 123)).trans (hb1.mono (by simp)));obtain ⟨p0,p1,p2⟩:=Qj hk1;have HK1:=qh hk1;clear hb1 hk1 c0 c1 c2;go_wp2_with (go_at_call 147; go_fit (HB.o _ HB1.o));rintro e w2 ⟨v,rfl,hr2,hb2⟩;have HZ:=qh (Qa HB1.o hb2);have hk2:=Qe HK1.o hb2;have HK2:=qh hk2;clear p0 p1 p2 hb2;obtain ⟨y0,y1,y2⟩:=Qj hk2;clear hk2;obtain ⟨Ab,nb,cb,rfl,hnb,-,-⟩:=hr2.ints;obtain rfl:0=nb:=hnb;clear hr2;go_wp2_with fail;go_ret;exact ⟨rfl,HZ.o⟩
  ·have HF:Hid (bk (lev (.leaf t) < k) (tx (.leaf t)) = ss):=qh (by rw [HBK.o _ HT.o,if_neg h8])
   rw [HF.o];clear HF HBK HT;go_enter Tryz.func112,Tryz.ntmps112;go_wp2_with (go_at_call 146; go_fit (HLV.o _));rintro e w1 ⟨rfl,hb1⟩;have hk1:=Qe (heap_alloc_new w (.cells #[.int .i64 2,.int .i64 nn,.string ss] 123)) hb1;have HB1:=qh (((Below.refl _ _).alloc (Nat.le_refl _) (.cells #[.int .i64 2,.int .i64 nn,.string ss] 123)).trans (hb1.mono (by simp)));obtain ⟨p0,p1,p2⟩:=Qj hk1;have HK1:=qh hk1;clear hb1 hk1 c0 c1 c2;go_wp2_with (go_at_call 147; go_fit (HB.o _ HB1.o));rintro e w2 ⟨v,rfl,hr2,hb2⟩;have HZ:=qh (Qa HB1.o hb2);have hk2:=Qe HK1.o hb2;have HK2:=qh hk2;clear p0 p1 p2 hb2;obtain ⟨y0,y1,y2⟩:=Qj hk2;clear hk2;obtain ⟨Ab,nb,cb,rfl,hnb,-,-⟩:=hr2.ints;obtain rfl:0=nb:=hnb;clear hr2;go_wp2_with fail;go_ret;exact ⟨rfl,HZ.o⟩
 by_cases h9:t.op=9
 ·have HT:Hid (tx (.leaf t) = ⟨#[116,114,117,101]⟩):=qh (by unfold tx; rw [if_neg (by omega)]; rw [if_neg (by omega)]; rw [if_pos h9])
  rw [h9] at c0 HLV;obtain ⟨nn,hnn⟩:∃ nn,nn=t.n:=⟨_,rfl⟩;obtain ⟨ss,hss⟩:∃ ss,ss=t.s:=⟨_,rfl⟩;rw [<- hnn] at c1;rw [<- hss] at c2;clear hnn;clear hm hss h1;clear h2;clear h9
  by_cases h8:8<k
  ·have HF:Hid (bk (lev (.leaf t) < k) (tx (.leaf t)) = (⟨#[40]⟩ ++ (⟨#[116,114,117,101]⟩)) ++ ⟨#[41]⟩):=qh (by rw [HBK.o _ HT.o,if_pos h8])
   rw [HF.o];clear HF HBK HT;go_enter Tryz.func112,Tryz.ntmps112;go_wp2_with (go_at_call 146; go_fit (HLV.o _));rintro e w1 ⟨rfl,hb1⟩;have hk1:=Qe (heap_alloc_new w (.cells #[.int .i64 9,.int .i64 nn,.string ss] 123)) hb1;have HB1:=qh (((Below.refl _ _).alloc (Nat.le_refl _) (.cells #[.int .i64 9,.int .i64 nn,.string ss] 123)).trans (hb1.mono (by simp)));obtain ⟨p0,p1,p2⟩:=Qj hk1;have HK1:=qh hk1;clear hb1 hk1 c0 c1 c2;go_wp2_with (go_at_call 147; go_fit (HB.o _ HB1.o));rintro e w2 ⟨v,rfl,hr2,hb2⟩;have HZ:=qh (Qa HB1.o hb2);have hk2:=Qe HK1.o hb2;have HK2:=qh hk2;clear p0 p1 p2 hb2;obtain ⟨y0,y1,y2⟩:=Qj hk2;clear hk2;obtain ⟨Ab,nb,cb,rfl,hnb,-,-⟩:=hr2.ints;obtain rfl:0=nb:=hnb;clear hr2;go_wp2_with fail;go_ret;exact ⟨rfl,HZ.o⟩
  ·have HF:Hid (bk (lev (.leaf t) < k) (tx (.leaf t)) = ⟨#[116,114,117,101]⟩):=qh (by rw [HBK.o _ HT.o,if_neg h8])
   rw [HF.o];clear HF HBK HT;go_enter Tryz.func112,Tryz.ntmps112;go_wp2_with (go_at_call 146; go_fit (HLV.o _));rintro e w1 ⟨rfl,hb1⟩;have hk1:=Qe (heap_alloc_new w (.cells #[.int .i64 9,.int .i64 nn,.string ss] 123)) hb1;have HB1:=qh (((Below.refl _ _).alloc (Nat.le_refl _) (.cells #[.int .i64 9,.int .i64 nn,.string ss] 123)).trans (hb1.mono (by simp)));obtain ⟨p0,p1,p2⟩:=Qj hk1;have HK1:=qh hk1;clear hb1 hk1 c0 c1 c2;go_wp2_with (go_at_call 147; go_fit (HB.o _ HB1.o));rintro e w2 ⟨v,rfl,hr2,hb2⟩;have HZ:=qh (Qa HB1.o hb2);have hk2:=Qe HK1.o hb2;have HK2:=qh hk2;clear p0 p1 p2 hb2;obtain ⟨y0,y1,y2⟩:=Qj hk2;clear hk2;obtain ⟨Ab,nb,cb,rfl,hnb,-,-⟩:=hr2.ints;obtain rfl:0=nb:=hnb;clear hr2;go_wp2_with fail;go_ret;exact ⟨rfl,HZ.o⟩
 by_cases h10:t.op=10
 ·have HT:Hid (tx (.leaf t) = ⟨#[102,97,108,115,101]⟩):=qh (by unfold tx; rw [if_neg (by omega)]; rw [if_neg (by omega)]; rw [if_neg (by omega)]; rw [if_pos h10])
  rw [h10] at c0 HLV;obtain ⟨nn,hnn⟩:∃ nn,nn=t.n:=⟨_,rfl⟩;obtain ⟨ss,hss⟩:∃ ss,ss=t.s:=⟨_,rfl⟩;rw [<- hnn] at c1;rw [<- hss] at c2;clear hnn;clear hm hss h1;clear h2;clear h9;clear h10
  by_cases h8:8<k
  ·have HF:Hid (bk (lev (.leaf t) < k) (tx (.leaf t)) = (⟨#[40]⟩ ++ (⟨#[102,97,108,115,101]⟩)) ++ ⟨#[41]⟩):=qh (by rw [HBK.o _ HT.o,if_pos h8])
   rw [HF.o];clear HF HBK HT;go_enter Tryz.func112,Tryz.ntmps112;go_wp2_with (go_at_call 146; go_fit (HLV.o _));rintro e w1 ⟨rfl,hb1⟩;have hk1:=Qe (heap_alloc_new w (.cells #[.int .i64 10,.int .i64 nn,.string ss] 123)) hb1;have HB1:=qh (((Below.refl _ _).alloc (Nat.le_refl _) (.cells #[.int .i64 10,.int .i64 nn,.string ss] 123)).trans (hb1.mono (by simp)));obtain ⟨p0,p1,p2⟩:=Qj hk1;have HK1:=qh hk1;clear hb1 hk1 c0 c1 c2;go_wp2_with (go_at_call 147; go_fit (HB.o _ HB1.o));rintro e w2 ⟨v,rfl,hr2,hb2⟩;have HZ:=qh (Qa HB1.o hb2);have hk2:=Qe HK1.o hb2;have HK2:=qh hk2;clear p0 p1 p2 hb2;obtain ⟨y0,y1,y2⟩:=Qj hk2;clear hk2;obtain ⟨Ab,nb,cb,rfl,hnb,-,-⟩:=hr2.ints;obtain rfl:0=nb:=hnb;clear hr2;go_wp2_with fail;go_ret;exact ⟨rfl,HZ.o⟩
  ·have HF:Hid (bk (lev (.leaf t) < k) (tx (.leaf t)) = ⟨#[102,97,108,115,101]⟩):=qh (by rw [HBK.o _ HT.o,if_neg h8])
   rw [HF.o];clear HF HBK HT;go_enter Tryz.func112,Tryz.ntmps112;go_wp2_with (go_at_call 146; go_fit (HLV.o _));rintro e w1 ⟨rfl,hb1⟩;have hk1:=Qe (heap_alloc_new w (.cells #[.int .i64 10,.int .i64 nn,.string ss] 123)) hb1;have HB1:=qh (((Below.refl _ _).alloc (Nat.le_refl _) (.cells #[.int .i64 10,.int .i64 nn,.string ss] 123)).trans (hb1.mono (by simp)));obtain ⟨p0,p1,p2⟩:=Qj hk1;have HK1:=qh hk1;clear hb1 hk1 c0 c1 c2;go_wp2_with (go_at_call 147; go_fit (HB.o _ HB1.o));rintro e w2 ⟨v,rfl,hr2,hb2⟩;have HZ:=qh (Qa HB1.o hb2);have hk2:=Qe HK1.o hb2;have HK2:=qh hk2;clear p0 p1 p2 hb2;obtain ⟨y0,y1,y2⟩:=Qj hk2;clear hk2;obtain ⟨Ab,nb,cb,rfl,hnb,-,-⟩:=hr2.ints;obtain rfl:0=nb:=hnb;clear hr2;go_wp2_with fail;go_ret;exact ⟨rfl,HZ.o⟩
 ·have h11:t.op = 11:=by omega
  have hz:=QG (ExprSpec.JS (.inr h11) hm).1;have HT:Hid (tx (.leaf t)=(⟨#[105,110,40]⟩++t.s)++⟨#[41]⟩):=qh (by unfold tx; rw [if_neg (by omega)]; rw [if_neg (by omega)]; rw [if_neg (by omega)]; rw [if_neg (by omega)]; skip);rw [h11] at c0 HLV;obtain ⟨nn,hnn⟩:∃ nn,nn=t.n:=⟨_,rfl⟩;obtain ⟨ss,hss⟩:∃ ss,ss=t.s:=⟨_,rfl⟩;rw [<- hnn] at c1;rw [<- hss] at c2;rw [<- hss] at HT hz;clear hnn;clear hm hss h1;clear h2;clear h9;clear h10;clear h11
  by_cases h8:8<k
  ·have HF:Hid (bk (lev (.leaf t) < k) (tx (.leaf t)) = (⟨#[40]⟩ ++ ((⟨#[105,110,40]⟩ ++ ss) ++ ⟨#[41]⟩)) ++ ⟨#[41]⟩):=qh (by rw [HBK.o _ HT.o,if_pos h8])
   rw [HF.o];clear HF HBK HT;go_enter Tryz.func112,Tryz.ntmps112;go_wp2_with (go_at_call 146; go_fit (HLV.o _));rintro e w1 ⟨rfl,hb1⟩;have hk1:=Qe (heap_alloc_new w (.cells #[.int .i64 11,.int .i64 nn,.string ss] 123)) hb1;have HB1:=qh (((Below.refl _ _).alloc (Nat.le_refl _) (.cells #[.int .i64 11,.int .i64 nn,.string ss] 123)).trans (hb1.mono (by simp)));obtain ⟨p0,p1,p2⟩:=Qj hk1;have HK1:=qh hk1;clear hb1 hk1 c0 c1 c2;go_wp2_with (go_at_call 147; go_fit (HB.o _ HB1.o));rintro e w2 ⟨v,rfl,hr2,hb2⟩;have HZ:=qh (Qa HB1.o hb2);have hk2:=Qe HK1.o hb2;have HK2:=qh hk2;clear p0 p1 p2 hb2;obtain ⟨y0,y1,y2⟩:=Qj hk2;clear hk2;obtain ⟨Ab,nb,cb,rfl,hnb,-,-⟩:=hr2.ints;obtain rfl:0=nb:=hnb;clear hr2;go_wp2_with fail;go_ret;exact ⟨rfl,HZ.o⟩
  ·have HF:Hid (bk (lev (.leaf t) < k) (tx (.leaf t)) = (⟨#[105,110,40]⟩ ++ ss) ++ ⟨#[41]⟩):=qh (by rw [HBK.o _ HT.o,if_neg h8])
   rw [HF.o];clear HF HBK HT;go_enter Tryz.func112,Tryz.ntmps112;go_wp2_with (go_at_call 146; go_fit (HLV.o _));rintro e w1 ⟨rfl,hb1⟩;have hk1:=Qe (heap_alloc_new w (.cells #[.int .i64 11,.int .i64 nn,.string ss] 123)) hb1;have HB1:=qh (((Below.refl _ _).alloc (Nat.le_refl _) (.cells #[.int .i64 11,.int .i64 nn,.string ss] 123)).trans (hb1.mono (by simp)));obtain ⟨p0,p1,p2⟩:=Qj hk1;have HK1:=qh hk1;clear hb1 hk1 c0 c1 c2;go_wp2_with (go_at_call 147; go_fit (HB.o _ HB1.o));rintro e w2 ⟨v,rfl,hr2,hb2⟩;have HZ:=qh (Qa HB1.o hb2);have hk2:=Qe HK1.o hb2;have HK2:=qh hk2;clear p0 p1 p2 hb2;obtain ⟨y0,y1,y2⟩:=Qj hk2;clear hk2;obtain ⟨Ab,nb,cb,rfl,hnb,-,-⟩:=hr2.ints;obtain rfl:0=nb:=hnb;clear hr2;go_wp2_with fail;go_ret;exact ⟨rfl,HZ.o⟩
theorem rput_neg {x:Ex} (hg:ExprSpec.Good (.un 3 x)) (ih:RPutOk x):RPutOk (.un 3 x):=by
 intro A n c l a rest k w h hd
 have hsz:(bk (lev x < 7) (tx x)).size <= 60000:=by
  have h1:=QO hg.2;have h2:=congrArg List.length hd;have h3:=h.few;have h4:=h.len;have h5:=Jn (lev x<7) (tx x);rw [show flat (.un 3 x)=opT 3::flat x from rfl,List.length_drop,List.length_append,List.length_cons] at h2;omega
 obtain ⟨b,off,t',rfl,hb,hop,hal,hfew,⟨r,hr⟩,c0,c1,c2,hbl,hlv⟩:=Qai h hd hg;rw [show opE (.un 3 x)=3 from rfl] at hop;have hal':(a:Int)<n:=by omega
 have ha0:(0:Int)<=(a:Int):=by omega
 have hd1:l.drop (a+1)=flat x++rest:=JH (t:=opT 3) hd
 have hbl':∀ w',Below w.heap.size w w' -> Calls Tryz.prog 147 #[.slice (some ⟨b,off,none⟩) n c,.int .i64 a] w' (RetInts w' [((a + 1:Nat):Int)]):=by
  intro w' hw;have:=hbl w' hw
  rwa [show arN (opE (.un 3 x))=1 from rfl,Qa9] at this
 have HB:=qh hbl';have HI:=qh (fun W hW=>ih (some ⟨b,off,none⟩) n c l (a+1) rest 7 W (h.on hW) hd1);rw [hop] at c0 hlv;have HLV:Hid (∀ w',Calls Tryz.prog 146 #[.int .i64 3] w' (RetI w' 7)):=qh hlv;have HBK:Hid (∀ X,tx (.un 3 x)=X->bk (lev (.un 3 x)<k) (tx (.un 3 x))=if 7<k then (⟨#[40]⟩++X)++⟨#[41]⟩ else X):=qh (fun X hX=>by subst hX; rfl);have HT:Hid (tx (.un 3 x)=⟨#[45]⟩++bk (lev x<7) (tx x)):=qh rfl;obtain ⟨p,hp⟩:∃ p:Nat,p=a+1:=⟨_,rfl⟩;rw [<- hp] at HB HI;obtain ⟨sx,hsx⟩:∃ sx,sx=bk (lev x<7) (tx x):=⟨_,rfl⟩;rw [<- hsx] at HI HT hsz;obtain ⟨nn,hnn⟩:∃ nn,nn=t'.n:=⟨_,rfl⟩;obtain ⟨ss,hss⟩:∃ ss,ss=t'.s:=⟨_,rfl⟩;rw [<- hnn] at c1;rw [<- hss] at c2;clear h hd hop hr hbl hbl' hlv hg ih hd1 hp hsx hnn hss
 by_cases h8:7<k
 ·have HF:Hid (bk (lev (.un 3 x) < k) (tx (.un 3 x)) = (⟨#[40]⟩ ++ (⟨#[45]⟩ ++ sx)) ++ ⟨#[41]⟩):=qh (by rw [HBK.o _ HT.o,if_pos h8])
  rw [HF.o];clear HF HBK HT;go_enter Tryz.func112,Tryz.ntmps112;go_wp2_with (go_at_call 146; go_fit (HLV.o _));rintro e w1 ⟨rfl,hb1⟩;have hk1:=Qe (heap_alloc_new w (.cells #[.int .i64 3,.int .i64 nn,.string ss] 123)) hb1;have HB1:=qh (((Below.refl _ _).alloc (Nat.le_refl _) (.cells #[.int .i64 3,.int .i64 nn,.string ss] 123)).trans (hb1.mono (by simp)));obtain ⟨p0,p1,p2⟩:=Qj hk1;have HK1:=qh hk1;clear hb1 hk1 c0 c1 c2;go_wp2_with (go_at_call 147; go_fit (HB.o _ HB1.o));rintro e w2 ⟨v,rfl,hr2,hb2⟩;have HZ:=qh (Qa HB1.o hb2);have hk2:=Qe HK1.o hb2;have HK2:=qh hk2;clear p0 p1 p2 hb2;obtain ⟨y0,y1,y2⟩:=Qj hk2;clear hk2;obtain ⟨bR,oR,cR,rfl,hbR,r0⟩:=Qfj hr2;clear hr2;go_wp2_with (go_at_call 112; go_fit (HI.o _ HZ.o));rintro e w3 ⟨rfl,hb3⟩;have HZ2:=qh (Qa HZ.o hb3);clear hb3 y0 y1 y2 r0;go_wp2_with fail;go_ret;exact ⟨rfl,HZ2.o⟩
 ·have HF:Hid (bk (lev (.un 3 x) < k) (tx (.un 3 x)) = ⟨#[45]⟩ ++ sx):=qh (by rw [HBK.o _ HT.o,if_neg h8])
  rw [HF.o];clear HF HBK HT;go_enter Tryz.func112,Tryz.ntmps112;go_wp2_with (go_at_call 146; go_fit (HLV.o _));rintro e w1 ⟨rfl,hb1⟩;have hk1:=Qe (heap_alloc_new w (.cells #[.int .i64 3,.int .i64 nn,.string ss] 123)) hb1;have HB1:=qh (((Below.refl _ _).alloc (Nat.le_refl _) (.cells #[.int .i64 3,.int .i64 nn,.string ss] 123)).trans (hb1.mono (by simp)));obtain ⟨p0,p1,p2⟩:=Qj hk1;have HK1:=qh hk1;clear hb1 hk1 c0 c1 c2;go_wp2_with (go_at_call 147; go_fit (HB.o _ HB1.o));rintro e w2 ⟨v,rfl,hr2,hb2⟩;have HZ:=qh (Qa HB1.o hb2);have hk2:=Qe HK1.o hb2;have HK2:=qh hk2;clear p0 p1 p2 hb2;obtain ⟨y0,y1,y2⟩:=Qj hk2;clear hk2;obtain ⟨bR,oR,cR,rfl,hbR,r0⟩:=Qfj hr2;clear hr2;go_wp2_with (go_at_call 112; go_fit (HI.o _ HZ.o));rintro e w3 ⟨rfl,hb3⟩;have HZ2:=qh (Qa HZ.o hb3);clear hb3 y0 y1 y2 r0;go_wp2_with fail;go_ret;exact ⟨rfl,HZ2.o⟩
theorem rput_not {x:Ex} (hg:ExprSpec.Good (.un 12 x)) (ih:RPutOk x):RPutOk (.un 12 x):=by
 intro A n c l a rest k w h hd
 have hsz:(bk (lev x < 3) (tx x)).size <= 60000:=by
  have h1:=QO hg.2;have h2:=congrArg List.length hd;have h3:=h.few;have h4:=h.len;have h5:=Jn (lev x<3) (tx x);rw [show flat (.un 12 x)=opT 12::flat x from rfl,List.length_drop,List.length_append,List.length_cons] at h2;omega
 obtain ⟨b,off,t',rfl,hb,hop,hal,hfew,⟨r,hr⟩,c0,c1,c2,hbl,hlv⟩:=Qai h hd hg;rw [show opE (.un 12 x)=12 from rfl] at hop;have hal':(a:Int)<n:=by omega
 have ha0:(0:Int)<=(a:Int):=by omega
 have hd1:l.drop (a+1)=flat x++rest:=JH (t:=opT 12) hd
 have hbl':∀ w',Below w.heap.size w w' -> Calls Tryz.prog 147 #[.slice (some ⟨b,off,none⟩) n c,.int .i64 a] w' (RetInts w' [((a + 1:Nat):Int)]):=by
  intro w' hw;have:=hbl w' hw
  rwa [show arN (opE (.un 12 x))=1 from rfl,Qa9] at this
 have HB:=qh hbl';have HI:=qh (fun W hW=>ih (some ⟨b,off,none⟩) n c l (a+1) rest 3 W (h.on hW) hd1);rw [hop] at c0 hlv;have HLV:Hid (∀ w',Calls Tryz.prog 146 #[.int .i64 12] w' (RetI w' 3)):=qh hlv;have HBK:Hid (∀ X,tx (.un 12 x)=X->bk (lev (.un 12 x)<k) (tx (.un 12 x))=if 3<k then (⟨#[40]⟩++X)++⟨#[41]⟩ else X):=qh (fun X hX=>by subst hX; rfl);have HT:Hid (tx (.un 12 x)=⟨#[110,111,116,32]⟩++bk (lev x<3) (tx x)):=qh rfl;obtain ⟨p,hp⟩:∃ p:Nat,p=a+1:=⟨_,rfl⟩;rw [<- hp] at HB HI;obtain ⟨sx,hsx⟩:∃ sx,sx=bk (lev x<3) (tx x):=⟨_,rfl⟩;rw [<- hsx] at HI HT hsz;obtain ⟨nn,hnn⟩:∃ nn,nn=t'.n:=⟨_,rfl⟩;obtain ⟨ss,hss⟩:∃ ss,ss=t'.s:=⟨_,rfl⟩;rw [<- hnn] at c1;rw [<- hss] at c2;clear h hd hop hr hbl hbl' hlv hg ih hd1 hp hsx hnn hss
 by_cases h8:3<k
 ·have HF:Hid (bk (lev (.un 12 x) < k) (tx (.un 12 x)) = (⟨#[40]⟩ ++ (⟨#[110,111,116,32]⟩ ++ sx)) ++ ⟨#[41]⟩):=qh (by rw [HBK.o _ HT.o,if_pos h8])
  rw [HF.o];clear HF HBK HT;go_enter Tryz.func112,Tryz.ntmps112;go_wp2_with (go_at_call 146; go_fit (HLV.o _));rintro e w1 ⟨rfl,hb1⟩;have hk1:=Qe (heap_alloc_new w (.cells #[.int .i64 12,.int .i64 nn,.string ss] 123)) hb1;have HB1:=qh (((Below.refl _ _).alloc (Nat.le_refl _) (.cells #[.int .i64 12,.int .i64 nn,.string ss] 123)).trans (hb1.mono (by simp)));obtain ⟨p0,p1,p2⟩:=Qj hk1;have HK1:=qh hk1;clear hb1 hk1 c0 c1 c2;go_wp2_with (go_at_call 147; go_fit (HB.o _ HB1.o));rintro e w2 ⟨v,rfl,hr2,hb2⟩;have HZ:=qh (Qa HB1.o hb2);have hk2:=Qe HK1.o hb2;have HK2:=qh hk2;clear p0 p1 p2 hb2;obtain ⟨y0,y1,y2⟩:=Qj hk2;clear hk2;obtain ⟨bR,oR,cR,rfl,hbR,r0⟩:=Qfj hr2;clear hr2;go_wp2_with (go_at_call 112; go_fit (HI.o _ HZ.o));rintro e w3 ⟨rfl,hb3⟩;have HZ2:=qh (Qa HZ.o hb3);clear hb3 y0 y1 y2 r0;go_wp2_with fail;go_ret;exact ⟨rfl,HZ2.o⟩
 ·have HF:Hid (bk (lev (.un 12 x) < k) (tx (.un 12 x)) = ⟨#[110,111,116,32]⟩ ++ sx):=qh (by rw [HBK.o _ HT.o,if_neg h8])
  rw [HF.o];clear HF HBK HT;go_enter Tryz.func112,Tryz.ntmps112;go_wp2_with (go_at_call 146; go_fit (HLV.o _));rintro e w1 ⟨rfl,hb1⟩;have hk1:=Qe (heap_alloc_new w (.cells #[.int .i64 12,.int .i64 nn,.string ss] 123)) hb1;have HB1:=qh (((Below.refl _ _).alloc (Nat.le_refl _) (.cells #[.int .i64 12,.int .i64 nn,.string ss] 123)).trans (hb1.mono (by simp)));obtain ⟨p0,p1,p2⟩:=Qj hk1;have HK1:=qh hk1;clear hb1 hk1 c0 c1 c2;go_wp2_with (go_at_call 147; go_fit (HB.o _ HB1.o));rintro e w2 ⟨v,rfl,hr2,hb2⟩;have HZ:=qh (Qa HB1.o hb2);have hk2:=Qe HK1.o hb2;have HK2:=qh hk2;clear p0 p1 p2 hb2;obtain ⟨y0,y1,y2⟩:=Qj hk2;clear hk2;obtain ⟨bR,oR,cR,rfl,hbR,r0⟩:=Qfj hr2;clear hr2;go_wp2_with (go_at_call 112; go_fit (HI.o _ HZ.o));rintro e w3 ⟨rfl,hb3⟩;have HZ2:=qh (Qa HZ.o hb3);clear hb3 y0 y1 y2 r0;go_wp2_with fail;go_ret;exact ⟨rfl,HZ2.o⟩
theorem rput_min {x y:Ex} (hg:ExprSpec.Good (.bin 7 x y)) (ihx:RPutOk x) (ihy:RPutOk y):RPutOk (.bin 7 x y):=by
 intro A n c l a rest k w h hd
 have hsz:(tx x).size <= 60000 /\ (tx y).size <= 60000:=by
  have h1:=QO hg.2.1;have h1':=QO hg.2.2;have h2:=congrArg List.length hd;have h3:=h.few;have h4:=h.len;rw [show flat (.bin 7 x y)=opT 7::(flat x++flat y) from rfl,List.length_drop,List.length_append,List.length_cons,List.length_append] at h2;omega
 obtain ⟨hsz1,hsz2⟩:=hsz;obtain ⟨b,off,t',rfl,hb,hop,hal,hfew,⟨r,hr⟩,c0,c1,c2,hbl,hlv⟩:=Qai h hd hg;rw [show opE (.bin 7 x y)=7 from rfl] at hop;have hal':(a:Int)<n:=by omega
 have ha0:(0:Int)<=(a:Int):=by omega
 have hd1:l.drop (a + 1) = flat x ++ (flat y ++ rest):=by
  rw [<- List.append_assoc]; exact JH (t:=opT 7) hd
 have hd2:l.drop (a + 1 + (flat x).length) = flat y ++ rest:=by
  rw [<- List.drop_drop,hd1,List.drop_left]
 have hbl':∀ w',Below w.heap.size w w' -> Calls Tryz.prog 147 #[.slice (some ⟨b,off,none⟩) n c,.int .i64 a] w' (RetInts w' [((a + 1:Nat):Int),((a + 1 + (flat x).length:Nat):Int)]):=by
  intro w' hw;have:=hbl w' hw
  rwa [show arN (opE (.bin 7 x y))=2 from rfl,Qaa (by rw [hd1]; exact JF _ (JY hg.2.1).1)] at this
 have HB:=qh hbl';have HI:=qh (fun W hW=>ihx (some ⟨b,off,none⟩) n c l (a+1) (flat y++rest) 1 W (h.on hW) hd1);have HJ:=qh (fun W hW=>ihy (some ⟨b,off,none⟩) n c l (a+1+(flat x).length) rest 1 W (h.on hW) hd2);rw [show bk (lev x<1) (tx x)=tx x from if_neg (by have:=(Qbv hg.2.1).1; omega)] at HI;rw [show bk (lev y<1) (tx y)=tx y from if_neg (by have:=(Qbv hg.2.2).1; omega)] at HJ;rw [hop] at c0 hlv;have HLV:Hid (∀ w',Calls Tryz.prog 146 #[.int .i64 7] w' (RetI w' 8)):=qh hlv;have HBK:Hid (∀ X,tx (.bin 7 x y)=X->bk (lev (.bin 7 x y)<k) (tx (.bin 7 x y))=if 8<k then (⟨#[40]⟩++X)++⟨#[41]⟩ else X):=qh (fun X hX=>by subst hX; rfl);have HT:Hid (tx (.bin 7 x y)=(((⟨#[109,105,110,40]⟩++tx x)++⟨#[44,32]⟩)++tx y)++⟨#[41]⟩):=qh rfl;obtain ⟨p,hp⟩:∃ p:Nat,p=a+1:=⟨_,rfl⟩;obtain ⟨q,hq⟩:∃ q:Nat,q=a+1+(flat x).length:=⟨_,rfl⟩;rw [<- hq] at HB HJ;rw [<- hp] at HB HI;obtain ⟨sx,hsx⟩:∃ sx,sx=tx x:=⟨_,rfl⟩;obtain ⟨sy,hsy⟩:∃ sy,sy=tx y:=⟨_,rfl⟩;rw [<- hsx] at HI HT hsz1;rw [<- hsy] at HJ HT hsz2;obtain ⟨nn,hnn⟩:∃ nn,nn=t'.n:=⟨_,rfl⟩;obtain ⟨ss,hss⟩:∃ ss,ss=t'.s:=⟨_,rfl⟩;rw [<- hnn] at c1;rw [<- hss] at c2;clear h hd hop hr hbl hbl' hlv hg ihx ihy hd1 hd2 hp hq hsx hsy hnn hss
 by_cases h8:8<k
 ·have HF:Hid (bk (lev (.bin 7 x y) < k) (tx (.bin 7 x y)) = (⟨#[40]⟩ ++ ((((⟨#[109,105,110,40]⟩ ++ sx) ++ ⟨#[44,32]⟩) ++ sy) ++ ⟨#[41]⟩)) ++ ⟨#[41]⟩):=qh (by rw [HBK.o _ HT.o,if_pos h8])
  rw [HF.o];clear HF HBK HT;go_enter Tryz.func112,Tryz.ntmps112;go_wp2_with (go_at_call 146; go_fit (HLV.o _));rintro e w1 ⟨rfl,hb1⟩;have hk1:=Qe (heap_alloc_new w (.cells #[.int .i64 7,.int .i64 nn,.string ss] 123)) hb1;have HB1:=qh (((Below.refl _ _).alloc (Nat.le_refl _) (.cells #[.int .i64 7,.int .i64 nn,.string ss] 123)).trans (hb1.mono (by simp)));obtain ⟨p0,p1,p2⟩:=Qj hk1;have HK1:=qh hk1;clear hb1 hk1 c0 c1 c2;go_wp2_with (go_at_call 147; go_fit (HB.o _ HB1.o));rintro e w2 ⟨v,rfl,hr2,hb2⟩;have HZ:=qh (Qa HB1.o hb2);have hk2:=Qe HK1.o hb2;have HK2:=qh hk2;clear p0 p1 p2 hb2;obtain ⟨y0,y1,y2⟩:=Qj hk2;clear hk2;obtain ⟨bR,oR,cR,rfl,hbR,r0,r1⟩:=QaV hr2;clear hr2;go_wp2_with fail;have z0:¬ 9223372036854775807<4+sx.size:=by omega
  have z1:¬ 9223372036854775807<4+sx.size+2:=by omega
  have z2:¬ 9223372036854775807<4+sx.size+2+sy.size:=by omega
  have z3:¬ 9223372036854775807<4+sx.size+2+sy.size+1:=by omega
  go_region_held3 (fun w' => w'.cell? ⟨bR,oR,none⟩ = some (.int .i64 p) /\ w'.cell? ⟨bR,oR + 1,none⟩ = some (.int .i64 q)) (go_keep)
   ((first
     | (go_at_call 112; go_fit (HI.o _ HZ.o.drew); rintro e w3 ⟨rfl,hb3'⟩; have hb3:=undrew hb3'; have HZ3:=qh (Qa HZ.o hb3); have e0:=(hb3.cell (p:=⟨bR,oR,none⟩) hbR).trans r0; have e1:=(hb3.cell (p:=⟨bR,oR + 1,none⟩) hbR).trans r1; have hbR3:=Nat.lt_of_lt_of_le hbR hb3.size; clear hb3 hb3')
     | (go_at_call 112; go_fit (HJ.o _ HZ3.o); rintro e w4 ⟨rfl,hb4⟩; have HZ4:=qh (Qa HZ3.o hb4); have u0:=(hb4.cell (p:=⟨bR,oR,none⟩) hbR3).trans e0; have u1:=(hb4.cell (p:=⟨bR,oR + 1,none⟩) hbR3).trans e1; clear hb4)))
  all_goals
   go_wp2_with fail;go_ret;exact ⟨rfl,HZ4.o⟩
 ·have HF:Hid (bk (lev (.bin 7 x y) < k) (tx (.bin 7 x y)) = (((⟨#[109,105,110,40]⟩ ++ sx) ++ ⟨#[44,32]⟩) ++ sy) ++ ⟨#[41]⟩):=qh (by rw [HBK.o _ HT.o,if_neg h8])
  rw [HF.o];clear HF HBK HT;go_enter Tryz.func112,Tryz.ntmps112;go_wp2_with (go_at_call 146; go_fit (HLV.o _));rintro e w1 ⟨rfl,hb1⟩;have hk1:=Qe (heap_alloc_new w (.cells #[.int .i64 7,.int .i64 nn,.string ss] 123)) hb1;have HB1:=qh (((Below.refl _ _).alloc (Nat.le_refl _) (.cells #[.int .i64 7,.int .i64 nn,.string ss] 123)).trans (hb1.mono (by simp)));obtain ⟨p0,p1,p2⟩:=Qj hk1;have HK1:=qh hk1;clear hb1 hk1 c0 c1 c2;go_wp2_with (go_at_call 147; go_fit (HB.o _ HB1.o));rintro e w2 ⟨v,rfl,hr2,hb2⟩;have HZ:=qh (Qa HB1.o hb2);have hk2:=Qe HK1.o hb2;have HK2:=qh hk2;clear p0 p1 p2 hb2;obtain ⟨y0,y1,y2⟩:=Qj hk2;clear hk2;obtain ⟨bR,oR,cR,rfl,hbR,r0,r1⟩:=QaV hr2;clear hr2;go_wp2_with fail;have z0:¬ 9223372036854775807<4+sx.size:=by omega
  have z1:¬ 9223372036854775807<4+sx.size+2:=by omega
  have z2:¬ 9223372036854775807<4+sx.size+2+sy.size:=by omega
  have z3:¬ 9223372036854775807<4+sx.size+2+sy.size+1:=by omega
  go_region_held3 (fun w' => w'.cell? ⟨bR,oR,none⟩ = some (.int .i64 p) /\ w'.cell? ⟨bR,oR + 1,none⟩ = some (.int .i64 q)) (go_keep)
   ((first
     | (go_at_call 112; go_fit (HI.o _ HZ.o.drew); rintro e w3 ⟨rfl,hb3'⟩; have hb3:=undrew hb3'; have HZ3:=qh (Qa HZ.o hb3); have e0:=(hb3.cell (p:=⟨bR,oR,none⟩) hbR).trans r0; have e1:=(hb3.cell (p:=⟨bR,oR + 1,none⟩) hbR).trans r1; have hbR3:=Nat.lt_of_lt_of_le hbR hb3.size; clear hb3 hb3')
     | (go_at_call 112; go_fit (HJ.o _ HZ3.o); rintro e w4 ⟨rfl,hb4⟩; have HZ4:=qh (Qa HZ3.o hb4); have u0:=(hb4.cell (p:=⟨bR,oR,none⟩) hbR3).trans e0; have u1:=(hb4.cell (p:=⟨bR,oR + 1,none⟩) hbR3).trans e1; clear hb4)))
  all_goals
   go_wp2_with fail;go_ret;exact ⟨rfl,HZ4.o⟩
theorem rput_max {x y:Ex} (hg:ExprSpec.Good (.bin 8 x y)) (ihx:RPutOk x) (ihy:RPutOk y):RPutOk (.bin 8 x y):=by
 intro A n c l a rest k w h hd
 have hsz:(tx x).size <= 60000 /\ (tx y).size <= 60000:=by
  have h1:=QO hg.2.1;have h1':=QO hg.2.2;have h2:=congrArg List.length hd;have h3:=h.few;have h4:=h.len;rw [show flat (.bin 8 x y)=opT 8::(flat x++flat y) from rfl,List.length_drop,List.length_append,List.length_cons,List.length_append] at h2;omega
 obtain ⟨hsz1,hsz2⟩:=hsz;obtain ⟨b,off,t',rfl,hb,hop,hal,hfew,⟨r,hr⟩,c0,c1,c2,hbl,hlv⟩:=Qai h hd hg;rw [show opE (.bin 8 x y)=8 from rfl] at hop;have hal':(a:Int)<n:=by omega
 have ha0:(0:Int)<=(a:Int):=by omega
 have hd1:l.drop (a + 1) = flat x ++ (flat y ++ rest):=by
  rw [<- List.append_assoc]; exact JH (t:=opT 8) hd
 have hd2:l.drop (a + 1 + (flat x).length) = flat y ++ rest:=by
  rw [<- List.drop_drop,hd1,List.drop_left]
 have hbl':∀ w',Below w.heap.size w w' -> Calls Tryz.prog 147 #[.slice (some ⟨b,off,none⟩) n c,.int .i64 a] w' (RetInts w' [((a + 1:Nat):Int),((a + 1 + (flat x).length:Nat):Int)]):=by
  intro w' hw;have:=hbl w' hw
  rwa [show arN (opE (.bin 8 x y))=2 from rfl,Qaa (by rw [hd1]; exact JF _ (JY hg.2.1).1)] at this
 have HB:=qh hbl';have HI:=qh (fun W hW=>ihx (some ⟨b,off,none⟩) n c l (a+1) (flat y++rest) 1 W (h.on hW) hd1);have HJ:=qh (fun W hW=>ihy (some ⟨b,off,none⟩) n c l (a+1+(flat x).length) rest 1 W (h.on hW) hd2);rw [show bk (lev x<1) (tx x)=tx x from if_neg (by have:=(Qbv hg.2.1).1; omega)] at HI;rw [show bk (lev y<1) (tx y)=tx y from if_neg (by have:=(Qbv hg.2.2).1; omega)] at HJ;rw [hop] at c0 hlv;have HLV:Hid (∀ w',Calls Tryz.prog 146 #[.int .i64 8] w' (RetI w' 8)):=qh hlv;have HBK:Hid (∀ X,tx (.bin 8 x y)=X->bk (lev (.bin 8 x y)<k) (tx (.bin 8 x y))=if 8<k then (⟨#[40]⟩++X)++⟨#[41]⟩ else X):=qh (fun X hX=>by subst hX; rfl);have HT:Hid (tx (.bin 8 x y)=(((⟨#[109,97,120,40]⟩++tx x)++⟨#[44,32]⟩)++tx y)++⟨#[41]⟩):=qh rfl;obtain ⟨p,hp⟩:∃ p:Nat,p=a+1:=⟨_,rfl⟩;obtain ⟨q,hq⟩:∃ q:Nat,q=a+1+(flat x).length:=⟨_,rfl⟩;rw [<- hq] at HB HJ;rw [<- hp] at HB HI;obtain ⟨sx,hsx⟩:∃ sx,sx=tx x:=⟨_,rfl⟩;obtain ⟨sy,hsy⟩:∃ sy,sy=tx y:=⟨_,rfl⟩;rw [<- hsx] at HI HT hsz1;rw [<- hsy] at HJ HT hsz2;obtain ⟨nn,hnn⟩:∃ nn,nn=t'.n:=⟨_,rfl⟩;obtain ⟨ss,hss⟩:∃ ss,ss=t'.s:=⟨_,rfl⟩;rw [<- hnn] at c1;rw [<- hss] at c2;clear h hd hop hr hbl hbl' hlv hg ihx ihy hd1 hd2 hp hq hsx hsy hnn hss
 by_cases h8:8<k
 ·have HF:Hid (bk (lev (.bin 8 x y) < k) (tx (.bin 8 x y)) = (⟨#[40]⟩ ++ ((((⟨#[109,97,120,40]⟩ ++ sx) ++ ⟨#[44,32]⟩) ++ sy) ++ ⟨#[41]⟩)) ++ ⟨#[41]⟩):=qh (by rw [HBK.o _ HT.o,if_pos h8])
  rw [HF.o];clear HF HBK HT;go_enter Tryz.func112,Tryz.ntmps112;go_wp2_with (go_at_call 146; go_fit (HLV.o _));rintro e w1 ⟨rfl,hb1⟩;have hk1:=Qe (heap_alloc_new w (.cells #[.int .i64 8,.int .i64 nn,.string ss] 123)) hb1;have HB1:=qh (((Below.refl _ _).alloc (Nat.le_refl _) (.cells #[.int .i64 8,.int .i64 nn,.string ss] 123)).trans (hb1.mono (by simp)));obtain ⟨p0,p1,p2⟩:=Qj hk1;have HK1:=qh hk1;clear hb1 hk1 c0 c1 c2;go_wp2_with (go_at_call 147; go_fit (HB.o _ HB1.o));rintro e w2 ⟨v,rfl,hr2,hb2⟩;have HZ:=qh (Qa HB1.o hb2);have hk2:=Qe HK1.o hb2;have HK2:=qh hk2;clear p0 p1 p2 hb2;obtain ⟨y0,y1,y2⟩:=Qj hk2;clear hk2;obtain ⟨bR,oR,cR,rfl,hbR,r0,r1⟩:=QaV hr2;clear hr2;go_wp2_with fail;have z0:¬ 9223372036854775807<4+sx.size:=by omega
  have z1:¬ 9223372036854775807<4+sx.size+2:=by omega
  have z2:¬ 9223372036854775807<4+sx.size+2+sy.size:=by omega
  have z3:¬ 9223372036854775807<4+sx.size+2+sy.size+1:=by omega
  go_region_held3 (fun w' => w'.cell? ⟨bR,oR,none⟩ = some (.int .i64 p) /\ w'.cell? ⟨bR,oR + 1,none⟩ = some (.int .i64 q)) (go_keep)
   ((first
     | (go_at_call 112; go_fit (HI.o _ HZ.o.drew); rintro e w3 ⟨rfl,hb3'⟩; have hb3:=undrew hb3'; have HZ3:=qh (Qa HZ.o hb3); have e0:=(hb3.cell (p:=⟨bR,oR,none⟩) hbR).trans r0; have e1:=(hb3.cell (p:=⟨bR,oR + 1,none⟩) hbR).trans r1; have hbR3:=Nat.lt_of_lt_of_le hbR hb3.size; clear hb3 hb3')
     | (go_at_call 112; go_fit (HJ.o _ HZ3.o); rintro e w4 ⟨rfl,hb4⟩; have HZ4:=qh (Qa HZ3.o hb4); have u0:=(hb4.cell (p:=⟨bR,oR,none⟩) hbR3).trans e0; have u1:=(hb4.cell (p:=⟨bR,oR + 1,none⟩) hbR3).trans e1; clear hb4)))
  all_goals
   go_wp2_with fail;go_ret;exact ⟨rfl,HZ4.o⟩
 ·have HF:Hid (bk (lev (.bin 8 x y) < k) (tx (.bin 8 x y)) = (((⟨#[109,97,120,40]⟩ ++ sx) ++ ⟨#[44,32]⟩) ++ sy) ++ ⟨#[41]⟩):=qh (by rw [HBK.o _ HT.o,if_neg h8])
  rw [HF.o];clear HF HBK HT;go_enter Tryz.func112,Tryz.ntmps112;go_wp2_with (go_at_call 146; go_fit (HLV.o _));rintro e w1 ⟨rfl,hb1⟩;have hk1:=Qe (heap_alloc_new w (.cells #[.int .i64 8,.int .i64 nn,.string ss] 123)) hb1;have HB1:=qh (((Below.refl _ _).alloc (Nat.le_refl _) (.cells #[.int .i64 8,.int .i64 nn,.string ss] 123)).trans (hb1.mono (by simp)));obtain ⟨p0,p1,p2⟩:=Qj hk1;have HK1:=qh hk1;clear hb1 hk1 c0 c1 c2;go_wp2_with (go_at_call 147; go_fit (HB.o _ HB1.o));rintro e w2 ⟨v,rfl,hr2,hb2⟩;have HZ:=qh (Qa HB1.o hb2);have hk2:=Qe HK1.o hb2;have HK2:=qh hk2;clear p0 p1 p2 hb2;obtain ⟨y0,y1,y2⟩:=Qj hk2;clear hk2;obtain ⟨bR,oR,cR,rfl,hbR,r0,r1⟩:=QaV hr2;clear hr2;go_wp2_with fail;have z0:¬ 9223372036854775807<4+sx.size:=by omega
  have z1:¬ 9223372036854775807<4+sx.size+2:=by omega
  have z2:¬ 9223372036854775807<4+sx.size+2+sy.size:=by omega
  have z3:¬ 9223372036854775807<4+sx.size+2+sy.size+1:=by omega
  go_region_held3 (fun w' => w'.cell? ⟨bR,oR,none⟩ = some (.int .i64 p) /\ w'.cell? ⟨bR,oR + 1,none⟩ = some (.int .i64 q)) (go_keep)
   ((first
     | (go_at_call 112; go_fit (HI.o _ HZ.o.drew); rintro e w3 ⟨rfl,hb3'⟩; have hb3:=undrew hb3'; have HZ3:=qh (Qa HZ.o hb3); have e0:=(hb3.cell (p:=⟨bR,oR,none⟩) hbR).trans r0; have e1:=(hb3.cell (p:=⟨bR,oR + 1,none⟩) hbR).trans r1; have hbR3:=Nat.lt_of_lt_of_le hbR hb3.size; clear hb3 hb3')
     | (go_at_call 112; go_fit (HJ.o _ HZ3.o); rintro e w4 ⟨rfl,hb4⟩; have HZ4:=qh (Qa HZ3.o hb4); have u0:=(hb4.cell (p:=⟨bR,oR,none⟩) hbR3).trans e0; have u1:=(hb4.cell (p:=⟨bR,oR + 1,none⟩) hbR3).trans e1; clear hb4)))
  all_goals
   go_wp2_with fail;go_ret;exact ⟨rfl,HZ4.o⟩
end
end Go.Proofs.YtbdalbpackfejaaGreatDoor
