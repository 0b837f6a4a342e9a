/- PrintMayS, PrintMayC, PrintWr, PrintLine, PrintLines, joined. -/
import Derived.Test.YtbdalbpackfejaaGreatDoorMFormatOf16
set_option maxHeartbeats 16000000
set_option maxRecDepth 100000
namespace Go.Proofs.YtbdalbpackfejaaGreatDoor
section
open Go.RowKit Go.Sort CurSpec TermSpec EvalSpec ActSpec NamesSpec ExprSpec TransSpec SynSpec PrintSpec
set_option maxRecDepth 100000
def FitS (s:Sx):Prop:=s.s.size<=9223372036854775807/\(∀ a∈s.en,SmallA a)/\s.en.length<=100000/\(∀ a∈s.ex,SmallA a)/\s.ex.length<=100000/\s.tr.length<=100000/\∀ t∈s.tr,SmallT t
theorem Qgh (s:Sx) (a3:Option Addr) (n3 m3:Nat) (a4:Option Addr) (n4 m4:Nat) (a5:Option Addr) (n5 m5:Nat) (w:World) (k3:Acs w (.slice a3 n3 m3) s.en) (k4:Acs w (.slice a4 n4 m4) s.ex) (k5:Trs w (.slice a5 n5 m5) s.tr) (hf:FitS s) :
 Calls Tryz.prog 95 #[.agg #[.string s.s,.int .i64 s.kind,.int .i64 s.par,.slice a3 n3 m3,.slice a4 n4 m4,.slice a5 n5 m5]] w (RetB w (okS s)):=by
 obtain ⟨nm,kind,par,en,ex,tr⟩:=s;obtain ⟨f0,f1,f2,f3,f4,f5,f6⟩:=hf;have l5:=k5.len.1;simp only at f0 f1 f2 f3 f4 f5 f6 k3 k4 k5 l5;have hOS:okS ⟨nm,kind,par,en,ex,tr⟩=(isName nm.data.toList&&(decide (chkA en=0)&&(decide (chkA ex=0)&&(decide (tr.length<=16)&&tr.all fun t=>decide (chkT t=0))))):=rfl;obtain ⟨W1,hW1⟩:∃ W1,w.alloc (.cells #[.string nm,.int .i64 kind,.int .i64 par,.slice a3 n3 m3,.slice a4 n4 m4,.slice a5 n5 m5] 51)=W1:=⟨_,rfl⟩;have hb1:Below w.heap.size w W1:=by rw [<- hW1]; exact KitC.Qh _ _
 have hkb:W1.heap[w.heap.size]?=some (.cells #[.string nm,.int .i64 kind,.int .i64 par,.slice a3 n3 m3,.slice a4 n4 m4,.slice a5 n5 m5] 51 (0,0)):=by rw [<- hW1]; exact heap_alloc_new _ _
 have HK:=qh (fun W (hW:Below W1.heap.size W1 W)=>Qc (KitC.Qe hkb hW));obtain ⟨c0,c1,c2,c3,c4,c5⟩:=Qc hkb;obtain ⟨b0,e0⟩:∃ b0,b0=isName nm.data.toList:=⟨_,rfl⟩;obtain ⟨q3,e3⟩:∃ q3,q3=chkA en:=⟨_,rfl⟩;obtain ⟨q4,e4⟩:∃ q4,q4=chkA ex:=⟨_,rfl⟩;obtain ⟨b5,e5⟩:∃ b5,b5=tr.all fun t=>decide (chkT t=0):=⟨_,rfl⟩
 have H0:Hid (∀ W,Below W1.heap.size W1 W->Calls Tryz.prog 79 #[.string nm] W (RetB W b0)):=qh fun W _=>ZU f0 e0.symm W
 have H1:Hid (∀ W,Below W1.heap.size W1 W->Calls Tryz.prog 129 #[.slice a3 n3 m3] W (RetI W q3)):=qh fun W hW=>by rw [e3]; exact QaF a3 n3 m3 en f1 (by omega) W (k3.keep (Qa hb1 hW))
 have H2:Hid (∀ W,Below W1.heap.size W1 W->Calls Tryz.prog 129 #[.slice a4 n4 m4] W (RetI W q4)):=qh fun W hW=>by rw [e4]; exact QaF a4 n4 m4 ex f3 (by omega) W (k4.keep (Qa hb1 hW))
 have H4:Hid (∀ W,Below W1.heap.size W1 W->Calls Tryz.prog 130 #[.slice a5 n5 m5,.func (.func 131) #[] #[]] W (RetB W b5)):=qh fun W hW=>by rw [e5]; exact QgK a5 n5 m5 tr W (k5.keep (Qa hb1 hW)) f6 (by omega)
 rw [<- e0,<- e3,<- e4,<- e5,<- l5] at hOS;rw [hOS];obtain ⟨r,hr⟩:∃ r,r=(b0&&(decide (q3=0)&&(decide (q4=0)&&(decide (n5<=16)&&b5)))):=⟨_,rfl⟩;rw [<- hr];have HW1:=qh hW1;have HB1:=qh hb1;clear hOS e0 e3 e4 e5 l5 k3 k4 k5 hW1 hb1 hkb f0 f1 f2 f3 f4 f5 f6
 rcases h0:b0 with _ | _
 ·have HR:Hid (r = false):=qh (by rw [hr]; simp [h0])
  clear hr;rw [h0] at H0;clear h0;go_enter Tryz.func95,Tryz.ntmps95;go_wp2_with (rw [HW1.o]; go_at_call 79; go_fit (H0.o _ (Below.refl _ _)));rintro e2 w2 ⟨rfl,hb2⟩;have HB2:=qh hb2;clear c0 c1 c2 c3 c4 c5;obtain ⟨c0,c1,c2,c3,c4,c5⟩:=HK.o _ HB2.o;clear hb2;go_wp2_with fail;go_ret;exact ⟨Qg HR.o.symm,Qa HB1.o HB2.o⟩
 ·by_cases h1:q3 = 0
  ·by_cases h2:q4 = 0
   ·by_cases h3:n5 <= 16
    ·have HR:Hid (r = b5):=qh (by rw [hr]; simp [h0,h1,h2,h3])
     have g1:(q3==0)=true:=by simpa using h1
     have g2:(q4==0)=true:=by simpa using h2
     have g3:decide ((n5:Int)<=16)=true:=by simp; omega
     clear hr h1 h2;rw [h0] at H0;clear h0;go_enter Tryz.func95,Tryz.ntmps95;go_wp2_with (rw [HW1.o]; go_at_call 79; go_fit (H0.o _ (Below.refl _ _)));rintro e2 w2 ⟨rfl,hb2⟩;have HB2:=qh hb2;clear c0 c1 c2 c3 c4 c5;obtain ⟨c0,c1,c2,c3,c4,c5⟩:=HK.o _ HB2.o;clear hb2;go_wp2_with (go_at_call 129; go_fit (H1.o _ HB2.o));rintro e3 w3 ⟨rfl,hb3⟩;have HB3:=qh (Qa HB2.o hb3);clear c0 c1 c2 c3 c4 c5;obtain ⟨c0,c1,c2,c3,c4,c5⟩:=HK.o _ HB3.o;clear hb3;go_wp2_with (go_at_call 129; go_fit (H2.o _ HB3.o));rintro e4 w4 ⟨rfl,hb4⟩;have HB4:=qh (Qa HB3.o hb4);clear c0 c1 c2 c3 c4 c5;obtain ⟨c0,c1,c2,c3,c4,c5⟩:=HK.o _ HB4.o;clear hb4;go_wp2_with (go_at_call 130; go_fit (H4.o _ HB4.o));rintro e5 w5 ⟨rfl,hb5⟩;have HB5:=qh (Qa HB4.o hb5);clear c0 c1 c2 c3 c4 c5;obtain ⟨c0,c1,c2,c3,c4,c5⟩:=HK.o _ HB5.o;clear hb5;go_wp2_with fail;go_ret;exact ⟨Qg HR.o.symm,Qa HB1.o HB5.o⟩
    ·have HR:Hid (r = false):=qh (by rw [hr]; simp [h0,h1,h2,h3])
     have g1:(q3==0)=true:=by simpa using h1
     have g2:(q4==0)=true:=by simpa using h2
     have g3:decide ((n5:Int)<=16)=false:=by simp; omega
     clear hr h1 h2;rw [h0] at H0;clear h0;go_enter Tryz.func95,Tryz.ntmps95;go_wp2_with (rw [HW1.o]; go_at_call 79; go_fit (H0.o _ (Below.refl _ _)));rintro e2 w2 ⟨rfl,hb2⟩;have HB2:=qh hb2;clear c0 c1 c2 c3 c4 c5;obtain ⟨c0,c1,c2,c3,c4,c5⟩:=HK.o _ HB2.o;clear hb2;go_wp2_with (go_at_call 129; go_fit (H1.o _ HB2.o));rintro e3 w3 ⟨rfl,hb3⟩;have HB3:=qh (Qa HB2.o hb3);clear c0 c1 c2 c3 c4 c5;obtain ⟨c0,c1,c2,c3,c4,c5⟩:=HK.o _ HB3.o;clear hb3;go_wp2_with (go_at_call 129; go_fit (H2.o _ HB3.o));rintro e4 w4 ⟨rfl,hb4⟩;have HB4:=qh (Qa HB3.o hb4);clear c0 c1 c2 c3 c4 c5;obtain ⟨c0,c1,c2,c3,c4,c5⟩:=HK.o _ HB4.o;clear hb4;go_wp2_with fail;go_ret;exact ⟨Qg HR.o.symm,Qa HB1.o HB4.o⟩
   ·have HR:Hid (r = false):=qh (by rw [hr]; simp [h0,h1,h2])
    have g1:(q3==0)=true:=by simpa using h1
    have g2:(q4==0)=false:=by simpa using h2
    clear hr h1 h2;rw [h0] at H0;clear h0;go_enter Tryz.func95,Tryz.ntmps95;go_wp2_with (rw [HW1.o]; go_at_call 79; go_fit (H0.o _ (Below.refl _ _)));rintro e2 w2 ⟨rfl,hb2⟩;have HB2:=qh hb2;clear c0 c1 c2 c3 c4 c5;obtain ⟨c0,c1,c2,c3,c4,c5⟩:=HK.o _ HB2.o;clear hb2;go_wp2_with (go_at_call 129; go_fit (H1.o _ HB2.o));rintro e3 w3 ⟨rfl,hb3⟩;have HB3:=qh (Qa HB2.o hb3);clear c0 c1 c2 c3 c4 c5;obtain ⟨c0,c1,c2,c3,c4,c5⟩:=HK.o _ HB3.o;clear hb3;go_wp2_with (go_at_call 129; go_fit (H2.o _ HB3.o));rintro e4 w4 ⟨rfl,hb4⟩;have HB4:=qh (Qa HB3.o hb4);clear c0 c1 c2 c3 c4 c5;obtain ⟨c0,c1,c2,c3,c4,c5⟩:=HK.o _ HB4.o;clear hb4;go_wp2_with fail;go_ret;exact ⟨Qg HR.o.symm,Qa HB1.o HB4.o⟩
  ·have HR:Hid (r = false):=qh (by rw [hr]; simp [h0,h1])
   have g1:(q3==0)=false:=by simpa using h1
   clear hr h1;rw [h0] at H0;clear h0;go_enter Tryz.func95,Tryz.ntmps95;go_wp2_with (rw [HW1.o]; go_at_call 79; go_fit (H0.o _ (Below.refl _ _)));rintro e2 w2 ⟨rfl,hb2⟩;have HB2:=qh hb2;clear c0 c1 c2 c3 c4 c5;obtain ⟨c0,c1,c2,c3,c4,c5⟩:=HK.o _ HB2.o;clear hb2;go_wp2_with (go_at_call 129; go_fit (H1.o _ HB2.o));rintro e3 w3 ⟨rfl,hb3⟩;have HB3:=qh (Qa HB2.o hb3);clear c0 c1 c2 c3 c4 c5;obtain ⟨c0,c1,c2,c3,c4,c5⟩:=HK.o _ HB3.o;clear hb3;go_wp2_with fail;go_ret;exact ⟨Qg HR.o.symm,Qa HB1.o HB3.o⟩
def AllStateRel (W:World) (l:List Sx) (n:Nat) (i:Value) (wr:World):Prop:=∃ k:Nat,k<=n/\i = .int .i64 k/\(l.take k).all (okS)=true/\Below W.heap.size W wr
theorem Qf4 (A:Option Addr) (n c:Nat) (l:List Sx) (w:World) (h:StsP w (.slice A n c) l) (hf:∀ x ∈ l,FitS x) (hm:n <= 9223372036854775807) :
 Calls Tryz.prog 94 #[.slice A n c,.func (.func 95) #[] #[]] w (RetB w (l.all (okS))):=by
 have HT:=qh h;have hn:=h.len.1;have hnc:=h.len.2;have HN:=qh hn;have HF:=qh hf;obtain ⟨r,hr⟩:∃ r,r=l.all (okS):=⟨_,rfl⟩;rw [<- hr];have HR:=qh hr;clear h hn hf hr;go_enter Tryz.func94,Tryz.ntmps94;go_wp2_with fail
 go_loopw [6,9] (fun _ i wr=>AllStateRel w l n i wr) (fun _ i _=>n-(intOf i).toNat)
 case atStart=>exact ⟨0,Nat.zero_le _,rfl,rfl,Below.refl _ _⟩
 case round =>
  obtain ⟨k,hk,rfl,hall,hbw⟩:=hrel;have HA:=qh hall;have HB:=qh hbw;clear hall hbw
  by_cases hlt:k<n
  ·obtain ⟨x,hx⟩:∃ x,l[k]? = some x:=Qp (by rw [<- HN.o]; exact hlt)
   obtain ⟨b,off,a3,n3,m3,a4,n4,m4,a5,n5,m5,rfl,hb,d0,d1,d2,d3,d4,d5,k3,k4,k5⟩:=(HT.o.keep HB.o).at_ hx;have HBAD:=qh (fun h1=>(show r=false by rw [HR.o]; exact Qdy (f:=okS) hx h1));have HAT:=qh (fun h1=>Qah (f:=okS) hx HA.o h1);have HX:=qh (HF.o x (List.mem_of_getElem? hx));have HC:=qh (fun W (hW:Below wr.heap.size wr W)=>Qgh x a3 n3 m3 a4 n4 m4 a5 n5 m5 W (k3.keep hW) (k4.keep hW) (k5.keep hW) HX.o);obtain ⟨q,hq⟩:∃ q,q=(okS x):=⟨_,rfl⟩;have HC2:Hid (∀ W,Below wr.heap.size wr W->Calls Tryz.prog 95 #[.agg #[.string x.s,.int .i64 x.kind,.int .i64 x.par,.slice a3 n3 m3,.slice a4 n4 m4,.slice a5 n5 m5]] W (RetB W q)):=qh (by rw [hq]; exact HC.o);rw [<- hq] at HBAD HAT;obtain ⟨nm,kind,par,en,ex,tr⟩:=x;simp only at d0 d1 d2 d3 d4 d5 HC2;clear k3 k4 k5;clear hx hq HC
   rcases q with _ | _
   ·have HE:=qh (HBAD.o rfl)
    go_wp2_with (go_at_call 95; go_fit (HC2.o _ (KitC.Qh _ _)));rintro e w4 ⟨rfl,hb4⟩;have HB4:=qh (Qa HB.o (Qa (KitC.Qh _ _) hb4));clear hb4;go_wp2_with fail;go_ret;exact ⟨Qg HE.o.symm,HB4.o⟩
   ·have HE:=qh (HAT.o rfl)
    go_wp2_with (go_at_call 95; go_fit (HC2.o _ (KitC.Qh _ _)));rintro e w4 ⟨rfl,hb4⟩;have HB4:=qh (Qa HB.o (Qa (KitC.Qh _ _) hb4));clear hb4;go_wp2_with fail
    go_roundw
    case rel=>exact ⟨k+1,by omega,by go_num,HE.o,HB4.o⟩
    case measure=>simp [intOf]; omega
  ·have HE:Hid (r = true):=qh (by
    have:=HA.o;rw [List.take_of_length_le (by rw [<- HN.o]; omega)] at this;rw [HR.o,this])
   go_wp2_with fail;go_ret;exact ⟨Qg HE.o.symm,HB.o⟩
end
section
open Go.RowKit Go.Sort CurSpec TermSpec EvalSpec ActSpec NamesSpec ExprSpec TransSpec SynSpec PrintSpec
set_option maxRecDepth 100000
theorem pmay_any (x:Cx) (eA:Option Addr) (en ec:Nat) (vA:Option Addr) (vn vc:Nat) (sA:Option Addr) (sn sc:Nat) (w:World) (h:ChIn w (.slice eA en ec) (.slice vA vn vc) (.slice sA sn sc) x) (hf:FitM x) (hen9:en <= 9223372036854775807) (hvn9:vn <= 9223372036854775807) :
 Calls Tryz.prog 48 #[.agg #[.string x.s,.slice eA en ec,.slice vA vn vc,.slice sA sn sc]] w (RetB w (mayC x)):=by
 obtain ⟨hvn,hvc⟩:=RdV.len h.vars;obtain ⟨hsn,hsc⟩:=h.sts.len;have hen:en=x.evs.length:=by obtain ⟨_,_,_,heq,hn,_⟩:=Rd.strs h.evs; cases heq; exact hn.symm
 obtain ⟨W1,hW1⟩:∃ W1,w.alloc (.cells #[.string x.s,.slice eA en ec,.slice vA vn vc,.slice sA sn sc] 34)=W1:=⟨_,rfl⟩;have hb1:Below w.heap.size w W1:=by rw [<- hW1]; exact KitC.Qh _ _
 have hkb:W1.heap[w.heap.size]?=some (.cells #[.string x.s,.slice eA en ec,.slice vA vn vc,.slice sA sn sc] 34 (0,0)):=by rw [<- hW1]; exact heap_alloc_new _ _
 have HK:=qh (fun W (hW:Below W1.heap.size W1 W)=>Qi (KitC.Qe hkb hW));obtain ⟨c0,c1,c2,c3⟩:=Qi hkb;have hch:=fun W (hW:Below W1.heap.size W1 W)=>h.keep (Qa hb1 hW)
 obtain ⟨b0,e0⟩:∃ b0,b0=isName x.s.data.toList:=⟨_,rfl⟩;obtain ⟨b2,e2⟩:∃ b2,b2=x.evs.all fun e=>isName e.data.toList:=⟨_,rfl⟩
 obtain ⟨b4,e4⟩:∃ b4,b4=x.vars.all okV:=⟨_,rfl⟩;obtain ⟨q5,e5⟩:∃ q5,q5=ShapeSpec.chk (x.sts.map shOf):=⟨_,rfl⟩;obtain ⟨b6,e6⟩:∃ b6,b6=x.sts.all okS:=⟨_,rfl⟩;have H0:Hid (∀ W,Below W1.heap.size W1 W->Calls Tryz.prog 79 #[.string x.s] W (RetB W b0)):=qh fun W _=>ZU hf.s e0.symm W
 have H2:Hid (∀ W,Below W1.heap.size W1 W->Calls Tryz.prog 90 #[.slice eA en ec,.func (.func 79) #[] #[]] W (RetB W b2)):=qh fun W hW=>by rw [e2]; exact Qju eA en ec x.evs W (hch W hW).evs hf.evs hen9
 have H4:Hid (∀ W,Below W1.heap.size W1 W->Calls Tryz.prog 91 #[.slice vA vn vc,.func (.func 92) #[] #[]] W (RetB W b4)):=qh fun W hW=>by rw [e4]; exact QiS vA vn vc x.vars W (hch W hW).vars hf.vars hvn9
 have H5:Hid (∀ W,Below W1.heap.size W1 W->Calls Tryz.prog 93 #[.slice sA sn sc] W (RetI W q5)):=qh fun W hW=>by rw [e5]; exact Qb8 sA sn sc _ W (hch W hW).sts.sts (by have:=hf.stl; omega)
 have H6:Hid (∀ W,Below W1.heap.size W1 W->Calls Tryz.prog 94 #[.slice sA sn sc,.func (.func 95) #[] #[]] W (RetB W b6)):=qh fun W hW=>by rw [e6]; exact Qf4 sA sn sc x.sts W (hch W hW).sts hf.sts (by have:=hf.stl; omega)
 have hC:mayC x = (b0 && (decide (en <= 8) && (b2 && (decide (vn <= 4) && (b4 && (decide (q5 = 0) && b6)))))):=by
  unfold mayC;rw [<- e0,<- e2,<- e4,<- e5,<- e6,<- hen,<- hvn]
  cases b0<;>cases b2<;>cases b4<;>cases b6<;>simp
 rw [hC];obtain ⟨r,hr⟩:∃ r,r=(b0&&(decide (en<=8)&&(b2&&(decide (vn<=4)&&(b4&&(decide (q5=0)&&b6)))))):=⟨_,rfl⟩;rw [<- hr];have HW1:=qh hW1;have HB1:=qh hb1;obtain ⟨s,evs,vars,sts⟩:=x;simp only at HK c0 H0 HW1;clear hC e0 e2 e4 e5 e6 h hch hW1 hb1 hkb hf hvn hsn hen
 rcases h0:b0 with _ | _
 ·have HR:Hid (r = false):=qh (by rw [hr]; simp [h0])
  clear hr;rw [h0] at H0;clear h0;go_enter Tryz.func48,Tryz.ntmps48;go_wp2_with (rw [HW1.o]; go_at_call 79; go_fit (H0.o _ (Below.refl _ _)));rintro e2 w2 ⟨rfl,hb2⟩;have HB2:=qh hb2;clear c0 c1 c2 c3;obtain ⟨c0,c1,c2,c3⟩:=HK.o _ HB2.o;clear hb2;go_wp2_with fail;go_ret;exact ⟨Qg HR.o.symm,Qa HB1.o HB2.o⟩
 ·by_cases h1:en <= 8
  ·rcases h2:b2 with _ | _
   ·have HR:Hid (r = false):=qh (by rw [hr]; simp [h0,h1,h2])
    have g1:decide ((en:Int)<=8)=true:=by simp; omega
    clear hr;rw [h0] at H0;clear h0;rw [h2] at H2;clear h2;go_enter Tryz.func48,Tryz.ntmps48;go_wp2_with (rw [HW1.o]; go_at_call 79; go_fit (H0.o _ (Below.refl _ _)));rintro e2 w2 ⟨rfl,hb2⟩;have HB2:=qh hb2;clear c0 c1 c2 c3;obtain ⟨c0,c1,c2,c3⟩:=HK.o _ HB2.o;clear hb2;go_wp2_with (go_at_call 90; go_fit (H2.o _ HB2.o));rintro e3 w3 ⟨rfl,hb3⟩;have HB3:=qh (Qa HB2.o hb3);clear c0 c1 c2 c3;obtain ⟨c0,c1,c2,c3⟩:=HK.o _ HB3.o;clear hb3;go_wp2_with fail;go_ret;exact ⟨Qg HR.o.symm,Qa HB1.o HB3.o⟩
   ·by_cases h3:vn <= 4
    ·rcases h4:b4 with _ | _
     ·have HR:Hid (r = false):=qh (by rw [hr]; simp [h0,h1,h2,h3,h4])
      have g1:decide ((en:Int)<=8)=true:=by simp; omega
      have g3:decide ((vn:Int)<=4)=true:=by simp; omega
      clear hr;rw [h0] at H0;clear h0;rw [h2] at H2;clear h2;rw [h4] at H4;clear h4;go_enter Tryz.func48,Tryz.ntmps48;go_wp2_with (rw [HW1.o]; go_at_call 79; go_fit (H0.o _ (Below.refl _ _)));rintro e2 w2 ⟨rfl,hb2⟩;have HB2:=qh hb2;clear c0 c1 c2 c3;obtain ⟨c0,c1,c2,c3⟩:=HK.o _ HB2.o;clear hb2;go_wp2_with (go_at_call 90; go_fit (H2.o _ HB2.o));rintro e3 w3 ⟨rfl,hb3⟩;have HB3:=qh (Qa HB2.o hb3);clear c0 c1 c2 c3;obtain ⟨c0,c1,c2,c3⟩:=HK.o _ HB3.o;clear hb3;go_wp2_with (go_at_call 91; go_fit (H4.o _ HB3.o));rintro e4 w4 ⟨rfl,hb4⟩;have HB4:=qh (Qa HB3.o hb4);clear c0 c1 c2 c3;obtain ⟨c0,c1,c2,c3⟩:=HK.o _ HB4.o;clear hb4;go_wp2_with fail;go_ret;exact ⟨Qg HR.o.symm,Qa HB1.o HB4.o⟩
     ·by_cases h5:q5 = 0
      ·have HR:Hid (r = b6):=qh (by rw [hr]; simp [h0,h1,h2,h3,h4,h5])
       have g1:decide ((en:Int)<=8)=true:=by simp; omega
       have g3:decide ((vn:Int)<=4)=true:=by simp; omega
       have g5:(q5==0)=true:=by simpa using h5
       clear hr h5;rw [h0] at H0;clear h0;rw [h2] at H2;clear h2;rw [h4] at H4;clear h4;go_enter Tryz.func48,Tryz.ntmps48;go_wp2_with (rw [HW1.o]; go_at_call 79; go_fit (H0.o _ (Below.refl _ _)));rintro e2 w2 ⟨rfl,hb2⟩;have HB2:=qh hb2;clear c0 c1 c2 c3;obtain ⟨c0,c1,c2,c3⟩:=HK.o _ HB2.o;clear hb2;go_wp2_with (go_at_call 90; go_fit (H2.o _ HB2.o));rintro e3 w3 ⟨rfl,hb3⟩;have HB3:=qh (Qa HB2.o hb3);clear c0 c1 c2 c3;obtain ⟨c0,c1,c2,c3⟩:=HK.o _ HB3.o;clear hb3;go_wp2_with (go_at_call 91; go_fit (H4.o _ HB3.o));rintro e4 w4 ⟨rfl,hb4⟩;have HB4:=qh (Qa HB3.o hb4);clear c0 c1 c2 c3;obtain ⟨c0,c1,c2,c3⟩:=HK.o _ HB4.o;clear hb4;go_wp2_with (go_at_call 93; go_fit (H5.o _ HB4.o));rintro e5 w5 ⟨rfl,hb5⟩;have HB5:=qh (Qa HB4.o hb5);clear c0 c1 c2 c3;obtain ⟨c0,c1,c2,c3⟩:=HK.o _ HB5.o;clear hb5;go_wp2_with (go_at_call 94; go_fit (H6.o _ HB5.o));rintro e6 w6 ⟨rfl,hb6⟩;have HB6:=qh (Qa HB5.o hb6);clear c0 c1 c2 c3;obtain ⟨c0,c1,c2,c3⟩:=HK.o _ HB6.o;clear hb6;go_wp2_with fail;go_ret;exact ⟨Qg HR.o.symm,Qa HB1.o HB6.o⟩
      ·have HR:Hid (r = false):=qh (by rw [hr]; simp [h0,h1,h2,h3,h4,h5])
       have g1:decide ((en:Int)<=8)=true:=by simp; omega
       have g3:decide ((vn:Int)<=4)=true:=by simp; omega
       have g5:(q5==0)=false:=by simpa using h5
       clear hr h5;rw [h0] at H0;clear h0;rw [h2] at H2;clear h2;rw [h4] at H4;clear h4;go_enter Tryz.func48,Tryz.ntmps48;go_wp2_with (rw [HW1.o]; go_at_call 79; go_fit (H0.o _ (Below.refl _ _)));rintro e2 w2 ⟨rfl,hb2⟩;have HB2:=qh hb2;clear c0 c1 c2 c3;obtain ⟨c0,c1,c2,c3⟩:=HK.o _ HB2.o;clear hb2;go_wp2_with (go_at_call 90; go_fit (H2.o _ HB2.o));rintro e3 w3 ⟨rfl,hb3⟩;have HB3:=qh (Qa HB2.o hb3);clear c0 c1 c2 c3;obtain ⟨c0,c1,c2,c3⟩:=HK.o _ HB3.o;clear hb3;go_wp2_with (go_at_call 91; go_fit (H4.o _ HB3.o));rintro e4 w4 ⟨rfl,hb4⟩;have HB4:=qh (Qa HB3.o hb4);clear c0 c1 c2 c3;obtain ⟨c0,c1,c2,c3⟩:=HK.o _ HB4.o;clear hb4;go_wp2_with (go_at_call 93; go_fit (H5.o _ HB4.o));rintro e5 w5 ⟨rfl,hb5⟩;have HB5:=qh (Qa HB4.o hb5);clear c0 c1 c2 c3;obtain ⟨c0,c1,c2,c3⟩:=HK.o _ HB5.o;clear hb5;go_wp2_with fail;go_ret;exact ⟨Qg HR.o.symm,Qa HB1.o HB5.o⟩
    ·have HR:Hid (r = false):=qh (by rw [hr]; simp [h0,h1,h2,h3])
     have g1:decide ((en:Int)<=8)=true:=by simp; omega
     have g3:decide ((vn:Int)<=4)=false:=by simp; omega
     clear hr;rw [h0] at H0;clear h0;rw [h2] at H2;clear h2;go_enter Tryz.func48,Tryz.ntmps48;go_wp2_with (rw [HW1.o]; go_at_call 79; go_fit (H0.o _ (Below.refl _ _)));rintro e2 w2 ⟨rfl,hb2⟩;have HB2:=qh hb2;clear c0 c1 c2 c3;obtain ⟨c0,c1,c2,c3⟩:=HK.o _ HB2.o;clear hb2;go_wp2_with (go_at_call 90; go_fit (H2.o _ HB2.o));rintro e3 w3 ⟨rfl,hb3⟩;have HB3:=qh (Qa HB2.o hb3);clear c0 c1 c2 c3;obtain ⟨c0,c1,c2,c3⟩:=HK.o _ HB3.o;clear hb3;go_wp2_with fail;go_ret;exact ⟨Qg HR.o.symm,Qa HB1.o HB3.o⟩
  ·have HR:Hid (r = false):=qh (by rw [hr]; simp [h0,h1])
   have g1:decide ((en:Int)<=8)=false:=by simp; omega
   clear hr;rw [h0] at H0;clear h0;go_enter Tryz.func48,Tryz.ntmps48;go_wp2_with (rw [HW1.o]; go_at_call 79; go_fit (H0.o _ (Below.refl _ _)));rintro e2 w2 ⟨rfl,hb2⟩;have HB2:=qh hb2;clear c0 c1 c2 c3;obtain ⟨c0,c1,c2,c3⟩:=HK.o _ HB2.o;clear hb2;go_wp2_with fail;go_ret;exact ⟨Qg HR.o.symm,Qa HB1.o HB2.o⟩
theorem QiY (x:Cx) (eA:Option Addr) (en ec:Nat) (vA:Option Addr) (vn vc:Nat) (sA:Option Addr) (sn sc:Nat) (w:World) (h:ChIn w (.slice eA en ec) (.slice vA vn vc) (.slice sA sn sc) x) (hf:FitM x) (hen9:en <= 9223372036854775807) (hvn9:vn <= 9223372036854775807) :
 Calls Tryz.prog 23 #[.agg #[.string x.s,.slice eA en ec,.slice vA vn vc,.slice sA sn sc]] w (RetI w (if mayC x=true then 0 else 1)):=by
 have HC:Hid (Calls Tryz.prog 48 #[.agg #[.string x.s,.slice eA en ec,.slice vA vn vc,.slice sA sn sc]] (w.alloc (.cells #[.string x.s,.slice eA en ec,.slice vA vn vc,.slice sA sn sc] 34)) (RetB (w.alloc (.cells #[.string x.s,.slice eA en ec,.slice vA vn vc,.slice sA sn sc] 34)) (mayC x))):=qh (pmay_any x eA en ec vA vn vc sA sn sc _ (h.keep (KitC.Qh _ _)) hf hen9 hvn9);obtain ⟨q,hq⟩:∃ q,q=mayC x:=⟨_,rfl⟩;rw [<- hq] at HC ⊢;obtain ⟨s,evs,vars,sts⟩:=x;simp only at HC;clear h hf hq
 rcases q with _ | _
 ·go_enter Tryz.func23,Tryz.ntmps23
  go_wp2_with (go_at_call 48; go_fit HC.o);rintro e w2 ⟨rfl,hb2⟩;have HB2:=qh (Qa (KitC.Qh _ _) hb2);clear hb2;go_wp2_with fail;go_ret;exact ⟨rfl,HB2.o⟩
 ·go_enter Tryz.func23,Tryz.ntmps23
  go_wp2_with (go_at_call 48; go_fit HC.o);rintro e w2 ⟨rfl,hb2⟩;have HB2:=qh (Qa (KitC.Qh _ _) hb2);clear hb2;go_wp2_with fail;go_ret;exact ⟨rfl,HB2.o⟩
end
section
open Go.RowKit
def WrP (b:Nat) (p:Value) (n:Int) (l:List UInt8) (w:World):Prop :=
 ∃ v,w.heap[b]?=some (.cells #[p,v,.int .i64 n] 101 (0,0))/\w.ownsRow b 5 1 v l.length (Lib.byteCells l)/\v.ownBlock≠some b
def WrAt (b:Nat) (n:Int) (l:List UInt8) (w:World):Prop:=WrP b (.pointer none) n l w\/WrP b (.pointer (some ⟨b,0,none⟩)) n l w
def Apart (b:Nat) (w:World) (k:Nat):Prop:=k<w.heap.size/\k≠b/\∀ c fz,w.heap[k]?≠some (.cells c 5 fz)
structure Wrote (b:Nat) (w w':World):Prop where
 below:Below b w w'
 block:∀ k,Apart b w k->w'.heap[k]?=w.heap[k]?
section
variable {b:Nat} {p:Value} {n:Int} {l:List UInt8} {w w' w2:World}
theorem WrP.lt (h:WrP b p n l w):b < w.heap.size:=by
 obtain ⟨v,h1,-⟩:=h;exact (Array.getElem?_eq_some_iff.1 h1).1
theorem WrAt.lt (h:WrAt b n l w):b < w.heap.size:=by
 rcases h with h | h
 ·exact h.lt
 ·exact h.lt
theorem WrP.keep (h:WrP b p n l w) (hb:Below w.heap.size w w'):WrP b p n l w':=by
 have hlt:=h.lt;obtain ⟨v,h1,h2,h3⟩:=h;exact ⟨v,(hb.block b hlt).trans h1,Q9 h2 hb,h3⟩
theorem WrAt.keep (h:WrAt b n l w) (hb:Below w.heap.size w w'):WrAt b n l w':=by
 rcases h with h | h
 ·exact .inl (h.keep hb)
 ·exact .inr (h.keep hb)
theorem WrAt.drew (h:WrAt b n l w):WrAt b n l w.drew:=h
theorem Wrote.refl (b:Nat) (w:World):Wrote b w w:=⟨Below.refl _ _,fun _ _=>rfl⟩
theorem Wrote.trans (h:Wrote b w w') (k:Wrote b w' w2):Wrote b w w2:=by
 refine ⟨h.below.trans k.below,fun i hi=>?_⟩;have e:=h.block i hi;exact (k.block i ⟨by have:=h.below.size; have:=hi.1; omega,hi.2.1,fun c fz=>by rw [e]; exact hi.2.2 c fz⟩).trans e
theorem Wrote.of (hlt:b<w.heap.size) (hb:Below w.heap.size w w'):Wrote b w w':=⟨hb.mono (by omega),fun k hk=>hb.block k hk.1⟩
theorem Wrote.call (h:Wrote b w w') (hlt:b<w.heap.size) (hb:Below w'.heap.size w' w2):Wrote b w w2:=h.trans (Wrote.of (by have:=h.below.size; omega) hb)
theorem Wrote.drew (h:Wrote b w w'):Wrote b w w'.drew:=⟨h.below.drew,h.block⟩
theorem Wrote.at_ (h:Wrote b w w') {k:Nat} {cs:Array Value} {T:TypeId} {fz:Nat × Nat} (hk:w.heap[k]? = some (.cells cs T fz)) (hne:k ≠ b) (hT:T ≠ 5):w'.heap[k]? = some (.cells cs T fz):=by
 refine (h.block k ⟨(Array.getElem?_eq_some_iff.1 hk).1,hne,fun c f e=>?_⟩).trans hk;rw [hk] at e
 cases e
 exact hT rfl
theorem Wrote.own (h:Wrote b w w') {base k m:Nat} {T:TypeId} {v:Value} {xs:List Value} (ho:w.ownsRow base T k v m xs) (hb:b < base) (hT:T ≠ 5):w'.ownsRow base T k v m xs:=by
 refine ⟨ho.1,?_⟩
 rcases ho.2 with e | ⟨g,cap,cur,h1,h2,h3,h4⟩
 ·exact .inl e
 ·exact .inr ⟨g,cap,cur,h1,h2,h.at_ h3 (by omega) hT,h4⟩
theorem Wrote.ints (h:Wrote b w w') {W:World} {v:Value} {xs:List Int} (ho:RowI W w v xs) (hb:b<W.heap.size):Rd w' v (intV xs):=Rd.own (h.own ho.1 hb (by decide))
theorem wr_set (h:WrP b p n l w) (q:Value):WrP b q n l (w.setCell ⟨b,0,none⟩ q) /\ Wrote b w (w.setCell ⟨b,0,none⟩ q):=by
 have hlt:=h.lt;obtain ⟨v,h1,h2,h3⟩:=h;refine ⟨⟨v,Qd h1 0 q,?_,h3⟩,(Below.refl _ _).setCell (p:=⟨b,0,none⟩) (Nat.le_refl _) q,fun k hk=>Below.heap_setCell _ _ _ _ hk.2.1⟩;exact h2.kept (row:=some b) ⟨rfl,rfl,rfl,by simp [World.setCell],fun k _ hk=>Below.heap_setCell _ _ _ _ (fun e=>hk (by simp [e]))⟩ (.inr h3)
theorem wr_open (h:WrAt b n l w) (m:Int):WrAt b m l (w.setCell ⟨b,2,none⟩ (.int .i64 m)) /\ Wrote b w (w.setCell ⟨b,2,none⟩ (.int .i64 m)):=by
 have hlt:=h.lt;have hw:Wrote b w (w.setCell ⟨b,2,none⟩ (.int .i64 m)):=⟨(Below.refl _ _).setCell (p:=⟨b,2,none⟩) (Nat.le_refl _) _,fun k hk=>Below.heap_setCell _ _ _ _ hk.2.1⟩;refine ⟨?_,hw⟩
 have key:∀ q,WrP b q n l w -> WrP b q m l (w.setCell ⟨b,2,none⟩ (.int .i64 m)):=fun q hq => by
  obtain ⟨v,h1,h2,h3⟩:=hq;refine ⟨v,Qd h1 2 _,?_,h3⟩;exact h2.kept (row:=some b) ⟨rfl,rfl,rfl,by simp [World.setCell],fun k _ hk=>Below.heap_setCell _ _ _ _ (fun e=>hk (by simp [e]))⟩ (.inr h3)
 rcases h with h | h
 ·exact .inl (key _ h)
 ·exact .inr (key _ h)
theorem WrP.cells (h:WrP b p n l w):∃ v,w.cell? ⟨b,0,none⟩ = some p /\ w.cell? ⟨b,1,none⟩ = some v /\ w.cell? ⟨b,2,none⟩ = some (.int .i64 n) /\ w.shape? b = some (101,3) /\ w.frozen? ⟨b,0,none⟩ = false /\ w.frozen? ⟨b,1,none⟩ = false /\ w.frozen? ⟨b,2,none⟩ = false:=by
 obtain ⟨v,h1,-⟩:=h;exact ⟨v,Qb h1 (i:=0) rfl,Qb h1 (i:=1) rfl,Qb h1 (i:=2) rfl,by simp [World.shape?,h1],Qf h1 0,Qf h1 1,Qf h1 2⟩
theorem WrAt.open_ (h:WrAt b n l w):w.cell? ⟨b,2,none⟩ = some (.int .i64 n) /\ w.frozen? ⟨b,2,none⟩ = false:=by
 rcases h with h | h
 ·obtain ⟨v,-,-,h2,-,-,-,h3⟩:=h.cells
  exact ⟨h2,h3⟩
 ·obtain ⟨v,-,-,h2,-,-,-,h3⟩:=h.cells
  exact ⟨h2,h3⟩
theorem wr_new (w:World):WrAt w.heap.size 0 [] (w.alloc (.cells #[.pointer none,.slice none 0 0,.int .i64 0] 101)) :=
 .inl ⟨_,heap_alloc_new _ _,World.ownsRow_nil _ _ _ _,by simp [Value.ownBlock]⟩
theorem wr_append {v v':Value} {s:ByteArray} (hB:w.heap[b]? = some (.cells #[p,v,.int .i64 n] 101 (0,0))) (hown:w.ownsRow b 5 1 v l.length (Lib.byteCells l)) (hne:v.ownBlock ≠ some b)
 (hrow:w'.ownsRow b 5 1 v' (l.length+s.size) (Lib.byteCells l++Lib.strCells s)) (hg:w.grownBy w' v.ownBlock) :
 w'.heap[b]?=some (.cells #[p,v,.int .i64 n] 101 (0,0))/\WrP b p n (l++s.data.toList) (w'.setCell ⟨b,1,none⟩ v')/\Wrote b w (w'.setCell ⟨b,1,none⟩ v'):=by
 have hlt:=(Array.getElem?_eq_some_iff.1 hB).1;have hB2:w'.heap[b]?=some (.cells #[p,v,.int .i64 n] 101 (0,0)):=(hg.block b hlt (fun e=>hne e.symm)).trans hB;have hne2:v'.ownBlock≠some b:=Lib.ownBlock_ne hrow hB2 (by decide);refine ⟨hB2,⟨v',Qd hB2 1 v',?_,hne2⟩,?_,?_⟩
 ·have hcells:Lib.byteCells l ++ Lib.strCells s = Lib.byteCells (l ++ s.data.toList):=by rw [Lib.strCells_eq]; simp [Lib.byteCells]
  rw [hcells] at hrow;have hlen:(l++s.data.toList).length=l.length+s.size:=by rw [List.length_append]; rfl
  rw [hlen];exact hrow.kept (row:=some b) ⟨rfl,rfl,rfl,by simp [World.setCell],fun k _ hk=>Below.heap_setCell _ _ _ _ (fun e=>hk (by simp [e]))⟩ (.inr hne2)
 ·exact ((Below.refl b w).grown hg (by omega) (fun k hk=>(hown.lt k hk).1)).setCell (p:=⟨b,1,none⟩) (Nat.le_refl _) v'
 ·intro k hk
  refine (Below.heap_setCell _ _ _ _ hk.2.1).trans (hg.block k hk.1 fun e=>?_)
  rcases hown.2 with ⟨rfl,-⟩ | ⟨g,cap,cur,rfl,-,h3,-⟩
  ·simp [Value.ownBlock] at e
  ·simp only [Value.ownBlock,Option.some.injEq] at e
   subst e;exact hk.2.2 _ _ h3
end
end
section
open Go.RowKit
set_option maxRecDepth 100000
def RetWr (W:World) (b:Nat) (n:Int) (l:List UInt8) (e:Ending) (w':World):Prop:=e = .returned (.tuple #[])/\WrAt b n l w'/\Wrote b W w'
def RetUsed (W:World) (b:Nat) (n:Int) (l:List UInt8) (e:Ending) (w':World):Prop:=e = .returned (.tuple #[])/\WrP b (.pointer (some ⟨b,0,none⟩)) n l w'/\Wrote b W w'
theorem inf_bld:(Tryz.prog.info? 99).map (·.size)=some 2:=by kernel_rfl
theorem lies_bld:liesAt Tryz.prog Tryz.prog.depth 101 (3 / Tryz.prog.cellsOf 101) 0 99 1=true:=by kernel_rfl
theorem copy_used (b:Nat) (n:Int) (l:List UInt8) (w:World) (h:WrP b (.pointer (some ⟨b,0,none⟩)) n l w) :
 Calls Tryz.prog 132 #[.pointer (some ⟨b,0,none⟩)] w (RetUsed w b n l):=by
 obtain ⟨j,hj,_⟩:=Option.map_eq_some_iff.1 inf_bld;obtain ⟨v,c0,-⟩:=h.cells;have HH:=qh h;clear h;go_enter Tryz.func132,Tryz.ntmps132;go_wp2;rw [Lib.run_neq_ptr_same w _ Tryz.underlying96 hj];go_wp2
 go_end0
 exact ⟨rfl,HH.o,Wrote.refl _ _⟩
theorem Qjp (b:Nat) (n:Int) (l:List UInt8) (w:World) (h:WrP b (.pointer none) n l w) :
 Calls Tryz.prog 132 #[.pointer (some ⟨b,0,none⟩)] w (RetUsed w b n l):=by
 obtain ⟨j,hj,hjs⟩:=Option.map_eq_some_iff.1 inf_bld;obtain ⟨v,c0,-,-,hsh,hfz,-⟩:=h.cells;have HH:=qh h;clear h;go_enter Tryz.func132,Tryz.ntmps132;go_wp2;rw [Lib.run_to_unsafe w ⟨b,0,none⟩ Tryz.underlying96 Tryz.underlying204 hj (by rw [hjs]; decide) hsh (by show 0<3; omega)];simp only [Result.andThen];rw [Oper.upon_value];go_wp2;rw [run_callFunc_extern Tryz.func158 (by kernel_rfl) (by kernel_rfl) (by kernel_rfl) (e:=Extern.AbiNoEscape.same) (by kernel_rfl)];rw [Lib.run_noEscape];simp only [Result.andThen];rw [Oper.upon_value];go_wp2;rw [Lib.run_from_unsafe w ⟨b,0,none⟩ Tryz.underlying204 Tryz.underlying96 hj hsh lies_bld];simp only [Result.andThen];rw [Oper.upon_value];go_wp2
 go_end0
 exact ⟨rfl,(wr_set HH.o _).1,(wr_set HH.o _).2⟩
theorem copy_any (b:Nat) (n:Int) (l:List UInt8) (w:World) (h:WrAt b n l w) :
 Calls Tryz.prog 132 #[.pointer (some ⟨b,0,none⟩)] w (RetUsed w b n l):=by
 rcases h with h | h
 ·exact Qjp b n l w h
 ·exact copy_used b n l w h
theorem inf_byte:(Tryz.prog.info? 5).map (fun i=>(i.zero,i.size,i.bytes))=some (some (.int .u8 0),1,1):=by kernel_rfl
def RetWS (W:World) (b:Nat) (n:Int) (l:List UInt8) (s:ByteArray) (e:Ending) (w':World):Prop:=e = .returned (.tuple #[.int .i64 s.size,.nilIface])/\WrAt b n (l++s.data.toList) w'/\Wrote b W w'
theorem ws_any (b:Nat) (n:Int) (l:List UInt8) (s:ByteArray) (w:World) (h:WrAt b n l w) (hlen:l.length + s.size <= 140737488355328) :
 Calls Tryz.prog 96 #[.pointer (some ⟨b,0,none⟩),.string s] w (RetWS w b n l s):=by
 obtain ⟨i0,hi,hz0,hz1,hz2⟩:=info_parts inf_byte;have HC:=qh (copy_any b n l w h);have HLN:=qh hlen;clear h hlen;go_enter Tryz.func96,Tryz.ntmps96;go_wp2_with (go_at_call 132; go_fit HC.o);rintro e w1 ⟨rfl,h1,hw1⟩;have HW1:=qh hw1;have HLT:=qh h1.lt;obtain ⟨v,hbk,hown,hne⟩:=h1;have HB:=qh hbk;have HO:=qh hown;have HN:=qh hne;have c1:w1.cell? ⟨b,1,none⟩=some v:=Qb hbk (i:=1) rfl;clear hbk hown hne hw1;go_wp2_with (at_builtin; refine Lib.wpList_append_own_string _ rfl _ _ 97 9 rfl b 5 i0 Tryz.underlying97 Tryz.underlying9 hi hz0 hz1 hz2 _ _ _ rfl HO.o s rfl ?c3 ?c4 ?c5 ?_)
 case c3=>have:=HLN.o; unfold maxLen; omega
 case c4=>exact HLN.o
 case c5=>have:=HLT.o; omega
 intro v' w2 hown' hgrow _;have HA:=qh (wr_append HB.o HO.o HN.o hown' hgrow);have f1:w2.frozen? ⟨b,1,none⟩=false:=Qf HA.o.1 1;have d1:w2.cell? ⟨b,1,none⟩=some v:=Qb HA.o.1 (i:=1) rfl;obtain ⟨A',c',rfl⟩:=QR hown';clear hown' hgrow;go_wp2_with fail
 go_ret2
 exact ⟨rfl,.inr HA.o.2.1,HW1.o.trans HA.o.2.2⟩
end
section
open Go.RowKit CurSpec TermSpec EvalSpec ActSpec NamesSpec ExprSpec TransSpec SynSpec PrintSpec
set_option maxRecDepth 100000
def lnT (n:Nat) (ps:List ByteArray):List UInt8:=inT n++(ps.flatMap T++[10])
theorem rep_in:∀ n:Nat,Lib.repeatL [32,32] n = inT n
 | 0 => rfl
 | n + 1 => by
   rw [Lib.repeatL,rep_in n];unfold inT;rw [show 2*(n+1)=2*n+1+1 by omega,List.replicate_succ,List.replicate_succ]
   rfl
theorem Qjk (n:Nat) (hn:n <= 20) (W:World):Calls Tryz.prog 97 #[.string ⟨#[32,32]⟩,.int .i64 n] W (RetS W (bs (inT n))):=by
 have h:=Tryz.strings_Repeat ⟨#[32,32]⟩ n W (by omega) (by show 2*n<=_; omega)
 have e:(⟨(Lib.repeatL (⟨#[32,32]⟩:ByteArray).data.toList n).toArray⟩:ByteArray) = bs (inT n):=by
  rw [<- rep_in]
  rfl
 rw [e] at h;exact h
def LnRel (W:World) (b:Nat) (n:Int) (l:List UInt8) (ps:List ByteArray) (i:Value) (wr:World):Prop:=∃ k:Nat,k<=ps.length/\i = .int .i64 k/\WrAt b n (l++(ps.take k).flatMap T) wr/\Wrote b W wr
theorem QfG (ps:List ByteArray) (k:Nat):((ps.take k).flatMap T).length <= (ps.flatMap T).length:=by
 have:=congrArg (fun l=>(l.flatMap T).length) (List.take_append_drop k ps);simp only [List.flatMap_append,List.length_append] at this;omega
theorem Qjb {ps:List ByteArray} {k:Nat} {s:ByteArray} (h:ps[k]? = some s):(ps.take (k + 1)).flatMap T = (ps.take k).flatMap T ++ s.data.toList:=by
 rw [QA h,List.flatMap_append];simp [T]
theorem line_any (b n:Nat) (l:List UInt8) (ps:List ByteArray) (k m c:Nat) (w:World) (h:WrAt b n l w) (hk:w.heap[k]? = some (.cells (strV ps).toArray 9 (0,0))) (hkb:k ≠ b) (hm:m = ps.length) (hn:n <= 20) (hps:m <= 100) (hc:m <= c)
 (hlen:l.length+(lnT n ps).length<=140737488355328):Calls Tryz.prog 50 #[.pointer (some ⟨b,0,none⟩),.slice (some ⟨k,0,none⟩) m c] w (RetWr w b n (l++lnT n ps)):=by
 obtain ⟨P,hP⟩:∃ P,P=bs (inT n):=⟨_,rfl⟩;have HR:=qh (fun W=>Qjk n hn W);rw [<- hP] at HR;have hPT:P.data.toList=inT n:=by rw [hP]; simp [bs]
 have HPT:=qh hPT
 have hlen':l.length + (inT n).length + (ps.flatMap T).length + 1 <= 140737488355328:=by
  unfold lnT at hlen;simp only [List.length_append,List.length_singleton] at hlen;omega
 have hPs:P.size=(inT n).length:=by rw [<- hPT]; rfl
 have HL:=qh hlen';have HL1:Hid (l.length+P.size<=140737488355328):=qh (by omega);have HH:=qh h;obtain ⟨c2,-⟩:=h.open_;have HK:=qh hk;have HKB:=qh hkb;have HM:=qh hm;have hck:(0:Int)<=(c:Int):=by omega
 clear hP hPT hlen hlen' hPs h hk hkb hm hn;go_enter Tryz.func50,Tryz.ntmps50;go_wp2_with fail
 go_region_held3 (fun w' => w'.cell? ⟨b,2,none⟩ = some (.int .i64 n)) (go_keep)
  ((first
    | (go_at_call 97; go_fit (HR.o _); rintro e w2 ⟨rfl,hb2'⟩; have hb2:=undrawn hb2'; have HW2:=qh (HH.o.keep hb2); have HX2:=qh (Wrote.of HH.o.lt hb2); have HC2:=qh (ws_any b n l P w2 HW2.o HL1.o); have e2:=HW2.o.open_.1; clear hb2 hb2')
    | (go_at_call 96; go_fit HC2.o; rintro e w3 ⟨rfl,h3,hx3⟩; have HW3:=qh h3; have HX3:=qh (HX2.o.trans hx3); have e3:=h3.open_.1; clear h3 hx3)))
 rw [HPT.o] at HW3;obtain ⟨l1,hl1⟩:∃ l1,l1=l++inT n:=⟨_,rfl⟩;rw [<- hl1] at HW3;have HL2:Hid (l1.length+(ps.flatMap T).length+1<=140737488355328):=qh (by have:=HL.o; rw [hl1,List.length_append]; omega);have HE:Hid (l++lnT n ps=l1++ps.flatMap T++[10]):=qh (by rw [hl1]; unfold lnT; simp);clear hl1 e2 e3 HR HL HL1 HW2 HX2 HC2;go_wp2_with fail
 go_loopw [5,17] (fun _ i wr=>LnRel w b n l1 ps i wr) (fun _ i _=>m-(intOf i).toNat)
 case atStart=>exact ⟨0,Nat.zero_le _,rfl,by rw [List.take_zero]; simpa using HW3.o,HX3.o⟩
 case round =>
  obtain ⟨j,hj,rfl,hw,hx⟩:=hrel;have HW:=qh hw;have HX:=qh hx;have hj':j<=m:=by rw [HM.o]; exact hj
  have hpl:=QfG ps j;clear hw hx hj
  by_cases hlt:j<m
  ·obtain ⟨s,hs⟩:∃ s,ps[j]? = some s:=Qp (by rw [<- HM.o]; exact hlt)
   have ck:wr.cell? ⟨k,j,none⟩=some (.string s):=Qb (HX.o.at_ HK.o HKB.o (by decide)) (by simp [strV,hs]);have hnx:=Qjb hs;have hpl2:=QfG ps (j+1);rw [hnx,List.length_append] at hpl2;have HC:=qh (ws_any b n _ s wr HW.o (by have:=HL2.o; rw [List.length_append]; show _+s.data.toList.length<=_; omega));have HN:Hid (l1++(ps.take j).flatMap T++s.data.toList=l1++(ps.take (j+1)).flatMap T):=qh (by rw [hnx,List.append_assoc]);clear hs hnx hpl hpl2 hj';go_wp2_with (go_at_call 96; go_fit HC.o);rintro e w3 ⟨rfl,h3,hx3⟩;rw [HN.o] at h3;have HW4:=qh h3;have HX4:=qh (HX.o.trans hx3);clear h3 hx3;go_wp2_with fail
   go_roundw
   case rel=>exact ⟨j+1,by rw [<- HM.o]; omega,by go_num,HW4.o,HX4.o⟩
   case measure=>simp [intOf]; omega
  ·obtain rfl:j = m:=by omega
   have HW5:=HW.o;rw [List.take_of_length_le (by rw [<- HM.o]; exact Nat.le_refl _)] at HW5;have HC:=qh (ws_any b n _ ⟨#[10]⟩ wr HW5 (by have:=HL2.o; rw [List.length_append]; show _+1<=_; omega));clear HW5 hpl hj';go_wp2_with (go_at_call 96; go_fit HC.o);rintro e w3 ⟨rfl,h3,hx3⟩;have HW4:=qh h3;have HX4:=qh (HX.o.trans hx3);clear h3 hx3;go_wp2_with fail
   go_end0
   exact ⟨rfl,by rw [HE.o]; exact HW4.o,HX4.o⟩
end
end Go.Proofs.YtbdalbpackfejaaGreatDoor
