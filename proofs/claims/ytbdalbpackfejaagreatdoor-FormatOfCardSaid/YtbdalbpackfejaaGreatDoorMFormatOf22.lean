/- PrintStateP, PrintPut, PrintTextP, PrintPutP, joined. -/
import Derived.Test.YtbdalbpackfejaaGreatDoorMFormatOf21
set_option maxHeartbeats 16000000
set_option maxRecDepth 100000
namespace Go.Proofs.YtbdalbpackfejaaGreatDoor
section
open Go.RowKit Go.Sort CurSpec TermSpec EvalSpec ActSpec NamesSpec ExprSpec TransSpec SynSpec PrintSpec
open ShapeSpec (Sh up sf endOf SU)
set_option maxRecDepth 100000
def WTrRel (W:World) (b:Nat) (o:Int) (T0:List UInt8) (n1 m:Nat) (l:List Tt) (i:Value) (wr:World):Prop:=∃ k:Nat,k<=m/\i = .int .i64 k/\WrAt b o (T0++(l.take k).flatMap (lineT n1)) wr/\Wrote b W wr
def WKdRel (W:World) (b:Nat) (o:Int) (T0:List UInt8) (m:Nat) (f:Nat->List UInt8) (l:List Nat) (i:Value) (wr:World):Prop:=∃ k:Nat,k<=m/\i = .int .i64 k/\WrAt b o (T0++(l.take k).flatMap f) wr/\Wrote b W wr
theorem flat_take {α β:Type} (f:α -> List β) (L:List α) (k:Nat):((L.take k).flatMap f).length <= (L.flatMap f).length:=by
 have:=congrArg (fun l=>(l.flatMap f).length) (List.take_append_drop k L);simp only [List.flatMap_append,List.length_append] at this;omega
theorem Qc1 {α β:Type} (f:α -> List β) {L:List α} {j:Nat} {x:α} (h:L[j]? = some x):(L.take (j + 1)).flatMap f = (L.take j).flatMap f ++ f x /\ ((L.take j).flatMap f).length + (f x).length <= (L.flatMap f).length:=by
 have e2:(L.take (j+1)).flatMap f=(L.take j).flatMap f++f x:=by rw [QA h,List.flatMap_append]; simp
 have:=flat_take f L (j+1);rw [e2,List.length_append] at this;exact ⟨e2,this⟩
theorem kidN_len (sh:List Sh) (i:Nat):(kidN sh i 0).length <= sh.length:=by
 unfold kidN;have:=List.length_filter_le (fun k=>decide (ShapeSpec.par sh k=i)) (List.range' 0 (sh.length-0));rw [List.length_range'] at this;omega
theorem kidsA_of {sh:List Sh} {i:Nat} (hc:ShapeSpec.chk sh = 0) (hi:i < sh.length):kidsA sh i = (kidN sh i 0).map Int.ofNat:=by
 unfold kidsA;rw [if_pos (show hasB sh i=true by simp [hasB,hc,hi])];exact QfW i
theorem stX_bare {sh:List Sh} {l:List Ts} {i:Nat} {t:Ts} (h:SU sh sh.length) (hi:i < sh.length) (ht:l[i]? = some t) (he:emptyB sh l i = true) (hk:kidN sh i 0 = []) :
 stX sh l i=lnT ((up sh i).length+1) [bs (wordT t.kind),⟨#[32]⟩,t.s,⟨#[59]⟩]:=by
 rw [stX_eq h hi,stT_at sh ht,if_pos he,hk];unfold shutU;rw [if_neg (by rw [he]; decide)];unfold lnT headT;simp [T,bs]
theorem stX_full {sh:List Sh} {l:List Ts} {i:Nat} {t:Ts} (h:SU sh sh.length) (hi:i < sh.length) (ht:l[i]? = some t) (he:emptyB sh l i = false) :
 stX sh l i=begT ((up sh i).length+1) [bs (wordT t.kind),⟨#[32]⟩,t.s]++(lineA [101,110,116,101,114] ((up sh i).length+2) t.en++(lineA [101,120,105,116] ((up sh i).length+2) t.ex++(t.tr.flatMap (lineT ((up sh i).length+2))++((kidN sh i 0).flatMap (stX sh l)++endT ((up sh i).length+1))))):=by
 rw [stX_eq h hi,stT_at sh ht,if_neg (by rw [he]; decide)];unfold shutU;rw [if_pos he];unfold begT headT insT endT;simp [T,bs]
theorem trans_ln (n:Nat) (x:Tt):lnT n [txT x] = lineT n x:=by
 unfold lnT lineT;simp [T]
theorem Qit (sh:List Sh) (l:List Ts) (H:Stand sh l) (hck:ShapeSpec.chk sh = 0) (sA:Option Addr) (n c:Nat) (W0:World) (hS:StsP W0 (.slice sA n c) (l.map Ts.sx)) (hG:SignsIn W0) (b:Nat) (hb:W0.heap.size <= b) (i:Nat) (hi:i < n)
 (IH:∀ k,i < k -> k < n -> ∀ (text:List UInt8) (w:World),Below W0.heap.size W0 w -> WrAt b (((up sh k).length + 1:Nat):Int) text w -> text.length + (stX sh l k).length <= 1000000000 ->
   Calls Tryz.prog 53 #[.pointer (some ⟨b,0,none⟩),.slice sA n c,.int .i64 k] w (RetWr w b (((up sh k).length+1:Nat):Int) (text++stX sh l k)))
 (text:List UInt8) (w:World) (h0:Below W0.heap.size W0 w) (h:WrAt b (((up sh i).length+1:Nat):Int) text w) (hlen:text.length+(stX sh l i).length<=1000000000) :
 Calls Tryz.prog 53 #[.pointer (some ⟨b,0,none⟩),.slice sA n c,.int .i64 i] w (RetWr w b (((up sh i).length+1:Nat):Int) (text++stX sh l i)):=by
 obtain ⟨hn,hc⟩:=hS.len;rw [List.length_map] at hn;have hl:=H.len;obtain ⟨t,ht,hok,-,-,hk1,hk3⟩:=H.at_ (i:=i) (by omega);have hup:=H.deep i (by omega);have hf:=H.few;obtain ⟨bS,off,a3,n3,m3,a4,n4,m4,a5,n5,m5,rfl,hbS,d0,d1,d2,d3,d4,d5,k3,k4,k5⟩:=hS.at_ (i:=i) (s:=t.sx) (by rw [List.getElem?_map,ht]; rfl);have l3:n3=t.en.length:=by rw [k3.len.1]; exact List.length_map _
 have l4:n4=t.ex.length:=by rw [k4.len.1]; exact List.length_map _
 have l5:n5=t.tr.length:=by rw [k5.len.1]; exact List.length_map _
 have c5:=k5.len.2;have hE:=QaX l sh ht;rw [QfW,List.length_map,<- l3,<- l4,<- l5] at hE;have hkl:=kidN_len sh i;have f3:=hok.enf;have f4:=hok.exf;have f5:=hok.trf;have hb3:n3<=8:=by omega
 have hb4:n4<=8:=by omega
 have hb5:n5<=16:=by omega
 have HKC:Hid (∀ W,Below W0.heap.size W0 W -> Calls Tryz.prog 100 #[.slice (some ⟨bS,off,none⟩) n c,.int .i64 i] W (RetRowI W ((kidN sh i 0).map Int.ofNat))):=qh fun W hW => by
  have:=Qi1 (some ⟨bS,off,none⟩) n c sh i W (by rw [H.eq,<- sh_of]; exact (hS.keep hW).sts) (by omega)
  rwa [kidsA_of hck (by omega)] at this
 have hkm:∀ (j k:Nat),(kidN sh i 0)[j]? = some k -> i < k /\ k < n /\ (up sh k).length = (up sh i).length + 1:=fun j k hj => by
  have:=kidN_mem H.su (show i<sh.length by omega) (List.mem_of_getElem? hj);omega
 have hBARE:=fun he hk=>stX_bare (l:=l) H.su (show i<sh.length by omega) ht he hk
 have hFULL:=fun he=>stX_full (l:=l) H.su (show i<sh.length by omega) ht he
 have HIH:=qh (fun (j k:Nat) (hj:(kidN sh i 0)[j]? = some k) (text:List UInt8) (w:World) (a1:Below W0.heap.size W0 w) (a2:WrAt b (((up sh i).length + 1 + 1:Nat):Int) text w) (a3:text.length + (stX sh l k).length <= 1000000000) => (by
  obtain ⟨e1,e2,e3⟩:=hkm j k hj;have:=IH k e1 e2 text w a1 (by rw [e3]; exact a2) a3;rw [e3] at this;exact this:Calls Tryz.prog 53 #[.pointer (some ⟨b,0,none⟩),.slice (some ⟨bS,off,none⟩) n c,.int .i64 k] w (RetWr w b (((up sh i).length+1+1:Nat):Int) (text++stX sh l k))))
 obtain ⟨X,hX⟩:∃ X,X=stX sh l i:=⟨_,rfl⟩;rw [<- hX] at hlen hBARE hFULL ⊢;obtain ⟨ks,hks⟩:∃ ks,ks=kidN sh i 0:=⟨_,rfl⟩;rw [<- hks] at hE hkl HKC hBARE hFULL HIH;obtain ⟨em,hem⟩:∃ em,em=emptyB sh l i:=⟨_,rfl⟩;rw [<- hem] at hE hBARE hFULL;obtain ⟨f,hf'⟩:∃ f,f=stX sh l:=⟨_,rfl⟩;rw [<- hf'] at hFULL HIH;obtain ⟨u,hu⟩:∃ u,u=(up sh i).length:=⟨_,rfl⟩;rw [<- hu] at hup h hBARE hFULL HIH ⊢;have hks60:ks.length<=60:=by omega
 -- the state's own block
 obtain ⟨OB,hOB⟩:∃ OB:Obj,OB = .cells #[.string t.s,.int .i64 t.kind,.int .i64 t.par,.slice a3 n3 m3,.slice a4 n4 m4,.slice a5 n5 m5] 51:=⟨_,rfl⟩;obtain ⟨W1,hW1⟩:∃ W1,w.alloc OB=W1:=⟨_,rfl⟩;have hb1:Below w.heap.size w W1:=by rw [<- hW1]; exact KitC.Qh _ _
 have hkb:W1.heap[w.heap.size]?=some OB:=by rw [<- hW1]; exact heap_alloc_new _ _
 have hlt:=h.lt;have hneb:w.heap.size≠b:=by omega
 rw [hOB] at hW1 hkb;have HKB:=qh hkb;have HW1:=qh hW1;have HB1:=qh hb1;have HB01:=qh (Qa h0 hb1);have HWR1:=qh (h.keep hb1);have HX1:=qh (Wrote.of hlt hb1);have HLT:=qh hlt;have HNE:=qh hneb;have q0:=(h0.cell (p:=⟨bS,off+i*6,none⟩) hbS).trans d0;have q1:=(h0.cell (p:=⟨bS,off+i*6+1,none⟩) hbS).trans d1;have q2:=(h0.cell (p:=⟨bS,off+i*6+2,none⟩) hbS).trans d2;have q3:=(h0.cell (p:=⟨bS,off+i*6+3,none⟩) hbS).trans d3;have q4:=(h0.cell (p:=⟨bS,off+i*6+4,none⟩) hbS).trans d4;have q5:=(h0.cell (p:=⟨bS,off+i*6+5,none⟩) hbS).trans d5;have HA3:=qh (fun W (hW:Below W0.heap.size W0 W)=>k3.keep hW);have HA4:=qh (fun W (hW:Below W0.heap.size W0 W)=>k4.keep hW);have HT5:=qh (fun W (hW:Below W0.heap.size W0 W)=>k5.keep hW);have HG:=qh (fun W (hW:Below W0.heap.size W0 W)=>hG.keep hW);have HB0:=qh hb;have HOK:=qh hok;have HLEN:=qh hlen;have HUP:Hid (u<=11):=qh hup;have HBARE:=qh hBARE;have HFULL:=qh hFULL;have HE:=qh hE;have L5:=qh l5;have i1:(i:Int)<n:=by omega
 have i2:(n:Int)<=c:=by omega
 obtain ⟨nm,kind,par,ten,tex,ttr⟩:=t;simp only [Ts.sx] at q0 q1 q2 HBARE HFULL HKB HW1 HOK L5 HA3 HA4 HT5;clear h hG H ht hok k3 k4 k5 l3 l4 l5 hW1 hb1 hkb hOB OB hX hks hem hf' hu hkm hBARE hFULL IH hS hn hl hf hE hlen hup hlt hneb h0 d0 d1 d2 d3 d4 d5 hkl f3 f4 f5 hck hb;go_enter Tryz.func53,Tryz.ntmps53;go_wp2_with (rw [HW1.o]; go_at_call 100; go_fit (HKC.o _ HB01.o));rintro e2 w2 hx;obtain ⟨A7,n7,c7,rfl,hn7,hrow⟩:=hx;rw [List.length_map] at hn7;have hb2:=hrow.2;have HB2:=qh hb2;have HB02:=qh (Qa HB01.o hb2);have HWR2:=qh (HWR1.o.keep hb2);have HX2:=qh (HX1.o.call HLT.o hb2);have hk2:=KitC.Qe HKB.o hb2;have HK2:=qh hk2;have HROW:=qh hrow;have HN7:=qh hn7;have hn60:n7<=60:=by omega
 have hz2:w.heap.size<w2.heap.size:=(Array.getElem?_eq_some_iff.1 hk2).1;have HZ2:=qh hz2;obtain ⟨p0,p1,p2,p3,p4,p5⟩:=Qc hk2
 have HE2:Hid (em = decide (n3 + n4 + n5 + n7 = 0)):=qh (by
  rw [HE.o,<- hn7]
  by_cases hz:n3+n4+n5+n7=0
  ·have e1:n3 = 0:=by omega
   have e2:n4=0:=by omega
   have e3:n5=0:=by omega
   have e4:n7=0:=by omega
   simp [e1,e2,e3,e4]
  ·rw [decide_eq_false hz]
   by_cases e1:n3=0
   ·by_cases e2:n4 = 0
    ·by_cases e3:n5 = 0
     ·have e4:¬ n7 = 0:=by omega
      simp [e4]
     ·simp [e3]
    ·simp [e2]
   ·simp [e1])
 clear hrow hb2 hk2 hn7 hz2 q0 q1 q2 q3 q4 q5;obtain ⟨wd,hwd⟩:∃ wd,wd=bs (wordT kind):=⟨_,rfl⟩;have HWD:Hid (∀ W,Calls Tryz.prog 101 #[.int .i64 kind] W (SameS W wd)):=qh (fun W=>by rw [hwd]; exact word_any kind W);rw [<- hwd] at HBARE HFULL;clear hwd
 by_cases hz:n3+n4+n5+n7=0
 ·have HXE:Hid (X = lnT (u + 1) [wd,⟨#[32]⟩,nm,⟨#[59]⟩]):=qh (HBARE.o (by rw [HE2.o,decide_eq_true hz]) (List.eq_nil_of_length_eq_zero (by rw [<- HN7.o]; omega)))
  have g1:((n3:Int)+n4+n5+n7==0)=true:=by simp; omega
  have HC:Hid (∀ W k,k = W.heap.size -> WrAt b ((u + 1:Nat):Int) text W -> Calls Tryz.prog 50 #[.pointer (some ⟨b,0,none⟩),.slice (some ⟨k,0,none⟩) 4 4] (W.alloc (.cells #[.string wd,.string ⟨#[32]⟩,.string nm,.string ⟨#[59]⟩] 9)) (RetWr W b ((u + 1:Nat):Int) (text ++ X))):=qh fun W k hk hW => by
   rw [HXE.o];exact ZQ b (u+1) text [wd,⟨#[32]⟩,nm,⟨#[59]⟩] _ k 4 W hk hW rfl rfl (by have:=HUP.o; omega) (by omega) (by have:=HLEN.o; rw [HXE.o] at this; omega)
  have HC2:Hid (Calls Tryz.prog 50 #[.pointer (some ⟨b,0,none⟩),.slice (some ⟨w2.heap.size,0,none⟩) 4 4] (w2.alloc (.cells #[.string wd,.string ⟨#[32]⟩,.string nm,.string ⟨#[59]⟩] 9)).drew (RetWr w2.drew b ((u+1:Nat):Int) (text++X))):=qh (HC.o w2.drew w2.heap.size rfl HWR2.o);clear hz HC HFULL HBARE HIH HA3 HA4 HT5 HG;go_wp2_with fail
  go_region_held3 (fun w' => w'.cell? ⟨w.heap.size,0,none⟩ = some (.string nm) /\ w'.cell? ⟨w.heap.size,1,none⟩ = some (.int .i64 kind)) (go_keep)
   ((first
     | (go_at_call 101; go_fit (HWD.o _); rintro e w' ⟨rfl,rfl⟩)
     | (go_at_call 50; go_fit HC2.o; rintro e w3 ⟨rfl,h3,hx3⟩; have HW3:=qh h3; have HX3:=qh (HX2.o.drew.trans hx3); have hk3:=hx3.at_ (show w2.drew.heap[w.heap.size]? = _ from HK2.o) HNE.o (by decide); obtain ⟨r0,r1,-,-,-,-⟩:=Qc hk3; clear h3 hx3)))
  go_wp2_with fail
  go_end0
  exact ⟨rfl,HW3.o,HX3.o⟩
 ·have he:em = false:=by rw [HE2.o,decide_eq_false hz]
  have hXE:=HFULL.o he;have g1:((n3:Int)+n4+n5+n7==0)=false:=by simp; omega
  obtain ⟨T1,hT1⟩:∃ T1,T1=text++begT (u+1) [wd,⟨#[32]⟩,nm]:=⟨_,rfl⟩;obtain ⟨T2,hT2⟩:∃ T2,T2=T1++lineA [101,110,116,101,114] (u+2) ten:=⟨_,rfl⟩;obtain ⟨T3,hT3⟩:∃ T3,T3=T2++lineA [101,120,105,116] (u+2) tex:=⟨_,rfl⟩;obtain ⟨T4,hT4⟩:∃ T4,T4=T3++ttr.flatMap (lineT (u+2)):=⟨_,rfl⟩;obtain ⟨T5,hT5⟩:∃ T5,T5=T4++ks.flatMap f:=⟨_,rfl⟩;have hTX:text++X=T5++endT (u+1):=by rw [hT5,hT4,hT3,hT2,hT1,hXE]; simp only [List.append_assoc]
  have hL:T5.length + (endT (u + 1)).length <= 1000000000:=by
   have:=HLEN.o;rw [<- List.length_append,hTX,List.length_append] at this;exact this
  have hL4:T4.length+(ks.flatMap f).length<=1000000000:=by rw [hT5,List.length_append] at hL; omega
  have hL3:T3.length+(ttr.flatMap (lineT (u+2))).length<=1000000000:=by rw [hT4,List.length_append] at hL4; omega
  have hL2:T2.length+(lineA [101,120,105,116] (u+2) tex).length<=1000000000:=by rw [hT3,List.length_append] at hL3; omega
  have hL1:T1.length+(lineA [101,110,116,101,114] (u+2) ten).length<=1000000000:=by rw [hT2,List.length_append] at hL2; omega
  have hL0:text.length+(begT (u+1) [wd,⟨#[32]⟩,nm]).length<=1000000000:=by rw [hT1,List.length_append] at hL1; omega
  have HB:Hid (∀ W k,k = W.heap.size -> WrAt b ((u + 1:Nat):Int) text W -> Calls Tryz.prog 49 #[.pointer (some ⟨b,0,none⟩),.slice (some ⟨k,0,none⟩) 3 3] (W.alloc (.cells #[.string wd,.string ⟨#[32]⟩,.string nm] 9)) (RetWr W b ((u + 1 + 1:Nat):Int) T1)):=qh fun W k hk hW => by
   rw [hT1];exact beg_lit b (u+1) text [wd,⟨#[32]⟩,nm] _ k 3 W hk hW rfl rfl (by have:=HUP.o; omega) (by omega) (by omega)
  have HB2c:Hid (Calls Tryz.prog 49 #[.pointer (some ⟨b,0,none⟩),.slice (some ⟨w2.heap.size,0,none⟩) 3 3] (w2.alloc (.cells #[.string wd,.string ⟨#[32]⟩,.string nm] 9)).drew (RetWr w2.drew b ((u+1+1:Nat):Int) T1)):=qh (HB.o w2.drew w2.heap.size rfl HWR2.o);have HTX:=qh hTX;have HT1:=qh hT1;have HT2:=qh hT2;have HT3:=qh hT3;have HT4:=qh hT4;have HT5':=qh hT5;have HL:=qh (And.intro hL (And.intro hL4 (And.intro hL3 (And.intro hL2 hL1))));have HBW2:Hid (Below W0.heap.size W0 w2.drew):=qh (HB02.o.drew);clear hz he hXE hTX hT1 hT2 hT3 hT4 hT5 hL hL4 hL3 hL2 hL1 hL0 HB HFULL HBARE;go_wp2_with fail
  go_region_held3 (fun w' => w'.cell? ⟨w.heap.size,0,none⟩ = some (.string nm) /\ w'.cell? ⟨w.heap.size,1,none⟩ = some (.int .i64 kind)) (go_keep)
   ((first
     | (go_at_call 101; go_fit (HWD.o _); rintro e w' ⟨rfl,rfl⟩)
     | (go_at_call 49; go_fit HB2c.o; rintro e w3 ⟨rfl,h3,hx3⟩; have HW3:=qh h3; have HX3:=qh hx3; have hk3:=hx3.at_ (show w2.drew.heap[w.heap.size]? = _ from HK2.o) HNE.o (by decide); have HK3:=qh hk3; obtain ⟨r0,r1,r2,r3,r4,r5⟩:=Qc hk3; clear h3 hx3 hk3)))
  have HB3:=qh (HBW2.o.trans (HX3.o.below.mono HB0.o));have HX2':=qh (HX2.o.drew.trans HX3.o);clear HB2c HWD p0 p1 p2 p3 p4 p5
  -- the acts
  have HC3:Hid (Calls Tryz.prog 102 #[.pointer (some ⟨b,0,none⟩),.string ⟨#[101,110,116,101,114]⟩,.slice a3 n3 m3] w3 (RetWr w3 b ((u + 2:Nat):Int) T2)):=qh (by
   rw [HT2.o];exact QfF b (u+2) T1 ⟨#[101,110,116,101,114]⟩ a3 n3 m3 ten w3 HW3.o (HA3.o _ HB3.o) HOK.o.en HOK.o.enf (HG.o _ HB3.o) (by have:=HUP.o; omega) (by have:=HL.o.2.2.2.2; exact Nat.le_trans this (by decide)))
  go_wp2_with (go_at_call 102; go_fit HC3.o);rintro e4 w4 ⟨rfl,h4,hx4⟩;have HW4:=qh h4;have HX4:=qh (HX3.o.trans hx4);have hk4:=hx4.at_ HK3.o HNE.o (by decide);have HK4:=qh hk4;have HB4:=qh (HB3.o.trans (hx4.below.mono HB0.o));clear r0 r1 r2 r3 r4 r5 h4 hx4 HC3;obtain ⟨r0,r1,r2,r3,r4,r5⟩:=Qc hk4;clear hk4
  have HC4:Hid (Calls Tryz.prog 102 #[.pointer (some ⟨b,0,none⟩),.string ⟨#[101,120,105,116]⟩,.slice a4 n4 m4] w4 (RetWr w4 b ((u + 2:Nat):Int) T3)):=qh (by
   rw [HT3.o];exact QfF b (u+2) T2 ⟨#[101,120,105,116]⟩ a4 n4 m4 tex w4 HW4.o (HA4.o _ HB4.o) HOK.o.ex HOK.o.exf (HG.o _ HB4.o) (by have:=HUP.o; omega) (by have:=HL.o.2.2.2.1; exact Nat.le_trans this (by decide)))
  go_wp2_with (go_at_call 102; go_fit HC4.o);rintro e5 w5 ⟨rfl,h5,hx5⟩;have HW5:=qh h5;have HX5:=qh (HX4.o.trans hx5);have hk5:=hx5.at_ HK4.o HNE.o (by decide);have HK5:=qh hk5;have HB5:=qh (HB4.o.trans (hx5.below.mono HB0.o));clear r0 r1 r2 r3 r4 r5 h5 hx5 HC4;obtain ⟨r0,r1,r2,r3,r4,r5⟩:=Qc hk5;clear hk5;go_wp2_with fail
  -- the transitions
  go_loopw [9,10,11,63] (fun _ _ _ i wr=>WTrRel w2.drew b ((u+2:Nat):Int) T3 (u+2) n5 ttr i wr) (fun _ _ _ i _=>n5-(intOf i).toNat)
  case atStart=>exact ⟨0,Nat.zero_le _,rfl,by rw [List.take_zero]; simpa using HW5.o,HX5.o⟩
  case round =>
   obtain ⟨k,hk,rfl,hw,hx⟩:=hrel;have HW:=qh hw;have HX:=qh hx;have hbk:=HBW2.o.trans (hx.below.mono HB0.o);have HBK:=qh hbk;have HKW:=qh (hx.at_ (show w2.drew.heap[w.heap.size]?=_ from HK2.o) HNE.o (by decide));clear r0 r1 r2 r3 r4 r5 hw hx;obtain ⟨r0,r1,r2,r3,r4,r5⟩:=Qc HKW.o
   by_cases hlt:k<n5
   ·obtain ⟨x,hx⟩:∃ x,ttr[k]? = some x:=Qp (by rw [<- L5.o]; exact hlt)
    obtain ⟨bt,ot,gA,gn,gc,aA,an,ac,rfl,hbt,e0,e1,e2,e3,htr⟩:=(HT5.o wr hbk).at_ (i:=k) (t:=x.tr) (by rw [List.getElem?_map,hx]; rfl);have hxk:=HOK.o.tr x (List.mem_of_getElem? hx)
    have HP:Hid (Calls Tryz.prog 103 #[.agg #[.string x.ev,.slice gA gn gc,.slice aA an ac,.string x.tg]] (wr.alloc (.cells #[.string x.ev,.slice gA gn gc,.slice aA an ac,.string x.tg] 81)) (RetPut (wr.alloc (.cells #[.string x.ev,.slice gA gn gc,.slice aA an ac,.string x.tg] 81)) (txT x) 0)) :=
     qh (tput_ok x hxk gA gn gc aA an ac _ (QeB hxk) (htr.alloc _) ((HG.o _ hbk).alloc _))
    obtain ⟨ev,hev⟩:∃ ev,ev=x.ev:=⟨_,rfl⟩;obtain ⟨tg,htg⟩:∃ tg,tg=x.tg:=⟨_,rfl⟩;obtain ⟨R,hR⟩:∃ R,R=txT x:=⟨_,rfl⟩;simp only [Tt.tr] at e0 e3;rw [<- hev] at e0;rw [<- htg] at e3;rw [<- hev,<- htg,<- hR] at HP;obtain ⟨f1,f2⟩:=Qc1 (lineT (u+2)) hx;have hLn:=trans_ln (u+2) x;rw [<- hR] at hLn
    have HC:Hid (∀ W k',k' = W.heap.size -> WrAt b ((u + 2:Nat):Int) (T3 ++ (ttr.take k).flatMap (lineT (u + 2))) W -> Calls Tryz.prog 50 #[.pointer (some ⟨b,0,none⟩),.slice (some ⟨k',0,none⟩) 1 1] (W.alloc (.cells #[.string R] 9)) (RetWr W b ((u + 2:Nat):Int) (T3 ++ (ttr.take (k + 1)).flatMap (lineT (u + 2))))):=qh fun W k' hk' hW => by
     have h1:=ZQ b (u+2) _ [R] #[.string R] k' 1 W hk' hW rfl rfl (by have:=HUP.o; omega) (by omega) (by rw [hLn]; have:=HL.o.2.2.1; rw [List.length_append]; omega);rw [hLn,List.append_assoc,<- f1] at h1;exact h1
    clear hx htr hxk hev htg hR f1 f2 hLn hbk;go_wp2_with (go_at_call 103; go_fit HP.o);rintro e7 w7 ⟨rfl,hb7⟩;have HB7:=qh (Qa (KitC.Qh _ _) hb7);have HC7:=qh (HC.o w7 w7.heap.size rfl (HW.o.keep HB7.o));have HX7:=qh (HX.o.trans (Wrote.of HW.o.lt HB7.o));clear hb7 HC;go_wp2_with (go_at_call 50; go_fit HC7.o);rintro e8 w8 ⟨rfl,h8,hx8⟩;have HW8:=qh h8;have HX8:=qh (HX7.o.trans hx8);clear h8 hx8;go_wp2_with fail
    go_roundw
    case rel=>exact ⟨k+1,by omega,by go_num,HW8.o,HX8.o⟩
    case measure=>simp [intOf]; omega
   ·obtain rfl:k = n5:=by omega
    have HW9:Hid (WrAt b ((u + 2:Nat):Int) T4 wr):=qh (by
     have:=HW.o;rw [List.take_of_length_le (by rw [<- L5.o]; exact Nat.le_refl _),<- HT4.o] at this;exact this)
    have HX9:=qh HX.o;clear HW HX hbk r0 r1 r2 r3 r4 r5;go_wp2_with fail
    go_loopw [13,79] (fun _ i wr=>WKdRel w2.drew b ((u+2:Nat):Int) T4 n7 f ks i wr) (fun _ i _=>n7-(intOf i).toNat)
    case atStart=>exact ⟨0,Nat.zero_le _,rfl,by rw [List.take_zero]; simpa using HW9.o,HX9.o⟩
    case round =>
     obtain ⟨j,hj,rfl,hw,hx⟩:=hrel;have HWj:=qh hw;have HXj:=qh hx;have hbj:=HBW2.o.trans (hx.below.mono HB0.o);have HRD:=qh (hx.ints (W:=W1) (v:=.slice A7 n7 c7) (xs:=ks.map Int.ofNat) (show RowI W1 w2.drew _ _ from ⟨HROW.o.1,HROW.o.2.drew⟩) (Nat.lt_of_lt_of_le HLT.o HB1.o.size));clear hw hx
     by_cases hlt:j<n7
     ·obtain ⟨kk,hkk⟩:∃ kk,ks[j]? = some kk:=Qp (by rw [<- HN7.o]; exact hlt)
      obtain ⟨A8,n8,c8,heq,hn8,hc8,hcl⟩:=HRD.o.ints
      cases heq
      obtain ⟨b8,o8,rfl,hb8,hcell⟩:=hcl (by omega);have hcc:wr.cell? ⟨b8,o8+j,none⟩=some (.int .i64 (kk:Int)):=hcell j (Int.ofNat kk) (by rw [List.getElem?_map,hkk]; rfl);obtain ⟨f1,f2⟩:=Qc1 f hkk;have h1:=HIH.o j kk hkk _ wr hbj HWj.o (by have:=HL.o.2.1; rw [List.length_append]; omega);rw [List.append_assoc,<- f1] at h1;have HC:=qh h1;have hjc:(j:Int)<n7:=by omega
      clear hkk hcl hcell f1 f2 h1 hbj hn8;go_wp2_with (go_at_call 53; go_fit HC.o);rintro e8 w8 ⟨rfl,h8,hx8⟩;have HW8:=qh h8;have HX8:=qh (HXj.o.trans hx8);clear h8 hx8;go_wp2_with fail
      go_roundw
      case rel=>exact ⟨j+1,by omega,by go_num,HW8.o,HX8.o⟩
      case measure=>simp [intOf]; omega
     ·obtain rfl:j = n7:=by omega
      have hw5:=HWj.o;rw [List.take_of_length_le (by rw [<- HN7.o]; exact Nat.le_refl _),<- HT5'.o] at hw5;have HC:=qh (Qhh b (u+1) T5 wr hw5 (by have:=HUP.o; omega) (by have:=HL.o.1; omega));clear hw5 hbj HRD;go_wp2_with (go_at_call 54; go_fit HC.o);rintro e8 w8 ⟨rfl,h8,hx8⟩;have HW8:=qh h8;have HX8:=qh (HXj.o.trans hx8);clear h8 hx8;go_wp2_with fail
      go_end0
      exact ⟨rfl,by rw [HTX.o]; exact HW8.o,HX2.o.drew.trans HX8.o⟩
theorem Qjq (sh:List Sh) (l:List Ts) (H:Stand sh l) (hck:ShapeSpec.chk sh = 0) (sA:Option Addr) (n c:Nat) (W0:World) (hS:StsP W0 (.slice sA n c) (l.map Ts.sx)) (hG:SignsIn W0) (b:Nat) (hb:W0.heap.size <= b) :
 ∀ (N i:Nat),n <= i + N -> i < n -> ∀ (text:List UInt8) (w:World),Below W0.heap.size W0 w -> WrAt b (((up sh i).length + 1:Nat):Int) text w -> text.length + (stX sh l i).length <= 1000000000 ->
   Calls Tryz.prog 53 #[.pointer (some ⟨b,0,none⟩),.slice sA n c,.int .i64 i] w (RetWr w b (((up sh i).length+1:Nat):Int) (text++stX sh l i)):=by
 intro N
 induction N with
 | zero => intro i h1 h2; omega
 | succ N ih =>
   intro i h1 h2 text w a1 a2 a3;exact Qit sh l H hck sA n c W0 hS hG b hb i h2 (fun k e1 e2=>ih k (by omega) e2) text w a1 a2 a3
end
section
open Go.RowKit Go.Sort CurSpec TermSpec EvalSpec ActSpec NamesSpec ExprSpec TransSpec SynSpec PrintSpec
open ShapeSpec (Sh up sf endOf SU)
def evTo (l:List ByteArray) (k:Nat):List UInt8:=if k=0 then [] else inT 1++([101,118,101,110,116,32]++sepT (l.take k))
theorem sep_snoc (l:List ByteArray) (s:ByteArray):sepT (l ++ [s]) = (if l = [] then [] else sepT l ++ [44,32]) ++ T s:=by
 unfold sepT
 cases l with
 | nil => simp [Lib.join_one]
 | cons u r =>
   rw [if_neg (by simp)];simp only [List.cons_append,List.map_cons,List.map_append,Lib.join_cons,List.map_nil];unfold Lib.joinTail;simp
theorem ev_next {l:List ByteArray} {k:Nat} {s:ByteArray} (h:l[k]? = some s):evTo l (k + 1) = (if k = 0 then inT 1 ++ [101,118,101,110,116,32] else evTo l k ++ [44,32]) ++ T s:=by
 have hlt:=Ja h;unfold evTo;rw [if_neg (by omega),QA h,sep_snoc]
 by_cases h0:k=0
 ·subst h0
  simp
 ·rw [if_neg h0,if_neg h0,if_neg (fun e => by have e2:(l.take k).length = 0:=(by rw [e]; rfl); rw [List.length_take] at e2; omega)]
  simp
theorem ev_done {l:List ByteArray} (h:l ≠ []):evTo l l.length ++ [59,10] = PrintSpec.evT l:=by
 unfold evTo PrintSpec.evT;rw [if_neg (fun e=>h (List.eq_nil_of_length_eq_zero e)),if_neg h,List.take_length];simp
theorem ev_nil {l:List ByteArray} (h:l.length = 0):evTo l 0 = PrintSpec.evT l:=by
 unfold evTo PrintSpec.evT;rw [if_pos rfl,if_pos (List.eq_nil_of_length_eq_zero h)]
theorem evTo_len {l:List ByteArray} (h:∀ e ∈ l,isName e.data.toList = true) {k:Nat} (hk:k <= l.length):(evTo l k).length <= 8 + 14 * k:=by
 unfold evTo
 split
 ·simp
 ·have:=(sep_w (l:=l.take k) fun e he => h e (List.mem_of_mem_take he)).1
  rw [List.length_take] at this;simp only [List.length_append,Jb,List.length_cons,List.length_nil];omega
theorem var_next {l:List Vr} {k:Nat} {v:Vr} (h:l[k]? = some v):(l.take (k + 1)).flatMap varT = (l.take k).flatMap varT ++ varT v:=by
 rw [QA h,List.flatMap_append];simp
section
variable (sh:List Sh) (l:List Ts)
def stsTo (k:Nat):List UInt8:=(List.range k).flatMap fun i=>PrintSpec.stT sh l i++closT sh l i
theorem QiC (k:Nat):stsTo sh l (k + 1) = stsTo sh l k ++ (PrintSpec.stT sh l k ++ closT sh l k):=by
 unfold stsTo;rw [List.range_succ,List.flatMap_append];simp
theorem Qfi:stsTo sh l l.length=stsT sh l:=rfl
def closTo (i k:Nat):List UInt8:=((sf sh i).take k).flatMap (oneT sh l i)
theorem Qhz {i k j:Nat} (h:(sf sh i)[k]? = some j):closTo sh l i (k + 1) = closTo sh l i k ++ oneT sh l i j:=by
 unfold closTo;rw [QA h,List.flatMap_append];simp
theorem QiF (i:Nat):closTo sh l i (sf sh i).length=closT sh l i:=by unfold closTo closT; rw [List.take_length]
end
theorem wA_le {ts:List Ta} (h:∀ t ∈ ts,t.Ok):wA ts <= 41 * ts.length:=by
 induction ts with
 | nil => simp [wA]
 | cons a r ih =>
   have h1:=ih fun t ht=>h t (by simp [ht])
   have h2:a.ac.x.length <= 40:=by
    unfold Ta.ac
    rcases ha:a.any with _ | _
    ·exact Qgu (h a (by simp)) ha
    ·simp
   unfold wA at h1 ⊢;rw [List.map_cons,List.sum_cons,List.length_cons];omega
theorem wT_le {x:Tt} (h:x.Ok):wT x <= 369:=by
 have h1:=wA_le h.ts;have h2:=h.few
 have h3:(gFlat x.g).length <= 40:=by
  have hg:=h.g
  cases hx:x.g with
  | none => simp [gFlat]
  | some e => exact QbM (hg e hx).2
 unfold wT;omega
theorem sum_le {α:Type} (f:α -> Nat) (A:Nat):∀ {L:List α},(∀ x ∈ L,f x <= A) -> (L.map f).sum <= A * L.length
 | [],_ => by simp
 | x :: r,h => by
   have h1:=h x (by simp);have h2:=sum_le f A (L:=r) fun y hy=>h y (by simp [hy])
   rw [List.map_cons,List.sum_cons,List.length_cons,Nat.mul_add];omega
theorem wS_le {t:Ts} (h:t.Ok):wS t <= 6560:=by
 have h1:=wA_le h.en;have h2:=wA_le h.ex;have h3:=sum_le wT 369 (L:=t.tr) fun x hx=>wT_le (h.tr x hx)
 have:=h.enf;have:=h.exf;have:=h.trf;unfold wS;omega
section
variable {sh:List Sh} {l:List Ts}
theorem Qfp (H:Stand sh l) {i:Nat} (hi:i < sh.length):(PrintSpec.stT sh l i ++ closT sh l i).length <= 460000:=by
 have h1:=(stT_w H hi).1;obtain ⟨t,ht,hok,-⟩:=H.at_ hi;rw [ht] at h1;simp only [Option.elim] at h1;have:=wS_le hok;omega
theorem Qfh (H:Stand sh l) {k:Nat} (hk:k <= sh.length):(stsTo sh l k).length <= 460000 * k:=by
 have:=Zk (fun i => PrintSpec.stT sh l i ++ closT sh l i) (fun _ => 0) 460000 0 (L:=List.range k) fun i hi => by
  have:=Qfp H (i:=i) (by have:=List.mem_range.1 hi; omega);omega
 rw [List.length_range] at this;unfold stsTo;omega
theorem Qjh (H:Stand sh l) {i:Nat} (hi:i < sh.length) (k:Nat):(closTo sh l i k).length <= 312:=by
 have h2:(sf sh i).length<=12:=by have:=H.deep i hi; show (up sh i).length+1<=12; omega
 have:=Zk (oneT sh l i) (fun _ => 0) 26 0 (L:=(sf sh i).take k) fun j hj => by
  have hj':=H.deep j (by have:=ShapeSpec.Qaf (List.mem_of_mem_take hj); omega);unfold oneT
  split
  ·simp only [List.length_append,List.length_cons,List.length_nil,Jb]; omega
  ·simp
 rw [List.length_take] at this;unfold closTo;omega
end
theorem var_bs (P:ByteArray) (v:Vr):P ++ bs (varT v) = P ++ ⟨#[32,32,118,97,114,32]⟩ ++ v.s ++ ⟨#[32]⟩ ++ bs (ValSpec.text v.lo) ++ ⟨#[32,46,46,32]⟩ ++ bs (ValSpec.text v.hi) ++ ⟨#[32,61,32]⟩ ++ bs (ValSpec.text v.ini) ++ ⟨#[59,10]⟩:=by
 rw [show (⟨#[32,32,118,97,114,32]⟩:ByteArray)=bs [32,32,118,97,114,32] from rfl,show (⟨#[32]⟩:ByteArray)=bs [32] from rfl,show (⟨#[32,46,46,32]⟩:ByteArray)=bs [32,46,46,32] from rfl,show (⟨#[32,61,32]⟩:ByteArray)=bs [32,61,32] from rfl,show (⟨#[59,10]⟩:ByteArray)=bs [59,10] from rfl]
 conv=>rhs; rw [<- bsT v.s]
 simp only [ByteArray.append_assoc,QX]
 congr 2
 simp [varT,inT,List.replicate]
theorem one_yes {sh:List Sh} {l:List Ts} {i j:Nat} (h1:endOf sh j = i + 1) (h2:emptyB sh l j = false) (P:ByteArray):P ++ bs (oneT sh l i j) = P ++ bs (inT ((up sh j).length + 1)) ++ ⟨#[125,10]⟩:=by
 unfold oneT;rw [if_pos ⟨h1,h2⟩,show (⟨#[125,10]⟩:ByteArray)=bs [125,10] from rfl,ByteArray.append_assoc,QX]
 rfl
theorem one_no {sh:List Sh} {l:List Ts} {i j:Nat} (h:¬ (endOf sh j = i + 1 /\ emptyB sh l j = false)) (P:ByteArray):P ++ bs (oneT sh l i j) = P:=by
 unfold oneT;rw [if_neg h];exact J3 P
end
section
open Go.RowKit Go.Sort CurSpec TermSpec EvalSpec ActSpec NamesSpec ExprSpec TransSpec SynSpec PrintSpec
open ShapeSpec (Sh up sf endOf SU)
set_option maxRecDepth 100000
theorem QiT:Tryz.prog.cellsOf 5=1:=by kernel_rfl
theorem wstr_any (b:Nat) (n:Int) (l:List UInt8) (w:World) (h:WrAt b n l w) (h0:l ≠ []) :
 Calls Tryz.prog 55 #[.pointer (some ⟨b,0,none⟩)] w fun e w'=>e = .returned (.string (bs l))/\Below b w w':=by
 obtain ⟨p,v,hbk,hown,hne⟩:∃ p,WrP b p n l w:=by
  rcases h with h | h
  ·exact ⟨_,h⟩
  ·exact ⟨_,h⟩
 have hl0:l.length≠0:=by simpa using h0
 have hcs:=hown
 obtain ⟨g,cap,cur,rfl,hbg,hg,hnc,hcm,hcsz,htake⟩:∃ g cap cur,v = .slice (some ⟨g,0,none⟩) l.length cap /\ b <= g /\ w.heap[g]? = some (.cells cur 5 (0,0)) /\ l.length <= cap /\ cap <= maxLen /\ cur.size = cap * 1 /\ cur.toList.take (l.length * 1) = Lib.byteCells l:=by
  rcases hown.2 with ⟨_,hz⟩ | ⟨g,cap,cur,hv,r⟩
  ·exact absurd hz hl0
  ·exact ⟨g,cap,cur,hv,r⟩
 have c1:w.drew.cell? ⟨b,1,none⟩=some (.slice (some ⟨g,0,none⟩) l.length cap):=Qb (show w.drew.heap[b]?=_ from hbk) (i:=1) rfl
 have hSD:(Builtin.unsafeSliceData_ #[97] 156 #[.slice (some ⟨g,0,none⟩) l.length cap]).run Tryz.prog w.drew = .ok (.pointer (some ⟨g,0,none⟩)) w.drew :=
  Lib.run_unsafeSliceData_row _ _ _ _ _ _ (by omega)
 have hUS:(Builtin.unsafeString_ #[156,3] 9 #[.pointer (some ⟨g,0,none⟩),.int .i64 l.length]).run Tryz.prog w.drew = .ok (.string ⟨l.toArray⟩) (w.drew.freeze ⟨g,0,none⟩ l.length):=by
  refine Lib.run_unsafeString_row w.drew 156 3 9 5 Tryz.underlying156 QiT g cur.size (by have hg':w.drew.heap[g]?=some (.cells cur 5 (0,0)):=hg; simp [World.shape?,hg']) l h0 (by omega) (by unfold maxLen at hcm; omega) ?_;intro j x hx;exact hcs.cells (g:=g) rfl j (.int .u8 x.toNat) (by simp [Lib.byteCells,hx])
 have HG:=qh hbg;clear h hbk hown hne h0 hl0 hcs hg hnc hcm hcsz htake hbg;go_enter Tryz.func55,Tryz.ntmps55;go_wp2;go_region
 all_goals (go_wp2; go_ret; exact ⟨rfl,Lib.below_freeze (Below.drew (Below.refl b w)) (p:=⟨g,0,none⟩) HG.o _⟩)
theorem head_ln (s:ByteArray):begT 0 [⟨#[99,104,97,114,116,32]⟩,s] = inT 0 ++ (([99,104,97,114,116] ++ (32 :: (T s ++ [32,123]))) ++ [10]):=by
 unfold begT;simp [T]
theorem ev_ln {l:List ByteArray} (h:l ≠ []):lnT 1 [⟨#[101,118,101,110,116,32]⟩,bs (sepT l),⟨#[59]⟩] = PrintSpec.evT l:=by
 unfold lnT PrintSpec.evT;rw [if_neg h];simp [T,bs]
theorem var_ln (v:Vr):lnT 1 [⟨#[118,97,114,32]⟩,v.s,⟨#[32]⟩,bs (ValSpec.text v.lo),⟨#[32,46,46,32]⟩,bs (ValSpec.text v.hi),⟨#[32,61,32]⟩,bs (ValSpec.text v.ini),⟨#[59]⟩] = varT v:=by
 unfold lnT varT;simp [T,bs]
theorem QiD {c:Tc} (h:c.Ok):putC c = begT 0 [⟨#[99,104,97,114,116,32]⟩,c.s] ++ PrintSpec.evT c.evs ++ c.vars.flatMap varT ++ stX c.sh c.sts 0 ++ endT 0:=by
 have H:=h.stand;have hpos:0<c.sh.length:=(ShapeSpec.Qa7 (ShapeSpec.ZE h.sh).2.1).1;unfold putC;rw [head_ln,stsT_X H.su H.len hpos];unfold endT;simp only [List.append_assoc]
theorem putC_len {c:Tc} (h:c.Ok):(putC c).length <= 100000000:=by
 have H:=h.stand;have hl:=H.len;have hf:=H.few;have s1:=Qfh H (k:=c.sh.length) (Nat.le_refl _);rw [hl,Qfi] at s1;have n1:=QG h.nm;have hT:(T c.s).length=c.s.size:=rfl
 have e1:(PrintSpec.evT c.evs).length <= 130:=by
  obtain ⟨a,-⟩:=sep_w h.evs;have:=h.evf;unfold PrintSpec.evT
  by_cases h0:c.evs=[]
  ·rw [if_pos h0]; simp
  ·rw [if_neg h0]
   simp only [List.length_append,List.length_cons,List.length_nil,Jb];omega
 have v1:=Zk varT (fun _=>0) 70 0 (L:=c.vars) fun v hv=>by have:=(var_w (h.vars v hv)).1; omega
 have hv:=h.vaf;unfold putC;simp only [List.length_append,List.length_cons,List.length_nil,Jb];omega
def WVaRel (W:World) (b:Nat) (T0:List UInt8) (m:Nat) (l:List Vr) (i:Value) (wr:World):Prop:=∃ k:Nat,k<=m/\i = .int .i64 k/\WrAt b ((0+1:Nat):Int) (T0++(l.take k).flatMap varT) wr/\Wrote b W wr
def WCut (W:World) (b:Nat) (T0:List UInt8) (wr:World):Prop:=WrAt b ((0+1:Nat):Int) T0 wr/\Wrote b W wr
theorem join_evs {A:Option Addr} {n c:Nat} {l:List ByteArray} {w:World} (h:Rd w (.slice A n c) (strV l)) (h8:l.length <= 8) (hl:(sepT l).length <= 1000):Calls Tryz.prog 51 #[.slice A n c,.string ⟨#[44,32]⟩] w (RetS w (bs (sepT l))):=by
 obtain ⟨A',n',c',heq,hn,hc,hA⟩:=h.strs
 cases heq
 rcases Nat.eq_zero_or_pos n with h0 | h0
 ·subst h0
  obtain rfl:l=[]:=List.eq_nil_of_length_eq_zero hn;exact (Tryz.strings_Join_none A c _ w).mono fun e w' ⟨he,hw⟩=>⟨he,by rw [hw]; exact Below.refl _ _⟩
 ·obtain ⟨b,off,rfl,hb,hcell⟩:=hA h0
  subst hn;exact Tryz.strings_Join b off c l ⟨#[44,32]⟩ w hcell hb (by omega) hc (Nat.le_trans hl (by decide))
theorem wtext_any (c:Tc) (eA:Option Addr) (en ec:Nat) (vA:Option Addr) (vn vc:Nat) (sA:Option Addr) (sn sc:Nat) (w:World) (h:ChIn w (.slice eA en ec) (.slice vA vn vc) (.slice sA sn sc) c.cx) (ok:c.Ok) (hg:SignsIn w) :
 Calls Tryz.prog 24 #[.agg #[.string c.s,.slice eA en ec,.slice vA vn vc,.slice sA sn sc]] w (RetS w (bs (putC c))):=by
 have H:=ok.stand;have hl:=H.len;obtain ⟨hvn,hvc⟩:=RdV.len h.vars;obtain ⟨hsn,hsc⟩:=h.sts.len;have hsn':sn=c.sts.length:=by rw [hsn]; exact List.length_map _
 have hen:en=c.evs.length:=by obtain ⟨_,_,_,heq,hn,_⟩:=Rd.strs h.evs; cases heq; exact hn.symm
 have hpos:0<c.sh.length:=(ShapeSpec.Qa7 (ShapeSpec.ZE ok.sh).2.1).1;have hup:up c.sh 0=[]:=ShapeSpec.Qdg (by rw [H.su.root hpos]; omega);have hPT:=QiD ok;have hPL:=putC_len ok;obtain ⟨W1,hW1⟩:∃ W1,w.alloc (.cells #[.string c.s,.slice eA en ec,.slice vA vn vc,.slice sA sn sc] 34)=W1:=⟨_,rfl⟩;have hb1:Below w.heap.size w W1:=by rw [<- hW1]; exact KitC.Qh _ _
 have hk1:W1.heap[w.heap.size]?=some (.cells #[.string c.s,.slice eA en ec,.slice vA vn vc,.slice sA sn sc] 34 (0,0)):=by rw [<- hW1]; exact heap_alloc_new _ _
 obtain ⟨W2,hW2⟩:∃ W2,W1.alloc (.cells #[.pointer none,.slice none 0 0,.int .i64 0] 101)=W2:=⟨_,rfl⟩;have hb2:Below W1.heap.size W1 W2:=by rw [<- hW2]; exact KitC.Qh _ _
 obtain ⟨b,hb⟩:∃ b,b=W1.heap.size:=⟨_,rfl⟩;have hwr:WrAt b 0 [] W2:=by rw [<- hW2,hb]; exact wr_new W1
 rw [<- hb] at hb2;have HK:=qh (fun W (hW:Below b W1 W)=>Qi (KitC.Qe hk1 (by rw [<- hb]; exact hW)));have HCH:=qh (fun W (hW:Below b W1 W)=>h.keep (Qa hb1 (by rw [<- hb]; exact hW)));have HEV:=qh (fun W (hW:Below b W1 W)=>join_evs (A:=eA) (n:=en) (c:=ec) (l:=c.evs) ((h.keep (Qa hb1 (by rw [<- hb]; exact hW))).evs) ok.evf (by have:=(sep_w ok.evs).1; have:=ok.evf; omega))
 have HST:Hid (∀ (text:List UInt8) (w':World),Below b W1 w' -> WrAt b ((0 + 1:Nat):Int) text w' -> text.length + (stX c.sh c.sts 0).length <= 1000000000 ->
  Calls Tryz.prog 53 #[.pointer (some ⟨b,0,none⟩),.slice sA sn sc,.int .i64 0] w' (RetWr w' b ((0+1:Nat):Int) (text++stX c.sh c.sts 0))):=qh fun text w' a1 a2 a3=>by
  have:=Qjq c.sh c.sts H ok.sh sA sn sc W1 (h.keep hb1).sts (hg.keep hb1) b (by omega) sn 0 (by omega) (by omega) text w' (by rw [<- hb]; exact a1) (by rw [hup]; exact a2) a3;rw [hup] at this;exact this
 have HVAR:=qh (fun v (hv:v∈c.vars)=>ok.vars v hv);have HVN:=qh hvn;have HW1:=qh hW1;have HW2:=qh hW2;have HB1:=qh hb1;have HB2:=qh hb2;have HBB:=qh hb;have hv4:=ok.vaf;have hvn4:vn<=4:=by rw [hvn]; exact hv4
 obtain ⟨s,evs,vars,sts⟩:=c;simp only [Tc.cx] at hPT HK HCH HEV HST HVAR HVN HW1 hen hvn;obtain ⟨T1,hT1⟩:∃ T1,T1=begT 0 [⟨#[99,104,97,114,116,32]⟩,s]:=⟨_,rfl⟩;obtain ⟨T2,hT2⟩:∃ T2,T2=T1++PrintSpec.evT evs:=⟨_,rfl⟩;obtain ⟨T3,hT3⟩:∃ T3,T3=T2++vars.flatMap varT:=⟨_,rfl⟩;obtain ⟨X,hX⟩:∃ X,X=stX (Tc.sh ⟨s,evs,vars,sts⟩) sts 0:=⟨_,rfl⟩;rw [<- hX] at HST hPT;obtain ⟨T4,hT4⟩:∃ T4,T4=T3++X:=⟨_,rfl⟩;have hTX:putC ⟨s,evs,vars,sts⟩=T4++endT 0:=by rw [hPT,hT4,hT3,hT2,hT1]
 obtain ⟨R,hR⟩:∃ R,R=bs (putC ⟨s,evs,vars,sts⟩):=⟨_,rfl⟩;rw [<- hR];rw [hTX] at hPL hR;rw [List.length_append] at hPL;have hL3:T3.length+X.length<=100000000:=by rw [hT4,List.length_append] at hPL; omega
 have hL2:T2.length+(vars.flatMap varT).length<=100000000:=by rw [hT3,List.length_append] at hL3; omega
 have hL1:T1.length+(PrintSpec.evT evs).length<=100000000:=by rw [hT2,List.length_append] at hL2; omega
 have HBG:Hid (Calls Tryz.prog 49 #[.pointer (some ⟨b,0,none⟩),.slice (some ⟨W2.heap.size,0,none⟩) 2 2] (W2.alloc (.cells #[.string ⟨#[99,104,97,114,116,32]⟩,.string s] 9)) (RetWr W2 b ((0 + 1:Nat):Int) T1)):=qh (by
  have h1:=beg_lit b 0 [] [⟨#[99,104,97,114,116,32]⟩,s] _ W2.heap.size 2 W2 rfl hwr rfl rfl (by omega) (by omega) (by rw [<- hT1]; show 0+_<=_; omega);rw [<- hT1] at h1;exact h1)
 have hbw:w.heap.size+1=b:=by rw [hb,<- hW1]; simp
 have HBW:=qh hbw;have HEN:=qh hen;have HR:=qh hR;have HT2:=qh hT2;have HT3:=qh hT3;have HT4:=qh hT4;have HL:=qh (And.intro hPL (And.intro hL3 (And.intro hL2 hL1)));have HEL:=qh (fun (hne:evs≠[])=>ev_ln hne);have hBe:Below b W1 W2:=hb2;have HKB:Hid (∀ W,Wrote b W2 W->Below b W1 W):=qh fun W hW=>hBe.trans hW.below
 clear h ok hg H hl hvn hvc hsn hsc hsn' hen hpos hup hPT hPL hW1 hb1 hk1 hW2 hb2 hwr hb hv4 hT1 hT2 hT3 hX hT4 hTX hR hL3 hL2 hL1 hbw hBe;go_enter Tryz.func24,Tryz.ntmps24;go_upto_region 2 with fail;rw [HW1.o,HW2.o,HBW.o];obtain ⟨c0,c1,c2,c3⟩:=HK.o W2 HB2.o;go_wp2_with (go_at_call 49; go_fit HBG.o);rintro e3 w3 ⟨rfl,h3,hx3⟩;have HW3:=qh h3;have HX3:=qh hx3;clear c0 c1 c2 c3;obtain ⟨c0,c1,c2,c3⟩:=HK.o w3 (HKB.o _ hx3);have HE3:=qh (HEV.o w3 (HKB.o _ hx3));clear h3 hx3 HBG HEV;go_upto_if 13 with fail
 go_cut [] from 13 (fun wx=>WCut W2 b T2 wx)
 case first =>
  rcases Nat.eq_zero_or_pos en with h0 | h0
  ·have hE:evs = []:=List.eq_nil_of_length_eq_zero (by rw [<- HEN.o]; exact h0)
   have HW4:Hid (WrAt b ((0 + 1:Nat):Int) T2 w3):=qh (by
    have:=HW3.o;rw [HT2.o,hE]
    simpa [PrintSpec.evT] using this)
   have g0:decide (0<en)=false:=decide_eq_false (by omega);rw [g0];clear hE h0 g0;go_wp2_with fail;go_meet;exact ⟨HW4.o,HX3.o⟩
  ·have hE:evs ≠ []:=fun e => by have:=HEN.o; rw [e] at this; simp at this; omega
   have hEL:=HEL.o hE;have g0:decide (0<en)=true:=decide_eq_true h0;obtain ⟨J,hJ⟩:∃ J,J=bs (sepT evs):=⟨_,rfl⟩;rw [<- hJ] at hEL HE3
   have HC:Hid (∀ W,Below w3.heap.size w3 W -> Calls Tryz.prog 50 #[.pointer (some ⟨b,0,none⟩),.slice (some ⟨W.heap.size,0,none⟩) 3 3] (W.alloc (.cells #[.string ⟨#[101,118,101,110,116,32]⟩,.string J,.string ⟨#[59]⟩] 9)) (RetWr W b ((0 + 1:Nat):Int) T2)):=qh fun W hW => by
    have h1:=ZQ b 1 T1 [⟨#[101,118,101,110,116,32]⟩,J,⟨#[59]⟩] _ W.heap.size 3 W rfl (HW3.o.keep hW) rfl rfl (by omega) (by omega) (by rw [hEL]; have:=HL.o.2.2.2; omega);rw [hEL,<- HT2.o] at h1;exact h1
   rw [g0];clear hE hEL h0 g0 hJ;go_wp2_with (go_at_call 51; go_fit HE3.o);rintro e4 w4 ⟨rfl,hb4⟩;have HB4:=qh hb4;clear hb4;go_wp2_with (go_at_call 50; go_fit (HC.o _ HB4.o));rintro e5 w5 ⟨rfl,h5,hx5⟩;have HW5:=qh h5;have HX5:=qh ((HX3.o.trans (Wrote.of HW3.o.lt HB4.o)).trans hx5);clear h5 hx5;go_wp2_with fail;go_meet;exact ⟨HW5.o,HX5.o⟩
 case rest =>
  obtain ⟨hw,hx⟩:=hcut;have HW:=qh hw;have HX:=qh hx;clear c0 c1 c2 c3;obtain ⟨c0,c1,c2,c3⟩:=HK.o _ (HKB.o _ hx);clear hw hx HE3 HW3 HX3 HEL;go_wp2_with fail
  go_loopw [5,22] (fun _ i wr=>WVaRel W2 b T2 vn vars i wr) (fun _ i _=>vn-(intOf i).toNat)
  case atStart=>exact ⟨0,Nat.zero_le _,rfl,by rw [List.take_zero]; simpa using HW.o,HX.o⟩
  case round =>
   obtain ⟨k,hk,rfl,hw,hx⟩:=hrel;have HWk:=qh hw;have HXk:=qh hx;have hbk:=HKB.o _ hx;have HBK:=qh hbk;clear c0 c1 c2 c3 hw hx;obtain ⟨c0,c1,c2,c3⟩:=HK.o _ hbk
   by_cases hlt:k<vn
   ·obtain ⟨v,hv⟩:∃ v,vars[k]? = some v:=Qp (by rw [<- HVN.o]; exact hlt)
    obtain ⟨bv,ov,rfl,hbv,d0,d1,d2,d3⟩:=(RdV.vars (HCH.o wr hbk).vars).at_ hv;have hok:=HVAR.o v (List.mem_of_getElem? hv);simp only [okV,Bool.and_eq_true] at hok;obtain ⟨-,o2,o3,o4⟩:=hok;have b2:=Zd o2;have b3:=Zd o3;have b4:=Zd o4;have hln:=var_ln v;obtain ⟨f1,f2⟩:=Qc1 varT hv;obtain ⟨nm,lo,hi,ini⟩:=v;simp only at d0 d1 d2 d3 hln b2 b3 b4;obtain ⟨y2,hy2⟩:∃ y,y=bs (ValSpec.text lo):=⟨_,rfl⟩;obtain ⟨y3,hy3⟩:∃ y,y=bs (ValSpec.text hi):=⟨_,rfl⟩;obtain ⟨y4,hy4⟩:∃ y,y=bs (ValSpec.text ini):=⟨_,rfl⟩;have HL2:Hid (∀ W,Calls Tryz.prog 52 #[.int .i64 lo] W (RetS W y2)):=qh fun W=>by rw [hy2]; exact Qdx lo W (by omega) (by omega)
    have HL3:Hid (∀ W,Calls Tryz.prog 52 #[.int .i64 hi] W (RetS W y3)):=qh fun W=>by rw [hy3]; exact Qdx hi W (by omega) (by omega)
    have HL4:Hid (∀ W,Calls Tryz.prog 52 #[.int .i64 ini] W (RetS W y4)):=qh fun W=>by rw [hy4]; exact Qdx ini W (by omega) (by omega)
    rw [<- hy2,<- hy3,<- hy4] at hln;obtain ⟨OV,hOV⟩:∃ OV:Obj,OV = .cells #[.string nm,.int .i64 lo,.int .i64 hi,.int .i64 ini] 46:=⟨_,rfl⟩;have hkv:=heap_alloc_new wr OV;rw [hOV] at hkv;have HKV:=qh (fun W (hW:Below (wr.alloc OV).heap.size (wr.alloc OV) W)=>Qi (KitC.Qe (by rw [hOV]; exact hkv) hW))
    have HC:Hid (∀ W,Below wr.heap.size wr W -> Calls Tryz.prog 50 #[.pointer (some ⟨b,0,none⟩),.slice (some ⟨W.heap.size,0,none⟩) 9 9] (W.alloc (.cells #[.string ⟨#[118,97,114,32]⟩,.string nm,.string ⟨#[32]⟩,.string y2,.string ⟨#[32,46,46,32]⟩,.string y3,.string ⟨#[32,61,32]⟩,.string y4,.string ⟨#[59]⟩] 9)) (RetWr W b ((0 + 1:Nat):Int) (T2 ++ (vars.take (k + 1)).flatMap varT))):=qh fun W hW => by
     have h1:=ZQ b 1 _ [⟨#[118,97,114,32]⟩,nm,⟨#[32]⟩,y2,⟨#[32,46,46,32]⟩,y3,⟨#[32,61,32]⟩,y4,⟨#[59]⟩] _ W.heap.size 9 W rfl (HWk.o.keep hW) rfl rfl (by omega) (by omega) (by rw [hln]; have:=HL.o.2.2.1; rw [List.length_append]; omega);rw [hln,List.append_assoc,<- f1] at h1;exact h1
    have HBL:=qh (fun W (hW:Below (wr.alloc OV).heap.size (wr.alloc OV) W)=>KitC.Qe (by rw [hOV]; exact hkv:(wr.alloc OV).heap[wr.heap.size]?=some OV) hW);have HNEB:Hid (wr.heap.size≠b):=qh (by have:=HWk.o.lt; omega);rw [hOV] at HKV HBL;obtain ⟨s0,s1,s2,s3⟩:=Qi hkv;clear hv o2 o3 o4 b2 b3 b4 hln f1 f2 hy2 hy3 hy4 hOV OV hkv hbk;go_wp2_with fail
    go_region_held3 (fun w' => w'.cell? ⟨wr.heap.size,0,none⟩ = some (.string nm) /\ w'.cell? ⟨wr.heap.size,1,none⟩ = some (.int .i64 lo) /\ w'.cell? ⟨wr.heap.size,2,none⟩ = some (.int .i64 hi) /\ w'.cell? ⟨wr.heap.size,3,none⟩ = some (.int .i64 ini)) (go_keep)
     ((first
       | (go_at_call 52; go_fit (HL2.o _); rintro e q1 ⟨rfl,hb'⟩; have HQ1:=qh (undrawn hb'); obtain ⟨t0,t1,t2,t3⟩:=HKV.o _ HQ1.o; clear hb')
       | (go_at_call 52; go_fit (HL3.o _); rintro e q2 ⟨rfl,hb'⟩; have HQ2:=qh (Qa HQ1.o hb'); obtain ⟨x0,x1,x2,x3⟩:=HKV.o _ HQ2.o; clear hb')
       | (go_at_call 52; go_fit (HL4.o _); rintro e q3 ⟨rfl,hb'⟩; have HQ3:=qh (Qa HQ2.o hb'); obtain ⟨z0,z1,z2,z3⟩:=HKV.o _ HQ3.o; have HQ:=qh (Qa (KitC.Qh wr _) HQ3.o); have HC3:=qh (HC.o _ HQ.o); clear hb')
       | (go_at_call 50; go_fit HC3.o; rintro e q4 ⟨rfl,h4,hx4⟩; have HW4:=qh h4; have HX4:=qh ((HXk.o.trans (Wrote.of HWk.o.lt HQ.o)).trans hx4); obtain ⟨v0,v1,v2,v3⟩:=Qi (hx4.at_ (HBL.o _ HQ3.o) HNEB.o (by decide)); clear h4 hx4)))
    go_wp2_with fail
    go_roundw
    case rel=>exact ⟨k+1,by omega,by go_num,HW4.o,HX4.o⟩
    case measure=>simp [intOf]; omega
   ·obtain rfl:k = vn:=by omega
    have HW9:Hid (WrAt b ((0 + 1:Nat):Int) T3 wr):=qh (by
     have:=HWk.o;rw [List.take_of_length_le (by rw [<- HVN.o]; exact Nat.le_refl _),<- HT3.o] at this;exact this)
    have HCS:=qh (HST.o T3 wr hbk HW9.o (by have:=HL.o.2.1; omega));clear HWk hbk;go_wp2_with (go_at_call 53; go_fit HCS.o);rintro e5 w5 ⟨rfl,h5,hx5⟩;rw [<- HT4.o] at h5;have HW5:=qh h5;have HX5:=qh (HXk.o.trans hx5);have HCE:=qh (Qhh b 0 T4 w5 h5 (by omega) (by have:=HL.o.1; omega));clear h5 hx5;go_wp2_with (go_at_call 54; go_fit HCE.o);rintro e6 w6 ⟨rfl,h6,hx6⟩;have HX6:=qh (HX5.o.trans hx6);have hne:T4++endT 0≠[]:=by unfold endT; simp
    have HCW:=qh (wstr_any b _ _ w6 h6 hne);rw [<- HR.o] at HCW;clear h6 hx6 hne;go_wp2_with (go_at_call 55; go_fit HCW.o);rintro e7 w7 ⟨rfl,hb7⟩;have HB7:=qh (HB1.o.trans (((HKB.o _ HX6.o).trans hb7).mono (by have:=HBW.o; omega)));clear hb7;go_wp2_with fail;go_ret;exact ⟨rfl,HB7.o⟩
end
section
open Go.RowKit Go.Sort CurSpec TermSpec EvalSpec ActSpec NamesSpec ExprSpec TransSpec SynSpec ScanSpec PrintSpec
set_option maxRecDepth 100000
theorem cx_evs {W:World} {x:Cx} {eA:Option Addr} {en ec:Nat} {v t:Value} (h:ChIn W (.slice eA en ec) v t x):en = x.evs.length:=by
 obtain ⟨_,_,_,heq,hn,_⟩:=Rd.strs h.evs
 cases heq
 exact hn.symm
theorem toks_bad {s:ByteArray} {W w:World} {e:Ending} (h:TokPost W s e w) (h0:(scanT s.data.toList).2.2 ≠ 0) :
 ∃ a c er:Int,e = .returned (.tuple #[.slice none 0 0,.agg #[.int .i64 a,.int .i64 c],.int .i64 er])/\(er != 0)=true/\Below W.heap.size W w :=
 ⟨_,_,_,h.2.1 h0,by simpa using h0,h.1⟩
theorem QfZ (c:Tc) (eA:Option Addr) (en ec:Nat) (vA:Option Addr) (vn vc:Nat) (sA:Option Addr) (sn sc:Nat) (w:World) (hp:PairsIn w) (hg:SignsIn w) (h:ChIn w (.slice eA en ec) (.slice vA vn vc) (.slice sA sn sc) c.cx) (ok:c.Ok) :
 ((scanT (T (bs (putC c)))).2.2=0->Calls Tryz.prog 10 #[.agg #[.string c.s,.slice eA en ec,.slice vA vn vc,.slice sA sn sc]] w (RetPP w (bs (putC c)) 0)) /\
 ((scanT (T (bs (putC c)))).2.2≠0->Calls Tryz.prog 10 #[.agg #[.string c.s,.slice eA en ec,.slice vA vn vc,.slice sA sn sc]] w (RetPP w ⟨#[]⟩ 5)):=by
 have hen:en<=9223372036854775807:=by have:=cx_evs h; have:=ok.evf; rw [show c.cx.evs=c.evs from rfl] at *; omega
 have hvn:vn<=9223372036854775807:=by have:=(RdV.len h.vars).1; have:=ok.vaf; rw [show c.cx.vars=c.vars from rfl] at *; omega
 obtain ⟨W1,hW1⟩:∃ W1,w.alloc (.cells #[.string c.s,.slice eA en ec,.slice vA vn vc,.slice sA sn sc] 34)=W1:=⟨_,rfl⟩;have hb1:Below w.heap.size w W1:=by rw [<- hW1]; exact KitC.Qh _ _
 have hk1:W1.heap[w.heap.size]?=some (.cells #[.string c.s,.slice eA en ec,.slice vA vn vc,.slice sA sn sc] 34 (0,0)):=by rw [<- hW1]; exact heap_alloc_new _ _
 have HK:=qh (fun W (hW:Below W1.heap.size W1 W)=>Qi (KitC.Qe hk1 hW))
 have HC:Hid (Calls Tryz.prog 23 #[.agg #[.string c.s,.slice eA en ec,.slice vA vn vc,.slice sA sn sc]] W1 (RetI W1 0)):=qh (by
  have:=QiY c.cx eA en ec vA vn vc sA sn sc W1 (h.keep hb1) (QiK ok) hen hvn
  rwa [mayC_of ok] at this)
 have HT:=qh (fun W (hW:Below W1.heap.size W1 W)=>wtext_any c eA en ec vA vn vc sA sn sc W (h.keep (Qa hb1 hW)) ok (hg.keep (Qa hb1 hW)));obtain ⟨s,hs⟩:∃ s,s=bs (putC c):=⟨_,rfl⟩;rw [<- hs] at HT ⊢;have HS:=qh (fun W (hW:Below W1.heap.size W1 W)=>QcC s W (hp.keep (Qa hb1 hW)));obtain ⟨c0,c1,c2,c3⟩:=Qi hk1;have HW1:=qh hW1;have HB1:=qh hb1;obtain ⟨nm,evs,vars,sts⟩:=c;simp only at HK HC HT HW1 c0;clear hen hvn h ok hg hp hs hW1 hb1 hk1;refine ⟨fun h0=>?_,fun h0=>?_⟩
 ·have HX:=qh (fun W e w' (h:TokPost W s e w') => QdH h h0)
  clear h0;go_enter Tryz.func10,Tryz.ntmps10;go_wp2_with (rw [HW1.o]; go_at_call 23; go_fit HC.o);rintro e w2 ⟨rfl,hb2⟩;have HB2:=qh hb2;clear c0 c1 c2 c3;obtain ⟨c0,c1,c2,c3⟩:=HK.o _ hb2;clear hb2;go_wp2_with (go_at_call 24; go_fit (HT.o _ HB2.o));rintro e w3 ⟨rfl,hb3⟩;have HB3:=qh (Qa HB2.o hb3);clear hb3;go_wp2_with (go_at_call 18; go_fit (HS.o _ HB3.o));intro e w4 hx;obtain ⟨A,n,cp,rfl,-,-,hb4⟩:=HX.o _ _ _ hx;have HB4:=qh (Qa HB3.o hb4);clear hx hb4;go_wp2_with fail
  go_ret2
  exact ⟨rfl,Qa HB1.o (Qa HB4.o (KitC.Qh _ _))⟩
 ·have HX:=qh (fun W e w' (h:TokPost W s e w') => toks_bad h h0)
  clear h0;go_enter Tryz.func10,Tryz.ntmps10;go_wp2_with (rw [HW1.o]; go_at_call 23; go_fit HC.o);rintro e w2 ⟨rfl,hb2⟩;have HB2:=qh hb2;clear c0 c1 c2 c3;obtain ⟨c0,c1,c2,c3⟩:=HK.o _ hb2;clear hb2;go_wp2_with (go_at_call 24; go_fit (HT.o _ HB2.o));rintro e w3 ⟨rfl,hb3⟩;have HB3:=qh (Qa HB2.o hb3);clear hb3;go_wp2_with (go_at_call 18; go_fit (HS.o _ HB3.o));intro e w4 hx;obtain ⟨a,c,er,rfl,g1,hb4⟩:=HX.o _ _ _ hx;have HB4:=qh (Qa HB3.o hb4);clear hx hb4;go_wp2_with fail
  go_ret2
  exact ⟨rfl,Qa HB1.o (Qa HB4.o (KitC.Qh _ _))⟩
end
end Go.Proofs.YtbdalbpackfejaaGreatDoor
