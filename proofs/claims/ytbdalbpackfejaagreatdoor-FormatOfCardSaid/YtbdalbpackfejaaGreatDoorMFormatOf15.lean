/- SynParse, PrintRead, PrintTree, PrintStates, PrintScan, FormSpec, EvalOps2, EvalNone, EvalReckon, EvalCheck, EvalLight, ActLight, ShapeMem, PrintLight, PrintMem, ShapeProg, ShapeTell, joined. -/
import Derived.Test.YtbdalbpackfejaaGreatDoorMFormatOf14
import Derived.Lib.QuietBelow
set_option maxHeartbeats 16000000
set_option maxRecDepth 100000
namespace Go.Proofs.YtbdalbpackfejaaGreatDoor
section
open Go.RowKit CurSpec TermSpec EvalSpec ActSpec NamesSpec ExprSpec TransSpec SynSpec ScanSpec
set_option maxRecDepth 100000
structure Pc where
 x:Cx
 l:Int
 c:Int
 er:Int
def endPc (r:Cur × Cx):Pc:=if (want r.1 0 ⟨#[]⟩).bad≠0 then ⟨zeroC,(want r.1 0 ⟨#[]⟩).a1,(want r.1 0 ⟨#[]⟩).a2,(want r.1 0 ⟨#[]⟩).bad⟩ else ⟨r.2,0,0,0⟩
def parseC (s:ByteArray):Pc :=
 if (scanT s.data.toList).2.2≠0 then ⟨zeroC,(pos s.data.toList (scanT s.data.toList).2.1).1,(pos s.data.toList (scanT s.data.toList).2.1).2,(scanT s.data.toList).2.2⟩ else endPc (readC (cur0 (tkAll s)))
theorem QdH {s:ByteArray} {W w:World} {e:Ending} (h:TokPost W s e w) (h0:(scanT s.data.toList).2.2 = 0) :
 ∃ A n cp,e = .returned (.tuple #[.slice A n cp,.agg #[.int .i64 0,.int .i64 0],.int .i64 0])/\Toks w (.slice A n cp) (tkAll s)/\n<=4001/\Below W.heap.size W w:=by
 obtain ⟨hb,-,hv⟩:=h;obtain ⟨v,rfl,A,cp,rfl,hrest⟩:=hv h0;refine ⟨A,_,cp,rfl,?_,Qfb _,hb⟩;exact ⟨_,by simp [tkAll],A,cp,rfl,hrest.1,by rw [show tkAll s=(scanT s.data.toList).1.map (tokOf s) from rfl,<- Qhu]; exact hrest.2.1,by rw [show tkAll s=(scanT s.data.toList).1.map (tokOf s) from rfl,<- Qhu]; exact hrest.2.2⟩
def RetPc (W:World) (p:Pc) (e:Ending) (w':World):Prop :=
 ∃ eA en ec vA vn vc sA sn sc,e = .returned (.tuple #[.agg #[.string p.x.s,.slice eA en ec,.slice vA vn vc,.slice sA sn sc],.agg #[.int .i64 p.l,.int .i64 p.c],.int .i64 p.er])/\ChIn w' (.slice eA en ec) (.slice vA vn vc) (.slice sA sn sc) p.x/\Below W.heap.size W w'
abbrev chZ:Obj:=.cells #[.string ⟨#[]⟩,.slice none 0 0,.slice none 0 0,.slice none 0 0] 34
abbrev poZ:Obj:=.cells #[.int .i64 0,.int .i64 0] 24
theorem Qbm (w:World):(Instr.build 24 #[]).run Tryz.prog w = .ok (.agg #[.int .i64 0,.int .i64 0]) w:=run_build w 24 _ _ (by kernel_rfl)
abbrev set42 (w:World) (b:Nat) (u0 u1 u2 u3 v0 v1:Value):World:=(((((w.setCell ⟨b,0,none⟩ u0).setCell ⟨b,1,none⟩ u1).setCell ⟨b,2,none⟩ u2).setCell ⟨b,3,none⟩ u3).setCell ⟨b+1,0,none⟩ v0).setCell ⟨b+1,1,none⟩ v1
theorem Qac {w:World} {b:Nat} {T T2:TypeId} {z0 z1 z2 z3 y0 y1:Value} (h1:w.heap[b]? = some (.cells #[z0,z1,z2,z3] T (0,0))) (h2:w.heap[b + 1]? = some (.cells #[y0,y1] T2 (0,0))) (u0 u1 u2 u3 v0 v1:Value) :
 (set42 w b u0 u1 u2 u3 v0 v1).heap[b]?=some (.cells #[u0,u1,u2,u3] T (0,0))/\(set42 w b u0 u1 u2 u3 v0 v1).heap[b+1]?=some (.cells #[v0,v1] T2 (0,0)):=by
 have k1:=Qd (Qd (Qd (Qd h1 0 u0) 1 u1) 2 u2) 3 u3
 have k2:((((w.setCell ⟨b,0,none⟩ u0).setCell ⟨b,1,none⟩ u1).setCell ⟨b,2,none⟩ u2).setCell ⟨b,3,none⟩ u3).heap[b + 1]? = some (.cells #[y0,y1] T2 (0,0)):=by
  rw [Below.heap_setCell _ _ _ _ (by simp),Below.heap_setCell _ _ _ _ (by simp),Below.heap_setCell _ _ _ _ (by simp),Below.heap_setCell _ _ _ _ (by simp)];exact h2
 refine ⟨?_,Qd (Qd k2 0 v0) 1 v1⟩;rw [Below.heap_setCell _ _ _ _ (by simp),Below.heap_setCell _ _ _ _ (by simp)];exact k1
theorem Qaj {B:Nat} {w x:World} {b:Nat} (h:Below B w x) (hb:B <= b) (u0 u1 u2 u3 v0 v1:Value):Below B w (set42 x b u0 u1 u2 u3 v0 v1) :=
 (Qf7 h hb u0 u1 u2 u3).setCell (by simp; omega) v0 |>.setCell (by simp; omega) v1
theorem Qdu (s:ByteArray) (w:World) (hp:PairsIn w) (he:(scanT s.data.toList).2.2 ≠ 0):Calls Tryz.prog 9 #[.string s] w (RetPc w (parseC s)):=by
 have b1:=QaP;have b2:=Qbm;have HT:=qh (QcC s ((w.alloc chZ).alloc poZ) ((hp.alloc _).alloc _));obtain ⟨er,her⟩:∃ er,er=(scanT s.data.toList).2.2:=⟨_,rfl⟩;obtain ⟨l,hl⟩:∃ l,l=(pos s.data.toList (scanT s.data.toList).2.1).1:=⟨_,rfl⟩;obtain ⟨c,hc⟩:∃ c,c=(pos s.data.toList (scanT s.data.toList).2.1).2:=⟨_,rfl⟩;have HP:Hid (parseC s=⟨zeroC,l,c,er⟩):=qh (by unfold parseC; rw [if_pos he,<- her,<- hl,<- hc]);rw [<- her] at he;have e1:(er != 0)=true:=by simpa using he
 have HX:=qh (fun e w' (h:TokPost ((w.alloc chZ).alloc poZ) s e w') => by
  have:=h.2.1 (by rw [<- her]; exact he);rw [<- her,<- hl,<- hc] at this;exact And.intro this h.1)
 clear hp he her hl hc;go_enter Tryz.func9,Tryz.ntmps9;go_wp2_with (go_at_call 18; go_fit HT.o);intro e x1 hx1;obtain ⟨rfl,hb1⟩:=HX.o e x1 hx1;obtain ⟨k1,k2,hB1,hz1⟩:=Qz hb1;have HB1:=qh hB1;have HK1:=qh (And.intro k1 k2);clear hx1 hb1 hB1 k1 k2
 have HA:Hid ((x1.alloc (.cells #[.int .i64 l,.int .i64 c] 24)).heap[w.heap.size]? = some chZ /\ (x1.alloc (.cells #[.int .i64 l,.int .i64 c] 24)).heap[w.heap.size + 1]? = some poZ) :=
  qh ⟨(heap_alloc_old _ _ (by omega)).trans HK1.o.1,(heap_alloc_old _ _ (by omega)).trans HK1.o.2⟩
 obtain ⟨q0,q1,q2,q3⟩:=Qi HA.o.1;obtain ⟨f0,f1,f2,f3⟩:=Q3 HA.o.1;obtain ⟨r0,r1⟩:=QC HA.o.2;obtain ⟨g0,g1⟩:=Zu HA.o.2;go_wp2_with fail;go_region;have HS:=qh (Qac HA.o.1 HA.o.2 (.string ⟨#[]⟩) (.slice none 0 0) (.slice none 0 0) (.slice none 0 0) (.int .i64 l) (.int .i64 c));go_wp2_with fail;obtain ⟨p0,p1,p2,p3⟩:=Qi HS.o.1;obtain ⟨p4,p5⟩:=QC HS.o.2;refine bodyPost_ret (v:=.tuple #[.agg #[.string ⟨#[]⟩,.slice none 0 0,.slice none 0 0,.slice none 0 0],.agg #[.int .i64 l,.int .i64 c],.int .i64 er]) (by simp [results,Tryz.results9,go_sem,p0,p1,p2,p3,p4,p5]) rfl ?_;rw [HP.o];exact ⟨none,0,0,none,0,0,none,0,0,rfl,ChIn.zero _,(Qaj (HB1.o.alloc HB1.o.size _) (Nat.le_refl _) _ _ _ _ _ _).drew⟩
theorem Zc {w w':World} {B b:Nat} {o:Obj} (h:w.heap[b]?=some o) (hb:w.grownBy w' (some B)) (hlt:b<B):w'.heap[b]?=some o:=QF h hb (by omega)
theorem Qey (s:ByteArray) (w:World) (hp:PairsIn w) (hs:SignsIn w) (hz:s.size <= 9223372036854775807) (he:(scanT s.data.toList).2.2 = 0):Calls Tryz.prog 9 #[.string s] w (RetPc w (parseC s)):=by
 have b1:=QaP;have b2:=Qbm;have HT:=qh (QcC s ((w.alloc chZ).alloc poZ) ((hp.alloc _).alloc _));have HP:Hid (parseC s=endPc (readC (cur0 (tkAll s)))):=qh (if_neg (fun h=>h he));have HX:=qh (fun e w' (h:TokPost ((w.alloc chZ).alloc poZ) s e w')=>QdH h he);have HS:=qh hs;have HOK:=qh (Qhp s hz);obtain ⟨P,hP⟩:∃ P,P=parseC s:=⟨_,rfl⟩;rw [<- hP] at HP ⊢;obtain ⟨L,hL⟩:∃ L,L=tkAll s:=⟨_,rfl⟩;rw [<- hL] at HP HX HOK;clear hp he hs hz hP hL;go_enter Tryz.func9,Tryz.ntmps9;go_wp2_with (go_at_call 18; go_fit HT.o);intro e x1 hx1;obtain ⟨A,n,cp,rfl,hT,hn,hb1⟩:=HX.o e x1 hx1;obtain ⟨k1,k2,hB1,hz1⟩:=Qz hb1;have HNEW:=qh (new_any A n cp L _ (hT.alloc (.cells #[.int .i64 0,.int .i64 0] 24)) (by omega));have HB1:=qh (hB1.alloc hB1.size (.cells #[.int .i64 0,.int .i64 0] 24))
 have HA:Hid ((x1.alloc (.cells #[.int .i64 0,.int .i64 0] 24)).heap[w.heap.size]? = some chZ /\ (x1.alloc (.cells #[.int .i64 0,.int .i64 0] 24)).heap[w.heap.size + 1]? = some poZ /\ (x1.alloc (.cells #[.int .i64 0,.int .i64 0] 24)).heap[x1.heap.size]? = some poZ) :=
  qh ⟨(heap_alloc_old _ _ (by omega)).trans k1,(heap_alloc_old _ _ (by omega)).trans k2,heap_alloc_new _ _⟩
 clear hx1 hb1 hB1 k1 k2 hT hn HX HT;go_wp2_with (go_at_call 19; go_fit HNEW.o);rintro e x2 ⟨B,rfl,hBs,hC2,hb2⟩;have HB2:=qh (Qa HB1.o hb2);have HA2:=qh (And.intro (Qe HA.o.1 hb2) (And.intro (Qe HA.o.2.1 hb2) (Qe HA.o.2.2 hb2)));have hBs':x1.heap.size<B:=by rw [World.size_alloc] at hBs; omega
 have HRD:=qh (Qe2 B (cur0 L) x2 (HS.o.keep HB2.o) hC2 HOK.o);obtain ⟨r,hr⟩:∃ r,r=readC (cur0 L):=⟨_,rfl⟩;rw [<- hr] at HRD HP;have HLT:=qh hC2.lt;clear hBs hC2 hb2 hr HA HB1 HNEW;go_wp2_with (go_at_call 20; go_fit HRD.o);rintro e x3 ⟨eA,en,ec,vA,vn,vc,sA,sn,sc,rfl,hC3,hD3,hb3⟩;have HA3:=qh (And.intro (Zc HA2.o.1 hb3 (by omega)) (And.intro (Zc HA2.o.2.1 hb3 (by omega)) (Zc HA2.o.2.2 hb3 (by omega))));obtain ⟨d,hdd⟩:∃ d,d=want r.1 0 ⟨#[]⟩:=⟨_,rfl⟩;have HB3:Hid (Below w.heap.size w x3):=qh (HB2.o.trans ⟨hb3.os,hb3.tape,hb3.output,hb3.size,fun i hi=>hb3.block i (Nat.lt_of_lt_of_le hi HB2.o.size) (by simp; omega)⟩);obtain ⟨CO,hCO⟩:∃ CO:Obj,CO = .cells #[.string r.2.s,.slice eA en ec,.slice vA vn vc,.slice sA sn sc] 34:=⟨_,rfl⟩;have hC3':=hC3.alloc CO;have HW:=qh (Jl B r.1 0 ⟨#[]⟩ _ hC3');rw [<- hdd,hCO] at HW;have HD3:=qh (hD3.alloc CO);rw [hCO] at HD3;have hz3:x1.heap.size<x3.heap.size:=(Array.getElem?_eq_some_iff.1 HA3.o.2.2).1;have hBz:=hC3.lt
 have HA4:Hid ((x3.alloc CO).heap[w.heap.size]? = some chZ /\ (x3.alloc CO).heap[w.heap.size + 1]? = some poZ /\ (x3.alloc CO).heap[x1.heap.size]? = some poZ /\ (x3.alloc CO).heap[x3.heap.size]? = some CO) :=
  qh ⟨(heap_alloc_old _ _ (by omega)).trans HA3.o.1,(heap_alloc_old _ _ (by omega)).trans HA3.o.2.1,(heap_alloc_old _ _ (by omega)).trans HA3.o.2.2,heap_alloc_new _ _⟩
 have HB4:=qh (HB3.o.alloc HB3.o.size CO);rw [hCO] at HA4 HB4;have HDD:=qh hdd;clear hC3 hD3 hb3 hdd hC3' HA3 HA2 HB2 HB3 HRD hCO;go_wp2_with (go_at_call 21; go_fit HW.o);rintro e x5 ⟨rfl,hC5,hb5⟩;have HA5:=qh (And.intro (Zc HA4.o.1 hb5 (by omega)) (And.intro (Zc HA4.o.2.1 hb5 (by omega)) (And.intro (Zc HA4.o.2.2.1 hb5 (by omega)) (QF HA4.o.2.2.2 hb5 (by omega)))));have hlt2:=HLT.o;have HD5:=qh (HD3.o.go hb5 fun b hS e=>by injection e with e; omega);have HB5:Hid (Below w.heap.size w x5):=qh (HB4.o.trans ⟨hb5.os,hb5.tape,hb5.output,hb5.size,fun i hi=>hb5.block i (Nat.lt_of_lt_of_le hi HB4.o.size) (by simp; omega)⟩);have HF:=qh (QfS _ _ _ _ x5 (Fl.of hC5));clear hC5 hb5 HA4 HB4 HD3 HW
 by_cases h0:d.bad=0
 ·have HQ:Hid (P = ⟨r.2,0,0,0⟩):=qh (by rw [HP.o]; unfold endPc; rw [<- HDD.o,if_neg (by simpa using h0)])
  have e1:(d.bad != 0)=false:=by simpa using h0
  clear h0;go_wp2_with (go_at_call 22; go_fit HF.o);rintro e x6 ⟨rfl,hb6⟩;have HB6:=qh (Qa HB5.o hb6);have HA6:=qh (And.intro (Qe HA5.o.1 hb6) (And.intro (Qe HA5.o.2.1 hb6) (And.intro (Qe HA5.o.2.2.1 hb6) (Qe HA5.o.2.2.2 hb6))));have HD6:=qh (HD5.o.keep hb6);clear hb6 HA5 HB5 HD5;obtain ⟨t0,t1⟩:=QC HA6.o.2.2.1;obtain ⟨u0,u1⟩:=Zu HA6.o.2.2.1;obtain ⟨y,hy⟩:∃ y,y=(x6.setCell ⟨x1.heap.size,0,none⟩ (.int .i64 d.a1)).setCell ⟨x1.heap.size,1,none⟩ (.int .i64 d.a2):=⟨_,rfl⟩;have hg:x6.grownBy y (some x1.heap.size):=by rw [hy]; exact Ql (Ql (Qx _ _) 0 _) 1 _
  have HA7:=qh (And.intro (QF HA6.o.1 hg (by omega)) (And.intro (QF HA6.o.2.1 hg (by omega)) (QF HA6.o.2.2.2 hg (by omega))));have HB7:Hid (Below w.heap.size w y):=qh (by rw [hy]; exact (HB6.o.setCell (by simp; omega) _).setCell (by simp; omega) _);have HD7:=qh (HD6.o.go hg fun b hS e=>by injection e with e; omega);rw [hy] at HA7;obtain ⟨q0,q1,q2,q3⟩:=Qi HA7.o.1;obtain ⟨f0,f1,f2,f3⟩:=Q3 HA7.o.1;obtain ⟨r0,r1⟩:=QC HA7.o.2.1;obtain ⟨g0,g1⟩:=Zu HA7.o.2.1;obtain ⟨v0,v1,v2,v3⟩:=Qi HA7.o.2.2;have HST:=qh (Qac HA7.o.1 HA7.o.2.1 (.string r.2.s) (.slice eA en ec) (.slice vA vn vc) (.slice sA sn sc) (.int .i64 0) (.int .i64 0));have HY:=qh hy;clear hg hy;go_wp2_with fail;obtain ⟨p0,p1,p2,p3⟩:=Qi HST.o.1;obtain ⟨p4,p5⟩:=QC HST.o.2;refine bodyPost_ret (v:=.tuple #[.agg #[.string r.2.s,.slice eA en ec,.slice vA vn vc,.slice sA sn sc],.agg #[.int .i64 0,.int .i64 0],.int .i64 0]) (by simp [results,Tryz.results9,go_sem,p0,p1,p2,p3,p4,p5]) rfl ?_;have hb:=Qaj HB7.o (Nat.le_refl _) (.string r.2.s) (.slice eA en ec) (.slice vA vn vc) (.slice sA sn sc) (.int .i64 0) (.int .i64 0)
  have hch:=HD7.o (set42 y w.heap.size (.string r.2.s) (.slice eA en ec) (.slice vA vn vc) (.slice sA sn sc) (.int .i64 0) (.int .i64 0)) (by simp [World.setCell]) fun b _ hS => by
   rw [Below.heap_setCell _ _ _ _ (by simp; omega),Below.heap_setCell _ _ _ _ (by simp; omega),Below.heap_setCell _ _ _ _ (by simp; omega),Below.heap_setCell _ _ _ _ (by simp; omega),Below.heap_setCell _ _ _ _ (by simp; omega),Below.heap_setCell _ _ _ _ (by simp; omega)]
  rw [HY.o] at hb hch;rw [HQ.o];exact ⟨eA,en,ec,vA,vn,vc,sA,sn,sc,rfl,hch,hb⟩
 ·have HQ:Hid (P = ⟨zeroC,d.a1,d.a2,d.bad⟩):=qh (by rw [HP.o]; unfold endPc; rw [<- HDD.o,if_pos h0])
  have e1:(d.bad != 0)=true:=by simpa using h0
  clear h0;go_wp2_with (go_at_call 22; go_fit HF.o);rintro e x6 ⟨rfl,hb6⟩;have HB6:=qh (Qa HB5.o hb6);have HA6:=qh (And.intro (Qe HA5.o.1 hb6) (And.intro (Qe HA5.o.2.1 hb6) (And.intro (Qe HA5.o.2.2.1 hb6) (Qe HA5.o.2.2.2 hb6))));clear hb6 HA5 HB5 HD5;obtain ⟨t0,t1⟩:=QC HA6.o.2.2.1;obtain ⟨u0,u1⟩:=Zu HA6.o.2.2.1;obtain ⟨y,hy⟩:∃ y,y=(x6.setCell ⟨x1.heap.size,0,none⟩ (.int .i64 d.a1)).setCell ⟨x1.heap.size,1,none⟩ (.int .i64 d.a2):=⟨_,rfl⟩;have hg:x6.grownBy y (some x1.heap.size):=by rw [hy]; exact Ql (Ql (Qx _ _) 0 _) 1 _
  have HA7:=qh (And.intro (QF HA6.o.1 hg (by omega)) (QF HA6.o.2.1 hg (by omega)));have HB7:Hid (Below w.heap.size w y):=qh (by rw [hy]; exact (HB6.o.setCell (by simp; omega) _).setCell (by simp; omega) _);rw [hy] at HA7;obtain ⟨q0,q1,q2,q3⟩:=Qi HA7.o.1;obtain ⟨f0,f1,f2,f3⟩:=Q3 HA7.o.1;obtain ⟨r0,r1⟩:=QC HA7.o.2;obtain ⟨g0,g1⟩:=Zu HA7.o.2;have HST:=qh (Qac HA7.o.1 HA7.o.2 (.string ⟨#[]⟩) (.slice none 0 0) (.slice none 0 0) (.slice none 0 0) (.int .i64 d.a1) (.int .i64 d.a2));have HY:=qh hy;clear hg hy;go_wp2_with fail;go_region;go_wp2_with fail;obtain ⟨p0,p1,p2,p3⟩:=Qi HST.o.1;obtain ⟨p4,p5⟩:=QC HST.o.2;refine bodyPost_ret (v:=.tuple #[.agg #[.string ⟨#[]⟩,.slice none 0 0,.slice none 0 0,.slice none 0 0],.agg #[.int .i64 d.a1,.int .i64 d.a2],.int .i64 d.bad]) (by simp [results,Tryz.results9,go_sem,p0,p1,p2,p3,p4,p5]) rfl ?_;have hb:=(Qaj HB7.o (Nat.le_refl _) (.string ⟨#[]⟩) (.slice none 0 0) (.slice none 0 0) (.slice none 0 0) (.int .i64 d.a1) (.int .i64 d.a2)).drew;rw [HY.o] at hb;rw [HQ.o];exact ⟨none,0,0,none,0,0,none,0,0,rfl,ChIn.zero _,hb⟩
theorem Qdo (s:ByteArray) (w:World) (hp:PairsIn w) (hs:SignsIn w) (hz:s.size <= 9223372036854775807):Calls Tryz.prog 9 #[.string s] w (RetPc w (parseC s)):=by
 by_cases he:(scanT s.data.toList).2.2=0
 ·exact Qey s w hp hs hz he
 ·exact Qdu s w hp he
end
section
namespace PrintSpec
open CurSpec TermSpec EvalSpec NamesSpec ExprSpec ScanSpec ActSpec TransSpec SynSpec
open ShapeSpec (Sh up sf endOf)
end PrintSpec
end
section
namespace PrintSpec
open CurSpec TermSpec EvalSpec NamesSpec ExprSpec ScanSpec ActSpec TransSpec SynSpec
open ShapeSpec (Sh up sf endOf SU)
section
variable (sh:List Sh) (l:List Ts)
end
section
variable {sh:List Sh} {l:List Ts}
theorem upF_desc (l:List Sh):∀ i,(up l i).Pairwise (· > ·):=by
 intro i
 induction i using Nat.strongRecOn with
 | ind i ih =>
   by_cases hp:0<=ShapeSpec.par l i/\ShapeSpec.par l i<i
   ·rw [ShapeSpec.Qfm hp.1 hp.2]
    refine List.pairwise_cons.2 ⟨fun j hj=>ShapeSpec.Qfr hj,ih _ (by omega)⟩
   ·rw [ShapeSpec.Qdg hp]
    exact .nil
theorem sf_desc (l:List Sh) (i:Nat):(sf l i).Pairwise (· > ·):=List.pairwise_cons.2 ⟨fun _j hj=>ShapeSpec.Qfr hj,upF_desc l i⟩
theorem Qdj {i:Nat}:∀ {a:List Nat},a.Pairwise (· > ·) -> i ∈ a -> a.filter (fun j => decide (i <= j)) = a.filter (fun j => decide (i + 1 <= j)) ++ [i]
 | [],_,h => by simp at h
 | x :: r,hp,h => by
   obtain ⟨h1,h2⟩:=List.pairwise_cons.1 hp
   rcases List.mem_cons.1 h with rfl | h
   ·rw [List.filter_cons_of_pos (by simp),List.filter_cons_of_neg (by simp)]
    have e:∀ k,i<=k->r.filter (fun j=>decide (k<=j))=[]:=fun k hk=>List.filter_eq_nil_iff.2 fun j hj=>by have:=h1 j hj; simp; omega
    rw [e i (Nat.le_refl _),e (i+1) (by omega)]
    rfl
   ·have:=h1 i h
    rw [List.filter_cons_of_pos (by simp; omega),List.filter_cons_of_pos (by simp; omega),Qdj h2 h]
    rfl
theorem QcJ (h:SU sh sh.length) {i:Nat} (hi:i < sh.length) (he:i + 1 < endOf sh i):up sh (i + 1) = sf sh i /\ ShapeSpec.par sh (i + 1) = i /\ i + 1 < sh.length:=by
 have hlt:i+1<sh.length:=by have:=(ShapeSpec.J9 hi).2; omega
 have hin:=ShapeSpec.QaS ((ShapeSpec.Zo h hi hlt).2 ⟨by omega,he⟩) (by omega);obtain ⟨p,hp,hpl,hup,hpin⟩:=h.parn hlt (by omega);rw [Nat.add_sub_cancel] at hpin;rw [hup] at hin;have h1:=ShapeSpec.Qaf hpin;have h2:=ShapeSpec.Qaf hin;obtain rfl:p=i:=by omega
 exact ⟨hup,hp,hlt⟩
theorem kid_next (h:SU sh sh.length) {i m:Nat} (hi:i < sh.length) (hm:m < endOf sh i) (hup:up sh m = sf sh i) (him:i < m) :
 m<sh.length/\endOf sh m<=endOf sh i/\(endOf sh m<endOf sh i->up sh (endOf sh m)=sf sh i/\ShapeSpec.par sh (endOf sh m)=i):=by
 have hml:m<sh.length:=by have:=(ShapeSpec.J9 hi).2; omega
 obtain ⟨a1,a2⟩:=ShapeSpec.J9 hml;have hm1:m∈sf sh (endOf sh m-1):=(ShapeSpec.Zo h hml (by omega)).2 ⟨by omega,by omega⟩;have him1:i∈sf sh m:=ShapeSpec.Qde (by rw [hup]; exact ShapeSpec.Zv _ _);have hi1:=(ShapeSpec.Zo h hi (k:=endOf sh m-1) (by omega)).1 (ShapeSpec.sf_sub hm1 him1);refine ⟨hml,by omega,fun hlt=>?_⟩;have hel:endOf sh m<sh.length:=by have:=(ShapeSpec.J9 hi).2; omega
 have hie:i∈up sh (endOf sh m):=ShapeSpec.QaS ((ShapeSpec.Zo h hi hel).2 ⟨by omega,hlt⟩) (by omega);obtain ⟨p,hp,hpl,hup2,hpin⟩:=h.parn hel (by omega);have hip:i∈sf sh p:=by rw [<- hup2]; exact hie
 have hile:=ShapeSpec.Qaf hip
 have hpm:p < m:=by
  rcases Nat.lt_or_ge p m with h' | h'
  ·exact h'
  ·exfalso
   have:m∈sf sh p:=ShapeSpec.Qd2 hpin hm1 h';have h2:m∈sf sh (endOf sh m):=ShapeSpec.Qde (by rw [hup2]; exact this);have:=(ShapeSpec.Zo h hml hel).1 h2;omega
 have h3:=ShapeSpec.QaS (ShapeSpec.Qd2 hm1 hpin (by omega)) (by omega:p≠m);rw [hup] at h3;have:=ShapeSpec.Qaf h3;obtain rfl:p=i:=by omega
 exact ⟨hup2,hp⟩
end
end PrintSpec
end
section
namespace PrintSpec
open CurSpec TermSpec EvalSpec NamesSpec ExprSpec ScanSpec ActSpec TransSpec SynSpec
open ShapeSpec (Sh up sf endOf SU)
structure Stand (sh:List Sh) (l:List Ts):Prop where
 eq:sh=l.map fun t=>⟨t.kind,t.par⟩
 su:SU sh sh.length
 deep:∀ i,i<sh.length->(up sh i).length<=11
 few:sh.length<=60
 ok:∀ t∈l,t.Ok
section
variable {sh:List Sh} {l:List Ts}
theorem Stand.len (H:Stand sh l):sh.length=l.length:=by rw [H.eq,List.length_map]
theorem Stand.at_ (H:Stand sh l) {i:Nat} (hi:i < sh.length):∃ t,l[i]? = some t /\ t.Ok /\ ShapeSpec.kind sh i = t.kind /\ ShapeSpec.par sh i = t.par /\ 1 <= t.kind /\ t.kind <= 3:=by
 obtain ⟨t,ht⟩:=Qp (l:=l) (k:=i) (by rw [<- H.len]; exact hi);have hs:sh[i]?=some ⟨t.kind,t.par⟩:=by rw [H.eq,List.getElem?_map,ht]; rfl
 have hk:=ShapeSpec.QdJ hs;have hg:=H.su i hi;simp only [ShapeSpec.goodB,Bool.and_eq_true,decide_eq_true_eq] at hg;rw [hk] at hg;exact ⟨t,ht,H.ok t (List.mem_of_getElem? ht),hk,ShapeSpec.Qf6 hs,hg.1.1,hg.1.2⟩
theorem Stand.leaf (H:Stand sh l) {i:Nat} (hi:i < sh.length) (hk:ShapeSpec.kind sh i = 1):endOf sh i = i + 1:=by
 obtain ⟨a1,a2⟩:=ShapeSpec.J9 hi
 by_cases he:i+1<endOf sh i
 ·obtain ⟨-,h1,h2⟩:=QcJ H.su hi he
  have hg:=H.su (i+1) h2;simp only [ShapeSpec.goodB,ShapeSpec.hangB,Bool.and_eq_true,decide_eq_true_eq] at hg;rw [if_neg (by omega)] at hg;simp only [Bool.and_eq_true,decide_eq_true_eq,h1] at hg;exact absurd hk hg.2.1.2
 ·omega
end
theorem Tc.Ok.stand {c:Tc} (h:c.Ok):Stand c.sh c.sts:=by
 obtain ⟨h1,h2,h3⟩:=ShapeSpec.ZE h.sh;exact ⟨rfl,ShapeSpec.chk_su h.sh,h3,h1,h.sts⟩
end PrintSpec
end
section
namespace PrintSpec
open CurSpec TermSpec EvalSpec NamesSpec ExprSpec ScanSpec ActSpec TransSpec SynSpec
open ShapeSpec (Sh up sf endOf SU)
theorem Zk {α β:Type} (f:α -> List β) (w:α -> Nat) (A B:Nat):∀ {L:List α},(∀ x ∈ L,(f x).length <= A + B * w x) -> (L.flatMap f).length <= A * L.length + B * (L.map w).sum
 | [],_ => by simp
 | x :: r,h => by
   have h1:=h x (by simp);have h2:=Zk f w A B (L:=r) fun y hy=>h y (by simp [hy])
   rw [List.flatMap_cons,List.length_append,List.length_cons,List.map_cons,List.sum_cons,Nat.mul_add,Nat.mul_add];omega
def wA (ts:List Ta):Nat:=(ts.map fun t=>1+t.ac.x.length).sum
def wT (t:Tt):Nat:=1+wA t.ts+(gFlat t.g).length
def wS (t:Ts):Nat:=wA t.en+wA t.ex+(t.tr.map wT).sum
theorem txA_w {t:Ta} (h:t.Ok):(txA t).size <= 30 * (1 + t.ac.x.length) /\ (ActSpec.tkA t).length <= 2 + 6 * t.ac.x.length:=by
 have h1:=QG h.1;unfold txA ActSpec.tkA Ta.ac
 rcases ha:t.any with _ | _
 ·have h2:=QO (h.2 ha).1
  have h3:=QdK (h.2 ha).1;simp only [Bool.false_eq_true,if_false,ByteArray.size_append,List.length_cons]
  constructor
  ·show t.s.size + 4 + (tx t.e).size <= _
   omega
  ·omega
 ·simp only [if_true,ByteArray.size_append,List.length_cons,List.length_nil]
  constructor
  ·show 4 + t.s.size <= _
   omega
  ·omega
theorem putT_w:∀ {ts:List Ta},(∀ t ∈ ts,t.Ok) -> (putT ts).length <= 32 * wA ts /\ (tkL ts).length <= 6 * wA ts
 | [],_ => by simp [putT,Lib.join_nil,tkL]
 | [t],h => by
   obtain ⟨h1,h2⟩:=txA_w (h t (by simp));have h3:(T (txA t)).length=(txA t).size:=rfl;rw [putT_one,h3];simp only [tkL,wA,List.map_cons,List.map_nil,List.sum_cons,List.sum_nil];omega
 | t :: u :: r,h => by
   obtain ⟨h1,h2⟩:=txA_w (h t (by simp));obtain ⟨k1,k2⟩:=putT_w (ts:=u::r) (fun v hv=>h v (by simp only [List.mem_cons] at hv ⊢; exact .inr hv));have h3:(T (txA t)).length=(txA t).size:=rfl;rw [putT_cons];simp only [List.length_append,List.length_cons,List.length_nil,h3,tkL,wA,List.map_cons,List.sum_cons] at k1 k2 ⊢;omega
theorem txT_w {x:Tt} (h:x.Ok):(T (txT x)).length <= 43 * wT x /\ (tkT x).length <= 8 * wT x:=by
 have h1:=QbE h;have h4:=QdU h.tg;obtain ⟨h3,h3'⟩:=putT_w h.ts
 have hg:(guardB x.g).size <= 3 + 30 * (gFlat x.g).length /\ (tkG x.g).length <= 2 + 6 * (gFlat x.g).length:=by
  have hx:=h.g
  cases hx':x.g with
  | none => exact ⟨by show 0 <= _; omega,by simp [tkG]⟩
  | some e =>
    obtain ⟨a,-⟩:=hx e hx';have b1:=QO a;have b2:=QdK a
    constructor
    ·unfold guardB
     rw [ByteArray.size_append,ByteArray.size_append]
     show 2+_+1<=3+30*(flat e).length
     omega
    ·simp only [tkG,List.length_cons,List.length_append,List.length_nil]
     show _<=2+6*(flat e).length
     omega
 have ha:(actsB x.ts).size <= 3 + 32 * wA x.ts /\ (tkC x.ts).length <= 1 + 6 * wA x.ts:=by
  unfold actsB tkC
  by_cases h0:x.ts=[]
  ·rw [if_pos h0,if_pos h0]
   exact ⟨by show 0<=_; omega,by simp⟩
  ·rw [if_neg h0,if_neg h0,ByteArray.size_append,List.length_cons]
   have:(putB x.ts).size=(putT x.ts).length:=by rw [<- putB_T]; rfl
   exact ⟨by show 3+_<=_; omega,by omega⟩
 have h5:(tkH x).length<=2:=by unfold tkH; split<;>simp
 have h6:(tkD x.tg).length<=2:=by unfold tkD; split<;>simp
 constructor
 ·show (txT x).size <= _
  unfold txT wT;simp only [ByteArray.size_append]
  show _+_+_+_+1<=_
  omega
 ·unfold tkT wT
  simp only [List.length_append,List.length_cons,List.length_nil];omega
theorem Jb (n:Nat):(inT n).length=2*n:=by simp [inT]
theorem lineA_w {w:List UInt8} (hw:w.length <= 5) {n:Nat} (hn:n <= 13) {ts:List Ta} (h:∀ t ∈ ts,t.Ok):(lineA w n ts).length <= 34 + 32 * wA ts /\ (actK w ts).length <= 2 + 6 * wA ts:=by
 obtain ⟨h1,h2⟩:=putT_w h;unfold lineA actK
 by_cases h0:ts=[]
 ·rw [if_pos h0,if_pos h0]
  simp
 ·rw [if_neg h0,if_neg h0]
  simp only [List.length_append,List.length_cons,List.length_nil,Jb];omega
theorem insT_w {n:Nat} (hn:n <= 13) {t:Ts} (h:t.Ok):(insT n t).length <= 68 + 70 * wS t /\ (insK t).length <= 4 + 8 * wS t:=by
 obtain ⟨a1,a2⟩:=lineA_w (w:=[101,110,116,101,114]) (by decide) hn h.en;obtain ⟨b1,b2⟩:=lineA_w (w:=[101,120,105,116]) (by decide) hn h.ex
 have c1:=Zk (lineT n) wT 0 70 (L:=t.tr) fun x hx => by
  have:=(txT_w (h.tr x hx)).1;have h0:1<=wT x:=by unfold wT; omega
  simp only [lineT,List.length_append,List.length_cons,List.length_nil,Jb];omega
 have c2:=Zk tkT wT 0 8 (L:=t.tr) fun x hx => by
  have:=(txT_w (h.tr x hx)).2;omega
 unfold insT insK wS;simp only [List.length_append];omega
theorem Qg8 (k:Int):(wordT k).length <= 4:=by
 unfold wordT
 split
 ·simp
 ·split<;>simp
section
variable {sh:List Sh} {l:List Ts}
theorem stT_w (H:Stand sh l) {i:Nat} (hi:i < sh.length):(stT sh l i ++ closT sh l i).length <= 424 + 70 * (l[i]?).elim 0 wS /\ (stK sh l i ++ closK sh l i).length <= 19 + 8 * (l[i]?).elim 0 wS:=by
 obtain ⟨t,ht,hok,-,-,-,-⟩:=H.at_ hi;have hd:=H.deep i hi;have hn:=QG hok.nm;have hw:=Qg8 t.kind;have hT:(T t.s).length=t.s.size:=rfl;obtain ⟨a1,a2⟩:=insT_w (n:=(up sh i).length+2) (by omega) hok
 have c1:(closT sh l i).length <= 26 * (sf sh i).length:=by
  have:=Zk (oneT sh l i) (fun _ => 0) 26 0 (L:=sf sh i) fun j hj => by
   have hj':=H.deep j (by have:=ShapeSpec.Qaf hj; omega);unfold oneT
   split
   ·simp only [List.length_append,List.length_cons,List.length_nil,Jb]; omega
   ·simp
  unfold closT;omega
 have c2:(closK sh l i).length <= 1 * (sf sh i).length:=by
  have:=Zk (oneK sh l i) (fun _ => 0) 1 0 (L:=sf sh i) fun j _ => by
   unfold oneK
   split<;>simp
  unfold closK;omega
 have hsf:(sf sh i).length=(up sh i).length+1:=rfl
 have s1:(stT sh l i).length <= 112 + 70 * wS t /\ (stK sh l i).length <= 7 + 8 * wS t:=by
  unfold stT stK;rw [ht];simp only [Option.elim]
  split
  ·simp only [headT,headK,List.length_append,List.length_cons,List.length_nil,Jb]
   omega
  ·simp only [headT,headK,List.length_append,List.length_cons,List.length_nil,Jb]
   omega
 rw [ht];simp only [List.length_append,Option.elim];omega
end
theorem sep_w:∀ {l:List ByteArray},(∀ e ∈ l,isName e.data.toList = true) -> (sepT l).length <= 14 * l.length /\ (sepK l).length <= 2 * l.length
 | [],_ => by simp [sepT,Lib.join_nil,sepK]
 | [s],h => by
   have:=QG (h s (by simp));have hT:(T s).length=s.size:=rfl;unfold sepT;rw [List.map_cons,List.map_nil,Lib.join_one];simp only [sepK,List.length_cons,List.length_nil];omega
 | s :: u :: r,h => by
   have:=QG (h s (by simp));have hT:(T s).length=s.size:=rfl;obtain ⟨h1,h2⟩:=sep_w (l:=u::r) (fun e he=>h e (by simp only [List.mem_cons] at he ⊢; exact .inr he));unfold sepT at h1 ⊢;rw [List.map_cons] at h1;rw [List.map_cons,List.map_cons,join_two];simp only [sepK,List.length_append,List.length_cons,List.length_nil] at h1 h2 ⊢;omega
theorem Qbs {n:Int} (h:smallV n = true):(ValSpec.text n).length <= 8 /\ (intK n).length <= 2:=by
 have h1:=Zd h;have:=ValSpec.Qcl 6 n.natAbs (by omega);unfold ValSpec.text intK
 split
 ·simp only [List.length_append,List.length_cons,List.length_nil]; omega
 ·simp only [List.length_append,List.length_cons,List.length_nil]; omega
theorem var_w {v:Vr} (h:okV v = true):(varT v).length <= 70 /\ (varK v).length <= 12:=by
 simp only [okV,Bool.and_eq_true] at h;obtain ⟨h1,h2,h3,h4⟩:=h;have a:=Qbs h2;have b:=Qbs h3;have c:=Qbs h4;have d:=QG h1;have hT:(T v.s).length=v.s.size:=rfl;unfold varT varK;simp only [List.length_append,List.length_cons,List.length_nil,Jb];omega
end PrintSpec
end
section
namespace FormSpec
open CurSpec TermSpec EvalSpec NamesSpec ExprSpec ActSpec TransSpec SynSpec PrintSpec ScanSpec
structure Fo where
 t:ByteArray
 l:Int
 c:Int
 er:Int
def FoBad (s:ByteArray) (o:Fo):Prop:=(parseC s).er≠0/\o=⟨⟨#[]⟩,(parseC s).l,(parseC s).c,(parseC s).er⟩
def FoOk (c:Tc) (o:Fo):Prop:=c.Ok/\o=if (scanT (T (bs (putC c)))).2.2=0 then ⟨bs (putC c),0,0,0⟩ else ⟨⟨#[]⟩,0,0,5⟩
def FoIs (s:ByteArray) (o:Fo):Prop:=FoBad s o\/∃ c:Tc,parseC s=⟨c.cx,0,0,0⟩/\FoOk c o
theorem Qjn {s:ByteArray} (h:(parseC s).er = 0):∃ c:Tc,parseC s = ⟨c.cx,0,0,0⟩ /\ c.Ok:=by
 unfold parseC at h ⊢
 split at h
 ·rename_i h1
  exact absurd h h1
 ·rename_i h1
  rw [if_neg h1];unfold endPc at h ⊢
  split at h
  ·rename_i h2
   exact absurd h h2
  ·rename_i h2
   rw [if_neg h2];have hb:(want (readC (cur0 (tkAll s))).1 0 ⟨#[]⟩).bad=0:=Decidable.byContradiction h2;obtain ⟨c,hc,ok⟩:=tc_of (read_may (QN (QM _ _ _) hb));exact ⟨c,by rw [hc],ok⟩
theorem form_is (s:ByteArray):∃ o,FoIs s o:=by
 by_cases h:(parseC s).er=0
 ·obtain ⟨c,hc,ok⟩:=Qjn h
  exact ⟨_,.inr ⟨c,hc,ok,rfl⟩⟩
 ·exact ⟨_,.inl ⟨h,rfl⟩⟩
end FormSpec
end
section
open Go.RowKit TermSpec EvalSpec ValSpec
end
section
open Go.RowKit TermSpec EvalSpec NamesSpec Go.Lib ValSpec
end
section
open Go.RowKit TermSpec EvalSpec NamesSpec Go.Lib ValSpec
end
section
open Go.RowKit TermSpec EvalSpec NamesSpec
end
section
open Go.RowKit TermSpec EvalSpec
end
section
open Go.RowKit TermSpec EvalSpec ActSpec NamesSpec
end
section
open Go.RowKit ShapeSpec
structure StC where
 s:ByteArray
 sh:Sh
 a3:Option Addr
 n3:Nat
 c3:Nat
 a4:Option Addr
 n4:Nat
 c4:Nat
 a5:Option Addr
 n5:Nat
 c5:Nat
def stV (t:StC):List Value:=[.string t.s,.int .i64 t.sh.kind,.int .i64 t.sh.par,.slice t.a3 t.n3 t.c3,.slice t.a4 t.n4 t.c4,.slice t.a5 t.n5 t.c5]
def stsV (l:List StC):List Value:=l.flatMap stV
theorem J5 (t:StC):(stV t).length=6:=rfl
def Sts (w:World) (v:Value) (l:List Sh):Prop:=∃ xs:List StC,l=xs.map (·.sh)/\Rdk 6 w v l.length (stsV xs)
theorem Sts.keep {w w':World} {v:Value} {l:List Sh} (h:Sts w v l) (hb:Below w.heap.size w w'):Sts w' v l:=by
 obtain ⟨xs,hx,h⟩:=h;exact ⟨xs,hx,h.keep hb⟩
theorem Sts.alloc {w:World} {v:Value} {l:List Sh} (h:Sts w v l) (o:Obj):Sts (w.alloc o) v l:=h.keep ((Below.refl _ _).alloc (Nat.le_refl _) _)
theorem Sts.shape {w:World} {v:Value} {l:List Sh} (h:Sts w v l):∃ A n c,v = .slice A n c /\ n = l.length /\ n <= c:=by
 obtain ⟨xs,hx,A,c,hv,hc,_⟩:=h;exact ⟨A,_,c,hv,rfl,hc⟩
theorem Sts.all {w:World} {A:Option Addr} {n c:Nat} {l:List Sh} {i:Nat} {t:Sh} (h:Sts w (.slice A n c) l) (hi:l[i]? = some t) :
 ∃ b off s a3 n3 c3 a4 n4 c4 a5 n5 c5,A = some ⟨b,off,none⟩ /\ b < w.heap.size /\ w.cell? ⟨b,off + i * 6,none⟩ = some (.string s) /\ w.cell? ⟨b,off + i * 6 + 1,none⟩ = some (.int .i64 t.kind) /\ w.cell? ⟨b,off + i * 6 + 2,none⟩ = some (.int .i64 t.par) /\
   w.cell? ⟨b,off+i*6+3,none⟩=some (.slice a3 n3 c3)/\w.cell? ⟨b,off+i*6+4,none⟩=some (.slice a4 n4 c4)/\w.cell? ⟨b,off+i*6+5,none⟩=some (.slice a5 n5 c5):=by
 obtain ⟨xs,rfl,A',c',heq,hc,hl,hA⟩:=h
 cases heq
 have hlt:=Ja hi;rw [List.getElem?_map] at hi;obtain ⟨x,hx,rfl⟩:=Option.map_eq_some_iff.1 hi;obtain ⟨b,off,rfl,hb,hcell⟩:=hA (by omega);refine ⟨b,off,x.s,x.a3,x.n3,x.c3,x.a4,x.n4,x.c4,x.a5,x.n5,x.c5,rfl,hb,?_,?_,?_,?_,?_,?_⟩
 ·exact hcell _ _ (flat_get (j:=0) J5 hx (by omega))
 ·rw [Nat.add_assoc]; exact hcell _ _ (flat_get (j:=1) J5 hx (by omega))
 ·rw [Nat.add_assoc]; exact hcell _ _ (flat_get (j:=2) J5 hx (by omega))
 ·rw [Nat.add_assoc]; exact hcell _ _ (flat_get (j:=3) J5 hx (by omega))
 ·rw [Nat.add_assoc]; exact hcell _ _ (flat_get (j:=4) J5 hx (by omega))
 ·rw [Nat.add_assoc]; exact hcell _ _ (flat_get (j:=5) J5 hx (by omega))
theorem Sts.at_ {w:World} {A:Option Addr} {n c:Nat} {l:List Sh} {i:Nat} (h:Sts w (.slice A n c) l) (hi:i < n) :
 ∃ b off,A=some ⟨b,off,none⟩/\b<w.heap.size/\w.cell? ⟨b,off+i*6+1,none⟩=some (.int .i64 (kind l i))/\w.cell? ⟨b,off+i*6+2,none⟩=some (.int .i64 (par l i)):=by
 obtain ⟨_,m,_,heq,hm,_⟩:=h.shape
 cases heq
 obtain ⟨t,ht⟩:∃ t,l[i]?=some t:=Qp (by omega);obtain ⟨b,off,s,a3,n3,c3,a4,n4,c4,a5,n5,c5,rfl,hb,h0,h1,h2,_⟩:=h.all ht;rw [QdJ ht,Qf6 ht];exact ⟨b,off,rfl,hb,h1,h2⟩
theorem Sts.len {w:World} {A:Option Addr} {n c:Nat} {l:List Sh} (h:Sts w (.slice A n c) l):n = l.length:=by
 obtain ⟨_,m,_,heq,hm,_⟩:=h.shape
 cases heq
 exact hm
end
section
open Go.RowKit TermSpec EvalSpec ActSpec NamesSpec ExprSpec TransSpec SynSpec PrintSpec
end
section
open Go.RowKit TermSpec EvalSpec ActSpec NamesSpec ExprSpec TransSpec SynSpec PrintSpec
theorem StsP.len {w:World} {A:Option Addr} {n c:Nat} {l:List Sx} (h:StsP w (.slice A n c) l):n = l.length /\ n <= c:=by
 obtain ⟨ps,rfl,⟨A',c',heq,hc,-⟩,-⟩:=h
 cases heq
 exact ⟨(List.length_map _).symm,hc⟩
theorem StsP.at_ {w:World} {A:Option Addr} {n c:Nat} {l:List Sx} {i:Nat} {s:Sx} (h:StsP w (.slice A n c) l) (hi:l[i]? = some s) :
 ∃ b off a3 n3 c3 a4 n4 c4 a5 n5 c5,A = some ⟨b,off,none⟩ /\ b < w.heap.size /\ w.cell? ⟨b,off + i * 6,none⟩ = some (.string s.s) /\ w.cell? ⟨b,off + i * 6 + 1,none⟩ = some (.int .i64 s.kind) /\ w.cell? ⟨b,off + i * 6 + 2,none⟩ = some (.int .i64 s.par) /\
   w.cell? ⟨b,off+i*6+3,none⟩=some (.slice a3 n3 c3)/\w.cell? ⟨b,off+i*6+4,none⟩=some (.slice a4 n4 c4)/\w.cell? ⟨b,off+i*6+5,none⟩=some (.slice a5 n5 c5) /\
   Acs w (.slice a3 n3 c3) s.en/\Acs w (.slice a4 n4 c4) s.ex/\Trs w (.slice a5 n5 c5) s.tr:=by
 obtain ⟨ps,rfl,⟨A',c',heq,hc,hl,hA⟩,hn⟩:=h
 cases heq
 have hlt:=Ja hi;rw [List.getElem?_map] at hi;obtain ⟨p,hp,rfl⟩:=Option.map_eq_some_iff.1 hi;obtain ⟨b,off,rfl,hb,hcell⟩:=hA (by rw [List.length_map] at hlt; omega);obtain ⟨k1,k2,k3⟩:=hn p (List.mem_of_getElem? hp);refine ⟨b,off,p.a3,p.n3,p.c3,p.a4,p.n4,p.c4,p.a5,p.n5,p.c5,rfl,hb,?_,?_,?_,?_,?_,?_,k1,k2,k3⟩
 ·exact hcell _ _ (flat_get (j:=0) Jg hp (by omega))
 ·rw [Nat.add_assoc]; exact hcell _ _ (flat_get (j:=1) Jg hp (by omega))
 ·rw [Nat.add_assoc]; exact hcell _ _ (flat_get (j:=2) Jg hp (by omega))
 ·rw [Nat.add_assoc]; exact hcell _ _ (flat_get (j:=3) Jg hp (by omega))
 ·rw [Nat.add_assoc]; exact hcell _ _ (flat_get (j:=4) Jg hp (by omega))
 ·rw [Nat.add_assoc]; exact hcell _ _ (flat_get (j:=5) Jg hp (by omega))
theorem Trs.len {w:World} {A:Option Addr} {n c:Nat} {l:List Tr} (h:Trs w (.slice A n c) l):n = l.length /\ n <= c:=by
 obtain ⟨ps,rfl,⟨A',c',heq,hc,-⟩,-⟩:=h
 cases heq
 exact ⟨(List.length_map _).symm,hc⟩
theorem Trs.at_ {w:World} {A:Option Addr} {n c:Nat} {l:List Tr} {i:Nat} {t:Tr} (h:Trs w (.slice A n c) l) (hi:l[i]? = some t) :
 ∃ b off gA gn gc aA an ac,A = some ⟨b,off,none⟩ /\ b < w.heap.size /\ w.cell? ⟨b,off + i * 4,none⟩ = some (.string t.ev) /\ w.cell? ⟨b,off + i * 4 + 1,none⟩ = some (.slice gA gn gc) /\ w.cell? ⟨b,off + i * 4 + 2,none⟩ = some (.slice aA an ac) /\ w.cell? ⟨b,off + i * 4 + 3,none⟩ = some (.string t.tg) /\
   TrIn w gA gn gc aA an ac t:=by
 obtain ⟨ps,rfl,⟨A',c',heq,hc,hl,hA⟩,hn⟩:=h
 cases heq
 have hlt:=Ja hi;rw [List.getElem?_map] at hi;obtain ⟨p,hp,rfl⟩:=Option.map_eq_some_iff.1 hi;obtain ⟨b,off,rfl,hb,hcell⟩:=hA (by rw [List.length_map] at hlt; omega);refine ⟨b,off,p.gA,p.gn,p.gc,p.aA,p.an,p.ac,rfl,hb,?_,?_,?_,?_,hn p (List.mem_of_getElem? hp)⟩
 ·exact hcell _ _ (flat_get (j:=0) QaL hp (by omega))
 ·rw [Nat.add_assoc]; exact hcell _ _ (flat_get (j:=1) QaL hp (by omega))
 ·rw [Nat.add_assoc]; exact hcell _ _ (flat_get (j:=2) QaL hp (by omega))
 ·rw [Nat.add_assoc]; exact hcell _ _ (flat_get (j:=3) QaL hp (by omega))
theorem RdV.len {w:World} {A:Option Addr} {n c:Nat} {l:List Vr} (h:RdV w (.slice A n c) l):n = l.length /\ n <= c:=by
 obtain ⟨A',c',heq,hc,-⟩:=h
 cases heq
 exact ⟨rfl,hc⟩
theorem RdV.vars {w:World} {A:Option Addr} {n c:Nat} {l:List Vr} (h:RdV w (.slice A n c) l):VarsIn w A n c l:=by
 obtain ⟨hn,-⟩:=RdV.len h;refine ⟨hn,?_⟩;rw [hn];rw [hn] at h;exact h
theorem StsP.sts {w:World} {v:Value} {l:List Sx} (h:StsP w v l):Sts w v (l.map shOf):=by
 obtain ⟨ps,rfl,hr,-⟩:=h;refine ⟨ps.map fun p=>⟨p.x.s,shOf p.x,p.a3,p.n3,p.c3,p.a4,p.n4,p.c4,p.a5,p.n5,p.c5⟩,by rw [List.map_map,List.map_map]; rfl,?_⟩;rw [List.length_map,List.length_map]
 have:stsV (ps.map fun p => ⟨p.x.s,shOf p.x,p.a3,p.n3,p.c3,p.a4,p.n4,p.c4,p.a5,p.n5,p.c5⟩) = ps.flatMap spV:=by
  unfold stsV;rw [List.flatMap_map]
  rfl
 rw [this];exact hr
theorem Qah {α:Type} {f:α -> Bool} {l:List α} {k:Nat} {x:α} (hx:l[k]? = some x) (h:(l.take k).all f = true) (hf:f x = true):(l.take (k + 1)).all f = true:=by
 rw [QA hx,List.all_append,h];simp [hf]
theorem Qdy {α:Type} {f:α -> Bool} {l:List α} {k:Nat} {x:α} (hx:l[k]? = some x) (hf:f x = false):l.all f = false:=by
 rw [List.all_eq_false];exact ⟨x,List.mem_of_getElem? hx,by simp [hf]⟩
end
section
open Go.RowKit ShapeSpec
set_option maxRecDepth 100000
def AtUp (n:Nat) (i:Value) (Q:Int->Prop):Prop:=∃ j:Int,i = .int .i64 j/\j<n/\Q j
def DepQ (l:List Sh) (d:Nat) (v:Value) (j:Int):Prop:=∃ k:Nat,v = .int .i64 k/\((0<=j/\k+(up l j.toNat).length+1=d)\/(j = -1/\k=d))
theorem depQ_bd {l:List Sh} {d k:Nat} {j:Int} (h:(0<=j/\k+(up l j.toNat).length+1=d)\/(j = -1/\k=d)):k<=d:=by omega
theorem depQ_next {l:List Sh} {n d k j:Nat} (hs:SU l n) (hj:j < n) (h:k + (up l j).length + 1 = d):par l j < n /\ par l j < j /\ DepQ l d (.int .i64 ((k:Int) + 1)) (par l j):=by
 rcases Nat.eq_zero_or_pos j with h0 | h0
 ·subst h0
  have hr:=hs.root hj;rw [show up l 0=[] from rfl] at h;rw [hr];exact ⟨by omega,by omega,k+1,by simp,.inr ⟨rfl,by simpa using h⟩⟩
 ·obtain ⟨p,hp,hlt,hup,_⟩:=hs.parn hj h0
  rw [hp];rw [hup,sf,List.length_cons] at h;exact ⟨by omega,by omega,k+1,by simp,.inl ⟨by omega,by simp; omega⟩⟩
theorem Qh0 (A:Option Addr) (n c:Nat) (l:List Sh) (i:Nat) (w:World) (h:Sts w (.slice A n c) l) (hs:SU l n) (hi:i < n) (hm:n <= 1000000) :
 Calls Tryz.prog 128 #[.slice A n c,.int .i64 i] w (SameI w ((up l i).length+1:Nat)):=by
 have HT:=qh h;have HS:=qh hs;have hul:=JX l i;obtain ⟨d,hd⟩:∃ d,d=(up l i).length+1:=⟨_,rfl⟩;rw [<- hd];have hdm:d<=1000001:=by omega
 have HD:=qh hd;clear h hs hd hul;go_enter Tryz.func128,Tryz.ntmps128;go_wp2_with fail
 go_loop [1,5] (fun i v=>AtUp n i (DepQ l d v)) (fun i _=>(intOf i+1).toNat)
 case atStart=>exact ⟨i,rfl,by omega,0,rfl,.inl ⟨by omega,by rw [HD.o]; simp⟩⟩
 case round =>
  obtain ⟨j,rfl,hj,k,rfl,hq⟩:=hrel;have hk:=depQ_bd hq
  rcases hq with ⟨h0,hq⟩ | ⟨rfl,hq⟩
  ·obtain ⟨j,rfl⟩:=Int.eq_ofNat_of_zero_le h0
   obtain ⟨b,off,rfl,hb,c1,c2⟩:=HT.o.at_ (i:=j) (by omega);obtain ⟨hp1,hp2,hp3⟩:=depQ_next (j:=j) HS.o (by omega) hq;have HP:=qh hp3;obtain ⟨p,hp⟩:∃ p,p=par l j:=⟨_,rfl⟩;rw [<- hp] at c2 hp1 hp2 HP;clear hq hp hp3 c1;go_wp2_with fail
   go_round
   case rel=>exact ⟨p,rfl,hp1,HP.o⟩
   case measure=>simp [intOf]; omega
  ·subst hq
   go_wp2_with fail;go_ret;exact ⟨rfl,rfl⟩
def HangQ (l:List Sh) (i q:Nat) (v:Value):Prop:=∃ j:Nat,v = .int .i64 j/\j<i/\(q∈sf l (i-1)↔q∈sf l j)
theorem QiX {l:List Sh} {n i j q:Nat} (hs:SU l n) (hi:i <= n) (hj:j < i) (hq:q < j) (h:q ∈ sf l (i - 1) ↔ q ∈ sf l j):0 <= par l j /\ par l j < j /\ HangQ l i q (.int .i64 (par l j)):=by
 obtain ⟨p,hp,hlt,hup,_⟩:=hs.parn (show j<n by omega) (by omega);rw [hp];refine ⟨by omega,by omega,p,rfl,by omega,h.trans ?_⟩;rw [<- hup];exact ⟨fun hm=>QaS hm (by omega),Qde⟩
theorem hang_zero {l:List Sh}:hangB l 0=decide (par l 0 = -1):=rfl
theorem hang_neg {l:List Sh} {i:Nat} (h0:i ≠ 0) (h:par l i < 0):hangB l i = false:=by
 unfold hangB;rw [if_neg h0,decide_eq_false (show ¬ 0<=par l i by omega)]
 rfl
theorem hang_at {l:List Sh} {i q:Nat} (h0:i ≠ 0) (h:par l i = q) (hm:q ∈ sf l (i - 1)):hangB l i = decide (kind l q ≠ 1):=by
 have:=Qaf hm;unfold hangB;rw [if_neg h0,h,decide_eq_true (show (0:Int)<=q by omega),decide_eq_true (show (q:Int)<i by omega),show ((q:Nat):Int).toNat=q from rfl,decide_eq_true hm];simp
theorem hang_off {l:List Sh} {i q:Nat} (h0:i ≠ 0) (h:par l i = q) (hm:q ∉ sf l (i - 1)):hangB l i = false:=by
 unfold hangB;rw [if_neg h0,h,show ((q:Nat):Int).toNat=q from rfl,decide_eq_false hm];simp
theorem hangs_any (A:Option Addr) (n c:Nat) (l:List Sh) (i:Nat) (w:World) (h:Sts w (.slice A n c) l) (hs:SU l i) (hi:i < n) (hm:n <= 1000000) :
 Calls Tryz.prog 156 #[.slice A n c,.int .i64 i] w (SameB w (hangB l i)):=by
 have HT:=qh h;have HS:=qh hs;obtain ⟨b,off,rfl,hb,c1,c2⟩:=h.at_ hi;clear h hs c1;obtain ⟨p,hp⟩:∃ p,p=par l i:=⟨_,rfl⟩;rw [<- hp] at c2;have HP:=qh hp;clear hp
 rcases Nat.eq_zero_or_pos i with h0 | h0
 ·subst h0
  have HH:Hid (hangB l 0=decide (p = -1)):=qh (by rw [hang_zero,<- HP.o]);obtain ⟨r,hr⟩:∃ r,r=hangB l 0:=⟨_,rfl⟩;rw [<- hr] at HH ⊢;clear hr;have c2':w.cell? ⟨b,off+2,none⟩=some (.int .i64 p):=by simpa using c2
  clear c2
  by_cases hpp:p = -1
  ·have g1:(p == -1) = true:=by simpa using hpp
   have HR:Hid (r=true):=qh (by rw [HH.o]; simpa using hpp);clear hpp;go_enter Tryz.func156,Tryz.ntmps156;go_wp2_with fail;go_ret;exact ⟨Qg HR.o.symm,rfl⟩
  ·have g1:(p == -1) = false:=by simpa using hpp
   have HR:Hid (r=false):=qh (by rw [HH.o]; simpa using hpp);clear hpp;go_enter Tryz.func156,Tryz.ntmps156;go_wp2_with fail;go_ret;exact ⟨Qg HR.o.symm,rfl⟩
 ·have h0':i ≠ 0:=by omega
  have g0:((i:Int)==0)=false:=by simp; omega
  by_cases hneg:p<0
  ·have HR:Hid (hangB l i = false):=qh (hang_neg h0' (by rw [<- HP.o]; exact hneg))
   clear h0';go_enter Tryz.func156,Tryz.ntmps156;go_wp2_with fail;go_ret;exact ⟨Qg HR.o.symm,rfl⟩
  ·obtain ⟨q,rfl⟩:=Int.eq_ofNat_of_zero_le (Int.not_lt.1 hneg)
   have HA:Hid (q∈sf l (i-1)->hangB l i=decide (kind l q≠1)):=qh (hang_at h0' HP.o.symm);have HO:Hid (q∉sf l (i-1)->hangB l i=false):=qh (hang_off h0' HP.o.symm);obtain ⟨r,hr⟩:∃ r,r=hangB l i:=⟨_,rfl⟩;rw [<- hr] at HA HO ⊢;have hi1:1<=(i:Int):=by omega
   clear hneg hr h0' h0;go_enter Tryz.func156,Tryz.ntmps156;go_wp2_with fail
   go_loop [6] (fun v=>HangQ l i q v) (fun v=>(intOf v).toNat)
   case atStart=>exact ⟨i-1,by congr 1; omega,by omega,Iff.rfl⟩
   case round =>
    obtain ⟨j,rfl,hj,hiff⟩:=hrel;have HI:=qh hiff;clear hiff
    rcases Nat.lt_trichotomy j q with hlt | heq | hgt
    ·have HR:Hid (r = false):=qh (HO.o (fun hm => by have:=Qaf (HI.o.1 hm); omega))
     have g1:((j:Int)==(q:Int))=false:=by simp; omega
     have g2:(j==q)=false:=by simp; omega
     have g3:decide (q<j)=false:=decide_eq_false (by omega);go_wp2_with fail;go_ret;exact ⟨Qg HR.o.symm,rfl⟩
    ·subst heq
     obtain ⟨_,_,heq,_,c1,_⟩:=HT.o.at_ (i:=j) (by omega)
     cases heq
     have HR:Hid (r=decide (kind l j≠1)):=qh (HA.o (HI.o.2 (Zv _ _)));obtain ⟨kd,hkd⟩:∃ kd,kd=kind l j:=⟨_,rfl⟩;rw [<- hkd] at HR c1;have hji:(j:Int)<n:=by omega
     have hjn:j<n:=by omega
     clear hkd
     by_cases hk1:kd=1
     ·have g1:(kd != 1) = false:=by simpa using hk1
      have HR2:Hid (r=false):=qh (by rw [HR.o]; simpa using hk1);clear hk1;go_wp2_with fail;go_ret;exact ⟨Qg HR2.o.symm,rfl⟩
     ·have g1:(kd != 1) = true:=by simpa using hk1
      have HR2:Hid (r=true):=qh (by rw [HR.o]; simpa using hk1);clear hk1;go_wp2_with fail;go_ret;exact ⟨Qg HR2.o.symm,rfl⟩
    ·obtain ⟨_,_,heq,_,_,c2'⟩:=HT.o.at_ (i:=j) (by omega)
     cases heq
     obtain ⟨hp1,hp2,hp3⟩:=QiX HS.o (Nat.le_refl _) hj hgt HI.o;have HN:=qh hp3;obtain ⟨p',hp'⟩:∃ p',p'=par l j:=⟨_,rfl⟩;rw [<- hp'] at c2' hp1 hp2 HN;have hjn:j<n:=by omega
     clear hp' hp3;go_wp2_with fail
     go_round
     case rel=>exact HN.o
     case measure=>simp [intOf]; omega
theorem Qfc {l:List Sh} {i:Nat} (h:kind l i < 1 \/ 3 < kind l i):goodB l i = false:=by
 unfold goodB
 rcases h with h | h
 ·rw [decide_eq_false (show ¬ 1 <= kind l i by omega)]
  rfl
 ·rw [decide_eq_false (show ¬ kind l i <= 3 by omega)]
  simp
theorem good_hang {l:List Sh} {i:Nat} (h1:1 <= kind l i) (h2:kind l i <= 3):goodB l i = hangB l i:=by
 unfold goodB;rw [decide_eq_true h1,decide_eq_true h2]
 rfl
def StandRel (W:World) (l:List Sh) (n:Nat) (v:Value) (wr:World):Prop:=∃ k:Nat,k<=n/\v = .int .i64 k/\SU l k/\Below W.heap.size W wr
theorem stand_any (A:Option Addr) (n c:Nat) (l:List Sh) (w:World) (h:Sts w (.slice A n c) l) (hm:n <= 1000000) :
 Calls Tryz.prog 127 #[.slice A n c] w (RetB w (standB l)):=by
 have HT:=qh h;have HN:=qh h.len;have HF:=qh (fun i (hi:i<l.length) (hg:goodB l i=false)=>stand_not hi hg);have HO:=qh (fun (h0:0<l.length) (hs:SU l l.length)=>Qhb h0 hs);have HZ:Hid (l.length=0->standB l=false):=qh (fun e=>by cases l with | nil=>rfl | cons=>simp at e);obtain ⟨r,hr⟩:∃ r,r=standB l:=⟨_,rfl⟩;rw [<- hr] at HF HO HZ ⊢;clear h hr;go_enter Tryz.func127,Tryz.ntmps127;go_wp2_with fail
 go_loopw [7] (fun v wr=>StandRel w l n v wr) (fun v _=>n-(intOf v).toNat)
 case atStart=>exact ⟨0,Nat.zero_le _,rfl,SU.zero l,Below.refl _ _⟩
 case round =>
  obtain ⟨k,hk,rfl,hsu,hbw⟩:=hrel;have HSU:=qh hsu;have HBW:=qh hbw;clear hsu hbw
  by_cases hlt:k<n
  ·have hltI:(k:Int) < n:=by omega
   have HT1:=qh (HT.o.keep HBW.o);obtain ⟨t,ht⟩:∃ t,l[k]?=some t:=Qp (by rw [<- HN.o]; exact hlt);obtain ⟨b,off,s,a3,n3,c3,a4,n4,c4,a5,n5,c5,rfl,hb,c0,c1,c2,c3',c4',c5'⟩:=HT1.o.all ht;have hkd:=QdJ ht;obtain ⟨kd,hkd'⟩:∃ kd,kd=t.kind:=⟨_,rfl⟩;rw [<- hkd'] at hkd c1;have HK:=qh hkd;have HB1:Hid (∀ o:Obj,Below w.heap.size w (wr.alloc o)):=qh (fun o=>HBW.o.alloc HBW.o.size o);have HHG:=qh (fun w1 h=>hangs_any (some ⟨b,off,none⟩) n c l k w1 h HSU.o hlt hm);obtain ⟨q,hq⟩:∃ q,q=t.par:=⟨_,rfl⟩;rw [<- hq] at c2;clear ht hkd hkd' hq
   rcases Int.lt_trichotomy kd 1 with h1 | h1 | h1
   ·have HR:Hid (r = false):=qh (HF.o k (by rw [<- HN.o]; exact hlt) (Qfc (.inl (by rw [HK.o]; exact h1))))
    have g1:decide (kd<1)=true:=decide_eq_true h1;go_wp2_with fail;go_ret;exact ⟨Qg HR.o.symm,HB1.o _⟩
   all_goals
    by_cases h3:3<kd
    ·first
      | (exfalso; omega)
      | (have HR:Hid (r = false):=qh (HF.o k (by rw [<- HN.o]; exact hlt) (Qfc (.inr (by rw [HK.o]; exact h3))))
         have g1:decide (kd<1)=false:=decide_eq_false (by omega);have g3:decide (3<kd)=true:=decide_eq_true h3;go_wp2_with fail;go_ret;exact ⟨Qg HR.o.symm,HB1.o _⟩)
    ·have HG:Hid (goodB l k = hangB l k):=qh (good_hang (by rw [HK.o]; omega) (by rw [HK.o]; omega))
     obtain ⟨g,hg⟩:∃ g,g=hangB l k:=⟨_,rfl⟩;rw [<- hg] at HG HHG;have g1:decide (kd<1)=false:=decide_eq_false (by omega);have g3:decide (3<kd)=false:=decide_eq_false h3;clear hg h1 h3;have HTA:Hid (∀ o:Obj,Sts (wr.alloc o) (.slice (some ⟨b,off,none⟩) n c) l):=qh (fun o=>HT1.o.alloc o)
     cases g with
     | true =>
       go_wp2_with (go_at_call 156; go_fit (HHG.o _ (HTA.o _)); rintro e w' ⟨rfl,rfl⟩)
       go_roundw
       case rel=>exact ⟨k+1,by omega,by simp,HSU.o.next HG.o,HB1.o _⟩
       case measure=>simp [intOf]; omega
     | false =>
       have HR:Hid (r=false):=qh (HF.o k (by rw [<- HN.o]; exact hlt) HG.o);go_wp2_with (go_at_call 156; go_fit (HHG.o _ (HTA.o _)); rintro e w' ⟨rfl,rfl⟩);go_ret;exact ⟨Qg HR.o.symm,HB1.o _⟩
  ·obtain rfl:k = n:=by omega
   rcases Nat.eq_zero_or_pos k with h0 | h0
   ·subst h0
    have HR:Hid (r=false):=qh (HZ.o HN.o.symm);go_wp2_with fail;go_ret;exact ⟨Qg HR.o.symm,HBW.o⟩
   ·have HR:Hid (r = true):=qh (HO.o (by rw [<- HN.o]; exact h0) (by rw [<- HN.o]; exact HSU.o))
    have hkI:0<(k:Int):=by omega
    go_wp2_with fail;go_ret;exact ⟨Qg HR.o.symm,HBW.o⟩
theorem deep_not {l:List Sh} {i:Nat} (hi:i < l.length) (h:11 < (up l i).length):deepB l = true:=by
 simp only [deepB,List.any_eq_true,List.mem_range,decide_eq_true_eq];exact ⟨i,hi,h⟩
theorem deep_of {l:List Sh} (h:∀ i,i < l.length -> ¬ 11 < (up l i).length):deepB l = false:=by
 simp only [deepB,List.any_eq_false,List.mem_range,decide_eq_true_eq];exact h
theorem Qi2 {l:List Sh} (h:60<l.length):chk l=8:=if_pos h
theorem chk_arg {l:List Sh} (h:¬ 60<l.length) (hs:standB l=false):chk l=1:=by unfold chk; rw [if_neg h,if_pos hs]
theorem chk_deep {l:List Sh} (h:¬ 60<l.length) (hs:standB l=true):chk l=if deepB l=true then 6 else 0:=by unfold chk; rw [if_neg h,if_neg (by simp [hs])]
def DeepQ (l:List Sh) (n:Nat) (v:Value):Prop:=∃ k:Nat,k<=n/\v = .int .i64 k/\∀ i,i<k->¬ 11<(up l i).length
theorem Qb8 (A:Option Addr) (n c:Nat) (l:List Sh) (w:World) (h:Sts w (.slice A n c) l) (hm:n <= 9223372036854775807) :
 Calls Tryz.prog 93 #[.slice A n c] w (RetI w (chk l)):=by
 have hn:=h.len
 by_cases h60:60<n
 ·have HR:Hid (chk l = 8):=qh (Qi2 (by omega))
  have h60':(60:Int)<n:=by omega
  clear h hn;go_enter Tryz.func93,Tryz.ntmps93;go_wp2_with fail;go_ret;exact ⟨Qo HR.o.symm,Below.refl _ _⟩
 ·have h60':¬ (60:Int) < n:=by omega
  have HST:=qh (stand_any A n c l w h (by omega));have HA:Hid (standB l=false->chk l=1):=qh (chk_arg (by omega));have HD:Hid (standB l=true->chk l=if deepB l=true then 6 else 0):=qh (chk_deep (by omega))
  cases hs:standB l with
  | false =>
    rw [hs] at HST;have HR:Hid (chk l=1):=qh (HA.o hs);clear h hn HA HD hs;go_enter Tryz.func93,Tryz.ntmps93;go_wp2_with (go_at_call 127; go_fit HST.o);rintro e w1 ⟨rfl,hb⟩;go_wp2_with fail;go_ret;exact ⟨Qo HR.o.symm,hb⟩
  | true =>
    rw [hs] at HST;have HSU:Hid (SU l n):=qh (by rw [hn]; exact (Qa7 hs).2);have HR:Hid (chk l=if deepB l=true then 6 else 0):=qh (HD.o hs);have HT:=qh h;have HN:=qh hn;clear h hn HA HD hs;go_enter Tryz.func93,Tryz.ntmps93;go_wp2_with (go_at_call 127; go_fit HST.o);rintro e w1 ⟨rfl,hb⟩;have HT1:=qh (HT.o.keep hb);have HB:=qh hb;clear hb;go_wp2_with fail
    go_loop [12] (fun v=>DeepQ l n v) (fun v=>n-(intOf v).toNat)
    case atStart=>exact ⟨0,Nat.zero_le _,rfl,fun i hi=>absurd hi (by omega)⟩
    case round =>
     obtain ⟨k,hk,rfl,hq⟩:=hrel;have HQ:=qh hq;clear hq
     by_cases hlt:k<n
     ·have HDP:=qh (Qh0 A n c l k w1 HT1.o HSU.o hlt (by omega))
      have hul:=JX l k;obtain ⟨u,hu⟩:∃ u,u=(up l k).length:=⟨_,rfl⟩;rw [<- hu] at HDP hul;have HU:=qh hu;have hltI:(k:Int)<n:=by omega
      clear hu
      by_cases hd:11<u
      ·have HX:Hid (chk l = 6):=qh (by rw [HR.o,if_pos (deep_not (by rw [<- HN.o]; exact hlt) (by rw [<- HU.o]; exact hd))])
       have hd1:(12:Int)<((u+1:Nat):Int):=by omega
       have hd2:12<u+1:=by omega
       go_wp2_with (go_at_call 128; go_fit HDP.o; rintro e w' ⟨rfl,rfl⟩);go_ret;exact ⟨Qo HX.o.symm,HB.o⟩
      ·have hd1:¬ (12:Int) < ((u + 1:Nat):Int):=by omega
       have hd2:¬ 12<u+1:=by omega
       go_wp2_with (go_at_call 128; go_fit HDP.o; rintro e w' ⟨rfl,rfl⟩)
       go_round
       case rel => exact ⟨k + 1,by omega,by simp,fun i hi => by
        by_cases e:i=k
        ·rw [e,<- HU.o]; exact hd
        ·exact HQ.o i (by omega)⟩
       case measure=>simp [intOf]; omega
     ·obtain rfl:k = n:=by omega
      have HX:Hid (chk l=0):=qh (by rw [HR.o,if_neg (by rw [deep_of (fun i hi=>HQ.o i (by rw [HN.o]; exact hi))]; simp)]);go_wp2_with fail;go_ret;exact ⟨Qo HX.o.symm,HB.o⟩
def hasB (l:List Sh) (i:Int):Bool:=decide (0<=i)&&decide (i<l.length)&&(chk l==0)
theorem has_yes {l:List Sh} {i:Int} (h:hasB l i = true):∃ k:Nat,i = k /\ k < l.length /\ chk l = 0:=by
 simp [hasB] at h;obtain ⟨⟨h1,h2⟩,h3⟩:=h;exact ⟨i.toNat,by omega,by omega,h3⟩
theorem has_any (A:Option Addr) (n c:Nat) (l:List Sh) (i:Int) (w:World) (h:Sts w (.slice A n c) l) (hm:n <= 9223372036854775807) :
 Calls Tryz.prog 137 #[.slice A n c,.int .i64 i] w (RetB w (hasB l i)):=by
 have hn:=h.len;have HC:=qh (Qb8 A n c l w h hm);obtain ⟨ch,hch⟩:∃ ch,ch=chk l:=⟨_,rfl⟩;rw [<- hch] at HC;have HH:Hid (hasB l i=(decide (0<=i)&&decide (i<n)&&(ch==0))):=qh (by rw [hn,hch]; rfl);obtain ⟨r,hr⟩:∃ r,r=hasB l i:=⟨_,rfl⟩;rw [<- hr] at HH ⊢;clear h hn hch hr
 by_cases h0:0<=i
 ·have g0:decide (0 <= i) = true:=decide_eq_true h0
  by_cases h1:i<n
  ·have g1:decide (i < n) = true:=decide_eq_true h1
   have HR:Hid (r=(ch==0)):=qh (by rw [HH.o,g0,g1]; rfl)
   by_cases hc:ch=0
   ·have gc:(ch == 0) = true:=by simpa using hc
    have HR2:Hid (r=true):=qh (HR.o.trans gc);clear hc;go_enter Tryz.func137,Tryz.ntmps137;go_wp2_with (go_at_call 93; go_fit HC.o);rintro e w1 ⟨rfl,hb⟩;go_wp2_with fail;go_ret;exact ⟨Qg HR2.o.symm,hb⟩
   ·have gc:(ch == 0) = false:=by simpa using hc
    have HR2:Hid (r=false):=qh (HR.o.trans gc);clear hc;go_enter Tryz.func137,Tryz.ntmps137;go_wp2_with (go_at_call 93; go_fit HC.o);rintro e w1 ⟨rfl,hb⟩;go_wp2_with fail;go_ret;exact ⟨Qg HR2.o.symm,hb⟩
  ·have g1:decide (i < n) = false:=decide_eq_false h1
   have HR:Hid (r=false):=qh (by rw [HH.o,g0,g1]; rfl);go_enter Tryz.func137,Tryz.ntmps137;go_wp2_with fail;go_ret;exact ⟨Qg HR.o.symm,Below.refl _ _⟩
 ·have g0:decide (0 <= i) = false:=decide_eq_false h0
  have HR:Hid (r=false):=qh (by rw [HH.o,g0]; rfl);go_enter Tryz.func137,Tryz.ntmps137;go_wp2_with fail;go_ret;exact ⟨Qg HR.o.symm,Below.refl _ _⟩
end
section
open Go.RowKit ShapeSpec
set_option maxRecDepth 100000
def kidsA (l:List Sh) (i:Int):List Int:=if hasB l i=true then kids l i.toNat else []
theorem has_at {l:List Sh} {n:Nat} {i:Int} (hn:n = l.length) (h:hasB l i = true):∃ k:Nat,i = k /\ i.toNat = k /\ k < n /\ n <= 60 /\ SU l n:=by
 obtain ⟨k,rfl,hk,hc⟩:=has_yes h;subst hn;exact ⟨k,rfl,rfl,hk,(ZE hc).1,chk_su hc⟩
end
end Go.Proofs.YtbdalbpackfejaaGreatDoor
