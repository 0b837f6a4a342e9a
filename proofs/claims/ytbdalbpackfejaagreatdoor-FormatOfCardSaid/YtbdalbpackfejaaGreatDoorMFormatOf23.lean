/- FormOf, TermSameG, ActSameG, TransEqual, TransSame, SynSame, SynStates, PrintLightC, SynChart, FormSame, FormAwake, joined. -/
import Derived.Test.YtbdalbpackfejaaGreatDoorMFormatOf22
set_option maxHeartbeats 16000000
set_option maxRecDepth 100000
namespace Go.Proofs.YtbdalbpackfejaaGreatDoor
section
open Go.RowKit CurSpec TermSpec EvalSpec ActSpec NamesSpec ExprSpec TransSpec SynSpec FormSpec ScanSpec PrintSpec
set_option maxRecDepth 100000
def RetFo (W:World) (o:Fo) (e:Ending) (w':World):Prop:=e = .returned (.tuple #[.string o.t,.agg #[.int .i64 o.l,.int .i64 o.c],.int .i64 o.er])/\Below W.heap.size W w'
abbrev poO (l c:Int):Obj:=.cells #[.int .i64 l,.int .i64 c] 24
theorem put_one {w x:World} {o:Obj} (hb:Below (w.alloc o).heap.size (w.alloc o) x) (u v:Value):Below w.heap.size w ((x.setCell ⟨w.heap.size,0,none⟩ u).setCell ⟨w.heap.size,1,none⟩ v) :=
 ((Qa (KitC.Qh w o) hb).setCell (Nat.le_refl _) u).setCell (Nat.le_refl _) v
theorem fof_bad (s:ByteArray) (o:Fo) (ho:FoBad s o) (w:World) (hp:PairsIn w) (hg:SignsIn w) (hz:s.size <= 9223372036854775807):Calls Tryz.prog 5 #[.string s] w (RetFo w o):=by
 have HT:=qh (Qdo s (w.alloc poZ) (hp.alloc _) (hg.keep (KitC.Qh _ _)) hz);obtain ⟨P,hP⟩:∃ P,P=parseC s:=⟨_,rfl⟩;obtain ⟨h1,h2⟩:=ho;rw [<- hP] at HT h1 h2;have e1:(P.er != 0)=true:=by simpa using h1
 subst h2;clear h1 hP hp hg hz;go_enter Tryz.func5,Tryz.ntmps5;go_wp2_with (go_at_call 9; go_fit HT.o);rintro e x1 ⟨eA,en,ec,vA,vn,vc,sA,sn,sc,rfl,-,hb⟩;have hk:=(Qy hb).1;have HB:=qh (fun l c=>put_one hb (.int .i64 l) (.int .i64 c));have hlt:w.heap.size<x1.heap.size:=(Qy hb).2.2;obtain ⟨CO,hCO⟩:∃ CO:Obj,CO = .cells #[.string P.x.s,.slice eA en ec,.slice vA vn vc,.slice sA sn sc] 34:=⟨_,rfl⟩;have hb2:Below w.heap.size w ((x1.alloc CO).alloc (poO P.l P.c)):=Qa (Qy hb).2.1 (Qa (KitC.Qh _ _) (KitC.Qh _ _));have hpo:((x1.alloc CO).alloc (poO P.l P.c)).heap[x1.heap.size+1]?=some (poO P.l P.c):=by have:=heap_alloc_new (x1.alloc CO) (poO P.l P.c); rwa [World.size_alloc] at this
 have hre:((x1.alloc CO).alloc (poO P.l P.c)).heap[w.heap.size]?=some poZ:=Qe hk (Qa (KitC.Qh _ _) (KitC.Qh _ _));obtain ⟨Y,hY⟩:∃ Y,(x1.alloc CO).alloc (poO P.l P.c)=Y:=⟨_,rfl⟩;rw [hY] at hb2 hpo hre;rw [hCO] at hY;have HY:=qh hY;have HB2:=qh hb2;have HK:=qh hre;obtain ⟨t0,t1⟩:=QC hpo;obtain ⟨⟨r0,r1⟩,j0,j1⟩:=And.intro (QC hre) (Zu hre);have n1:¬ x1.heap.size+1=w.heap.size:=by omega
 have n2:¬ w.heap.size=x1.heap.size+1:=by omega
 clear hk hlt hb hCO hb2 hpo hre hY;go_upto_region 2 with fail;rw [HY.o];go_wp2_with fail;go_region
 all_goals
  go_wp2_with fail;obtain ⟨y0,y1⟩:=QC (show ((Y.setCell ⟨w.heap.size,0,none⟩ (.int .i64 P.l)).setCell ⟨w.heap.size,1,none⟩ (.int .i64 P.c)).heap[w.heap.size]?=some (poO P.l P.c) from Qd (Qd HK.o 0 _) 1 _);refine bodyPost_ret (v:=.tuple #[.string ⟨#[]⟩,.agg #[.int .i64 P.l,.int .i64 P.c],.int .i64 P.er]) (by simp [results,Tryz.results5,go_sem,y0,y1]) rfl ?_;exact ⟨rfl,((HB2.o.setCell (Nat.le_refl _) _).setCell (Nat.le_refl _) _).drew⟩
theorem put_says {c:Tc} {o:Fo} (h:FoOk c o):∃ t er,o = ⟨t,0,0,er⟩ /\ (er = 0 \/ er = 5 /\ t = ⟨#[]⟩) /\ (er = 0 ↔ (scanT (T (bs (putC c)))).2.2 = 0) /\ (er = 0 -> t = bs (putC c)) /\
 ∀ eA en ec vA vn vc sA sn sc W,PairsIn W->SignsIn W->ChIn W (.slice eA en ec) (.slice vA vn vc) (.slice sA sn sc) c.cx->Calls Tryz.prog 10 #[.agg #[.string c.s,.slice eA en ec,.slice vA vn vc,.slice sA sn sc]] W (RetPP W t er):=by
 obtain ⟨ok,ho⟩:=h
 by_cases hs:(scanT (T (bs (putC c)))).2.2=0
 ·rw [if_pos hs] at ho
  exact ⟨_,_,ho,.inl rfl,⟨fun _=>hs,fun _=>rfl⟩,fun _=>rfl,fun eA en ec vA vn vc sA sn sc W hp hg h=>(QfZ c eA en ec vA vn vc sA sn sc W hp hg h ok).1 hs⟩
 ·rw [if_neg hs] at ho
  exact ⟨_,_,ho,.inr ⟨rfl,rfl⟩,⟨(fun h=>by cases h),fun h=>absurd h hs⟩,(fun h=>by cases h),fun eA en ec vA vn vc sA sn sc W hp hg h=>(QfZ c eA en ec vA vn vc sA sn sc W hp hg h ok).2 hs⟩
theorem fof_ok (s:ByteArray) (c:Tc) (o:Fo) (hP:parseC s = ⟨c.cx,0,0,0⟩) (ho:FoOk c o) (w:World) (hp:PairsIn w) (hg:SignsIn w) (hz:s.size <= 9223372036854775807):Calls Tryz.prog 5 #[.string s] w (RetFo w o):=by
 have b2:=Qbm;have HT:=qh (Qdo s (w.alloc poZ) (hp.alloc _) (hg.keep (KitC.Qh _ _)) hz);rw [hP] at HT;obtain ⟨t,er,rfl,he,-,-,hput⟩:=put_says ho;have HPT:=qh (fun eA en ec vA vn vc sA sn sc W (hW:Below w.heap.size w W) h=>hput eA en ec vA vn vc sA sn sc W (hp.keep hW) (hg.keep hW) h);have hcs:c.cx.s=c.s:=rfl;rw [hcs] at *;obtain ⟨nm,hnm⟩:∃ nm,nm=c.s:=⟨_,rfl⟩;rw [<- hnm] at HPT;have HNM:Hid (c.cx.s=nm):=qh hnm.symm;clear hP ho hp hg hz hput hcs hnm;go_enter Tryz.func5,Tryz.ntmps5;go_wp2_with (go_at_call 9; go_fit HT.o);rintro e x1 ⟨eA,en,ec,vA,vn,vc,sA,sn,sc,rfl,hch,hb⟩;simp only [HNM.o];have hk:=(Qy hb).1;have hlt:w.heap.size<x1.heap.size:=(Qy hb).2.2;obtain ⟨CO,hCO⟩:∃ CO:Obj,CO = .cells #[.string nm,.slice eA en ec,.slice vA vn vc,.slice sA sn sc] 34:=⟨_,rfl⟩;have hby:Below x1.heap.size x1 ((x1.alloc CO).alloc poZ):=Qa (KitC.Qh _ _) (KitC.Qh _ _);have hco:((x1.alloc CO).alloc poZ).heap[x1.heap.size]?=some CO:=Qe (heap_alloc_new _ _) (KitC.Qh _ _);obtain ⟨Y,hY⟩:∃ Y,(x1.alloc CO).alloc poZ=Y:=⟨_,rfl⟩;rw [hY] at hby hco;rw [hCO] at hY hco;have HY:=qh hY;have HBY:=qh (Qa (Qy hb).2.1 hby);have HCH:=qh (hch.keep hby);have HRE:=qh (Qe hk hby);obtain ⟨t0,t1,t2,t3⟩:=Qi hco;clear hk hlt hb hCO hby hco hY hch;go_upto_region 4 with fail;rw [HY.o];go_wp2_with (go_at_call 10; go_fit (HPT.o _ _ _ _ _ _ _ _ _ _ HBY.o HCH.o));rintro e x2 ⟨rfl,hb⟩;have HB:=qh (Qa HBY.o hb);have HK:=qh (Qe HRE.o hb);obtain ⟨⟨r0,r1⟩,j0,j1⟩:=And.intro (QC HK.o) (Zu HK.o);clear hb
 rcases he with rfl | ⟨rfl,rfl⟩
 ·go_wp2_with fail
  obtain ⟨y0,y1⟩:=QC (show ((x2.setCell ⟨w.heap.size,0,none⟩ (.int .i64 0)).setCell ⟨w.heap.size,1,none⟩ (.int .i64 0)).heap[w.heap.size]?=some (poO 0 0) from Qd (Qd HK.o 0 _) 1 _);refine bodyPost_ret (v:=.tuple #[.string t,.agg #[.int .i64 0,.int .i64 0],.int .i64 0]) (by simp [results,Tryz.results5,go_sem,y0,y1]) rfl ?_;exact ⟨rfl,(HB.o.setCell (Nat.le_refl _) _).setCell (Nat.le_refl _) _⟩
 ·go_wp2_with fail
  obtain ⟨y0,y1⟩:=QC (show ((x2.setCell ⟨w.heap.size,0,none⟩ (.int .i64 0)).setCell ⟨w.heap.size,1,none⟩ (.int .i64 0)).heap[w.heap.size]?=some (poO 0 0) from Qd (Qd HK.o 0 _) 1 _);refine bodyPost_ret (v:=.tuple #[.string ⟨#[]⟩,.agg #[.int .i64 0,.int .i64 0],.int .i64 5]) (by simp [results,Tryz.results5,go_sem,y0,y1]) rfl ?_;exact ⟨rfl,(HB.o.setCell (Nat.le_refl _) _).setCell (Nat.le_refl _) _⟩
theorem Qgk (s:ByteArray) (o:Fo) (ho:FoIs s o) (w:World) (hp:PairsIn w) (hg:SignsIn w) (hz:s.size <= 9223372036854775807):Calls Tryz.prog 5 #[.string s] w (RetFo w o):=by
 rcases ho with ho | ⟨c,hP,ho⟩
 ·exact fof_bad s o ho w hp hg hz
 ·exact fof_ok s c o hP ho w hp hg hz
theorem Qgi (s:ByteArray) (o:Fo) (ho:FoIs s o) (w:World) (hp:PairsIn w) (hg:SignsIn w) (hz:s.size <= 9223372036854775807):Calls Tryz.prog 7 #[.string s] w (RetB w (decide (o.er = 0) && decide (o.t = s))):=by
 have HT:=qh (Qgk s o ho w hp hg hz);clear ho hp hg hz;go_enter Tryz.func7,Tryz.ntmps7;go_wp2_with (go_at_call 5; go_fit HT.o);rintro e x1 ⟨rfl,hb⟩;have HB:=qh (Qa hb (KitC.Qh x1 (poO o.l o.c)));clear hb
 by_cases h0:o.er=0
 ·have g0:(o.er == 0) = true:=by simpa using h0
  by_cases h1:o.t=s
  ·have g1:(o.t.toList == s.toList) = true:=by rw [h1]; simp
   have HV:Hid ((decide (o.er=0)&&decide (o.t=s))=true):=qh (by simp [h0,h1]);clear h0 h1;go_wp2_with fail;go_ret;exact ⟨Qg HV.o.symm,HB.o⟩
  ·have g1:(o.t.toList == s.toList) = false:=(Lib.bytes_beq_false_iff _ _).2 h1
   have HV:Hid ((decide (o.er=0)&&decide (o.t=s))=false):=qh (by simp [h1]);clear h0 h1;go_wp2_with fail;go_ret;exact ⟨Qg HV.o.symm,HB.o⟩
 ·have g0:(o.er == 0) = false:=by simpa using h0
  have HV:Hid ((decide (o.er=0)&&decide (o.t=s))=false):=qh (by simp [h0]);clear h0;go_wp2_with fail;go_ret;exact ⟨Qg HV.o.symm,HB.o⟩
end
section
open Go.RowKit TermSpec Go.BigFrame
def TmGRel (W:World) (l m:List Tm) (n:Nat) (v:Value) (w:World):Prop:=∃ k:Nat,k<=n/\v = .int .i64 k/\l.take k=m.take k/\Below W.heap.size W w
theorem tm_ne {t u:Tm} (h:t ≠ u):t.op ≠ u.op \/ (t.op = u.op /\ t.n ≠ u.n) \/ (t.op = u.op /\ t.n = u.n /\ t.s ≠ u.s):=by
 obtain ⟨a,b,c⟩:=t;obtain ⟨d,e,f⟩:=u;simp only
 by_cases h1:a=d
 ·by_cases h2:b = e
  ·exact .inr (.inr ⟨h1,h2,fun h3=>h (by rw [h1,h2,h3])⟩)
  ·exact .inr (.inl ⟨h1,h2⟩)
 ·exact .inl h1
theorem Qbz {α:Type} {l m:List α} {k:Nat} {t u:α} (h1:l[k]?=some t) (h2:m[k]?=some u) (h:t≠u):l≠m:=fun e=>h (by rw [e,h2] at h1; cases h1; rfl)
theorem take_same {α:Type} {l m:List α} {k:Nat} {t:α} (h:l.take k=m.take k) (h1:l[k]?=some t) (h2:m[k]?=some t):l.take (k+1)=m.take (k+1):=by rw [QA h1,QA h2,h]
theorem QcP {x y:ByteArray} (h:x≠y):(x.toList==y.toList)=false:=(Lib.bytes_beq_false_iff x y).2 h
end
section
open Go.RowKit Go.Sort TermSpec EvalSpec ActSpec NamesSpec Go.BigFrame
def AcGRel (W:World) (l m:List Ac) (n:Nat) (v:Value) (w:World):Prop:=∃ k:Nat,k<=n/\v = .int .i64 k/\l.take k=m.take k/\Below W.heap.size W w
end
section
open Go.RowKit Go.Sort TermSpec EvalSpec ActSpec NamesSpec Go.BigFrame
set_option maxRecDepth 100000
theorem eq_yes (t:Tm) (w:World):(Op.equalIn 10000 123 (.agg #[.int .i64 t.op,.int .i64 t.n,.string t.s]) (.agg #[.int .i64 t.op,.int .i64 t.n,.string t.s])).run Tryz.prog w = .ok true w:=by rw [Qci]; simp
theorem eq_no {t u:Tm} (h:t ≠ u) (w:World):(Op.equalIn 10000 123 (.agg #[.int .i64 t.op,.int .i64 t.n,.string t.s]) (.agg #[.int .i64 u.op,.int .i64 u.n,.string u.s])).run Tryz.prog w = .ok false w:=by
 rw [Qci]
 congr 1
 rcases tm_ne h with h | ⟨_,h⟩ | ⟨_,_,h⟩
 ·simp [h]
 ·simp [h]
 ·simp [QcP h]
theorem teq_any (A1 A2:Option Addr) (n1 n2 c1 c2:Nat) (l m:List Tm) (b:Bool) (hb:b = true ↔ l = m) (w:World) (h1:Tms w (.slice A1 n1 c1) l) (h2:Tms w (.slice A2 n2 c2) m) (hn1:n1 = l.length) (hn2:n2 = m.length) (hm:n1 <= 9223372036854775806) :
 Calls Tryz.prog 72 #[.slice A1 n1 c1,.slice A2 n2 c2] w (RetB w b):=by
 by_cases hnm:n1=n2
 ·subst hnm
  have HT:=qh (And.intro h1 h2);have HN:=qh hn1;have HM:=qh hn2;have HBB:=qh hb;clear h1 h2 hn1 hn2 hb;go_enter Tryz.func72,Tryz.ntmps72;go_wp2_with fail
  go_loopw [13] (fun v wr=>TmGRel w l m n1 v wr) (fun v _=>n1-(intOf v).toNat)
  case atStart=>exact ⟨0,Nat.zero_le _,rfl,rfl,Below.refl _ _⟩
  case round =>
   obtain ⟨k,hk,rfl,htk,hbw⟩:=hrel
   by_cases hlt:k<n1
   ·obtain ⟨t,ht⟩:∃ t,l[k]? = some t:=Qp (by rw [<- HN.o]; exact hlt)
    obtain ⟨u,hu⟩:∃ u,m[k]?=some u:=Qp (by rw [<- HM.o]; exact hlt);obtain ⟨b1,off1,rfl,hb1,x0,x1,x2⟩:=(HT.o.1.keep hbw).at_ ht;obtain ⟨b2,off2,rfl,hb2,y0,y1,y2⟩:=(HT.o.2.keep hbw).at_ hu;have hltI:(k:Int)<(n1:Int):=by omega
    have HW:=qh hbw;have HTK:=qh htk;clear hbw htk
    by_cases htu:t=u
    ·subst htu
     have HNX:=qh (take_same HTK.o ht hu);have heq:=eq_yes t;obtain ⟨o,nn,s⟩:=t;simp only at x0 x1 x2 y0 y1 y2 heq;clear ht hu;go_wp2_with fail;go_big_quiet (fail);go_wp2_with fail
     go_roundw
     case rel=>exact ⟨k+1,hlt,by go_num,HNX.o,below_drewN HW.o _⟩
     case measure=>simp [intOf]; omega
    ·have HST:Hid (b = false):=qh (by
      have:=Qbz ht hu htu
      rcases b with _ | _
      ·rfl
      ·exact absurd (HBB.o.1 rfl) this)
     have heq:=eq_no htu;obtain ⟨o,nn,s⟩:=t;obtain ⟨o',nn',s'⟩:=u;simp only at x0 x1 x2 y0 y1 y2 heq;clear ht hu htu;go_wp2_with fail;go_big_quiet (fail);go_wp2_with fail;go_ret;exact ⟨Qg HST.o.symm,below_drewN HW.o _⟩
   ·have HE:Hid (b = true):=qh (HBB.o.2 (by
     have h1:=HN.o;have h2:=HM.o
     rwa [List.take_of_length_le (by omega),List.take_of_length_le (by omega)] at htk))
    have hltI:¬ (k:Int)<(n1:Int):=by omega
    go_wp2_with fail;go_ret;exact ⟨Qg HE.o.symm,hbw⟩
 ·have HE:Hid (b = false):=qh (by
   rcases b with _ | _
   ·rfl
   ·exact absurd (by rw [hn1,hn2,hb.1 rfl]) hnm)
  have g:((n1:Int) != (n2:Int))=true:=by simp; omega
  have g':((n1:Int)==(n2:Int))=false:=by simp; omega
  clear h1 h2 hn1 hn2 hb;go_enter Tryz.func72,Tryz.ntmps72;go_wp2_with fail;go_ret;exact ⟨Qg HE.o.symm,Below.refl _ _⟩
theorem ac_parts {t u:Ac} {r q:Bool} (hr:r = true ↔ t = u) (hq:q = true ↔ t.x = u.x):r = ((t.s.toList == u.s.toList) && ((t.any == u.any) && q)):=by
 rw [Bool.eq_iff_iff,hr];obtain ⟨a,b,c⟩:=t;obtain ⟨d,e,f⟩:=u;simp only [Bool.and_eq_true,beq_iff_eq] at hq ⊢;rw [hq]
 constructor
 ·rintro h
  cases h
  exact ⟨rfl,rfl,rfl⟩
 ·rintro ⟨h1,h2,h3⟩
  rw [ZB (x:=a) (y:=d) (by simpa using h1),h2,h3]
theorem Jj (p:Prop):∃ q:Bool,q = true ↔ p:=by
 by_cases h:p
 ·exact ⟨true,by simp [h]⟩
 ·exact ⟨false,by simp [h]⟩
theorem QhA (t u:Ac) (r:Bool) (hr:r = true ↔ t = u) (A1 A2:Option Addr) (n1 n2 c1 c2:Nat) (w:World) (h1:Tms w (.slice A1 n1 c1) t.x) (h2:Tms w (.slice A2 n2 c2) u.x) (hm:n1 <= 4398046511104) :
 Calls Tryz.prog 74 #[.agg #[.string t.s,.bool t.any,.slice A1 n1 c1],.agg #[.string u.s,.bool u.any,.slice A2 n2 c2]] w (RetB w r):=by
 obtain ⟨A',n',c',heq,hn1,-⟩:=h1.shape
 cases heq
 obtain ⟨A',n',c',heq,hn2,-⟩:=h2.shape
 cases heq
 obtain ⟨q,hq⟩:=Jj (t.x=u.x);have HQ:=qh (fun W (hW:Below w.heap.size w W)=>teq_any A1 A2 n1 n2 c1 c2 t.x u.x q hq W (h1.keep hW) (h2.keep hW) hn1 hn2 (by omega));have HE:=qh (ac_parts hr hq);obtain ⟨s,any,x⟩:=t;obtain ⟨s',any',x'⟩:=u;simp only at HE HQ ⊢;clear hr hq h1 h2 hn1 hn2
 rcases g1:(s.toList==s'.toList) with _ | _
 ·have HR:Hid (r = false):=qh (by rw [HE.o,g1]; rfl)
  clear HE HQ;go_enter Tryz.func74,Tryz.ntmps74;go_wp2_with fail;go_ret;exact ⟨Qg HR.o.symm,KitC.Qm _ _ _⟩
 ·rcases g2:(any == any') with _ | _
  ·have HR:Hid (r = false):=qh (by rw [HE.o,g1,g2]; rfl)
   clear HE HQ;go_enter Tryz.func74,Tryz.ntmps74;go_wp2_with fail;go_ret;exact ⟨Qg HR.o.symm,KitC.Qm _ _ _⟩
  ·have HR:Hid (r = q):=qh (by rw [HE.o,g1,g2]; rfl)
   clear HE;go_enter Tryz.func74,Tryz.ntmps74;go_wp2_with (go_at_call 72; go_fit (HQ.o _ (KitC.Qm _ _ _)));rintro e w2 ⟨rfl,hb⟩;have HB:=qh (Qa (KitC.Qm _ _ _) hb);clear hb;go_wp2_with fail;go_ret;exact ⟨Qg HR.o.symm,HB.o⟩
theorem aeqf_any (A1 A2:Option Addr) (n1 n2 c1 c2:Nat) (l m:List Ac) (b:Bool) (hb:b = true ↔ l = m) (w:World) (h1:Acs w (.slice A1 n1 c1) l) (h2:Acs w (.slice A2 n2 c2) m) (hm:n1 <= 4398046511104) (hfew:∀ a ∈ l,a.x.length <= 4398046511104) :
 Calls Tryz.prog 73 #[.slice A1 n1 c1,.slice A2 n2 c2,.func (.func 74) #[] #[]] w (RetB w b):=by
 have hn1:=h1.len.1;have hn2:=h2.len.1;have hc1:=h1.len.2;have hc2:=h2.len.2
 by_cases hnm:n1=n2
 ·subst hnm
  have HT:=qh (And.intro h1 h2);have HN:=qh hn1;have HM:=qh hn2;have HBB:=qh hb;have HF:=qh hfew;clear h1 h2 hn1 hn2 hb hfew;go_enter Tryz.func73,Tryz.ntmps73;go_wp2_with fail
  go_loopw [17] (fun v wr=>AcGRel w l m n1 v wr) (fun v _=>n1-(intOf v).toNat)
  case atStart=>exact ⟨0,Nat.zero_le _,rfl,rfl,Below.refl _ _⟩
  case round =>
   obtain ⟨k,hk,rfl,htk,hbw⟩:=hrel
   by_cases hlt:k<n1
   ·obtain ⟨t,ht⟩:∃ t,l[k]? = some t:=Qp (by rw [<- HN.o]; exact hlt)
    obtain ⟨u,hu⟩:∃ u,m[k]?=some u:=Qp (by rw [<- HM.o]; exact hlt);have hx:=HF.o t (List.mem_of_getElem? ht);obtain ⟨b1,o1,xA,xn,xc,rfl,hb1,ht1,p0,p1,p2⟩:=(HT.o.1.keep hbw).at_ ht;obtain ⟨b2,o2,yA,yn,yc,rfl,hb2,ht2,q0,q1,q2⟩:=(HT.o.2.keep hbw).at_ hu;obtain ⟨_,_,_,heq,hxn,_⟩:=ht1.shape
    cases heq
    obtain ⟨r,hr⟩:=Jj (t=u);have HS:=qh (fun W (hW:Below wr.heap.size wr W)=>QhA t u r hr xA yA xn yn xc yc W (ht1.keep hW) (ht2.keep hW) (by omega));have HIF:=qh hr;have hltI:(k:Int)<(n1:Int):=by omega
    have hkI:(k:Int)<=4398046511104:=by omega
    have HW:=qh hbw;have HTK:=qh htk;have HTU:=qh (And.intro ht hu);clear hbw htk ht1 ht2 hxn hx ht hu hr;have HNX:Hid (r=true->l.take (k+1)=m.take (k+1)):=qh (fun h=>take_same HTK.o HTU.o.1 (by rw [HIF.o.1 h]; exact HTU.o.2))
    have HST:Hid (r = false -> b = false):=qh (fun h => by
     have:=Qbz HTU.o.1 HTU.o.2 (fun e=>by rw [HIF.o.2 e] at h; cases h)
     rcases b with _ | _
     ·rfl
     ·exact absurd (HBB.o.1 rfl) this)
    obtain ⟨s,any,x⟩:=t;obtain ⟨s',any',x'⟩:=u;simp only at p0 p1 p2 q0 q1 q2 HS
    rcases r with _ | _
    ·have HST':=qh (HST.o rfl)
     clear HNX HST HIF HTU;go_wp2_with (go_at_call 74; go_fit (HS.o _ (KitC.Qm _ _ _)));rintro e w2 ⟨rfl,hb⟩;have HB:=qh (Qa HW.o (Qa (KitC.Qm _ _ _) hb));clear hb;go_wp2_with fail;go_ret;exact ⟨Qg HST'.o.symm,HB.o⟩
    ·have HNX':=qh (HNX.o rfl)
     clear HNX HST HIF HTU;go_wp2_with (go_at_call 74; go_fit (HS.o _ (KitC.Qm _ _ _)));rintro e w2 ⟨rfl,hb⟩;have HB:=qh (Qa HW.o (Qa (KitC.Qm _ _ _) hb));clear hb;go_wp2_with fail
     go_roundw
     case rel=>exact ⟨k+1,hlt,by go_num,HNX'.o,HB.o⟩
     case measure=>simp [intOf]; omega
   ·have HE:Hid (b = true):=qh (HBB.o.2 (by
     have h1:=HN.o;have h2:=HM.o
     rwa [List.take_of_length_le (by omega),List.take_of_length_le (by omega)] at htk))
    have hltI:¬ (k:Int)<(n1:Int):=by omega
    go_wp2_with fail;go_ret;exact ⟨Qg HE.o.symm,hbw⟩
 ·have HE:Hid (b = false):=qh (by
   rcases b with _ | _
   ·rfl
   ·exact absurd (by rw [hn1,hn2,hb.1 rfl]) hnm)
  have g:((n1:Int) != (n2:Int))=true:=by simp; omega
  have g':((n1:Int)==(n2:Int))=false:=by simp; omega
  clear h1 h2 hn1 hn2 hb hfew;go_enter Tryz.func73,Tryz.ntmps73;go_wp2_with fail;go_ret;exact ⟨Qg HE.o.symm,Below.refl _ _⟩
end
section
open Go.RowKit TermSpec EvalSpec ActSpec NamesSpec ExprSpec TransSpec
set_option maxRecDepth 100000
theorem tr_parts {t u:Tr} {r qg qa:Bool} (hr:r = true ↔ t = u) (hg:qg = true ↔ t.g = u.g) (ha:qa = true ↔ t.acts = u.acts):r = ((t.ev.toList == u.ev.toList) && ((t.tg.toList == u.tg.toList) && (qg && qa))):=by
 rw [Bool.eq_iff_iff,hr];obtain ⟨a,b,c,d⟩:=t;obtain ⟨a',b',c',d'⟩:=u;simp only [Bool.and_eq_true,beq_iff_eq] at hg ha ⊢;rw [hg,ha]
 constructor
 ·rintro h
  cases h
  exact ⟨rfl,rfl,rfl,rfl⟩
 ·rintro ⟨h1,h2,h3,h4⟩
  rw [ZB (x:=a) (y:=a') (by simpa using h1),ZB (x:=d) (y:=d') (by simpa using h2),h3,h4]
theorem QfM (t u:Tr) (r:Bool) (hr:r = true ↔ t = u) (gA:Option Addr) (gn gc:Nat) (aA:Option Addr) (an ac:Nat) (gA':Option Addr) (gn' gc':Nat) (aA':Option Addr) (an' ac':Nat) (w:World) (h1:TrIn w gA gn gc aA an ac t) (h2:TrIn w gA' gn' gc' aA' an' ac' u) (hgl:t.g.length <= 4398046511104) (hal:t.acts.length <= 4398046511104) (hfew:∀ a ∈ t.acts,a.x.length <= 4398046511104) :
 Calls Tryz.prog 39 #[.agg #[.string t.ev,.slice gA gn gc,.slice aA an ac,.string t.tg],.agg #[.string u.ev,.slice gA' gn' gc',.slice aA' an' ac',.string u.tg]] w (RetB w r):=by
 obtain ⟨qg,hg⟩:=Jj (t.g=u.g);obtain ⟨qa,ha⟩:=Jj (t.acts=u.acts);have l1:=h1.len;have l2:=h2.len;have HG:=qh (fun W (hW:Below w.heap.size w W)=>teq_any gA gA' gn gn' gc gc' t.g u.g qg hg W (h1.g.keep hW) (h2.g.keep hW) l1.1 l2.1 (by omega));have HA:=qh (fun W (hW:Below w.heap.size w W)=>aeqf_any aA aA' an an' ac ac' t.acts u.acts qa ha W (h1.a.keep hW) (h2.a.keep hW) (by omega) hfew);have HE:=qh (tr_parts hr hg ha);obtain ⟨ev,g,acts,tg⟩:=t;obtain ⟨ev',g',acts',tg'⟩:=u;simp only at HE HG HA ⊢;clear hr hg ha h1 h2 l1 l2 hfew hgl hal
 rcases g1:(ev.toList==ev'.toList) with _ | _
 ·have HR:Hid (r = false):=qh (by rw [HE.o,g1]; rfl)
  clear HE HG HA;go_enter Tryz.func39,Tryz.ntmps39;go_wp2_with fail;go_ret;exact ⟨Qg HR.o.symm,KitC.Qm _ _ _⟩
 rcases g2:(tg.toList==tg'.toList) with _ | _
 ·have HR:Hid (r = false):=qh (by rw [HE.o,g1,g2]; rfl)
  clear HE HG HA;go_enter Tryz.func39,Tryz.ntmps39;go_wp2_with fail;go_ret;exact ⟨Qg HR.o.symm,KitC.Qm _ _ _⟩
 rcases qg with _ | _
 ·have HR:Hid (r = false):=qh (by rw [HE.o,g1,g2]; rfl)
  clear HE HA;go_enter Tryz.func39,Tryz.ntmps39;go_wp2_with (go_at_call 72; go_fit (HG.o _ (KitC.Qm _ _ _)));rintro e w2 ⟨rfl,hb⟩;have HB:=qh (Qa (KitC.Qm _ _ _) hb);clear hb;go_wp2_with fail;go_ret;exact ⟨Qg HR.o.symm,HB.o⟩
 ·have HR:Hid (r = qa):=qh (by rw [HE.o,g1,g2]; rfl)
  clear HE;go_enter Tryz.func39,Tryz.ntmps39;go_wp2_with (go_at_call 72; go_fit (HG.o _ (KitC.Qm _ _ _)));rintro e w2 ⟨rfl,hb⟩;have HB:=qh (KitC.Qz hb);obtain ⟨c0,c1,c2,c3⟩:=Qi HB.o.1;obtain ⟨d0,d1,d2,d3⟩:=Qi HB.o.2.1;clear hb;go_wp2_with (go_at_call 73; go_fit (HA.o _ HB.o.2.2.1));rintro e w3 ⟨rfl,hb⟩;have HB3:=qh (Qa HB.o.2.2.1 hb);clear hb;go_wp2_with fail;go_ret;exact ⟨Qg HR.o.symm,HB3.o⟩
end
section
open Go.RowKit Go.Sort TermSpec EvalSpec ActSpec NamesSpec ExprSpec TransSpec SynSpec PrintSpec
set_option maxRecDepth 100000
theorem eq_var (s t:ByteArray) (a b c d e f:Int) (w:World):(Op.equalIn 10000 46 (.agg #[.string s,.int .i64 a,.int .i64 b,.int .i64 c]) (.agg #[.string t,.int .i64 d,.int .i64 e,.int .i64 f])).run Tryz.prog w = .ok (s.toList == t.toList && (a == d && (b == e && c == f))) w:=by
 have u3:=Tryz.underlying3;have u9:=Tryz.underlying9;have hS:Tryz.prog.underlying 46=some (.struct (Tryz.prog.fieldsOf 46)):=by kernel_rfl
 rw [show (10000:Nat)=9999+1 from rfl,run_equalIn_agg w 9999 46 _ _ hS (by kernel_rfl)];simp only [Program.fieldsOf,Tryz.underlying46]
 go_simp
 by_cases h1:s.toList=t.toList<;>by_cases h2:a=d<;>by_cases h3:b=e<;>by_cases h4:c=f<;>simp [h1,h2,h3,h4]
def FewT (t:Tr):Prop:=t.g.length<=4398046511104/\t.acts.length<=4398046511104/\∀ a∈t.acts,a.x.length<=4398046511104
end
section
open Go.RowKit Go.Sort TermSpec EvalSpec ActSpec NamesSpec ExprSpec TransSpec SynSpec PrintSpec
def FewX (s:Sx):Prop:=s.en.length<=4398046511104/\(∀ a∈s.en,a.x.length<=4398046511104)/\s.ex.length<=4398046511104/\(∀ a∈s.ex,a.x.length<=4398046511104)/\s.tr.length<=4398046511104/\∀ t∈s.tr,FewT t
end
section
open Go.RowKit Go.Sort TermSpec EvalSpec ActSpec NamesSpec ExprSpec TransSpec SynSpec PrintSpec
end
section
open Go.RowKit Go.Sort TermSpec EvalSpec ActSpec NamesSpec ExprSpec TransSpec SynSpec PrintSpec Go.BigFrame
set_option maxRecDepth 100000
theorem eq_vyes (v:Vr) (w:World):(Op.equalIn 10000 46 (.agg #[.string v.s,.int .i64 v.lo,.int .i64 v.hi,.int .i64 v.ini]) (.agg #[.string v.s,.int .i64 v.lo,.int .i64 v.hi,.int .i64 v.ini])).run Tryz.prog w = .ok true w:=by rw [eq_var]; simp
theorem vr_ne {t u:Vr} (h:t ≠ u):t.s ≠ u.s \/ (t.s = u.s /\ (t.lo ≠ u.lo \/ t.hi ≠ u.hi \/ t.ini ≠ u.ini)):=by
 obtain ⟨a,b,c,d⟩:=t;obtain ⟨a',b',c',d'⟩:=u
 by_cases h1:a=a'
 ·subst h1
  refine .inr ⟨rfl,?_⟩
  by_cases h2:b=b'
  ·by_cases h3:c = c'
   ·exact .inr (.inr fun h4=>h (by simp only at h4; rw [h2,h3,h4]))
   ·exact .inr (.inl h3)
  ·exact .inl h2
 ·exact .inl h1
theorem eq_vno {t u:Vr} (h:t ≠ u) (w:World):(Op.equalIn 10000 46 (.agg #[.string t.s,.int .i64 t.lo,.int .i64 t.hi,.int .i64 t.ini]) (.agg #[.string u.s,.int .i64 u.lo,.int .i64 u.hi,.int .i64 u.ini])).run Tryz.prog w = .ok false w:=by
 rw [eq_var]
 congr 1
 rcases vr_ne h with h | ⟨_,h | h | h⟩
 ·simp [QcP h]
 ·simp [h]
 ·simp [h]
 ·simp [h]
def FewC (x:Cx):Prop:=x.evs.length<=4398046511104/\x.vars.length<=4398046511104/\x.sts.length<=4398046511104/\∀ s∈x.sts,FewX s
end
section
open Go.RowKit Go.Sort TermSpec EvalSpec ActSpec NamesSpec ExprSpec TransSpec SynSpec PrintSpec Go.BigFrame
set_option maxRecDepth 100000
def EqRel {α:Type} (W:World) (l m:List α) (n:Nat) (v:Value) (w:World):Prop:=∃ k:Nat,k<=n/\v = .int .i64 k/\l.take k=m.take k/\Below W.heap.size W w
theorem RdS.keep {w w':World} {v:Value} {l:List ByteArray} (h:RdS w v l) (hb:Below w.heap.size w w'):RdS w' v l:=Rd.keep h hb
theorem RdS.len {w:World} {A:Option Addr} {n c:Nat} {l:List ByteArray} (h:RdS w (.slice A n c) l):n = l.length /\ n <= c:=by
 obtain ⟨A',n',c',heq,hn,hc,-⟩:=h
 cases heq
 exact ⟨by rw [hn,strV_length],hc⟩
theorem RdS.at_ {w:World} {A:Option Addr} {n c k:Nat} {l:List ByteArray} {s:ByteArray} (h:RdS w (.slice A n c) l) (hk:l[k]? = some s):∃ b off,A = some ⟨b,off,none⟩ /\ b < w.heap.size /\ w.cell? ⟨b,off + k,none⟩ = some (.string s):=by
 obtain ⟨A',n',c',heq,hn,hc,hA⟩:=h
 cases heq
 have:=(List.getElem?_eq_some_iff.1 hk).1;obtain ⟨b,off,rfl,hb,hcell⟩:=hA (by rw [hn,strV_length]; omega);exact ⟨b,off,rfl,hb,hcell k _ (by rw [Qht,hk]; rfl)⟩
theorem RdV.keep {w w':World} {v:Value} {l:List Vr} (h:RdV w v l) (hb:Below w.heap.size w w'):RdV w' v l:=Rdk.keep h hb
theorem seq_any (A1 A2:Option Addr) (n1 n2 c1 c2:Nat) (l m:List ByteArray) (b:Bool) (hb:b = true ↔ l = m) (w:World) (h1:RdS w (.slice A1 n1 c1) l) (h2:RdS w (.slice A2 n2 c2) m) (hm:n1 <= 4398046511104) :
 Calls Tryz.prog 14 #[.slice A1 n1 c1,.slice A2 n2 c2] w (RetB w b):=by
 have hn1:=h1.len.1;have hn2:=h2.len.1;have hc1:=h1.len.2;have hc2:=h2.len.2
 by_cases hnm:n1=n2
 ·subst hnm
  have HT:=qh (fun W (hW:Below w.heap.size w W)=>And.intro (h1.keep hW) (h2.keep hW));have HN:=qh hn1;have HM:=qh hn2;have HBB:=qh hb;clear h1 h2 hn1 hn2 hb;go_enter Tryz.func14,Tryz.ntmps14;go_wp2_with fail
  go_loopw [13] (fun v wr=>EqRel w l m n1 v wr) (fun v _=>n1-(intOf v).toNat)
  case atStart=>exact ⟨0,Nat.zero_le _,rfl,rfl,Below.refl _ _⟩
  case round =>
   obtain ⟨k,hk,rfl,htk,hbw⟩:=hrel
   by_cases hlt:k<n1
   ·obtain ⟨t,ht⟩:∃ t,l[k]? = some t:=Qp (by rw [<- HN.o]; exact hlt)
    obtain ⟨u,hu⟩:∃ u,m[k]?=some u:=Qp (by rw [<- HM.o]; exact hlt);obtain ⟨b1,o1,rfl,hb1,x0⟩:=(HT.o _ hbw).1.at_ ht;obtain ⟨b2,o2,rfl,hb2,y0⟩:=(HT.o _ hbw).2.at_ hu;have hltI:(k:Int)<(n1:Int):=by omega
    have HW:=qh hbw;have HTK:=qh htk;clear hbw htk
    by_cases htu:t=u
    ·subst htu
     have HNX:=qh (take_same HTK.o ht hu);have heq:(t.toList==t.toList)=true:=by simp
     clear ht hu;go_wp2_with fail;go_big_quiet (fail);go_wp2_with fail
     go_roundw
     case rel=>exact ⟨k+1,hlt,by go_num,HNX.o,below_drewN HW.o _⟩
     case measure=>simp [intOf]; omega
    ·have HST:Hid (b = false):=qh (by
      have:=Qbz ht hu htu
      rcases b with _ | _
      ·rfl
      ·exact absurd (HBB.o.1 rfl) this)
     have heq:=QcP htu;clear ht hu htu;go_wp2_with fail;go_big_quiet (fail);go_wp2_with fail;go_ret;exact ⟨Qg HST.o.symm,below_drewN HW.o _⟩
   ·have HE:Hid (b = true):=qh (HBB.o.2 (by
     have h1:=HN.o;have h2:=HM.o
     rwa [List.take_of_length_le (by omega),List.take_of_length_le (by omega)] at htk))
    have hltI:¬ (k:Int)<(n1:Int):=by omega
    go_wp2_with fail;go_ret;exact ⟨Qg HE.o.symm,hbw⟩
 ·have HE:Hid (b = false):=qh (by
   rcases b with _ | _
   ·rfl
   ·exact absurd (by rw [hn1,hn2,hb.1 rfl]) hnm)
  have g:((n1:Int) != (n2:Int))=true:=by simp; omega
  have g':((n1:Int)==(n2:Int))=false:=by simp; omega
  clear h1 h2 hn1 hn2 hb;go_enter Tryz.func14,Tryz.ntmps14;go_wp2_with fail;go_ret;exact ⟨Qg HE.o.symm,Below.refl _ _⟩
theorem veq_any (A1 A2:Option Addr) (n1 n2 c1 c2:Nat) (l m:List Vr) (b:Bool) (hb:b = true ↔ l = m) (w:World) (h1:RdV w (.slice A1 n1 c1) l) (h2:RdV w (.slice A2 n2 c2) m) (hm:n1 <= 4398046511104) :
 Calls Tryz.prog 15 #[.slice A1 n1 c1,.slice A2 n2 c2] w (RetB w b):=by
 have hn1:=h1.len.1;have hn2:=h2.len.1;have hc1:=h1.len.2;have hc2:=h2.len.2
 by_cases hnm:n1=n2
 ·subst hnm
  have HT:=qh (fun W (hW:Below w.heap.size w W)=>And.intro (h1.keep hW) (h2.keep hW));have HN:=qh hn1;have HM:=qh hn2;have HBB:=qh hb;clear h1 h2 hn1 hn2 hb;go_enter Tryz.func15,Tryz.ntmps15;go_wp2_with fail
  go_loopw [13] (fun v wr=>EqRel w l m n1 v wr) (fun v _=>n1-(intOf v).toNat)
  case atStart=>exact ⟨0,Nat.zero_le _,rfl,rfl,Below.refl _ _⟩
  case round =>
   obtain ⟨k,hk,rfl,htk,hbw⟩:=hrel
   by_cases hlt:k<n1
   ·obtain ⟨t,ht⟩:∃ t,l[k]? = some t:=Qp (by rw [<- HN.o]; exact hlt)
    obtain ⟨u,hu⟩:∃ u,m[k]?=some u:=Qp (by rw [<- HM.o]; exact hlt);obtain ⟨b1,o1,rfl,hb1,x0,x1,x2,x3⟩:=(RdV.vars (HT.o _ hbw).1).at_ ht;obtain ⟨b2,o2,rfl,hb2,y0,y1,y2,y3⟩:=(RdV.vars (HT.o _ hbw).2).at_ hu;have hltI:(k:Int)<(n1:Int):=by omega
    have HW:=qh hbw;have HTK:=qh htk;clear hbw htk
    by_cases htu:t=u
    ·subst htu
     have HNX:=qh (take_same HTK.o ht hu);have heq:=eq_vyes t;obtain ⟨nm,lo,hi,ini⟩:=t;simp only at x0 x1 x2 x3 y0 y1 y2 y3 heq;clear ht hu;go_wp2_with fail;go_big_quiet (fail);go_wp2_with fail
     go_roundw
     case rel=>exact ⟨k+1,hlt,by go_num,HNX.o,below_drewN HW.o _⟩
     case measure=>simp [intOf]; omega
    ·have HST:Hid (b = false):=qh (by
      have:=Qbz ht hu htu
      rcases b with _ | _
      ·rfl
      ·exact absurd (HBB.o.1 rfl) this)
     have heq:=eq_vno htu;obtain ⟨nm,lo,hi,ini⟩:=t;obtain ⟨nm',lo',hi',ini'⟩:=u;simp only at x0 x1 x2 x3 y0 y1 y2 y3 heq;clear ht hu htu;go_wp2_with fail;go_big_quiet (fail);go_wp2_with fail;go_ret;exact ⟨Qg HST.o.symm,below_drewN HW.o _⟩
   ·have HE:Hid (b = true):=qh (HBB.o.2 (by
     have h1:=HN.o;have h2:=HM.o
     rwa [List.take_of_length_le (by omega),List.take_of_length_le (by omega)] at htk))
    have hltI:¬ (k:Int)<(n1:Int):=by omega
    go_wp2_with fail;go_ret;exact ⟨Qg HE.o.symm,hbw⟩
 ·have HE:Hid (b = false):=qh (by
   rcases b with _ | _
   ·rfl
   ·exact absurd (by rw [hn1,hn2,hb.1 rfl]) hnm)
  have g:((n1:Int) != (n2:Int))=true:=by simp; omega
  have g':((n1:Int)==(n2:Int))=false:=by simp; omega
  clear h1 h2 hn1 hn2 hb;go_enter Tryz.func15,Tryz.ntmps15;go_wp2_with fail;go_ret;exact ⟨Qg HE.o.symm,Below.refl _ _⟩
theorem treqf_any (A1 A2:Option Addr) (n1 n2 c1 c2:Nat) (l m:List Tr) (b:Bool) (hb:b = true ↔ l = m) (w:World) (h1:Trs w (.slice A1 n1 c1) l) (h2:Trs w (.slice A2 n2 c2) m) (hm:n1 <= 4398046511104) (hfew:∀ t ∈ l,FewT t) :
 Calls Tryz.prog 38 #[.slice A1 n1 c1,.slice A2 n2 c2,.func (.func 39) #[] #[]] w (RetB w b):=by
 have hn1:=h1.len.1;have hn2:=h2.len.1;have hc1:=h1.len.2;have hc2:=h2.len.2
 by_cases hnm:n1=n2
 ·subst hnm
  have HT:=qh (And.intro h1 h2);have HN:=qh hn1;have HM:=qh hn2;have HBB:=qh hb;have HF:=qh hfew;clear h1 h2 hn1 hn2 hb hfew;go_enter Tryz.func38,Tryz.ntmps38;go_wp2_with fail
  go_loopw [17] (fun v wr=>EqRel w l m n1 v wr) (fun v _=>n1-(intOf v).toNat)
  case atStart=>exact ⟨0,Nat.zero_le _,rfl,rfl,Below.refl _ _⟩
  case round =>
   obtain ⟨k,hk,rfl,htk,hbw⟩:=hrel
   by_cases hlt:k<n1
   ·obtain ⟨t,ht⟩:∃ t,l[k]? = some t:=Qp (by rw [<- HN.o]; exact hlt)
    obtain ⟨u,hu⟩:∃ u,m[k]?=some u:=Qp (by rw [<- HM.o]; exact hlt);have hx:=HF.o t (List.mem_of_getElem? ht);obtain ⟨b1,o1,gA,gn,gc,aA,an,ac,rfl,hb1,p0,p1,p2,p3,ht1⟩:=(HT.o.1.keep hbw).at_ ht;obtain ⟨b2,o2,gA',gn',gc',aA',an',ac',rfl,hb2,q0,q1,q2,q3,ht2⟩:=(HT.o.2.keep hbw).at_ hu;obtain ⟨r,hr⟩:=Jj (t=u);have HS:=qh (fun W (hW:Below wr.heap.size wr W)=>QfM t u r hr gA gn gc aA an ac gA' gn' gc' aA' an' ac' W (ht1.keep hW) (ht2.keep hW) hx.1 hx.2.1 hx.2.2);have HIF:=qh hr;have hltI:(k:Int)<(n1:Int):=by omega
    have hkI:(k:Int)<=4398046511104:=by omega
    have HW:=qh hbw;have HTK:=qh htk;have HTU:=qh (And.intro ht hu);clear hbw htk hx ht hu hr;have HNX:Hid (r=true->l.take (k+1)=m.take (k+1)):=qh (fun h=>take_same HTK.o HTU.o.1 (by rw [HIF.o.1 h]; exact HTU.o.2))
    have HST:Hid (r = false -> b = false):=qh (fun h => by
     have:=Qbz HTU.o.1 HTU.o.2 (fun e=>by rw [HIF.o.2 e] at h; cases h)
     rcases b with _ | _
     ·rfl
     ·exact absurd (HBB.o.1 rfl) this)
    clear ht1 ht2;obtain ⟨ev,g,acts,tg⟩:=t;obtain ⟨ev',g',acts',tg'⟩:=u;simp only at p0 p1 p2 p3 q0 q1 q2 q3 HS
    rcases r with _ | _
    ·have HST':=qh (HST.o rfl)
     clear HNX HST HIF HTU;go_wp2_with (go_at_call 39; go_fit (HS.o _ (KitC.Qm _ _ _)));rintro e w2 ⟨rfl,hb⟩;have HB:=qh (Qa HW.o (Qa (KitC.Qm _ _ _) hb));clear hb;go_wp2_with fail;go_ret;exact ⟨Qg HST'.o.symm,HB.o⟩
    ·have HNX':=qh (HNX.o rfl)
     clear HNX HST HIF HTU;go_wp2_with (go_at_call 39; go_fit (HS.o _ (KitC.Qm _ _ _)));rintro e w2 ⟨rfl,hb⟩;have HB:=qh (Qa HW.o (Qa (KitC.Qm _ _ _) hb));clear hb;go_wp2_with fail
     go_roundw
     case rel=>exact ⟨k+1,hlt,by go_num,HNX'.o,HB.o⟩
     case measure=>simp [intOf]; omega
   ·have HE:Hid (b = true):=qh (HBB.o.2 (by
     have h1:=HN.o;have h2:=HM.o
     rwa [List.take_of_length_le (by omega),List.take_of_length_le (by omega)] at htk))
    have hltI:¬ (k:Int)<(n1:Int):=by omega
    go_wp2_with fail;go_ret;exact ⟨Qg HE.o.symm,hbw⟩
 ·have HE:Hid (b = false):=qh (by
   rcases b with _ | _
   ·rfl
   ·exact absurd (by rw [hn1,hn2,hb.1 rfl]) hnm)
  have g:((n1:Int) != (n2:Int))=true:=by simp; omega
  have g':((n1:Int)==(n2:Int))=false:=by simp; omega
  clear h1 h2 hn1 hn2 hb hfew;go_enter Tryz.func38,Tryz.ntmps38;go_wp2_with fail;go_ret;exact ⟨Qg HE.o.symm,Below.refl _ _⟩
theorem tb_acts (A:Option Addr) (n c:Nat) (w:World):(Instr.build 81 #[(2,.slice A n c)]).run Tryz.prog w = .ok (.agg #[.string ⟨#[]⟩,.slice none 0 0,.slice A n c,.string ⟨#[]⟩]) w:=run_build w 81 _ _ (by kernel_rfl)
theorem Qf1 (l m:List Ac) (r:Bool) (hr:r = true ↔ l = m) (A1 A2:Option Addr) (n1 n2 c1 c2:Nat) (w:World) (h1:Acs w (.slice A1 n1 c1) l) (h2:Acs w (.slice A2 n2 c2) m) (hl:l.length <= 4398046511104) (hfew:∀ a ∈ l,a.x.length <= 4398046511104) :
 Calls Tryz.prog 37 #[.slice A1 n1 c1,.slice A2 n2 c2] w (RetB w r):=by
 have b1:=tb_acts;have HS:=qh (QfM ⟨⟨#[]⟩,[],l,⟨#[]⟩⟩ ⟨⟨#[]⟩,[],m,⟨#[]⟩⟩ r ⟨fun h=>by rw [hr.1 h],fun h=>hr.2 (by cases h; rfl)⟩ none 0 0 A1 n1 c1 none 0 0 A2 n2 c2 w ⟨tmsNil w,h1⟩ ⟨tmsNil w,h2⟩ (Nat.zero_le _) hl hfew);clear h1 h2 hr hl hfew;go_enter Tryz.func37,Tryz.ntmps37;go_wp2_with (go_at_call 39; go_fit HS.o);rintro e w2 ⟨rfl,hb⟩;have HB:=qh hb;clear hb;go_wp2_with fail;go_ret;exact ⟨rfl,HB.o⟩
theorem sx_iff {t u:Sx}:t = u ↔ t.s = u.s /\ t.kind = u.kind /\ t.par = u.par /\ t.en = u.en /\ t.ex = u.ex /\ t.tr = u.tr:=by
 constructor
 ·rintro rfl; exact ⟨rfl,rfl,rfl,rfl,rfl,rfl⟩
 ·rintro ⟨h1,h2,h3,h4,h5,h6⟩
  obtain ⟨a,b,c,d,e,f⟩:=t;obtain ⟨a',b',c',d',e',f'⟩:=u;simp only at h1 h2 h3 h4 h5 h6;rw [h1,h2,h3,h4,h5,h6]
theorem sst_any (t u:Sx) (r:Bool) (hr:r = true ↔ t = u) (a3:Option Addr) (n3 c3:Nat) (a4:Option Addr) (n4 c4:Nat) (a5:Option Addr) (n5 c5:Nat) (d3:Option Addr) (q3 e3:Nat) (d4:Option Addr) (q4 e4:Nat) (d5:Option Addr) (q5 e5:Nat) (w:World)
 (i3:Acs w (.slice a3 n3 c3) t.en) (i4:Acs w (.slice a4 n4 c4) t.ex) (i5:Trs w (.slice a5 n5 c5) t.tr) (j3:Acs w (.slice d3 q3 e3) u.en) (j4:Acs w (.slice d4 q4 e4) u.ex) (j5:Trs w (.slice d5 q5 e5) u.tr) (hx:FewX t) :
 Calls Tryz.prog 17 #[.agg #[.string t.s,.int .i64 t.kind,.int .i64 t.par,.slice a3 n3 c3,.slice a4 n4 c4,.slice a5 n5 c5],.agg #[.string u.s,.int .i64 u.kind,.int .i64 u.par,.slice d3 q3 e3,.slice d4 q4 e4,.slice d5 q5 e5]] w (RetB w r):=by
 obtain ⟨qe,hqe⟩:=Jj (t.en=u.en);obtain ⟨qx,hqx⟩:=Jj (t.ex=u.ex);obtain ⟨qt,hqt⟩:=Jj (t.tr=u.tr);have H1:=qh (fun W (hW:Below w.heap.size w W)=>Qf1 t.en u.en qe hqe a3 d3 n3 q3 c3 e3 W (i3.keep hW) (j3.keep hW) hx.1 hx.2.1);have H2:=qh (fun W (hW:Below w.heap.size w W)=>Qf1 t.ex u.ex qx hqx a4 d4 n4 q4 c4 e4 W (i4.keep hW) (j4.keep hW) hx.2.2.1 hx.2.2.2.1);have H3:=qh (fun W (hW:Below w.heap.size w W)=>treqf_any a5 d5 n5 q5 c5 e5 t.tr u.tr qt hqt W (i5.keep hW) (j5.keep hW) (by rw [i5.len.1]; exact hx.2.2.2.2.1) hx.2.2.2.2.2)
 have HR:Hid (r = ((t.s.toList == u.s.toList) && ((t.kind == u.kind) && ((t.par == u.par) && (qe && (qx && qt)))))):=qh (by
  rw [Bool.eq_iff_iff,hr,sx_iff];simp only [Bool.and_eq_true,beq_iff_eq,hqe,hqx,hqt]
  constructor
  ·rintro ⟨h1,h⟩; exact ⟨by rw [h1],h⟩
  ·rintro ⟨h1,h⟩; exact ⟨ZB (x:=t.s) (y:=u.s) (by simpa using h1),h⟩)
 obtain ⟨s,kind,par,en,ex,tr⟩:=t;obtain ⟨s',kind',par',en',ex',tr'⟩:=u;simp only at HR ⊢;clear hqe hqx hqt hr i3 i4 i5 j3 j4 j5 hx;have HK:=qh (fun W (hW:Below ((w.alloc (.cells #[.string s,.int .i64 kind,.int .i64 par,.slice a3 n3 c3,.slice a4 n4 c4,.slice a5 n5 c5] 51)).alloc (.cells #[.string s',.int .i64 kind',.int .i64 par',.slice d3 q3 e3,.slice d4 q4 e4,.slice d5 q5 e5] 51)).heap.size ((w.alloc (.cells #[.string s,.int .i64 kind,.int .i64 par,.slice a3 n3 c3,.slice a4 n4 c4,.slice a5 n5 c5] 51)).alloc (.cells #[.string s',.int .i64 kind',.int .i64 par',.slice d3 q3 e3,.slice d4 q4 e4,.slice d5 q5 e5] 51)) W)=>KitC.Qz hW);go_enter Tryz.func17,Tryz.ntmps17
 rcases g1:(s.toList==s'.toList) with _ | _
 ·rw [g1] at HR
  go_wp2_with fail;go_ret;exact ⟨Qg HR.o.symm,KitC.Qm _ _ _⟩
 rcases g2:(kind==kind') with _ | _
 ·rw [g1,g2] at HR
  go_wp2_with fail;go_ret;exact ⟨Qg HR.o.symm,KitC.Qm _ _ _⟩
 rcases g3:(par==par') with _ | _
 ·rw [g1,g2,g3] at HR
  go_wp2_with fail;go_ret;exact ⟨Qg HR.o.symm,KitC.Qm _ _ _⟩
 rw [g1,g2,g3] at HR;go_wp2_with (go_at_call 37; go_fit (H1.o _ (KitC.Qm _ _ _)));rintro e w1 ⟨rfl,hb⟩;have HB1:=qh hb;obtain ⟨k1,k2,-,-⟩:=HK.o _ HB1.o;obtain ⟨c0,c1,c2,cc3,cc4,cc5⟩:=Qc k1;obtain ⟨m0,m1,m2,m3,m4,m5⟩:=Qc k2;clear hb k1 k2
 rcases qe with _ | _
 ·go_wp2_with fail
  go_ret;exact ⟨Qg HR.o.symm,(HK.o _ HB1.o).2.2.1⟩
 go_wp2_with (go_at_call 37; go_fit (H2.o _ (HK.o _ HB1.o).2.2.1));rintro e w2 ⟨rfl,hb⟩;have HB2:=qh (Qa HB1.o hb);clear hb c0 c1 c2 cc3 cc4 cc5 m0 m1 m2 m3 m4 m5;obtain ⟨k1,k2,-,-⟩:=HK.o _ HB2.o;obtain ⟨c0,c1,c2,cc3,cc4,cc5⟩:=Qc k1;obtain ⟨m0,m1,m2,m3,m4,m5⟩:=Qc k2;clear k1 k2
 rcases qx with _ | _
 ·go_wp2_with fail
  go_ret;exact ⟨Qg HR.o.symm,(HK.o _ HB2.o).2.2.1⟩
 go_wp2_with (go_at_call 38; go_fit (H3.o _ (HK.o _ HB2.o).2.2.1));rintro e w3 ⟨rfl,hb⟩;have HB3:=qh (Qa HB2.o hb);clear hb;go_wp2_with fail;go_ret;exact ⟨Qg HR.o.symm,(HK.o _ HB3.o).2.2.1⟩
theorem steqf_any (A1 A2:Option Addr) (n1 n2 c1 c2:Nat) (l m:List Sx) (b:Bool) (hb:b = true ↔ l = m) (w:World) (h1:StsP w (.slice A1 n1 c1) l) (h2:StsP w (.slice A2 n2 c2) m) (hm:n1 <= 4398046511104) (hfew:∀ t ∈ l,FewX t) :
 Calls Tryz.prog 16 #[.slice A1 n1 c1,.slice A2 n2 c2,.func (.func 17) #[] #[]] w (RetB w b):=by
 have hn1:=h1.len.1;have hn2:=h2.len.1;have hc1:=h1.len.2;have hc2:=h2.len.2
 by_cases hnm:n1=n2
 ·subst hnm
  have HT:=qh (And.intro h1 h2);have HN:=qh hn1;have HM:=qh hn2;have HBB:=qh hb;have HF:=qh hfew;clear h1 h2 hn1 hn2 hb hfew;go_enter Tryz.func16,Tryz.ntmps16;go_wp2_with fail
  go_loopw [17] (fun v wr=>EqRel w l m n1 v wr) (fun v _=>n1-(intOf v).toNat)
  case atStart=>exact ⟨0,Nat.zero_le _,rfl,rfl,Below.refl _ _⟩
  case round =>
   obtain ⟨k,hk,rfl,htk,hbw⟩:=hrel
   by_cases hlt:k<n1
   ·obtain ⟨t,ht⟩:∃ t,l[k]? = some t:=Qp (by rw [<- HN.o]; exact hlt)
    obtain ⟨u,hu⟩:∃ u,m[k]?=some u:=Qp (by rw [<- HM.o]; exact hlt);have hx:=HF.o t (List.mem_of_getElem? ht);obtain ⟨b1,o1,a3,n3,m3,a4,n4,m4,a5,n5,m5,rfl,hb1,p0,p1,p2,p3,p4,p5,i3,i4,i5⟩:=(HT.o.1.keep hbw).at_ ht;obtain ⟨b2,o2,d3,q3,r3,d4,q4,r4,d5,q5,r5,rfl,hb2,g0,g1,g2,g3,g4,g5,j3,j4,j5⟩:=(HT.o.2.keep hbw).at_ hu;obtain ⟨r,hr⟩:=Jj (t=u);have HS:=qh (fun W (hW:Below wr.heap.size wr W)=>sst_any t u r hr a3 n3 m3 a4 n4 m4 a5 n5 m5 d3 q3 r3 d4 q4 r4 d5 q5 r5 W (i3.keep hW) (i4.keep hW) (i5.keep hW) (j3.keep hW) (j4.keep hW) (j5.keep hW) hx);have HIF:=qh hr;have hltI:(k:Int)<(n1:Int):=by omega
    have hkI:(k:Int)<=4398046511104:=by omega
    have HW:=qh hbw;have HTK:=qh htk;have HTU:=qh (And.intro ht hu);clear hbw htk hx ht hu hr;have HNX:Hid (r=true->l.take (k+1)=m.take (k+1)):=qh (fun h=>take_same HTK.o HTU.o.1 (by rw [HIF.o.1 h]; exact HTU.o.2))
    have HST:Hid (r = false -> b = false):=qh (fun h => by
     have:=Qbz HTU.o.1 HTU.o.2 (fun e=>by rw [HIF.o.2 e] at h; cases h)
     rcases b with _ | _
     ·rfl
     ·exact absurd (HBB.o.1 rfl) this)
    clear i3 i4 i5 j3 j4 j5;obtain ⟨s,kind,par,en,ex,tr⟩:=t;obtain ⟨s',kind',par',en',ex',tr'⟩:=u;simp only at p0 p1 p2 g0 g1 g2 HS
    rcases r with _ | _
    ·have HST':=qh (HST.o rfl)
     clear HNX HST HIF HTU;go_wp2_with (go_at_call 17; go_fit (HS.o _ (KitC.Qm _ _ _)));rintro e w2 ⟨rfl,hb⟩;have HB:=qh (Qa HW.o (Qa (KitC.Qm _ _ _) hb));clear hb;go_wp2_with fail;go_ret;exact ⟨Qg HST'.o.symm,HB.o⟩
    ·have HNX':=qh (HNX.o rfl)
     clear HNX HST HIF HTU;go_wp2_with (go_at_call 17; go_fit (HS.o _ (KitC.Qm _ _ _)));rintro e w2 ⟨rfl,hb⟩;have HB:=qh (Qa HW.o (Qa (KitC.Qm _ _ _) hb));clear hb;go_wp2_with fail
     go_roundw
     case rel=>exact ⟨k+1,hlt,by go_num,HNX'.o,HB.o⟩
     case measure=>simp [intOf]; omega
   ·have HE:Hid (b = true):=qh (HBB.o.2 (by
     have h1:=HN.o;have h2:=HM.o
     rwa [List.take_of_length_le (by omega),List.take_of_length_le (by omega)] at htk))
    have hltI:¬ (k:Int)<(n1:Int):=by omega
    go_wp2_with fail;go_ret;exact ⟨Qg HE.o.symm,hbw⟩
 ·have HE:Hid (b = false):=qh (by
   rcases b with _ | _
   ·rfl
   ·exact absurd (by rw [hn1,hn2,hb.1 rfl]) hnm)
  have g:((n1:Int) != (n2:Int))=true:=by simp; omega
  have g':((n1:Int)==(n2:Int))=false:=by simp; omega
  clear h1 h2 hn1 hn2 hb hfew;go_enter Tryz.func16,Tryz.ntmps16;go_wp2_with fail;go_ret;exact ⟨Qg HE.o.symm,Below.refl _ _⟩
theorem cx_iff {x y:Cx}:x = y ↔ x.s = y.s /\ x.evs = y.evs /\ x.vars = y.vars /\ x.sts = y.sts:=by
 constructor
 ·rintro rfl; exact ⟨rfl,rfl,rfl,rfl⟩
 ·rintro ⟨h1,h2,h3,h4⟩
  obtain ⟨a,b,c,d⟩:=x;obtain ⟨a',b',c',d'⟩:=y;simp only at h1 h2 h3 h4;rw [h1,h2,h3,h4]
theorem QfN (x y:Cx) (r:Bool) (hr:r = true ↔ x = y) (eA:Option Addr) (en ec:Nat) (vA:Option Addr) (vn vc:Nat) (sA:Option Addr) (sn sc:Nat) (fA:Option Addr) (fn fc:Nat) (uA:Option Addr) (un uc:Nat) (rA:Option Addr) (rn rc:Nat) (w:World)
 (h1:ChIn w (.slice eA en ec) (.slice vA vn vc) (.slice sA sn sc) x) (h2:ChIn w (.slice fA fn fc) (.slice uA un uc) (.slice rA rn rc) y) (hx:FewC x) :
 Calls Tryz.prog 8 #[.agg #[.string x.s,.slice eA en ec,.slice vA vn vc,.slice sA sn sc],.agg #[.string y.s,.slice fA fn fc,.slice uA un uc,.slice rA rn rc]] w (RetB w r):=by
 obtain ⟨qe,hqe⟩:=Jj (x.evs=y.evs);obtain ⟨qv,hqv⟩:=Jj (x.vars=y.vars);obtain ⟨qs,hqs⟩:=Jj (x.sts=y.sts);have H1:=qh (fun W (hW:Below w.heap.size w W)=>seq_any eA fA en fn ec fc x.evs y.evs qe hqe W (h1.keep hW).evs (h2.keep hW).evs (by rw [(RdS.len h1.evs).1]; exact hx.1));have H2:=qh (fun W (hW:Below w.heap.size w W)=>veq_any vA uA vn un vc uc x.vars y.vars qv hqv W (h1.keep hW).vars (h2.keep hW).vars (by rw [(RdV.len h1.vars).1]; exact hx.2.1));have H3:=qh (fun W (hW:Below w.heap.size w W)=>steqf_any sA rA sn rn sc rc x.sts y.sts qs hqs W (h1.keep hW).sts (h2.keep hW).sts (by rw [h1.sts.len.1]; exact hx.2.2.1) hx.2.2.2)
 have HR:Hid (r = ((x.s.toList == y.s.toList) && (qe && (qv && qs)))):=qh (by
  rw [Bool.eq_iff_iff,hr,cx_iff];simp only [Bool.and_eq_true,beq_iff_eq,hqe,hqv,hqs]
  constructor
  ·rintro ⟨h1,h⟩; exact ⟨by rw [h1],h⟩
  ·rintro ⟨h1,h⟩; exact ⟨ZB (x:=x.s) (y:=y.s) (by simpa using h1),h⟩)
 obtain ⟨s,evs,vars,sts⟩:=x;obtain ⟨s',evs',vars',sts'⟩:=y;simp only at HR ⊢;clear hqe hqv hqs hr h1 h2 hx;have HK:=qh (fun W (hW:Below ((w.alloc (.cells #[.string s,.slice eA en ec,.slice vA vn vc,.slice sA sn sc] 34)).alloc (.cells #[.string s',.slice fA fn fc,.slice uA un uc,.slice rA rn rc] 34)).heap.size ((w.alloc (.cells #[.string s,.slice eA en ec,.slice vA vn vc,.slice sA sn sc] 34)).alloc (.cells #[.string s',.slice fA fn fc,.slice uA un uc,.slice rA rn rc] 34)) W)=>KitC.Qz hW);go_enter Tryz.func8,Tryz.ntmps8
 rcases g1:(s.toList==s'.toList) with _ | _
 ·rw [g1] at HR
  go_wp2_with fail;go_ret;exact ⟨Qg HR.o.symm,KitC.Qm _ _ _⟩
 rw [g1] at HR;go_wp2_with (go_at_call 14; go_fit (H1.o _ (KitC.Qm _ _ _)));rintro e w1 ⟨rfl,hb⟩;have HB1:=qh hb;obtain ⟨k1,k2,-,-⟩:=HK.o _ HB1.o;obtain ⟨c0,c1,c2,c3⟩:=Qi k1;obtain ⟨m0,m1,m2,m3⟩:=Qi k2;clear hb k1 k2
 rcases qe with _ | _
 ·go_wp2_with fail
  go_ret;exact ⟨Qg HR.o.symm,(HK.o _ HB1.o).2.2.1⟩
 go_wp2_with (go_at_call 15; go_fit (H2.o _ (HK.o _ HB1.o).2.2.1));rintro e w2 ⟨rfl,hb⟩;have HB2:=qh (Qa HB1.o hb);clear hb c0 c1 c2 c3 m0 m1 m2 m3;obtain ⟨k1,k2,-,-⟩:=HK.o _ HB2.o;obtain ⟨c0,c1,c2,c3⟩:=Qi k1;obtain ⟨m0,m1,m2,m3⟩:=Qi k2;clear k1 k2
 rcases qv with _ | _
 ·go_wp2_with fail
  go_ret;exact ⟨Qg HR.o.symm,(HK.o _ HB2.o).2.2.1⟩
 go_wp2_with (go_at_call 16; go_fit (H3.o _ (HK.o _ HB2.o).2.2.1));rintro e w3 ⟨rfl,hb⟩;have HB3:=qh (Qa HB2.o hb);clear hb;go_wp2_with fail;go_ret;exact ⟨Qg HR.o.symm,(HK.o _ HB3.o).2.2.1⟩
end
section
open Go.RowKit CurSpec TermSpec EvalSpec ActSpec NamesSpec ExprSpec TransSpec SynSpec FormSpec ScanSpec PrintSpec
set_option maxRecDepth 100000
abbrev fw1:ByteArray:=⟨#[99,104,97,114,116,32,99,32,123,32,35,32,114,101,109,10,32,108,101,97,102,32,97,59,32,125]⟩
abbrev fw2:ByteArray:=⟨#[99,104,97,114,116,32,99,32,123,10,32,32,108,101,97,102,32,97,59,10,125,10]⟩
abbrev fw3:ByteArray:=⟨#[99,104,97,114,116,32,99,123,108,101,97,102,32,97,59,125]⟩
def fwC:Tc:=⟨⟨#[99]⟩,[],[],[⟨⟨#[97]⟩,1,-1,[],[],[]⟩]⟩
theorem fw_text:bs (putC fwC)=fw2:=by decide +kernel
theorem fw_scan:(scanT (T (bs (putC fwC)))).2.2=0:=by decide +kernel
theorem fw_ok:fwC.Ok:=by
 refine ⟨(by decide +kernel),(by decide),(by decide),(by decide +kernel),(fun e he=>by cases he),(fun e he=>by cases he),?_⟩;intro t ht;rw [List.mem_singleton.1 ht];exact ⟨by decide +kernel,(fun e he=>by cases he),by decide,(fun e he=>by cases he),by decide,(fun e he=>by cases he),by decide⟩
theorem fw_fo:FoOk fwC ⟨fw2,0,0,0⟩:=⟨fw_ok,by rw [if_pos fw_scan,fw_text]⟩
theorem fw_p1:parseC fw1=⟨fwC.cx,0,0,0⟩:=by kernel_rfl
theorem fw_p2:parseC fw2=⟨fwC.cx,0,0,0⟩:=by kernel_rfl
theorem fw_p3:parseC fw3=⟨fwC.cx,0,0,0⟩:=by kernel_rfl
theorem cb_name (s:ByteArray) (w:World):(Instr.build 34 #[(0,.string s)]).run Tryz.prog w = .ok (.agg #[.string s,.slice none 0 0,.slice none 0 0,.slice none 0 0]) w:=run_build w 34 _ _ (by kernel_rfl)
theorem Qiu (s:ByteArray):FewC ⟨s,[],[],[]⟩:=⟨Nat.zero_le _,Nat.zero_le _,Nat.zero_le _,by simp⟩
theorem Qbt (s:ByteArray) (w:World):ChIn w (.slice none 0 0) (.slice none 0 0) (.slice none 0 0) ⟨s,[],[],[]⟩:=⟨Rd.nil w,Rdk.nil 4 w,StsP.nil w⟩
theorem Qi5 (w:World) (hp:PairsIn w) (hg:SignsIn w):Calls Tryz.prog 4 #[] w (RetB w true):=by
 have b1:=cb_name;have b2:=QaP;have H1:=qh (Qgk fw1 ⟨fw2,0,0,0⟩ (.inr ⟨fwC,fw_p1,fw_fo⟩) w hp hg (by decide));have H2:Hid (∀ W,Below w.heap.size w W->Calls Tryz.prog 7 #[.string fw2] W (RetB W true)):=qh (fun W hW=>Qgi fw2 ⟨fw2,0,0,0⟩ (.inr ⟨fwC,fw_p2,fw_fo⟩) W (hp.keep hW) (hg.keep hW) (by decide))
 have H3:Hid (∀ W,Below w.heap.size w W -> Calls Tryz.prog 7 #[.string fw3] W (RetB W false)):=qh (fun W hW => by
  have:=Qgi fw3 ⟨fw2,0,0,0⟩ (.inr ⟨fwC,fw_p3,fw_fo⟩) W (hp.keep hW) (hg.keep hW) (by decide)
  rwa [show (decide ((⟨fw2,0,0,0⟩:Fo).er=0)&&decide ((⟨fw2,0,0,0⟩:Fo).t=fw3))=false from by decide] at this)
 have H4:=qh (fun W=>QfN ⟨⟨#[99]⟩,[],[],[]⟩ ⟨⟨#[99]⟩,[],[],[]⟩ true (by simp) none 0 0 none 0 0 none 0 0 none 0 0 none 0 0 none 0 0 W (Qbt _ W) (Qbt _ W) (Qiu _));have H5:=qh (fun W=>QfN ⟨⟨#[99]⟩,[],[],[]⟩ ⟨⟨#[]⟩,[],[],[]⟩ false (by simp) none 0 0 none 0 0 none 0 0 none 0 0 none 0 0 none 0 0 W (Qbt _ W) (Qbt _ W) (Qiu _));have g1:(fw2.toList==fw2.toList)=true:=by simp
 clear hp hg;go_enter Tryz.func4,Tryz.ntmps4;go_wp2_with (go_at_call 5; go_fit H1.o);rintro e x1 ⟨rfl,hb⟩;have HB1:=qh (Qa hb (KitC.Qh x1 (poO 0 0)));clear hb;go_wp2_with (go_at_call 7; go_fit (H2.o _ HB1.o));rintro e x2 ⟨rfl,hb⟩;have HB2:=qh (Qa HB1.o hb);clear hb;go_wp2_with (go_at_call 7; go_fit (H3.o _ HB2.o));rintro e x3 ⟨rfl,hb⟩;have HB3:=qh (Qa HB2.o hb);clear hb;go_wp2_with (go_at_call 8; go_fit (H4.o _));rintro e x4 ⟨rfl,hb⟩;have HB4:=qh (Qa HB3.o hb);clear hb;go_wp2_with (go_at_call 8; go_fit (H5.o _));rintro e x5 ⟨rfl,hb⟩;have HB5:=qh (Qa HB4.o hb);clear hb;go_wp2_with fail;go_ret;exact ⟨rfl,HB5.o⟩
end
end Go.Proofs.YtbdalbpackfejaaGreatDoor
