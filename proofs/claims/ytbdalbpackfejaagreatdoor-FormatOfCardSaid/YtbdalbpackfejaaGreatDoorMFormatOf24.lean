/- FormKit, FormDead, FormInt, FormRow, ExprRefHead, joined. -/
import Derived.Test.YtbdalbpackfejaaGreatDoorMFormatOf13
set_option maxHeartbeats 16000000
set_option maxRecDepth 100000
namespace Go.Proofs.YtbdalbpackfejaaGreatDoor
section
open Go.RowKit CurSpec TermSpec EvalSpec ActSpec NamesSpec ExprSpec TransSpec SynSpec
set_option maxRecDepth 100000
abbrev setQ (x:World) (E:Nat) (A:Option Addr) (n cp:Nat) (c:Cur):World :=
 (((((x.setCell ⟨E,0,none⟩ (.slice A n cp)).setCell ⟨E,1,none⟩ (.int .i64 c.w1)).setCell ⟨E,2,none⟩ (.int .i64 c.w2)).setCell ⟨E,3,none⟩ (.int .i64 c.a1)).setCell ⟨E,4,none⟩ (.int .i64 c.a2)).setCell ⟨E,5,none⟩ (.int .i64 c.bad)
theorem Qw (x:World) (E:Nat) (A:Option Addr) (n cp:Nat) (c:Cur):x.grownBy (setQ x E A n cp c) (some E):=QaN _ _ _ _ _ _ _ _
theorem QbT {x:World} {E:Nat} {A A0:Option Addr} {n cp n0 cp0:Nat} {c c0:Cur} (h:x.heap[E]? = some (rcO A0 n0 cp0 c0)):(setQ x E A n cp c).heap[E]? = some (rcO A n cp c) :=
 Qd (Qd (Qd (Qd (Qd (Qd h 0 _) 1 _) 2 _) 3 _) 4 _) 5 _
theorem Je {x y:World} {E b:Nat} {o:Obj} (h:x.heap[b]?=some o) (hg:x.grownBy y (some E)) (hne:b≠E):y.heap[b]?=some o:=(hg.block b (Array.getElem?_eq_some_iff.1 h).1 (by simpa using hne)).trans h
theorem QcZ {w x y:World} {ob ob':Option Nat} (h:w.grownBy x ob) (g:x.grownBy y ob') (hk:∀ j,ob' = some j -> ob = some j \/ w.heap.size <= j):w.grownBy y ob :=
 ⟨g.os.trans h.os,g.tape.trans h.tape,g.output.trans h.output,Nat.le_trans h.size g.size,fun i hi hn => (g.block i (Nat.lt_of_lt_of_le hi h.size) fun e => by
  rcases hk i e.symm with h' | h'
  ·exact hn h'.symm
  ·omega).trans (h.block i hi hn)⟩
theorem QbV {w x:World} (h:Below w.heap.size w x) (ob:Option Nat):w.grownBy x ob:=⟨h.os,h.tape,h.output,h.size,fun i hi _=>h.block i hi⟩
theorem Qa6 {w x:World} (h:w.grownBy x none):Below w.heap.size w x:=⟨h.os,h.tape,h.output,h.size,fun i hi=>h.block i hi (by simp)⟩
structure CB (W0 w x:World) (ob:Option Nat) (E:Nat) (A:Option Addr) (n cp:Nat) (c:Cur):Prop where
 toks:Toks W0 (.slice A n cp) c.L
 cur:x.heap[E]?=some (rcO A n cp c)
 res:x.heap[w.heap.size+1]?=some rcZ
 le:w.heap.size<=E
 ne:E≠w.heap.size+1
 grown:w.grownBy x ob
 far:∀ j,ob=some j->W0.heap.size<=j
 w0:Below W0.heap.size W0 w
section
variable {W0 w x y:World} {ob:Option Nat} {E:Nat} {A A':Option Addr} {n cp n' cp':Nat} {c c':Cur}
theorem CB.now (h:CB W0 w x ob E A n cp c):Below W0.heap.size W0 x:=h.w0.grown h.grown h.w0.size h.far
theorem CB.lt (h:CB W0 w x ob E A n cp c):E<x.heap.size/\w.heap.size+1<x.heap.size:=⟨(Array.getElem?_eq_some_iff.1 h.cur).1,(Array.getElem?_eq_some_iff.1 h.res).1⟩
theorem stay {b:Nat} {o:Obj} {oc:Option Nat} (h:x.heap[b]?=some o) (g:x.grownBy y oc) (hne:∀ j,oc=some j->b≠j):y.heap[b]?=some o:=(g.block b (Array.getElem?_eq_some_iff.1 h).1 fun e=>hne b e.symm rfl).trans h
theorem CB.go (h:CB W0 w x ob E A n cp c) {oc:Option Nat} (g:x.grownBy y oc) (hk:∀ j,oc = some j -> j ≠ E /\ j ≠ w.heap.size + 1 /\ (ob = some j \/ w.heap.size <= j)):CB W0 w y ob E A n cp c :=
 ⟨h.toks,stay h.cur g fun j e=>Ne.symm (hk j e).1,stay h.res g fun j e=>Ne.symm (hk j e).2.1,h.le,h.ne,QcZ h.grown g fun j e=>(hk j e).2.2,h.far,h.w0⟩
theorem CB.on (h:CB W0 w x ob E A n cp c) (hb:Below x.heap.size x y):CB W0 w y ob E A n cp c:=h.go (QbV hb none) (by simp)
theorem CB.alloc (h:CB W0 w x ob E A n cp c) (o:Obj):CB W0 w (x.alloc o) ob E A n cp c:=h.on (KitC.Qh x o)
theorem CB.but (h:CB W0 w x ob E A n cp c) {k:Nat} (g:x.grownBy y (some k)) (hk:w.heap.size + 1 < k) (hne:E ≠ k):CB W0 w y ob E A n cp c :=
 h.go g fun j e=>by cases e; exact ⟨Ne.symm hne,by omega,.inr (by omega)⟩
theorem CB.set (h:CB W0 w x ob E A n cp c) (hT:Toks W0 (.slice A' n' cp') c'.L):CB W0 w (setQ x E A' n' cp' c') ob E A' n' cp' c' :=
 ⟨hT,QbT h.cur,Je h.res (Qw _ _ _ _ _ _) h.ne.symm,h.le,h.ne,QcZ h.grown (Qw _ _ _ _ _ _) fun j e=>by cases e; exact .inr h.le,h.far,h.w0⟩
theorem CB.fresh (h:CB W0 w x ob E A n cp c) (hT:Toks W0 (.slice A' n' cp') c'.L):CB W0 w (x.alloc (rcO A' n' cp' c')) ob x.heap.size A' n' cp' c' :=
 ⟨hT,heap_alloc_new _ _,Qe h.res (KitC.Qh _ _),Nat.le_of_lt (Nat.lt_of_le_of_lt h.le h.lt.1),Nat.ne_of_gt h.lt.2,QcZ h.grown (QbV (KitC.Qh _ _) none) (by simp),h.far,h.w0⟩
theorem CB.fin (h:CB W0 w x ob E A n cp c) (A':Option Addr) (n' cp':Nat) (c':Cur):w.grownBy (setQ x (w.heap.size+1) A' n' cp' c') ob:=QcZ h.grown (Qw _ _ _ _ _ _) fun j e=>by cases e; exact .inr (Nat.le_succ _)
theorem CB.done (h:CB W0 w x none E A n cp c) (A':Option Addr) (n' cp':Nat) (c':Cur):Below w.heap.size w (setQ x (w.heap.size+1) A' n' cp' c'):=Qa6 (h.fin _ _ _ _)
theorem CB.start (hT:Toks W0 (.slice A n cp) c.L) (hW:Below W0.heap.size W0 w):CB W0 w ((w.alloc (rcO A n cp c)).alloc rcZ) none w.heap.size A n cp c :=
 ⟨hT,Qe (heap_alloc_new w (rcO A n cp c)) (KitC.Qh _ _),by have:=heap_alloc_new (w.alloc (rcO A n cp c)) rcZ; rwa [World.size_alloc] at this,Nat.le_refl _,Nat.ne_of_lt (Nat.lt_succ_self _),QbV (Qa (KitC.Qh _ _) (KitC.Qh _ _)) none,by simp,hW⟩
theorem CB.as (h:CB W0 w x none E A n cp c) (hf:∀ j,ob=some j->W0.heap.size<=j):CB W0 w x ob E A n cp c:=⟨h.toks,h.cur,h.res,h.le,h.ne,QbV (Qa6 h.grown) ob,hf,h.w0⟩
theorem Jt {b:Nat} (h:x.heap[b]? = some rcZ) (A:Option Addr) (n cp:Nat) (c:Cur) :
 (x.setCell ⟨b,0,none⟩ (.slice A n cp)).cell? ⟨b,0,none⟩=some (.slice A n cp) /\
 ((x.setCell ⟨b,0,none⟩ (.slice A n cp)).setCell ⟨b,1,none⟩ (.int .i64 c.w1)).cell? ⟨b,1,none⟩=some (.int .i64 c.w1) /\
 (((x.setCell ⟨b,0,none⟩ (.slice A n cp)).setCell ⟨b,1,none⟩ (.int .i64 c.w1)).setCell ⟨b,2,none⟩ (.int .i64 c.w2)).cell? ⟨b,2,none⟩=some (.int .i64 c.w2) /\
 ((((x.setCell ⟨b,0,none⟩ (.slice A n cp)).setCell ⟨b,1,none⟩ (.int .i64 c.w1)).setCell ⟨b,2,none⟩ (.int .i64 c.w2)).setCell ⟨b,3,none⟩ (.int .i64 c.a1)).cell? ⟨b,3,none⟩=some (.int .i64 c.a1) /\
 (((((x.setCell ⟨b,0,none⟩ (.slice A n cp)).setCell ⟨b,1,none⟩ (.int .i64 c.w1)).setCell ⟨b,2,none⟩ (.int .i64 c.w2)).setCell ⟨b,3,none⟩ (.int .i64 c.a1)).setCell ⟨b,4,none⟩ (.int .i64 c.a2)).cell? ⟨b,4,none⟩=some (.int .i64 c.a2) /\
 ((((((x.setCell ⟨b,0,none⟩ (.slice A n cp)).setCell ⟨b,1,none⟩ (.int .i64 c.w1)).setCell ⟨b,2,none⟩ (.int .i64 c.w2)).setCell ⟨b,3,none⟩ (.int .i64 c.a1)).setCell ⟨b,4,none⟩ (.int .i64 c.a2)).setCell ⟨b,5,none⟩ (.int .i64 c.bad)).cell? ⟨b,5,none⟩=some (.int .i64 c.bad) :=
 Qq (QD h (n:=6) rfl) (.slice A n cp) (.int .i64 c.w1) (.int .i64 c.w2) (.int .i64 c.a1) (.int .i64 c.a2) (.int .i64 c.bad)
end
theorem QfX (c:Cur) (s:ByteArray) (A:Option Addr) (n cp:Nat) (W0 w:World) (h:Toks W0 (.slice A n cp) c.L) (hw:Below W0.heap.size W0 w) :
 Calls Tryz.prog 57 #[.agg #[.slice A n cp,.int .i64 c.w1,.int .i64 c.w2,.int .i64 c.a1,.int .i64 c.a2,.int .i64 c.bad],.string s] w (RetCur W0 w (want c 1 s)):=by
 have HW:=qh (fun W hw=>Qd5 c 1 s A n cp W0 W h hw);have H0:=qh (CB.start h hw);clear h hw;obtain ⟨d,hd⟩:∃ d,d=want c 1 s:=⟨_,rfl⟩;rw [<- hd] at HW ⊢;clear hd;go_enter Tryz.func57,Tryz.ntmps57;go_wp2_with (go_at_call 26; go_fit (HW.o _ H0.o.now));rintro e x2 ⟨A',n',cp',rfl,hT,hb⟩;have H1:=qh (H0.o.on hb);have HT:=qh hT;obtain ⟨⟨r0,r1,r2,r3,r4,r5⟩,g0,g1,g2,g3,g4,g5⟩:=And.intro (Qc H1.o.res) (Qk H1.o.res);clear hT hb;go_wp2_with fail;obtain ⟨q0,q1,q2,q3,q4,q5⟩:=Jt H1.o.res A' n' cp' d;refine bodyPost_ret (v:=.agg #[.slice A' n' cp',.int .i64 d.w1,.int .i64 d.w2,.int .i64 d.a1,.int .i64 d.a2,.int .i64 d.bad]) (by simp [results,Tryz.results57,go_sem,q0,q1,q2,q3,q4,q5]) rfl ?_;exact ⟨A',n',cp',rfl,HT.o,H1.o.done _ _ _ _⟩
theorem Qax (c:Cur) (s:ByteArray) (b:Bool) (hb:isB c 1 s = b) (A:Option Addr) (n cp:Nat) (W0 w:World) (h:Toks W0 (.slice A n cp) c.L) (hw:Below W0.heap.size W0 w) :
 Calls Tryz.prog 106 #[.agg #[.slice A n cp,.int .i64 c.w1,.int .i64 c.w2,.int .i64 c.a1,.int .i64 c.a2,.int .i64 c.bad],.string s] w (RetBool w b):=by
 have HW:=qh (fun W hT=>QaW c 1 s A n cp W hT);rw [hb] at HW;have H0:=qh (h.keep (Qa hw (KitC.Qh w (rcO A n cp c))));clear h hw hb;go_enter Tryz.func106,Tryz.ntmps106;go_wp2_with (go_at_call 62; go_fit (HW.o _ H0.o));rintro e x2 ⟨rfl,hb⟩;have HB:=qh (Qa (KitC.Qh _ _) hb);clear hb;go_wp2_with fail;go_ret;exact ⟨rfl,HB.o⟩
end
section
namespace FormSpec
open CurSpec TermSpec EvalSpec NamesSpec ExprSpec ActSpec TransSpec SynSpec
section
variable {c:Cur} (h:c.bad≠0)
include h
theorem QV (k:Int) (s:ByteArray):want c k s=c:=by unfold want; rw [QP k s h]; exact Jo 2 h
theorem QcS (k:Int) (s:ByteArray):take c k s=c:=by unfold take; rw [QP k s h]; rfl
theorem ZP:nameC c=c:=by unfold nameC; rw [QaQ h]; exact Jo 2 h
theorem numC_dead (m:Int):numC c m=c:=by unfold numC; rw [Qe8 m h]; exact Jo 2 h
theorem JQ (k:Int) (s:ByteArray):¬ isB c k s=true:=by rw [QP k s h]; decide
theorem QcA:(intR c).1=c:=by unfold intR; rw [if_neg (JQ h 3 wMin)]; exact numC_dead h 1000
theorem varR_dead:(varR c).1 = c:=by
 show want (intR (want (intR (want (intR (nameC (want c 1 wVar))).1 3 wDots)).1 3 wIs)).1 3 wEnd=c
 rw [QV h,ZP h,QcA h,QV h,QcA h,QV h,QcA h,QV h]
theorem hdT_dead:(hdT c).1=c:=by unfold hdT; rw [if_neg (JQ h 1 wAuto),QV h]; exact ZP h
theorem guT_dead:guT c=(c,[]):=by unfold guT; rw [if_neg (JQ h 3 wBra)]
theorem acT_dead:acT c=(c,[]):=by unfold acT; rw [if_neg (JQ h 3 wDo)]
theorem tgT_dead:tgT c=(c,⟨#[]⟩):=by unfold tgT; rw [if_neg (JQ h 3 wTo)]
theorem Qi6:(readT c).1 = c:=by
 show want (tgT (acT (guT (hdT c).1).1).1).1 3 wEnd=c
 rw [hdT_dead h,guT_dead h,acT_dead h,tgT_dead h];exact QV h 3 wEnd
theorem QhP (w:ByteArray):acX c w=(c,[]):=by unfold acX; rw [if_neg (JQ h 1 w)]
theorem trX_dead:trX c=(c,[]):=Jm fun h'=>h (Z4.real h').1
theorem kdR_dead:kdR c=(c,3):=by unfold kdR; rw [if_neg (JQ h 1 wLeaf),if_neg (JQ h 1 wOr),QV h]
theorem Qjo (par:Int):(headR c par).1=c:=by show nameC (kdR c).1=c; rw [kdR_dead h]; exact ZP h
theorem Qc6:(insR c).1 = c:=by
 show (trX (acX (acX (want c 3 wOpen) wEnter).1 wExit).1).1=c
 rw [QV h,QhP h,QhP h,trX_dead h]
theorem QeN {kids:Cur -> Cur × List Sx} (hk:∀ d:Cur,d.bad ≠ 0 -> (kids d).1 = d) (par:Int):(bodyS kids par c).1 = c:=by
 have h1:=Qjo h par;unfold bodyS;rw [h1,if_neg (JQ h 3 wEnd),Qc6 h]
 split
 ·exact QV h 3 wShut
 ·show want (kids c).1 3 wShut = c
  rw [hk c h];exact QV h 3 wShut
theorem ZJ (rd:Nat->Int->Cur->Cur × List Sx) (k n:Nat):kidsR rd k n c=(c,[]):=Jm fun h'=>h (Zp h').1
theorem Qcf (k n:Nat) (par:Int):(stR k n par c).1 = c:=by
 cases k with
 | zero => exact QeN h (fun d _ => rfl) par
 | succ k => exact QeN h (fun d hd => by rw [ZJ hd]) par
end
def kindN (c:Cur):Nat:=if isB c 1 wLeaf=true then 1 else if isB c 1 wOr=true then 2 else if isB c 1 wAnd=true then 3 else 0
theorem Qbq {c:Cur}:0 < kindN c ↔ qS c = true:=by
 unfold kindN qS
 rcases isB c 1 wLeaf<;>rcases isB c 1 wOr<;>rcases isB c 1 wAnd<;>simp
theorem kind_kd {c:Cur} (h:0 < kindN c):kdR c = (on c,(kindN c:Int)):=by
 unfold kindN at h ⊢;unfold kdR
 split
 ·rfl
 ·split
  ·rfl
  ·rename_i h1 h2
   rw [if_neg h1,if_neg h2] at h
   split at h
   ·rename_i h3
    rw [SynSpec.Qad h3,if_pos h3]; rfl
   ·omega
theorem bodyS_off {kids:Cur -> Cur × List Sx} (hk:∀ d:Cur,d.bad ≠ 0 -> (kids d).1 = d) {par:Int} {c:Cur} (h:(headR c par).1.bad ≠ 0):(bodyS kids par c).1 = (headR c par).1:=by
 unfold bodyS;rw [if_neg (JQ h 3 wEnd),Qc6 h]
 split
 ·exact QV h 3 wShut
 ·show want (kids (headR c par).1).1 3 wShut = _
  rw [hk _ h];exact QV h 3 wShut
def stF (k n:Nat) (c:Cur):Int:=if 0<kindN c then room n (13-k) else 2
def XS (k n:Nat) (par:Int) (c:Cur):Cur × List Sx:=stR k n par (fail c (stF k n c))
theorem xs_none {k n:Nat} {par:Int} {c:Cur} (h:kindN c = 0):(XS k n par c).1 = fail c 2:=by
 unfold XS stF;rw [if_neg (by omega)];exact Qcf (QB c (by decide)) k n par
theorem xs_full {k n:Nat} {par:Int} {c:Cur} (h:0 < kindN c) (hn:n = 60):(XS k n par c).1 = fail c 8:=by
 unfold XS stF room;rw [if_pos h,if_pos (by rw [hn]; rfl)];exact Qcf (QB c (by decide)) k n par
theorem xs_deep {n:Nat} {par:Int} {c:Cur} (h:0 < kindN c) (hn:n < 60):(XS 0 n par c).1 = fail c 6:=by
 unfold XS stF room;rw [if_pos h,if_neg (by omega),if_pos (by decide)];exact Qcf (QB c (by decide)) 0 n par
theorem xs_body {k n:Nat} {par:Int} {c:Cur} (h:0 < kindN c) (hn:n < 60):XS (k + 1) n par c = bodyS (kidsR (stR k) k n) par c:=by
 unfold XS stF room;rw [if_pos h,if_neg (by omega),if_neg (by omega),JM]
 rfl
theorem xs_head {par:Int} {c:Cur} (h:0 < kindN c):headR c par = (nameC (on c),⟨nameS (on c),(kindN c:Int),par,[],[],[]⟩):=by
 unfold headR;rw [kind_kd h]
theorem xs_kids {k n:Nat} {d:Cur} {out:List Sx} (h:qS d = true):stS (stR k) k n d out = ((XS k (n + 1 + out.length) n d).1,out ++ (XS k (n + 1 + out.length) n d).2):=by
 unfold stS XS stF;rw [if_pos (Qbq.2 h)]
theorem xs_to (k n:Nat) (par:Int) (c:Cur):To c (XS k n par c).1:=(Qce _ _).trans (Z6 _ _ _ _)
theorem st_none {k n:Nat} {par:Int} {c:Cur} (h:kindN c = 0):(stR k n par c).1 = fail c 2:=by
 have hk:(kdR c).1 = fail c 2:=by
  have hq:¬ qS c=true:=fun h'=>by have:=Qbq.2 h'; omega
  unfold qS at hq;unfold kdR;have h1:¬ isB c 1 wLeaf=true:=fun h'=>hq (by rw [h']; rfl)
  have h2:¬ isB c 1 wOr=true:=fun h'=>hq (by rw [h']; simp)
  have h3:¬ isB c 1 wAnd=true:=fun h'=>hq (by rw [h']; simp)
  rw [if_neg h1,if_neg h2]
  show want c 1 wAnd=_
  unfold want;rw [if_neg h3]
 have hb:(fail c 2).bad≠0:=QB c (by decide);have hh:(headR c par).1=fail c 2:=by show nameC (kdR c).1=_; rw [hk]; exact ZP hb
 have hbody:∀ kids:Cur -> Cur × List Sx,(∀ d:Cur,d.bad ≠ 0 -> (kids d).1 = d) -> (bodyS kids par c).1 = fail c 2:=fun kids hk => by
  unfold bodyS;rw [hh,if_neg (JQ hb 3 wEnd),Qc6 hb]
  split
  ·exact QV hb 3 wShut
  ·show want (kids (fail c 2)).1 3 wShut = _
   rw [hk _ hb];exact QV hb 3 wShut
 cases k with
 | zero => exact hbody _ (fun d _ => rfl)
 | succ k => exact hbody _ (fun d hd => by rw [ZJ hd])
theorem xs_first {c:Cur}:(XS 12 0 (-1) c).1 = (stR 12 0 (-1) c).1 /\ ((XS 12 0 (-1) c).1.bad = 0 -> (XS 12 0 (-1) c).2 = (stR 12 0 (-1) c).2):=by
 by_cases h:0<kindN c
 ·have:XS 12 0 (-1) c = stR 12 0 (-1) c:=by
   unfold XS stF room;rw [if_pos h,if_neg (by decide),if_neg (by decide),JM]
  rw [this];exact ⟨rfl,fun _=>rfl⟩
 ·have h0:kindN c = 0:=by omega
  rw [xs_none h0];refine ⟨?_,fun hb=>absurd hb (QB c (by decide))⟩
  by_cases hc:c.bad=0
  ·exact (st_none h0).symm
  ·rw [Qcf hc,Jo 2 hc]
end FormSpec
end
section
open Go.RowKit CurSpec TermSpec EvalSpec ActSpec NamesSpec ExprSpec TransSpec SynSpec FormSpec
set_option maxRecDepth 100000
theorem Qer (c:Cur) (ok:Ok c) (A:Option Addr) (n cp:Nat) (W0 w:World) (h:Toks W0 (.slice A n cp) c.L) (hw:Below W0.heap.size W0 w) :
 Calls Tryz.prog 108 #[.agg #[.slice A n cp,.int .i64 c.w1,.int .i64 c.w2,.int .i64 c.a1,.int .i64 c.a2,.int .i64 c.bad]] w (RetCurN W0 w (intR c).1 (intR c).2):=by
 have HT:=qh (fun A n cp W hT hW=>Jf c 3 wMin A n cp W0 W hT hW);have H0:=qh (CB.start h hw)
 have HP:Hid (intR c = if isB c 3 wMin = true then (numC (take c 3 wMin) 1000,- numN (take c 3 wMin) 1000) else (numC (take c 3 wMin) 1000,numN (take c 3 wMin) 1000)):=qh (by
  unfold intR take
  split<;>rfl)
 have hok:=ok.take 3 wMin;obtain ⟨d,hd⟩:∃ d,d=take c 3 wMin:=⟨_,rfl⟩;rw [<- hd] at HT HP hok;obtain ⟨hm1,hm2⟩:=QeR d;have HN:=qh (fun A n cp W hT hW=>QdR d 1000 hok A n cp W0 W hT hW);obtain ⟨r,hr⟩:∃ r,r=numC d 1000:=⟨_,rfl⟩;obtain ⟨m,hm⟩:∃ m,m=numN d 1000:=⟨_,rfl⟩;rw [<- hr,<- hm] at HN HP;rw [<- hm] at hm1 hm2;obtain ⟨q,hq⟩:∃ q,q=isB c 3 wMin:=⟨_,rfl⟩;rw [<- hq] at HT HP;clear h hw hd hr hm hok ok hq;obtain ⟨c0,c1,c2,c3,c4,c5⟩:=Qc H0.o.cur;go_enter Tryz.func108,Tryz.ntmps108;go_wp2_with (go_at_call 107; go_fit (HT.o _ _ _ _ H0.o.toks H0.o.now));rintro e x2 ⟨A2,n2,p2,rfl,hT,hb⟩;have H2:=qh ((H0.o.on hb).fresh hT);clear hT hb c0 c1 c2 c3 c4 c5;obtain ⟨c0,c1,c2,c3,c4,c5⟩:=Qc H2.o.cur;go_wp2_with (go_at_call 143; go_fit (HN.o _ _ _ _ H2.o.toks H2.o.now));rintro e x3 ⟨A3,n3,p3,rfl,hT,hb⟩;obtain ⟨⟨z0,z1,z2,z3,z4,z5⟩,f0,f1,f2,f3,f4,f5⟩:=And.intro (Qc ((H2.o.on hb).cur)) (Qk ((H2.o.on hb).cur));have H3:=qh ((H2.o.on hb).set hT);clear hT hb c0 c1 c2 c3 c4 c5;obtain ⟨c0,c1,c2,c3,c4,c5⟩:=Qc H3.o.cur;obtain ⟨⟨r0,r1,r2,r3,r4,r5⟩,g0,g1,g2,g3,g4,g5⟩:=And.intro (Qc H3.o.res) (Qk H3.o.res);obtain ⟨q0,q1,q2,q3,q4,q5⟩:=Jt H3.o.res A3 n3 p3 r
 rcases q with _ | _
 ·go_wp2_with fail
  refine bodyPost_ret (v:=.tuple #[.agg #[.slice A3 n3 p3,.int .i64 r.w1,.int .i64 r.w2,.int .i64 r.a1,.int .i64 r.a2,.int .i64 r.bad],.int .i64 m]) (by simp [results,Tryz.results108,go_sem,q0,q1,q2,q3,q4,q5]) rfl ?_;rw [HP.o];exact ⟨A3,n3,p3,rfl,H3.o.toks,H3.o.done _ _ _ _⟩
 ·go_wp2_with fail
  refine bodyPost_ret (v:=.tuple #[.agg #[.slice A3 n3 p3,.int .i64 r.w1,.int .i64 r.w2,.int .i64 r.a1,.int .i64 r.a2,.int .i64 r.bad],.int .i64 (-m)]) (by simp [results,Tryz.results108,go_sem,q0,q1,q2,q3,q4,q5]) rfl ?_;rw [HP.o];exact ⟨A3,n3,p3,rfl,H3.o.toks,H3.o.done _ _ _ _⟩
def kw:List ByteArray:=[wLeaf,wOr,wAnd]
theorem kind_yes {c:Cur} {k:Nat} {s:ByteArray} (hp:∀ j s,j < k -> kw[j]? = some s -> isB c 1 s = false) (hs:kw[k]? = some s) (h:isB c 1 s = true):(kindN c:Int) = (k:Int) + 1:=by
 unfold kindN
 rcases k with _ | _ | _ | k
 ·cases hs
  rw [if_pos h]; rfl
 ·cases hs
  rw [if_neg (by rw [hp 0 _ (by decide) rfl]; decide),if_pos h]; rfl
 ·cases hs
  rw [if_neg (by rw [hp 0 _ (by decide) rfl]; decide),if_neg (by rw [hp 1 _ (by decide) rfl]; decide),if_pos h]; rfl
 ·cases hs
theorem kind_no {c:Cur} (hp:∀ j s,j < 3 -> kw[j]? = some s -> isB c 1 s = false):(kindN c:Int) = 0:=by
 unfold kindN;rw [if_neg (by rw [hp 0 _ (by decide) rfl]; decide),if_neg (by rw [hp 1 _ (by decide) rfl]; decide),if_neg (by rw [hp 2 _ (by decide) rfl]; decide)]; rfl
abbrev kwO:Obj:=.cells #[.string wLeaf,.string wOr,.string wAnd] 9
def KiRel (c:Cur) (W:World) (v:Value) (wr:World):Prop:=∃ k:Nat,k<=3/\v = .int .i64 k/\(∀ j s,j<k->kw[j]?=some s->isB c 1 s=false)/\Below W.heap.size W wr
theorem Qft (c:Cur) (A:Option Addr) (n cp:Nat) (W0 w:World) (h:Toks W0 (.slice A n cp) c.L) (hw:Below W0.heap.size W0 w) :
 Calls Tryz.prog 109 #[.agg #[.slice A n cp,.int .i64 c.w1,.int .i64 c.w2,.int .i64 c.a1,.int .i64 c.a2,.int .i64 c.bad]] w (RetI w (kindN c)):=by
 obtain ⟨W1,hW1⟩:∃ W1,(w.alloc (rcO A n cp c)).alloc kwO=W1:=⟨_,rfl⟩;obtain ⟨k1,k2,hB1,-⟩:=Qz (o:=rcO A n cp c) (p:=kwO) (w:=w) (Below.refl _ _);rw [hW1] at k1 k2 hB1;have HK:=qh (And.intro k1 k2);have HB1:=qh hB1;have HW1:=qh hW1;have HQ:=qh (fun s b hb W (hW:Below w.heap.size w W)=>Qax c s b hb A n cp W0 W h (Qa hw hW));clear h hw hW1 k1 k2 hB1;go_enter Tryz.func109,Tryz.ntmps109;go_wp2_with fail;rw [HW1.o]
 go_loopw [4] (fun v wr=>KiRel c W1 v wr) (fun v _=>3-(intOf v).toNat)
 case atStart=>exact ⟨0,by omega,rfl,fun j s hj=>by omega,Below.refl _ _⟩
 case round =>
  obtain ⟨k,hk,rfl,hp,hb⟩:=hrel;have HP:=qh hp;have HBR:=qh hb;have HB:=qh (Qa HB1.o hb);have HKR:=qh (And.intro (Qe HK.o.1 hb) (Qe HK.o.2 hb))
  by_cases hlt:k<3
  ·obtain ⟨s,hs⟩:∃ s,kw[k]? = some s:=Qp (by simpa [kw] using hlt)
   obtain ⟨b,hq⟩:∃ b,isB c 1 s=b:=⟨_,rfl⟩;have HS:=qh hs;have HIB:=qh hq;have HQ2:=qh (HQ.o s b hq);have d0:wr.cell? ⟨w.heap.size+1,k,none⟩=some (.string s):=Qb HKR.o.2 (by rcases k with _ | _ | _ | k<;>first | (cases hs; rfl) | omega);have HD:=qh d0;have hkI:(k:Int)<3:=by omega
   have hlt2:w.heap.size+1<wr.heap.size:=(Array.getElem?_eq_some_iff.1 HKR.o.2).1;obtain ⟨c0,c1,c2,c3,c4,c5⟩:=Qc HKR.o.1;clear hs hq hp hb;go_wp2_with fail
   go_region_held3 (fun w' => w'.cell? ⟨w.heap.size,0,none⟩ = some (.slice A n cp) /\ w'.cell? ⟨w.heap.size,1,none⟩ = some (.int .i64 c.w1) /\ w'.cell? ⟨w.heap.size,2,none⟩ = some (.int .i64 c.w2) /\ w'.cell? ⟨w.heap.size,3,none⟩ = some (.int .i64 c.a1) /\ w'.cell? ⟨w.heap.size,4,none⟩ = some (.int .i64 c.a2) /\ w'.cell? ⟨w.heap.size,5,none⟩ = some (.int .i64 c.bad) /\ w'.cell? ⟨w.heap.size + 1,k,none⟩ = some (.string s)) (go_keep)
    ((go_at_call 106; go_fit (HQ2.o _ (HB.o.drew)); rintro e w5 ⟨rfl,hb5'⟩; have hb5:=undrew hb5'; have HZ5:=qh hb5; have e0:=(hb5.cell (p:=⟨w.heap.size+1,k,none⟩) hlt2).trans d0; obtain ⟨p0,p1,p2,p3,p4,p5⟩:=Qc (Qe HKR.o.1 hb5); clear hb5 hb5'))
   all_goals
    rcases b with _ | _
    ·go_wp2_with fail
     go_roundw
     case rel =>
      refine ⟨k+1,hlt,by go_num,fun j s' hj hs'=>?_,Qa HBR.o HZ5.o⟩
      rcases Nat.lt_or_ge j k with h | h
      ·exact HP.o j s' h hs'
      ·obtain rfl:j = k:=by omega
       rw [HS.o] at hs'
       cases hs'
       exact HIB.o
     case measure=>simp [intOf]; omega
    ·go_wp2_with fail
     go_ret;exact ⟨by rw [kind_yes HP.o HS.o HIB.o]; rfl,Qa HB.o HZ5.o⟩
  ·obtain rfl:k = 3:=by omega
   clear hp hb;go_wp2_with fail;go_ret;exact ⟨by rw [kind_no HP.o]; rfl,HB.o⟩
end
section
open Go.RowKit CurSpec TermSpec EvalSpec ActSpec NamesSpec ExprSpec TransSpec SynSpec
structure RowK {α:Type} (T:TypeId) (k:Nat) (cv:α -> List Value) (nest:α -> World -> Prop) (N:Nat) (K:Nat -> Prop) (wr:World) (pv:Value) (ps:List α):Prop where
 own:wr.ownsRow N T k pv ps.length (ps.flatMap cv)
 dep:∀ p∈ps,Dep wr (fun b=>K b/\pv.ownBlock≠some b) (nest p)
abbrev RowC {α:Type} (T:TypeId) (k:Nat) (cv:α->List Value) (nest:α->World->Prop) (N:Nat) (wr:World) (pv:Value) (ps:List α):Prop:=RowK T k cv nest N (fun b=>N<=b) wr pv ps
section
variable {α:Type} {T:TypeId} {k:Nat} {cv:α->List Value} {nest:α->World->Prop} {N:Nat} {K K':Nat->Prop} {wr w':World} {pv:Value} {ps:List α}
theorem RowK.nil:RowK T k cv nest N K wr (.slice none 0 0) []:=⟨World.ownsRow_nil _ _ _ _,fun _ h=>by simp at h⟩
theorem RowC.lit0 (hN:N<=wr.heap.size):RowC T k cv nest N (wr.alloc (.cells #[] T)) (.slice (some ⟨wr.heap.size,0,none⟩) 0 0) []:=⟨World.ownsRow_lit wr #[] 0 hN (Nat.zero_le _) (by simp),fun _ h=>by simp at h⟩
theorem own_go (h:wr.ownsRow N T k pv ps.length (ps.flatMap cv)) {oc:Option Nat} (g:wr.grownBy w' oc) (hk:∀ j,oc = some j -> pv.ownBlock ≠ some j):w'.ownsRow N T k pv ps.length (ps.flatMap cv):=by
 refine ⟨h.1,?_⟩
 rcases h.2 with h1 | ⟨g0,cap,cur,h1,h2,h3,h4⟩
 ·exact .inl h1
 ·exact .inr ⟨g0,cap,cur,h1,h2,(g.block g0 (Array.getElem?_eq_some_iff.1 h3).1 fun e=>hk g0 e.symm (by rw [h1]; rfl)).trans h3,h4⟩
theorem RowK.go (h:RowK T k cv nest N K wr pv ps) {oc:Option Nat} (g:wr.grownBy w' oc) (hk:∀ j,oc = some j -> ¬ K j /\ pv.ownBlock ≠ some j):RowK T k cv nest N K w' pv ps :=
 ⟨own_go h.own g fun j e=>(hk j e).2,fun p hp=>(h.dep p hp).go g fun b hS e=>(hk b e).1 hS.1⟩
theorem RowK.keep (h:RowK T k cv nest N K wr pv ps) (hb:Below wr.heap.size wr w'):RowK T k cv nest N K w' pv ps:=h.go (QbV hb none) (by simp)
theorem RowK.mono (h:RowK T k cv nest N K wr pv ps) (hk:∀ b,b<wr.heap.size->K b->K' b):RowK T k cv nest N K' wr pv ps:=⟨h.own,fun p hp=>(h.dep p hp).mono fun b hb hS=>⟨hk b hb hS.1,hS.2⟩⟩
theorem RowK.shape (h:RowK T k cv nest N K wr pv ps):∃ A c,pv = .slice A ps.length c:=QR h.own
theorem RowK.bd (h:RowK T k cv nest N K wr pv ps):∀ j,pv.ownBlock=some j->N<=j/\j<wr.heap.size:=Qs h.own
theorem RowK.low (h:RowC T k cv nest N wr pv ps) {oc:Option Nat} (g:wr.grownBy w' oc) (hk:∀ j,oc = some j -> j < N):RowC T k cv nest N w' pv ps :=
 RowK.go h g fun j e=>⟨by have:=hk j e; omega,fun e'=>by have:=(h.bd j e').1; have:=hk j e; omega⟩
theorem RowK.put (h:RowC T k cv nest N wr pv ps) {j:Nat} (g:wr.grownBy w' (some j)) (hne:pv.ownBlock ≠ some j) (ht:∀ p x,nest p x):RowC T k cv nest N w' pv ps :=
 ⟨own_go h.own g fun i e=>by cases e; exact hne,fun p _=>Dep.triv (ht p)⟩
theorem RowK.far (h:RowC T k cv nest N wr pv ps):Dep wr (fun b => N <= b) (fun x => Rdk k x pv ps.length (ps.flatMap cv) /\ ∀ p ∈ ps,nest p x) :=
 (Qbr (Rdk.own h.own) fun _ b e=>(h.bd b e).1).and fun w2 hz hx p hp=>(h.dep p hp) w2 hz fun b hlt hS=>hx b hlt hS.1
theorem RowK.add {p:α} {pv':Value} {o:Obj} (h:RowK T k cv nest N K wr pv ps) (hn:Dep wr (fun b => K b /\ pv.ownBlock ≠ some b) (nest p))
 (hrow:w'.ownsRow N T k pv' (ps.length+1) (ps.flatMap cv++cv p)) (hg:(wr.alloc o).grownBy w' pv.ownBlock) (hob:pv'.ownBlock=pv.ownBlock\/pv'.ownBlock=some (wr.alloc o).heap.size):RowK T k cv nest N K w' pv' (ps++[p]):=by
 have ha:Below wr.heap.size wr (wr.alloc o):=KitC.Qh wr o;refine ⟨by simpa [List.length_append] using hrow,fun q hq=>?_⟩
 have hall:Dep wr (fun b => K b /\ pv.ownBlock ≠ some b) (nest q):=by
  rcases List.mem_append.1 hq with hq | hq
  ·exact h.dep q hq
  ·rw [List.mem_singleton] at hq
   subst hq;exact hn
 intro w2 hz hx;refine hall w2 (Nat.le_trans ha.size (Nat.le_trans hg.size hz)) fun b hlt hS=>?_
 have hlt2:b<(wr.alloc o).heap.size:=Nat.lt_of_lt_of_le hlt ha.size;refine (hx b (Nat.lt_of_lt_of_le hlt2 hg.size) ⟨hS.1,fun e=>?_⟩).trans ((hg.block b hlt2 fun e=>hS.2 e.symm).trans (ha.block b hlt))
 rcases hob with e' | e'
 ·exact hS.2 (e'.symm.trans e)
 ·rw [e'] at e; injection e with e; omega
def Added (T:TypeId) (k:Nat) (cv:α -> List Value) (nest:α -> World -> Prop) (N:Nat) (K:Nat -> Prop) (wr:World) (pv:Value) (ps:List α) (v':Value) (w':World):Prop :=
 RowK T k cv nest N K w' v' ps/\wr.grownBy w' pv.ownBlock/\∀ j,v'.ownBlock=some j->pv.ownBlock=some j\/wr.heap.size<j
theorem RowK.added {p:α} {pv':Value} {o:Obj} (h:RowK T k cv nest N K wr pv ps) (hn:Dep wr (fun b => K b /\ pv.ownBlock ≠ some b) (nest p))
 (hrow:w'.ownsRow N T k pv' (ps.length+1) (ps.flatMap cv++cv p)) (hg:(wr.alloc o).grownBy w' pv.ownBlock) (hob:pv'.ownBlock=pv.ownBlock\/pv'.ownBlock=some (wr.alloc o).heap.size):Added T k cv nest N K wr pv (ps++[p]) pv' w':=by
 have ha:Below wr.heap.size wr (wr.alloc o):=KitC.Qh _ _;refine ⟨h.add hn hrow hg hob,⟨hg.os.trans ha.os,hg.tape.trans ha.tape,hg.output.trans ha.output,Nat.le_trans ha.size hg.size,fun i hi hn=>(hg.block i (Nat.lt_of_lt_of_le hi ha.size) hn).trans (ha.block i hi)⟩,fun j hj=>?_⟩
 rcases hob with e' | e'
 ·exact .inl (e'.symm.trans hj)
 ·rw [e'] at hj
  injection hj with hj
  simp at hj;exact .inr (by omega)
end
section
variable {P:Program}
theorem Jh {ops:Array Oper} {rest:List Oper} {o:Oper} {a:Act} {Q:Exit -> Act -> World -> Prop} (hgd:o.guard = none) (s x:Operand) (t:TypeId)
 (ho:o.op = .call { callee:=.builtin .append,args:=#[s,x],argTypes:=#[t,t] })
 {α:Type} {e:TypeId} {k:Nat} {cv:α->List Value} {nest:α->World->Prop} {N:Nat} {K:Nat->Prop} {wr:World} {pv:Value} {ps:List α}
 (i:TypeInfo) (z:Value) (bytes:Nat) (ht:P.underlying t=some (.slice e)) (hi:P.info? e=some i) (hz:i.zero=some z)
 (hsize:i.size=k) (hby:i.bytes=bytes) (hzs:z.cells.size=k) (hk:0<k)
 (h:RowK e k cv nest N K wr pv ps) (hN:N<=wr.heap.size) (p:α) (hn:Dep wr (fun b=>K b/\pv.ownBlock≠some b) (nest p)) (hs:a.eval s=pv) (hx:a.eval x = .slice (some ⟨wr.heap.size,0,none⟩) 1 1)
 (hlen:(cv p).length=k) (h1:∀ u∈cv p,u.oneCell'=true) (h63:ps.length+1<=maxLen) (hbytes:(ps.length+1)*bytes<=140737488355328)
 (hK:∀ v' w',Added e k cv nest N K wr pv (ps++[p]) v' w'->wpList P ops Q rest (a.put o.dst v') w'):wpList P ops Q (o::rest) a (wr.alloc (.cells (cv p).toArray e)):=by
 have hrow:=Q9 h.own (KitC.Qh wr (.cells (cv p).toArray e));refine QQ _ hgd s x t ho N e i z k bytes ht hi hz hsize hby hzs hk pv ps.length (ps.flatMap cv) hs hrow _ 1 (cv p) hx ?_ h1 h63 hbytes ?_ fun v' w' hr hg hob=>hK v' w' (h.added hn hr hg hob)
 ·refine ⟨_,1,rfl,Nat.le_refl _,by omega,fun _ => ⟨_,0,rfl,by simp,fun j u hj => ?_⟩⟩
  exact Qb (heap_alloc_new wr _) (by rw [Nat.zero_add,List.getElem?_toArray]; exact hj)
 ·simp
  omega
theorem QcF {ops:Array Oper} {o:Oper} {a:Act} {J:Act -> World -> Prop} {Q:Exit -> Act -> World -> Prop} {E:Prop} (hgd:o.guard = none) (s x:Operand) (t:TypeId)
 (ho:o.op = .call { callee:=.builtin .append,args:=#[s,x],argTypes:=#[t,t] })
 {α:Type} {e:TypeId} {k:Nat} {cv:α->List Value} {nest:α->World->Prop} {N:Nat} {K:Nat->Prop} {wr:World} {pv:Value} {ps:List α}
 (i:TypeInfo) (z:Value) (bytes:Nat) (ht:P.underlying t=some (.slice e)) (hi:P.info? e=some i) (hz:i.zero=some z)
 (hsize:i.size=k) (hby:i.bytes=bytes) (hzs:z.cells.size=k) (hk:0<k)
 (h:RowK e k cv nest N K wr pv ps) (hN:N<=wr.heap.size) (p:α) (hn:Dep wr (fun b=>K b/\pv.ownBlock≠some b) (nest p)) (hs:a.eval s=pv) (hx:a.eval x = .slice (some ⟨wr.heap.size,0,none⟩) 1 1)
 (hlen:(cv p).length=k) (h1:∀ u∈cv p,u.oneCell'=true) (h63:ps.length+1<=maxLen) (hbytes:(ps.length+1)*bytes<=140737488355328)
 (hK:∀ v' w',Added e k cv nest N K wr pv (ps++[p]) v' w'->J (a.put o.dst v') w'):if Region.wanted o (yielded ops a.tmps)=true then Oper.wp P o a (wr.alloc (.cells (cv p).toArray e)).drew J Q else E:=by
 have hrow:=Q9 h.own ((KitC.Qh wr (.cells (cv p).toArray e)).drew);refine step_append_lies _ hgd s x t ho N e i z k bytes ht hi hz hsize hby hzs hk pv ps.length (ps.flatMap cv) hs hrow ⟨wr.heap.size,0,none⟩ 1 1 (cv p) hx (by simp [hlen]) (World.news_of_block (cs:=(cv p).toArray) (t:=e) (fr:=(0,0)) (heap_alloc_new wr _)) h1 (by decide) h63 hbytes (by show N<=(wr.alloc (.cells (cv p).toArray e)).heap.size; rw [World.size_alloc]; omega) (wr.heap.size+1) (by show (wr.alloc (.cells (cv p).toArray e)).heap.size=_; rw [World.size_alloc]) ?_;intro g cap w' hr hg hob _;refine hK _ w' (h.added (o:=.cells (cv p).toArray e) hn hr ⟨hg.os,hg.tape,hg.output,hg.size,hg.block⟩ ?_)
 rcases hob with e' | e'
 ·exact .inl (by rw [e']; rfl)
 ·exact .inr (by rw [e',World.size_alloc]; rfl)
end
def RetLs (R:World -> Value -> Prop) (W0 W:World) (c:Cur) (e:Ending) (w':World):Prop :=
 ∃ A n cp B m q,e = .returned (.tuple #[.agg #[.slice A n cp,.int .i64 c.w1,.int .i64 c.w2,.int .i64 c.a1,.int .i64 c.a2,.int .i64 c.bad],.slice B m q])/\Toks W0 (.slice A n cp) c.L/\Dep w' (fun b=>W.heap.size<=b) (fun x=>R x (.slice B m q))/\Below W.heap.size W w'
structure VB {α:Type} (T:TypeId) (k:Nat) (cv:α -> List Value) (nest:α -> World -> Prop) (Tb:TypeId) (W0 w x:World) (V:Nat) (A:Option Addr) (n cp:Nat) (c:Cur) (cs:Array Value) (pv:Value) (ps:List α):Prop where
 cb:CB W0 w x none w.heap.size A n cp c
 bx:x.heap[V]?=some (.cells cs Tb (0,0))
 row:RowK T k cv nest (w.heap.size+2) (fun b=>w.heap.size+2<=b/\b<V) x pv ps
 lt:w.heap.size+1<V
 own:∀ j,pv.ownBlock=some j->j<V
section
variable {α:Type} {T:TypeId} {k:Nat} {cv:α->List Value} {nest:α->World->Prop} {Tb:TypeId} {W0 w x y:World} {V:Nat} {A A':Option Addr} {n cp n' cp':Nat} {c c':Cur} {cs:Array Value} {pv:Value} {ps:List α}
theorem VB.on (h:VB T k cv nest Tb W0 w x V A n cp c cs pv ps) (hb:Below x.heap.size x y):VB T k cv nest Tb W0 w y V A n cp c cs pv ps:=⟨h.cb.on hb,Qe h.bx hb,h.row.keep hb,h.lt,h.own⟩
theorem VB.set (h:VB T k cv nest Tb W0 w x V A n cp c cs pv ps) (hT:Toks W0 (.slice A' n' cp') c'.L):VB T k cv nest Tb W0 w (setQ x w.heap.size A' n' cp' c') V A' n' cp' c' cs pv ps :=
 ⟨h.cb.set hT,Je h.bx (Qw _ _ _ _ _ _) (by have:=h.lt; omega),h.row.go (Qw _ _ _ _ _ _) (fun j e=>by cases e; exact ⟨fun h=>by omega,fun e=>by have:=(h.row.bd _ e).1; omega⟩),h.lt,h.own⟩
theorem VB.put (h:VB T k cv nest Tb W0 w x V A n cp c cs pv ps) (i:Nat) (u:Value):VB T k cv nest Tb W0 w (x.setCell ⟨V,i,none⟩ u) V A n cp c (cs.setIfInBounds i u) pv ps :=
 ⟨h.cb.but (Ql (Qx _ _) _ _) h.lt (by have:=h.lt; omega),Qd h.bx i u,h.row.go (Ql (Qx _ (some V)) _ _) (fun j e=>by cases e; exact ⟨fun h=>by omega,fun e=>by have:=h.own V e; omega⟩),h.lt,h.own⟩
theorem VB.start (hc:CB W0 w x none w.heap.size A n cp c) (hr:RowC T k cv nest (w.heap.size + 2) x pv ps) (cs:Array Value):VB T k cv nest Tb W0 w (x.alloc (.cells cs Tb)) x.heap.size A n cp c cs pv ps :=
 ⟨hc.alloc _,heap_alloc_new _ _,(hr.mono (K':=fun b=>w.heap.size+2<=b/\b<x.heap.size) fun _ h1 h2=>⟨h2,h1⟩).keep (KitC.Qh _ _),hc.lt.2,fun j e=>(hr.bd j e).2⟩
theorem VB.back (h:VB T k cv nest Tb W0 w x V A n cp c cs pv ps):RowC T k cv nest (w.heap.size+2) x pv ps:=h.row.mono fun _ _ h=>h.1
end
end
section
open Go.RowKit CurSpec TermSpec ExprSpec NamesSpec
set_option maxRecDepth 100000
structure LvS (W0 w wN:World) (A:Option Addr) (n cp:Nat) (c:Cur):Prop where
 toks:Toks W0 (.slice A n cp) c.L
 w0:Below W0.heap.size W0 wN
 cur:wN.heap[w.heap.size]?=some (rcO A n cp c)
 res:wN.heap[w.heap.size+1]?=some rcZ
 below:Below w.heap.size w wN
 top:w.heap.size+2<=wN.heap.size
theorem Qae {W0 w:World} {A:Option Addr} {n cp:Nat} {c:Cur} (hT:Toks W0 (.slice A n cp) c.L) (hW:Below W0.heap.size W0 w):LvS W0 w ((w.alloc (rcO A n cp c)).alloc rcZ) A n cp c:=by
 refine ⟨hT,Qa hW (Qm _ _ _),(heap_alloc_old _ _ (by simp)).trans (heap_alloc_new _ _),?_,Qm _ _ _,by simp⟩;have:=heap_alloc_new (w.alloc (rcO A n cp c)) rcZ
 rwa [World.size_alloc] at this
theorem LvS.on {W0 w wN wN':World} {A:Option Addr} {n cp:Nat} {c:Cur} (h:LvS W0 w wN A n cp c) (hb:Below wN.heap.size wN wN'):LvS W0 w wN' A n cp c :=
 ⟨h.toks,Qa h.w0 hb,Qe h.cur hb,Qe h.res hb,Qa h.below hb,Nat.le_trans h.top hb.size⟩
theorem LvS.alloc {W0 w wN:World} {A:Option Addr} {n cp:Nat} {c:Cur} (h:LvS W0 w wN A n cp c) (o:Obj):LvS W0 w (wN.alloc o) A n cp c:=h.on ((Below.refl _ _).alloc (Nat.le_refl _) _)
theorem LvS.ret {W0 w Y:World} {A:Option Addr} {n cp:Nat} {c:Cur} (h:LvS W0 w Y A n cp c) {d:Cur} {p:Pa} {A':Option Addr} {n' cp':Nat} {A2:Option Addr} {n2 c2:Nat} {x:List Tm}
 (hT:Toks W0 (.slice A' n' cp') d.L) (hM:Tms Y (.slice A2 n2 c2) x) (ho:∀ b,(Value.slice A2 n2 c2).ownBlock=some b->w.heap.size+1<b) (hp:p.1=d) (hx:d.bad=0->x=p.2) (hl:x.length+2*d.L.length<=2*c.L.length+1) :
 RetLev W0 w c p (.returned (.tuple #[.agg #[.slice A' n' cp',.int .i64 d.w1,.int .i64 d.w2,.int .i64 d.a1,.int .i64 d.a2,.int .i64 d.bad],.slice A2 n2 c2]))
  ((((((Y.setCell ⟨w.heap.size+1,0,none⟩ (.slice A' n' cp')).setCell ⟨w.heap.size+1,1,none⟩ (.int .i64 d.w1)).setCell ⟨w.heap.size+1,2,none⟩ (.int .i64 d.w2)).setCell ⟨w.heap.size+1,3,none⟩ (.int .i64 d.a1)).setCell ⟨w.heap.size+1,4,none⟩ (.int .i64 d.a2)).setCell ⟨w.heap.size+1,5,none⟩ (.int .i64 d.bad)) :=
 QgW (by omega) hT hM ho hp hx hl h.below
theorem lev_8 (f:Nat) (c:Cur) (h0:c.bad = 0) (hg:isB c 3 tNeg = false) (A:Option Addr) (n cp:Nat) (W0 w:World) (hT:Toks W0 (.slice A n cp) c.L) (hW:Below W0.heap.size W0 w)
 (hA:∀ W,Below W0.heap.size W0 W->Calls Tryz.prog 178 #[.agg #[.slice A n cp,.int .i64 c.w1,.int .i64 c.w2,.int .i64 c.a1,.int .i64 c.a2,.int .i64 c.bad]] W (RetLev W0 W c (atom (S f) c))) :
 Calls Tryz.prog 168 #[.agg #[.slice A n cp,.int .i64 c.w1,.int .i64 c.w2,.int .i64 c.a1,.int .i64 c.a2,.int .i64 c.bad],.int .i64 8] w (RetLev W0 w c (S (f+1) c 8)):=by
 have HA:=qh hA;have HS1:=qh (Qae hT hW);obtain ⟨p,hp⟩:∃ p,p=atom (S f) c:=⟨_,rfl⟩;have HE:Hid (S (f+1) c 8=p):=qh (by rw [hp]; exact S_atom h0 hg);rw [<- hp] at HA;have e0:(c.bad != 0)=false:=by simpa using h0
 clear hp hT hW hA h0 hg;obtain ⟨c0,c1,c2,c3,c4,c5⟩:=Qc HS1.o.cur;go_enter Tryz.func168,Tryz.ntmps168;go_wp2_with (go_at_call 178; go_fit (HA.o _ HS1.o.w0));rintro e y2 ⟨A2,n2,cp2,Av,nv,cv,x,rfl,hT2,hM2,ho2,hx2,hl2,hb2⟩;have HS2:=qh (HS1.o.on hb2);have HT2:=qh hT2;have HL2:=qh (And.intro hM2 (And.intro ho2 (And.intro hx2 hl2)));clear hT2 hM2 ho2 hx2 hl2 hb2 c0 c1 c2 c3 c4 c5;obtain ⟨r0,r1,r2,r3,r4,r5⟩:=Qc HS2.o.res;obtain ⟨g0,g1,g2,g3,g4,g5⟩:=Qk HS2.o.res;go_wp2_with fail;obtain ⟨q0,q1,q2,q3,q4,q5⟩:=Qq (QD HS2.o.res (n:=6) rfl) (.slice A2 n2 cp2) (.int .i64 p.1.w1) (.int .i64 p.1.w2) (.int .i64 p.1.a1) (.int .i64 p.1.a2) (.int .i64 p.1.bad);refine bodyPost_ret (v:=.tuple #[.agg #[.slice A2 n2 cp2,.int .i64 p.1.w1,.int .i64 p.1.w2,.int .i64 p.1.a1,.int .i64 p.1.a2,.int .i64 p.1.bad],.slice Av nv cv]) (by simp [results,Tryz.results168,go_sem,q0,q1,q2,q3,q4,q5]) rfl ?_;exact HS2.o.ret HT2.o HL2.o.1 (fun b hb=>by have:=HL2.o.2.1 b hb; simp only [World.size_alloc] at this; omega) (by rw [HE.o]) (fun h=>by rw [HE.o]; exact HL2.o.2.2.1 h) HL2.o.2.2.2
theorem lev_not (f:Nat) (c:Cur) (hL:LevAt f 3) (ok:Ok c) (hf:Fit f (on c)) (hlen:c.L.length <= 100000) (hb:isB c 1 tNot = true) (A:Option Addr) (n cp:Nat) (W0 w:World) (hT:Toks W0 (.slice A n cp) c.L) (hW:Below W0.heap.size W0 w) :
 Calls Tryz.prog 168 #[.agg #[.slice A n cp,.int .i64 c.w1,.int .i64 c.w2,.int .i64 c.a1,.int .i64 c.a2,.int .i64 c.bad],.int .i64 3] w (RetLev W0 w c (S (f+1) c 3)):=by
 have HS1:=qh (Qae hT hW);have HIS:=qh (QaW c 1 tNot A n cp _ (((hT.keep hW).alloc (rcO A n cp c)).alloc rcZ));have HON:=qh (fun W hW=>Ji c A n cp W0 W hT hW);obtain ⟨d,hd⟩:∃ d,d=on c:=⟨_,rfl⟩;obtain ⟨p,hp⟩:∃ p,p=S f d 3:=⟨_,rfl⟩;have HE:Hid (S (f+1) c 3=(p.1,opT 12::p.2)):=qh (by rw [hp,hd]; exact S_not hb);have HLN:Hid (d.L.length+1=c.L.length/\p.1.L.length<=d.L.length):=qh ⟨by rw [hd]; exact (Qv hb (by decide)).2.1,by rw [hp]; exact (Q5 f d 3).1⟩;have HLV:=qh (fun A n cp W hT hW=>hL d A n cp W0 W hT hW (by rw [hd]; exact ok.on) (by rw [hd]; exact hf) (by have:=HLN.o; omega));rw [hb] at HIS;rw [<- hd] at HON;rw [<- hp] at HLV;have HLE:=qh hlen;have e0:(c.bad != 0)=false:=by simpa using (Qr hb).1
 clear hd hp hT hW hL ok hf hb hlen;obtain ⟨c0,c1,c2,c3,c4,c5⟩:=Qc HS1.o.cur;go_enter Tryz.func168,Tryz.ntmps168;go_wp2_with (go_at_call 62; go_fit HIS.o);rintro e y2 ⟨rfl,hb2⟩;have HS2:=qh (HS1.o.on hb2);clear hb2 c0 c1 c2 c3 c4 c5;obtain ⟨c0,c1,c2,c3,c4,c5⟩:=Qc HS2.o.cur;go_wp2_with (go_at_call 63; go_fit (HON.o _ HS2.o.w0));rintro e y3 ⟨A3,n3,cp3,rfl,hT3,hb3⟩;have HS3:=qh (HS2.o.on hb3);have HT3:=qh hT3;clear hT3 hb3 c0 c1 c2 c3 c4 c5;go_wp2_with (go_at_call 168; go_fit (HLV.o _ _ _ _ HT3.o HS3.o.w0));rintro e y4 ⟨A4,n4,cp4,Av,nv,cv,x,rfl,hT4,hM4,ho4,hx4,hl4,hb4⟩;have HS4:=qh (HS3.o.on hb4);have HT4:=qh hT4;have HL4:=qh (And.intro hM4 (And.intro ho4 (And.intro hx4 hl4)));have HS5:=qh ((HS4.o.alloc (rcO A4 n4 cp4 p.1)).on (Below.refl _ _).drew);have HOV:=qh (ZG 12 (.slice Av nv cv) (.slice none 0 0) x [] (y4.alloc (rcO A4 n4 cp4 p.1)).drew (hM4.alloc _) (tmsNil _) (by have:=HLN.o; have:=HLE.o; omega) (by simp));have k5:(y4.alloc (rcO A4 n4 cp4 p.1)).heap[y4.heap.size]?=some (rcO A4 n4 cp4 p.1):=heap_alloc_new _ _;have HK5:=qh k5;obtain ⟨m0,m1,m2,m3,m4,m5⟩:=Qc k5;clear hT4 hM4 ho4 hx4 hl4 hb4 k5;go_wp2_with fail;go_region_law (go_simp; go_at_call 179; go_fit HOV.o; rintro e y6 ⟨A6,n6,c6,rfl,hM6,ho6,hb6⟩; have HM6:=qh (And.intro hM6 ho6); have HS6:=qh (HS5.o.on hb6); obtain ⟨a0,a1,a2,a3,a4,a5⟩:=Qc (Qe HK5.o (undrew hb6)); obtain ⟨r0,r1,r2,r3,r4,r5⟩:=Qc HS6.o.res; obtain ⟨g0,g1,g2,g3,g4,g5⟩:=Qk HS6.o.res; clear hM6 ho6 hb6)
 all_goals
  go_wp2_with fail;obtain ⟨q0,q1,q2,q3,q4,q5⟩:=Qq (QD HS6.o.res (n:=6) rfl) (.slice A4 n4 cp4) (.int .i64 p.1.w1) (.int .i64 p.1.w2) (.int .i64 p.1.a1) (.int .i64 p.1.a2) (.int .i64 p.1.bad);refine bodyPost_ret (v:=.tuple #[.agg #[.slice A4 n4 cp4,.int .i64 p.1.w1,.int .i64 p.1.w2,.int .i64 p.1.a1,.int .i64 p.1.a2,.int .i64 p.1.bad],.slice A6 n6 c6]) (by simp [results,Tryz.results168,go_sem,q0,q1,q2,q3,q4,q5]) rfl ?_;exact HS6.o.ret HT4.o HM6.o.1 (fun b hb=>by have h1:=HM6.o.2 b hb; have h2:=HS5.o.top; omega) (by rw [HE.o]) (fun h=>by rw [HE.o,HL4.o.2.2.1 h,List.append_nil]) (by have:=HL4.o.2.2.2; have:=HLN.o; simp only [List.length_cons,List.length_append,List.length_nil]; omega)
theorem lev_neg (f:Nat) (c:Cur) (hL:LevAt f 7) (ok:Ok c) (hf:Fit f (on c)) (hlen:c.L.length <= 100000) (hb:isB c 3 tNeg = true) (A:Option Addr) (n cp:Nat) (W0 w:World) (hT:Toks W0 (.slice A n cp) c.L) (hW:Below W0.heap.size W0 w) :
 Calls Tryz.prog 168 #[.agg #[.slice A n cp,.int .i64 c.w1,.int .i64 c.w2,.int .i64 c.a1,.int .i64 c.a2,.int .i64 c.bad],.int .i64 7] w (RetLev W0 w c (S (f+1) c 7)):=by
 have HS1:=qh (Qae hT hW);have HIS:=qh (QaW c 3 tNeg A n cp _ (((hT.keep hW).alloc (rcO A n cp c)).alloc rcZ));have HON:=qh (fun W hW=>Ji c A n cp W0 W hT hW);obtain ⟨d,hd⟩:∃ d,d=on c:=⟨_,rfl⟩;obtain ⟨p,hp⟩:∃ p,p=S f d 7:=⟨_,rfl⟩;have HE:Hid (S (f+1) c 7=(p.1,opT 3::p.2)):=qh (by rw [hp,hd]; exact S_neg hb);have HLN:Hid (d.L.length+1=c.L.length/\p.1.L.length<=d.L.length):=qh ⟨by rw [hd]; exact (Qv hb (by decide)).2.1,by rw [hp]; exact (Q5 f d 7).1⟩;have HLV:=qh (fun A n cp W hT hW=>hL d A n cp W0 W hT hW (by rw [hd]; exact ok.on) (by rw [hd]; exact hf) (by have:=HLN.o; omega));rw [hb] at HIS;rw [<- hd] at HON;rw [<- hp] at HLV;have HLE:=qh hlen;have e0:(c.bad != 0)=false:=by simpa using (Qr hb).1
 clear hd hp hT hW hL ok hf hb hlen;obtain ⟨c0,c1,c2,c3,c4,c5⟩:=Qc HS1.o.cur;go_enter Tryz.func168,Tryz.ntmps168;go_wp2_with (go_at_call 62; go_fit HIS.o);rintro e y2 ⟨rfl,hb2⟩;have HS2:=qh (HS1.o.on hb2);clear hb2 c0 c1 c2 c3 c4 c5;obtain ⟨c0,c1,c2,c3,c4,c5⟩:=Qc HS2.o.cur;go_wp2_with (go_at_call 63; go_fit (HON.o _ HS2.o.w0));rintro e y3 ⟨A3,n3,cp3,rfl,hT3,hb3⟩;have HS3:=qh (HS2.o.on hb3);have HT3:=qh hT3;clear hT3 hb3 c0 c1 c2 c3 c4 c5;go_wp2_with (go_at_call 168; go_fit (HLV.o _ _ _ _ HT3.o HS3.o.w0));rintro e y4 ⟨A4,n4,cp4,Av,nv,cv,x,rfl,hT4,hM4,ho4,hx4,hl4,hb4⟩;have HS4:=qh (HS3.o.on hb4);have HT4:=qh hT4;have HL4:=qh (And.intro hM4 (And.intro ho4 (And.intro hx4 hl4)));have HS5:=qh ((HS4.o.alloc (rcO A4 n4 cp4 p.1)).on (Below.refl _ _).drew);have HOV:=qh (ZG 3 (.slice Av nv cv) (.slice none 0 0) x [] (y4.alloc (rcO A4 n4 cp4 p.1)).drew (hM4.alloc _) (tmsNil _) (by have:=HLN.o; have:=HLE.o; omega) (by simp));have k5:(y4.alloc (rcO A4 n4 cp4 p.1)).heap[y4.heap.size]?=some (rcO A4 n4 cp4 p.1):=heap_alloc_new _ _;have HK5:=qh k5;obtain ⟨m0,m1,m2,m3,m4,m5⟩:=Qc k5;clear hT4 hM4 ho4 hx4 hl4 hb4 k5;go_wp2_with fail;go_region_law (go_simp; go_at_call 179; go_fit HOV.o; rintro e y6 ⟨A6,n6,c6,rfl,hM6,ho6,hb6⟩; have HM6:=qh (And.intro hM6 ho6); have HS6:=qh (HS5.o.on hb6); obtain ⟨a0,a1,a2,a3,a4,a5⟩:=Qc (Qe HK5.o (undrew hb6)); obtain ⟨r0,r1,r2,r3,r4,r5⟩:=Qc HS6.o.res; obtain ⟨g0,g1,g2,g3,g4,g5⟩:=Qk HS6.o.res; clear hM6 ho6 hb6)
 all_goals
  go_wp2_with fail;obtain ⟨q0,q1,q2,q3,q4,q5⟩:=Qq (QD HS6.o.res (n:=6) rfl) (.slice A4 n4 cp4) (.int .i64 p.1.w1) (.int .i64 p.1.w2) (.int .i64 p.1.a1) (.int .i64 p.1.a2) (.int .i64 p.1.bad);refine bodyPost_ret (v:=.tuple #[.agg #[.slice A4 n4 cp4,.int .i64 p.1.w1,.int .i64 p.1.w2,.int .i64 p.1.a1,.int .i64 p.1.a2,.int .i64 p.1.bad],.slice A6 n6 c6]) (by simp [results,Tryz.results168,go_sem,q0,q1,q2,q3,q4,q5]) rfl ?_;exact HS6.o.ret HT4.o HM6.o.1 (fun b hb=>by have h1:=HM6.o.2 b hb; have h2:=HS5.o.top; omega) (by rw [HE.o]) (fun h=>by rw [HE.o,HL4.o.2.2.1 h,List.append_nil]) (by have:=HL4.o.2.2.2; have:=HLN.o; simp only [List.length_cons,List.length_append,List.length_nil]; omega)
end
end Go.Proofs.YtbdalbpackfejaaGreatDoor
