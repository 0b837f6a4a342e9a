/- SynSpec, ShapeSpec, ExprPart, TermLits, TermCome, TermRefDeep, joined. -/
import Derived.Test.YtbdalbpackfejaaGreatDoorMFormatOf06
set_option maxHeartbeats 16000000
set_option maxRecDepth 100000
namespace Go.Proofs.YtbdalbpackfejaaGreatDoor
section
namespace SynSpec
open CurSpec TermSpec EvalSpec NamesSpec ExprSpec ActSpec TransSpec
structure Sx where
 s:ByteArray
 kind:Int
 par:Int
 en:List Ac
 ex:List Ac
 tr:List Tr
structure Cx where
 s:ByteArray
 evs:List ByteArray
 vars:List Vr
 sts:List Sx
abbrev zeroC:Cx:=⟨⟨#[]⟩,[],[],[]⟩
def loopR {α:Type} (q:Cur -> Bool) (st:Cur -> List α -> Cur × List α):Nat -> Cur -> List α -> Cur × List α
 | 0,c,out => (c,out)
 | f + 1,c,out => if q c = true then loopR q st f (st c out).1 (st c out).2 else (c,out)
def loopT {α:Type} (q:Cur->Bool) (st:Cur->List α->Cur × List α) (c:Cur) (out:List α):Cur × List α:=loopR q st (c.L.length+1) c out
structure Goes {α:Type} (q:Cur -> Bool) (st:Cur -> List α -> Cur × List α):Prop where
 real:∀ {c},q c=true->c.bad=0/\0<c.L.length
 less:∀ {c} (out),q c=true->(st c out).1.L.length<c.L.length\/(st c out).1.bad≠0
 le:∀ c out,(st c out).1.L.length<=c.L.length/\(c.bad≠0->(st c out).1.bad≠0)
section
variable {α:Type} {q:Cur->Bool} {st:Cur->List α->Cur × List α}
theorem Qa5 {c:Cur} (out:List α) (f:Nat) (h:¬ q c = true):loopR q st f c out = (c,out):=by
 cases f with
 | zero => rfl
 | succ f => rw [loopR,if_neg h]
theorem QeG (G:Goes q st):∀ (f g:Nat) (c:Cur) (out:List α),c.L.length < f -> c.L.length < g -> loopR q st f c out = loopR q st g c out
 | 0,_,_,_,h,_ => absurd h (by omega)
 | _ + 1,0,_,_,_,h => absurd h (by omega)
 | f + 1,g + 1,c,out,hf,hg => by
   unfold loopR
   split
   ·rename_i hb
    rcases G.less out hb with h | h
    ·exact QeG G f g _ _ (by omega) (by omega)
    ·have h':¬ q (st c out).1 = true:=fun h' => h (G.real h').1
     rw [Qa5 _ _ h',Qa5 _ _ h']
   ·rfl
theorem JA (G:Goes q st) {c:Cur} {out:List α} (h:q c = true):loopT q st c out = loopT q st (st c out).1 (st c out).2:=by
 unfold loopT;rw [loopR,if_pos h]
 rcases G.less out h with h1 | h1
 ·exact QeG G _ _ _ _ (by omega) (by omega)
 ·have h':¬ q (st c out).1 = true:=fun h' => h1 (G.real h').1
  rw [Qa5 _ _ h',Qa5 _ _ h']
theorem Jm {c:Cur} {out:List α} (h:¬ q c=true):loopT q st c out=(c,out):=Qa5 _ _ h
theorem Qe7 (P:Cur -> List α -> Prop) (hp:∀ c out,q c = true -> P c out -> P (st c out).1 (st c out).2):∀ (f:Nat) (c:Cur) (out:List α),P c out -> P (loopR q st f c out).1 (loopR q st f c out).2
 | 0,_,_,h => h
 | f + 1,c,out,h => by
   unfold loopR
   split
   ·rename_i hb
    exact Qe7 P hp f _ _ (hp c out hb h)
   ·exact h
theorem Zw (P:Cur->List α->Prop) (hp:∀ c out,q c=true->P c out->P (st c out).1 (st c out).2) {c:Cur} {out:List α} (h:P c out):P (loopT q st c out).1 (loopT q st c out).2:=Qe7 P hp _ c out h
def left (c:Cur):Nat:=if c.bad=0 then c.L.length+1 else 0
theorem Za (G:Goes q st) {c:Cur} (out:List α) (h:q c = true):left (st c out).1 < left c:=by
 have h0:=(G.real h).1;unfold left;rw [if_pos h0]
 split
 ·rename_i h1
  rcases G.less out h with h2 | h2
  ·omega
  ·exact absurd h1 h2
 ·omega
end
abbrev wChart:ByteArray:=⟨#[99,104,97,114,116]⟩
abbrev wEvent:ByteArray:=⟨#[101,118,101,110,116]⟩
abbrev wVar:ByteArray:=⟨#[118,97,114]⟩
abbrev wLeaf:ByteArray:=⟨#[108,101,97,102]⟩
abbrev wOr:ByteArray:=⟨#[111,114]⟩
abbrev wAnd:ByteArray:=⟨#[97,110,100]⟩
abbrev wEnter:ByteArray:=⟨#[101,110,116,101,114]⟩
abbrev wExit:ByteArray:=⟨#[101,120,105,116]⟩
abbrev wOpen:ByteArray:=⟨#[123]⟩
abbrev wShut:ByteArray:=⟨#[125]⟩
abbrev wMin:ByteArray:=⟨#[45]⟩
abbrev wDots:ByteArray:=⟨#[46,46]⟩
abbrev wIs:ByteArray:=⟨#[61]⟩
def fullE (c:Cur) (out:List ByteArray):Cur:=if out.length=8/\nameB c=true then fail c 8 else c
def qE (c:Cur):Bool:=isB c 3 wCom
def stE (c:Cur) (out:List ByteArray):Cur × List ByteArray:=(nameC (fullE (on c) out),out++[nameS (fullE (on c) out)])
def evR (c:Cur):Cur × List ByteArray :=
 if isB c 1 wEvent=true then (want (loopT qE stE (nameC (on c)) [nameS (on c)]).1 3 wEnd,(loopT qE stE (nameC (on c)) [nameS (on c)]).2) else (c,[])
def intR (c:Cur):Cur × Int:=if isB c 3 wMin=true then (numC (on c) 1000,- numN (on c) 1000) else (numC c 1000,numN c 1000)
def varR (c:Cur):Cur × Vr :=
 (want (intR (want (intR (want (intR (nameC (want c 1 wVar))).1 3 wDots)).1 3 wIs)).1 3 wEnd,
  ⟨nameS (want c 1 wVar),(intR (nameC (want c 1 wVar))).2,(intR (want (intR (nameC (want c 1 wVar))).1 3 wDots)).2,(intR (want (intR (want (intR (nameC (want c 1 wVar))).1 3 wDots)).1 3 wIs)).2⟩)
def fullO {α:Type} (n:Nat) (c:Cur) (out:List α):Cur:=if out.length=n then fail c 8 else c
def qV (c:Cur):Bool:=isB c 1 wVar
def stV (c:Cur) (out:List Vr):Cur × List Vr:=((varR (fullO 4 c out)).1,out++[(varR (fullO 4 c out)).2])
def vaR (c:Cur):Cur × List Vr:=loopT qV stV c []
def acX (c:Cur) (w:ByteArray):Cur × List Ac:=if isB c 1 w=true then (want (readA (on c)).1 3 wEnd,(readA (on c)).2) else (c,[])
def qT (c:Cur):Bool:=isB c 1 wOn||isB c 1 wAuto
def stT (c:Cur) (out:List Tr):Cur × List Tr:=((readT (fullO 16 c out)).1,out++[(readT (fullO 16 c out)).2])
def trX (c:Cur):Cur × List Tr:=loopT qT stT c []
def kdR (c:Cur):Cur × Int:=if isB c 1 wLeaf=true then (on c,1) else if isB c 1 wOr=true then (on c,2) else (want c 1 wAnd,3)
def headR (c:Cur) (par:Int):Cur × Sx:=(nameC (kdR c).1,⟨nameS (kdR c).1,(kdR c).2,par,[],[],[]⟩)
def qS (c:Cur):Bool:=isB c 1 wLeaf||(isB c 1 wOr||isB c 1 wAnd)
def insR (c:Cur):Cur × (List Ac × List Ac × List Tr) :=
 ((trX (acX (acX (want c 3 wOpen) wEnter).1 wExit).1).1,(acX (want c 3 wOpen) wEnter).2,(acX (acX (want c 3 wOpen) wEnter).1 wExit).2,(trX (acX (acX (want c 3 wOpen) wEnter).1 wExit).1).2)
def setI (s:Sx) (i:List Ac × List Ac × List Tr):Sx:=⟨s.s,s.kind,s.par,i.1,i.2.1,i.2.2⟩
def bodyS (kids:Cur -> Cur × List Sx) (par:Int) (c:Cur):Cur × List Sx :=
 if isB (headR c par).1 3 wEnd=true then (on (headR c par).1,[(headR c par).2])
 else if (headR c par).2.kind=1 then (want (insR (headR c par).1).1 3 wShut,[setI (headR c par).2 (insR (headR c par).1).2])
 else (want (kids (insR (headR c par).1).1).1 3 wShut,setI (headR c par).2 (insR (headR c par).1).2::(kids (insR (headR c par).1).1).2)
def room (many deep:Int):Int:=if many=60 then 8 else if 12<deep then 6 else 0
def stS (rd:Nat -> Int -> Cur -> Cur × List Sx) (k n:Nat) (c:Cur) (out:List Sx):Cur × List Sx :=
 ((rd (n+1+out.length) n (fail c (room (n+1+out.length:Nat) (13-k)))).1,out++(rd (n+1+out.length) n (fail c (room (n+1+out.length:Nat) (13-k)))).2)
def kidsR (rd:Nat->Int->Cur->Cur × List Sx) (k n:Nat) (c:Cur):Cur × List Sx:=loopT qS (stS rd k n) c []
def stR:Nat -> Nat -> Int -> Cur -> Cur × List Sx
 | 0,_,par,c => bodyS (fun d => (d,[])) par c
 | k + 1,n,par,c => bodyS (kidsR (stR k) k n) par c
def seqC (c:Cur):Cur × Cx :=
 (want (stR 12 0 (-1) (vaR (evR (want (nameC (want c 1 wChart)) 3 wOpen)).1).1).1 3 wShut,
  ⟨nameS (want c 1 wChart),(evR (want (nameC (want c 1 wChart)) 3 wOpen)).2,(vaR (evR (want (nameC (want c 1 wChart)) 3 wOpen)).1).2,(stR 12 0 (-1) (vaR (evR (want (nameC (want c 1 wChart)) 3 wOpen)).1).1).2⟩)
def readC (c:Cur):Cur × Cx:=((seqC c).1,if (seqC c).1.bad=0 then (seqC c).2 else zeroC)
structure To (c d:Cur):Prop where
 len:d.L.length<=c.L.length
 bad:c.bad≠0->d.bad≠0
 ok:Ok c->Ok d
theorem To.refl (c:Cur):To c c:=⟨Nat.le_refl _,id,id⟩
theorem To.trans {a b c:Cur} (h:To a b) (g:To b c):To a c:=⟨Nat.le_trans g.len h.len,fun h'=>g.bad (h.bad h'),fun h'=>g.ok (h.ok h')⟩
theorem Qb1 (c:Cur):To c (on c):=⟨QaD c,fun h=>by rw [(JL c).1]; exact h,fun h=>h.on⟩
theorem Qce (c:Cur) (e:Int):To c (fail c e):=⟨by rw [(ZK c e).1]; exact Nat.le_refl _,(ZK c e).2.1,fun h=>h.fail e⟩
theorem QM (c:Cur) (k:Int) (s:ByteArray):To c (want c k s):=⟨(ZW c k s).1,(ZW c k s).2,fun h=>h.want k s⟩
theorem Ju (c:Cur):To c (nameC c):=⟨(ZF c).1,(ZF c).2,fun h=>h.nameC⟩
theorem to_numC (c:Cur) (m:Int):To c (numC c m):=by
 unfold numC
 split
 ·exact Qb1 c
 ·exact Qce c _
theorem to_readA (c:Cur):To c (readA c).1:=⟨(QdV c).1,(QdV c).2,fun h=>Qiq h⟩
theorem Qb3 (c:Cur):To c (readT c).1:=⟨(Qhv c).1,(Qhv c).2,fun h=>readT_ok h⟩
theorem Qbn {α:Type} {q:Cur -> Bool} {st:Cur -> List α -> Cur × List α} (hs:∀ d out,To d (st d out).1) (c:Cur) (out:List α):To c (loopT q st c out).1 :=
 Zw (q:=q) (st:=st) (fun d _=>To c d) (fun d o _ h=>h.trans (hs d o)) (To.refl c)
theorem Qck (c:Cur) (out:List ByteArray):To c (fullE c out):=by
 unfold fullE
 split
 ·exact Qce c 8
 ·exact To.refl c
theorem Qb0 {α:Type} (n:Nat) (c:Cur) (out:List α):To c (fullO n c out):=by
 unfold fullO
 split
 ·exact Qce c 8
 ·exact To.refl c
theorem QgF (c:Cur) (out:List ByteArray):To c (stE c out).1:=(Qb1 c).trans ((Qck _ _).trans (Ju _))
theorem to_evR (c:Cur):To c (evR c).1:=by
 unfold evR
 split
 ·exact (Qb1 c).trans ((Ju _).trans ((Qbn QgF _ _).trans (QM _ _ _)))
 ·exact To.refl c
theorem Zm (c:Cur):To c (intR c).1:=by
 unfold intR
 split
 ·exact (Qb1 c).trans (to_numC _ _)
 ·exact to_numC _ _
theorem QhJ (c:Cur):To (want c 1 wVar) (varR c).1 :=
 (Ju _).trans ((Zm _).trans ((QM _ _ _).trans ((Zm _).trans ((QM _ _ _).trans ((Zm _).trans (QM _ _ _))))))
theorem QdG (c:Cur):To c (varR c).1:=(QM _ _ _).trans (QhJ c)
theorem Qgw (c:Cur) (out:List Vr):To c (stV c out).1:=(Qb0 4 c out).trans (QdG _)
theorem to_vaR (c:Cur):To c (vaR c).1:=Qbn Qgw c []
theorem Qcz (c:Cur) (w:ByteArray):To c (acX c w).1:=by
 unfold acX
 split
 ·exact (Qb1 c).trans ((to_readA _).trans (QM _ _ _))
 ·exact To.refl c
theorem Qge (c:Cur) (out:List Tr):To c (stT c out).1:=(Qb0 16 c out).trans (Qb3 _)
theorem to_trX (c:Cur):To c (trX c).1:=Qbn Qge c []
theorem QbS (c:Cur):To c (kdR c).1:=by
 unfold kdR
 split
 ·exact Qb1 c
 ·split
  ·exact Qb1 c
  ·exact QM _ _ _
theorem Z9 (c:Cur) (par:Int):To (kdR c).1 (headR c par).1:=Ju _
theorem Qby (c:Cur):To c (insR c).1:=(QM _ _ _).trans ((Qcz _ _).trans ((Qcz _ _).trans (to_trX _)))
theorem QcO {kids:Cur -> Cur × List Sx} (hk:∀ d,To d (kids d).1) (par:Int) (c:Cur):To (kdR c).1 (bodyS kids par c).1:=by
 unfold bodyS
 split
 ·exact (Z9 c par).trans (Qb1 _)
 ·split
  ·exact (Z9 c par).trans ((Qby _).trans (QM _ _ _))
  ·exact (Z9 c par).trans ((Qby _).trans ((hk _).trans (QM _ _ _)))
theorem QeF {rd:Nat->Int->Cur->Cur × List Sx} (hr:∀ n par d,To d (rd n par d).1) (k n:Nat) (c:Cur) (out:List Sx):To c (stS rd k n c out).1:=(Qce _ _).trans (hr _ _ _)
theorem Qgy:∀ (k n:Nat) (par:Int) (c:Cur),To (kdR c).1 (stR k n par c).1
 | 0,_,par,c => QcO (fun d => To.refl d) par c
 | k + 1,n,par,c => QcO (fun d => Qbn (QeF (fun n' par' d' => (QbS d').trans (Qgy k n' par' d')) k n) d []) par c
theorem Z6 (k n:Nat) (par:Int) (c:Cur):To c (stR k n par c).1:=(QbS c).trans (Qgy k n par c)
theorem QB (c:Cur) {e:Int} (he:e≠0):(fail c e).bad≠0:=(ZK c e).2.2 he
theorem Qad {c:Cur} {k:Int} {s:ByteArray} (h:isB c k s=true):want c k s=on c:=by unfold want; rw [if_pos h]
theorem JD {c:Cur} {s:ByteArray} (h:isB c 1 s = true):c.bad = 0 /\ 0 < c.L.length /\ (on c).L.length < c.L.length:=by
 obtain ⟨h1,h2,-⟩:=Qv h (by decide);exact ⟨h1,by omega,by omega⟩
theorem Qgz:Goes qE stE where
 real:=fun {c} h=>by obtain ⟨h1,h2,-⟩:=Qv h (by decide); exact ⟨h1,by omega⟩
 less:=fun {c} out h => by
  obtain ⟨h1,h2,-⟩:=Qv h (by decide);have h3:=((Qck (on c) out).trans (Ju _)).len;exact .inl (by show (nameC (fullE (on c) out)).L.length<_; omega)
 le:=fun c out=>⟨(QgF c out).len,(QgF c out).bad⟩
theorem QbQ:Goes qV stV where
 real:=fun {c} h=>⟨(JD h).1,(JD h).2.1⟩
 less:=fun {c} out h => by
  by_cases h4:out.length=4
  ·exact .inr ((QdG _).bad (by unfold fullO; rw [if_pos h4]; exact QB c (by decide)))
  ·refine .inl ?_
   have h2:=(QhJ c).len;rw [Qad h] at h2
   show (varR (fullO 4 c out)).1.L.length<_
   unfold fullO;rw [if_neg h4];have:=(JD h).2.2;omega
 le:=fun c out=>⟨(Qgw c out).len,(Qgw c out).bad⟩
theorem to_readT' {c:Cur} (h:qT c = true):(readT c).1.L.length < c.L.length:=by
 have h1:(hdT c).1.L.length < c.L.length:=by
  unfold hdT
  split
  ·rename_i ha
   exact (JD ha).2.2
  ·rename_i ha
   have ho:isB c 1 wOn=true:=by unfold qT at h; simpa [ha] using h
   rw [Qad ho];exact Nat.lt_of_le_of_lt (Ju _).len (JD ho).2.2
 have h2:=Qei (hdT c).1;have h3:=QdY (guT (hdT c).1).1;have h4:=Qgm (acT (guT (hdT c).1).1).1;have h5:=ZW (tgT (acT (guT (hdT c).1).1).1).1 3 wEnd;exact Nat.lt_of_le_of_lt (Nat.le_trans h5.1 (Nat.le_trans h4.1 (Nat.le_trans h3.1 h2.1))) h1
theorem Z4:Goes qT stT where
 real:=fun {c} h => by
  unfold qT at h;rw [Bool.or_eq_true] at h
  rcases h with h | h<;>exact ⟨(JD h).1,(JD h).2.1⟩
 less:=fun {c} out h => by
  by_cases h4:out.length=16
  ·exact .inr ((Qb3 _).bad (by unfold fullO; rw [if_pos h4]; exact QB c (by decide)))
  ·refine .inl ?_
   show (readT (fullO 16 c out)).1.L.length<_
   unfold fullO;rw [if_neg h4];exact to_readT' h
 le:=fun c out=>⟨(Qge c out).len,(Qge c out).bad⟩
theorem Zp {c:Cur} (h:qS c = true):c.bad = 0 /\ 0 < c.L.length /\ (kdR c).1 = on c /\ (on c).L.length < c.L.length:=by
 have h':isB c 1 wLeaf=true\/isB c 1 wOr=true\/isB c 1 wAnd=true:=by unfold qS at h; rw [Bool.or_eq_true,Bool.or_eq_true] at h; exact h
 have hr:c.bad=0/\0<c.L.length/\(on c).L.length<c.L.length:=by rcases h' with h | h | h<;>exact JD h
 refine ⟨hr.1,hr.2.1,?_,hr.2.2⟩;unfold kdR
 split
 ·rfl
 ·split
  ·rfl
  ·rename_i h1 h2
   rcases h' with h | h | h
   ·exact absurd h h1
   ·exact absurd h h2
   ·exact Qad h
theorem QcL (k n:Nat):Goes qS (stS (stR k) k n) where
 real:=fun {c} h=>⟨(Zp h).1,(Zp h).2.1⟩
 less:=fun {c} out h => by
  by_cases h0:room (n+1+out.length:Nat) (13-k)=0
  ·refine .inl ?_
   show (stR k (n+1+out.length) n (fail c (room (n+1+out.length:Nat) (13-k)))).1.L.length<_
   rw [h0,JM];have h1:=(Qgy k (n+1+out.length) n c).len;rw [(Zp h).2.2.1] at h1;have:=(Zp h).2.2.2;omega
  ·exact .inr ((Z6 _ _ _ _).bad (QB c h0))
 le:=fun c out=>⟨(QeF (Z6 k) k n c out).len,(QeF (Z6 k) k n c out).bad⟩
def Few {α:Type} (n:Nat) (c:Cur) (out:List α):Prop:=out.length<=n+1/\(out.length=n+1->c.bad≠0)
theorem few_E {c:Cur} {out:List ByteArray} (h:qE c = true) (hf:Few 8 c out):Few 8 (stE c out).1 (stE c out).2:=by
 have h0:=(Qv h (by decide)).1
 have h8:out.length <= 8:=by
  rcases Nat.lt_or_ge out.length 9 with h' | h'
  ·omega
  ·exact absurd h0 (hf.2 (by have:=hf.1; omega))
 refine ⟨by simp [stE]; omega,fun h9=>?_⟩;have h9':out.length=8:=by simp [stE] at h9; omega
 show (nameC (fullE (on c) out)).bad≠0
 unfold fullE
 by_cases hn:nameB (on c)=true
 ·rw [if_pos ⟨h9',hn⟩]
  exact (Ju _).bad (QB _ (by decide))
 ·rw [if_neg (fun h' => hn h'.2)]
  unfold nameC;rw [if_neg hn];exact QB _ (by decide)
theorem few_O {α:Type} {n:Nat} {c:Cur} {out:List α} {d:Cur} {x:α} (h0:c.bad = 0) (hf:Few n c out) (hd:To (fullO n c out) d):Few n d (out ++ [x]):=by
 have h8:out.length <= n:=by
  rcases Nat.lt_or_ge out.length (n+1) with h' | h'
  ·omega
  ·exact absurd h0 (hf.2 (by have:=hf.1; omega))
 refine ⟨by simp; omega,fun h9=>?_⟩;have h9':out.length=n:=by simp at h9; omega
 refine hd.bad ?_;unfold fullO;rw [if_pos h9'];exact QB _ (by decide)
theorem few_V {c:Cur} {out:List Vr} (h:qV c=true) (hf:Few 4 c out):Few 4 (stV c out).1 (stV c out).2:=few_O (JD h).1 hf (QdG _)
theorem few_T {c:Cur} {out:List Tr} (h:qT c=true) (hf:Few 16 c out):Few 16 (stT c out).1 (stT c out).2:=few_O (Z4.real h).1 hf (Qb3 _)
def FewS (n:Nat) (c:Cur) (out:List Sx):Prop:=n+out.length<=61/\(n+out.length=61->c.bad≠0)
theorem FewS.to {n:Nat} {c d:Cur} {out:List Sx} (h:FewS n c out) (t:To c d):FewS n d out:=⟨h.1,fun h'=>t.bad (h.2 h')⟩
def StartS (n:Nat) (c:Cur):Prop:=n<=60/\(n=60->c.bad≠0)
theorem StartS.to {n:Nat} {c d:Cur} (h:StartS n c) (t:To c d):StartS n d:=⟨h.1,fun h'=>t.bad (h.2 h')⟩
theorem StartS.few {n:Nat} {c:Cur} (h:StartS n c):FewS (n+1) c []:=⟨by have:=h.1; simp; omega,fun h'=>h.2 (by simp at h'; omega)⟩
theorem Qhf {kids:Cur -> Cur × List Sx} (n:Nat) (ht:∀ d,To d (kids d).1) (hk:∀ d,FewS (n + 1) d [] -> FewS (n + 1) (kids d).1 (kids d).2) (par:Int) (c:Cur) (h:StartS n c):FewS n (bodyS kids par c).1 (bodyS kids par c).2:=by
 have hb:=(QbS c).trans (QcO ht par c);have hone:∀ s:Sx,FewS n (bodyS kids par c).1 [s]:=fun s=>⟨by have:=h.1; simp; omega,fun h'=>hb.bad (h.2 (by simp at h'; omega))⟩
 unfold bodyS at hone ⊢
 split at hone
 ·rename_i h1
  rw [if_pos h1];exact hone _
 ·rename_i h1
  rw [if_neg h1]
  split at hone
  ·rename_i h2
   rw [if_pos h2];exact hone _
  ·rename_i h2
   rw [if_neg h2];have h3:=(hk _ (h.few.to ((QbS c).trans ((Z9 c par).trans (Qby _))))).to (QM _ 3 wShut);exact ⟨by have:=h3.1; simp at this ⊢; omega,fun h'=>h3.2 (by simp at h' ⊢; omega)⟩
theorem few_stS {rd:Nat -> Int -> Cur -> Cur × List Sx} {k n:Nat} (hr:∀ m par d,StartS m d -> FewS m (rd m par d).1 (rd m par d).2) {c:Cur} {out:List Sx} (h:qS c = true) (hf:FewS (n + 1) c out) :
 StartS (n+1+out.length) (fail c (room (n+1+out.length:Nat) (13-k)))/\FewS (n+1) (stS rd k n c out).1 (stS rd k n c out).2:=by
 have h0:=(Zp h).1
 have h60:n + 1 + out.length <= 60:=by
  rcases Nat.lt_or_ge (n+1+out.length) 61 with h' | h'
  ·omega
  ·exact absurd h0 (hf.2 (by have:=hf.1; omega))
 have hst:StartS (n+1+out.length) (fail c (room (n+1+out.length:Nat) (13-k))):=⟨h60,fun h'=>QB c (by unfold room; rw [if_pos (by rw [h']; rfl)]; decide)⟩;have h1:=hr _ n _ hst;exact ⟨hst,by have:=h1.1; simp only [stS,List.length_append]; omega,fun h'=>h1.2 (by simp only [stS,List.length_append] at h'; omega)⟩
theorem QgQ:∀ (k n:Nat) (par:Int) (c:Cur),StartS n c -> FewS n (stR k n par c).1 (stR k n par c).2
 | 0,n,par,c,h => Qhf n (fun d => To.refl d) (fun _ h => h) par c h
 | k + 1,n,par,c,h => Qhf n (fun d => Qbn (QeF (Z6 k) k n) d []) (fun _d hd => Zw (q:=qS) (st:=stS (stR k) k n) (FewS (n + 1)) (fun _c' _o hq ho => (few_stS (QgQ k) hq ho).2) hd) par c h
end SynSpec
end
section
namespace ShapeSpec
structure Sh where
 kind:Int
 par:Int
def par (l:List Sh) (i:Nat):Int:=(l[i]?).elim (-1) (·.par)
def kind (l:List Sh) (i:Nat):Int:=(l[i]?).elim 0 (·.kind)
theorem Qf6 {l:List Sh} {i:Nat} {s:Sh} (h:l[i]?=some s):par l i=s.par:=by simp [par,h]
theorem QdJ {l:List Sh} {i:Nat} {s:Sh} (h:l[i]?=some s):kind l i=s.kind:=by simp [kind,h]
def upF (l:List Sh):Nat -> Nat -> List Nat
 | 0,_ => []
 | f + 1,i => if 0 <= par l i /\ par l i < i then (par l i).toNat :: upF l f (par l i).toNat else []
theorem Qg7 (l:List Sh):∀ f g i,i <= f -> i <= g -> upF l f i = upF l g i
 | 0,0,_,_,_ => rfl
 | 0,g + 1,i,h,_ => by
   obtain rfl:i=0:=by omega
   rw [upF,upF,if_neg (by omega)]
 | f + 1,0,i,_,h => by
   obtain rfl:i=0:=by omega
   rw [upF,upF,if_neg (by omega)]
 | f + 1,g + 1,i,hf,hg => by
   rw [upF,upF]
   split
   ·rw [Qg7 l f g _ (by omega) (by omega)]
   ·rfl
def up (l:List Sh) (i:Nat):List Nat:=upF l i i
theorem Qdg {l:List Sh} {i:Nat} (h:¬ (0 <= par l i /\ par l i < i)):up l i = []:=by
 unfold up
 cases i with
 | zero => rfl
 | succ i => rw [upF,if_neg h]
theorem Qef {l:List Sh} {i:Nat} (h0:0 <= par l i) (h1:par l i < i):up l i = (par l i).toNat :: up l (par l i).toNat:=by
 unfold up
 cases i with
 | zero => omega
 | succ i => rw [upF,if_pos ⟨h0,h1⟩,Qg7 l i _ _ (by omega) (Nat.le_refl _)]
def sf (l:List Sh) (i:Nat):List Nat:=i::up l i
theorem Qfm {l:List Sh} {i:Nat} (h0:0<=par l i) (h1:par l i<i):up l i=sf l (par l i).toNat:=Qef h0 h1
theorem QfE {l:List Sh} {i p:Nat} (h:par l i = p) (h1:p < i):up l i = sf l p:=by
 rw [Qfm (by omega) (by omega),h]
 rfl
theorem Qfr {l:List Sh}:∀ {i j:Nat},j ∈ up l i -> j < i:=by
 intro i
 induction i using Nat.strongRecOn with
 | ind i ih =>
   intro j h
   by_cases hp:0<=par l i/\par l i<i
   ·rw [Qef hp.1 hp.2,List.mem_cons] at h
    rcases h with rfl | h
    ·omega
    ·have:=ih _ (by omega) h
     omega
   ·rw [Qdg hp] at h
    simp at h
theorem Qaf {l:List Sh} {i j:Nat} (h:j ∈ sf l i):j <= i:=by
 rcases List.mem_cons.1 h with rfl | h
 ·omega
 ·exact Nat.le_of_lt (Qfr h)
theorem Zv (l:List Sh) (i:Nat):i∈sf l i:=List.mem_cons_self ..
theorem QaS {l:List Sh} {i j:Nat} (h:j ∈ sf l i) (hne:j ≠ i):j ∈ up l i:=by
 rcases List.mem_cons.1 h with rfl | h
 ·exact absurd rfl hne
 ·exact h
theorem Qde {l:List Sh} {i j:Nat} (h:j∈up l i):j∈sf l i:=List.mem_cons_of_mem _ h
theorem Qd2 {l:List Sh}:∀ {i j m:Nat},j ∈ sf l i -> m ∈ sf l i -> m <= j -> m ∈ sf l j:=by
 intro i
 induction i using Nat.strongRecOn with
 | ind i ih =>
   intro j m hj hm hle
   by_cases hji:j=i
   ·subst hji
    exact hm
   ·have hj':=QaS hj hji
    have hlt:=Qfr hj';have hm':=QaS hm (by omega)
    by_cases hp:0<=par l i/\par l i<i
    ·rw [Qfm hp.1 hp.2] at hj' hm'
     exact ih _ (by omega) hj' hm' hle
    ·rw [Qdg hp] at hj'
     simp at hj'
theorem sf_sub {l:List Sh}:∀ {i j m:Nat},j ∈ sf l i -> m ∈ sf l j -> m ∈ sf l i:=by
 intro i
 induction i using Nat.strongRecOn with
 | ind i ih =>
   intro j m hj hm
   by_cases hji:j=i
   ·subst hji
    exact hm
   ·have hj':=QaS hj hji
    by_cases hp:0<=par l i/\par l i<i
    ·rw [Qfm hp.1 hp.2] at hj'
     refine Qde ?_;rw [Qfm hp.1 hp.2];exact ih _ (by omega) hj' hm
    ·rw [Qdg hp] at hj'
     simp at hj'
theorem JX (l:List Sh):∀ i,(up l i).length <= i:=by
 intro i
 induction i using Nat.strongRecOn with
 | ind i ih =>
   by_cases hp:0<=par l i/\par l i<i
   ·rw [Qef hp.1 hp.2,List.length_cons]
    have:=ih (par l i).toNat (by omega);omega
   ·rw [Qdg hp]
    simp
def hangB (l:List Sh) (i:Nat):Bool :=
 if i=0 then decide (par l i = -1) else decide (0<=par l i)&&decide (par l i<i)&&decide (kind l (par l i).toNat≠1)&&decide ((par l i).toNat∈sf l (i-1))
def goodB (l:List Sh) (i:Nat):Bool:=decide (1<=kind l i)&&decide (kind l i<=3)&&hangB l i
def standB (l:List Sh):Bool:=decide (0<l.length)&&(List.range l.length).all (goodB l)
def deepB (l:List Sh):Bool:=(List.range l.length).any fun i=>decide (11<(up l i).length)
def chk (l:List Sh):Int:=if 60<l.length then 8 else if standB l=false then 1 else if deepB l=true then 6 else 0
def SU (l:List Sh) (n:Nat):Prop:=∀ i,i<n->goodB l i=true
theorem SU.zero (l:List Sh):SU l 0:=fun _ h=>absurd h (by omega)
theorem SU.next {l:List Sh} {n:Nat} (h:SU l n) (hg:goodB l n = true):SU l (n + 1):=fun i hi => by
 by_cases e:i=n
 ·rw [e]; exact hg
 ·exact h i (by omega)
theorem SU.mono {l:List Sh} {n m:Nat} (h:SU l n) (hm:m<=n):SU l m:=fun i hi=>h i (by omega)
theorem SU.root {l:List Sh} {n:Nat} (h:SU l n) (hn:0 < n):par l 0 = -1:=by
 have:=h 0 hn;simp [goodB,hangB] at this;exact this.2
theorem SU.par {l:List Sh} {n i:Nat} (h:SU l n) (hi:i < n) (h0:0 < i):0 <= par l i /\ par l i < i /\ (par l i).toNat ∈ sf l (i - 1):=by
 have:=h i hi;have e:i≠0:=by omega
 simp [goodB,hangB,e] at this;exact ⟨this.2.1.1.1,this.2.1.1.2,this.2.2⟩
theorem SU.parn {l:List Sh} {n i:Nat} (h:SU l n) (hi:i < n) (h0:0 < i):∃ p:Nat,ShapeSpec.par l i = p /\ p < i /\ up l i = sf l p /\ p ∈ sf l (i - 1):=by
 obtain ⟨a,b,c⟩:=h.par hi h0;exact ⟨(ShapeSpec.par l i).toNat,by omega,by omega,Qfm a b,c⟩
theorem Qa7 {l:List Sh} (h:standB l = true):0 < l.length /\ SU l l.length:=by
 simp [standB] at h;refine ⟨?_,fun i hi=>h.2 i hi⟩
 cases l with
 | nil => simp at h
 | cons => simp
theorem Qhb {l:List Sh} (h0:0 < l.length) (h:SU l l.length):standB l = true:=by
 simp only [standB,Bool.and_eq_true,decide_eq_true_eq,List.all_eq_true,List.mem_range];exact ⟨h0,h⟩
theorem stand_not {l:List Sh} {i:Nat} (hi:i < l.length) (h:goodB l i = false):standB l = false:=by
 cases hs:standB l with
 | false => rfl
 | true => rw [(Qa7 hs).2 i hi] at h; cases h
theorem ZE {l:List Sh} (h:chk l = 0):l.length <= 60 /\ standB l = true /\ ∀ i,i < l.length -> (up l i).length <= 11:=by
 unfold chk at h
 split at h
 ·cases h
 ·split at h
  ·cases h
  ·split at h
   ·cases h
   ·rename_i h1 h2 h3
    refine ⟨by omega,by simpa using h2,fun i hi=>?_⟩;simp only [deepB,Bool.not_eq_true,List.any_eq_false,List.mem_range,decide_eq_true_eq] at h3;exact Nat.le_of_not_lt (h3 i hi)
theorem chk_su {l:List Sh} (h:chk l=0):SU l l.length:=(Qa7 (ZE h).2.1).2
def kidsTo (l:List Sh) (i n:Nat):List Int:=((List.range n).filter fun k=>decide (par l k=i)).map Int.ofNat
def kids (l:List Sh) (i:Nat):List Int:=kidsTo l i l.length
theorem Qiv {l:List Sh} {i n:Nat} (h:par l n=i):kidsTo l i (n+1)=kidsTo l i n++[(n:Int)]:=by simp [kidsTo,List.range_succ,List.filter_append,h]
theorem kids_no {l:List Sh} {i n:Nat} (h:par l n≠i):kidsTo l i (n+1)=kidsTo l i n:=by simp [kidsTo,List.range_succ,List.filter_append,h]
theorem Qgl (l:List Sh) (i n:Nat):(kidsTo l i n).length <= n:=by
 unfold kidsTo;rw [List.length_map];have:=List.length_filter_le (fun k=>decide (par l k=i)) (List.range n)
 simpa using this
def upI (l:List Sh) (i:Nat):List Int:=(up l i).map Int.ofNat
def sfI (l:List Sh) (i:Nat):List Int:=(sf l i).map Int.ofNat
theorem J6 (l:List Sh) (i:Nat):(upI l i).length=(up l i).length:=by simp [upI]
theorem QiH (l:List Sh) (i:Nat):(sfI l i).length=(up l i).length+1:=by simp [sfI,sf]
theorem sfI_cons (l:List Sh) (i:Nat):sfI l i=[(i:Int)]++upI l i:=rfl
theorem mem_ints {a:List Nat} {j:Nat}:(j:Int) ∈ a.map Int.ofNat ↔ j ∈ a:=by
 rw [List.mem_map]
 constructor
 ·rintro ⟨x,hx,e⟩
  obtain rfl:x=j:=Int.ofNat.inj e;exact hx
 ·exact fun h=>⟨j,h,rfl⟩
theorem upI_mem {l:List Sh} {i j:Nat}:(j:Int)∈upI l i↔j∈up l i:=mem_ints
theorem sfI_get {l:List Sh} {i k:Nat} {x:Nat} (h:(sf l i)[k]?=some x):(sfI l i)[k]?=some (x:Int):=by simp [sfI,h]
def endTo (l:List Sh) (i:Nat):Nat -> Nat
 | 0 => i + 1
 | k + 1 => if i ∈ up l k then k + 1 else endTo l i k
def endOf (l:List Sh) (i:Nat):Nat:=endTo l i l.length
theorem QhH {l:List Sh} {i:Nat}:∀ n,i < endTo l i n
 | 0 => by rw [endTo]; omega
 | n + 1 => by
   rw [endTo]
   split
   ·have:=Qfr ‹_›
    omega
   ·exact QhH n
theorem Qhs {l:List Sh} {i:Nat}:∀ {n},endTo l i n <= max (i + 1) n
 | 0 => by rw [endTo]; omega
 | n + 1 => by
   rw [endTo]
   split
   ·omega
   ·have:=Qhs (l:=l) (i:=i) (n:=n)
    omega
theorem QfP {l:List Sh} {i k:Nat} (h:i ∈ up l k):∀ {n},k < n -> k < endTo l i n
 | 0,hk => absurd hk (by omega)
 | n + 1,hk => by
   rw [endTo]
   split
   ·omega
   ·rename_i hn
    have:k≠n:=by rintro rfl; exact hn h
    exact QfP h (by omega)
theorem Qd6 {l:List Sh} {i:Nat}:∀ {n},endTo l i n = i + 1 \/ i ∈ up l (endTo l i n - 1) /\ endTo l i n <= n
 | 0 => .inl rfl
 | n + 1 => by
   rw [endTo]
   split
   ·exact .inr ⟨by simpa using ‹i∈up l n›,Nat.le_refl _⟩
   ·rcases Qd6 (l:=l) (i:=i) (n:=n) with h | ⟨h,h'⟩
    ·exact .inl h
    ·exact .inr ⟨h,by omega⟩
theorem Qjz {l:List Sh} {n i k:Nat} (h:SU l n) (hk:k < n) (hi:i < k) (hno:i ∉ sf l (k - 1)):i ∉ up l k:=by
 obtain ⟨p,hp,hlt,hup,hin⟩:=h.parn hk (by omega);rw [hup];exact fun hm=>hno (sf_sub hin hm)
theorem Qjg {l:List Sh} {n i e:Nat} (h:SU l n) (hi:i < e) (hno:i ∉ up l e):∀ k,e <= k -> k < n -> i ∉ up l k:=by
 intro k
 induction k with
 | zero => intro h1 _; omega
 | succ k ih =>
   intro h1 h2
   by_cases e1:e=k+1
   ·rw [<- e1]
    exact hno
   ·have hk:=ih (by omega) (by omega)
    refine Qjz h h2 (by omega) fun hm=>hk (QaS (by simpa using hm) (by omega))
theorem J9 {l:List Sh} {i:Nat} (hi:i < l.length):i < endOf l i /\ endOf l i <= l.length:=by
 refine ⟨QhH _,?_⟩;have:=Qhs (l:=l) (i:=i) (n:=l.length);unfold endOf;omega
theorem Zo {l:List Sh} {i k:Nat} (h:SU l l.length) (hi:i < l.length) (hk:k < l.length):i ∈ sf l k ↔ i <= k /\ k < endOf l i:=by
 constructor
 ·intro hm
  refine ⟨Qaf hm,?_⟩
  by_cases e:i=k
  ·rw [<- e]
   exact (J9 hi).1
  ·exact QfP (QaS hm e) hk
 ·rintro ⟨h1,h2⟩
  rcases Classical.em (i∈sf l k) with hm | hm
  ·exact hm
  ·exfalso
   have hne:i≠k:=by rintro rfl; exact hm (Zv _ _)
   have hno:i∉up l k:=fun hu=>hm (Qde hu)
   rcases Qd6 (l:=l) (i:=i) (n:=l.length) with e | ⟨e,e'⟩
   ·have:endOf l i = i + 1:=e
    omega
   ·have hlt:k < endTo l i l.length:=h2
    exact Qjg h (by omega) hno (endTo l i l.length-1) (by omega) (by omega) e
def meet (l:List Sh) (i k:Nat):Int:=((sf l i).find? fun a=>decide (a∈sf l k)).elim (-1) Int.ofNat
end ShapeSpec
end
section
open Go.RowKit CurSpec TermSpec ExprSpec NamesSpec
set_option maxRecDepth 100000
theorem Qfu {rec:Cur -> Int -> Pa} {c:Cur} (h:(atom rec c).1.bad = 0):c.bad = 0:=by
 by_cases h0:c.bad=0
 ·exact h0
 ·have e:atom rec c = (nameC c,[⟨2,0,nameS c⟩]):=by
   unfold atom;rw [if_neg (by rw [J8 h0]; decide),if_neg (by rw [QP _ _ h0]; decide),if_neg (by rw [QP _ _ h0]; decide),if_neg (by rw [QP _ _ h0]; decide),if_neg (by rw [QP _ _ h0]; decide),if_neg (by rw [QP _ _ h0]; decide),if_neg (by rw [QP _ _ h0]; decide)]
  rw [e] at h;have:=(ZM h).1;rw [QaQ h0] at this
  cases this
theorem Qir {f:Nat} {c:Cur} (hP:c.bad = 0 -> PartOk f) (ok:Ok c) (hf:Fit (f + 1) c) {W:World} {R B:Nat} {v:Value} {pre:List Tm} {x:List Tm} {v1:Value} {l1:List Tm} {w:World} (h:Mid W R B v pre c x v1 l1 w) :
 Calls Tryz.prog 192 #[.pointer (some ⟨R,0,none⟩)] w fun e w'=>∃ v2 l2,e = .returned (.tuple #[])/\Mid W R B v pre (atom (S f) c).1 (x++(atom (S f) c).2) v2 l2 w':=by
 refine (last_step f c hP ok hf R B v1 l1 w h.sig h.rd).mono ?_;rintro e w' ⟨v2,l2,rfl,hr,hc,hh⟩;exact ⟨v2,l2,rfl,h.part Qfu hr hc hh⟩
theorem head_step (f:Nat) (c:Cur) (hP:c.bad = 0 -> PartOk f) (ok:Ok c) (hf:Fit (f + 1) c) (R B:Nat) (v:Value) (l:List Tm) (k:Int) (w:World) (hs:SignsIn w) (h:RdAt w R B v c l) :
 Calls Tryz.prog 182 #[.pointer (some ⟨R,0,none⟩),.int .i64 k] w (RetHead w R B v l (hd (S f) c k)):=by
 have HP:=qh hP;have H0:=qh (Mid.start hs h);have r0:=H0.o.cell;have HOK:=qh ok;have HF:=qh hf
 have HFO:Hid (∀ {k:Int} {s:ByteArray},isB c k s = true -> k ≠ 0 -> Fit f (on c)):=qh (fun hb hk _ => by
  have:=Qv hb hk;have:=hf this.1;omega)
 clear hs h ok hf hP
 by_cases hn:k<=3/\isB c 1 tNot=true
 ·have HE:Hid (hd (S f) c k = (((S f (on c) 3).1,opT 12 :: (S f (on c) 3).2),3)):=qh (if_pos hn)
  have HPG:=qh (HP.o (Qr hn.2).1);have HFG:=qh (HFO.o hn.2 (by decide));have HB:=qh hn.2;have hk:=hn.1;clear hn;go_enter Tryz.func182,Tryz.ntmps182;go_wp2_with (go_at_call 46; go_fit (JV H0.o (k:=1) (s:=tNot) HB.o));rintro e w1 ⟨rfl,M1⟩;have H1:=qh M1;clear M1 r0;go_wp2_with (go_at_call 191; go_fit (add_mid H1.o 12 0 ⟨#[]⟩ (by decide)));rintro e w2 ⟨v2,l2,rfl,M2⟩;have H2:=qh M2;clear M2;go_wp2_with (go_at_call 174; go_fit (Qaz HPG.o H2.o 3 HOK.o.on HFG.o));rintro e w3 ⟨v3,l3,rfl,M3⟩;have H3:=qh M3;clear M3;go_wp2_with fail;go_ret;exact H3.o.head HE.o
 ·have hX:∃ X:Prop,X:=⟨True,trivial⟩
  by_cases hk:k<=3
  ·have hnb:isB c 1 tNot = false:=by simpa using fun h => hn ⟨hk,h⟩
   have HNB:=qh hnb
   by_cases hg:isB c 3 tNeg=true
   ·have HE:Hid (hd (S f) c k = (((S f (on c) 7).1,opT 3 :: (S f (on c) 7).2),7)):=qh (by unfold hd; rw [if_neg hn,if_pos hg])
    have HPG:=qh (HP.o (Qr hg).1);have HFG:=qh (HFO.o hg (by decide));have HB:=qh hg;clear hn hnb hg hX;go_enter Tryz.func182,Tryz.ntmps182;go_wp2_with (go_at_call 46; go_fit (QU H0.o (k:=1) (s:=tNot) HNB.o));rintro e w1 ⟨rfl,M1⟩;have H1:=qh M1;have r1:=M1.cell;clear M1 r0;go_wp2_with (go_at_call 46; go_fit (JV H1.o (k:=3) (s:=tNeg) HB.o));rintro e w2 ⟨rfl,M2⟩;have H2:=qh M2;clear M2 r1;go_wp2_with (go_at_call 191; go_fit (add_mid H2.o 3 0 ⟨#[]⟩ (by decide)));rintro e w3 ⟨v3,l3,rfl,M3⟩;have H3:=qh M3;clear M3;go_wp2_with (go_at_call 174; go_fit (Qaz HPG.o H3.o 7 HOK.o.on HFG.o));rintro e w4 ⟨v4,l4,rfl,M4⟩;have H4:=qh M4;clear M4;go_wp2_with fail;go_ret;exact H4.o.head HE.o
   ·have HE:Hid (hd (S f) c k = (atom (S f) c,8)):=qh (by unfold hd; rw [if_neg hn,if_neg hg])
    have hgb:isB c 3 tNeg=false:=by simpa using hg
    have HGB:=qh hgb;clear hn hnb hg hgb hX;go_enter Tryz.func182,Tryz.ntmps182;go_wp2_with (go_at_call 46; go_fit (QU H0.o (k:=1) (s:=tNot) HNB.o));rintro e w1 ⟨rfl,M1⟩;have H1:=qh M1;have r1:=M1.cell;clear M1 r0;go_wp2_with (go_at_call 46; go_fit (QU H1.o (k:=3) (s:=tNeg) HGB.o));rintro e w2 ⟨rfl,M2⟩;have H2:=qh M2;clear M2 r1;go_wp2_with (go_at_call 192; go_fit (Qir HP.o HOK.o HF.o H2.o));rintro e w3 ⟨v3,l3,rfl,M3⟩;have H3:=qh M3;clear M3;go_wp2_with fail;go_ret;exact H3.o.head HE.o
  ·have hkf:decide (k <= 3) = false:=decide_eq_false hk
   by_cases hg:isB c 3 tNeg=true
   ·have HE:Hid (hd (S f) c k = (((S f (on c) 7).1,opT 3 :: (S f (on c) 7).2),7)):=qh (by unfold hd; rw [if_neg hn,if_pos hg])
    have HPG:=qh (HP.o (Qr hg).1);have HFG:=qh (HFO.o hg (by decide));have HB:=qh hg;clear hn hg hX;go_enter Tryz.func182,Tryz.ntmps182;go_wp2_with (go_at_call 46; go_fit (JV H0.o (k:=3) (s:=tNeg) HB.o))
    (first | rintro e w2 rfl M2 | rintro e w2 ⟨rfl,M2⟩)
    have H2:=qh M2;clear M2 r0;go_wp2_with (go_at_call 191; go_fit (add_mid H2.o 3 0 ⟨#[]⟩ (by decide)));rintro e w3 ⟨v3,l3,rfl,M3⟩;have H3:=qh M3;clear M3;go_wp2_with (go_at_call 174; go_fit (Qaz HPG.o H3.o 7 HOK.o.on HFG.o));rintro e w4 ⟨v4,l4,rfl,M4⟩;have H4:=qh M4;clear M4;go_wp2_with fail;go_ret;exact H4.o.head HE.o
   ·have HE:Hid (hd (S f) c k = (atom (S f) c,8)):=qh (by unfold hd; rw [if_neg hn,if_neg hg])
    have hgb:isB c 3 tNeg=false:=by simpa using hg
    have HGB:=qh hgb;clear hn hg hgb hX;go_enter Tryz.func182,Tryz.ntmps182;go_wp2_with (go_at_call 46; go_fit (QU H0.o (k:=3) (s:=tNeg) HGB.o))
    (first | rintro e w2 rfl M2 | rintro e w2 ⟨rfl,M2⟩)
    have H2:=qh M2;clear M2 r0;go_wp2_with (go_at_call 192; go_fit (Qir HP.o HOK.o HF.o H2.o));rintro e w3 ⟨v3,l3,rfl,M3⟩;have H3:=qh M3;clear M3;go_wp2_with fail;go_ret;exact H3.o.head HE.o
def PtRel (W:World) (R B:Nat) (v:Value) (pre:List Tm) (q:Int) (f:Nat) (G:Prop) (P:Pa) (g:Nat) (i:Value) (wr:World):Prop :=
 ∃ lev c x v1 l1 k,i = .int .i64 lev/\Mid W R B v pre c x v1 l1 wr/\Ok c/\Fit k c/\k<=f/\(c.bad=0->G)/\C k lev q c x=P/\k=g
theorem hd_good {rec:Cur -> Int -> Pa} {c:Cur} {q:Int} (hb:(hd rec c q).1.1.bad = 0):c.bad = 0:=by
 by_cases h0:c.bad=0
 ·exact h0
 ·have e:hd rec c q = (atom rec c,8):=by
   unfold hd;rw [if_neg (by rw [QP _ _ h0]; simp),if_neg (by rw [QP _ _ h0]; decide)]
  rw [e] at hb;exact Qfu hb
theorem sg_hold {w w':World} {R B:Nat} {v v':Value} {i:Nat} {o:Obj} (h:w.heap[i]? = some o) (hne:i ≠ B /\ i ≠ R /\ v.ownBlock ≠ some i) (hh:Hold R B v v' w w'):w'.heap[i]? = some o /\ i ≠ B /\ i ≠ R /\ v'.ownBlock ≠ some i:=by
 have hi:=(Array.getElem?_eq_some_iff.1 h).1;exact ⟨(hh.block i hi hne.1 hne.2.1 hne.2.2).trans h,hne.1,hne.2.1,hh.apart hi hne.2.2⟩
theorem Qfx (f:Nat) (c:Cur) (hP:c.bad = 0 -> ∀ g,g <= f -> PartOk g) (ok:Ok c) (hf:Fit (f + 1) c) (R B:Nat) (v:Value) (l:List Tm) (q:Int) (w:World) (hs:SignsIn w) (h:RdAt w R B v c l) :
 Calls Tryz.prog 174 #[.pointer (some ⟨R,0,none⟩),.int .i64 q] w (RetPart w R B v l (C f (hd (S f) c q).2 q (hd (S f) c q).1.1 (hd (S f) c q).1.2)):=by
 obtain ⟨A,cp,rfl⟩:=QR h.own;obtain ⟨r0,r1⟩:=QC h.blk;obtain ⟨n,hn⟩:∃ n,n=l.length:=⟨_,rfl⟩;have HH:=qh (head_step f c (fun h0=>hP h0 f (Nat.le_refl _)) ok hf R B _ l q w hs h)
 have HD:Hid (Ok (hd (S f) c q).1.1 /\ Fit f (hd (S f) c q).1.1 /\ ((hd (S f) c q).1.1.bad = 0 -> c.bad = 0)):=qh (by
  refine ⟨inv_ok.hd (fun c k h=>ok_S f k h) ok q,fun hb=>?_,hd_good⟩;exact (hf.fitHd (hd_good hb) q) hb)
 obtain ⟨D,hD⟩:∃ D,D=hd (S f) c q:=⟨_,rfl⟩;rw [<- hD] at HH HD ⊢;obtain ⟨P,hPp⟩:∃ P,P=C f D.2 q D.1.1 D.1.2:=⟨_,rfl⟩;have HPP:=qh hPp;rw [<- hPp];have HN:=qh hn;rw [<- hn] at HH r1;have HP:=qh hP;have HS:=qh hs;have HR:=qh h;clear hn hD hPp hP ok hf hs h;go_enter Tryz.func174,Tryz.ntmps174;go_wp2_with (go_at_call 182; go_fit HH.o);rintro e w1 ⟨v1,l1,rfl,hr1,hc1,hh1⟩;have H1:Hid (Mid w R B (.slice A n cp) l D.1.1 D.1.2 v1 l1 w1):=qh ⟨hr1,hc1,hh1,HS.o.hold (by rw [HN.o]; exact HR.o) hh1⟩;clear hr1 hc1 hh1 r0 r1;go_wp2_with fail
 go_loopg [5] f (fun g i wr=>PtRel w R B (.slice A n cp) l q f (c.bad=0) P g i wr)
 case atStart=>exact ⟨D.2,D.1.1,D.1.2,v1,l1,f,rfl,H1.o,HD.o.1,HD.o.2.1,Nat.le_refl _,HD.o.2.2,HPP.o.symm,rfl⟩
 case round =>
  obtain ⟨lev,d,x,v2,l2,k,rfl,M2,okd,fd,hle,hG,hC,hk⟩:=hrel;have HK:=qh hk;clear hk;have HB:=qh (Qi3 R B v2 d l2 lev q wr M2.sig M2.rd);have H2:=qh M2;have HOK:=qh okd;have HC:=qh hC
  cases hs:sgn d lev q with
  | none =>
    rw [hs] at HB;have HE:=qh (QY k x hs);clear M2 okd fd hle hC hs hG;go_wp2_with (go_at_call 183; go_fit HB.o);rintro e x3 ⟨s,b,y,rfl,⟨rfl,rfl,rfl⟩,hr3,hb3⟩;have H3:=qh (H2.o.cur hr3.cur hb3 id);clear hr3 hb3;go_wp2_with fail
    go_end0
    have hnl:=HN.o;subst hnl;exact (H3.o.alloc _).ret (HC.o.symm.trans HE.o)
  | some s =>
    rw [hs] at HB;have hd0:=Qet hs
    cases k with
    | zero => exact absurd hd0 fd.zero
    | succ g =>
      have HE:=qh (J2 g x hs);have HFO:=qh (fd.fitOn hs);have HFS:=qh (fd.fitStep hs s.right);have HG:=qh (hG hd0);have HPG:=qh (HP.o (hG hd0) g (by omega));have HLE:=qh hle;clear M2 okd fd hle hC hs hG hd0;go_wp2_with (go_at_call 183; go_fit HB.o);rintro e x3 ⟨s',b,y,rfl,⟨rfl,rfl,rfl⟩,hr3,hb3⟩;have H3:=qh (H2.o.cur hr3.cur hb3 (fun h=>by rw [(JL d).1] at h; exact h));have HAP:=qh (H3.o.rd.apart (Nat.le_refl _));obtain ⟨s0,s1,s2,s3,s4⟩:=JP (heap_alloc_new x3 (sgO s'))
      have HINS:Hid (Calls Tryz.prog 184 #[.pointer (some ⟨R,0,none⟩),.int .i64 n,.agg #[.int .i64 s'.op,.int .i64 0,.string ⟨#[]⟩]] (x3.alloc (sgO s')) (RetRd (x3.alloc (sgO s')) R B v2 (on d) (ins l2 l.length (opT s'.op)))):=qh (by
       rw [HN.o];exact QfV R B v2 (on d) l2 l.length (opT s'.op) _ (H3.o.alloc _).rd H3.o.cap.1 (show (⟨#[]⟩:ByteArray).size<=9223372036854775807 by decide))
      clear hr3 hb3;go_wp2_with (go_at_call 184; go_fit HINS.o);rintro e x4 ⟨v4,rfl,hr4,hh4⟩;have H4:=qh ((H3.o.alloc (sgO s')).ins (opT s'.op) hr4 hh4);have HK4:=qh (sg_hold (heap_alloc_new x3 (sgO s')) HAP.o hh4);obtain ⟨t0,t1,t2,t3,t4⟩:=JP HK4.o.1;have HPT:=qh (HPG.o R B v4 (on d) (ins l2 l.length (opT s'.op)) s'.right x4 H4.o.sig H4.o.rd HOK.o.on HFO.o);clear hr4 hh4 s0 s1 s2 s3 s4;go_wp2_with (go_at_call 174; go_fit HPT.o);rintro e x5 ⟨v5,l5,rfl,hr5,hc5,hh5⟩;have H5:=qh (H4.o.part (Q5 g (on d) s'.right).2 hr5 hc5 hh5);obtain ⟨u0,u1,u2,u3,u4⟩:=JP (sg_hold HK4.o.1 HK4.o.2 hh5).1;clear hr5 hc5 hh5 t0 t1 t2 t3 t4;go_wp2_with fail
      go_roundg g
      case rel=>exact ⟨s'.lev,_,_,v5,l5,g,rfl,H5.o,ok_S g _ HOK.o.on,HFS.o,by have:=HLE.o; omega,fun _=>HG.o,by rw [<- HC.o,HE.o]; rfl,rfl⟩
      case measure=>have:=HK.o; omega
theorem part_ok:∀ f,PartOk f:=by
 intro f
 induction f using Nat.strongRecOn with
 | ind f ih =>
   intro R B v c l q w hs h ok hf
   by_cases h0:c.bad=0
   ·cases f with
    | zero => exact absurd h0 hf.zero
    | succ f =>
      rw [ZI f q h0];exact Qfx f c (fun _ g hg=>ih g (by omega)) ok hf R B v l q w hs h
   ·rw [Z5 f q h0]
    refine (Qfx 0 c (fun h=>absurd h h0) ok (fun h=>absurd h h0) R B v l q w hs h).mono ?_;rintro e w' ⟨v',l',rfl,hr,hc,hh⟩
    have e1:(C 0 (hd (S 0) c q).2 q (hd (S 0) c q).1.1 (hd (S 0) c q).1.2).1 = c:=by
     show (hd (S 0) c q).1.1=c
     have e:hd (S 0) c q = (atom (S 0) c,8):=by
      unfold hd;rw [if_neg (by rw [QP _ _ h0]; simp),if_neg (by rw [QP _ _ h0]; decide)]
     rw [e]
     show (atom (S 0) c).1=c
     unfold atom;rw [if_neg (by rw [J8 h0]; decide),if_neg (by rw [QP _ _ h0]; decide),if_neg (by rw [QP _ _ h0]; decide),if_neg (by rw [QP _ _ h0]; decide),if_neg (by rw [QP _ _ h0]; decide),if_neg (by rw [QP _ _ h0]; decide),if_neg (by rw [QP _ _ h0]; decide)]
     show nameC c=c
     unfold nameC;rw [if_neg (by rw [QaQ h0]; decide)];exact Jo _ h0
    rw [e1] at hr hc;exact ⟨v',l',rfl,hr,hc.dead h0,hh⟩
end
section
open Go.RowKit TermSpec
set_option maxRecDepth 100000
theorem max_if (a b:Int):max a b=if a<b then b else a:=by split<;>omega
def DeepRel (bs:List Int) (n:Nat) (v i:Value):Prop:=∃ k:Nat,k<=n/\i = .int .i64 k/\v = .int .i64 (deepest (bs.take k))
theorem QiZ (o:Int) (v:Value) (bs:List Int) (w:World) (h:Rd w v (intV bs)) (hm:bs.length <= 4611686018427387903) (hb:∀ b ∈ bs,b <= 4611686018427387903) :
 Calls Tryz.prog 186 #[.int .i64 o,v] w (SameI w (depF o bs)):=by
 obtain ⟨A,n,c,rfl,hn,hc,hA⟩:=h.ints;have HA:=qh hA;have HN:=qh hn;have HB:=qh hb;have hm':n<=4611686018427387903:=by omega
 clear hA hn h hc hm hb;go_enter Tryz.func186,Tryz.ntmps186;go_wp2_with fail
 go_loop [5,7,10] (fun v _ i=>DeepRel bs n v i) (fun _ _ i=>n-(intOf i).toNat)
 case atStart=>exact ⟨0,Nat.zero_le _,rfl,rfl⟩
 case round =>
  obtain ⟨k,hk,rfl,rfl⟩:=hrel;obtain ⟨g0,g1⟩:=QbR (B:=4611686018427387903) (by omega) (bs.take k) (fun b h=>HB.o b (List.mem_of_mem_take h))
  by_cases hlt:k<n
  ·obtain ⟨b,off,rfl,hb,hcell⟩:=HA.o (by omega)
   obtain ⟨x,hx⟩:∃ x,bs[k]?=some x:=Qp (by have:=HN.o; omega);have hck:=hcell k x hx;have HS:Hid (deepest (bs.take (k+1))=if deepest (bs.take k)<x then x else deepest (bs.take k)):=qh (by rw [QA hx,Qcm]);obtain ⟨d,hd⟩:∃ d,d=deepest (bs.take k):=⟨_,rfl⟩;rw [<- hd] at HS g0 g1 ⊢;clear hcell hx hd;go_wp2_with fail
   go_round
   case rel=>exact ⟨k+1,hlt,by simp,by rw [HS.o,<- max_if]⟩
   case measure=>simp [intOf]; omega
  ·go_wp2_with fail
   go_ret;exact ⟨Qo (by rw [List.take_of_length_le (by rw [HN.o]; omega)]; rfl),rfl⟩
end
section
open Go.RowKit TermSpec
set_option maxRecDepth 100000
theorem Qdb {l:List Tm} {a q m k:Nat} (h:cnt q (l.drop (a + 1)) = some m) (hk:k < q) :
 ∃ x,(belows l a q)[k]?=some ((a+1+x:Nat):Int)/\0<=endA l ((a+1+x:Nat):Int)/\a+1+x<=max l.length (a+1)/\(∀ f,(stack f (l.drop (a+1))).take (k+1)=(stack f (l.drop (a+1))).take k++[come f (l.drop (a+1+x))]):=by
 have h':=h;rw [show q=(k+1)+(q-(k+1)) by omega] at h';obtain ⟨z,_,hz,_,_⟩:=Qao h';obtain ⟨x,y,hx,hy,_⟩:=Qao hz;have hle:=(QdQ hx).1;rw [List.length_drop] at hle;refine ⟨x,?_,?_,by omega,fun f=>?_⟩
 ·rw [QiR hk,hx]; rfl
 ·have:=(QbI h hk).1
  rw [hx] at this;simp only [Option.getD_some] at this;rw [this]; omega
 ·have:=Qdv (f:=f) hz hx
  rwa [List.drop_drop] at this
theorem come_at {f:Int->List Int->Int} {l:List Tm} {a:Nat} {t:Tm} (ht:l[a]?=some t):come f (l.drop a)=f t.op ((stack f (l.drop (a+1))).take (arN t.op)):=by rw [Qbd ht,come_cons]
def ComeRel (f:Int -> List Int -> Int) (W:World) (l:List Tm) (a q:Nat) (p i:Value) (wr:World):Prop :=
 ∃ k:Nat,k<=q/\i = .int .i64 k/\RowI W wr p ((stack f (l.drop (a+1))).take k)
def IHDep (A:Option Addr) (n c:Nat) (l:List Tm) (K:Nat):Prop:=∀ (a:Nat) (w:World),n<=a+K->Tms w (.slice A n c) l->0<=endA l a->Calls Tryz.prog 195 #[.slice A n c,.int .i64 a,.func (.func 186) #[] #[]] w (RetI w (come depF (l.drop a)))
theorem QgD (A:Option Addr) (n c:Nat) (l:List Tm) (K:Nat) (hn:n = l.length) (hn62:n <= 70368744177664) (ih:IHDep A n c l K) (a:Nat) (w:World) (hK:n <= a + (K + 1)) (h:Tms w (.slice A n c) l) (he:0 <= endA l a) :
 Calls Tryz.prog 195 #[.slice A n c,.int .i64 a,.func (.func 186) #[] #[]] w (RetI w (come depF (l.drop a))):=by
 obtain ⟨k0,m0,hk0,hc0,_,_,_⟩:=ZY he;obtain rfl:k0=a:=by omega
 obtain ⟨t,m,ht,h0,_,hm⟩:=Qcb hc0;have han:=Ja ht;have HT:=qh h;have HM:=qh hm;have HIH:=qh ih;have HBL:=qh (Qfy A n c l k0 w h hn hn62 t ht he);obtain ⟨b,off,rfl,hb,c0,-,-⟩:=h.at_ ht;have HCELL:=qh c0;have HCM:=qh (come_at (f:=depF) ht);have hq:=(Qdp t.op).2;have e0:=QaU h0;have hsl:=Qbl (f:=depF) hm
 have hdb:∀ b ∈ (stack depF (l.drop (k0 + 1))).take (arN t.op),b <= 4611686018427387903:=fun b hb => by
  have h1:=(ZV _ b (List.mem_of_mem_take hb)).2;rw [List.length_drop] at h1;omega
 have hdl:((stack depF (l.drop (k0+1))).take (arN t.op)).length<=4611686018427387903:=by rw [List.length_take]; omega
 have HDB:=qh (And.intro hdl hdb);clear hdb hdl;obtain ⟨o,ho⟩:∃ o,o=t.op:=⟨_,rfl⟩;rw [<- ho] at HBL HCELL HCM hq e0 HM hsl c0 HDB;obtain ⟨q,hqe⟩:∃ q,q=arN o:=⟨_,rfl⟩;rw [<- hqe] at HBL HCM e0 HM hsl HDB;have hq2:q<=2:=by omega
 have hal:k0<n:=by omega
 have hal':(k0:Int)<n:=by omega
 have hlen:l.length=n:=hn.symm;obtain ⟨i0,hi,hz0,hz1,hz2⟩:=info_parts QaK;have HI:=qh (And.intro hi (And.intro hz0 (And.intro hz1 hz2)));have HLEN:=qh hlen;have HSL:=qh hsl;clear ht ho hqe hn h hc0 hk0 hm he h0 e0 han hi hz0 hz1 hz2 hq c0 ih hlen hsl;go_enter Tryz.func195,Tryz.ntmps195;go_wp2_with (go_at_call 187; go_fit HBL.o);rintro e w1 ⟨v2,rfl,hr2,hb1⟩;obtain ⟨A2,n2,c2,rfl,hn2,hc2,hA2⟩:=hr2.ints;rw [Zh] at hn2;obtain rfl:q=n2:=hn2;have HA2:=qh hA2;have HB1:=qh hb1;clear hr2 hc2 hA2 hb1;go_wp2_with fail
 go_loopw [7,9,14] (fun p _ i wr=>ComeRel depF w1 l k0 q p i wr) (fun _ _ i _=>3-(intOf i).toNat)
 case atStart=>exact ⟨0,Nat.zero_le _,rfl,RowI.nil _ _ (Below.refl _ _)⟩
 case round =>
  obtain ⟨k,hk,rfl,hrow⟩:=hrel;have hbw:=Qa HB1.o hrow.2;have HR:=qh hrow;have HBW:=qh hbw;clear hrow hbw
  by_cases hlt:k<q
  ·obtain ⟨b2,off2,rfl,hb2,hcell⟩:=HA2.o (by omega)
   obtain ⟨x,hx,hex,hbx,hst⟩:=Qdb HM.o hlt;have hck:=(HR.o.2.cell (p:=⟨b2,off2+k,none⟩) (by exact hb2)).trans (hcell k _ hx);have HST:=qh (hst depF);rw [HLEN.o] at hbx;have HCI:=qh (HIH.o (k0+1+x) wr (by omega) (HT.o.keep HBW.o) hex);obtain ⟨y,hy⟩:∃ y,y=come depF (l.drop (k0+1+x)):=⟨_,rfl⟩;rw [<- hy] at HST HCI;obtain ⟨p,hp⟩:∃ p,p=k0+1+x:=⟨_,rfl⟩;rw [<- hp] at HCI hck;have hl:((stack depF (l.drop (k0+1))).take k).length=k:=by rw [List.length_take]; have:=HSL.o; omega
   have HL1:Hid (((stack depF (l.drop (k0+1))).take k).length+(intV [(y:Int)]).length<=maxLen):=qh (by rw [hl]; simp [maxLen]; omega);have HL2:Hid ((((stack depF (l.drop (k0+1))).take k).length+(intV [(y:Int)]).length)*8<=140737488355328):=qh (by rw [hl]; simp; omega);clear hx hex hbx hst hcell hl hy hp;go_wp2_with (go_at_call 195; go_fit HCI.o);rintro e w3 ⟨rfl,hb3⟩;have HR3:=qh (HR.o.keep hb3);have HRA:=qh HR3.o.1;have HSZ:Hid (w1.heap.size<=w3.heap.size):=qh HR3.o.2.size;clear hb3 hck;go_wp2_with (at_builtin; refine QK _ rfl (.tmp 18) (.tmp 23) _ rfl w1.heap.size 3 i0 (.int .i64 0) 8 Tryz.underlying67 HI.o.1 HI.o.2.1 HI.o.2.2.1 HI.o.2.2.2 rfl _ _ _ rfl (HRA.o.alloc _) _ (intV [(y:Int)]) rfl (Rd.lit (cs:=#[.int .i64 y]) rfl) (ZC _) HL1.o HL2.o ?_ ?_; (have:=HSZ.o; simp; omega); intro p2 w4 hrow2 hg2 _; have HR4:=qh (RowI.add HR3.o hrow2 hg2); clear hrow2 hg2)
   go_roundw
   case rel=>exact ⟨k+1,hlt,by simp,by rw [HST.o]; exact HR4.o⟩
   case measure=>simp [intOf]; omega
  ·obtain rfl:k = q:=by omega
   obtain ⟨A3,n3,c3,rfl,hn3⟩:∃ A n c,u7 = .slice A n c /\ True:=by
    obtain ⟨A,c,h⟩:=QR HR.o.1;exact ⟨A,_,c,h,trivial⟩
   have c0:wr.cell? ⟨b,off+k0*3,none⟩=some (.int .i64 o):=(HBW.o.cell (by exact hb)).trans HCELL.o;have HLT:=qh (QiZ o (.slice A3 n3 c3) _ wr HR.o.read HDB.o.1 HDB.o.2);go_wp2_with (go_at_call 186; go_fit HLT.o; rintro e w' ⟨rfl,rfl⟩);go_ret;exact ⟨Qo HCM.o.symm,HBW.o⟩
theorem QhI (A:Option Addr) (n c:Nat) (l:List Tm) (hn:n = l.length) (hn62:n <= 70368744177664) (K:Nat):IHDep A n c l K:=by
 induction K with
 | zero =>
   intro a w hK _ he;obtain ⟨k,m,hk,_,h1,h2,h3⟩:=ZY he;omega
 | succ K ih => exact fun a w hK h he => QgD A n c l K hn hn62 ih a w hK h he
theorem Qh4 (A:Option Addr) (n c:Nat) (l:List Tm) (hn:n = l.length) (hn62:n <= 70368744177664) (a:Nat) (w:World) (h:Tms w (.slice A n c) l) (he:0 <= endA l a) :
 Calls Tryz.prog 195 #[.slice A n c,.int .i64 a,.func (.func 186) #[] #[]] w (RetI w (come depF (l.drop a))):=QhI A n c l hn hn62 n a w (by omega) h he
end
section
open Go.RowKit TermSpec
set_option maxRecDepth 100000
def RDeepRel (W:World) (l:List Tm) (a q:Nat) (v i:Value) (wr:World):Prop :=
 ∃ k:Nat,k<=q/\i = .int .i64 k/\v = .int .i64 (deepest ((stack depF (l.drop (a+1))).take k))/\Below W.heap.size W wr
def RDIH (A:Option Addr) (n c:Nat) (l:List Tm) (K:Nat):Prop:=∀ (a:Nat) (w:World),n<=a+K->Tms w (.slice A n c) l->0<=endA l a->Calls Tryz.prog 169 #[.slice A n c,.int .i64 a] w (RetI w (come depF (l.drop a)))
theorem rdep_step (A:Option Addr) (n c:Nat) (l:List Tm) (K:Nat) (hn:n = l.length) (hn62:n <= 70368744177664) (ih:RDIH A n c l K) (a:Nat) (w:World) (hK:n <= a + (K + 1)) (h:Tms w (.slice A n c) l) (he:0 <= endA l a) :
 Calls Tryz.prog 169 #[.slice A n c,.int .i64 a] w (RetI w (come depF (l.drop a))):=by
 obtain ⟨k0,m0,hk0,hc0,_,_,_⟩:=ZY he;obtain rfl:k0=a:=by omega
 obtain ⟨t,m,ht,h0,_,hm⟩:=Qcb hc0;have han:=Ja ht;have HT:=qh h;have HM:=qh hm;have HIH:=qh ih;have HBL:=qh (Qeh A n c l k0 w h hn hn62 t ht he);have HCM:=qh (come_at (f:=depF) ht);have hq:=(Qdp t.op).2;have e0:=QaU h0
 have HDB:Hid (∀ k,0 <= deepest ((stack depF (l.drop (k0 + 1))).take k) /\ deepest ((stack depF (l.drop (k0 + 1))).take k) <= 4611686018427387903):=qh (fun k => QbR (by omega) _ (fun b hb => by
  have h1:=(ZV _ b (List.mem_of_mem_take hb)).2;rw [List.length_drop] at h1;omega))
 obtain ⟨q,hqe⟩:∃ q,q=arN t.op:=⟨_,rfl⟩;rw [<- hqe] at HBL HCM e0 HM;have hq2:q<=2:=by omega
 have hal:k0<n:=by omega
 have HLEN:=qh hn;clear ht hqe hn h hc0 hk0 hm he h0 e0 han hq ih;go_enter Tryz.func169,Tryz.ntmps169;go_wp2_with (go_at_call 147; go_fit HBL.o);rintro e w1 ⟨v2,rfl,hr2,hb1⟩;obtain ⟨A2,n2,c2,rfl,hn2,hc2,hA2⟩:=hr2.ints;rw [Zh] at hn2;obtain rfl:q=n2:=hn2;have HA2:=qh hA2;have HB1:=qh hb1;clear hr2 hc2 hA2 hb1;go_wp2_with fail
 go_loopw [5,7,8] (fun v i _ wr=>RDeepRel w1 l k0 q v i wr) (fun _ i _ _=>3-(intOf i).toNat)
 case atStart=>exact ⟨0,Nat.zero_le _,rfl,rfl,Below.refl _ _⟩
 case round =>
  obtain ⟨k,hk,rfl,rfl,hbw⟩:=hrel;have HBW:=qh hbw;obtain ⟨g0,g1⟩:=HDB.o k;clear hbw
  by_cases hlt:k<q
  ·obtain ⟨b2,off2,rfl,hb2,hcell⟩:=HA2.o (by omega)
   obtain ⟨x,hx,hex,hbx,hst⟩:=Qdb HM.o hlt;have hck:=(HBW.o.cell (p:=⟨b2,off2+k,none⟩) (by exact hb2)).trans (hcell k _ hx);have HS:Hid (deepest ((stack depF (l.drop (k0+1))).take (k+1))=if deepest ((stack depF (l.drop (k0+1))).take k)<come depF (l.drop (k0+1+x)) then come depF (l.drop (k0+1+x)) else deepest ((stack depF (l.drop (k0+1))).take k)):=qh (by rw [hst depF,Qcm]);rw [<- HLEN.o] at hbx;have HCI:=qh (HIH.o (k0+1+x) wr (by omega) (HT.o.keep (Qa HB1.o HBW.o)) hex);obtain ⟨y,hy⟩:∃ y,y=come depF (l.drop (k0+1+x)):=⟨_,rfl⟩;rw [<- hy] at HS HCI;obtain ⟨d,hd⟩:∃ d,d=deepest ((stack depF (l.drop (k0+1))).take k):=⟨_,rfl⟩;rw [<- hd] at HS g0 g1 ⊢;obtain ⟨p,hp⟩:∃ p,p=k0+1+x:=⟨_,rfl⟩;rw [<- hp] at HCI hck;clear hx hex hbx hst hcell hy hp hd
   by_cases hyd:d<y
   all_goals
    go_wp2_with (go_at_call 169; go_fit HCI.o);rintro e w3 ⟨rfl,hb3⟩;have HB3:=qh (Qa HBW.o hb3);clear hb3 hck;go_wp2_with fail
    go_roundw
    case rel=>exact ⟨k+1,hlt,by simp,by rw [HS.o]; first | rw [if_pos hyd] | rw [if_neg (by omega)],HB3.o⟩
    case measure=>simp [intOf]; omega
  ·obtain rfl:k = q:=by omega
   go_wp2_with fail;go_ret;exact ⟨Qo HCM.o.symm,Qa HB1.o HBW.o⟩
theorem rdep_all (A:Option Addr) (n c:Nat) (l:List Tm) (hn:n = l.length) (hn62:n <= 70368744177664) (K:Nat):RDIH A n c l K:=by
 induction K with
 | zero =>
   intro a w hK _ he;obtain ⟨k,m,hk,_,h1,h2,h3⟩:=ZY he;omega
 | succ K ih => exact fun a w hK h he => rdep_step A n c l K hn hn62 ih a w hK h he
theorem rdep_any (A:Option Addr) (n c:Nat) (l:List Tm) (hn:n = l.length) (hn62:n <= 70368744177664) (a:Nat) (w:World) (h:Tms w (.slice A n c) l) (he:0 <= endA l a) :
 Calls Tryz.prog 169 #[.slice A n c,.int .i64 a] w (RetI w (come depF (l.drop a))):=rdep_all A n c l hn hn62 n a w (by omega) h he
end
end Go.Proofs.YtbdalbpackfejaaGreatDoor
