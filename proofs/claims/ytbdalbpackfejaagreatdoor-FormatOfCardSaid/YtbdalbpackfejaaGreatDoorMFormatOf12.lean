/- RowB, EvalOps, EvalMem, ActIn, TransMem, ExprRef, ExprRefLev, ActReadOne, ActRead, joined. -/
import Derived.Test.YtbdalbpackfejaaGreatDoorMFormatOf11
set_option maxHeartbeats 16000000
set_option maxRecDepth 100000
namespace Go.Proofs.YtbdalbpackfejaaGreatDoor
section
open Go.RowKit CurSpec
def Dep (w:World) (S:Nat->Prop) (P:World->Prop):Prop:=∀ w',w.heap.size<=w'.heap.size->(∀ b,b<w.heap.size->S b->w'.heap[b]?=w.heap[b]?)->P w'
section
variable {w w':World} {S S':Nat->Prop} {P Q:World->Prop}
theorem Dep.now (h:Dep w S P):P w:=h w (Nat.le_refl _) (fun _ _ _=>rfl)
theorem Dep.go {ob:Option Nat} (h:Dep w S P) (hb:w.grownBy w' ob) (hne:∀ b,S b -> ob ≠ some b):Dep w' S P :=
 fun w2 hz hx=>h w2 (Nat.le_trans hb.size hz) fun b hlt hS=>(hx b (Nat.lt_of_lt_of_le hlt hb.size) hS).trans (hb.block b hlt fun e=>hne b hS e.symm)
theorem Dep.keep (h:Dep w S P) (hb:Below w.heap.size w w'):Dep w' S P :=
 fun w2 hz hx=>h w2 (Nat.le_trans hb.size hz) fun b hlt hS=>(hx b (Nat.lt_of_lt_of_le hlt hb.size) hS).trans (hb.block b hlt)
theorem Dep.alloc (h:Dep w S P) (o:Obj):Dep (w.alloc o) S P:=h.keep (KitC.Qh w o)
theorem Dep.mono (h:Dep w S P) (hs:∀ b,b<w.heap.size->S b->S' b):Dep w S' P:=fun w2 hz hx=>h w2 hz fun b hlt hS=>hx b hlt (hs b hlt hS)
theorem Dep.imp (h:Dep w S P) (hp:∀ w',P w'->Q w'):Dep w S Q:=fun w2 hz hx=>hp _ (h w2 hz hx)
theorem Dep.and (h:Dep w S P) (g:Dep w S Q):Dep w S (fun x=>P x/\Q x):=fun w2 hz hx=>⟨h w2 hz hx,g w2 hz hx⟩
theorem Dep.triv (h:∀ w',P w'):Dep w S P:=fun w2 _ _=>h w2
end
theorem grown_any {w w':World} (h:w.grownBy w' none) (k:Nat):w.grownBy w' (some k):=⟨h.os,h.tape,h.output,h.size,fun i hi _=>h.block i hi (by simp)⟩
theorem CurAt.row {w w':World} {B:Nat} {c:Cur} {ob:Option Nat} (h:CurAt w B c) (hb:w.grownBy w' ob) (hlt:∀ j,ob = some j -> B < j):CurAt w' B c:=by
 rcases ob with _ | j
 ·exact h.but (grown_any hb (B+1)) (Nat.lt_succ_self B)
 ·exact h.but hb (hlt j rfl)
theorem Qbr {w:World} {k n:Nat} {v:Value} {xs:List Value} {S:Nat -> Prop} (h:Rdk k w v n xs) (hS:0 < n -> ∀ b,v.ownBlock = some b -> S b):Dep w S (fun x => Rdk k x v n xs):=by
 intro w2 hz hx;obtain ⟨A,c,rfl,hc,hl,hA⟩:=h;refine ⟨A,c,rfl,hc,hl,fun h0=>?_⟩;obtain ⟨b,off,rfl,hlt,hcell⟩:=hA h0;refine ⟨b,off,rfl,Nat.lt_of_lt_of_le hlt hz,fun j u hj=>?_⟩;rw [<- hcell j u hj];simp [World.cell?,hx b hlt (hS h0 b rfl)]
theorem own_set {w:World} {base n k g cap:Nat} {e:TypeId} {xs:List Value} (h:w.ownsRow base e k (.slice (some ⟨g,0,none⟩) n cap) n xs) {i:Nat} (_hi:i < xs.length) (u:Value) :
 (w.setCell ⟨g,i,none⟩ u).ownsRow base e k (.slice (some ⟨g,0,none⟩) n cap) n (xs.set i u):=by
 refine ⟨by rw [List.length_set]; exact h.1,?_⟩;have hl:=h.1
 rcases h.2 with ⟨h1,_⟩ | ⟨g',cap',cur,h1,h2,h3,h4,h5,h6,h7⟩
 ·cases h1
 ·injection h1 with h1 _ h8
  injection h1 with h1
  injection h1 with h1
  subst h1 h8;refine .inr ⟨g,cap,cur.setIfInBounds i u,rfl,h2,Qd h3 i u,h4,h5,by rw [Array.size_setIfInBounds,h6],?_⟩;rw [<- h7,Array.toList_setIfInBounds,List.take_set]
theorem own_cell {w:World} {base n k g cap:Nat} {e:TypeId} {xs:List Value} (h:w.ownsRow base e k (.slice (some ⟨g,0,none⟩) n cap) n xs):(∃ cur,w.heap[g]? = some (.cells cur e (0,0)) /\ xs.length <= cur.size) /\ ∀ i u,xs[i]? = some u -> w.cell? ⟨g,i,none⟩ = some u:=by
 have hl:=h.1
 rcases h.2 with ⟨h1,_⟩ | ⟨g',cap',cur,h1,h2,h3,h4,h5,h6,h7⟩
 ·cases h1
 ·injection h1 with h1 _ h8
  injection h1 with h1
  injection h1 with h1
  subst h1 h8;refine ⟨⟨cur,h3,by rw [h6,hl]; exact Nat.mul_le_mul_right k h4⟩,fun i u hi=>?_⟩;have hi':i<xs.length:=(List.getElem?_eq_some_iff.1 hi).1;rw [<- h7,List.getElem?_take_of_lt (by omega),Array.getElem?_toList] at hi;simp [World.cell?,h3,hi]
theorem own_at {w:World} {base n k:Nat} {e:TypeId} {v:Value} {xs:List Value} (h:w.ownsRow base e k v n xs) (h0:0 < n):∃ g cap,v = .slice (some ⟨g,0,none⟩) n cap /\ n <= cap:=by
 rcases h.2 with ⟨_,h2⟩ | ⟨g,cap,cur,h1,h2,h3,h4,h5,h6,h7⟩
 ·omega
 ·exact ⟨g,cap,h1,h4⟩
theorem Qg6 {α:Type} {k:Nat} {f:α -> List Value} (hf:∀ a,(f a).length = k):∀ {l:List α} {i j:Nat} {a a':α} {u:Value},l[i]? = some a -> j < k -> f a' = (f a).set j u -> (l.set i a').flatMap f = (l.flatMap f).set (i * k + j) u
 | [],_,_,_,_,_,h,_,_ => by simp at h
 | b :: t,0,j,a,a',u,h,hj,hu => by
   simp at h; subst h;rw [List.set_cons_zero,List.flatMap_cons,List.flatMap_cons,Nat.zero_mul,Nat.zero_add,List.set_append_left _ _ (by rw [hf]; exact hj),hu]
 | b :: t,i + 1,j,a,a',u,h,hj,hu => by
   rw [List.set_cons_succ,List.flatMap_cons,List.flatMap_cons,List.set_append_right _ _ (by rw [hf,Nat.add_mul]; omega),hf,show (i+1)*k+j-k=i*k+j by rw [Nat.add_mul]; omega,Qg6 hf (l:=t) (by simpa using h) hj hu]
structure RowB {α:Type} (T:TypeId) (k:Nat) (cv:α -> List Value) (nest:α -> World -> Prop) (W:World) (B:Nat) (wr:World) (pv:Value) (ps:List α):Prop where
 own:wr.ownsRow W.heap.size T k pv ps.length (ps.flatMap cv)
 dep:∀ p∈ps,Dep wr (fun b=>W.heap.size<=b/\pv.ownBlock≠some b) (nest p)
 grown:W.grownBy wr (some B)
 lt:B<W.heap.size
section
variable {α:Type} {T:TypeId} {k:Nat} {cv:α->List Value} {nest:α->World->Prop} {W wr w':World} {B:Nat} {pv:Value} {ps:List α}
theorem RowB.nil (hg:W.grownBy wr (some B)) (hB:B<W.heap.size):RowB T k cv nest W B wr (.slice none 0 0) []:=⟨World.ownsRow_nil _ _ _ _,fun _ h=>by simp at h,hg,hB⟩
theorem RowB.one {p:α} (hg:W.grownBy wr (some B)) (hB:B < W.heap.size) (hlen:(cv p).length = k) (hn:Dep wr (fun b => W.heap.size <= b) (nest p)):RowB T k cv nest W B (wr.alloc (.cells (cv p).toArray T)) (.slice (some ⟨wr.heap.size,0,none⟩) 1 1) [p]:=by
 refine ⟨?_,fun q hq=>?_,Qt hg (QH (KitC.Qh _ _)),hB⟩
 ·have:=World.ownsRow_lit (base:=W.heap.size) (e:=T) (size:=k) wr (cv p).toArray 1 hg.size (by decide) (by simp [hlen])
  simpa using this
 ·rw [List.mem_singleton] at hq
  subst hq;refine fun w2 hz hx=>hn w2 (Nat.le_trans (KitC.Qh wr _).size hz) fun b hlt hS=>(hx b (by rw [World.size_alloc]; omega) ⟨hS,fun e=>?_⟩).trans (heap_alloc_old _ _ hlt)
  injection e with e
  simp only at e;omega
theorem RowB.but (h:RowB T k cv nest W B wr pv ps) (hb:wr.grownBy w' (some B)):RowB T k cv nest W B w' pv ps :=
 ⟨QaI h.own hb h.lt,fun p hp=>(h.dep p hp).go hb fun b hS e=>by injection e with e; have:=hS.1; have:=h.lt; omega,Qt h.grown hb,h.lt⟩
theorem RowB.keep (h:RowB T k cv nest W B wr pv ps) (hb:Below wr.heap.size wr w'):RowB T k cv nest W B w' pv ps:=h.but (QH hb)
theorem RowB.shape (h:RowB T k cv nest W B wr pv ps):∃ A c,pv = .slice A ps.length c:=QR h.own
theorem RowB.fresh {P:World -> Prop} {w1:World} (h:RowB T k cv nest W B w1 pv ps) (_hz:w1.heap.size <= wr.heap.size) (hp:Dep wr (fun b => w1.heap.size <= b) P):Dep wr (fun b => W.heap.size <= b /\ pv.ownBlock ≠ some b) P :=
 hp.mono fun b _ hb=>⟨Nat.le_trans h.grown.size hb,fun e=>by have:=(Qs h.own b e).2; omega⟩
theorem RowB.add {p:α} {pv':Value} {o:Obj} (h:RowB T k cv nest W B wr pv ps) (hn:Dep wr (fun b => W.heap.size <= b /\ pv.ownBlock ≠ some b) (nest p))
 (hrow:w'.ownsRow W.heap.size T k pv' (ps.length+1) (ps.flatMap cv++cv p)) (hg:(wr.alloc o).grownBy w' pv.ownBlock) (hob:pv'.ownBlock=pv.ownBlock\/pv'.ownBlock=some (wr.alloc o).heap.size) :
 RowB T k cv nest W B w' pv' (ps++[p]):=by
 have ha:Below wr.heap.size wr (wr.alloc o):=KitC.Qh wr o
 have hall:∀ q ∈ ps ++ [p],Dep wr (fun b => W.heap.size <= b /\ pv.ownBlock ≠ some b) (nest q):=fun q hq => by
  rcases List.mem_append.1 hq with hq | hq
  ·exact h.dep q hq
  ·rw [List.mem_singleton] at hq
   subst hq;exact hn
 refine ⟨by simpa [List.length_append] using hrow,fun q hq=>?_,?_,h.lt⟩
 ·intro w2 hz hx
  refine (hall q hq) w2 (Nat.le_trans ha.size (Nat.le_trans hg.size hz)) fun b hlt hS=>?_
  have hlt2:b<(wr.alloc o).heap.size:=Nat.lt_of_lt_of_le hlt ha.size;refine (hx b (Nat.lt_of_lt_of_le hlt2 hg.size) ⟨hS.1,fun e=>?_⟩).trans ((hg.block b hlt2 fun e=>hS.2 e.symm).trans (ha.block b hlt))
  rcases hob with e' | e'
  ·exact hS.2 (e'.symm.trans e)
  ·rw [e'] at e; injection e with e; omega
 ·have hgw:=h.grown
  refine ⟨hg.os.trans hgw.os,hg.tape.trans hgw.tape,hg.output.trans hgw.output,Nat.le_trans hgw.size (Nat.le_trans ha.size hg.size),fun i hi hn=>?_⟩;have hi2:i<wr.heap.size:=Nat.lt_of_lt_of_le hi hgw.size;refine (hg.block i (Nat.lt_of_lt_of_le hi2 ha.size) fun e=>?_).trans ((ha.block i hi2).trans (hgw.block i hi hn));have:=(Qs h.own i e.symm).1;omega
theorem RowB.cur {c:Cur} {o:Obj} (h:RowB T k cv nest W B wr pv ps) (hc:CurAt wr B c) (hg:(wr.alloc o).grownBy w' pv.ownBlock):CurAt w' B c :=
 (hc.alloc o).row hg fun j e=>by have:=(Qs h.own j e).1; have:=h.lt; omega
theorem RowB.set {i j g cap:Nat} {p p':α} {u:Value} (h:RowB T k cv nest W B wr (.slice (some ⟨g,0,none⟩) ps.length cap) ps) (hlen:∀ a,(cv a).length = k) (hp:ps[i]? = some p) (hj:j < k) (hu:cv p' = (cv p).set j u)
 (hn:Dep wr (fun b=>W.heap.size<=b/\(Value.slice (some ⟨g,0,none⟩) ps.length cap).ownBlock≠some b) (nest p')) :
 RowB T k cv nest W B (wr.setCell ⟨g,i*k+j,none⟩ u) (.slice (some ⟨g,0,none⟩) ps.length cap) (ps.set i p'):=by
 have hs:wr.grownBy (wr.setCell ⟨g,i*k+j,none⟩ u) (some g):=Ql (Qx wr _) _ _;have hi:=(List.getElem?_eq_some_iff.1 hp).1
 have hlt:i * k + j < (ps.flatMap cv).length:=by
  rw [Qbc hlen];have:(i+1)*k<=ps.length*k:=Nat.mul_le_mul_right k hi;rw [Nat.add_mul] at this;omega
 refine ⟨?_,fun q hq=>?_,?_,h.lt⟩
 ·rw [List.length_set,Qg6 hlen hp hj hu]
  exact own_set h.own hlt u
 ·have hall:Dep wr (fun b => W.heap.size <= b /\ (Value.slice (some ⟨g,0,none⟩) ps.length cap).ownBlock ≠ some b) (nest q):=by
   rcases List.mem_or_eq_of_mem_set hq with hq | rfl
   ·exact h.dep q hq
   ·exact hn
  exact hall.go hs fun b hS e=>hS.2 e
 ·exact QJ h.grown (Qs h.own g rfl).1 _ _
theorem RowB.setCur {i g cap n:Nat} {u:Value} {c:Cur} (h:RowB T k cv nest W B wr (.slice (some ⟨g,0,none⟩) n cap) ps) (hc:CurAt wr B c):CurAt (wr.setCell ⟨g,i,none⟩ u) B c :=
 hc.row (Ql (Qx wr _) _ _:wr.grownBy _ (some g)) fun j e=>by injection e with e; have:=(Qs h.own g rfl).1; have:=h.lt; omega
theorem RowB.far (h:RowB T k cv nest W B wr pv ps):Dep wr (fun b => W.heap.size <= b) (fun x => Rdk k x pv ps.length (ps.flatMap cv) /\ ∀ p ∈ ps,nest p x) :=
 (Qbr (Rdk.own h.own) fun _ b e=>(Qs h.own b e).1).and fun w2 hz hx p hp=>(h.dep p hp) w2 hz fun b hlt hS=>hx b hlt hS.1
end
section
variable {P:Program}
theorem QE {ops:Array Oper} {rest:List Oper} {o:Oper} {a:Act} {Q:Exit -> Act -> World -> Prop} (hgd:o.guard = none) (s x:Operand) (t:TypeId)
 (ho:o.op = .call { callee:=.builtin .append,args:=#[s,x],argTypes:=#[t,t] })
 {α:Type} {e:TypeId} {k:Nat} {cv:α->List Value} {nest:α->World->Prop} {W wr:World} {B:Nat} {pv:Value} {ps:List α}
 (i:TypeInfo) (z:Value) (bytes:Nat) (ht:P.underlying t=some (.slice e)) (hi:P.info? e=some i) (hz:i.zero=some z)
 (hsize:i.size=k) (hby:i.bytes=bytes) (hzs:z.cells.size=k) (hk:0<k)
 (h:RowB e k cv nest W B wr pv ps) (p:α) (hn:Dep wr (fun b=>W.heap.size<=b/\pv.ownBlock≠some b) (nest p)) (hs:a.eval s=pv) (hx:a.eval x = .slice (some ⟨wr.heap.size,0,none⟩) 1 1)
 (hlen:(cv p).length=k) (h1:∀ u∈cv p,u.oneCell'=true) (h63:ps.length+1<=maxLen) (hbytes:(ps.length+1)*bytes<=140737488355328)
 (hK:∀ v' w',RowB e k cv nest W B w' v' (ps++[p])->(∀ c,CurAt wr B c->CurAt w' B c)->wpList P ops Q rest (a.put o.dst v') w'):wpList P ops Q (o::rest) a (wr.alloc (.cells (cv p).toArray e)):=by
 have hrow:=Q9 h.own (KitC.Qh wr (.cells (cv p).toArray e));refine QQ _ hgd s x t ho W.heap.size e i z k bytes ht hi hz hsize hby hzs hk pv ps.length (ps.flatMap cv) hs hrow _ 1 (cv p) hx ?_ h1 h63 hbytes ?_ fun v' w' hr hg hob=>hK v' w' (h.add hn hr hg hob) fun c hc=>h.cur hc hg
 ·refine ⟨_,1,rfl,Nat.le_refl _,by omega,fun _ => ⟨_,0,rfl,by simp,fun j u hj => ?_⟩⟩
  exact Qb (heap_alloc_new wr _) (by rw [Nat.zero_add,List.getElem?_toArray]; exact hj)
 ·have:=h.grown.size
  simp;omega
end
end
section
open Go.RowKit TermSpec EvalSpec ValSpec
end
section
open Go.RowKit TermSpec EvalSpec NamesSpec Go.Lib
structure EP where
 vA:Option Addr
 vn:Nat
 vc:Nat
 iA:Option Addr
 im:Nat
 ic:Nat
def vrV (v:Vr):List Value:=[.string v.s,.int .i64 v.lo,.int .i64 v.hi,.int .i64 v.ini]
def vrsV (l:List Vr):List Value:=l.flatMap vrV
theorem QaG (v:Vr):(vrV v).length=4:=rfl
theorem vrsV_get {l:List Vr} {i:Nat} {v:Vr} (h:l[i]? = some v):(vrsV l)[i * 4]? = some (.string v.s) /\ (vrsV l)[i * 4 + 1]? = some (.int .i64 v.lo) /\ (vrsV l)[i * 4 + 2]? = some (.int .i64 v.hi) /\ (vrsV l)[i * 4 + 3]? = some (.int .i64 v.ini) :=
 ⟨flat_get (j:=0) QaG h (by omega),flat_get (j:=1) QaG h (by omega),flat_get (j:=2) QaG h (by omega),flat_get (j:=3) QaG h (by omega)⟩
def VarsIn (w:World) (A:Option Addr) (n c:Nat) (l:List Vr):Prop:=n=l.length/\Rdk 4 w (.slice A n c) n (vrsV l)
theorem VarsIn.keep {w w':World} {A:Option Addr} {n c:Nat} {l:List Vr} (h:VarsIn w A n c l) (hb:Below w.heap.size w w'):VarsIn w' A n c l:=⟨h.1,h.2.keep hb⟩
theorem VarsIn.at_ {w:World} {A:Option Addr} {n c:Nat} {l:List Vr} {i:Nat} {v:Vr} (h:VarsIn w A n c l) (hi:l[i]? = some v) :
 ∃ b off,A=some ⟨b,off,none⟩/\b<w.heap.size/\w.cell? ⟨b,off+i*4,none⟩=some (.string v.s)/\w.cell? ⟨b,off+i*4+1,none⟩=some (.int .i64 v.lo)/\w.cell? ⟨b,off+i*4+2,none⟩=some (.int .i64 v.hi)/\w.cell? ⟨b,off+i*4+3,none⟩=some (.int .i64 v.ini):=by
 obtain ⟨hn,A',c',heq,hc,hl,hA⟩:=h
 cases heq
 have:=Ja hi;obtain ⟨b,off,rfl,hb,hcell⟩:=hA (by omega);obtain ⟨g0,g1,g2,g3⟩:=vrsV_get hi;exact ⟨b,off,rfl,hb,hcell _ _ g0,by rw [Nat.add_assoc]; exact hcell _ _ g1,by rw [Nat.add_assoc]; exact hcell _ _ g2,by rw [Nat.add_assoc]; exact hcell _ _ g3⟩
theorem VarsIn.cap {w:World} {A:Option Addr} {n c:Nat} {l:List Vr} (h:VarsIn w A n c l):n <= c:=by
 obtain ⟨hn,A',c',heq,hc,hl,hA⟩:=h
 cases heq
 exact hc
structure EnvIn (w:World) (p:EP) (e:Ev):Prop where
 vars:VarsIn w p.vA p.vn p.vc e.vars
 ins:Rd w (.slice p.iA p.im p.ic) (strV e.ins)
 vbd:e.vars.length<=9223372036854775807
 ibd:e.ins.length<=9223372036854775807
theorem EnvIn.keep {w w':World} {p:EP} {e:Ev} (h:EnvIn w p e) (hb:Below w.heap.size w w'):EnvIn w' p e:=⟨h.vars.keep hb,h.ins.keep hb,h.vbd,h.ibd⟩
end
section
open Go.RowKit TermSpec EvalSpec ActSpec NamesSpec
structure AP where
 a:Ac
 xA:Option Addr
 xn:Nat
 xc:Nat
def acV (p:AP):List Value:=[.string p.a.s,.bool p.a.any,.slice p.xA p.xn p.xc]
def acsV (l:List AP):List Value:=l.flatMap acV
theorem QbF (p:AP):(acV p).length=3:=rfl
theorem acV_one (p:AP):∀ u∈acV p,u.oneCell'=true:=by simp [acV,Value.oneCell']
theorem Qh2 (l:List AP):∀ u ∈ acsV l,u.oneCell' = true:=by
 intro u hu;obtain ⟨t,_,h⟩:=List.mem_flatMap.1 hu;exact acV_one t u h
theorem Qhd (a b:List AP):acsV a++acsV b=acsV (a++b):=by unfold acsV; rw [List.flatMap_append]
theorem acsV_get {l:List AP} {i:Nat} {p:AP} (h:l[i]? = some p):(acsV l)[i * 3]? = some (.string p.a.s) /\ (acsV l)[i * 3 + 1]? = some (.bool p.a.any) /\ (acsV l)[i * 3 + 2]? = some (.slice p.xA p.xn p.xc) :=
 ⟨flat_get (j:=0) QbF h (by omega),flat_get (j:=1) QbF h (by omega),flat_get (j:=2) QbF h (by omega)⟩
def Acs (w:World) (v:Value) (l:List Ac):Prop:=∃ ps:List AP,ps.map (·.a)=l/\Rdk 3 w v l.length (acsV ps)/\∀ p∈ps,Tms w (.slice p.xA p.xn p.xc) p.a.x
theorem Acs.keep {w w':World} {v:Value} {l:List Ac} (h:Acs w v l) (hb:Below w.heap.size w w'):Acs w' v l:=by
 obtain ⟨ps,hm,hr,hx⟩:=h;exact ⟨ps,hm,hr.keep hb,fun p hp=>(hx p hp).keep hb⟩
theorem Acs.shape {w:World} {v:Value} {l:List Ac} (h:Acs w v l):∃ A n c,v = .slice A n c /\ n = l.length /\ n <= c:=by
 obtain ⟨ps,hm,⟨A,c,hv,hc,_⟩,_⟩:=h;exact ⟨A,_,c,hv,rfl,hc⟩
theorem Acs.len {w:World} {A:Option Addr} {n c:Nat} {l:List Ac} (h:Acs w (.slice A n c) l):n = l.length /\ n <= c:=by
 obtain ⟨A',n',c',heq,hn,hc⟩:=h.shape
 cases heq
 exact ⟨hn,hc⟩
theorem Acs.at_ {w:World} {A:Option Addr} {n c:Nat} {l:List Ac} {i:Nat} {a:Ac} (h:Acs w (.slice A n c) l) (hi:l[i]? = some a) :
 ∃ b off xA xn xc,A=some ⟨b,off,none⟩/\b<w.heap.size/\Tms w (.slice xA xn xc) a.x/\w.cell? ⟨b,off+i*3,none⟩=some (.string a.s)/\w.cell? ⟨b,off+i*3+1,none⟩=some (.bool a.any)/\w.cell? ⟨b,off+i*3+2,none⟩=some (.slice xA xn xc):=by
 obtain ⟨ps,hm,⟨A',c',heq,hc,hl,hA⟩,hx⟩:=h
 cases heq
 subst hm;have:=Ja hi;obtain ⟨b,off,rfl,hb,hcell⟩:=hA (by omega);rw [List.getElem?_map] at hi
 cases hp:ps[i]? with
 | none => rw [hp] at hi; cases hi
 | some p =>
   rw [hp] at hi
   cases hi
   obtain ⟨g0,g1,g2⟩:=acsV_get hp;exact ⟨b,off,p.xA,p.xn,p.xc,rfl,hb,hx p (List.mem_of_getElem? hp),hcell _ _ g0,by rw [Nat.add_assoc]; exact hcell _ _ g1,by rw [Nat.add_assoc]; exact hcell _ _ g2⟩
def SmallA (a:Ac):Prop:=a.s.size<=9223372036854775807/\Small a.x/\a.x.length<=4398046511104
theorem oneA_name {a:Ac} (h:isName a.s.data.toList=false):oneA a=1:=by unfold oneA; rw [if_pos h]
theorem oneA_expr {a:Ac} (h:isName a.s.data.toList=true) (h2:a.any=false):oneA a=chk a.x:=by unfold oneA; rw [if_neg (by simp [h]),if_pos h2]
theorem oneA_any {a:Ac} (h:isName a.s.data.toList=true) (h2:a.any=true):oneA a=if a.x.length=0 then 0 else 1:=by unfold oneA; rw [if_neg (by simp [h]),if_neg (by simp [h2])]
end
section
open Go.RowKit TermSpec EvalSpec ActSpec NamesSpec ExprSpec TransSpec
structure SmallT (t:Tr):Prop where
 ev:t.ev.size<=9223372036854775807
 tg:t.tg.size<=9223372036854775807
 g:Small t.g
 glen:t.g.length<=4398046511104
 acts:∀ a∈t.acts,SmallA a
 alen:t.acts.length<=9223372036854775807
structure TrIn (W:World) (gA:Option Addr) (gn gc:Nat) (aA:Option Addr) (an ac:Nat) (t:Tr):Prop where
 g:Tms W (.slice gA gn gc) t.g
 a:Acs W (.slice aA an ac) t.acts
section
variable {W W':World} {gA aA:Option Addr} {gn gc an ac:Nat} {t:Tr}
theorem TrIn.keep (h:TrIn W gA gn gc aA an ac t) (hb:Below W.heap.size W W'):TrIn W' gA gn gc aA an ac t:=⟨h.g.keep hb,h.a.keep hb⟩
theorem TrIn.alloc (h:TrIn W gA gn gc aA an ac t) (o:Obj):TrIn (W.alloc o) gA gn gc aA an ac t:=h.keep (KitC.Qh W o)
theorem TrIn.len (h:TrIn W gA gn gc aA an ac t):gn = t.g.length /\ an = t.acts.length:=by
 obtain ⟨A',n',c',heq,hn,-⟩:=h.g.shape
 cases heq
 exact ⟨hn,h.a.len.1⟩
theorem TrIn.cap (h:TrIn W gA gn gc aA an ac t):gn <= gc /\ an <= ac:=by
 obtain ⟨A',n',c',heq,-,hc⟩:=h.g.shape
 cases heq
 exact ⟨hc,h.a.len.2⟩
end
abbrev trO (ev:ByteArray) (gA:Option Addr) (gn gc:Nat) (aA:Option Addr) (an ac:Nat) (tg:ByteArray):Obj:=.cells #[.string ev,.slice gA gn gc,.slice aA an ac,.string tg] 81
theorem okN_nil {s:ByteArray} (h:s.size=0):okN s=true:=by unfold okN; simp [h]
theorem okN_pos {s:ByteArray} (h:0 < s.size):okN s = isName s.data.toList:=by
 unfold okN;rw [decide_eq_false (show ¬ s.size=0 by omega)]
 rfl
theorem chkT_name {t:Tr} (h:okN t.ev=false\/okN t.tg=false):chkT t=1:=by unfold chkT; rw [if_pos h]
theorem chkT_nog {t:Tr} (h1:okN t.ev=true) (h2:okN t.tg=true) (h:t.g.length=0):chkT t=chkA t.acts:=by unfold chkT; rw [if_neg (by rw [h1,h2]; simp),if_neg (fun h'=>h'.1 h)]
theorem chkT_bad {t:Tr} (h1:okN t.ev=true) (h2:okN t.tg=true) (h:t.g.length≠0) (hk:chk t.g≠0):chkT t=chk t.g:=by unfold chkT; rw [if_neg (by rw [h1,h2]; simp),if_pos ⟨h,hk⟩]
theorem chkT_good {t:Tr} (h1:okN t.ev=true) (h2:okN t.tg=true) (hk:chk t.g=0):chkT t=chkA t.acts:=by unfold chkT; rw [if_neg (by rw [h1,h2]; simp),if_neg (fun h'=>h'.2 hk)]
end
section
open Go.RowKit CurSpec TermSpec ExprSpec NamesSpec
set_option maxRecDepth 100000
def lvl (k:Int):List Sg:=sgs.filter fun s=>decide (s.lev=k)
def sigT (k:Int):List ByteArray:=(lvl k).map (·.t)
def sigO (k:Int):List Int:=(lvl k).map (·.op)
theorem lvl_none {k:Int} (h:k ≠ 1 /\ k ≠ 2 /\ k ≠ 4 /\ k ≠ 5 /\ k ≠ 6):lvl k = []:=by
 unfold lvl;rw [List.filter_eq_nil_iff];intro s hs;have:=(Qb6 s hs).2.2.1;simp only [decide_eq_true_eq];omega
def RetSigns (W:World) (k:Int) (e:Ending) (w':World):Prop:=∃ v1 v2,e = .returned (.tuple #[v1,v2])/\Rd w' v1 (strV (sigT k))/\Rd w' v2 (intV (sigO k))/\(∀ b,v1.ownBlock=some b->W.heap.size<=b)/\(∀ b,v2.ownBlock=some b->W.heap.size<=b)/\Below W.heap.size W w'
theorem Qa8 {w:World} {cs ds:Array Value} {T U:TypeId} {xs ys:List Value} {n m:Nat} (h1:cs.toList = xs) (h2:ds.toList = ys) (hn:n = xs.length) (hm:m = ys.length) :
 Rd ((w.alloc (.cells cs T)).alloc (.cells ds U)) (.slice (some ⟨w.heap.size,0,none⟩) n n) xs/\Rd ((w.alloc (.cells cs T)).alloc (.cells ds U)) (.slice (some ⟨w.heap.size+1,0,none⟩) m m) ys/\(∀ b,(Value.slice (some ⟨w.heap.size,0,none⟩) n n).ownBlock=some b->w.heap.size<=b)/\(∀ b,(Value.slice (some ⟨w.heap.size+1,0,none⟩) m m).ownBlock=some b->w.heap.size<=b)/\Below w.heap.size w ((w.alloc (.cells cs T)).alloc (.cells ds U)) :=
 ⟨(JN rfl hn h1).alloc _,JN (by simp) hm h2,fun b hb=>by cases hb; exact Nat.le_refl _,fun b hb=>by cases hb; exact Nat.le_succ _,((Below.refl _ _).alloc (Nat.le_refl _) _).alloc (by simp) _⟩
theorem Qaq {W w':World} {k:Int} {v1 v2:Value} {xs ys:List Value} (hx:strV (sigT k) = xs) (hy:intV (sigO k) = ys) (h:Rd w' v1 xs /\ Rd w' v2 ys /\ (∀ b,v1.ownBlock = some b -> W.heap.size <= b) /\ (∀ b,v2.ownBlock = some b -> W.heap.size <= b) /\ Below W.heap.size W w'):RetSigns W k (.returned (.tuple #[v1,v2])) w' :=
 ⟨v1,v2,rfl,by rw [hx]; exact h.1,by rw [hy]; exact h.2.1,h.2.2⟩
theorem Qap (k:Int) (w:World):Calls Tryz.prog 148 #[.int .i64 k] w (RetSigns w k):=by
 by_cases h1:k=1
 ·subst h1
  go_enter Tryz.func148,Tryz.ntmps148;go_wp2_with fail
  go_ret2
  exact Qaq rfl rfl (Qa8 rfl rfl rfl rfl)
 by_cases h2:k=2
 ·subst h2
  go_enter Tryz.func148,Tryz.ntmps148;go_wp2_with fail
  go_ret2
  exact Qaq rfl rfl (Qa8 rfl rfl rfl rfl)
 by_cases h4:k=4
 ·subst h4
  go_enter Tryz.func148,Tryz.ntmps148;go_wp2_with fail
  go_ret2
  exact Qaq rfl rfl (Qa8 rfl rfl rfl rfl)
 by_cases h5:k=5
 ·subst h5
  go_enter Tryz.func148,Tryz.ntmps148;go_wp2_with fail
  go_ret2
  exact Qaq rfl rfl (Qa8 rfl rfl rfl rfl)
 by_cases h6:k=6
 ·subst h6
  go_enter Tryz.func148,Tryz.ntmps148;go_wp2_with fail
  go_ret2
  exact Qaq rfl rfl (Qa8 rfl rfl rfl rfl)
 have HE:Hid (lvl k=[]):=qh (lvl_none ⟨h1,h2,h4,h5,h6⟩);have e1:(k==1)=false:=by simpa using h1
 have e2:(k==2)=false:=by simpa using h2
 have e4:(k==4)=false:=by simpa using h4
 have e5:(k==5)=false:=by simpa using h5
 have e6:(k==6)=false:=by simpa using h6
 clear h1 h2 h4 h5 h6;go_enter Tryz.func148,Tryz.ntmps148;go_wp2_with fail
 go_ret2
 refine Qaq (xs:=[]) (ys:=[]) (by unfold sigT; rw [HE.o]; rfl) (by unfold sigO; rw [HE.o]; rfl) ⟨Rd.nil _,Rd.nil _,(fun b hb=>by cases hb),(fun b hb=>by cases hb),Below.refl _ _⟩
def RetTms (W:World) (l:List Tm) (e:Ending) (w':World):Prop:=∃ A n cp,e = .returned (.slice A n cp)/\Tms w' (.slice A n cp) l/\(∀ b,(Value.slice A n cp).ownBlock=some b->W.heap.size<=b)/\Below W.heap.size W w'
theorem lit_own {w:World} {t:Tm} {k:Nat} (hk:k = w.heap.size):(w.alloc (tmO t)).ownsRow w.heap.size 123 3 (.slice (some ⟨k,0,none⟩) 1 1) 1 (tmV t):=by
 subst hk;exact ⟨rfl,.inr ⟨w.heap.size,1,_,rfl,Nat.le_refl _,heap_alloc_new _ _,Nat.le_refl _,by unfold maxLen; omega,rfl,rfl⟩⟩
theorem Qf0 {w x y:World} {base:Nat} {v:Value} {n:Nat} {xs:List Value} {e:TypeId} {k:Nat} (hw:base <= w.heap.size) (h:x.ownsRow base e k v n xs) (hb:Below base w x) (hg:x.grownBy y v.ownBlock):Below base w y:=by
 have hz1:=hb.size;refine hb.trans ⟨hg.os,hg.tape,hg.output,hg.size,fun i hi=>hg.block i (by omega) (fun e=>?_)⟩;have:=(Qs h i e.symm).1;omega
theorem Tms.own {w:World} {base n:Nat} {v:Value} {l:List Tm} (hn:n=l.length) (h:w.ownsRow base 123 3 v n (tmsV l)):Tms w v l:=⟨n,hn,Rdk.own h⟩
theorem ZG (o:Int) (va vb:Value) (a b:List Tm) (w:World) (ha:Tms w va a) (hb:Tms w vb b) (hla:a.length <= 1000000) (hlb:b.length <= 1000000) :
 Calls Tryz.prog 179 #[.int .i64 o,va,vb] w (RetTms w (opT o::(a++b))):=by
 obtain ⟨i0,hi,hz0,hz1,hz2⟩:=info_parts QdD;obtain ⟨na,hna,hra⟩:=ha;obtain ⟨nb,hnb,hrb⟩:=hb;obtain ⟨Aa,ca,rfl,hra'⟩:=hra;obtain ⟨Ab,cb,rfl,hrb'⟩:=hrb;have HRA:Hid (Rdk 3 w (.slice Aa na ca) na (tmsV a)):=qh ⟨Aa,ca,rfl,hra'⟩;have HRB:Hid (Rdk 3 w (.slice Ab nb cb) nb (tmsV b)):=qh ⟨Ab,cb,rfl,hrb'⟩;have HNA:=qh hna;have HNB:=qh hnb;have hla':na<=1000000:=by omega
 have hlb':nb<=1000000:=by omega
 clear hra' hrb' hna hnb hla hlb;go_enter Tryz.func179,Tryz.ntmps179;go_wp2_with (at_builtin; refine QQ _ rfl (.tmp 10) (.tmp 11) 79 rfl w.heap.size 123 i0 _ 3 32 Tryz.underlying79 hi hz0 hz1 hz2 rfl (by decide) _ 1 (tmV (opT o)) rfl (lit_own (t:=opT o) rfl) _ na (tmsV a) rfl (HRA.o.alloc _) (Qcj a) (by unfold maxLen; omega) (by omega) (by simp) ?_);intro v1 w1 hown1 hgrow1 _;obtain ⟨A1,c1,rfl⟩:=QR hown1;have HO1:=qh hown1;have HB1:=qh (Qf0 (Nat.le_refl _) (lit_own (w:=w) (t:=opT o) rfl) ((Below.refl _ _).alloc (Nat.le_refl _) _) hgrow1);clear hown1 hgrow1;go_wp2_with (at_builtin; refine QQ _ rfl (.tmp 13) (.tmp 14) 79 rfl w.heap.size 123 i0 _ 3 32 Tryz.underlying79 hi hz0 hz1 hz2 rfl (by decide) _ (1+na) (tmV (opT o)++tmsV a) rfl HO1.o _ nb (tmsV b) rfl (HRB.o.keep HB1.o) (Qcj b) (by unfold maxLen; omega) (by omega) HB1.o.size ?_);intro v2 w2 hown2 hgrow2 _;obtain ⟨A2,c2,rfl⟩:=QR hown2;have HO2:=qh hown2;have HB2:=qh (Qf0 (Nat.le_refl _) HO1.o HB1.o hgrow2);clear hown2 hgrow2;go_wp2_with fail;go_ret;refine ⟨A2,_,c2,rfl,Tms.own (base:=w.heap.size) (n:=1+na+nb) ?_ ?_,fun b hb=>(Qs HO2.o b hb).1,HB2.o⟩
 ·simp only [List.length_cons,List.length_append]; have:=HNA.o; have:=HNB.o; omega
 ·have e:tmsV (opT o :: (a ++ b)) = tmV (opT o) ++ tmsV a ++ tmsV b:=by simp [tmsV]
  rw [e];exact HO2.o
end
section
open Go.RowKit CurSpec TermSpec ExprSpec NamesSpec
set_option maxRecDepth 100000
def RetLev (W0 W:World) (c:Cur) (p:Pa) (e:Ending) (w':World):Prop :=
 ∃ A n cp A2 n2 c2 x,e = .returned (.tuple #[.agg #[.slice A n cp,.int .i64 p.1.w1,.int .i64 p.1.w2,.int .i64 p.1.a1,.int .i64 p.1.a2,.int .i64 p.1.bad],.slice A2 n2 c2]) /\ Toks W0 (.slice A n cp) p.1.L /\
   Tms w' (.slice A2 n2 c2) x/\(∀ b,(Value.slice A2 n2 c2).ownBlock=some b->W.heap.size<=b)/\(p.1.bad=0->x=p.2)/\x.length+2*p.1.L.length<=2*c.L.length+1/\Below W.heap.size W w'
theorem QaN (b:World) (k:Nat) (u0 u1 u2 u3 u4 u5:Value) :
 b.grownBy ((((((b.setCell ⟨k,0,none⟩ u0).setCell ⟨k,1,none⟩ u1).setCell ⟨k,2,none⟩ u2).setCell ⟨k,3,none⟩ u3).setCell ⟨k,4,none⟩ u4).setCell ⟨k,5,none⟩ u5) (some k) :=
 Ql (Ql (Ql (Ql (Ql (Ql (Qx _ _) _ _) _ _) _ _) _ _) _ _) _ _
theorem JJ {w w':World} {A:Option Addr} {n cp B:Nat} {l:List Tm} (h:Tms w (.slice A n cp) l) (hb:w.grownBy w' (some B)) (hne:(Value.slice A n cp).ownBlock ≠ some B):Tms w' (.slice A n cp) l:=by
 obtain ⟨m,hm,A',c',heq,hc,hl,hA⟩:=h
 cases heq
 refine ⟨n,hm,A,cp,rfl,hc,hl,fun h0=>?_⟩;obtain ⟨b,off,rfl,hlt,hcell⟩:=hA h0;refine ⟨b,off,rfl,Nat.lt_of_lt_of_le hlt hb.size,fun j u hj=>?_⟩;rw [<- hcell j u hj];have:=hb.block b hlt (fun e=>hne (by rw [<- e]; rfl));simp [World.cell?,this]
theorem QgW {W0 W Y:World} {c d:Cur} {p:Pa} {A:Option Addr} {n cp:Nat} {A2:Option Addr} {n2 c2 k:Nat} {x:List Tm} (hk:W.heap.size <= k) (hT:Toks W0 (.slice A n cp) d.L) (hM:Tms Y (.slice A2 n2 c2) x)
 (ho:∀ b,(Value.slice A2 n2 c2).ownBlock=some b->k<b) (hp:p.1=d) (hx:d.bad=0->x=p.2) (hl:x.length+2*d.L.length<=2*c.L.length+1) (hB:Below W.heap.size W Y) :
 RetLev W0 W c p (.returned (.tuple #[.agg #[.slice A n cp,.int .i64 d.w1,.int .i64 d.w2,.int .i64 d.a1,.int .i64 d.a2,.int .i64 d.bad],.slice A2 n2 c2]))
  ((((((Y.setCell ⟨k,0,none⟩ (.slice A n cp)).setCell ⟨k,1,none⟩ (.int .i64 d.w1)).setCell ⟨k,2,none⟩ (.int .i64 d.w2)).setCell ⟨k,3,none⟩ (.int .i64 d.a1)).setCell ⟨k,4,none⟩ (.int .i64 d.a2)).setCell ⟨k,5,none⟩ (.int .i64 d.bad)):=by
 subst hp;exact ⟨A,n,cp,A2,n2,c2,x,rfl,hT,JJ hM (QaN _ _ _ _ _ _ _ _) (fun e=>by have:=ho _ e; omega),fun b hb=>by have:=ho b hb; omega,hx,hl,QL hB hk _ _ _ _ _ _⟩
theorem tmsNil (w:World):Tms w (.slice none 0 0) []:=⟨0,rfl,Rdk.nil 3 w⟩
theorem tms_one {w:World} {t:Tm} {k:Nat} (hk:k=w.heap.size):Tms (w.alloc (tmO t)) (.slice (some ⟨k,0,none⟩) 1 1) [t]:=tms_lit hk rfl rfl
theorem QS (c:Cur) (s:ByteArray) (A:Option Addr) (n cp:Nat) (W0 w:World) (h:Toks W0 (.slice A n cp) c.L) (hw:Below W0.heap.size W0 w) :
 Calls Tryz.prog 59 #[.agg #[.slice A n cp,.int .i64 c.w1,.int .i64 c.w2,.int .i64 c.a1,.int .i64 c.a2,.int .i64 c.bad],.string s] w (RetCur W0 w (want c 3 s)):=by
 have HW:=qh (fun W hw=>Qd5 c 3 s A n cp W0 W h hw);have HB:=qh hw;clear h hw;obtain ⟨d,hd⟩:∃ d,d=want c 3 s:=⟨_,rfl⟩;rw [<- hd] at HW ⊢;clear hd;go_enter Tryz.func59,Tryz.ntmps59;go_wp2_with (go_at_call 26; go_fit (HW.o _ ((HB.o.alloc HB.o.size _).alloc (Nat.le_trans HB.o.size (by simp)) _)));rintro e x2 ⟨A',n',cp',rfl,hT,hb2⟩;obtain ⟨k1,k2,hB,hz⟩:=Qz hb2;have HT:=qh hT;have HB2:=qh hB;have HK:=qh (QD k2 (n:=6) rfl);obtain ⟨d0,d1,d2,d3,d4,d5⟩:=Qc k2;obtain ⟨g0,g1,g2,g3,g4,g5⟩:=Qk k2;clear hb2 k1 k2 hB hT;go_wp2_with fail;obtain ⟨q0,q1,q2,q3,q4,q5⟩:=Qq HK.o (.slice A' n' cp') (.int .i64 d.w1) (.int .i64 d.w2) (.int .i64 d.a1) (.int .i64 d.a2) (.int .i64 d.bad);refine bodyPost_ret (v:=.agg #[.slice A' n' cp',.int .i64 d.w1,.int .i64 d.w2,.int .i64 d.a1,.int .i64 d.a2,.int .i64 d.bad]) (by simp [results,Tryz.results59,go_sem,q0,q1,q2,q3,q4,q5]) rfl ?_;exact ⟨A',n',cp',rfl,HT.o,QL HB2.o (by omega) _ _ _ _ _ _⟩
abbrev rcO (A:Option Addr) (n cp:Nat) (c:Cur):Obj:=.cells #[.slice A n cp,.int .i64 c.w1,.int .i64 c.w2,.int .i64 c.a1,.int .i64 c.a2,.int .i64 c.bad] 61
abbrev rcZ:Obj:=.cells #[.slice none 0 0,.int .i64 0,.int .i64 0,.int .i64 0,.int .i64 0,.int .i64 0] 61
def LevAt (g:Nat) (k:Int):Prop:=∀ (d:Cur) (A:Option Addr) (n cp:Nat) (W0 W:World),Toks W0 (.slice A n cp) d.L -> Below W0.heap.size W0 W -> Ok d -> Fit g d -> d.L.length <= 100000 ->
 Calls Tryz.prog 168 #[.agg #[.slice A n cp,.int .i64 d.w1,.int .i64 d.w2,.int .i64 d.a1,.int .i64 d.a2,.int .i64 d.bad],.int .i64 k] W (RetLev W0 W d (S g d k))
def LevOk (g:Nat):Prop:=∀ k,1<=k->k<=7->LevAt g k
theorem lev_dead (c:Cur) (h0:c.bad ≠ 0) (k:Int) (A:Option Addr) (n cp:Nat) (W0 w:World) (h:Toks W0 (.slice A n cp) c.L) :
 Calls Tryz.prog 168 #[.agg #[.slice A n cp,.int .i64 c.w1,.int .i64 c.w2,.int .i64 c.a1,.int .i64 c.a2,.int .i64 c.bad],.int .i64 k] w (RetLev W0 w c (c,[])):=by
 have e0:(c.bad != 0)=true:=by simpa using h0
 have HT:=qh h;clear h h0;go_enter Tryz.func168,Tryz.ntmps168;go_wp2_with fail;refine bodyPost_ret (v:=.tuple #[.agg #[.slice A n cp,.int .i64 c.w1,.int .i64 c.w2,.int .i64 c.a1,.int .i64 c.a2,.int .i64 c.bad],.slice none 0 0]) (by simp [results,Tryz.results168,go_sem]) rfl ?_;exact ⟨A,n,cp,none,0,0,[],rfl,HT.o,tmsNil _,by simp [Value.ownBlock],fun _=>rfl,by simp,Qm _ _ _⟩
end
section
open Go.RowKit CurSpec TermSpec EvalSpec ActSpec NamesSpec ExprSpec
set_option maxRecDepth 100000
def RetOne (W:World) (B:Nat) (p:Cur × Ac) (e:Ending) (w':World):Prop :=
 ∃ A n cp,e = .returned (.agg #[.string p.2.s,.bool p.2.any,.slice A n cp])/\CurAt w' B p.1/\Tms w' (.slice A n cp) p.2.x/\(∀ b,(Value.slice A n cp).ownBlock=some b->W.heap.size<=b)/\W.grownBy w' (some B)
theorem rb_any (s:ByteArray) (w:World):(Instr.build 126 #[(0,.string s),(1,.bool true)]).run Tryz.prog w = .ok (.agg #[.string s,.bool true,.slice none 0 0]) w:=run_build w 126 _ _ (by kernel_rfl)
theorem rb_set (s:ByteArray) (A:Option Addr) (n c:Nat) (w:World):(Instr.build 126 #[(0,.string s),(2,.slice A n c)]).run Tryz.prog w = .ok (.agg #[.string s,.bool false,.slice A n c]) w:=run_build w 126 _ _ (by kernel_rfl)
theorem Qdr {w:World} {b:Nat} (h:Blk w b 3) (u0 u1 u2:Value) :
 (w.setCell ⟨b,0,none⟩ u0).cell? ⟨b,0,none⟩=some u0/\((w.setCell ⟨b,0,none⟩ u0).setCell ⟨b,1,none⟩ u1).cell? ⟨b,1,none⟩=some u1 /\
 (((w.setCell ⟨b,0,none⟩ u0).setCell ⟨b,1,none⟩ u1).setCell ⟨b,2,none⟩ u2).cell? ⟨b,2,none⟩=some u2 :=
 ⟨h.read 0 (by omega) _,(h.set _ _).read 1 (by omega) _,((h.set _ _).set _ _).read 2 (by omega) _⟩
theorem QaA (w:World) (b:Nat) (u0 u1 u2:Value):w.grownBy (((w.setCell ⟨b,0,none⟩ u0).setCell ⟨b,1,none⟩ u1).setCell ⟨b,2,none⟩ u2) (some b):=Ql (Ql (Ql (Qx _ _) 0 _) 1 _) 2 _
theorem QgR {w x y:World} {B:Nat} {o:Obj} (h:(w.alloc o).grownBy x (some B)) (hy:x.grownBy y (some w.heap.size)):w.grownBy y (some B):=by
 have hz:=h.size;rw [World.size_alloc] at hz;exact ⟨hy.os.trans h.os,hy.tape.trans h.tape,hy.output.trans h.output,Nat.le_trans (by omega) hy.size,fun i hi hn=>(hy.block i (by omega) (by simp; omega)).trans ((h.block i (by rw [World.size_alloc]; omega) hn).trans (heap_alloc_old _ _ hi))⟩
theorem CurAt.own {x y:World} {B k:Nat} {c:Cur} (h:CurAt x B c) (hy:x.grownBy y (some k)) (hlt:B<k):CurAt y B c:=h.but hy hlt
theorem QF {x y:World} {b B:Nat} {o:Obj} (h:x.heap[b]?=some o) (hb:x.grownBy y (some B)) (hne:b≠B):y.heap[b]?=some o:=(hb.block b (Array.getElem?_eq_some_iff.1 h).1 (by simpa using hne)).trans h
theorem Jk {w w':World} {B:Nat} {c:Cur} (h:SignsIn w) (hc:CurAt w B c) (hb:w.grownBy w' (some B)):SignsIn w':=by
 refine h.of (hb.block _ h.pos fun e=>?_);obtain ⟨T,fr,h⟩:=h;obtain ⟨b,off,n,cp,hB,_⟩:=hc
 injection e with e
 rw [<- e,h] at hB;simp only [Option.some.injEq,Obj.cells.injEq] at hB;exact absurd ((congrArg Array.size hB.1).symm.trans rfl) (show ¬ _=signsV.size by rw [show signsV.size=55 by decide]; simp)
theorem Qez (B:Nat) (c:Cur) (w:World) (hs:SignsIn w) (h:CurAt w B c) (ok:Ok c) :
 Calls Tryz.prog 153 #[.pointer (some ⟨B,0,none⟩)] w (RetOne w B (oneR c)):=by
 have hB:=h.lt;have b1:=rb_any;have b2:=rb_set;have h1:=h.alloc (.cells #[.string ⟨#[]⟩,.bool false,.slice none 0 0] 126);have hk:=heap_alloc_new w (.cells #[.string ⟨#[]⟩,.bool false,.slice none 0 0] 126);have hs1:=hs.alloc (.cells #[.string ⟨#[]⟩,.bool false,.slice none 0 0] 126);obtain ⟨w1,hw1⟩:∃ w1,w.alloc (.cells #[.string ⟨#[]⟩,.bool false,.slice none 0 0] 126)=w1:=⟨_,rfl⟩;have hsz:w1.heap.size=w.heap.size+1:=by rw [<- hw1,World.size_alloc]
 rw [hw1] at h1 hk hs1;have HK:=qh hk;have HS:=qh hs1;have HT:=qh (take_at B c 1 wAny w1 h1);have HCU:=qh h1;have HW:=qh hw1;have HSZ:=qh hsz;obtain ⟨P,hP⟩:∃ P,P=oneR c:=⟨_,rfl⟩;rw [<- hP]
 by_cases hb:isB c 1 wAny=true
 ·have HP:Hid (P = (nameC (on c),⟨nameS (on c),true,[]⟩)):=qh (by rw [hP]; unfold oneR; rw [if_pos hb])
  rw [hb,show take c 1 wAny=on c by unfold take; rw [if_pos hb]] at HT;have HN:=qh (fun W (hW:CurAt W B (on c))=>Zj B (on c) ok.on W hW);clear hP hb h hs h1 hk hs1 hw1 hsz ok;go_enter Tryz.func153,Tryz.ntmps153;go_wp2_with (rw [HW.o]; go_at_call 46; go_fit HT.o);rintro e x2 ⟨rfl,hc2,hb2⟩;have HB2:=qh hb2;have HC2:=qh hc2;clear hb2 hc2;go_wp2_with (go_at_call 41; go_fit (HN.o _ HC2.o));rintro e x3 ⟨rfl,hc3,hb3⟩;have HB3:=qh (Qt HB2.o hb3);have HC3:=qh hc3;have hk3:=QF HK.o HB3.o (show w.heap.size≠B by omega);have HK3:=qh hk3;obtain ⟨c0,c1,c2⟩:=Qj hk3;obtain ⟨f0,f1,f2⟩:=JW hk3;obtain ⟨s,hs⟩:∃ s,s=nameS (on c):=⟨_,rfl⟩;rw [<- hs] at HP ⊢;clear hb3 hc3 hk3 hs;go_wp2_with fail;obtain ⟨q0,q1,q2⟩:=Qdr (QD HK3.o (n:=3) rfl) (.string s) (.bool true) (.slice none 0 0);refine bodyPost_ret (v:=.agg #[.string s,.bool true,.slice none 0 0]) (by simp [results,Tryz.results153,go_sem,q0,q1,q2]) rfl ?_;have hb3:=HB3.o;rw [<- HW.o] at hb3;refine ⟨none,0,0,by rw [HP.o],?_,?_,by simp [Value.ownBlock],QgR hb3 (QaA _ _ _ _ _)⟩
  ·rw [HP.o]; exact HC3.o.own (QaA _ _ _ _ _) (by omega)
  ·rw [HP.o]; exact ⟨0,rfl,Rdk.nil 3 _⟩
 ·have HP:Hid (P = ((rdE (want (nameC c) 3 wSet)).1,⟨nameS c,false,(rdE (want (nameC c) 3 wSet)).2⟩)):=qh (by rw [hP]; unfold oneR; rw [if_neg hb])
  have hb':isB c 1 wAny=false:=by simpa using hb
  rw [hb',show take c 1 wAny=c by unfold take; rw [if_neg hb]] at HT;have HN:=qh (fun W (hW:CurAt W B c)=>Zj B c ok W hW);have HWA:=qh (fun W (hW:CurAt W B (nameC c))=>Jl B (nameC c) 3 wSet W hW);have HRD:=qh (fun W (hs:SignsIn W) (hW:CurAt W B (want (nameC c) 3 wSet))=>read_at B (want (nameC c) 3 wSet) _ W hs hW (ok.nameC.want 3 wSet) (Qcq _));clear hP hb hb' h hs h1 hk hs1 hw1 hsz ok;go_enter Tryz.func153,Tryz.ntmps153;go_wp2_with (rw [HW.o]; go_at_call 46; go_fit HT.o);rintro e x2 ⟨rfl,hc2,hb2⟩;have HB2:=qh hb2;have HC2:=qh hc2;clear hb2 hc2;go_wp2_with (go_at_call 41; go_fit (HN.o _ HC2.o));rintro e x3 ⟨rfl,hc3,hb3⟩;have HB3:=qh (Qt HB2.o hb3);have HC3:=qh hc3;clear hb3 hc3;go_wp2_with (go_at_call 21; go_fit (HWA.o _ HC3.o));rintro e x4 ⟨rfl,hc4,hb4⟩;have HB4:=qh (Qt HB3.o hb4);have HC4:=qh hc4;clear hb4 hc4;have HS4:Hid (SignsIn x4):=qh (Jk HS.o HCU.o HB4.o);go_wp2_with (go_at_call 155; go_fit (HRD.o _ HS4.o HC4.o));rintro e x5 ⟨A5,n5,c5,rfl,hc5,ht5,hn5,hb5,ho5⟩;have HB5:=qh (Qt HB4.o hb5);have HO5:=qh (fun b hb=>Nat.le_trans HB4.o.size (ho5 b hb));have HC5:=qh (And.intro hc5 ht5);have hk5:=QF HK.o HB5.o (show w.heap.size≠B by omega);have HK5:=qh hk5;obtain ⟨c0,c1,c2⟩:=Qj hk5;obtain ⟨f0,f1,f2⟩:=JW hk5;obtain ⟨s,hs⟩:∃ s,s=nameS c:=⟨_,rfl⟩;rw [<- hs] at HP ⊢;clear hb5 hc5 hk5 hs ho5 ht5 hn5;go_wp2_with fail;obtain ⟨q0,q1,q2⟩:=Qdr (QD HK5.o (n:=3) rfl) (.string s) (.bool false) (.slice A5 n5 c5);refine bodyPost_ret (v:=.agg #[.string s,.bool false,.slice A5 n5 c5]) (by simp [results,Tryz.results153,go_sem,q0,q1,q2]) rfl ?_;have hb5:=HB5.o;rw [<- HW.o] at hb5;refine ⟨A5,n5,c5,by rw [HP.o],?_,?_,fun b hb=>by have:=HO5.o b hb; have:=HSZ.o; omega,QgR hb5 (QaA _ _ _ _ _)⟩
  ·rw [HP.o]; exact HC5.o.1.own (QaA _ _ _ _ _) (by omega)
  ·rw [HP.o]
   refine JJ HC5.o.2 (QaA _ _ _ _ _) fun hb=>?_
   have:=HO5.o _ hb;have:=HSZ.o;omega
end
section
open Go.RowKit CurSpec TermSpec EvalSpec ActSpec NamesSpec ExprSpec
set_option maxRecDepth 100000
theorem inf_act:(Tryz.prog.info? 126).map (fun i=>(i.zero,i.size,i.bytes))=some (some (.agg #[.string ByteArray.empty,.bool false,.slice none 0 0]),3,48):=by kernel_rfl
def AcsFar (B0:Nat) (w:World) (v:Value) (l:List Ac):Prop:=∃ ps:List AP,ps.map (·.a)=l/\Rdk 3 w v l.length (acsV ps)/\(∀ p∈ps,Tms w (.slice p.xA p.xn p.xc) p.a.x)/\(∀ b,v.ownBlock=some b->B0<=b)/\∀ p∈ps,0<p.xn->∀ b,(Value.slice p.xA p.xn p.xc).ownBlock=some b->B0<=b
theorem AcsFar.acs {B0:Nat} {w:World} {v:Value} {l:List Ac} (h:AcsFar B0 w v l):Acs w v l:=by
 obtain ⟨ps,h1,h2,h3,-⟩:=h;exact ⟨ps,h1,h2,h3⟩
theorem AcsFar.nil (B0:Nat) (w:World):AcsFar B0 w (.slice none 0 0) []:=⟨[],rfl,Rdk.nil 3 _,by simp,by simp [Value.ownBlock],by simp⟩
structure RowA (W:World) (B:Nat) (wr:World) (pv:Value) (ps:List AP):Prop where
 own:wr.ownsRow W.heap.size 126 3 pv ps.length (acsV ps)
 tms:∀ p∈ps,Tms wr (.slice p.xA p.xn p.xc) p.a.x
 apart:∀ p∈ps,0<p.xn->∀ b,(Value.slice p.xA p.xn p.xc).ownBlock=some b->W.heap.size<=b/\pv.ownBlock≠some b/\b<wr.heap.size
 grown:W.grownBy wr (some B)
 lt:B<W.heap.size
theorem tms_lt {w:World} {A:Option Addr} {n c:Nat} {l:List Tm} (h:Tms w (.slice A n c) l) (h0:0 < n) {b:Nat} (hb:(Value.slice A n c).ownBlock = some b):b < w.heap.size:=by
 obtain ⟨m,hm,A',c',heq,hc,hl,hA⟩:=h
 cases heq
 obtain ⟨b',off,rfl,hlt,_⟩:=hA h0
 injection hb with hb
 subst hb;exact hlt
section
variable {W wr w':World} {B:Nat} {pv:Value} {ps:List AP}
theorem Qgo {A:Option Addr} {n c:Nat} {l:List Tm} {ob:Option Nat} (h:Tms wr (.slice A n c) l) (hb:wr.grownBy w' ob) (hne:0 < n -> ∀ b,(Value.slice A n c).ownBlock = some b -> ob ≠ some b):Tms w' (.slice A n c) l:=by
 obtain ⟨m,hm,A',c',heq,hc,hl,hA⟩:=h
 cases heq
 refine ⟨_,hm,A,c,rfl,hc,hl,fun h0=>?_⟩;obtain ⟨b,off,rfl,hlt,hcell⟩:=hA h0;refine ⟨b,off,rfl,Nat.lt_of_lt_of_le hlt hb.size,fun j u hj=>?_⟩;have:=hb.block b hlt (fun e=>hne h0 b rfl e.symm);rw [<- hcell j u hj];simp [World.cell?,this]
theorem RowA.but (h:RowA W B wr pv ps) (hb:wr.grownBy w' (some B)):RowA W B w' pv ps :=
 ⟨QaI h.own hb h.lt,fun p hp=>Qgo (h.tms p hp) hb (fun h0 b e he=>by have h1:=(h.apart p hp h0 b e).1; have h2:=h.lt; injection he with he; omega),fun p hp h0 b e=>⟨(h.apart p hp h0 b e).1,(h.apart p hp h0 b e).2.1,Nat.lt_of_lt_of_le (h.apart p hp h0 b e).2.2 hb.size⟩,Qt h.grown hb,h.lt⟩
theorem RowA.keep (h:RowA W B wr pv ps) (hb:Below wr.heap.size wr w'):RowA W B w' pv ps:=h.but (QH hb)
theorem RowA.far (h:RowA W B wr pv ps):AcsFar W.heap.size wr pv (ps.map (·.a)):=⟨ps,rfl,by rw [List.length_map]; exact Rdk.own h.own,h.tms,fun b hb=>(Qs h.own b hb).1,fun p hp h0 b hb=>(h.apart p hp h0 b hb).1⟩
theorem RowA.acs (h:RowA W B wr pv ps):Acs wr pv (ps.map (·.a)):=⟨ps,rfl,by rw [List.length_map]; exact Rdk.own h.own,h.tms⟩
theorem RowA.add {p:AP} {pv':Value} {o:Obj} (h:RowA W B wr pv ps) (ht:Tms wr (.slice p.xA p.xn p.xc) p.a.x)
 (hap:∀ b,(Value.slice p.xA p.xn p.xc).ownBlock=some b->W.heap.size<=b/\pv.ownBlock≠some b)
 (hrow:w'.ownsRow W.heap.size 126 3 pv' (ps.length+1) (acsV ps++acsV [p])) (hg:(wr.alloc o).grownBy w' pv.ownBlock) (hob:pv'.ownBlock=pv.ownBlock\/pv'.ownBlock=some (wr.alloc o).heap.size) :
 RowA W B w' pv' (ps++[p]):=by
 have ha:Below wr.heap.size wr (wr.alloc o):=KitC.Qh wr o;have hbd:=fun j hj=>(Qs h.own j hj).1
 have hall:∀ q ∈ ps ++ [p],Tms wr (.slice q.xA q.xn q.xc) q.a.x /\ (0 < q.xn -> ∀ b,(Value.slice q.xA q.xn q.xc).ownBlock = some b -> W.heap.size <= b /\ pv.ownBlock ≠ some b /\ b < wr.heap.size):=fun q hq => by
  rcases List.mem_append.1 hq with hq | hq
  ·exact ⟨h.tms q hq,h.apart q hq⟩
  ·rw [List.mem_singleton] at hq
   subst hq;exact ⟨ht,fun h0 b hb=>⟨(hap b hb).1,(hap b hb).2,tms_lt ht h0 hb⟩⟩
 refine ⟨by rw [<- Qhd,List.length_append]; exact hrow,fun q hq=>Qgo ((hall q hq).1.keep ha) hg fun h0 b hb=>((hall q hq).2 h0 b hb).2.1,fun q hq h0 b hb=>?_,?_,h.lt⟩
 ·obtain ⟨h1,h2,h3⟩:=(hall q hq).2 h0 b hb
  refine ⟨h1,?_,Nat.lt_of_lt_of_le h3 (Nat.le_trans ha.size hg.size)⟩
  rcases hob with e | e
  ·rw [e]; exact h2
  ·rw [e,World.size_alloc]; intro e; injection e with e; omega
 ·have hgw:=h.grown
  refine ⟨hg.os.trans hgw.os,hg.tape.trans hgw.tape,hg.output.trans hgw.output,Nat.le_trans hgw.size (Nat.le_trans ha.size hg.size),fun i hi hn=>?_⟩;have hi2:i<wr.heap.size:=Nat.lt_of_lt_of_le hi hgw.size;refine (hg.block i (Nat.lt_of_lt_of_le hi2 ha.size) fun e=>?_).trans ((ha.block i hi2).trans (hgw.block i hi hn));have:=hbd i e.symm;omega
theorem RowA.one {p:AP} (hg:W.grownBy wr (some B)) (hB:B < W.heap.size) (ht:Tms wr (.slice p.xA p.xn p.xc) p.a.x) (hap:∀ b,(Value.slice p.xA p.xn p.xc).ownBlock = some b -> W.heap.size <= b) :
 RowA W B (wr.alloc (.cells #[.string p.a.s,.bool p.a.any,.slice p.xA p.xn p.xc] 126)) (.slice (some ⟨wr.heap.size,0,none⟩) 1 1) [p]:=by
 have ha:Below wr.heap.size wr (wr.alloc (.cells #[.string p.a.s,.bool p.a.any,.slice p.xA p.xn p.xc] 126)):=KitC.Qh wr _;refine ⟨World.ownsRow_lit wr _ 1 hg.size (by decide) rfl,fun q hq=>?_,fun q hq h0 b hb=>?_,Qt hg (QH ha),hB⟩
 ·rw [List.mem_singleton] at hq
  subst hq;exact ht.keep ha
 ·rw [List.mem_singleton] at hq
  subst hq;have:=tms_lt ht h0 hb;refine ⟨hap b hb,fun e=>?_,Nat.lt_of_lt_of_le this ha.size⟩
  injection e with e
  simp only at e;omega
theorem acs_lit {p:AP} {k:Nat} (hk:k = wr.heap.size):Rdk 3 (wr.alloc (.cells #[.string p.a.s,.bool p.a.any,.slice p.xA p.xn p.xc] 126)) (.slice (some ⟨k,0,none⟩) 1 1) 1 (acsV [p]):=by
 subst hk;exact Rdk.own (base:=0) (World.ownsRow_lit wr _ 1 (Nat.zero_le _) (by decide) rfl)
end
theorem row_cur {w x y:World} {o:Obj} {B:Nat} {c:Cur} {pv:Value} {n:Nat} {xs:List Value} (hc:CurAt x B c) (hs:SignsIn x) (hrow:(x.alloc o).ownsRow w.heap.size 126 3 pv n xs) (hB:B < w.heap.size) (hg:(x.alloc o).grownBy y pv.ownBlock):CurAt y B c /\ SignsIn y:=by
 have h1:=hc.alloc o;have h2:=hs.alloc o;have hbd:=fun j hj=>(Qs hrow j hj).1
 refine ⟨?_,h2.of (hg.block _ h2.pos fun e=>?_)⟩
 ·obtain ⟨b,off,n,cp,h,hne,hn,hT⟩:=h1
  have hlt:=(Array.getElem?_eq_some_iff.1 h).1;refine ⟨b,off,n,cp,(hg.block _ hlt fun e=>by have:=hbd B e.symm; omega).trans h,hne,hn,?_⟩;obtain ⟨m,hm,A,c',heq,hc',hl,hA⟩:=hT
  cases heq
  refine ⟨_,hm,_,cp,rfl,hc',hl,fun h0=>?_⟩;obtain ⟨b',off',h3,hlt',hcell⟩:=hA h0
  cases h3
  refine ⟨b,off,rfl,Nat.lt_of_lt_of_le hlt' hg.size,fun j u hj=>?_⟩;have:=hg.block b hlt' fun e=>by have:=hbd b e.symm; omega
  rw [<- hcell j u hj];simp [World.cell?,this]
 ·have h3:=hbd _ e.symm
  obtain ⟨T,fr,h⟩:=h2
  rcases hrow.2 with ⟨h4,_⟩ | ⟨g,cap,cur,h4,_,h5,_,_,h6,_⟩
  ·rw [h4] at e; cases e
  ·rw [h4] at e
   injection e with e
   rw [<- show 2=g from e,h] at h5;simp only [Option.some.injEq,Obj.cells.injEq] at h5;have h7:=congrArg Array.size h5.1;rw [show signsV.size=55 by decide,h6] at h7;omega
def RetActsF (W:World) (B:Nat) (p:Cur × List Ac) (e:Ending) (w':World):Prop:=∃ A n cp,e = .returned (.slice A n cp)/\CurAt w' B p.1/\AcsFar W.heap.size w' (.slice A n cp) p.2/\W.grownBy w' (some B)
def ReadRel (W:World) (B:Nat) (F:Cur × List Ac) (gh:Nat) (pv:Value) (wr:World):Prop :=
 ∃ (c:Cur) (ps:List AP),c.L.length<=gh/\Ok c/\CurAt wr B c/\SignsIn wr/\RowA W B wr pv ps/\Few9 c (ps.map (·.a))/\tailR c (ps.map (·.a))=F
theorem QdT (B:Nat) (c:Cur) (w:World) (hs:SignsIn w) (h:CurAt w B c) (ok:Ok c) :
 Calls Tryz.prog 124 #[.pointer (some ⟨B,0,none⟩)] w (RetActsF w B (readA c)):=by
 have hB:=h.lt;obtain ⟨i0,hi,hz0,hz1,hz2⟩:=info_parts inf_act;have HI:=qh (And.intro hi (And.intro hz0 (And.intro hz1 hz2)));have H1:=qh (Qez B c w hs h ok);have HSW:=qh (And.intro hs h);obtain ⟨F,hF⟩:∃ F,F=allR c []:=⟨_,rfl⟩;have HR:Hid (readA c=if F.1.bad=0 then F else (F.1,[])):=qh (by rw [hF]; rfl);have HST:Hid (tailR (oneR c).1 [(oneR c).2]=F):=qh (by rw [hF,QcE]; rfl);have HOK1:=qh (oneR_ok ok);have HBB:=qh hB;obtain ⟨R,hR⟩:∃ R,R=readA c:=⟨_,rfl⟩;rw [<- hR] at HR ⊢;obtain ⟨⟨c1,a1⟩,h1⟩:∃ p,p=oneR c:=⟨_,rfl⟩;rw [<- h1] at H1 HST HOK1;clear hi hz0 hz1 hz2 hs h ok hF hR h1;go_enter Tryz.func124,Tryz.ntmps124;go_wp2_with (go_at_call 153; go_fit H1.o);rintro e w1 ⟨xA,xn,xc,rfl,hc1,ht1,hb1,hg1⟩
 have HST1:Hid (ReadRel w B F c1.L.length (.slice (some ⟨w1.heap.size,0,none⟩) 1 1) (w1.alloc (.cells #[.string a1.s,.bool a1.any,.slice xA xn xc] 126))):=Lib.hid
  ⟨c1,[⟨a1,xA,xn,xc⟩],Nat.le_refl _,HOK1.o,hc1.alloc _,(Jk HSW.o.1 HSW.o.2 hg1).alloc _,RowA.one (p:=⟨a1,xA,xn,xc⟩) hg1 hB ht1 (fun b hb=>by have:=hb1 b hb; omega),⟨by simp,fun h=>by simp at h⟩,HST.o⟩
 clear hc1 ht1 hb1 hg1;go_wp2_with fail
 go_loopg [3] (c1.L.length) (fun gh pv wr=>ReadRel w B F gh pv wr)
 case atStart=>exact HST1.o
 case round =>
  obtain ⟨d,ps,hgh,hok,hcur,hsg,hrow,hfew,htail⟩:=hrel;have HGH:=qh hgh;have HOK:=qh hok;have HSG:=qh hsg;have HROW:=qh hrow;have HFEW:=qh hfew;have HTAIL:=qh htail;have HTK:=qh (take_at B d 3 wCom wr hcur);have HCUR:=qh hcur;obtain ⟨pA,pc,rfl⟩:=QR hrow.own;obtain ⟨n,hn⟩:∃ n,n=ps.length:=⟨_,rfl⟩;rw [<- hn];have HN:=qh hn
  by_cases hb:isB d 3 wCom=true
  ·have h0:=(Qv hb (by decide))
   have HF1:=qh (few9_step hfew hb)
   have h8:ps.length <= 8:=by
    have h1:=hfew.1;have h2:=hfew.2;rw [List.length_map] at h1 h2
    rcases Nat.lt_or_ge ps.length 9 with h' | h'
    ·omega
    ·exact absurd h0.1 (h2 (by omega))
   have HLE:=qh (ZN (on d) (ps.map (·.a))).1;have HLL:=qh h0.2.1;have HOK2:=qh (Qco (ps.map (·.a)) hok.on);have HT1:=qh (Qfv (out:=ps.map (·.a)) hb);have HNB:=qh (Qfv (out:=ps.map (·.a)) hb);rw [hb,show take d 3 wCom=on d by unfold take; rw [if_pos hb]] at HTK;have HD:Hid ((stepR (on d) (ps.map (·.a)))=((oneR (fullR (on d) (ps.map (·.a)))).1,ps.map (·.a)++[(oneR (fullR (on d) (ps.map (·.a)))).2])):=qh rfl;have HOKD:=qh (QeT (ps.map (·.a)) hok.on);have HFU:Hid (fullR (on d) (ps.map (·.a))=if n=8 then fail (on d) 8 else on d):=qh (by unfold fullR; rw [List.length_map,hn]);obtain ⟨D,hD⟩:∃ D,D=fullR (on d) (ps.map (·.a)):=⟨_,rfl⟩;rw [<- hD] at HD HOKD HFU;have HONE:=qh (fun W hs hc=>Qez B D W hs hc HOKD.o);obtain ⟨⟨c2,a2⟩,h2⟩:∃ q,q=oneR D:=⟨_,rfl⟩;rw [<- h2] at HD HONE;rw [HD.o] at HF1 HLE HOK2 HT1;have HL1:Hid (n+1<=maxLen):=qh (by unfold maxLen; omega);have HL2:Hid ((n+1)*48<=140737488355328):=qh (by omega);clear hgh hok hfew htail hb h0 h2 hD HNB
   by_cases h8e:n=8
   ·have g1:((n:Int) == 8) = true:=by simp; omega
    have g1':(n==8)=true:=by simp; omega
    have HFD:Hid (D=fail (on d) 8):=qh (by rw [HFU.o,if_pos h8e]);clear h8e h8 hn hrow hcur hsg;go_wp2_with (go_at_call 46; go_fit HTK.o);rintro e x2 ⟨rfl,hc2,hg2⟩;have HRW0:=qh (HROW.o.but hg2);have HS2:=qh (Jk HSG.o HCUR.o hg2);have HFL:=qh (Zg B (on d) 8 x2 hc2);have HC2:=qh hc2;clear hc2 hg2;go_wp2_with (go_at_call 47; go_fit HFL.o);rintro e x3 ⟨rfl,hc3,hg3⟩;rw [<- HFD.o] at hc3;have HCD:=qh hc3;have HSD:=qh (Jk HS2.o HC2.o hg3);have HRW:=qh (HRW0.o.but hg3);clear hc3 hg3;go_wp2_with (go_at_call 153; go_fit (HONE.o _ HSD.o HCD.o));rintro e x4 ⟨xA,xn,xc,rfl,hc4,ht4,hb4,hg4⟩;have hrow4:=HRW.o.but hg4;have hbd4:=fun j hj=>(Qs HRW.o.own j hj).2
    have HADD:=qh (fun (pv':Value) (w':World) hrow hg hob=>hrow4.add (w':=w') (p:=⟨a2,xA,xn,xc⟩) (pv':=pv') (o:=.cells #[.string a2.s,.bool a2.any,.slice xA xn xc] 126) ht4 (fun b hb=>⟨by have:=hb4 b hb; have:=HRW.o.grown.size; have:=HBB.o; omega,fun e=>by have:=hbd4 b e; have:=hb4 b hb; omega⟩) hrow hg hob);have HROW4:=qh (Q9 hrow4.own (KitC.Qh x4 (.cells #[.string a2.s,.bool a2.any,.slice xA xn xc] 126)));have HLIT:=qh (acs_lit (wr:=x4) (p:=⟨a2,xA,xn,xc⟩) rfl);have HSZ4:=qh hrow4.grown.size;have HC4:=qh (And.intro hc4 (Jk HSD.o HCD.o hg4));rw [<- HN.o] at HROW4;clear hc4 ht4 hb4 hg4 hrow4 hbd4;go_wp2_with (at_builtin; refine QQ _ rfl (.tmp 14) (.tmp 17) _ rfl w.heap.size 126 i0 (.agg #[.string ByteArray.empty,.bool false,.slice none 0 0]) 3 48 Tryz.underlying48 HI.o.1 HI.o.2.1 HI.o.2.2.1 HI.o.2.2.2 rfl (by decide) _ _ _ rfl HROW4.o _ 1 (acsV [⟨a2,xA,xn,xc⟩]) rfl HLIT.o (Qh2 _) HL1.o HL2.o ?_ ?_; (have:=HSZ4.o; simp; omega); intro p2 w2 hrow2 hg2 hob2; have HE:Hid (w2.ownsRow w.heap.size 126 3 p2 (n+1) (acsV ps++acsV [⟨a2,xA,xn,xc⟩])/\(x4.alloc (.cells #[.string a2.s,.bool a2.any,.slice xA xn xc] 126)).grownBy w2 (Value.slice pA n pc).ownBlock/\(p2.ownBlock=(Value.slice pA n pc).ownBlock\/p2.ownBlock=some (x4.alloc (.cells #[.string a2.s,.bool a2.any,.slice xA xn xc] 126)).heap.size)):=qh ⟨hrow2,hg2,hob2⟩; clear hrow2 hg2 hob2);have hrow5:=HE.o;rw [HN.o] at hrow5;have HR5:=qh (HADD.o _ _ hrow5.1 hrow5.2.1 hrow5.2.2);have HC5:Hid (CurAt w2 B c2/\SignsIn w2):=qh (row_cur HC4.o.1 HC4.o.2 HROW4.o HBB.o HE.o.2.1);clear hrow5
    go_roundg (c2.L.length)
    case measure=>have h1:=HLE.o; have h2:=HLL.o; have h3:=HGH.o; omega
    case rel=>exact ⟨c2,ps++[⟨a2,xA,xn,xc⟩],Nat.le_refl _,HOK2.o,HC5.o.1,HC5.o.2,HR5.o,by rw [List.map_append]; exact HF1.o,by rw [<- HTAIL.o,HT1.o,List.map_append]; rfl⟩
   ·have g1:((n:Int) == 8) = false:=by simp; omega
    have g1':(n==8)=false:=by simp; omega
    have HFD:Hid (D=on d):=qh (by rw [HFU.o,if_neg h8e]);clear h8e h8 hn hrow hcur hsg;go_wp2_with (go_at_call 46; go_fit HTK.o);rintro e x3 ⟨rfl,hc3,hg3⟩;rw [<- HFD.o] at hc3;have HCD:=qh hc3;have HSD:=qh (Jk HSG.o HCUR.o hg3);have HRW:=qh (HROW.o.but hg3);clear hc3 hg3;go_wp2_with (go_at_call 153; go_fit (HONE.o _ HSD.o HCD.o));rintro e x4 ⟨xA,xn,xc,rfl,hc4,ht4,hb4,hg4⟩;have hrow4:=HRW.o.but hg4;have hbd4:=fun j hj=>(Qs HRW.o.own j hj).2
    have HADD:=qh (fun (pv':Value) (w':World) hrow hg hob=>hrow4.add (w':=w') (p:=⟨a2,xA,xn,xc⟩) (pv':=pv') (o:=.cells #[.string a2.s,.bool a2.any,.slice xA xn xc] 126) ht4 (fun b hb=>⟨by have:=hb4 b hb; have:=HRW.o.grown.size; have:=HBB.o; omega,fun e=>by have:=hbd4 b e; have:=hb4 b hb; omega⟩) hrow hg hob);have HROW4:=qh (Q9 hrow4.own (KitC.Qh x4 (.cells #[.string a2.s,.bool a2.any,.slice xA xn xc] 126)));have HLIT:=qh (acs_lit (wr:=x4) (p:=⟨a2,xA,xn,xc⟩) rfl);have HSZ4:=qh hrow4.grown.size;have HC4:=qh (And.intro hc4 (Jk HSD.o HCD.o hg4));rw [<- HN.o] at HROW4;clear hc4 ht4 hb4 hg4 hrow4 hbd4;go_wp2_with (at_builtin; refine QQ _ rfl (.tmp 14) (.tmp 17) _ rfl w.heap.size 126 i0 (.agg #[.string ByteArray.empty,.bool false,.slice none 0 0]) 3 48 Tryz.underlying48 HI.o.1 HI.o.2.1 HI.o.2.2.1 HI.o.2.2.2 rfl (by decide) _ _ _ rfl HROW4.o _ 1 (acsV [⟨a2,xA,xn,xc⟩]) rfl HLIT.o (Qh2 _) HL1.o HL2.o ?_ ?_; (have:=HSZ4.o; simp; omega); intro p2 w2 hrow2 hg2 hob2; have HE:Hid (w2.ownsRow w.heap.size 126 3 p2 (n+1) (acsV ps++acsV [⟨a2,xA,xn,xc⟩])/\(x4.alloc (.cells #[.string a2.s,.bool a2.any,.slice xA xn xc] 126)).grownBy w2 (Value.slice pA n pc).ownBlock/\(p2.ownBlock=(Value.slice pA n pc).ownBlock\/p2.ownBlock=some (x4.alloc (.cells #[.string a2.s,.bool a2.any,.slice xA xn xc] 126)).heap.size)):=qh ⟨hrow2,hg2,hob2⟩; clear hrow2 hg2 hob2);have hrow5:=HE.o;rw [HN.o] at hrow5;have HR5:=qh (HADD.o _ _ hrow5.1 hrow5.2.1 hrow5.2.2);have HC5:Hid (CurAt w2 B c2/\SignsIn w2):=qh (row_cur HC4.o.1 HC4.o.2 HROW4.o HBB.o HE.o.2.1);clear hrow5
    go_roundg (c2.L.length)
    case measure=>have h1:=HLE.o; have h2:=HLL.o; have h3:=HGH.o; omega
    case rel=>exact ⟨c2,ps++[⟨a2,xA,xn,xc⟩],Nat.le_refl _,HOK2.o,HC5.o.1,HC5.o.2,HR5.o,by rw [List.map_append]; exact HF1.o,by rw [<- HTAIL.o,HT1.o,List.map_append]; rfl⟩
  ·have HT1:Hid (F = (d,ps.map (·.a))):=qh (by rw [<- htail,QhV hb])
   have hb':isB d 3 wCom=false:=by simpa using hb
   rw [hb',show take d 3 wCom=d by unfold take; rw [if_neg hb]] at HTK;clear hgh hok hfew htail hb hb' hn;go_wp2_with (go_at_call 46; go_fit HTK.o);rintro e x2 ⟨rfl,hc2,hg2⟩;have HRW:=qh (HROW.o.but hg2);have HC2:=qh hc2;have hgood:=fun b hb=>JR _ _ _ _ x2 (Fl.of hc2) (b:=b) hb
   have HGOOD:=qh hgood;clear hc2 hg2 hgood hrow hcur hsg
   by_cases hd0:d.bad=0
   ·have HG:=qh (HGOOD.o true (by simpa using hd0))
    have HR2:Hid (R=(d,ps.map (·.a))):=qh (by rw [HR.o,HT1.o,if_pos hd0]);clear hd0;go_wp2_with (go_at_call 45; go_fit HG.o);rintro e x3 ⟨rfl,hb3⟩;have HE:=qh (And.intro (HC2.o.keep hb3) (HRW.o.keep hb3));clear hb3;go_wp2_with fail;go_ret;exact ⟨_,_,_,rfl,by rw [HR2.o]; exact HE.o.1,by rw [HR2.o,HN.o]; exact HE.o.2.far,HE.o.2.grown⟩
   ·have HG:=qh (HGOOD.o false (by simpa using hd0))
    have HR2:Hid (R=(d,[])):=qh (by rw [HR.o,HT1.o,if_neg hd0]);clear hd0;go_wp2_with (go_at_call 45; go_fit HG.o);rintro e x3 ⟨rfl,hb3⟩;have HE:=qh (And.intro (HC2.o.keep hb3) (HRW.o.keep hb3));clear hb3;go_wp2_with fail;go_ret;exact ⟨none,0,0,rfl,by rw [HR2.o]; exact HE.o.1,by rw [HR2.o]; exact AcsFar.nil _ _,HE.o.2.grown⟩
end
end Go.Proofs.YtbdalbpackfejaaGreatDoor
