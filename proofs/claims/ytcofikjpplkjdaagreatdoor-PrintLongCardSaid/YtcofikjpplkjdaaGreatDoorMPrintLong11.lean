/- RowB, EvalOps, EvalMem, TermLits, TermCome, TermRefDeep, TermCheck, joined. -/
import Derived.Test.YtcofikjpplkjdaaGreatDoorMPrintLong10
import Derived.Test.YtcofikjpplkjdaaGreatDoorMPrintLong04
import Derived.Test.YtcofikjpplkjdaaGreatDoorMPrintLong05
import Derived.Test.YtcofikjpplkjdaaGreatDoorMPrintLong03
import Derived.Test.YtcofikjpplkjdaaGreatDoorMPrintLong00
import Derived.Test.YtcofikjpplkjdaaGreatDoorMPrintLong07
import Derived.Test.YtcofikjpplkjdaaGreatDoorMPrintLong06
namespace Go.Proofs.YtcofikjpplkjdaaGreatDoor
open Go.RowKit CurSpec
def Dep (w:World) (S:Nat → Prop) (P:World → Prop):Prop:=∀ w',w.heap.size ≤ w'.heap.size → (∀ b,b < w.heap.size → S b → w'.heap[b]? = w.heap[b]?) → P w'
section
variable {w w':World} {S S':Nat → Prop} {P Q:World → Prop}
theorem Dep.go {ob:Option Nat} (h:Dep w S P) (hb:w.grownBy w' ob) (hne:∀ b,S b → ob ≠ some b):Dep w' S P :=
 fun w2 hz hx => h w2 (Nat.le_trans hb.size hz) fun b hlt hS => (hx b (Nat.lt_of_lt_of_le hlt hb.size) hS).trans (hb.block b hlt fun e => hne b hS e.symm)
theorem Dep.keep (h:Dep w S P) (hb:Below w.heap.size w w'):Dep w' S P :=
 fun w2 hz hx => h w2 (Nat.le_trans hb.size hz) fun b hlt hS => (hx b (Nat.lt_of_lt_of_le hlt hb.size) hS).trans (hb.block b hlt)
theorem Dep.alloc (h:Dep w S P) (o:Obj):Dep (w.alloc o) S P:=h.keep (KitC.below_one w o)
theorem Dep.mono (h:Dep w S P) (hs:∀ b,b < w.heap.size → S b → S' b):Dep w S' P:=fun w2 hz hx => h w2 hz fun b hlt hS => hx b hlt (hs b hlt hS)
theorem Dep.imp (h:Dep w S P) (hp:∀ w',P w' → Q w'):Dep w S Q:=fun w2 hz hx => hp _ (h w2 hz hx)
theorem Dep.and (h:Dep w S P) (g:Dep w S Q):Dep w S (fun x => P x ∧ Q x):=fun w2 hz hx => ⟨h w2 hz hx,g w2 hz hx⟩
theorem Dep.triv (h:∀ w',P w'):Dep w S P:=fun w2 _ _ => h w2
end
theorem grown_any {w w':World} (h:w.grownBy w' none) (k:Nat):w.grownBy w' (some k):=⟨h.os,h.tape,h.output,h.size,fun i hi _ => h.block i hi (by simp)⟩
theorem CurAt.row {w w':World} {B:Nat} {c:Cur} {ob:Option Nat} (h:CurAt w B c) (hb:w.grownBy w' ob) (hlt:∀ j,ob = some j → B < j):CurAt w' B c:=by
 rcases ob with _ | j
 ·exact h.but (grown_any hb (B + 1)) (Nat.lt_succ_self B)
 ·exact h.but hb (hlt j rfl)
theorem rdk_dep {w:World} {k n:Nat} {v:Value} {xs:List Value} {S:Nat → Prop} (h:Rdk k w v n xs) (hS:0 < n → ∀ b,v.ownBlock = some b → S b):Dep w S (fun x => Rdk k x v n xs):=by
 intro w2 hz hx
 obtain ⟨A,c,rfl,hc,hl,hA⟩:=h
 refine ⟨A,c,rfl,hc,hl,fun h0 => ?_⟩
 obtain ⟨b,off,rfl,hlt,hcell⟩:=hA h0
 refine ⟨b,off,rfl,Nat.lt_of_lt_of_le hlt hz,fun j u hj => ?_⟩
 rw [← hcell j u hj]
 simp [World.cell?,hx b hlt (hS h0 b rfl)]
theorem own_set {w:World} {base n k g cap:Nat} {e:TypeId} {xs:List Value} (h:w.ownsRow base e k (.slice (some ⟨g,0,none⟩) n cap) n xs) {i:Nat} (_hi:i < xs.length) (u:Value) :
 (w.setCell ⟨g,i,none⟩ u).ownsRow base e k (.slice (some ⟨g,0,none⟩) n cap) n (xs.set i u):=by
 refine ⟨by rw [List.length_set]; exact h.1,?_⟩
 have hl:=h.1
 rcases h.2 with ⟨h1,_⟩ | ⟨g',cap',cur,h1,h2,h3,h4,h5,h6,h7⟩
 ·cases h1
 ·injection h1 with h1 _ h8
  injection h1 with h1
  injection h1 with h1
  subst h1 h8
  refine .inr ⟨g,cap,cur.setIfInBounds i u,rfl,h2,block_setCell' h3 i u,h4,h5,by rw [Array.size_setIfInBounds,h6],?_⟩
  rw [← h7,Array.toList_setIfInBounds,List.take_set]
theorem own_cell {w:World} {base n k g cap:Nat} {e:TypeId} {xs:List Value} (h:w.ownsRow base e k (.slice (some ⟨g,0,none⟩) n cap) n xs):(∃ cur,w.heap[g]? = some (.cells cur e (0,0)) ∧ xs.length ≤ cur.size) ∧ ∀ i u,xs[i]? = some u → w.cell? ⟨g,i,none⟩ = some u:=by
 have hl:=h.1
 rcases h.2 with ⟨h1,_⟩ | ⟨g',cap',cur,h1,h2,h3,h4,h5,h6,h7⟩
 ·cases h1
 ·injection h1 with h1 _ h8
  injection h1 with h1
  injection h1 with h1
  subst h1 h8
  refine ⟨⟨cur,h3,by rw [h6,hl]; exact Nat.mul_le_mul_right k h4⟩,fun i u hi => ?_⟩
  have hi':i < xs.length:=(List.getElem?_eq_some_iff.1 hi).1
  rw [← h7,List.getElem?_take_of_lt (by omega),Array.getElem?_toList] at hi
  simp [World.cell?,h3,hi]
theorem own_at {w:World} {base n k:Nat} {e:TypeId} {v:Value} {xs:List Value} (h:w.ownsRow base e k v n xs) (h0:0 < n):∃ g cap,v = .slice (some ⟨g,0,none⟩) n cap ∧ n ≤ cap:=by
 rcases h.2 with ⟨_,h2⟩ | ⟨g,cap,cur,h1,h2,h3,h4,h5,h6,h7⟩
 ·omega
 ·exact ⟨g,cap,h1,h4⟩
theorem flat_set {α:Type} {k:Nat} {f:α → List Value} (hf:∀ a,(f a).length = k):∀ {l:List α} {i j:Nat} {a a':α} {u:Value},l[i]? = some a → j < k → f a' = (f a).set j u → (l.set i a').flatMap f = (l.flatMap f).set (i * k + j) u
 | [],_,_,_,_,_,h,_,_ => by simp at h
 | b :: t,0,j,a,a',u,h,hj,hu => by
   simp at h; subst h
   rw [List.set_cons_zero,List.flatMap_cons,List.flatMap_cons,Nat.zero_mul,Nat.zero_add,List.set_append_left _ _ (by rw [hf]; exact hj),hu]
 | b :: t,i + 1,j,a,a',u,h,hj,hu => by
   rw [List.set_cons_succ,List.flatMap_cons,List.flatMap_cons,List.set_append_right _ _ (by rw [hf,Nat.add_mul]; omega),hf,show (i + 1) * k + j - k = i * k + j by rw [Nat.add_mul]; omega,flat_set hf (l:=t) (by simpa using h) hj hu]
structure RowB {α:Type} (T:TypeId) (k:Nat) (cv:α → List Value) (nest:α → World → Prop) (W:World) (B:Nat) (wr:World) (pv:Value) (ps:List α):Prop where
 own:wr.ownsRow W.heap.size T k pv ps.length (ps.flatMap cv)
 dep:∀ p ∈ ps,Dep wr (fun b => W.heap.size ≤ b ∧ pv.ownBlock ≠ some b) (nest p)
 grown:W.grownBy wr (some B)
 lt:B < W.heap.size
section
variable {α:Type} {T:TypeId} {k:Nat} {cv:α → List Value} {nest:α → World → Prop} {W wr w':World} {B:Nat} {pv:Value} {ps:List α}
theorem RowB.nil (hg:W.grownBy wr (some B)) (hB:B < W.heap.size):RowB T k cv nest W B wr (.slice none 0 0) []:=⟨World.ownsRow_nil _ _ _ _,fun _ h => by simp at h,hg,hB⟩
theorem RowB.one {p:α} (hg:W.grownBy wr (some B)) (hB:B < W.heap.size) (hlen:(cv p).length = k) (hn:Dep wr (fun b => W.heap.size ≤ b) (nest p)):RowB T k cv nest W B (wr.alloc (.cells (cv p).toArray T)) (.slice (some ⟨wr.heap.size,0,none⟩) 1 1) [p]:=by
 refine ⟨?_,fun q hq => ?_,but_trans hg (but_below (KitC.below_one _ _)),hB⟩
 ·have:=World.ownsRow_lit (base:=W.heap.size) (e:=T) (size:=k) wr (cv p).toArray 1 hg.size (by decide) (by simp [hlen])
  simpa using this
 ·rw [List.mem_singleton] at hq
  subst hq
  refine fun w2 hz hx => hn w2 (Nat.le_trans (KitC.below_one wr _).size hz) fun b hlt hS => (hx b (by rw [World.size_alloc]; omega) ⟨hS,fun e => ?_⟩).trans (heap_alloc_old _ _ hlt)
  injection e with e
  simp only at e
  omega
theorem RowB.but (h:RowB T k cv nest W B wr pv ps) (hb:wr.grownBy w' (some B)):RowB T k cv nest W B w' pv ps :=
 ⟨own_but h.own hb h.lt,fun p hp => (h.dep p hp).go hb fun b hS e => by injection e with e; have:=hS.1; have:=h.lt; omega,but_trans h.grown hb,h.lt⟩
theorem RowB.keep (h:RowB T k cv nest W B wr pv ps) (hb:Below wr.heap.size wr w'):RowB T k cv nest W B w' pv ps:=h.but (but_below hb)
theorem RowB.shape (h:RowB T k cv nest W B wr pv ps):∃ A c,pv = .slice A ps.length c:=own_shape h.own
theorem RowB.add {p:α} {pv':Value} {o:Obj} (h:RowB T k cv nest W B wr pv ps) (hn:Dep wr (fun b => W.heap.size ≤ b ∧ pv.ownBlock ≠ some b) (nest p))
 (hrow:w'.ownsRow W.heap.size T k pv' (ps.length + 1) (ps.flatMap cv ++ cv p)) (hg:(wr.alloc o).grownBy w' pv.ownBlock) (hob:pv'.ownBlock = pv.ownBlock ∨ pv'.ownBlock = some (wr.alloc o).heap.size) :
 RowB T k cv nest W B w' pv' (ps ++ [p]):=by
 have ha:Below wr.heap.size wr (wr.alloc o):=KitC.below_one wr o
 have hall:∀ q ∈ ps ++ [p],Dep wr (fun b => W.heap.size ≤ b ∧ pv.ownBlock ≠ some b) (nest q):=fun q hq => by
  rcases List.mem_append.1 hq with hq | hq
  ·exact h.dep q hq
  ·rw [List.mem_singleton] at hq
   subst hq
   exact hn
 refine ⟨by simpa [List.length_append] using hrow,fun q hq => ?_,?_,h.lt⟩
 ·intro w2 hz hx
  refine (hall q hq) w2 (Nat.le_trans ha.size (Nat.le_trans hg.size hz)) fun b hlt hS => ?_
  have hlt2:b < (wr.alloc o).heap.size:=Nat.lt_of_lt_of_le hlt ha.size
  refine (hx b (Nat.lt_of_lt_of_le hlt2 hg.size) ⟨hS.1,fun e => ?_⟩).trans ((hg.block b hlt2 fun e => hS.2 e.symm).trans (ha.block b hlt))
  rcases hob with e' | e'
  ·exact hS.2 (e'.symm.trans e)
  ·rw [e'] at e; injection e with e; omega
 ·have hgw:=h.grown
  refine ⟨hg.os.trans hgw.os,hg.tape.trans hgw.tape,hg.output.trans hgw.output,Nat.le_trans hgw.size (Nat.le_trans ha.size hg.size),fun i hi hn => ?_⟩
  have hi2:i < wr.heap.size:=Nat.lt_of_lt_of_le hi hgw.size
  refine (hg.block i (Nat.lt_of_lt_of_le hi2 ha.size) fun e => ?_).trans ((ha.block i hi2).trans (hgw.block i hi hn))
  have:=(own_block_bd h.own i e.symm).1
  omega
theorem RowB.cur {c:Cur} {o:Obj} (h:RowB T k cv nest W B wr pv ps) (hc:CurAt wr B c) (hg:(wr.alloc o).grownBy w' pv.ownBlock):CurAt w' B c :=
 (hc.alloc o).row hg fun j e => by have:=(own_block_bd h.own j e).1; have:=h.lt; omega
theorem RowB.set {i j g cap:Nat} {p p':α} {u:Value} (h:RowB T k cv nest W B wr (.slice (some ⟨g,0,none⟩) ps.length cap) ps) (hlen:∀ a,(cv a).length = k) (hp:ps[i]? = some p) (hj:j < k) (hu:cv p' = (cv p).set j u)
 (hn:Dep wr (fun b => W.heap.size ≤ b ∧ (Value.slice (some ⟨g,0,none⟩) ps.length cap).ownBlock ≠ some b) (nest p')) :
 RowB T k cv nest W B (wr.setCell ⟨g,i * k + j,none⟩ u) (.slice (some ⟨g,0,none⟩) ps.length cap) (ps.set i p'):=by
 have hs:wr.grownBy (wr.setCell ⟨g,i * k + j,none⟩ u) (some g):=but_set (but_refl wr _) _ _
 have hi:=(List.getElem?_eq_some_iff.1 hp).1
 have hlt:i * k + j < (ps.flatMap cv).length:=by
  rw [flat_length hlen]
  have:(i + 1) * k ≤ ps.length * k:=Nat.mul_le_mul_right k hi
  rw [Nat.add_mul] at this
  omega
 refine ⟨?_,fun q hq => ?_,?_,h.lt⟩
 ·rw [List.length_set,flat_set hlen hp hj hu]
  exact own_set h.own hlt u
 ·have hall:Dep wr (fun b => W.heap.size ≤ b ∧ (Value.slice (some ⟨g,0,none⟩) ps.length cap).ownBlock ≠ some b) (nest q):=by
   rcases List.mem_or_eq_of_mem_set hq with hq | rfl
   ·exact h.dep q hq
   ·exact hn
  exact hall.go hs fun b hS e => hS.2 e
 ·exact but_set_new h.grown (own_block_bd h.own g rfl).1 _ _
theorem RowB.setCur {i g cap n:Nat} {u:Value} {c:Cur} (h:RowB T k cv nest W B wr (.slice (some ⟨g,0,none⟩) n cap) ps) (hc:CurAt wr B c):CurAt (wr.setCell ⟨g,i,none⟩ u) B c :=
 hc.row (but_set (but_refl wr _) _ _:wr.grownBy _ (some g)) fun j e => by injection e with e; have:=(own_block_bd h.own g rfl).1; have:=h.lt; omega
theorem RowB.far (h:RowB T k cv nest W B wr pv ps):Dep wr (fun b => W.heap.size ≤ b) (fun x => Rdk k x pv ps.length (ps.flatMap cv) ∧ ∀ p ∈ ps,nest p x) :=
 (rdk_dep (Rdk.own h.own) fun _ b e => (own_block_bd h.own b e).1).and fun w2 hz hx p hp => (h.dep p hp) w2 hz fun b hlt hS => hx b hlt hS.1
end
section
variable {P:Program}
theorem wpList_append_rowB {ops:Array Oper} {rest:List Oper} {o:Oper} {a:Act} {Q:Exit → Act → World → Prop} (hgd:o.guard = none) (s x:Operand) (t:TypeId)
 (ho:o.op = .call { callee:=.builtin .append,args:=#[s,x],argTypes:=#[t,t] })
 {α:Type} {e:TypeId} {k:Nat} {cv:α → List Value} {nest:α → World → Prop} {W wr:World} {B:Nat} {pv:Value} {ps:List α}
 (i:TypeInfo) (z:Value) (bytes:Nat) (ht:P.underlying t = some (.slice e)) (hi:P.info? e = some i) (hz:i.zero = some z)
 (hsize:i.size = k) (hby:i.bytes = bytes) (hzs:z.cells.size = k) (hk:0 < k)
 (h:RowB e k cv nest W B wr pv ps) (p:α) (hn:Dep wr (fun b => W.heap.size ≤ b ∧ pv.ownBlock ≠ some b) (nest p)) (hs:a.eval s = pv) (hx:a.eval x = .slice (some ⟨wr.heap.size,0,none⟩) 1 1)
 (hlen:(cv p).length = k) (h1:∀ u ∈ cv p,u.oneCell' = true) (h63:ps.length + 1 ≤ maxLen) (hbytes:(ps.length + 1) * bytes ≤ 140737488355328)
 (hK:∀ v' w',RowB e k cv nest W B w' v' (ps ++ [p]) → (∀ c,CurAt wr B c → CurAt w' B c) → wpList P ops Q rest (a.put o.dst v') w'):wpList P ops Q (o :: rest) a (wr.alloc (.cells (cv p).toArray e)):=by
 have hrow:=own_keep h.own (KitC.below_one wr (.cells (cv p).toArray e))
 refine wpList_append_rdk _ hgd s x t ho W.heap.size e i z k bytes ht hi hz hsize hby hzs hk pv ps.length (ps.flatMap cv) hs hrow _ 1 (cv p) hx ?_ h1 h63 hbytes ?_ fun v' w' hr hg hob => hK v' w' (h.add hn hr hg hob) fun c hc => h.cur hc hg
 ·refine ⟨_,1,rfl,Nat.le_refl _,by omega,fun _ => ⟨_,0,rfl,by simp,fun j u hj => ?_⟩⟩
  exact cell_of_block' (heap_alloc_new wr _) (by rw [Nat.zero_add,List.getElem?_toArray]; exact hj)
 ·have:=h.grown.size
  simp
  omega
end
end Go.Proofs.YtcofikjpplkjdaaGreatDoor
namespace Go.Proofs.YtcofikjpplkjdaaGreatDoor
open Go.RowKit TermSpec EvalSpec ValSpec
end Go.Proofs.YtcofikjpplkjdaaGreatDoor
namespace Go.Proofs.YtcofikjpplkjdaaGreatDoor
open Go.RowKit TermSpec EvalSpec NamesSpec Go.Lib
structure EP where
 vA:Option Addr
 vn:Nat
 vc:Nat
 iA:Option Addr
 im:Nat
 ic:Nat
def vrV (v:Vr):List Value:=[.string v.s,.int .i64 v.lo,.int .i64 v.hi,.int .i64 v.ini]
def vrsV (l:List Vr):List Value:=l.flatMap vrV
theorem vrV_length (v:Vr):(vrV v).length = 4:=rfl
theorem vrsV_get {l:List Vr} {i:Nat} {v:Vr} (h:l[i]? = some v):(vrsV l)[i * 4]? = some (.string v.s) ∧ (vrsV l)[i * 4 + 1]? = some (.int .i64 v.lo) ∧ (vrsV l)[i * 4 + 2]? = some (.int .i64 v.hi) ∧ (vrsV l)[i * 4 + 3]? = some (.int .i64 v.ini) :=
 ⟨flat_get (j:=0) vrV_length h (by omega),flat_get (j:=1) vrV_length h (by omega),flat_get (j:=2) vrV_length h (by omega),flat_get (j:=3) vrV_length h (by omega)⟩
def VarsIn (w:World) (A:Option Addr) (n c:Nat) (l:List Vr):Prop:=n = l.length ∧ Rdk 4 w (.slice A n c) n (vrsV l)
theorem VarsIn.keep {w w':World} {A:Option Addr} {n c:Nat} {l:List Vr} (h:VarsIn w A n c l) (hb:Below w.heap.size w w'):VarsIn w' A n c l:=⟨h.1,h.2.keep hb⟩
theorem VarsIn.at_ {w:World} {A:Option Addr} {n c:Nat} {l:List Vr} {i:Nat} {v:Vr} (h:VarsIn w A n c l) (hi:l[i]? = some v) :
 ∃ b off,A = some ⟨b,off,none⟩ ∧ b < w.heap.size ∧ w.cell? ⟨b,off + i * 4,none⟩ = some (.string v.s) ∧ w.cell? ⟨b,off + i * 4 + 1,none⟩ = some (.int .i64 v.lo) ∧ w.cell? ⟨b,off + i * 4 + 2,none⟩ = some (.int .i64 v.hi) ∧ w.cell? ⟨b,off + i * 4 + 3,none⟩ = some (.int .i64 v.ini):=by
 obtain ⟨hn,A',c',heq,hc,hl,hA⟩:=h
 cases heq
 have:=get_lt hi
 obtain ⟨b,off,rfl,hb,hcell⟩:=hA (by omega)
 obtain ⟨g0,g1,g2,g3⟩:=vrsV_get hi
 exact ⟨b,off,rfl,hb,hcell _ _ g0,by rw [Nat.add_assoc]; exact hcell _ _ g1,by rw [Nat.add_assoc]; exact hcell _ _ g2,by rw [Nat.add_assoc]; exact hcell _ _ g3⟩
theorem VarsIn.cap {w:World} {A:Option Addr} {n c:Nat} {l:List Vr} (h:VarsIn w A n c l):n ≤ c:=by
 obtain ⟨hn,A',c',heq,hc,hl,hA⟩:=h
 cases heq
 exact hc
structure EnvIn (w:World) (p:EP) (e:Ev):Prop where
 vars:VarsIn w p.vA p.vn p.vc e.vars
 ins:Rd w (.slice p.iA p.im p.ic) (strV e.ins)
 vbd:e.vars.length ≤ 9223372036854775807
 ibd:e.ins.length ≤ 9223372036854775807
theorem EnvIn.keep {w w':World} {p:EP} {e:Ev} (h:EnvIn w p e) (hb:Below w.heap.size w w'):EnvIn w' p e:=⟨h.vars.keep hb,h.ins.keep hb,h.vbd,h.ibd⟩
end Go.Proofs.YtcofikjpplkjdaaGreatDoor
namespace Go.Proofs.YtcofikjpplkjdaaGreatDoor
open Go.RowKit TermSpec
set_option maxRecDepth 100000
theorem max_if (a b:Int):max a b = if a < b then b else a:=by split <;> omega
def DeepRel (bs:List Int) (n:Nat) (v i:Value):Prop:=∃ k:Nat,k ≤ n ∧ i = .int .i64 k ∧ v = .int .i64 (deepest (bs.take k))
set_option maxHeartbeats 1000000 in
theorem deplit_any (o:Int) (v:Value) (bs:List Int) (w:World) (h:Rd w v (intV bs)) (hm:bs.length ≤ 4611686018427387903) (hb:∀ b ∈ bs,b ≤ 4611686018427387903) :
 Calls Tryz.prog 157 #[.int .i64 o,v] w (SameI w (depF o bs)):=by
 obtain ⟨A,n,c,rfl,hn,hc,hA⟩:=h.ints
 have HA:=Lib.hid hA
 have HN:=Lib.hid hn
 have HB:=Lib.hid hb
 have hm':n ≤ 4611686018427387903:=by omega
 clear hA hn h hc hm hb
 go_enter Tryz.func157,Tryz.ntmps157
 go_wp2_with fail
 go_loop [5,7,10] (fun v _ i => DeepRel bs n v i) (fun _ _ i => n - (intOf i).toNat)
 case atStart => exact ⟨0,Nat.zero_le _,rfl,rfl⟩
 case round =>
  obtain ⟨k,hk,rfl,rfl⟩:=hrel
  obtain ⟨g0,g1⟩:=deepest_bd (B:=4611686018427387903) (by omega) (bs.take k) (fun b h => HB.out b (List.mem_of_mem_take h))
  by_cases hlt:k < n
  ·obtain ⟨b,off,rfl,hb,hcell⟩:=HA.out (by omega)
   obtain ⟨x,hx⟩:∃ x,bs[k]? = some x:=get_some (by have:=HN.out; omega)
   have hck:=hcell k x hx
   have HS:Hid (deepest (bs.take (k + 1)) = if deepest (bs.take k) < x then x else deepest (bs.take k)):=Lib.hid (by rw [take_next hx,deepest_snoc])
   obtain ⟨d,hd⟩:∃ d,d = deepest (bs.take k):=⟨_,rfl⟩
   rw [← hd] at HS g0 g1 ⊢
   clear hcell hx hd
   go_wp2_with fail
   go_round
   case rel => exact ⟨k + 1,hlt,by simp,by rw [HS.out,← max_if]⟩
   case measure => simp [intOf]; omega
  ·go_wp2_with fail
   go_ret
   exact ⟨ret_int (by rw [List.take_of_length_le (by rw [HN.out]; omega)]; rfl),rfl⟩
end Go.Proofs.YtcofikjpplkjdaaGreatDoor
namespace Go.Proofs.YtcofikjpplkjdaaGreatDoor
open Go.RowKit TermSpec
set_option maxRecDepth 100000
theorem below_place {l:List Tm} {a q m k:Nat} (h:cnt q (l.drop (a + 1)) = some m) (hk:k < q) :
 ∃ x,(belows l a q)[k]? = some ((a + 1 + x:Nat):Int) ∧ 0 ≤ endA l ((a + 1 + x:Nat):Int) ∧ a + 1 + x ≤ max l.length (a + 1) ∧ (∀ f,(stack f (l.drop (a + 1))).take (k + 1) = (stack f (l.drop (a + 1))).take k ++ [come f (l.drop (a + 1 + x))]):=by
 have h':=h
 rw [show q = (k + 1) + (q - (k + 1)) by omega] at h'
 obtain ⟨z,_,hz,_,_⟩:=cnt_split h'
 obtain ⟨x,y,hx,hy,_⟩:=cnt_split hz
 have hle:=(cnt_le hx).1
 rw [List.length_drop] at hle
 refine ⟨x,?_,?_,by omega,fun f => ?_⟩
 ·rw [belows_get hk,hx]; rfl
 ·have:=(below_next h hk).1
  rw [hx] at this
  simp only [Option.getD_some] at this
  rw [this]; omega
 ·have:=stack_take_next (f:=f) hz hx
  rwa [List.drop_drop] at this
theorem come_at {f:Int → List Int → Int} {l:List Tm} {a:Nat} {t:Tm} (ht:l[a]? = some t):come f (l.drop a) = f t.op ((stack f (l.drop (a + 1))).take (arN t.op)):=by rw [drop_get ht,come_cons]
def ComeRel (f:Int → List Int → Int) (W:World) (l:List Tm) (a q:Nat) (p i:Value) (wr:World):Prop :=
 ∃ k:Nat,k ≤ q ∧ i = .int .i64 k ∧ RowI W wr p ((stack f (l.drop (a + 1))).take k)
def IHDep (A:Option Addr) (n c:Nat) (l:List Tm) (K:Nat):Prop:=∀ (a:Nat) (w:World),n ≤ a + K → Tms w (.slice A n c) l → 0 ≤ endA l a → Calls Tryz.prog 167 #[.slice A n c,.int .i64 a,.func (.func 157) #[] #[]] w (RetI w (come depF (l.drop a)))
set_option maxHeartbeats 2000000 in
theorem comeDep_step (A:Option Addr) (n c:Nat) (l:List Tm) (K:Nat) (hn:n = l.length) (hn62:n ≤ 70368744177664) (ih:IHDep A n c l K) (a:Nat) (w:World) (hK:n ≤ a + (K + 1)) (h:Tms w (.slice A n c) l) (he:0 ≤ endA l a) :
 Calls Tryz.prog 167 #[.slice A n c,.int .i64 a,.func (.func 157) #[] #[]] w (RetI w (come depF (l.drop a))):=by
 obtain ⟨k0,m0,hk0,hc0,_,_,_⟩:=endA_nn he
 obtain rfl:k0 = a:=by omega
 obtain ⟨t,m,ht,h0,_,hm⟩:=first_of hc0
 have han:=get_lt ht
 have HT:=Lib.hid h
 have HM:=Lib.hid hm
 have HIH:=Lib.hid ih
 have HBL:=Lib.hid (below_yes A n c l k0 w h hn hn62 t ht he)
 obtain ⟨b,off,rfl,hb,c0,-,-⟩:=h.at_ ht
 have HCELL:=Lib.hid c0
 have HCM:=Lib.hid (come_at (f:=depF) ht)
 have hq:=(ar_bd t.op).2
 have e0:=arN_of h0
 have hsl:=stack_len (f:=depF) hm
 have hdb:∀ b ∈ (stack depF (l.drop (k0 + 1))).take (arN t.op),b ≤ 4611686018427387903:=fun b hb => by
  have h1:=(stack_depth _ b (List.mem_of_mem_take hb)).2
  rw [List.length_drop] at h1
  omega
 have hdl:((stack depF (l.drop (k0 + 1))).take (arN t.op)).length ≤ 4611686018427387903:=by rw [List.length_take]; omega
 have HDB:=Lib.hid (And.intro hdl hdb)
 clear hdb hdl
 obtain ⟨o,ho⟩:∃ o,o = t.op:=⟨_,rfl⟩
 rw [← ho] at HBL HCELL HCM hq e0 HM hsl c0 HDB
 obtain ⟨q,hqe⟩:∃ q,q = arN o:=⟨_,rfl⟩
 rw [← hqe] at HBL HCM e0 HM hsl HDB
 have hq2:q ≤ 2:=by omega
 have hal:k0 < n:=by omega
 have hal':(k0:Int) < n:=by omega
 have hlen:l.length = n:=hn.symm
 obtain ⟨i0,hi,hz0,hz1,hz2⟩:=info_parts inf_int
 have HI:=Lib.hid (And.intro hi (And.intro hz0 (And.intro hz1 hz2)))
 have HLEN:=Lib.hid hlen
 have HSL:=Lib.hid hsl
 clear ht ho hqe hn h hc0 hk0 hm he h0 e0 han hi hz0 hz1 hz2 hq c0 ih hlen hsl
 go_enter Tryz.func167,Tryz.ntmps167
 go_wp2_with (go_at_call 158; (with_reducible refine HBL.out.mono ?_))
 rintro e w1 ⟨v2,rfl,hr2,hb1⟩
 obtain ⟨A2,n2,c2,rfl,hn2,hc2,hA2⟩:=hr2.ints
 rw [belows_length] at hn2
 obtain rfl:q = n2:=hn2
 have HA2:=Lib.hid hA2
 have HB1:=Lib.hid hb1
 clear hr2 hc2 hA2 hb1
 go_wp2_with fail
 go_loopw [7,9,14] (fun p _ i wr => ComeRel depF w1 l k0 q p i wr) (fun _ _ i _ => 3 - (intOf i).toNat)
 case atStart => exact ⟨0,Nat.zero_le _,rfl,RowI.nil _ _ (Below.refl _ _)⟩
 case round =>
  obtain ⟨k,hk,rfl,hrow⟩:=hrel
  have hbw:=below_two' HB1.out hrow.2
  have HR:=Lib.hid hrow
  have HBW:=Lib.hid hbw
  clear hrow hbw
  by_cases hlt:k < q
  ·obtain ⟨b2,off2,rfl,hb2,hcell⟩:=HA2.out (by omega)
   obtain ⟨x,hx,hex,hbx,hst⟩:=below_place HM.out hlt
   have hck:=(HR.out.2.cell (p:=⟨b2,off2 + k,none⟩) (by exact hb2)).trans (hcell k _ hx)
   have HST:=Lib.hid (hst depF)
   rw [HLEN.out] at hbx
   have HCI:=Lib.hid (HIH.out (k0 + 1 + x) wr (by omega) (HT.out.keep HBW.out) hex)
   obtain ⟨y,hy⟩:∃ y,y = come depF (l.drop (k0 + 1 + x)):=⟨_,rfl⟩
   rw [← hy] at HST HCI
   obtain ⟨p,hp⟩:∃ p,p = k0 + 1 + x:=⟨_,rfl⟩
   rw [← hp] at HCI hck
   have hl:((stack depF (l.drop (k0 + 1))).take k).length = k:=by rw [List.length_take]; have:=HSL.out; omega
   have HL1:Hid (((stack depF (l.drop (k0 + 1))).take k).length + (intV [(y:Int)]).length ≤ maxLen):=Lib.hid (by rw [hl]; simp [maxLen]; omega)
   have HL2:Hid ((((stack depF (l.drop (k0 + 1))).take k).length + (intV [(y:Int)]).length) * 8 ≤ 140737488355328):=Lib.hid (by rw [hl]; simp; omega)
   clear hx hex hbx hst hcell hl hy hp
   go_wp2_with (go_at_call 167; (with_reducible refine HCI.out.mono ?_))
   rintro e w3 ⟨rfl,hb3⟩
   have HR3:=Lib.hid (HR.out.keep hb3)
   have HRA:=Lib.hid HR3.out.1
   have HSZ:Hid (w1.heap.size ≤ w3.heap.size):=Lib.hid HR3.out.2.size
   clear hb3 hck
   go_wp2_with (at_builtin; refine wpList_append_rd _ rfl (.tmp 18) (.tmp 23) _ rfl w1.heap.size 3 i0 (.int .i64 0) 8 Tryz.underlying72 HI.out.1 HI.out.2.1 HI.out.2.2.1 HI.out.2.2.2 rfl _ _ _ rfl (HRA.out.alloc _) _ (intV [(y:Int)]) rfl (Rd.lit (cs:=#[.int .i64 y]) rfl) (intV_one _) HL1.out HL2.out ?_ ?_; (have:=HSZ.out; simp; omega); intro p2 w4 hrow2 hg2 _; have HR4:=Lib.hid (RowI.add HR3.out hrow2 hg2); clear hrow2 hg2)
   go_roundw
   case rel => exact ⟨k + 1,hlt,by simp,by rw [HST.out]; exact HR4.out⟩
   case measure => simp [intOf]; omega
  ·obtain rfl:k = q:=by omega
   obtain ⟨A3,n3,c3,rfl,hn3⟩:∃ A n c,u7 = .slice A n c ∧ True:=by
    obtain ⟨A,c,h⟩:=own_shape HR.out.1
    exact ⟨A,_,c,h,trivial⟩
   have c0:wr.cell? ⟨b,off + k0 * 3,none⟩ = some (.int .i64 o):=(HBW.out.cell (by exact hb)).trans HCELL.out
   have HLT:=Lib.hid (deplit_any o (.slice A3 n3 c3) _ wr HR.out.read HDB.out.1 HDB.out.2)
   go_wp2_with (go_at_call 157; (with_reducible refine HLT.out.mono ?_); rintro e w' ⟨rfl,rfl⟩)
   go_ret
   exact ⟨ret_int HCM.out.symm,HBW.out⟩
theorem comeDep_all (A:Option Addr) (n c:Nat) (l:List Tm) (hn:n = l.length) (hn62:n ≤ 70368744177664) (K:Nat):IHDep A n c l K:=by
 induction K with
 | zero =>
   intro a w hK _ he
   obtain ⟨k,m,hk,_,h1,h2,h3⟩:=endA_nn he
   omega
 | succ K ih => exact fun a w hK h he => comeDep_step A n c l K hn hn62 ih a w hK h he
theorem comeDep_any (A:Option Addr) (n c:Nat) (l:List Tm) (hn:n = l.length) (hn62:n ≤ 70368744177664) (a:Nat) (w:World) (h:Tms w (.slice A n c) l) (he:0 ≤ endA l a) :
 Calls Tryz.prog 167 #[.slice A n c,.int .i64 a,.func (.func 157) #[] #[]] w (RetI w (come depF (l.drop a))):=comeDep_all A n c l hn hn62 n a w (by omega) h he
end Go.Proofs.YtcofikjpplkjdaaGreatDoor
namespace Go.Proofs.YtcofikjpplkjdaaGreatDoor
open Go.RowKit TermSpec
set_option maxRecDepth 100000
end Go.Proofs.YtcofikjpplkjdaaGreatDoor
namespace Go.Proofs.YtcofikjpplkjdaaGreatDoor
open Go.RowKit TermSpec
set_option maxRecDepth 100000
theorem whole_yes {l:List Tm} {n:Nat} (hn:n = l.length) (h40:n ≤ 40) (h:endA l 0 = n):wholeB l = true:=by
 refine wholeB_iff.2 ⟨by omega,?_⟩
 obtain ⟨k,m,hk,hc,he,hm,hl⟩:=endA_nn (l:=l) (a:=0) (by omega)
 obtain rfl:k = 0:=by omega
 rw [List.drop_zero] at hc
 rw [hc]
 congr 1
 omega
theorem whole_no {l:List Tm} {n:Nat} (hn:n = l.length) (h:¬ (n ≤ 40 ∧ endA l 0 = n)):wholeB l = false:=by
 rw [Bool.eq_false_iff]
 intro hw
 obtain ⟨h1,h2⟩:=wholeB_iff.1 hw
 refine h ⟨by omega,?_⟩
 have:=endA_some (l:=l) (a:=0) (m:=l.length) (by simpa using h2)
 rw [show (0:Int) = ((0:Nat):Int) from rfl,this]
 omega
theorem tell_no {f:Int → List Int → Int} {l:List Tm} (h:wholeB l = false):tell f l = 0:=by unfold tell; rw [h]; rfl
theorem tell_yes {f:Int → List Int → Int} {l:List Tm} (h:wholeB l = true):tell f l = come f l:=by unfold tell; rw [h]; rfl
theorem comeDep_zero (A:Option Addr) (n c:Nat) (l:List Tm) (hn:n = l.length) (hn62:n ≤ 70368744177664) (w:World) (h:Tms w (.slice A n c) l) (he:0 ≤ endA l 0) :
 Calls Tryz.prog 167 #[.slice A n c,.int .i64 0,.func (.func 157) #[] #[]] w (RetI w (come depF l)):=by
 have:=comeDep_any A n c l hn hn62 0 w h he
 rwa [List.drop_zero] at this
set_option maxHeartbeats 1000000 in
theorem wholeDep_any (A:Option Addr) (n c:Nat) (l:List Tm) (hn:n = l.length) (hn62:n ≤ 70368744177664) (w:World) (h:Tms w (.slice A n c) l) :
 Calls Tryz.prog 156 #[.slice A n c,.func (.func 157) #[] #[]] w (RetI w (tell depF l)):=by
 by_cases h40:40 < n
 ·have HE:=Lib.hid (tell_no (f:=depF) (whole_no hn (by omega)))
  clear hn h
  go_enter Tryz.func156,Tryz.ntmps156
  go_wp2_with fail
  go_ret
  exact ⟨ret_int HE.out.symm,Below.refl _ _⟩
 ·have hE:=end_any A n c l 0 w h hn (by omega)
  have HY:Hid (endA l 0 = n → Calls Tryz.prog 167 #[.slice A n c,.int .i64 0,.func (.func 157) #[] #[]] w (RetI w (come depF l)) ∧ tell depF l = come depF l):=Lib.hid (fun h0 => ⟨comeDep_zero A n c l hn hn62 w h (by omega),tell_yes (whole_yes hn (by omega) h0)⟩)
  have HN:Hid (endA l 0 ≠ n → tell depF l = 0):=Lib.hid (fun h0 => tell_no (whole_no hn (fun h => h0 h.2)))
  obtain ⟨r,hr⟩:∃ r,r = endA l 0:=⟨_,rfl⟩
  rw [← hr] at hE HY HN
  have HE:=Lib.hid hE
  clear hr hE hn h
  by_cases hrn:r = n
  ·have g:(r != (n:Int)) = false:=by simp [hrn]
   have HC:=Lib.hid (HY.out hrn).1
   have HV:=Lib.hid (HY.out hrn).2
   clear hrn HN HY
   go_enter Tryz.func156,Tryz.ntmps156
   go_wp2_with (first
    | (go_at_call 166; (with_reducible refine HE.out.mono ?_); rintro e w' ⟨rfl,rfl⟩)
    | (go_at_call 167; (with_reducible refine HC.out.mono ?_)))
   rintro e w1 ⟨rfl,hb1⟩
   go_wp2_with fail
   go_ret
   exact ⟨ret_int HV.out.symm,hb1⟩
  ·have g:(r != (n:Int)) = true:=by simp [hrn]
   have HV:=Lib.hid (HN.out hrn)
   clear hrn HN HY
   go_enter Tryz.func156,Tryz.ntmps156
   go_wp2_with (go_at_call 166; (with_reducible refine HE.out.mono ?_); rintro e w' ⟨rfl,rfl⟩)
   go_ret
   exact ⟨ret_int HV.out.symm,Below.refl _ _⟩
theorem depth_any (A:Option Addr) (n c:Nat) (l:List Tm) (hn:n = l.length) (hn62:n ≤ 70368744177664) (w:World) (h:Tms w (.slice A n c) l) :
 Calls Tryz.prog 150 #[.slice A n c] w (RetI w (depth l)):=by
 have HC:=Lib.hid (wholeDep_any A n c l hn hn62 w h)
 obtain ⟨r,hr⟩:∃ r,r = tell depF l:=⟨_,rfl⟩
 have HR:Hid (depth l = r):=Lib.hid hr.symm
 rw [← hr] at HC
 clear hr hn h
 go_enter Tryz.func150,Tryz.ntmps150
 go_wp2_with (go_at_call 156; (with_reducible refine HC.out.mono ?_))
 rintro e w1 ⟨rfl,hb1⟩
 go_wp2_with fail
 go_ret
 exact ⟨ret_int HR.out.symm,hb1⟩
def AllMay (W:World) (l:List Tm) (n:Nat) (i:Value) (wr:World):Prop:=∃ k:Nat,k ≤ n ∧ i = .int .i64 k ∧ (l.take k).all mayB = true ∧ Below W.heap.size W wr
theorem may_stop {l:List Tm} {k:Nat} {t:Tm} (ht:l[k]? = some t) (h:mayB t = false):l.all mayB = false:=by
 rw [List.all_eq_false]
 exact ⟨t,List.mem_of_getElem? ht,by simp [h]⟩
theorem may_next {l:List Tm} {k:Nat} {t:Tm} (ht:l[k]? = some t) (h0:(l.take k).all mayB = true) (h:mayB t = true):(l.take (k + 1)).all mayB = true:=by
 rw [take_next ht,List.all_append,h0]; simpa using h
theorem chk_full {l:List Tm} (h:40 < l.length):chk l = 8:=by unfold chk; rw [if_pos h]
theorem chk_none {l:List Tm} (h:¬ 40 < l.length) (h1:wholeB l = false):chk l = 1:=by unfold chk; rw [if_neg h,if_pos h1]
theorem chk_may {l:List Tm} (h:¬ 40 < l.length) (h1:wholeB l = true) (h2:l.all mayB = false):chk l = 1:=by unfold chk; rw [if_neg h,if_neg (by simp [h1]),if_pos h2]
theorem chk_last {l:List Tm} (h:¬ 40 < l.length) (h1:wholeB l = true) (h2:l.all mayB = true):chk l = if 12 < depth l then 6 else 0:=by unfold chk; rw [if_neg h,if_neg (by simp [h1]),if_neg (by simp [h2])]
set_option maxHeartbeats 2000000 in
theorem check_any (A:Option Addr) (n c:Nat) (l:List Tm) (hn:n = l.length) (hn62:n ≤ 70368744177664) (hs:Small l) (w:World) (h:Tms w (.slice A n c) l) :
 Calls Tryz.prog 140 #[.slice A n c] w (RetI w (chk l)):=by
 by_cases h40:40 < n
 ·have HE:=Lib.hid (chk_full (l:=l) (by omega))
  clear hn h
  go_enter Tryz.func140,Tryz.ntmps140
  go_wp2_with fail
  go_ret
  exact ⟨ret_int HE.out.symm,Below.refl _ _⟩
 have HD:=Lib.hid (depth_any A n c l hn hn62 w h)
 have h40':¬ 40 < l.length:=by omega
 cases hw:wholeB l with
 | false =>
   have hd:depth l = 0:=depth_zero.2 hw
   rw [hd] at HD
   have HE:=Lib.hid (chk_none h40' hw)
   clear hn h hw hd h40'
   go_enter Tryz.func140,Tryz.ntmps140
   go_wp2_with (go_at_call 150; (with_reducible refine HD.out.mono ?_))
   rintro e w1 ⟨rfl,hb1⟩
   go_wp2_with fail
   go_ret
   exact ⟨ret_int HE.out.symm,hb1⟩
 | true =>
   have hd0:1 ≤ depth l:=by unfold depth; rw [tell_yes hw]; exact (come_depth (wholeB_iff.1 hw).2).1
   have HL:=Lib.hid (fun h2 => chk_last h40' hw h2)
   have HM:=Lib.hid (fun h2 => chk_may h40' hw h2)
   obtain ⟨d,hd⟩:∃ d,d = depth l:=⟨_,rfl⟩
   rw [← hd] at HD HL hd0
   have gd:(d == 0) = false:=by simp; omega
   have HT:=Lib.hid h
   have HN:=Lib.hid hn
   have HS:=Lib.hid hs
   clear hn h hw hd h40' hs
   go_enter Tryz.func140,Tryz.ntmps140
   go_wp2_with (go_at_call 150; (with_reducible refine HD.out.mono ?_))
   rintro e w1 ⟨rfl,hb1⟩
   have HB1:=Lib.hid hb1
   clear hb1
   go_wp2_with fail
   go_loopw [5,15] (fun _ i wr => AllMay w l n i wr) (fun _ i _ => n - (intOf i).toNat)
   case atStart => exact ⟨0,Nat.zero_le _,rfl,rfl,HB1.out⟩
   case round =>
    obtain ⟨k,hk,rfl,hall,hbw⟩:=hrel
    have HA:=Lib.hid hall
    have HB:=Lib.hid hbw
    clear hall hbw
    by_cases hlt:k < n
    ·obtain ⟨t,ht⟩:∃ t,l[k]? = some t:=get_some (by rw [← HN.out]; exact hlt)
     obtain ⟨b,off,rfl,hb,c0,c1,c2⟩:=(HT.out.keep HB.out).at_ ht
     have HC:Hid (∀ w,Calls Tryz.prog 151 #[.agg #[.int .i64 t.op,.int .i64 t.n,.string t.s]] w (RetB w (mayB t))):=Lib.hid (fun w => may_any t w (HS.out t (List.mem_of_getElem? ht)))
     have HX:=Lib.hid ht
     obtain ⟨q,hq⟩:∃ q,q = mayB t:=⟨_,rfl⟩
     rw [← hq] at HC
     have HQ:=Lib.hid hq.symm
     clear ht hq
     cases q with
     | true =>
       go_wp2_with (go_at_call 151; (with_reducible refine (HC.out _).mono ?_))
       rintro e w2 ⟨rfl,hb2⟩
       have HB2:=Lib.hid (below_two' (HB.out.alloc HB.out.size _) hb2)
       clear hb2 c0 c1 c2
       go_wp2_with fail
       go_roundw
       case rel => exact ⟨k + 1,hlt,by simp,may_next HX.out HA.out HQ.out,HB2.out⟩
       case measure => simp [intOf]; omega
     | false =>
       go_wp2_with (go_at_call 151; (with_reducible refine (HC.out _).mono ?_))
       rintro e w2 ⟨rfl,hb2⟩
       have HB2:=Lib.hid (below_two' (HB.out.alloc HB.out.size _) hb2)
       clear hb2 c0 c1 c2
       go_wp2_with fail
       go_ret
       exact ⟨ret_int (HM.out (may_stop HX.out HQ.out)).symm,HB2.out⟩
    ·have HE:Hid (chk l = if 12 < d then 6 else 0):=Lib.hid (HL.out (by have:=HA.out; rwa [List.take_of_length_le (by rw [← HN.out]; omega)] at this))
     by_cases h12:12 < d
     all_goals
      go_wp2_with fail
      go_ret
      exact ⟨ret_int (by rw [HE.out]; first | rw [if_pos h12] | rw [if_neg (by omega)]),HB.out⟩
end Go.Proofs.YtcofikjpplkjdaaGreatDoor