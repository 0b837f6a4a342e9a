/- KitC, RowB, EvalOps, EvalMem, ActIn, TransMem, ExprRef, ExprRefLev, ActReadOne, joined. -/
import Derived.Test.YtjfghaohogcfbaaGreatDoorMFormatSame02
import Derived.Test.YtjfghaohogcfbaaGreatDoorMFormatSame04
import Derived.Test.YtjfghaohogcfbaaGreatDoorMFormatSame00
import Derived.Test.YtjfghaohogcfbaaGreatDoorMFormatSame05
import Derived.Test.YtjfghaohogcfbaaGreatDoorMFormatSame11
import Derived.Test.YtjfghaohogcfbaaGreatDoorMFormatSame09
import Derived.Test.YtjfghaohogcfbaaGreatDoorMFormatSame06
import Derived.Test.YtjfghaohogcfbaaGreatDoorMFormatSame08
import Derived.Laws.Tables
namespace Go.Proofs.YtjfghaohogcfbaaGreatDoor
namespace KitC
open Go.RowKit
theorem below_one (w:World) (o:Obj):Below w.heap.size w (w.alloc o):=(Below.refl _ _).alloc (Nat.le_refl _) _
theorem below_pair (w:World) (o p:Obj):Below w.heap.size w ((w.alloc o).alloc p):=((Below.refl _ _).alloc (Nat.le_refl _) _).alloc (by simp) _
theorem pair_blocks {w w2:World} {o p:Obj} (hb:Below ((w.alloc o).alloc p).heap.size ((w.alloc o).alloc p) w2) :
 w2.heap[w.heap.size]? = some o ∧ w2.heap[w.heap.size + 1]? = some p ∧ Below w.heap.size w w2 ∧ w.heap.size + 1 < w2.heap.size:=by
 have hz:=hb.size
 simp only [World.size_alloc] at hz
 refine ⟨(hb.block _ (by simp; omega)).trans ((heap_alloc_old _ _ (by simp)).trans (heap_alloc_new _ _)),(hb.block _ (by simp)).trans ?_,?_,by omega⟩
 ·have:=heap_alloc_new (w.alloc o) p
  rwa [World.size_alloc] at this
 ·exact (below_pair w o p).trans (hb.mono (by simp; omega))
theorem one_block {w w2:World} {o:Obj} (hb:Below (w.alloc o).heap.size (w.alloc o) w2):w2.heap[w.heap.size]? = some o ∧ Below w.heap.size w w2 ∧ w.heap.size < w2.heap.size:=by
 have hz:=hb.size
 simp only [World.size_alloc] at hz
 exact ⟨(hb.block _ (by simp)).trans (heap_alloc_new _ _),((Below.refl _ _).alloc (Nat.le_refl _) _).trans (hb.mono (by simp)),by omega⟩
theorem block_on {w w2:World} {b:Nat} {o:Obj} (h:w.heap[b]? = some o) (hb:Below w.heap.size w w2):w2.heap[b]? = some o:=(hb.block b (Array.getElem?_eq_some_iff.1 h).1).trans h
end KitC
end Go.Proofs.YtjfghaohogcfbaaGreatDoor
namespace Go.Proofs.YtjfghaohogcfbaaGreatDoor
open Go.RowKit CurSpec
def Dep (w:World) (S:Nat → Prop) (P:World → Prop):Prop:=∀ w',w.heap.size ≤ w'.heap.size → (∀ b,b < w.heap.size → S b → w'.heap[b]? = w.heap[b]?) → P w'
section
variable {w w':World} {S S':Nat → Prop} {P Q:World → Prop}
theorem Dep.go {ob:Option Nat} (h:Dep w S P) (hb:w.grownBy w' ob) (hne:∀ b,S b → ob ≠ some b):Dep w' S P :=
 fun w2 hz hx => h w2 (Nat.le_trans hb.size hz) fun b hlt hS => (hx b (Nat.lt_of_lt_of_le hlt hb.size) hS).trans (hb.block b hlt fun e => hne b hS e.symm)
theorem Dep.keep (h:Dep w S P) (hb:Below w.heap.size w w'):Dep w' S P :=
 fun w2 hz hx => h w2 (Nat.le_trans hb.size hz) fun b hlt hS => (hx b (Nat.lt_of_lt_of_le hlt hb.size) hS).trans (hb.block b hlt)
theorem Dep.alloc (h:Dep w S P) (o:Obj):Dep (w.alloc o) S P:=h.keep (KitC.below_one w o)
theorem Dep.mono (h:Dep w S P) (hs:∀ b,b < w.heap.size → S b → S' b):Dep w S' P:=fun w2 hz hx => h w2 hz fun b hlt hS => hx b hlt (hs b hlt hS)
theorem Dep.imp (h:Dep w S P) (hp:∀ w',P w' → Q w'):Dep w S Q:=fun w2 hz hx => hp _ (h w2 hz hx)
theorem Dep.and (h:Dep w S P) (g:Dep w S Q):Dep w S (fun x => P x ∧ Q x):=fun w2 hz hx => ⟨h w2 hz hx,g w2 hz hx⟩
theorem Dep.triv (h:∀ w',P w'):Dep w S P:=fun w2 _ _ => h w2
end
theorem grown_any {w w':World} (h:w.grownBy w' none) (k:Nat):w.grownBy w' (some k):=⟨h.os,h.tape,h.output,h.size,fun i hi _ => h.block i hi (by simp)⟩
theorem CurAt.row {w w':World} {B:Nat} {c:Cur} {ob:Option Nat} (h:CurAt w B c) (hb:w.grownBy w' ob) (hlt:∀ j,ob = some j → B < j):CurAt w' B c:=by
 rcases ob with _ | j
 ·exact h.but (grown_any hb (B + 1)) (Nat.lt_succ_self B)
 ·exact h.but hb (hlt j rfl)
theorem rdk_dep {w:World} {k n:Nat} {v:Value} {xs:List Value} {S:Nat → Prop} (h:Rdk k w v n xs) (hS:0 < n → ∀ b,v.ownBlock = some b → S b):Dep w S (fun x => Rdk k x v n xs):=by
 intro w2 hz hx
 obtain ⟨A,c,rfl,hc,hl,hA⟩:=h
 refine ⟨A,c,rfl,hc,hl,fun h0 => ?_⟩
 obtain ⟨b,off,rfl,hlt,hcell⟩:=hA h0
 refine ⟨b,off,rfl,Nat.lt_of_lt_of_le hlt hz,fun j u hj => ?_⟩
 rw [← hcell j u hj]
 simp [World.cell?,hx b hlt (hS h0 b rfl)]
theorem own_set {w:World} {base n k g cap:Nat} {e:TypeId} {xs:List Value} (h:w.ownsRow base e k (.slice (some ⟨g,0,none⟩) n cap) n xs) {i:Nat} (_hi:i < xs.length) (u:Value) :
 (w.setCell ⟨g,i,none⟩ u).ownsRow base e k (.slice (some ⟨g,0,none⟩) n cap) n (xs.set i u):=by
 refine ⟨by rw [List.length_set]; exact h.1,?_⟩
 have hl:=h.1
 rcases h.2 with ⟨h1,_⟩ | ⟨g',cap',cur,h1,h2,h3,h4,h5,h6,h7⟩
 ·cases h1
 ·injection h1 with h1 _ h8
  injection h1 with h1
  injection h1 with h1
  subst h1 h8
  refine .inr ⟨g,cap,cur.setIfInBounds i u,rfl,h2,block_setCell' h3 i u,h4,h5,by rw [Array.size_setIfInBounds,h6],?_⟩
  rw [← h7,Array.toList_setIfInBounds,List.take_set]
theorem own_cell {w:World} {base n k g cap:Nat} {e:TypeId} {xs:List Value} (h:w.ownsRow base e k (.slice (some ⟨g,0,none⟩) n cap) n xs):(∃ cur,w.heap[g]? = some (.cells cur e (0,0)) ∧ xs.length ≤ cur.size) ∧ ∀ i u,xs[i]? = some u → w.cell? ⟨g,i,none⟩ = some u:=by
 have hl:=h.1
 rcases h.2 with ⟨h1,_⟩ | ⟨g',cap',cur,h1,h2,h3,h4,h5,h6,h7⟩
 ·cases h1
 ·injection h1 with h1 _ h8
  injection h1 with h1
  injection h1 with h1
  subst h1 h8
  refine ⟨⟨cur,h3,by rw [h6,hl]; exact Nat.mul_le_mul_right k h4⟩,fun i u hi => ?_⟩
  have hi':i < xs.length:=(List.getElem?_eq_some_iff.1 hi).1
  rw [← h7,List.getElem?_take_of_lt (by omega),Array.getElem?_toList] at hi
  simp [World.cell?,h3,hi]
theorem own_at {w:World} {base n k:Nat} {e:TypeId} {v:Value} {xs:List Value} (h:w.ownsRow base e k v n xs) (h0:0 < n):∃ g cap,v = .slice (some ⟨g,0,none⟩) n cap ∧ n ≤ cap:=by
 rcases h.2 with ⟨_,h2⟩ | ⟨g,cap,cur,h1,h2,h3,h4,h5,h6,h7⟩
 ·omega
 ·exact ⟨g,cap,h1,h4⟩
theorem flat_set {α:Type} {k:Nat} {f:α → List Value} (hf:∀ a,(f a).length = k):∀ {l:List α} {i j:Nat} {a a':α} {u:Value},l[i]? = some a → j < k → f a' = (f a).set j u → (l.set i a').flatMap f = (l.flatMap f).set (i * k + j) u
 | [],_,_,_,_,_,h,_,_ => by simp at h
 | b :: t,0,j,a,a',u,h,hj,hu => by
   simp at h; subst h
   rw [List.set_cons_zero,List.flatMap_cons,List.flatMap_cons,Nat.zero_mul,Nat.zero_add,List.set_append_left _ _ (by rw [hf]; exact hj),hu]
 | b :: t,i + 1,j,a,a',u,h,hj,hu => by
   rw [List.set_cons_succ,List.flatMap_cons,List.flatMap_cons,List.set_append_right _ _ (by rw [hf,Nat.add_mul]; omega),hf,show (i + 1) * k + j - k = i * k + j by rw [Nat.add_mul]; omega,flat_set hf (l:=t) (by simpa using h) hj hu]
structure RowB {α:Type} (T:TypeId) (k:Nat) (cv:α → List Value) (nest:α → World → Prop) (W:World) (B:Nat) (wr:World) (pv:Value) (ps:List α):Prop where
 own:wr.ownsRow W.heap.size T k pv ps.length (ps.flatMap cv)
 dep:∀ p ∈ ps,Dep wr (fun b => W.heap.size ≤ b ∧ pv.ownBlock ≠ some b) (nest p)
 grown:W.grownBy wr (some B)
 lt:B < W.heap.size
section
variable {α:Type} {T:TypeId} {k:Nat} {cv:α → List Value} {nest:α → World → Prop} {W wr w':World} {B:Nat} {pv:Value} {ps:List α}
theorem RowB.nil (hg:W.grownBy wr (some B)) (hB:B < W.heap.size):RowB T k cv nest W B wr (.slice none 0 0) []:=⟨World.ownsRow_nil _ _ _ _,fun _ h => by simp at h,hg,hB⟩
theorem RowB.one {p:α} (hg:W.grownBy wr (some B)) (hB:B < W.heap.size) (hlen:(cv p).length = k) (hn:Dep wr (fun b => W.heap.size ≤ b) (nest p)):RowB T k cv nest W B (wr.alloc (.cells (cv p).toArray T)) (.slice (some ⟨wr.heap.size,0,none⟩) 1 1) [p]:=by
 refine ⟨?_,fun q hq => ?_,but_trans hg (but_below (KitC.below_one _ _)),hB⟩
 ·have:=World.ownsRow_lit (base:=W.heap.size) (e:=T) (size:=k) wr (cv p).toArray 1 hg.size (by decide) (by simp [hlen])
  simpa using this
 ·rw [List.mem_singleton] at hq
  subst hq
  refine fun w2 hz hx => hn w2 (Nat.le_trans (KitC.below_one wr _).size hz) fun b hlt hS => (hx b (by rw [World.size_alloc]; omega) ⟨hS,fun e => ?_⟩).trans (heap_alloc_old _ _ hlt)
  injection e with e
  simp only at e
  omega
theorem RowB.but (h:RowB T k cv nest W B wr pv ps) (hb:wr.grownBy w' (some B)):RowB T k cv nest W B w' pv ps :=
 ⟨own_but h.own hb h.lt,fun p hp => (h.dep p hp).go hb fun b hS e => by injection e with e; have:=hS.1; have:=h.lt; omega,but_trans h.grown hb,h.lt⟩
theorem RowB.keep (h:RowB T k cv nest W B wr pv ps) (hb:Below wr.heap.size wr w'):RowB T k cv nest W B w' pv ps:=h.but (but_below hb)
theorem RowB.shape (h:RowB T k cv nest W B wr pv ps):∃ A c,pv = .slice A ps.length c:=own_shape h.own
theorem RowB.add {p:α} {pv':Value} {o:Obj} (h:RowB T k cv nest W B wr pv ps) (hn:Dep wr (fun b => W.heap.size ≤ b ∧ pv.ownBlock ≠ some b) (nest p))
 (hrow:w'.ownsRow W.heap.size T k pv' (ps.length + 1) (ps.flatMap cv ++ cv p)) (hg:(wr.alloc o).grownBy w' pv.ownBlock) (hob:pv'.ownBlock = pv.ownBlock ∨ pv'.ownBlock = some (wr.alloc o).heap.size) :
 RowB T k cv nest W B w' pv' (ps ++ [p]):=by
 have ha:Below wr.heap.size wr (wr.alloc o):=KitC.below_one wr o
 have hall:∀ q ∈ ps ++ [p],Dep wr (fun b => W.heap.size ≤ b ∧ pv.ownBlock ≠ some b) (nest q):=fun q hq => by
  rcases List.mem_append.1 hq with hq | hq
  ·exact h.dep q hq
  ·rw [List.mem_singleton] at hq
   subst hq
   exact hn
 refine ⟨by simpa [List.length_append] using hrow,fun q hq => ?_,?_,h.lt⟩
 ·intro w2 hz hx
  refine (hall q hq) w2 (Nat.le_trans ha.size (Nat.le_trans hg.size hz)) fun b hlt hS => ?_
  have hlt2:b < (wr.alloc o).heap.size:=Nat.lt_of_lt_of_le hlt ha.size
  refine (hx b (Nat.lt_of_lt_of_le hlt2 hg.size) ⟨hS.1,fun e => ?_⟩).trans ((hg.block b hlt2 fun e => hS.2 e.symm).trans (ha.block b hlt))
  rcases hob with e' | e'
  ·exact hS.2 (e'.symm.trans e)
  ·rw [e'] at e; injection e with e; omega
 ·have hgw:=h.grown
  refine ⟨hg.os.trans hgw.os,hg.tape.trans hgw.tape,hg.output.trans hgw.output,Nat.le_trans hgw.size (Nat.le_trans ha.size hg.size),fun i hi hn => ?_⟩
  have hi2:i < wr.heap.size:=Nat.lt_of_lt_of_le hi hgw.size
  refine (hg.block i (Nat.lt_of_lt_of_le hi2 ha.size) fun e => ?_).trans ((ha.block i hi2).trans (hgw.block i hi hn))
  have:=(own_block_bd h.own i e.symm).1
  omega
theorem RowB.cur {c:Cur} {o:Obj} (h:RowB T k cv nest W B wr pv ps) (hc:CurAt wr B c) (hg:(wr.alloc o).grownBy w' pv.ownBlock):CurAt w' B c :=
 (hc.alloc o).row hg fun j e => by have:=(own_block_bd h.own j e).1; have:=h.lt; omega
theorem RowB.set {i j g cap:Nat} {p p':α} {u:Value} (h:RowB T k cv nest W B wr (.slice (some ⟨g,0,none⟩) ps.length cap) ps) (hlen:∀ a,(cv a).length = k) (hp:ps[i]? = some p) (hj:j < k) (hu:cv p' = (cv p).set j u)
 (hn:Dep wr (fun b => W.heap.size ≤ b ∧ (Value.slice (some ⟨g,0,none⟩) ps.length cap).ownBlock ≠ some b) (nest p')) :
 RowB T k cv nest W B (wr.setCell ⟨g,i * k + j,none⟩ u) (.slice (some ⟨g,0,none⟩) ps.length cap) (ps.set i p'):=by
 have hs:wr.grownBy (wr.setCell ⟨g,i * k + j,none⟩ u) (some g):=but_set (but_refl wr _) _ _
 have hi:=(List.getElem?_eq_some_iff.1 hp).1
 have hlt:i * k + j < (ps.flatMap cv).length:=by
  rw [flat_length hlen]
  have:(i + 1) * k ≤ ps.length * k:=Nat.mul_le_mul_right k hi
  rw [Nat.add_mul] at this
  omega
 refine ⟨?_,fun q hq => ?_,?_,h.lt⟩
 ·rw [List.length_set,flat_set hlen hp hj hu]
  exact own_set h.own hlt u
 ·have hall:Dep wr (fun b => W.heap.size ≤ b ∧ (Value.slice (some ⟨g,0,none⟩) ps.length cap).ownBlock ≠ some b) (nest q):=by
   rcases List.mem_or_eq_of_mem_set hq with hq | rfl
   ·exact h.dep q hq
   ·exact hn
  exact hall.go hs fun b hS e => hS.2 e
 ·exact but_set_new h.grown (own_block_bd h.own g rfl).1 _ _
theorem RowB.setCur {i g cap n:Nat} {u:Value} {c:Cur} (h:RowB T k cv nest W B wr (.slice (some ⟨g,0,none⟩) n cap) ps) (hc:CurAt wr B c):CurAt (wr.setCell ⟨g,i,none⟩ u) B c :=
 hc.row (but_set (but_refl wr _) _ _:wr.grownBy _ (some g)) fun j e => by injection e with e; have:=(own_block_bd h.own g rfl).1; have:=h.lt; omega
theorem RowB.far (h:RowB T k cv nest W B wr pv ps):Dep wr (fun b => W.heap.size ≤ b) (fun x => Rdk k x pv ps.length (ps.flatMap cv) ∧ ∀ p ∈ ps,nest p x) :=
 (rdk_dep (Rdk.own h.own) fun _ b e => (own_block_bd h.own b e).1).and fun w2 hz hx p hp => (h.dep p hp) w2 hz fun b hlt hS => hx b hlt hS.1
end
section
variable {P:Program}
theorem wpList_append_rowB {ops:Array Oper} {rest:List Oper} {o:Oper} {a:Act} {Q:Exit → Act → World → Prop} (hgd:o.guard = none) (s x:Operand) (t:TypeId)
 (ho:o.op = .call { callee:=.builtin .append,args:=#[s,x],argTypes:=#[t,t] })
 {α:Type} {e:TypeId} {k:Nat} {cv:α → List Value} {nest:α → World → Prop} {W wr:World} {B:Nat} {pv:Value} {ps:List α}
 (i:TypeInfo) (z:Value) (bytes:Nat) (ht:P.underlying t = some (.slice e)) (hi:P.info? e = some i) (hz:i.zero = some z)
 (hsize:i.size = k) (hby:i.bytes = bytes) (hzs:z.cells.size = k) (hk:0 < k)
 (h:RowB e k cv nest W B wr pv ps) (p:α) (hn:Dep wr (fun b => W.heap.size ≤ b ∧ pv.ownBlock ≠ some b) (nest p)) (hs:a.eval s = pv) (hx:a.eval x = .slice (some ⟨wr.heap.size,0,none⟩) 1 1)
 (hlen:(cv p).length = k) (h1:∀ u ∈ cv p,u.oneCell' = true) (h63:ps.length + 1 ≤ maxLen) (hbytes:(ps.length + 1) * bytes ≤ 140737488355328)
 (hK:∀ v' w',RowB e k cv nest W B w' v' (ps ++ [p]) → (∀ c,CurAt wr B c → CurAt w' B c) → wpList P ops Q rest (a.put o.dst v') w'):wpList P ops Q (o :: rest) a (wr.alloc (.cells (cv p).toArray e)):=by
 have hrow:=own_keep h.own (KitC.below_one wr (.cells (cv p).toArray e))
 refine wpList_append_rdk _ hgd s x t ho W.heap.size e i z k bytes ht hi hz hsize hby hzs hk pv ps.length (ps.flatMap cv) hs hrow _ 1 (cv p) hx ?_ h1 h63 hbytes ?_ fun v' w' hr hg hob => hK v' w' (h.add hn hr hg hob) fun c hc => h.cur hc hg
 ·refine ⟨_,1,rfl,Nat.le_refl _,by omega,fun _ => ⟨_,0,rfl,by simp,fun j u hj => ?_⟩⟩
  exact cell_of_block' (heap_alloc_new wr _) (by rw [Nat.zero_add,List.getElem?_toArray]; exact hj)
 ·have:=h.grown.size
  simp
  omega
end
end Go.Proofs.YtjfghaohogcfbaaGreatDoor
namespace Go.Proofs.YtjfghaohogcfbaaGreatDoor
open Go.RowKit TermSpec EvalSpec ValSpec
end Go.Proofs.YtjfghaohogcfbaaGreatDoor
namespace Go.Proofs.YtjfghaohogcfbaaGreatDoor
open Go.RowKit TermSpec EvalSpec NamesSpec Go.Lib
structure EP where
 vA:Option Addr
 vn:Nat
 vc:Nat
 iA:Option Addr
 im:Nat
 ic:Nat
def vrV (v:Vr):List Value:=[.string v.s,.int .i64 v.lo,.int .i64 v.hi,.int .i64 v.ini]
def vrsV (l:List Vr):List Value:=l.flatMap vrV
theorem vrV_length (v:Vr):(vrV v).length = 4:=rfl
theorem vrsV_get {l:List Vr} {i:Nat} {v:Vr} (h:l[i]? = some v):(vrsV l)[i * 4]? = some (.string v.s) ∧ (vrsV l)[i * 4 + 1]? = some (.int .i64 v.lo) ∧ (vrsV l)[i * 4 + 2]? = some (.int .i64 v.hi) ∧ (vrsV l)[i * 4 + 3]? = some (.int .i64 v.ini) :=
 ⟨flat_get (j:=0) vrV_length h (by omega),flat_get (j:=1) vrV_length h (by omega),flat_get (j:=2) vrV_length h (by omega),flat_get (j:=3) vrV_length h (by omega)⟩
def VarsIn (w:World) (A:Option Addr) (n c:Nat) (l:List Vr):Prop:=n = l.length ∧ Rdk 4 w (.slice A n c) n (vrsV l)
theorem VarsIn.keep {w w':World} {A:Option Addr} {n c:Nat} {l:List Vr} (h:VarsIn w A n c l) (hb:Below w.heap.size w w'):VarsIn w' A n c l:=⟨h.1,h.2.keep hb⟩
theorem VarsIn.at_ {w:World} {A:Option Addr} {n c:Nat} {l:List Vr} {i:Nat} {v:Vr} (h:VarsIn w A n c l) (hi:l[i]? = some v) :
 ∃ b off,A = some ⟨b,off,none⟩ ∧ b < w.heap.size ∧ w.cell? ⟨b,off + i * 4,none⟩ = some (.string v.s) ∧ w.cell? ⟨b,off + i * 4 + 1,none⟩ = some (.int .i64 v.lo) ∧ w.cell? ⟨b,off + i * 4 + 2,none⟩ = some (.int .i64 v.hi) ∧ w.cell? ⟨b,off + i * 4 + 3,none⟩ = some (.int .i64 v.ini):=by
 obtain ⟨hn,A',c',heq,hc,hl,hA⟩:=h
 cases heq
 have:=get_lt hi
 obtain ⟨b,off,rfl,hb,hcell⟩:=hA (by omega)
 obtain ⟨g0,g1,g2,g3⟩:=vrsV_get hi
 exact ⟨b,off,rfl,hb,hcell _ _ g0,by rw [Nat.add_assoc]; exact hcell _ _ g1,by rw [Nat.add_assoc]; exact hcell _ _ g2,by rw [Nat.add_assoc]; exact hcell _ _ g3⟩
theorem VarsIn.cap {w:World} {A:Option Addr} {n c:Nat} {l:List Vr} (h:VarsIn w A n c l):n ≤ c:=by
 obtain ⟨hn,A',c',heq,hc,hl,hA⟩:=h
 cases heq
 exact hc
structure EnvIn (w:World) (p:EP) (e:Ev):Prop where
 vars:VarsIn w p.vA p.vn p.vc e.vars
 ins:Rd w (.slice p.iA p.im p.ic) (strV e.ins)
 vbd:e.vars.length ≤ 9223372036854775807
 ibd:e.ins.length ≤ 9223372036854775807
theorem EnvIn.keep {w w':World} {p:EP} {e:Ev} (h:EnvIn w p e) (hb:Below w.heap.size w w'):EnvIn w' p e:=⟨h.vars.keep hb,h.ins.keep hb,h.vbd,h.ibd⟩
end Go.Proofs.YtjfghaohogcfbaaGreatDoor
namespace Go.Proofs.YtjfghaohogcfbaaGreatDoor
open Go.RowKit TermSpec EvalSpec ActSpec NamesSpec
structure AP where
 a:Ac
 xA:Option Addr
 xn:Nat
 xc:Nat
def acV (p:AP):List Value:=[.string p.a.s,.bool p.a.any,.slice p.xA p.xn p.xc]
def acsV (l:List AP):List Value:=l.flatMap acV
theorem acV_length (p:AP):(acV p).length = 3:=rfl
theorem acV_one (p:AP):∀ u ∈ acV p,u.oneCell' = true:=by simp [acV,Value.oneCell']
theorem acsV_one (l:List AP):∀ u ∈ acsV l,u.oneCell' = true:=by
 intro u hu
 obtain ⟨t,_,h⟩:=List.mem_flatMap.1 hu
 exact acV_one t u h
theorem acsV_append (a b:List AP):acsV a ++ acsV b = acsV (a ++ b):=by unfold acsV; rw [List.flatMap_append]
theorem acsV_get {l:List AP} {i:Nat} {p:AP} (h:l[i]? = some p):(acsV l)[i * 3]? = some (.string p.a.s) ∧ (acsV l)[i * 3 + 1]? = some (.bool p.a.any) ∧ (acsV l)[i * 3 + 2]? = some (.slice p.xA p.xn p.xc) :=
 ⟨flat_get (j:=0) acV_length h (by omega),flat_get (j:=1) acV_length h (by omega),flat_get (j:=2) acV_length h (by omega)⟩
def Acs (w:World) (v:Value) (l:List Ac):Prop:=∃ ps:List AP,ps.map (·.a) = l ∧ Rdk 3 w v l.length (acsV ps) ∧ ∀ p ∈ ps,Tms w (.slice p.xA p.xn p.xc) p.a.x
theorem Acs.keep {w w':World} {v:Value} {l:List Ac} (h:Acs w v l) (hb:Below w.heap.size w w'):Acs w' v l:=by
 obtain ⟨ps,hm,hr,hx⟩:=h
 exact ⟨ps,hm,hr.keep hb,fun p hp => (hx p hp).keep hb⟩
theorem Acs.shape {w:World} {v:Value} {l:List Ac} (h:Acs w v l):∃ A n c,v = .slice A n c ∧ n = l.length ∧ n ≤ c:=by
 obtain ⟨ps,hm,⟨A,c,hv,hc,_⟩,_⟩:=h
 exact ⟨A,_,c,hv,rfl,hc⟩
theorem Acs.len {w:World} {A:Option Addr} {n c:Nat} {l:List Ac} (h:Acs w (.slice A n c) l):n = l.length ∧ n ≤ c:=by
 obtain ⟨A',n',c',heq,hn,hc⟩:=h.shape
 cases heq
 exact ⟨hn,hc⟩
theorem Acs.at_ {w:World} {A:Option Addr} {n c:Nat} {l:List Ac} {i:Nat} {a:Ac} (h:Acs w (.slice A n c) l) (hi:l[i]? = some a) :
 ∃ b off xA xn xc,A = some ⟨b,off,none⟩ ∧ b < w.heap.size ∧ Tms w (.slice xA xn xc) a.x ∧ w.cell? ⟨b,off + i * 3,none⟩ = some (.string a.s) ∧ w.cell? ⟨b,off + i * 3 + 1,none⟩ = some (.bool a.any) ∧ w.cell? ⟨b,off + i * 3 + 2,none⟩ = some (.slice xA xn xc):=by
 obtain ⟨ps,hm,⟨A',c',heq,hc,hl,hA⟩,hx⟩:=h
 cases heq
 subst hm
 have:=get_lt hi
 obtain ⟨b,off,rfl,hb,hcell⟩:=hA (by omega)
 rw [List.getElem?_map] at hi
 cases hp:ps[i]? with
 | none => rw [hp] at hi; cases hi
 | some p =>
   rw [hp] at hi
   cases hi
   obtain ⟨g0,g1,g2⟩:=acsV_get hp
   exact ⟨b,off,p.xA,p.xn,p.xc,rfl,hb,hx p (List.mem_of_getElem? hp),hcell _ _ g0,by rw [Nat.add_assoc]; exact hcell _ _ g1,by rw [Nat.add_assoc]; exact hcell _ _ g2⟩
def SmallA (a:Ac):Prop:=a.s.size ≤ 9223372036854775807 ∧ Small a.x ∧ a.x.length ≤ 4398046511104
theorem oneA_name {a:Ac} (h:isName a.s.data.toList = false):oneA a = 1:=by unfold oneA; rw [if_pos h]
theorem oneA_expr {a:Ac} (h:isName a.s.data.toList = true) (h2:a.any = false):oneA a = chk a.x:=by unfold oneA; rw [if_neg (by simp [h]),if_pos h2]
theorem oneA_any {a:Ac} (h:isName a.s.data.toList = true) (h2:a.any = true):oneA a = if a.x.length = 0 then 0 else 1:=by unfold oneA; rw [if_neg (by simp [h]),if_neg (by simp [h2])]
end Go.Proofs.YtjfghaohogcfbaaGreatDoor
namespace Go.Proofs.YtjfghaohogcfbaaGreatDoor
open Go.RowKit TermSpec EvalSpec ActSpec NamesSpec ExprSpec TransSpec
structure SmallT (t:Tr):Prop where
 ev:t.ev.size ≤ 9223372036854775807
 tg:t.tg.size ≤ 9223372036854775807
 g:Small t.g
 glen:t.g.length ≤ 4398046511104
 acts:∀ a ∈ t.acts,SmallA a
 alen:t.acts.length ≤ 9223372036854775807
structure TrIn (W:World) (gA:Option Addr) (gn gc:Nat) (aA:Option Addr) (an ac:Nat) (t:Tr):Prop where
 g:Tms W (.slice gA gn gc) t.g
 a:Acs W (.slice aA an ac) t.acts
section
variable {W W':World} {gA aA:Option Addr} {gn gc an ac:Nat} {t:Tr}
theorem TrIn.keep (h:TrIn W gA gn gc aA an ac t) (hb:Below W.heap.size W W'):TrIn W' gA gn gc aA an ac t:=⟨h.g.keep hb,h.a.keep hb⟩
theorem TrIn.alloc (h:TrIn W gA gn gc aA an ac t) (o:Obj):TrIn (W.alloc o) gA gn gc aA an ac t:=h.keep (KitC.below_one W o)
theorem TrIn.len (h:TrIn W gA gn gc aA an ac t):gn = t.g.length ∧ an = t.acts.length:=by
 obtain ⟨A',n',c',heq,hn,-⟩:=h.g.shape
 cases heq
 exact ⟨hn,h.a.len.1⟩
theorem TrIn.cap (h:TrIn W gA gn gc aA an ac t):gn ≤ gc ∧ an ≤ ac:=by
 obtain ⟨A',n',c',heq,-,hc⟩:=h.g.shape
 cases heq
 exact ⟨hc,h.a.len.2⟩
end
abbrev trO (ev:ByteArray) (gA:Option Addr) (gn gc:Nat) (aA:Option Addr) (an ac:Nat) (tg:ByteArray):Obj:=.cells #[.string ev,.slice gA gn gc,.slice aA an ac,.string tg] 65
theorem okN_nil {s:ByteArray} (h:s.size = 0):okN s = true:=by unfold okN; simp [h]
theorem okN_pos {s:ByteArray} (h:0 < s.size):okN s = isName s.data.toList:=by
 unfold okN
 rw [decide_eq_false (show ¬ s.size = 0 by omega)]
 rfl
theorem chkT_name {t:Tr} (h:okN t.ev = false ∨ okN t.tg = false):chkT t = 1:=by unfold chkT; rw [if_pos h]
theorem chkT_nog {t:Tr} (h1:okN t.ev = true) (h2:okN t.tg = true) (h:t.g.length = 0):chkT t = chkA t.acts:=by unfold chkT; rw [if_neg (by rw [h1,h2]; simp),if_neg (fun h' => h'.1 h)]
theorem chkT_bad {t:Tr} (h1:okN t.ev = true) (h2:okN t.tg = true) (h:t.g.length ≠ 0) (hk:chk t.g ≠ 0):chkT t = chk t.g:=by unfold chkT; rw [if_neg (by rw [h1,h2]; simp),if_pos ⟨h,hk⟩]
theorem chkT_good {t:Tr} (h1:okN t.ev = true) (h2:okN t.tg = true) (hk:chk t.g = 0):chkT t = chkA t.acts:=by unfold chkT; rw [if_neg (by rw [h1,h2]; simp),if_neg (fun h' => h'.2 hk)]
end Go.Proofs.YtjfghaohogcfbaaGreatDoor
namespace Go.Proofs.YtjfghaohogcfbaaGreatDoor
open Go.RowKit CurSpec TermSpec ExprSpec NamesSpec
set_option maxRecDepth 100000
theorem Tms.own {w:World} {base n:Nat} {v:Value} {l:List Tm} (hn:n = l.length) (h:w.ownsRow base 105 3 v n (tmsV l)):Tms w v l:=⟨n,hn,Rdk.own h⟩
end Go.Proofs.YtjfghaohogcfbaaGreatDoor
namespace Go.Proofs.YtjfghaohogcfbaaGreatDoor
open Go.RowKit CurSpec TermSpec ExprSpec NamesSpec
set_option maxRecDepth 100000
theorem tms_but {w w':World} {A:Option Addr} {n cp B:Nat} {l:List Tm} (h:Tms w (.slice A n cp) l) (hb:w.grownBy w' (some B)) (hne:(Value.slice A n cp).ownBlock ≠ some B):Tms w' (.slice A n cp) l:=by
 obtain ⟨m,hm,A',c',heq,hc,hl,hA⟩:=h
 cases heq
 refine ⟨n,hm,A,cp,rfl,hc,hl,fun h0 => ?_⟩
 obtain ⟨b,off,rfl,hlt,hcell⟩:=hA h0
 refine ⟨b,off,rfl,Nat.lt_of_lt_of_le hlt hb.size,fun j u hj => ?_⟩
 rw [← hcell j u hj]
 have:=hb.block b hlt (fun e => hne (by rw [← e]; rfl))
 simp [World.cell?,this]
theorem tmsNil (w:World):Tms w (.slice none 0 0) []:=⟨0,rfl,Rdk.nil 3 w⟩
end Go.Proofs.YtjfghaohogcfbaaGreatDoor
namespace Go.Proofs.YtjfghaohogcfbaaGreatDoor
open Go.RowKit CurSpec TermSpec EvalSpec ActSpec NamesSpec ExprSpec
set_option maxRecDepth 100000
def RetOne (W:World) (B:Nat) (p:Cur × Ac) (e:Ending) (w':World):Prop :=
 ∃ A n cp,e = .returned (.agg #[.string p.2.s,.bool p.2.any,.slice A n cp]) ∧ CurAt w' B p.1 ∧ Tms w' (.slice A n cp) p.2.x ∧ (∀ b,(Value.slice A n cp).ownBlock = some b → W.heap.size ≤ b) ∧ W.grownBy w' (some B)
theorem rb_any (s:ByteArray) (w:World):(Instr.build 103 #[(0,.string s),(1,.bool true)]).run Tryz.prog w = .ok (.agg #[.string s,.bool true,.slice none 0 0]) w:=run_build w 103 _ _ (by kernel_rfl)
theorem rb_set (s:ByteArray) (A:Option Addr) (n c:Nat) (w:World):(Instr.build 103 #[(0,.string s),(2,.slice A n c)]).run Tryz.prog w = .ok (.agg #[.string s,.bool false,.slice A n c]) w:=run_build w 103 _ _ (by kernel_rfl)
theorem store_three {w:World} {b:Nat} (h:Blk w b 3) (u0 u1 u2:Value) :
 (w.setCell ⟨b,0,none⟩ u0).cell? ⟨b,0,none⟩ = some u0 ∧ ((w.setCell ⟨b,0,none⟩ u0).setCell ⟨b,1,none⟩ u1).cell? ⟨b,1,none⟩ = some u1 ∧
 (((w.setCell ⟨b,0,none⟩ u0).setCell ⟨b,1,none⟩ u1).setCell ⟨b,2,none⟩ u2).cell? ⟨b,2,none⟩ = some u2 :=
 ⟨h.read 0 (by omega) _,(h.set _ _).read 1 (by omega) _,((h.set _ _).set _ _).read 2 (by omega) _⟩
theorem set_three (w:World) (b:Nat) (u0 u1 u2:Value):w.grownBy (((w.setCell ⟨b,0,none⟩ u0).setCell ⟨b,1,none⟩ u1).setCell ⟨b,2,none⟩ u2) (some b):=but_set (but_set (but_set (but_refl _ _) 0 _) 1 _) 2 _
theorem but_own {w x y:World} {B:Nat} {o:Obj} (h:(w.alloc o).grownBy x (some B)) (hy:x.grownBy y (some w.heap.size)):w.grownBy y (some B):=by
 have hz:=h.size
 rw [World.size_alloc] at hz
 exact ⟨hy.os.trans h.os,hy.tape.trans h.tape,hy.output.trans h.output,Nat.le_trans (by omega) hy.size,fun i hi hn => (hy.block i (by omega) (by simp; omega)).trans ((h.block i (by rw [World.size_alloc]; omega) hn).trans (heap_alloc_old _ _ hi))⟩
theorem CurAt.own {x y:World} {B k:Nat} {c:Cur} (h:CurAt x B c) (hy:x.grownBy y (some k)) (hlt:B < k):CurAt y B c:=h.but hy hlt
theorem grown_block {x y:World} {b B:Nat} {o:Obj} (h:x.heap[b]? = some o) (hb:x.grownBy y (some B)) (hne:b ≠ B):y.heap[b]? = some o:=(hb.block b (Array.getElem?_eq_some_iff.1 h).1 (by simpa using hne)).trans h
theorem signs_but {w w':World} {B:Nat} {c:Cur} (h:SignsIn w) (hc:CurAt w B c) (hb:w.grownBy w' (some B)):SignsIn w':=by
 refine h.of (hb.block _ h.pos fun e => ?_)
 obtain ⟨T,fr,h⟩:=h
 obtain ⟨b,off,n,cp,hB,_⟩:=hc
 injection e with e
 rw [← e,h] at hB
 simp only [Option.some.injEq,Obj.cells.injEq] at hB
 exact absurd ((congrArg Array.size hB.1).symm.trans rfl) (show ¬ _ = signsV.size by rw [show signsV.size = 55 by decide]; simp)
set_option maxHeartbeats 4000000 in
theorem readOne_at (B:Nat) (c:Cur) (w:World) (hs:SignsIn w) (h:CurAt w B c) (ok:Ok c) :
 Calls Tryz.prog 166 #[.pointer (some ⟨B,0,none⟩)] w (RetOne w B (oneR c)):=by
 have hB:=h.lt
 have b1:=rb_any
 have b2:=rb_set
 have h1:=h.alloc (.cells #[.string ⟨#[]⟩,.bool false,.slice none 0 0] 103)
 have hk:=heap_alloc_new w (.cells #[.string ⟨#[]⟩,.bool false,.slice none 0 0] 103)
 have hs1:=hs.alloc (.cells #[.string ⟨#[]⟩,.bool false,.slice none 0 0] 103)
 obtain ⟨w1,hw1⟩:∃ w1,w.alloc (.cells #[.string ⟨#[]⟩,.bool false,.slice none 0 0] 103) = w1:=⟨_,rfl⟩
 have hsz:w1.heap.size = w.heap.size + 1:=by rw [← hw1,World.size_alloc]
 rw [hw1] at h1 hk hs1
 have HK:=Lib.hid hk
 have HS:=Lib.hid hs1
 have HT:=Lib.hid (take_at B c 1 wAny w1 h1)
 have HCU:=Lib.hid h1
 have HW:=Lib.hid hw1
 have HSZ:=Lib.hid hsz
 obtain ⟨P,hP⟩:∃ P,P = oneR c:=⟨_,rfl⟩
 rw [← hP]
 by_cases hb:isB c 1 wAny = true
 ·have HP:Hid (P = (nameC (on c),⟨nameS (on c),true,[]⟩)):=Lib.hid (by rw [hP]; unfold oneR; rw [if_pos hb])
  rw [hb,show take c 1 wAny = on c by unfold take; rw [if_pos hb]] at HT
  have HN:=Lib.hid (fun W (hW:CurAt W B (on c)) => name_at B (on c) ok.on W hW)
  clear hP hb h hs h1 hk hs1 hw1 hsz ok
  go_enter Tryz.func166,Tryz.ntmps166
  go_wp2_with (rw [HW.out]; go_at_call 52; (with_reducible refine HT.out.mono ?_))
  rintro e x2 ⟨rfl,hc2,hb2⟩
  have HB2:=Lib.hid hb2
  have HC2:=Lib.hid hc2
  clear hb2 hc2
  go_wp2_with (go_at_call 47; (with_reducible refine (HN.out _ HC2.out).mono ?_))
  rintro e x3 ⟨rfl,hc3,hb3⟩
  have HB3:=Lib.hid (but_trans HB2.out hb3)
  have HC3:=Lib.hid hc3
  have hk3:=grown_block HK.out HB3.out (show w.heap.size ≠ B by omega)
  have HK3:=Lib.hid hk3
  obtain ⟨c0,c1,c2⟩:=cells_3 hk3
  obtain ⟨f0,f1,f2⟩:=free_3 hk3
  obtain ⟨s,hs⟩:∃ s,s = nameS (on c):=⟨_,rfl⟩
  rw [← hs] at HP ⊢
  clear hb3 hc3 hk3 hs
  go_wp2_with fail
  obtain ⟨q0,q1,q2⟩:=store_three (blk_of HK3.out (n:=3) rfl) (.string s) (.bool true) (.slice none 0 0)
  refine bodyPost_ret (v:=.agg #[.string s,.bool true,.slice none 0 0]) (by simp [results,Tryz.results166,go_sem,q0,q1,q2]) rfl ?_
  have hb3:=HB3.out
  rw [← HW.out] at hb3
  refine ⟨none,0,0,by rw [HP.out],?_,?_,by simp [Value.ownBlock],but_own hb3 (set_three _ _ _ _ _)⟩
  ·rw [HP.out]; exact HC3.out.own (set_three _ _ _ _ _) (by omega)
  ·rw [HP.out]; exact ⟨0,rfl,Rdk.nil 3 _⟩
 ·have HP:Hid (P = ((rdE (want (nameC c) 3 wSet)).1,⟨nameS c,false,(rdE (want (nameC c) 3 wSet)).2⟩)):=Lib.hid (by rw [hP]; unfold oneR; rw [if_neg hb])
  have hb':isB c 1 wAny = false:=by simpa using hb
  rw [hb',show take c 1 wAny = c by unfold take; rw [if_neg hb]] at HT
  have HN:=Lib.hid (fun W (hW:CurAt W B c) => name_at B c ok W hW)
  have HWA:=Lib.hid (fun W (hW:CurAt W B (nameC c)) => want_at B (nameC c) 3 wSet W hW)
  have HRD:=Lib.hid (fun W (hs:SignsIn W) (hW:CurAt W B (want (nameC c) 3 wSet)) => read_at B (want (nameC c) 3 wSet) _ W hs hW (ok.nameC.want 3 wSet) (fit_self _))
  clear hP hb hb' h hs h1 hk hs1 hw1 hsz ok
  go_enter Tryz.func166,Tryz.ntmps166
  go_wp2_with (rw [HW.out]; go_at_call 52; (with_reducible refine HT.out.mono ?_))
  rintro e x2 ⟨rfl,hc2,hb2⟩
  have HB2:=Lib.hid hb2
  have HC2:=Lib.hid hc2
  clear hb2 hc2
  go_wp2_with (go_at_call 47; (with_reducible refine (HN.out _ HC2.out).mono ?_))
  rintro e x3 ⟨rfl,hc3,hb3⟩
  have HB3:=Lib.hid (but_trans HB2.out hb3)
  have HC3:=Lib.hid hc3
  clear hb3 hc3
  go_wp2_with (go_at_call 21; (with_reducible refine (HWA.out _ HC3.out).mono ?_))
  rintro e x4 ⟨rfl,hc4,hb4⟩
  have HB4:=Lib.hid (but_trans HB3.out hb4)
  have HC4:=Lib.hid hc4
  clear hb4 hc4
  have HS4:Hid (SignsIn x4):=Lib.hid (signs_but HS.out HCU.out HB4.out)
  go_wp2_with (go_at_call 168; (with_reducible refine (HRD.out _ HS4.out HC4.out).mono ?_))
  rintro e x5 ⟨A5,n5,c5,rfl,hc5,ht5,hn5,hb5,ho5⟩
  have HB5:=Lib.hid (but_trans HB4.out hb5)
  have HO5:=Lib.hid (fun b hb => Nat.le_trans HB4.out.size (ho5 b hb))
  have HC5:=Lib.hid (And.intro hc5 ht5)
  have hk5:=grown_block HK.out HB5.out (show w.heap.size ≠ B by omega)
  have HK5:=Lib.hid hk5
  obtain ⟨c0,c1,c2⟩:=cells_3 hk5
  obtain ⟨f0,f1,f2⟩:=free_3 hk5
  obtain ⟨s,hs⟩:∃ s,s = nameS c:=⟨_,rfl⟩
  rw [← hs] at HP ⊢
  clear hb5 hc5 hk5 hs ho5 ht5 hn5
  go_wp2_with fail
  obtain ⟨q0,q1,q2⟩:=store_three (blk_of HK5.out (n:=3) rfl) (.string s) (.bool false) (.slice A5 n5 c5)
  refine bodyPost_ret (v:=.agg #[.string s,.bool false,.slice A5 n5 c5]) (by simp [results,Tryz.results166,go_sem,q0,q1,q2]) rfl ?_
  have hb5:=HB5.out
  rw [← HW.out] at hb5
  refine ⟨A5,n5,c5,by rw [HP.out],?_,?_,fun b hb => by have:=HO5.out b hb; have:=HSZ.out; omega,but_own hb5 (set_three _ _ _ _ _)⟩
  ·rw [HP.out]; exact HC5.out.1.own (set_three _ _ _ _ _) (by omega)
  ·rw [HP.out]
   refine tms_but HC5.out.2 (set_three _ _ _ _ _) fun hb => ?_
   have:=HO5.out _ hb
   have:=HSZ.out
   omega
end Go.Proofs.YtjfghaohogcfbaaGreatDoor