/- CurMem, CurAt, CurDead, CurRef, CurLive, RowB, RowK, joined. -/
import Derived.Test.YtapnomdckglehaaGreatRows
import Derived.Test.YtapnomdckglehaaGreatMAtlasTurns00
import Derived.RegionTactic
import Derived.ChangeAlike
import Derived.Deep.AppendLies
import Derived.Deep.RegionLaw
namespace Go.Proofs.YtapnomdckglehaaGreat
open Go.RowKit CurSpec
def tkV (t:Tk):List Value:=[.int .i64 t.k,.string t.t,.int .i64 t.l,.int .i64 t.c]
def tksV (l:List Tk):List Value:=l.flatMap tkV
theorem tkV_length (t:Tk):(tkV t).length = 4:=rfl
theorem tksV_length (l:List Tk):(tksV l).length = l.length * 4:=flat_length tkV_length l
theorem tksV_cons (t:Tk) (l:List Tk):tksV (t :: l) = tkV t ++ tksV l:=by simp [tksV]
theorem tksV_get {l:List Tk} {i:Nat} {t:Tk} (h:l[i]? = some t):(tksV l)[i * 4]? = some (.int .i64 t.k) ∧ (tksV l)[i * 4 + 1]? = some (.string t.t) ∧ (tksV l)[i * 4 + 2]? = some (.int .i64 t.l) ∧ (tksV l)[i * 4 + 3]? = some (.int .i64 t.c) :=
 ⟨flat_get (j:=0) tkV_length h (by omega),flat_get (j:=1) tkV_length h (by omega),flat_get (j:=2) tkV_length h (by omega),flat_get (j:=3) tkV_length h (by omega)⟩
def Toks (w:World) (v:Value) (l:List Tk):Prop:=∃ n,n = l.length ∧ Rdk 4 w v n (tksV l)
theorem Toks.keep {w w':World} {v:Value} {l:List Tk} (h:Toks w v l) (hb:Below w.heap.size w w'):Toks w' v l:=by
 obtain ⟨n,hn,h⟩:=h
 exact ⟨n,hn,h.keep hb⟩
theorem Toks.alloc {w:World} {v:Value} {l:List Tk} (h:Toks w v l) (o:Obj):Toks (w.alloc o) v l:=h.keep ((Below.refl _ _).alloc (Nat.le_refl _) _)
theorem Toks.cons {w:World} {v:Value} {t:Tk} {l:List Tk} (h:Toks w v (t :: l)) :
 ∃ b off n c,v = .slice (some ⟨b,off,none⟩) (n + 1) c ∧ n = l.length ∧ n + 1 ≤ c ∧ b < w.heap.size ∧ w.cell? ⟨b,off,none⟩ = some (.int .i64 t.k) ∧ w.cell? ⟨b,off + 1,none⟩ = some (.string t.t) ∧ w.cell? ⟨b,off + 2,none⟩ = some (.int .i64 t.l) ∧ w.cell? ⟨b,off + 3,none⟩ = some (.int .i64 t.c) ∧
   Toks w (.slice (some ⟨b,if c = 1 then off else off + 4,none⟩) n (c - 1)) l:=by
 obtain ⟨n,rfl,A,c,rfl,hc,hl,hA⟩:=h
 obtain ⟨b,off,rfl,hb,hcell⟩:=hA (by simp)
 have g:=tksV_get (l:=t :: l) (i:=0) rfl
 simp only [List.length_cons] at hc
 refine ⟨b,off,l.length,c,rfl,rfl,hc,hb,hcell 0 _ g.1,hcell 1 _ g.2.1,hcell 2 _ g.2.2.1,hcell 3 _ g.2.2.2,l.length,rfl,_,_,rfl,by omega,tksV_length l,fun h0 => ⟨b,off + 4,?_,hb,fun j u hj => ?_⟩⟩
 ·rw [if_neg (by omega)]
 ·rw [show off + 4 + j = off + (4 + j) by omega]
  refine hcell _ _ ?_
  rw [tksV_cons,List.getElem?_append_right (by rw [tkV_length]; omega),tkV_length,Nat.add_sub_cancel_left,hj]
theorem Toks.shape {w:World} {v:Value} {l:List Tk} (h:Toks w v l):∃ A n c,v = .slice A n c ∧ n = l.length:=by
 obtain ⟨n,hn,A,c,hv,_⟩:=h
 exact ⟨A,n,c,hv,hn⟩
def Blk (w:World) (b n:Nat):Prop:=∃ cs T,w.heap[b]? = some (.cells cs T (0,0)) ∧ cs.size = n
theorem Blk.of {w:World} {b:Nat} {cs:Array Value} {T:TypeId} (h:w.heap[b]? = some (.cells cs T (0,0))):Blk w b cs.size:=⟨cs,T,h,rfl⟩
theorem Blk.set {w:World} {b n:Nat} (h:Blk w b n) (i:Nat) (u:Value):Blk (w.setCell ⟨b,i,none⟩ u) b n:=by
 obtain ⟨cs,T,h,hn⟩:=h
 exact ⟨_,T,block_setCell' h i u,by rw [Array.size_setIfInBounds,hn]⟩
theorem Blk.read {w:World} {b n:Nat} (h:Blk w b n) (i:Nat) (hi:i < n) (u:Value):(w.setCell ⟨b,i,none⟩ u).cell? ⟨b,i,none⟩ = some u:=by
 obtain ⟨cs,T,h,hn⟩:=h
 exact cell_of_block' (block_setCell' h i u) (by rw [Array.getElem?_setIfInBounds_self,if_pos (by omega)])
theorem store_4 {w:World} {b:Nat} (h:Blk w b 4) (u0 u1 u2 u3:Value) :
 (w.setCell ⟨b,0,none⟩ u0).cell? ⟨b,0,none⟩ = some u0 ∧ ((w.setCell ⟨b,0,none⟩ u0).setCell ⟨b,1,none⟩ u1).cell? ⟨b,1,none⟩ = some u1 ∧
 (((w.setCell ⟨b,0,none⟩ u0).setCell ⟨b,1,none⟩ u1).setCell ⟨b,2,none⟩ u2).cell? ⟨b,2,none⟩ = some u2 ∧
 ((((w.setCell ⟨b,0,none⟩ u0).setCell ⟨b,1,none⟩ u1).setCell ⟨b,2,none⟩ u2).setCell ⟨b,3,none⟩ u3).cell? ⟨b,3,none⟩ = some u3 :=
 ⟨h.read 0 (by omega) _,(h.set _ _).read 1 (by omega) _,((h.set _ _).set _ _).read 2 (by omega) _,(((h.set _ _).set _ _).set _ _).read 3 (by omega) _⟩
theorem below_pair (w:World) (o p:Obj):Below w.heap.size w ((w.alloc o).alloc p):=((Below.refl _ _).alloc (Nat.le_refl _) _).alloc (by simp) _
theorem pair_blocks {w w2:World} {o p:Obj} (hb:Below ((w.alloc o).alloc p).heap.size ((w.alloc o).alloc p) w2) :
 w2.heap[w.heap.size]? = some o ∧ w2.heap[w.heap.size + 1]? = some p ∧ Below w.heap.size w w2 ∧ w.heap.size + 1 < w2.heap.size:=by
 have hz:=hb.size
 simp only [World.size_alloc] at hz
 refine ⟨(hb.block _ (by simp; omega)).trans ((heap_alloc_old _ _ (by simp)).trans (heap_alloc_new _ _)),(hb.block _ (by simp)).trans ?_,?_,by omega⟩
 ·have:=heap_alloc_new (w.alloc o) p
  rwa [World.size_alloc] at this
 ·exact (below_pair w o p).trans (hb.mono (by simp; omega))
theorem one_block {w w2:World} {o:Obj} (hb:Below (w.alloc o).heap.size (w.alloc o) w2):w2.heap[w.heap.size]? = some o ∧ Below w.heap.size w w2 ∧ w.heap.size < w2.heap.size:=by
 have hz:=hb.size
 simp only [World.size_alloc] at hz
 exact ⟨(hb.block _ (by simp)).trans (heap_alloc_new _ _),((Below.refl _ _).alloc (Nat.le_refl _) _).trans (hb.mono (by simp)),by omega⟩
theorem block_on {w w2:World} {b:Nat} {o:Obj} (h:w.heap[b]? = some o) (hb:Below w.heap.size w w2):w2.heap[b]? = some o:=(hb.block b (Array.getElem?_eq_some_iff.1 h).1).trans h
theorem blk_of {w:World} {b n:Nat} {cs:Array Value} {T:TypeId} (h:w.heap[b]? = some (.cells cs T (0,0))) (hn:cs.size = n):Blk w b n:=⟨cs,T,h,hn⟩
theorem Blk.other {w:World} {b n c:Nat} (h:Blk w b n) (hne:b ≠ c) (i:Nat) (u:Value):Blk (w.setCell ⟨c,i,none⟩ u) b n:=by
 obtain ⟨cs,T,h,hn⟩:=h
 exact ⟨cs,T,(Below.heap_setCell _ _ _ _ hne).trans h,hn⟩
end Go.Proofs.YtapnomdckglehaaGreat
namespace Go.Proofs.YtapnomdckglehaaGreat
open Go.RowKit CurSpec
theorem Toks.but {w w':World} {b off n cp B:Nat} {l:List Tk} (h:Toks w (.slice (some ⟨b,off,none⟩) n cp) l) (hb:w.grownBy w' (some B)) (hne:b ≠ B):Toks w' (.slice (some ⟨b,off,none⟩) n cp) l:=by
 obtain ⟨m,hm,A,c,heq,hc,hl,hA⟩:=h
 cases heq
 refine ⟨n,hm,_,cp,rfl,hc,hl,fun h0 => ?_⟩
 obtain ⟨b',off',h1,hlt,hcell⟩:=hA h0
 cases h1
 refine ⟨b,off,rfl,Nat.lt_of_lt_of_le hlt hb.size,fun j u hj => ?_⟩
 rw [← hcell j u hj]
 have:=hb.block b hlt (by simp; omega)
 simp [World.cell?,this]
end Go.Proofs.YtapnomdckglehaaGreat
namespace Go.Proofs.YtapnomdckglehaaGreat
open Go.RowKit CurSpec
section
end
end Go.Proofs.YtapnomdckglehaaGreat
namespace Go.Proofs.YtapnomdckglehaaGreat
open Go.RowKit CurSpec
end Go.Proofs.YtapnomdckglehaaGreat
namespace Go.Proofs.YtapnomdckglehaaGreat
open Go.RowKit CurSpec
theorem but_below {w w':World} {B:Nat} (h:Below w.heap.size w w'):w.grownBy w' (some B):=⟨h.os,h.tape,h.output,h.size,fun i hi _ => h.block i hi⟩
end Go.Proofs.YtapnomdckglehaaGreat
namespace Go.Proofs.YtapnomdckglehaaGreat
open Go.RowKit CurSpec
def Dep (w:World) (S:Nat → Prop) (P:World → Prop):Prop:=∀ w',w.heap.size ≤ w'.heap.size → (∀ b,b < w.heap.size → S b → w'.heap[b]? = w.heap[b]?) → P w'
section
variable {w w':World} {S S':Nat → Prop} {P Q:World → Prop}
theorem Dep.now (h:Dep w S P):P w:=h w (Nat.le_refl _) (fun _ _ _ => rfl)
theorem Dep.go {ob:Option Nat} (h:Dep w S P) (hb:w.grownBy w' ob) (hne:∀ b,S b → ob ≠ some b):Dep w' S P :=
 fun w2 hz hx => h w2 (Nat.le_trans hb.size hz) fun b hlt hS => (hx b (Nat.lt_of_lt_of_le hlt hb.size) hS).trans (hb.block b hlt fun e => hne b hS e.symm)
theorem Dep.keep (h:Dep w S P) (hb:Below w.heap.size w w'):Dep w' S P :=
 fun w2 hz hx => h w2 (Nat.le_trans hb.size hz) fun b hlt hS => (hx b (Nat.lt_of_lt_of_le hlt hb.size) hS).trans (hb.block b hlt)
theorem Dep.alloc (h:Dep w S P) (o:Obj):Dep (w.alloc o) S P:=h.keep (KitC.below_one w o)
theorem Dep.mono (h:Dep w S P) (hs:∀ b,b < w.heap.size → S b → S' b):Dep w S' P:=fun w2 hz hx => h w2 hz fun b hlt hS => hx b hlt (hs b hlt hS)
theorem Dep.imp (h:Dep w S P) (hp:∀ w',P w' → Q w'):Dep w S Q:=fun w2 hz hx => hp _ (h w2 hz hx)
theorem Dep.and (h:Dep w S P) (g:Dep w S Q):Dep w S (fun x => P x ∧ Q x):=fun w2 hz hx => ⟨h w2 hz hx,g w2 hz hx⟩
theorem Dep.triv (h:∀ w',P w'):Dep w S P:=fun w2 _ _ => h w2
end
theorem rdk_dep {w:World} {k n:Nat} {v:Value} {xs:List Value} {S:Nat → Prop} (h:Rdk k w v n xs) (hS:0 < n → ∀ b,v.ownBlock = some b → S b):Dep w S (fun x => Rdk k x v n xs):=by
 intro w2 hz hx
 obtain ⟨A,c,rfl,hc,hl,hA⟩:=h
 refine ⟨A,c,rfl,hc,hl,fun h0 => ?_⟩
 obtain ⟨b,off,rfl,hlt,hcell⟩:=hA h0
 refine ⟨b,off,rfl,Nat.lt_of_lt_of_le hlt hz,fun j u hj => ?_⟩
 rw [← hcell j u hj]
 simp [World.cell?,hx b hlt (hS h0 b rfl)]
theorem own_set {w:World} {base n k g cap:Nat} {e:TypeId} {xs:List Value} (h:w.ownsRow base e k (.slice (some ⟨g,0,none⟩) n cap) n xs) {i:Nat} (_hi:i < xs.length) (u:Value) :
 (w.setCell ⟨g,i,none⟩ u).ownsRow base e k (.slice (some ⟨g,0,none⟩) n cap) n (xs.set i u):=by
 refine ⟨by rw [List.length_set]; exact h.1,?_⟩
 have hl:=h.1
 rcases h.2 with ⟨h1,_⟩ | ⟨g',cap',cur,h1,h2,h3,h4,h5,h6,h7⟩
 ·cases h1
 ·injection h1 with h1 _ h8
  injection h1 with h1
  injection h1 with h1
  subst h1 h8
  refine .inr ⟨g,cap,cur.setIfInBounds i u,rfl,h2,block_setCell' h3 i u,h4,h5,by rw [Array.size_setIfInBounds,h6],?_⟩
  rw [← h7,Array.toList_setIfInBounds,List.take_set]
theorem own_cell {w:World} {base n k g cap:Nat} {e:TypeId} {xs:List Value} (h:w.ownsRow base e k (.slice (some ⟨g,0,none⟩) n cap) n xs):(∃ cur,w.heap[g]? = some (.cells cur e (0,0)) ∧ xs.length ≤ cur.size) ∧ ∀ i u,xs[i]? = some u → w.cell? ⟨g,i,none⟩ = some u:=by
 have hl:=h.1
 rcases h.2 with ⟨h1,_⟩ | ⟨g',cap',cur,h1,h2,h3,h4,h5,h6,h7⟩
 ·cases h1
 ·injection h1 with h1 _ h8
  injection h1 with h1
  injection h1 with h1
  subst h1 h8
  refine ⟨⟨cur,h3,by rw [h6,hl]; exact Nat.mul_le_mul_right k h4⟩,fun i u hi => ?_⟩
  have hi':i < xs.length:=(List.getElem?_eq_some_iff.1 hi).1
  rw [← h7,List.getElem?_take_of_lt (by omega),Array.getElem?_toList] at hi
  simp [World.cell?,h3,hi]
theorem own_at {w:World} {base n k:Nat} {e:TypeId} {v:Value} {xs:List Value} (h:w.ownsRow base e k v n xs) (h0:0 < n):∃ g cap,v = .slice (some ⟨g,0,none⟩) n cap ∧ n ≤ cap:=by
 rcases h.2 with ⟨_,h2⟩ | ⟨g,cap,cur,h1,h2,h3,h4,h5,h6,h7⟩
 ·omega
 ·exact ⟨g,cap,h1,h4⟩
theorem flat_set {α:Type} {k:Nat} {f:α → List Value} (hf:∀ a,(f a).length = k):∀ {l:List α} {i j:Nat} {a a':α} {u:Value},l[i]? = some a → j < k → f a' = (f a).set j u → (l.set i a').flatMap f = (l.flatMap f).set (i * k + j) u
 | [],_,_,_,_,_,h,_,_ => by simp at h
 | b :: t,0,j,a,a',u,h,hj,hu => by
   simp at h; subst h
   rw [List.set_cons_zero,List.flatMap_cons,List.flatMap_cons,Nat.zero_mul,Nat.zero_add,List.set_append_left _ _ (by rw [hf]; exact hj),hu]
 | b :: t,i + 1,j,a,a',u,h,hj,hu => by
   rw [List.set_cons_succ,List.flatMap_cons,List.flatMap_cons,List.set_append_right _ _ (by rw [hf,Nat.add_mul]; omega),hf,show (i + 1) * k + j - k = i * k + j by rw [Nat.add_mul]; omega,flat_set hf (l:=t) (by simpa using h) hj hu]
structure RowB {α:Type} (T:TypeId) (k:Nat) (cv:α → List Value) (nest:α → World → Prop) (W:World) (B:Nat) (wr:World) (pv:Value) (ps:List α):Prop where
 own:wr.ownsRow W.heap.size T k pv ps.length (ps.flatMap cv)
 dep:∀ p ∈ ps,Dep wr (fun b => W.heap.size ≤ b ∧ pv.ownBlock ≠ some b) (nest p)
 grown:W.grownBy wr (some B)
 lt:B < W.heap.size
section
variable {α:Type} {T:TypeId} {k:Nat} {cv:α → List Value} {nest:α → World → Prop} {W wr w':World} {B:Nat} {pv:Value} {ps:List α}
theorem RowB.nil (hg:W.grownBy wr (some B)) (hB:B < W.heap.size):RowB T k cv nest W B wr (.slice none 0 0) []:=⟨World.ownsRow_nil _ _ _ _,fun _ h => by simp at h,hg,hB⟩
theorem RowB.one {p:α} (hg:W.grownBy wr (some B)) (hB:B < W.heap.size) (hlen:(cv p).length = k) (hn:Dep wr (fun b => W.heap.size ≤ b) (nest p)):RowB T k cv nest W B (wr.alloc (.cells (cv p).toArray T)) (.slice (some ⟨wr.heap.size,0,none⟩) 1 1) [p]:=by
 refine ⟨?_,fun q hq => ?_,but_trans hg (but_below (KitC.below_one _ _)),hB⟩
 ·have:=World.ownsRow_lit (base:=W.heap.size) (e:=T) (size:=k) wr (cv p).toArray 1 hg.size (by decide) (by simp [hlen])
  simpa using this
 ·rw [List.mem_singleton] at hq
  subst hq
  refine fun w2 hz hx => hn w2 (Nat.le_trans (KitC.below_one wr _).size hz) fun b hlt hS => (hx b (by rw [World.size_alloc]; omega) ⟨hS,fun e => ?_⟩).trans (heap_alloc_old _ _ hlt)
  injection e with e
  simp only at e
  omega
theorem RowB.but (h:RowB T k cv nest W B wr pv ps) (hb:wr.grownBy w' (some B)):RowB T k cv nest W B w' pv ps :=
 ⟨own_but h.own hb h.lt,fun p hp => (h.dep p hp).go hb fun b hS e => by injection e with e; have:=hS.1; have:=h.lt; omega,but_trans h.grown hb,h.lt⟩
theorem RowB.keep (h:RowB T k cv nest W B wr pv ps) (hb:Below wr.heap.size wr w'):RowB T k cv nest W B w' pv ps:=h.but (but_below hb)
theorem RowB.shape (h:RowB T k cv nest W B wr pv ps):∃ A c,pv = .slice A ps.length c:=own_shape h.own
theorem RowB.fresh {P:World → Prop} {w1:World} (h:RowB T k cv nest W B w1 pv ps) (_hz:w1.heap.size ≤ wr.heap.size) (hp:Dep wr (fun b => w1.heap.size ≤ b) P):Dep wr (fun b => W.heap.size ≤ b ∧ pv.ownBlock ≠ some b) P :=
 hp.mono fun b _ hb => ⟨Nat.le_trans h.grown.size hb,fun e => by have:=(own_block_bd h.own b e).2; omega⟩
theorem RowB.add {p:α} {pv':Value} {o:Obj} (h:RowB T k cv nest W B wr pv ps) (hn:Dep wr (fun b => W.heap.size ≤ b ∧ pv.ownBlock ≠ some b) (nest p))
 (hrow:w'.ownsRow W.heap.size T k pv' (ps.length + 1) (ps.flatMap cv ++ cv p)) (hg:(wr.alloc o).grownBy w' pv.ownBlock) (hob:pv'.ownBlock = pv.ownBlock ∨ pv'.ownBlock = some (wr.alloc o).heap.size) :
 RowB T k cv nest W B w' pv' (ps ++ [p]):=by
 have ha:Below wr.heap.size wr (wr.alloc o):=KitC.below_one wr o
 have hall:∀ q ∈ ps ++ [p],Dep wr (fun b => W.heap.size ≤ b ∧ pv.ownBlock ≠ some b) (nest q):=fun q hq => by
  rcases List.mem_append.1 hq with hq | hq
  ·exact h.dep q hq
  ·rw [List.mem_singleton] at hq
   subst hq
   exact hn
 refine ⟨by simpa [List.length_append] using hrow,fun q hq => ?_,?_,h.lt⟩
 ·intro w2 hz hx
  refine (hall q hq) w2 (Nat.le_trans ha.size (Nat.le_trans hg.size hz)) fun b hlt hS => ?_
  have hlt2:b < (wr.alloc o).heap.size:=Nat.lt_of_lt_of_le hlt ha.size
  refine (hx b (Nat.lt_of_lt_of_le hlt2 hg.size) ⟨hS.1,fun e => ?_⟩).trans ((hg.block b hlt2 fun e => hS.2 e.symm).trans (ha.block b hlt))
  rcases hob with e' | e'
  ·exact hS.2 (e'.symm.trans e)
  ·rw [e'] at e; injection e with e; omega
 ·have hgw:=h.grown
  refine ⟨hg.os.trans hgw.os,hg.tape.trans hgw.tape,hg.output.trans hgw.output,Nat.le_trans hgw.size (Nat.le_trans ha.size hg.size),fun i hi hn => ?_⟩
  have hi2:i < wr.heap.size:=Nat.lt_of_lt_of_le hi hgw.size
  refine (hg.block i (Nat.lt_of_lt_of_le hi2 ha.size) fun e => ?_).trans ((ha.block i hi2).trans (hgw.block i hi hn))
  have:=(own_block_bd h.own i e.symm).1
  omega
theorem RowB.set {i j g cap:Nat} {p p':α} {u:Value} (h:RowB T k cv nest W B wr (.slice (some ⟨g,0,none⟩) ps.length cap) ps) (hlen:∀ a,(cv a).length = k) (hp:ps[i]? = some p) (hj:j < k) (hu:cv p' = (cv p).set j u)
 (hn:Dep wr (fun b => W.heap.size ≤ b ∧ (Value.slice (some ⟨g,0,none⟩) ps.length cap).ownBlock ≠ some b) (nest p')) :
 RowB T k cv nest W B (wr.setCell ⟨g,i * k + j,none⟩ u) (.slice (some ⟨g,0,none⟩) ps.length cap) (ps.set i p'):=by
 have hs:wr.grownBy (wr.setCell ⟨g,i * k + j,none⟩ u) (some g):=but_set (but_refl wr _) _ _
 have hi:=(List.getElem?_eq_some_iff.1 hp).1
 have hlt:i * k + j < (ps.flatMap cv).length:=by
  rw [flat_length hlen]
  have:(i + 1) * k ≤ ps.length * k:=Nat.mul_le_mul_right k hi
  rw [Nat.add_mul] at this
  omega
 refine ⟨?_,fun q hq => ?_,?_,h.lt⟩
 ·rw [List.length_set,flat_set hlen hp hj hu]
  exact own_set h.own hlt u
 ·have hall:Dep wr (fun b => W.heap.size ≤ b ∧ (Value.slice (some ⟨g,0,none⟩) ps.length cap).ownBlock ≠ some b) (nest q):=by
   rcases List.mem_or_eq_of_mem_set hq with hq | rfl
   ·exact h.dep q hq
   ·exact hn
  exact hall.go hs fun b hS e => hS.2 e
 ·exact but_set_new h.grown (own_block_bd h.own g rfl).1 _ _
theorem RowB.far (h:RowB T k cv nest W B wr pv ps):Dep wr (fun b => W.heap.size ≤ b) (fun x => Rdk k x pv ps.length (ps.flatMap cv) ∧ ∀ p ∈ ps,nest p x) :=
 (rdk_dep (Rdk.own h.own) fun _ b e => (own_block_bd h.own b e).1).and fun w2 hz hx p hp => (h.dep p hp) w2 hz fun b hlt hS => hx b hlt hS.1
end
section
variable {P:Program}
end
end Go.Proofs.YtapnomdckglehaaGreat
namespace Go.Proofs.YtapnomdckglehaaGreat
open Go.RowKit
theorem keep_but {x y:World} {E b:Nat} {o:Obj} (h:x.heap[b]? = some o) (hg:x.grownBy y (some E)) (hne:b ≠ E):y.heap[b]? = some o:=(hg.block b (Array.getElem?_eq_some_iff.1 h).1 (by simpa using hne)).trans h
theorem gr_any {w x y:World} {ob ob':Option Nat} (h:w.grownBy x ob) (g:x.grownBy y ob') (hk:∀ j,ob' = some j → ob = some j ∨ w.heap.size ≤ j):w.grownBy y ob :=
 ⟨g.os.trans h.os,g.tape.trans h.tape,g.output.trans h.output,Nat.le_trans h.size g.size,fun i hi hn => (g.block i (Nat.lt_of_lt_of_le hi h.size) fun e => by
  rcases hk i e.symm with h' | h'
  ·exact hn h'.symm
  ·omega).trans (h.block i hi hn)⟩
theorem gr_none {w x:World} (h:Below w.heap.size w x) (ob:Option Nat):w.grownBy x ob:=⟨h.os,h.tape,h.output,h.size,fun i hi _ => h.block i hi⟩
structure RowK {α:Type} (T:TypeId) (k:Nat) (cv:α → List Value) (nest:α → World → Prop) (N:Nat) (K:Nat → Prop) (wr:World) (pv:Value) (ps:List α):Prop where
 own:wr.ownsRow N T k pv ps.length (ps.flatMap cv)
 dep:∀ p ∈ ps,Dep wr (fun b => K b ∧ pv.ownBlock ≠ some b) (nest p)
abbrev RowC {α:Type} (T:TypeId) (k:Nat) (cv:α → List Value) (nest:α → World → Prop) (N:Nat) (wr:World) (pv:Value) (ps:List α):Prop:=RowK T k cv nest N (fun b => N ≤ b) wr pv ps
section
variable {α:Type} {T:TypeId} {k:Nat} {cv:α → List Value} {nest:α → World → Prop} {N:Nat} {K K':Nat → Prop} {wr w':World} {pv:Value} {ps:List α}
theorem RowK.nil:RowK T k cv nest N K wr (.slice none 0 0) []:=⟨World.ownsRow_nil _ _ _ _,fun _ h => by simp at h⟩
theorem own_go (h:wr.ownsRow N T k pv ps.length (ps.flatMap cv)) {oc:Option Nat} (g:wr.grownBy w' oc) (hk:∀ j,oc = some j → pv.ownBlock ≠ some j):w'.ownsRow N T k pv ps.length (ps.flatMap cv):=by
 refine ⟨h.1,?_⟩
 rcases h.2 with h1 | ⟨g0,cap,cur,h1,h2,h3,h4⟩
 ·exact .inl h1
 ·exact .inr ⟨g0,cap,cur,h1,h2,(g.block g0 (Array.getElem?_eq_some_iff.1 h3).1 fun e => hk g0 e.symm (by rw [h1]; rfl)).trans h3,h4⟩
theorem RowK.go (h:RowK T k cv nest N K wr pv ps) {oc:Option Nat} (g:wr.grownBy w' oc) (hk:∀ j,oc = some j → ¬ K j ∧ pv.ownBlock ≠ some j):RowK T k cv nest N K w' pv ps :=
 ⟨own_go h.own g fun j e => (hk j e).2,fun p hp => (h.dep p hp).go g fun b hS e => (hk b e).1 hS.1⟩
theorem RowK.keep (h:RowK T k cv nest N K wr pv ps) (hb:Below wr.heap.size wr w'):RowK T k cv nest N K w' pv ps:=h.go (gr_none hb none) (by simp)
theorem RowK.mono (h:RowK T k cv nest N K wr pv ps) (hk:∀ b,b < wr.heap.size → K b → K' b):RowK T k cv nest N K' wr pv ps:=⟨h.own,fun p hp => (h.dep p hp).mono fun b hb hS => ⟨hk b hb hS.1,hS.2⟩⟩
theorem RowK.shape (h:RowK T k cv nest N K wr pv ps):∃ A c,pv = .slice A ps.length c:=own_shape h.own
theorem RowK.bd (h:RowK T k cv nest N K wr pv ps):∀ j,pv.ownBlock = some j → N ≤ j ∧ j < wr.heap.size:=own_block_bd h.own
theorem RowK.low (h:RowC T k cv nest N wr pv ps) {oc:Option Nat} (g:wr.grownBy w' oc) (hk:∀ j,oc = some j → j < N):RowC T k cv nest N w' pv ps :=
 RowK.go h g fun j e => ⟨by have:=hk j e; omega,fun e' => by have:=(h.bd j e').1; have:=hk j e; omega⟩
theorem RowK.put (h:RowC T k cv nest N wr pv ps) {j:Nat} (g:wr.grownBy w' (some j)) (hne:pv.ownBlock ≠ some j) (ht:∀ p x,nest p x):RowC T k cv nest N w' pv ps :=
 ⟨own_go h.own g fun i e => by cases e; exact hne,fun p _ => Dep.triv (ht p)⟩
theorem RowK.far (h:RowC T k cv nest N wr pv ps):Dep wr (fun b => N ≤ b) (fun x => Rdk k x pv ps.length (ps.flatMap cv) ∧ ∀ p ∈ ps,nest p x) :=
 (rdk_dep (Rdk.own h.own) fun _ b e => (h.bd b e).1).and fun w2 hz hx p hp => (h.dep p hp) w2 hz fun b hlt hS => hx b hlt hS.1
theorem RowK.add {p:α} {pv':Value} {o:Obj} (h:RowK T k cv nest N K wr pv ps) (hn:Dep wr (fun b => K b ∧ pv.ownBlock ≠ some b) (nest p))
 (hrow:w'.ownsRow N T k pv' (ps.length + 1) (ps.flatMap cv ++ cv p)) (hg:(wr.alloc o).grownBy w' pv.ownBlock) (hob:pv'.ownBlock = pv.ownBlock ∨ pv'.ownBlock = some (wr.alloc o).heap.size):RowK T k cv nest N K w' pv' (ps ++ [p]):=by
 have ha:Below wr.heap.size wr (wr.alloc o):=KitC.below_one wr o
 refine ⟨by simpa [List.length_append] using hrow,fun q hq => ?_⟩
 have hall:Dep wr (fun b => K b ∧ pv.ownBlock ≠ some b) (nest q):=by
  rcases List.mem_append.1 hq with hq | hq
  ·exact h.dep q hq
  ·rw [List.mem_singleton] at hq
   subst hq
   exact hn
 intro w2 hz hx
 refine hall w2 (Nat.le_trans ha.size (Nat.le_trans hg.size hz)) fun b hlt hS => ?_
 have hlt2:b < (wr.alloc o).heap.size:=Nat.lt_of_lt_of_le hlt ha.size
 refine (hx b (Nat.lt_of_lt_of_le hlt2 hg.size) ⟨hS.1,fun e => ?_⟩).trans ((hg.block b hlt2 fun e => hS.2 e.symm).trans (ha.block b hlt))
 rcases hob with e' | e'
 ·exact hS.2 (e'.symm.trans e)
 ·rw [e'] at e; injection e with e; omega
theorem RowK.set {i j g cap:Nat} {p p':α} {u:Value} (h:RowK T k cv nest N K wr (.slice (some ⟨g,0,none⟩) ps.length cap) ps) (hlen:∀ a,(cv a).length = k) (hp:ps[i]? = some p) (hj:j < k) (hu:cv p' = (cv p).set j u)
 (hn:Dep wr (fun b => K b ∧ (Value.slice (some ⟨g,0,none⟩) ps.length cap).ownBlock ≠ some b) (nest p')) :
 RowK T k cv nest N K (wr.setCell ⟨g,i * k + j,none⟩ u) (.slice (some ⟨g,0,none⟩) ps.length cap) (ps.set i p'):=by
 have hs:wr.grownBy (wr.setCell ⟨g,i * k + j,none⟩ u) (some g):=but_set (but_refl wr _) _ _
 have hi:=(List.getElem?_eq_some_iff.1 hp).1
 have hlt:i * k + j < (ps.flatMap cv).length:=by
  rw [flat_length hlen]
  have:(i + 1) * k ≤ ps.length * k:=Nat.mul_le_mul_right k hi
  rw [Nat.add_mul] at this
  omega
 refine ⟨?_,fun q hq => ?_⟩
 ·rw [List.length_set,flat_set hlen hp hj hu]
  exact own_set h.own hlt u
 ·have hall:Dep wr (fun b => K b ∧ (Value.slice (some ⟨g,0,none⟩) ps.length cap).ownBlock ≠ some b) (nest q):=by
   rcases List.mem_or_eq_of_mem_set hq with hq | rfl
   ·exact h.dep q hq
   ·exact hn
  exact hall.go hs fun b hS e => hS.2 e
def Added (T:TypeId) (k:Nat) (cv:α → List Value) (nest:α → World → Prop) (N:Nat) (K:Nat → Prop) (wr:World) (pv:Value) (ps:List α) (v':Value) (w':World):Prop :=
 RowK T k cv nest N K w' v' ps ∧ wr.grownBy w' pv.ownBlock ∧ ∀ j,v'.ownBlock = some j → pv.ownBlock = some j ∨ wr.heap.size < j
theorem RowK.added {p:α} {pv':Value} {o:Obj} (h:RowK T k cv nest N K wr pv ps) (hn:Dep wr (fun b => K b ∧ pv.ownBlock ≠ some b) (nest p))
 (hrow:w'.ownsRow N T k pv' (ps.length + 1) (ps.flatMap cv ++ cv p)) (hg:(wr.alloc o).grownBy w' pv.ownBlock) (hob:pv'.ownBlock = pv.ownBlock ∨ pv'.ownBlock = some (wr.alloc o).heap.size):Added T k cv nest N K wr pv (ps ++ [p]) pv' w':=by
 have ha:Below wr.heap.size wr (wr.alloc o):=KitC.below_one _ _
 refine ⟨h.add hn hrow hg hob,⟨hg.os.trans ha.os,hg.tape.trans ha.tape,hg.output.trans ha.output,Nat.le_trans ha.size hg.size,fun i hi hn => (hg.block i (Nat.lt_of_lt_of_le hi ha.size) hn).trans (ha.block i hi)⟩,fun j hj => ?_⟩
 rcases hob with e' | e'
 ·exact .inl (e'.symm.trans hj)
 ·rw [e'] at hj
  injection hj with hj
  simp at hj
  exact .inr (by omega)
end
section
variable {P:Program}
theorem step_append_rowK {ops:Array Oper} {o:Oper} {a:Act} {J:Act → World → Prop} {Q:Exit → Act → World → Prop} {E:Prop} (hgd:o.guard = none) (s x:Operand) (t:TypeId)
 (ho:o.op = .call { callee:=.builtin .append,args:=#[s,x],argTypes:=#[t,t] })
 {α:Type} {e:TypeId} {k:Nat} {cv:α → List Value} {nest:α → World → Prop} {N:Nat} {K:Nat → Prop} {wr:World} {pv:Value} {ps:List α}
 (i:TypeInfo) (z:Value) (bytes:Nat) (ht:P.underlying t = some (.slice e)) (hi:P.info? e = some i) (hz:i.zero = some z)
 (hsize:i.size = k) (hby:i.bytes = bytes) (hzs:z.cells.size = k) (hk:0 < k)
 (h:RowK e k cv nest N K wr pv ps) (hN:N ≤ wr.heap.size) (p:α) (hn:Dep wr (fun b => K b ∧ pv.ownBlock ≠ some b) (nest p)) (hs:a.eval s = pv) (hx:a.eval x = .slice (some ⟨wr.heap.size,0,none⟩) 1 1)
 (hlen:(cv p).length = k) (h1:∀ u ∈ cv p,u.oneCell' = true) (h63:ps.length + 1 ≤ maxLen) (hbytes:(ps.length + 1) * bytes ≤ 140737488355328)
 (hK:∀ v' w',Added e k cv nest N K wr pv (ps ++ [p]) v' w' → J (a.put o.dst v') w'):if Region.wanted o (yielded ops a.tmps) = true then Oper.wp P o a (wr.alloc (.cells (cv p).toArray e)).drew J Q else E:=by
 have hrow:=own_keep h.own ((KitC.below_one wr (.cells (cv p).toArray e)).drew)
 refine step_append_lies _ hgd s x t ho N e i z k bytes ht hi hz hsize hby hzs hk pv ps.length (ps.flatMap cv) hs hrow ⟨wr.heap.size,0,none⟩ 1 1 (cv p) hx (by simp [hlen]) (World.news_of_block (cs:=(cv p).toArray) (t:=e) (fr:=(0,0)) (heap_alloc_new wr _)) h1 (by decide) h63 hbytes (by show N ≤ (wr.alloc (.cells (cv p).toArray e)).heap.size; rw [World.size_alloc]; omega) (wr.heap.size + 1) (by show (wr.alloc (.cells (cv p).toArray e)).heap.size = _; rw [World.size_alloc]) ?_
 intro g cap w' hr hg hob _
 refine hK _ w' (h.added (o:=.cells (cv p).toArray e) hn hr ⟨hg.os,hg.tape,hg.output,hg.size,hg.block⟩ ?_)
 rcases hob with e' | e'
 ·exact .inl (by rw [e']; rfl)
 ·exact .inr (by rw [e',World.size_alloc]; rfl)
end
end Go.Proofs.YtapnomdckglehaaGreat