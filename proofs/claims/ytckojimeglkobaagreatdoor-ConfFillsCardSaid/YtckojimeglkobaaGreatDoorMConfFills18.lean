/- AtlasMem, AtlasTab, joined. -/
import Derived.Test.YtckojimeglkobaaGreatDoorMConfFills16
import Derived.Test.YtckojimeglkobaaGreatDoorMConfFills02
import Derived.Test.YtckojimeglkobaaGreatDoorMConfFills17
import Derived.Test.YtckojimeglkobaaGreatDoorMConfFills04
import Derived.Test.YtckojimeglkobaaGreatDoorMConfFills11
namespace Go.Proofs.YtckojimeglkobaaGreatDoor
open Go.RowKit TermSpec EvalSpec ActSpec NamesSpec ExprSpec TransSpec SynSpec CurSpec ShapeSpec GroupSpec AtlasSpec PrintSpec
structure RwP where
 A:Option Addr
 n:Nat
 c:Nat
 ks:List Int
 ab:Nat
 be:Nat
 d:Nat
def rwV (p:RwP):List Value:=[.slice p.A p.n p.c,.int .u64 p.ab,.int .u64 p.be,.int .i64 p.d]
def rwN (p:RwP) (w:World):Prop:=Rd w (.slice p.A p.n p.c) (intV p.ks)
theorem rwV_length (p:RwP):(rwV p).length = 4:=rfl
theorem rwV_one (p:RwP):∀ u ∈ rwV p,u.oneCell' = true:=by
 intro u hu
 simp only [rwV,List.mem_cons,List.not_mem_nil,or_false] at hu
 rcases hu with rfl | rfl | rfl | rfl <;> rfl
def RwsAt (l:List Sh) (m:Nat) (f:Nat → Bool) (ps:List RwP):Prop:=∀ j p,ps[j]? = some p → p.ks = kids l j ∧ p.ab = abG l j ∧ p.be = beP l j m (f j) ∧ p.d = (up l j).length + 1
theorem RwsAt.nil (l:List Sh) (m:Nat) (f:Nat → Bool):RwsAt l m f []:=fun j p h => by simp at h
theorem RwsAt.add {l:List Sh} {m:Nat} {ps:List RwP} {p:RwP} (h:RwsAt l m (fun _ => false) ps) (hl:ps.length = m) (hp:p.ks = kids l m ∧ p.ab = abG l m ∧ p.be = 0 ∧ p.d = (up l m).length + 1):RwsAt l m (fun _ => false) (ps ++ [p]):=by
 intro j q hq
 by_cases e:j < ps.length
 ·rw [List.getElem?_append_left e] at hq
  exact h j q hq
 ·rw [List.getElem?_append_right (by omega)] at hq
  have hj:j = m:=by
   have:=(List.getElem?_eq_some_iff.1 hq).1
   simp at this
   omega
  subst hj
  rw [hl,Nat.sub_self] at hq
  injection hq with hq
  subst hq
  exact ⟨hp.1,hp.2.1,hp.2.2.1.trans (beP_late (Nat.le_refl _)).symm,hp.2.2.2⟩
theorem RwsAt.next {l:List Sh} {m:Nat} {f:Nat → Bool} {ps:List RwP} (h:RwsAt l m f ps) (hf:∀ j,j < ps.length → f j = decide (j ∈ sf l m)):RwsAt l (m + 1) (fun _ => false) ps:=fun j p hp => by
 obtain ⟨h1,h2,h3,h4⟩:=h j p hp
 exact ⟨h1,h2,by rw [h3,hf j (List.getElem?_eq_some_iff.1 hp).1]; exact beP_next,h4⟩
theorem RwsAt.set {l:List Sh} {m i:Nat} {f f':Nat → Bool} {ps:List RwP} {p:RwP} (h:RwsAt l m f ps) (hp:ps[i]? = some p) (hi:f' i = true) (ho:∀ j,j ≠ i → f' j = f j):RwsAt l m f' (ps.set i { p with be:=beP l i m true }):=fun j q hq => by
 by_cases e:j = i
 ·subst e
  rw [set_at hp] at hq
  injection hq with hq
  subst hq
  obtain ⟨h1,h2,h3,h4⟩:=h j p hp
  exact ⟨h1,h2,by rw [hi],h4⟩
 ·rw [List.getElem?_set_ne (fun e' => e e'.symm)] at hq
  obtain ⟨h1,h2,h3,h4⟩:=h j q hq
  exact ⟨h1,h2,by rw [ho j e]; exact h3,h4⟩
theorem RwsAt.congr {l:List Sh} {m:Nat} {f f':Nat → Bool} {ps:List RwP} (h:RwsAt l m f ps) (hf:∀ j,j < ps.length → f' j = f j):RwsAt l m f' ps:=fun j p hp => by
 obtain ⟨h1,h2,h3,h4⟩:=h j p hp
 exact ⟨h1,h2,by rw [h3,hf j (List.getElem?_eq_some_iff.1 hp).1],h4⟩
def RowsOf (l:List Sh) (ps:List RwP):Prop:=ps.length = l.length ∧ RwsAt l l.length (fun _ => false) ps
def RowsIn (w:World) (v:Value) (ps:List RwP):Prop:=Rdk 4 w v ps.length (ps.flatMap rwV) ∧ ∀ p ∈ ps,rwN p w
def AtN (w:World) (B:Nat) (x:Cx):Prop:=∃ e v s,w.heap[B]? = some (atO x.s e v s 0 0 (.slice none 0 0) (.slice none 0 0) (.slice none 0 0)) ∧ Dep w (fun b => b < B) (fun X => ChIn X e v s x)
def AtK (K:Nat → Prop) (w:World) (B:Nat) (x:Cx):Prop:=∃ e v s pl rw ev ps,w.heap[B]? = some (atO x.s e v s 1 0 pl rw ev) ∧ RowsOf (x.sts.map shOf) ps ∧ Dep w K (fun X => ChIn X e v s x ∧ RdS X pl (x.sts.map (·.s)) ∧ RowsIn X rw ps ∧ RdS X ev (un x.evs []))
def AtD (w:World) (B:Nat) (x:Cx):Prop:=∃ K:Nat → Prop,(∀ b,K b → b ≠ B ∧ b < w.heap.size) ∧ AtK K w B x
def AtIn (w:World) (B:Nat) (x:Cx):Prop:=AtN w B x ∨ AtD w B x
section
variable {w w':World} {B:Nat} {x:Cx}
theorem AtN.keep (h:AtN w B x) (hb:Below w.heap.size w w'):AtN w' B x:=by
 obtain ⟨e,v,s,h1,h2⟩:=h
 exact ⟨e,v,s,KitC.block_on h1 hb,h2.keep hb⟩
theorem AtK.keep {K:Nat → Prop} (h:AtK K w B x) (hb:Below w.heap.size w w'):AtK K w' B x:=by
 obtain ⟨e,v,s,pl,rw,ev,ps,h1,h3,h2⟩:=h
 exact ⟨e,v,s,pl,rw,ev,ps,KitC.block_on h1 hb,h3,h2.keep hb⟩
theorem AtK.go {K:Nat → Prop} (h:AtK K w B x) {r:Nat} (g:w.grownBy w' (some r)) (hr:¬ K r) (hB:r ≠ B):AtK K w' B x:=by
 obtain ⟨e,v,s,pl,rw,ev,ps,h1,h3,h2⟩:=h
 exact ⟨e,v,s,pl,rw,ev,ps,keep_but h1 g (Ne.symm hB),h3,h2.go g fun b hb e => by injection e with e; exact hr (e ▸ hb)⟩
theorem AtK.done {K:Nat → Prop} (h:AtK K w B x) (hK:∀ b,K b → b ≠ B):AtD w B x:=by
 obtain ⟨e,v,s,pl,rw,ev,ps,h1,h3,h2⟩:=h
 exact ⟨fun b => K b ∧ b < w.heap.size,fun b hb => ⟨hK b hb.1,hb.2⟩,e,v,s,pl,rw,ev,ps,h1,h3,h2.mono fun b hb h => ⟨h,hb⟩⟩
theorem AtD.keep (h:AtD w B x) (hb:Below w.heap.size w w'):AtD w' B x:=by
 obtain ⟨K,hK,h⟩:=h
 exact ⟨K,fun b hb' => ⟨(hK b hb').1,Nat.lt_of_lt_of_le (hK b hb').2 hb.size⟩,h.keep hb⟩
theorem AtIn.keep (h:AtIn w B x) (hb:Below w.heap.size w w'):AtIn w' B x:=h.imp (·.keep hb) (·.keep hb)
end
section
variable {P:Program}
theorem step_append_rowL {ops:Array Oper} {o:Oper} {a:Act} {J:Act → World → Prop} {Q:Exit → Act → World → Prop} {E:Prop} (hgd:o.guard = none) (s x:Operand) (t:TypeId)
 (ho:o.op = .call { callee:=.builtin .append,args:=#[s,x],argTypes:=#[t,t] })
 {α:Type} {e:TypeId} {k:Nat} {cv:α → List Value} {nest:α → World → Prop} {N:Nat} {K:Nat → Prop} {wr:World} {pv:Value} {ps:List α}
 (i:TypeInfo) (z:Value) (bytes:Nat) (ht:P.underlying t = some (.slice e)) (hi:P.info? e = some i) (hz:i.zero = some z)
 (hsize:i.size = k) (hby:i.bytes = bytes) (hzs:z.cells.size = k) (hk:0 < k)
 (h:RowK e k cv nest N K wr pv ps) (hN:N ≤ wr.heap.size) (p:α) (hn:Dep wr (fun b => K b ∧ pv.ownBlock ≠ some b) (nest p)) (hs:a.eval s = pv) (hx:a.eval x = .slice (some ⟨wr.heap.size,0,none⟩) 1 1)
 (hlen:(cv p).length = k) (h1:∀ u ∈ cv p,u.oneCell' = true) (h63:ps.length + 1 ≤ maxLen) (hbytes:(ps.length + 1) * bytes ≤ 140737488355328)
 (hK:∀ v' w',Added e k cv nest N K wr pv (ps ++ [p]) v' w' → J (a.put o.dst v') w'):if Region.wanted o (yielded ops a.tmps) = true then Oper.wp P o a (wr.alloc (.cells (cv p).toArray e)) J Q else E:=by
 have hrow:=own_keep h.own (KitC.below_one wr (.cells (cv p).toArray e))
 refine step_append_lies _ hgd s x t ho N e i z k bytes ht hi hz hsize hby hzs hk pv ps.length (ps.flatMap cv) hs hrow ⟨wr.heap.size,0,none⟩ 1 1 (cv p) hx (by simp [hlen]) (World.news_of_block (cs:=(cv p).toArray) (t:=e) (fr:=(0,0)) (heap_alloc_new wr _)) h1 (by decide) h63 hbytes (by rw [World.size_alloc]; omega) (wr.heap.size + 1) (by rw [World.size_alloc]) ?_
 intro g cap w' hr hg hob _
 refine hK _ w' (h.added (o:=.cells (cv p).toArray e) hn hr hg ?_)
 rcases hob with e' | e'
 ·exact .inl (by rw [e']; rfl)
 ·exact .inr (by rw [e',World.size_alloc]; rfl)
end
end Go.Proofs.YtckojimeglkobaaGreatDoor
namespace Go.Proofs.YtckojimeglkobaaGreatDoor
open Go.RowKit TermSpec EvalSpec ActSpec NamesSpec ExprSpec TransSpec SynSpec CurSpec ShapeSpec GroupSpec AtlasSpec PrintSpec
abbrev RowNm (N:Nat) (wr:World) (pl:Value) (ns:List ByteArray):Prop:=RowK 9 1 sC (fun _ _ => True) N (fun b => N ≤ b) wr pl ns
abbrev RowRw (N:Nat) (pl:Value) (ua:Option Nat) (wr:World) (rw:Value) (ps:List RwP):Prop:=RowK 137 4 rwV rwN N (fun b => N ≤ b ∧ pl.ownBlock ≠ some b ∧ ua ≠ some b) wr rw ps
structure Tb (ua:Option Nat) (W wr:World) (B:Nat) (nm:ByteArray) (e v s pl rw:Value) (ns:List ByteArray) (ps:List RwP):Prop where
 blk:wr.heap[B]? = some (atO nm e v s 0 1 pl rw (.slice none 0 0))
 grown:W.grownBy wr (some B)
 lt:B < W.heap.size
 pls:RowNm W.heap.size wr pl ns
 rws:RowRw W.heap.size pl ua wr rw ps
 apart:∀ j,pl.ownBlock = some j → rw.ownBlock ≠ some j
theorem row_shape3 {α:Type} {T:TypeId} {k:Nat} {cv:α → List Value} {nest:α → World → Prop} {N:Nat} {K:Nat → Prop} {wr:World} {pv:Value} {ps:List α} (h:RowK T k cv nest N K wr pv ps):∃ A m c,pv = .slice A m c:=by
 obtain ⟨A,c,h⟩:=h.shape
 exact ⟨A,_,c,h⟩
theorem rowNm_go {N:Nat} {wr w':World} {pl:Value} {ns:List ByteArray} (h:RowNm N wr pl ns) {oc:Option Nat} (g:wr.grownBy w' oc) (hk:∀ j,oc = some j → pl.ownBlock ≠ some j):RowNm N w' pl ns:=⟨own_go h.own g hk,fun _ _ => Dep.triv fun _ => trivial⟩
section
variable {ua:Option Nat} {W wr y z:World} {B:Nat} {nm:ByteArray} {e v s pl rw:Value} {ns:List ByteArray} {ps:List RwP}
theorem Tb.start (h:W.heap[B]? = some (atO nm e v s 0 1 (.slice none 0 0) (.slice none 0 0) (.slice none 0 0))):Tb none W W B nm e v s (.slice none 0 0) (.slice none 0 0) [] [] :=
 ⟨h,but_refl _ _,(Array.getElem?_eq_some_iff.1 h).1,RowK.nil,RowK.nil,fun j hj => by cases hj⟩
theorem Tb.keep (h:Tb ua W wr B nm e v s pl rw ns ps) (hb:Below wr.heap.size wr y):Tb ua W y B nm e v s pl rw ns ps :=
 ⟨KitC.block_on h.blk hb,gr_any h.grown (gr_none hb none) (by simp),h.lt,h.pls.keep hb,h.rws.keep hb,h.apart⟩
theorem Tb.size (h:Tb ua W wr B nm e v s pl rw ns ps):W.heap.size ≤ wr.heap.size:=h.grown.size
theorem Tb.plB (h:Tb ua W wr B nm e v s pl rw ns ps):pl.ownBlock ≠ some B:=fun e => by have:=(h.pls.bd B e).1; have:=h.lt; omega
theorem Tb.rwB (h:Tb ua W wr B nm e v s pl rw ns ps):rw.ownBlock ≠ some B:=fun e => by have:=(h.rws.bd B e).1; have:=h.lt; omega
theorem Tb.mark (h:Tb none W wr B nm e v s pl rw ns ps) (hu:∀ j,ua = some j → wr.heap.size ≤ j):Tb ua W wr B nm e v s pl rw ns ps :=
 ⟨h.blk,h.grown,h.lt,h.pls,h.rws.mono fun b hb hK => ⟨hK.1,hK.2.1,fun e' => by have:=hu b e'; omega⟩,h.apart⟩
theorem Tb.unmark (h:Tb ua W wr B nm e v s pl rw ns ps):Tb none W wr B nm e v s pl rw ns ps :=
 ⟨h.blk,h.grown,h.lt,h.pls,h.rws.mono fun b _ hK => ⟨hK.1,hK.2.1,by simp⟩,h.apart⟩
theorem Tb.beside (h:Tb ua W wr B nm e v s pl rw ns ps) (g:wr.grownBy y ua) (hu:∀ j,ua = some j → W.heap.size ≤ j ∧ pl.ownBlock ≠ some j ∧ rw.ownBlock ≠ some j):Tb ua W y B nm e v s pl rw ns ps :=
 ⟨blk_go h.blk g (fun e => by have:=(hu B e).1; have:=h.lt; omega),gr_any h.grown g (fun j e => .inr (hu j e).1),h.lt,rowNm_go h.pls g fun j e => (hu j e).2.1,h.rws.go g fun j e => ⟨fun hK => hK.2.2 e,(hu j e).2.2⟩,h.apart⟩
theorem Tb.name {t:ByteArray} {pl':Value} (h:Tb ua W wr B nm e v s pl rw ns ps) (ha:Added 9 1 sC (fun _ _ => True) W.heap.size (fun b => W.heap.size ≤ b) wr pl (ns ++ [t]) pl' y) :
 Tb ua W (y.setCell ⟨B,8,none⟩ pl') B nm e v s pl' rw (ns ++ [t]) ps:=by
 obtain ⟨hr,hg,hj⟩:=ha
 have hs:y.grownBy (y.setCell ⟨B,8,none⟩ pl') (some B):=but_set (but_refl _ _) _ _
 have hlt:=h.lt; have hz:=h.size
 refine ⟨block_setCell' (blk_go h.blk hg h.plB) 8 _,gr_any (gr_any h.grown hg fun j ej => .inr (h.pls.bd j ej).1) hs (fun j e => .inl e),h.lt,rowNm_go hr hs fun j ej e' => by injection ej with ej; have:=(hr.bd j e').1; omega,?_,?_⟩
 ·have r1:=h.rws.mono (K':=fun b => W.heap.size ≤ b ∧ pl.ownBlock ≠ some b ∧ pl'.ownBlock ≠ some b ∧ ua ≠ some b) fun b hb hK => ⟨hK.1,hK.2.1,fun e' => by
   rcases hj b e' with h1 | h1
   ·exact hK.2.1 h1
   ·omega,hK.2.2⟩
  have r2:=r1.go hg fun j ej => ⟨fun hK => hK.2.1 ej,h.apart j ej⟩
  have r3:=r2.go hs fun j ej => ⟨fun hK => by injection ej with ej; omega,fun e' => by injection ej with ej; have:=(h.rws.bd j e').1; omega⟩
  exact r3.mono fun b _ hK => ⟨hK.1,hK.2.2.1,hK.2.2.2⟩
 ·intro j ej e'
  rcases hj j ej with h1 | h1
  ·exact h.apart j h1 e'
  ·have:=(h.rws.bd j e').2
   omega
theorem Tb.row {p:RwP} {rw':Value} (h:Tb ua W wr B nm e v s pl rw ns ps) (ha:Added 137 4 rwV rwN W.heap.size (fun b => W.heap.size ≤ b ∧ pl.ownBlock ≠ some b ∧ ua ≠ some b) wr rw (ps ++ [p]) rw' y) :
 Tb ua W (y.setCell ⟨B,9,none⟩ rw') B nm e v s pl rw' ns (ps ++ [p]):=by
 obtain ⟨hr,hg,hj⟩:=ha
 have hs:y.grownBy (y.setCell ⟨B,9,none⟩ rw') (some B):=but_set (but_refl _ _) _ _
 have hlt:=h.lt; have hz:=h.size
 refine ⟨block_setCell' (blk_go h.blk hg h.rwB) 9 _,gr_any (gr_any h.grown hg fun j ej => .inr (h.rws.bd j ej).1) hs (fun j e => .inl e),h.lt,rowNm_go (rowNm_go h.pls hg fun j ej e' => h.apart j e' ej) hs fun j ej e' => by injection ej with ej; have:=(h.pls.bd j e').1; omega,?_,?_⟩
 ·exact hr.go hs fun j ej => ⟨fun hK => by injection ej with ej; omega,fun e' => by injection ej with ej; have:=(hr.bd j e').1; omega⟩
 ·intro j ej e'
  rcases hj j e' with h1 | h1
  ·exact h.apart j ej h1
  ·have:=(h.pls.bd j ej).2
   omega
theorem Tb.fresh {w1:World} {A:Option Addr} {n c:Nat} {xs:List Int} (h:Tb ua W w1 B nm e v s pl rw ns ps) (hz:w1.heap.size ≤ z.heap.size) {y:World} (_hy:z.heap.size ≤ y.heap.size) (hu:∀ j,ua = some j → j < z.heap.size) (ho:y.ownsRow z.heap.size 3 1 (.slice A n c) xs.length (intV xs)) :
 Dep y (fun b => (W.heap.size ≤ b ∧ pl.ownBlock ≠ some b ∧ ua ≠ some b) ∧ rw.ownBlock ≠ some b) (fun x => Rd x (.slice A n c) (intV xs)):=by
 refine Dep.imp (rdk_dep (Rdk.own ho) fun _ b eb => ?_) fun _ h => rd_one h
 have h1:=(own_block_bd ho b eb).1
 have:=h.size
 exact ⟨⟨by omega,fun e' => by have:=(h.pls.bd b e').2; omega,fun e' => by have:=hu b e'; omega⟩,fun e' => by have:=(h.rws.bd b e').2; omega⟩
theorem Tb.set {g n c i:Nat} {p:RwP} {u:Nat} (h:Tb ua W wr B nm e v s pl (.slice (some ⟨g,0,none⟩) n c) ns ps) (hn:ps.length = n) (hp:ps[i]? = some p) :
 Tb ua W (wr.setCell ⟨g,i * 4 + 2,none⟩ (.int .u64 u)) B nm e v s pl (.slice (some ⟨g,0,none⟩) n c) ns (ps.set i { p with be:=u }):=by
 subst hn
 have hs:wr.grownBy (wr.setCell ⟨g,i * 4 + 2,none⟩ (.int .u64 u)) (some g):=but_set (but_refl _ _) _ _
 have hg:(Value.slice (some ⟨g,0,none⟩) ps.length c).ownBlock = some g:=rfl
 have hb:=h.rws.bd g hg
 have hlt:=h.lt
 refine ⟨blk_go h.blk hs (fun e => by injection e with e; omega),gr_any h.grown hs (fun j e => .inr (by injection e with e; omega)),h.lt,rowNm_go h.pls hs fun j ej e' => by injection ej with ej; exact h.apart j e' (by rw [hg,ej]),?_,h.apart⟩
 exact RowK.set h.rws rwV_length hp (by decide) rfl ((h.rws.dep p (List.mem_of_getElem? hp)).imp fun _ g => g)
theorem Tb.done {w5:World} {n c:Nat} {evs:List ByteArray} {A:Option Addr} (h:Tb ua W wr B nm e v s pl rw ns ps) (hb:Below wr.heap.size wr w5) (ho:w5.ownsRow wr.heap.size 9 1 (.slice A n c) evs.length (strV evs)) :
 (w5.setCell ⟨B,10,none⟩ (.slice A n c)).heap[B]? = some (atO nm e v s 0 1 pl rw (.slice A n c)) ∧ W.grownBy (w5.setCell ⟨B,10,none⟩ (.slice A n c)) (some B) ∧
   Dep (w5.setCell ⟨B,10,none⟩ (.slice A n c)) (fun b => W.heap.size ≤ b) (fun X => RdS X pl ns ∧ (Rdk 4 X rw ps.length (ps.flatMap rwV) ∧ ∀ p ∈ ps,rwN p X) ∧ RdS X (.slice A n c) evs):=by
 have h5:=h.keep hb
 have hs:w5.grownBy (w5.setCell ⟨B,10,none⟩ (.slice A n c)) (some B):=but_set (but_refl _ _) _ _
 have hlt:=h.lt; have hz:=h.size
 have hne:∀ b,W.heap.size ≤ b → (some B:Option Nat) ≠ some b:=fun b h1 h2 => by injection h2 with h2; omega
 have hsn:=sC_flat ns
 refine ⟨block_setCell' h5.blk 10 _,gr_any h5.grown hs (fun j e => .inl e),Dep.and ?_ (Dep.and (Dep.and ?_ ?_) ?_)⟩
 ·refine ((rdk_dep (S:=fun b => W.heap.size ≤ b) (Rdk.own h5.pls.own) fun _ b eb => ?_).go hs hne).imp fun X hX => ?_
  ·exact (h5.pls.bd b eb).1
  ·rw [hsn] at hX
   exact rd_one hX
 ·exact (rdk_dep (S:=fun b => W.heap.size ≤ b) (Rdk.own h5.rws.own) fun _ b eb => (h5.rws.bd b eb).1).go hs hne
 ·exact (dep_all fun p hp => (h5.rws.dep p hp).mono (S':=fun b => W.heap.size ≤ b) fun b _ hK => hK.1.1).go hs hne
 ·exact ((rdk_dep (S:=fun b => W.heap.size ≤ b) (Rdk.own ho) fun _ b eb => Nat.le_trans hz (own_block_bd ho b eb).1).go hs hne).imp fun X hX => rd_one hX
theorem own_go2 {T:TypeId} {k n N:Nat} {pv:Value} {xs:List Value} {w':World} (h:wr.ownsRow N T k pv n xs) {oc:Option Nat} (g:wr.grownBy w' oc) (hk:∀ j,oc = some j → pv.ownBlock ≠ some j):w'.ownsRow N T k pv n xs:=by
 refine ⟨h.1,?_⟩
 rcases h.2 with h1 | ⟨g0,cap,cur,h1,h2,h3,h4⟩
 ·exact .inl h1
 ·exact .inr ⟨g0,cap,cur,h1,h2,(g.block g0 (Array.getElem?_eq_some_iff.1 h3).1 fun e => hk g0 e.symm (by rw [h1]; rfl)).trans h3,h4⟩
theorem Tb.rowBeside {w0 w3 y3:World} {u rw':Value} {n:Nat} {xs:List Value} {ps':List RwP} {N:Nat} {K:Nat → Prop} (h0:Tb none W w0 B nm e v s pl rw ns ps) (hrow:w3.ownsRow w0.heap.size 3 1 u n xs) (hb3:Below w0.heap.size w0 w3) (hb:Below w3.heap.size w3 y3) (ha:Added 137 4 rwV rwN N K y3 rw ps' rw' z) :
 (z.setCell ⟨B,9,none⟩ rw').ownsRow w0.heap.size 3 1 u n xs ∧ (∀ j,u.ownBlock = some j → w0.heap.size ≤ j ∧ pl.ownBlock ≠ some j ∧ rw'.ownBlock ≠ some j) ∧ w0.heap.size ≤ (z.setCell ⟨B,9,none⟩ rw').heap.size:=by
 obtain ⟨hr,hg,hj⟩:=ha
 have hs:z.grownBy (z.setCell ⟨B,9,none⟩ rw') (some B):=but_set (but_refl _ _) _ _
 have hz0:=h0.size; have hlt:=h0.lt; have hz3:=hb3.size; have hzy:=hb.size; have hzz:=hg.size
 have hu:=own_block_bd hrow
 refine ⟨own_go2 (own_go2 (own_keep hrow hb) hg fun j ej e' => by have:=(h0.rws.bd j ej).2; have:=(hu j e').1; omega) hs fun j ej e' => by injection ej with ej; have:=(hu j e').1; omega,fun j ej => ⟨(hu j ej).1,fun e' => ?_,fun e' => ?_⟩,by have:=hs.size; omega⟩
 ·have:=(h0.pls.bd j e').2
  have:=(hu j ej).1
  omega
 ·rcases hj j e' with h1 | h1
  ·have:=(h0.rws.bd j h1).2
   have:=(hu j ej).1
   omega
  ·have:=(hu j ej).2
   omega
end
end Go.Proofs.YtckojimeglkobaaGreatDoor