/- QuietRound, RangeRet, joined. -/
import Derived.Sort.QuietIn
import Derived.TacticsIn
import Derived.Lib.QuietBelowIn
import Derived.Test.YtckojimeglkobaaGreatDoorMConfFills35
namespace Go.Proofs.YtckojimeglkobaaGreatDoor
open Go.RowKit Go.Sort
section
variable {F:Fence} {n:Nat} {P:Program} {ops:Array Oper} {Q:Exit → Act → World → Prop} {l0:Nat}
theorem upon_round {o:Oper} {a:Act} {K:Act → World → Prop} {r:Result Next} (h:o.uponIn F n P a K Q r):o.uponIn (F.inRound l0) n P a K Q r:=by
 cases r with
 | ok x w' => cases x <;> first | exact h | (simp only [Oper.uponIn] at h ⊢; exact h)
 | halt x w' => cases x <;> first | exact h | (simp only [Oper.uponIn] at h ⊢; exact h)
theorem op_round {o:Oper} (hnd:∀ c,o.op ≠ .defer c) (hro:F.round = none) {a:Act} {w:World} {K:Act → World → Prop} (h:o.wpIn F n P a w K Q):o.wpIn (F.inRound l0) n P a w K Q:=by
 unfold Oper.wpIn at h ⊢
 rw [hro,Oper.semAt_none] at h
 rw [Fence.inRound_round,Oper.semAt_some _ _ _ hnd]
 exact ⟨h.1,upon_round h.2⟩
theorem any_round (hnd:∀ o ∈ ops.toList,∀ c,o.op ≠ .defer c) (hro:F.round = none) {md:Region.Mode}:∀ (fuel:Nat) (listed:Array Bool) (a:Act) (w:World),wpAnyIn F n P md ops Q fuel listed a w → wpAnyIn (F.inRound l0) n P md ops Q fuel listed a w
 | 0,_,_,_,h => h
 | fuel + 1,listed,a,w,h => ⟨h.1,fun i hi => by
   have h2:=h.2 i hi
   unfold wpOpIn at h2 ⊢
   split
   ·rename_i ho
    simp only [ho] at h2
    exact any_round hnd hro fuel _ _ _ h2
   ·rename_i o ho
    simp only [ho] at h2
    have hno:=hnd o (by
     have:=(Array.getElem?_eq_some_iff.1 ho)
     obtain ⟨hlt,rfl⟩:=this
     simp)
    split
    ·rename_i hw
     simp only [hw,if_true] at h2
     exact Oper.wpIn_mono (fun a w => any_round hnd hro fuel _ a w) (op_round hno hro h2)
    ·rename_i hw
     simp only [hw] at h2
     exact ⟨h2.1,any_round hnd hro fuel _ _ _ h2.2⟩⟩
def noDefer (l:List Oper):Bool:=l.all fun o => match o.op with | .defer _ => false | _ => true
theorem noDefer_spec {l:List Oper} (h:noDefer l = true):∀ o ∈ l,∀ c,o.op ≠ .defer c:=by
 intro o ho c hc
 have:=List.all_eq_true.1 h o ho
 rw [hc] at this
 cases this
theorem quiet_round {C:World → Prop} {id:Nat} {a:Act} {w:World} {l:List Oper} (hro:F.round = none) (hnd:noDefer l = true) (hm:P.follows .mixedOrders = true) (hB:Region.lexB .any l.toArray = true) (hC:C { w with drawn:=w.drawn + 1 })
 (h:wpQuietIn F n P l.toArray C (fun a' => ∀ w',C w' → Q .normal a' w') l a):(Code.region id l.toArray true).wpIn (F.inRound l0) n P Q a w:=by
 have hB':=hB
 simp only [Region.lexB,Bool.and_eq_true] at hB'
 refine wpIn_region_any hm (any_round (by simpa using noDefer_spec hnd) hro _ _ _ _ (wpAnyIn_of_quiet (C:=C) (Q:=fun a' => ∀ w',C w' → Q .normal a' w') hro (fun _ w' hw' h => h w' hw') _ _ _ _ hC ?_))
 have:=wpAnyQIn_lex (F:=F) (n:=n) (C:=C) (md:=.any) hB'.1 l 0 (Array.replicate l.toArray.size false) a (by simp) (by simpa using hB'.2) h
 simpa using this
theorem quiet_below_round {id:Nat} {a:Act} {w:World} {l:List Oper} (hro:F.round = none) (hnd:noDefer l = true) (hm:P.follows .mixedOrders = true) (hB:Region.lexB .any l.toArray = true)
 (h:wpQuietIn F n P l.toArray (fun w' => ∃ p:Regrown,w' = grow (redrawn w p.d) p.os) (fun a' => ∀ w',(∃ p:Regrown,w' = grow (redrawn w p.d) p.os) → Q .normal a' w') l a):(Code.region id l.toArray true).wpIn (F.inRound l0) n P Q a w :=
 quiet_round hro hnd hm hB ⟨⟨w.drawn + 1,#[]⟩,by rw [grow_empty]; rfl⟩ h
end
end Go.Proofs.YtckojimeglkobaaGreatDoor
namespace Go.Proofs.YtckojimeglkobaaGreatDoor
open Go.RowKit
theorem range_ret {F:Fence} {n:Nat} {P:Program} {g:Operand} {ps:Array Tmp} {assign body:Code} {Q:Exit → Act → World → Prop} {a:Act} {w:World}
 (hro:F.round = none) (h1:1 ≤ n) {gf:Nat} {lb:Array Value} (hg:a.eval g = .func (.func gf) #[] lb) (hFg:F.fn gf) (eg:∀ args w,(callFunc gf args).run P w = .ok (.enter gf args) w)
 {xs:Nat → Array Value} {Kp:World → World → Prop} {N:Nat} (hseq:HandsS F (n - 1) P gf lb xs Kp N w) (M:Nat) (hM:M ≤ N)
 (hKt:∀ {A B C:World},Kp A B → Kp B C → Kp A C) (hKb:∀ (W:World) (l:Nat) (o o':Obj),w.heap.size ≤ l → W.heap[l]? = some o → o.isCells = false → Kp W (W.putObj l o')) (hps:∀ k,(xs k).size = ps.size)
 (I:Nat → World → Prop) (hI:OwnFrom w.heap.size I) (h0:I 0 w) (Ix:Unit → World → Prop) (hIx:OwnFrom w.heap.size Ix) (Ax:Nat → Act → World → Prop) (hAx:∀ a',OwnFrom w.heap.size (fun k W => Ax k a' W))
 (hassign:∀ (l k:Nat) (W:World) (K:Act → World → Prop),k < N → I k W → (∀ a' W',KeepsFrom w.heap.size W W' → Kp W W' → I k W' → Ax k a' W' → K a' W') →
   assign.wpIn (F.inRound l) (n - 1 - 1) P (Exit.then K (fun _ _ _ => False)) { tmps:=(ps.zip (xs k)).foldl (fun t (p,v) => t.setIfInBounds p v) a.tmps,defers:=[] } W)
 (hbody:∀ (l k:Nat) (a':Act) (W:World),k < M → I k W → Ax k a' W → body.wpIn (F.inRound l) (n - 1 - 1) P (fun e _ W' => e = .normal ∧ KeepsFrom w.heap.size W W' ∧ Kp W W' ∧ I (k + 1) W') a' W)
 (hlast:∀ (l:Nat) (a':Act) (W:World),M < N → I M W → Ax M a' W → body.wpIn (F.inRound l) (n - 1 - 1) P (fun e _ W' => e = .ret ∧ KeepsFrom w.heap.size W W' ∧ Ix () W') a' W)
 (hdone:∀ (D:Nat) (W:World),w.heap.size ≤ D → M = N → I N W → W.heap[D]? = some (.deferred (some [])) → Q .normal { a with defers:={ target:=.collected D,args:=#[] } :: a.defers } W)
 (hstop:∀ (D:Nat) (W:World),w.heap.size ≤ D → M < N → Ix () W → W.heap[D]? = some (.deferred (some [])) → Code.ret.wpIn F n P Q { a with defers:={ target:=.collected D,args:=#[] } :: a.defers } W) :
 (Code.rangeFunc g ps assign body).wpIn F n P Q a w:=by
 refine wpIn_rangeFunc fun fn hfn => ?_
 rw [hro]
 let rec_:LoopState → Option Code → Loop:=fun st pd => { state:=st,pending:=pd,fn,tmps:=a.tmps,params:=ps,assign,body,defers:=w.heap.size }
 let w1:=w.alloc (.deferred (some []))
 let w2:=w1.alloc (.loop (rec_ .ready none))
 have s1:w1.heap.size = w.heap.size + 1:=by simp [w1]
 have hrec:w2.heap[w.heap.size + 1]? = some (.loop (rec_ .ready none)):=by have:=World.alloc_heap_new w1 (.loop (rec_ .ready none)); rwa [s1] at this
 have hdef:w2.heap[w.heap.size]? = some (.deferred (some [])):=(Below.heap_alloc w1 _ _ (by rw [s1]; omega)).trans (World.alloc_heap_new w _)
 have hbel:Below w.heap.size w w2:=KitC.below_pair w _ _
 -- the two blocks of the loop's own
 let Bk:Nat → LoopState → Option Code → World → Prop:=fun _ st pd W => W.heap[w.heap.size + 1]? = some (.loop (rec_ st pd)) ∧ W.heap[w.heap.size]? = some (.deferred (some []))
 have turned:∀ (st st':LoopState) (pd pd':Option Code) (W:World),Bk 0 st pd W → Bk 0 st' pd' (W.putObj (w.heap.size + 1) (.loop (rec_ st' pd'))):=fun st st' pd pd' W ⟨hl,hd⟩ =>
  ⟨World.putObj_heap_same (Array.getElem?_eq_some_iff.1 hl).1,(World.putObj_heap_other (by omega)).trans hd⟩
 have kept:∀ (st st':LoopState) (pd pd':Option Code) (W:World),Bk 0 st pd W → Kp W (W.putObj (w.heap.size + 1) (.loop (rec_ st' pd'))):=fun st st' pd pd' W ⟨hl,_⟩ =>
  hKb W (w.heap.size + 1) _ _ (by omega) hl rfl
 have over:∀ (k:Nat) (st st':LoopState) (pd pd':Option Code) (W:World),Bk 0 st pd W → I k W → I k (W.putObj (w.heap.size + 1) (.loop (rec_ st' pd'))):=fun k st st' pd pd' W ⟨hl,_⟩ hi =>
  hI.putObj _ hi (by omega) hl rfl
 refine ⟨w.heap.size + 1,[{ target:=.collected w.heap.size,args:=#[] }],w2,{ target:=.fn (.func gf) lb,args:=#[.func (.yield (w.heap.size + 1)) #[] #[]] },w2,gf,
  #[.func (.yield (w.heap.size + 1)) #[] #[]] ++ lb,w2,run_enterLoop_outer _ _ _ _ _,by simp only [resolve,hg]; simp [go_sem],?_,by simp [invoke,go_sem,eg],fun _ => h1,?_⟩
 ·intro f' hf'
  simp [Target.leads] at hf'
  subst hf'
  exact hFg
 refine (hseq (w.heap.size + 1) (fun k W => I k W ∧ Bk 0 .ready none W) (fun W => Ix () W ∧ Bk 0 .done (some (.ret)) W) M w2 hbel hM ?_ ?_ ⟨hI.alloc _ (hI.alloc _ h0),hrec,hdef⟩).mono ?_
 ·-- a round
  rintro k W ⟨hi,hb⟩ hk
  refine ⟨fn,_,assign,body,run_yield (P:=P) (args:=xs k) hb.1 (hps k),roundIn_of_wpIn hfn (hassign _ k W _ (by omega) hi ?_)⟩
  intro a' Wa hkf hbl hia hax
  have hba:Bk 0 .ready none Wa:=⟨hkf.same _ _ (by omega) hb.1 rfl,hkf.same _ _ (by omega) hb.2 rfl⟩
  refine ⟨_,run_beginRound hba.1 rfl,?_⟩
  have hb2:=turned .ready .busy none none Wa hba
  refine wpIn_mono (hbody _ k a' _ hk (over k _ .busy _ none Wa hba hia) ((hAx a').putObj (s:=k) _ hax (by omega) hba.1 rfl)) ?_
  rintro e a3 W3 ⟨rfl,hkf3,hbl3,hi3⟩
  have hb3:Bk 0 .busy none W3:=⟨hkf3.same _ _ (by omega) hb2.1 rfl,hkf3.same _ _ (by omega) hb2.2 rfl⟩
  exact ⟨_,_,run_endRound (P:=P) none hb3.1,rfl,⟨over (k + 1) _ .ready _ none W3 hb3 hi3,turned .busy .ready none none W3 hb3⟩,hKt (hKt (hKt hbl (kept _ .busy _ none Wa hba)) hbl3) (kept _ .ready _ none W3 hb3)⟩
 ·-- the round that says 'no more'
  rintro hk W ⟨hi,hb⟩
  refine ⟨fn,_,assign,body,run_yield (P:=P) (args:=xs M) hb.1 (hps M),roundIn_of_wpIn hfn (hassign _ M W _ hk hi ?_)⟩
  intro a' Wa hkf hbl hia hax
  have hba:Bk 0 .ready none Wa:=⟨hkf.same _ _ (by omega) hb.1 rfl,hkf.same _ _ (by omega) hb.2 rfl⟩
  refine ⟨_,run_beginRound hba.1 rfl,?_⟩
  have hb2:=turned .ready .busy none none Wa hba
  refine wpIn_mono (hlast _ a' _ hk (over M _ .busy _ none Wa hba hia) ((hAx a').putObj (s:=M) _ hax (by omega) hba.1 rfl)) ?_
  rintro e a3 W3 ⟨rfl,hkf3,hi3⟩
  have hb3:Bk 0 .busy none W3:=⟨hkf3.same _ _ (by omega) hb2.1 rfl,hkf3.same _ _ (by omega) hb2.2 rfl⟩
  exact ⟨_,_,run_endRound (P:=P) (some (.ret)) hb3.1,rfl,hIx.putObj (s:=()) _ hi3 (by omega) hb3.1 rfl,turned .busy .done none (some (.ret)) W3 hb3⟩
 ·-- behind the iterator
  rintro e W ⟨⟨v,rfl⟩,⟨hlt,hi,hb⟩ | ⟨he,hi,hb⟩⟩
  ·refine ⟨some (.ret),_,run_endLoop (P:=P) hb.1 (by intro h; cases h),hstop _ _ (Nat.le_refl _) hlt (hIx.putObj (s:=()) _ hi (by omega) hb.1 rfl) ?_⟩
   exact (World.putObj_heap_other (by omega)).trans hb.2
  ·refine ⟨none,_,run_endLoop (P:=P) hb.1 (by intro h; cases h),hdone _ _ (Nat.le_refl _) he (hI.putObj _ hi (by omega) hb.1 rfl) ?_⟩
   exact (World.putObj_heap_other (by omega)).trans hb.2
end Go.Proofs.YtckojimeglkobaaGreatDoor