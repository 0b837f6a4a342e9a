/- ShapeKids, RowB, TransMem, ExprRef, ExprRefLev, ActReadOne, ActRead, TransRead, SynParts, SynVar, TermNames, SynEvents, SynTrans, SynState, SynStateW, SynVars, SynRead, EvalOps2, EvalNone, EvalReckon, EvalCheck, EvalLight, ActLight, joined. -/
import Derived.Test.YtbdalbpackfejaaMRulesBroken06
import Derived.Test.YtbdalbpackfejaaMRulesBroken05
import Derived.Test.YtbdalbpackfejaaMRulesBroken01
import Derived.Test.YtbdalbpackfejaaMRulesBroken03
import Derived.Test.YtbdalbpackfejaaMRulesBroken02
import Derived.Laws.Tables
import Derived.Deep.LoopGhost
import Derived.Deep.RegionHeld3
import Derived.Deep.Cut
import Derived.BigQuiet
import Derived.Deep.QuietTactic
import Derived.Lib.QuietBelow
namespace Go.Proofs.Ytbdalbpackfejaa
open Go.RowKit ShapeSpec
set_option maxRecDepth 100000
def RetRowI (W:World) (xs:List Int) (e:Ending) (w':World):Prop:=∃ A n c,e = .returned (.slice A n c) ∧ n = xs.length ∧ RowI W w' (.slice A n c) xs
def KidQ (W:World) (l:List Sh) (i n:Nat) (p v:Value) (wr:World):Prop:=∃ k:Nat,k ≤ n ∧ v = .int .i64 k ∧ RowI W wr p (kidsTo l i k)
set_option maxHeartbeats 4000000 in
theorem shkids_row (A:Option Addr) (n c:Nat) (l:List Sh) (i:Int) (w:World) (h:Sts w (.slice A n c) l) (hm:n ≤ 9223372036854775807) :
 Calls Try.prog 38 #[.slice A n c,.int .i64 i] w (RetRowI w (kidsA l i)):=by
 have hn:=h.len
 have HH:=Lib.hid (has_any A n c l i w h hm)
 cases hb:hasB l i with
 | false =>
   rw [hb] at HH
   have HE:Hid (kidsA l i = []):=Lib.hid (if_neg (by simp [hb]))
   rw [HE.out]
   clear h hn hb HE
   go_enter Try.func38,Try.ntmps38
   go_wp2_with (go_at_call 50; (with_reducible refine HH.out.mono ?_))
   rintro e w1 ⟨rfl,hb1⟩
   go_wp2_with fail
   go_ret
   exact ⟨none,0,0,rfl,rfl,RowI.nil _ _ hb1⟩
 | true =>
   rw [hb] at HH
   obtain ⟨a,rfl,ha,han,hn60,hsu⟩:=has_at hn hb
   have HE:Hid (kidsA l (a:Int) = kidsTo l a n):=Lib.hid (by unfold kidsA; rw [if_pos hb,hn]; rfl)
   rw [HE.out]
   have HT:=Lib.hid h
   have HN:=Lib.hid hn
   obtain ⟨i0,hi,hz0,hz1,hz2⟩:=info_parts inf_int
   have HI:=Lib.hid (And.intro hi (And.intro hz0 (And.intro hz1 hz2)))
   clear h hn hb HE ha hsu hi hz0 hz1 hz2
   go_enter Try.func38,Try.ntmps38
   go_wp2_with (go_at_call 50; (with_reducible refine HH.out.mono ?_))
   rintro e w1 ⟨rfl,hb1⟩
   have HB1:=Lib.hid hb1
   clear hb1
   go_wp2_with fail
   go_loopw [5,14] (fun p v wr => KidQ w l a n p v wr) (fun _ v _ => n - (intOf v).toNat)
   case atStart => exact ⟨0,Nat.zero_le _,rfl,RowI.nil _ _ HB1.out⟩
   case round =>
    obtain ⟨k,hk,rfl,hrow⟩:=hrel
    have HR:=Lib.hid hrow
    clear hrow
    by_cases hlt:k < n
    ·have hltI:(k:Int) < n:=by omega
     obtain ⟨t,ht⟩:∃ t,l[k]? = some t:=get_some (by rw [← HN.out]; exact hlt)
     have HT1:=Lib.hid (HT.out.keep HR.out.2)
     obtain ⟨b,off,s,a3,n3,c3,a4,n4,c4,a5,n5,c5,rfl,hb,c0,c1,c2,c3',c4',c5'⟩:=HT1.out.all ht
     have HP:=Lib.hid (par_at ht)
     obtain ⟨q,hq⟩:∃ q,q = t.par:=⟨_,rfl⟩
     rw [← hq] at c2 HP
     have HRA:=Lib.hid (fun (o:Obj) => HR.out.keep ((Below.refl _ _).alloc (Nat.le_refl _) o))
     have HSZ:Hid (w.heap.size ≤ wr.heap.size):=Lib.hid HR.out.2.size
     have hkl:=kids_le l a k
     have HL1:Hid ((kidsTo l a k).length + (intV [(k:Int)]).length ≤ maxLen):=Lib.hid (by simp [maxLen]; omega)
     have HL2:Hid (((kidsTo l a k).length + (intV [(k:Int)]).length) * 8 ≤ 140737488355328):=Lib.hid (by simp; omega)
     clear ht hq hkl
     by_cases hqa:q = a
     ·have g1:(q == (a:Int)) = true:=by simpa using hqa
      have HS:Hid (kidsTo l a (k + 1) = kidsTo l a k ++ [(k:Int)]):=Lib.hid (kids_yes (HP.out.trans hqa))
      clear hqa
      go_wp2_with (at_builtin; refine wpList_append_rd _ rfl (.tmp 23) (.tmp 25) _ rfl w.heap.size 3 i0 (.int .i64 0) 8 Try.underlying54 HI.out.1 HI.out.2.1 HI.out.2.2.1 HI.out.2.2.2 rfl _ _ _ rfl (((HRA.out _).1).alloc _) _ (intV [(k:Int)]) rfl (lit_here (by simp) rfl rfl) (intV_one _) HL1.out HL2.out ?_ ?_; (have:=HSZ.out; simp; omega); intro p2 w2 hrow2 hg2 _; have HR2:=Lib.hid (RowI.add (HRA.out _) hrow2 hg2); clear hrow2 hg2)
      go_roundw
      case rel => exact ⟨k + 1,by omega,by simp,by rw [HS.out]; exact HR2.out⟩
      case measure => simp [intOf]; omega
     ·have g1:(q == (a:Int)) = false:=by simpa using hqa
      have HS:Hid (kidsTo l a (k + 1) = kidsTo l a k):=Lib.hid (kids_no (by rw [HP.out]; exact hqa))
      clear hqa
      go_wp2_with fail
      go_roundw
      case rel => exact ⟨k + 1,by omega,by simp,by rw [HS.out]; exact HRA.out _⟩
      case measure => simp [intOf]; omega
    ·obtain rfl:k = n:=by omega
     go_wp2_with fail
     go_ret
     obtain ⟨A2,c2,hp⟩:=own_shape HR.out.1
     exact ⟨A2,_,c2,congrArg Ending.returned hp,rfl,hp ▸ HR.out⟩
end Go.Proofs.Ytbdalbpackfejaa
namespace Go.Proofs.Ytbdalbpackfejaa
open Go.RowKit CurSpec
def Dep (w:World) (S:Nat → Prop) (P:World → Prop):Prop:=∀ w',w.heap.size ≤ w'.heap.size → (∀ b,b < w.heap.size → S b → w'.heap[b]? = w.heap[b]?) → P w'
section
variable {w w':World} {S S':Nat → Prop} {P Q:World → Prop}
theorem Dep.go {ob:Option Nat} (h:Dep w S P) (hb:w.grownBy w' ob) (hne:∀ b,S b → ob ≠ some b):Dep w' S P :=
 fun w2 hz hx => h w2 (Nat.le_trans hb.size hz) fun b hlt hS => (hx b (Nat.lt_of_lt_of_le hlt hb.size) hS).trans (hb.block b hlt fun e => hne b hS e.symm)
theorem Dep.keep (h:Dep w S P) (hb:Below w.heap.size w w'):Dep w' S P :=
 fun w2 hz hx => h w2 (Nat.le_trans hb.size hz) fun b hlt hS => (hx b (Nat.lt_of_lt_of_le hlt hb.size) hS).trans (hb.block b hlt)
theorem Dep.alloc (h:Dep w S P) (o:Obj):Dep (w.alloc o) S P:=h.keep (KitC.below_one w o)
theorem Dep.mono (h:Dep w S P) (hs:∀ b,b < w.heap.size → S b → S' b):Dep w S' P:=fun w2 hz hx => h w2 hz fun b hlt hS => hx b hlt (hs b hlt hS)
theorem Dep.and (h:Dep w S P) (g:Dep w S Q):Dep w S (fun x => P x ∧ Q x):=fun w2 hz hx => ⟨h w2 hz hx,g w2 hz hx⟩
end
theorem rdk_dep {w:World} {k n:Nat} {v:Value} {xs:List Value} {S:Nat → Prop} (h:Rdk k w v n xs) (hS:0 < n → ∀ b,v.ownBlock = some b → S b):Dep w S (fun x => Rdk k x v n xs):=by
 intro w2 hz hx
 obtain ⟨A,c,rfl,hc,hl,hA⟩:=h
 refine ⟨A,c,rfl,hc,hl,fun h0 => ?_⟩
 obtain ⟨b,off,rfl,hlt,hcell⟩:=hA h0
 refine ⟨b,off,rfl,Nat.lt_of_lt_of_le hlt hz,fun j u hj => ?_⟩
 rw [← hcell j u hj]
 simp [World.cell?,hx b hlt (hS h0 b rfl)]
theorem own_set {w:World} {base n k g cap:Nat} {e:TypeId} {xs:List Value} (h:w.ownsRow base e k (.slice (some ⟨g,0,none⟩) n cap) n xs) {i:Nat} (_hi:i < xs.length) (u:Value) :
 (w.setCell ⟨g,i,none⟩ u).ownsRow base e k (.slice (some ⟨g,0,none⟩) n cap) n (xs.set i u):=by
 refine ⟨by rw [List.length_set]; exact h.1,?_⟩
 have hl:=h.1
 rcases h.2 with ⟨h1,_⟩ | ⟨g',cap',cur,h1,h2,h3,h4,h5,h6,h7⟩
 ·cases h1
 ·injection h1 with h1 _ h8
  injection h1 with h1
  injection h1 with h1
  subst h1 h8
  refine .inr ⟨g,cap,cur.setIfInBounds i u,rfl,h2,block_setCell' h3 i u,h4,h5,by rw [Array.size_setIfInBounds,h6],?_⟩
  rw [← h7,Array.toList_setIfInBounds,List.take_set]
theorem flat_set {α:Type} {k:Nat} {f:α → List Value} (hf:∀ a,(f a).length = k):∀ {l:List α} {i j:Nat} {a a':α} {u:Value},l[i]? = some a → j < k → f a' = (f a).set j u → (l.set i a').flatMap f = (l.flatMap f).set (i * k + j) u
 | [],_,_,_,_,_,h,_,_ => by simp at h
 | b :: t,0,j,a,a',u,h,hj,hu => by
   simp at h; subst h
   rw [List.set_cons_zero,List.flatMap_cons,List.flatMap_cons,Nat.zero_mul,Nat.zero_add,List.set_append_left _ _ (by rw [hf]; exact hj),hu]
 | b :: t,i + 1,j,a,a',u,h,hj,hu => by
   rw [List.set_cons_succ,List.flatMap_cons,List.flatMap_cons,List.set_append_right _ _ (by rw [hf,Nat.add_mul]; omega),hf,show (i + 1) * k + j - k = i * k + j by rw [Nat.add_mul]; omega,flat_set hf (l:=t) (by simpa using h) hj hu]
structure RowB {α:Type} (T:TypeId) (k:Nat) (cv:α → List Value) (nest:α → World → Prop) (W:World) (B:Nat) (wr:World) (pv:Value) (ps:List α):Prop where
 own:wr.ownsRow W.heap.size T k pv ps.length (ps.flatMap cv)
 dep:∀ p ∈ ps,Dep wr (fun b => W.heap.size ≤ b ∧ pv.ownBlock ≠ some b) (nest p)
 grown:W.grownBy wr (some B)
 lt:B < W.heap.size
section
variable {α:Type} {T:TypeId} {k:Nat} {cv:α → List Value} {nest:α → World → Prop} {W wr w':World} {B:Nat} {pv:Value} {ps:List α}
theorem RowB.nil (hg:W.grownBy wr (some B)) (hB:B < W.heap.size):RowB T k cv nest W B wr (.slice none 0 0) []:=⟨World.ownsRow_nil _ _ _ _,fun _ h => by simp at h,hg,hB⟩
theorem RowB.one {p:α} (hg:W.grownBy wr (some B)) (hB:B < W.heap.size) (hlen:(cv p).length = k) (hn:Dep wr (fun b => W.heap.size ≤ b) (nest p)):RowB T k cv nest W B (wr.alloc (.cells (cv p).toArray T)) (.slice (some ⟨wr.heap.size,0,none⟩) 1 1) [p]:=by
 refine ⟨?_,fun q hq => ?_,but_trans hg (but_below (KitC.below_one _ _)),hB⟩
 ·have:=World.ownsRow_lit (base:=W.heap.size) (e:=T) (size:=k) wr (cv p).toArray 1 hg.size (by decide) (by simp [hlen])
  simpa using this
 ·rw [List.mem_singleton] at hq
  subst hq
  refine fun w2 hz hx => hn w2 (Nat.le_trans (KitC.below_one wr _).size hz) fun b hlt hS => (hx b (by rw [World.size_alloc]; omega) ⟨hS,fun e => ?_⟩).trans (heap_alloc_old _ _ hlt)
  injection e with e
  simp only at e
  omega
theorem RowB.but (h:RowB T k cv nest W B wr pv ps) (hb:wr.grownBy w' (some B)):RowB T k cv nest W B w' pv ps :=
 ⟨own_but h.own hb h.lt,fun p hp => (h.dep p hp).go hb fun b hS e => by injection e with e; have:=hS.1; have:=h.lt; omega,but_trans h.grown hb,h.lt⟩
theorem RowB.keep (h:RowB T k cv nest W B wr pv ps) (hb:Below wr.heap.size wr w'):RowB T k cv nest W B w' pv ps:=h.but (but_below hb)
theorem RowB.shape (h:RowB T k cv nest W B wr pv ps):∃ A c,pv = .slice A ps.length c:=own_shape h.own
theorem RowB.add {p:α} {pv':Value} {o:Obj} (h:RowB T k cv nest W B wr pv ps) (hn:Dep wr (fun b => W.heap.size ≤ b ∧ pv.ownBlock ≠ some b) (nest p))
 (hrow:w'.ownsRow W.heap.size T k pv' (ps.length + 1) (ps.flatMap cv ++ cv p)) (hg:(wr.alloc o).grownBy w' pv.ownBlock) (hob:pv'.ownBlock = pv.ownBlock ∨ pv'.ownBlock = some (wr.alloc o).heap.size) :
 RowB T k cv nest W B w' pv' (ps ++ [p]):=by
 have ha:Below wr.heap.size wr (wr.alloc o):=KitC.below_one wr o
 have hall:∀ q ∈ ps ++ [p],Dep wr (fun b => W.heap.size ≤ b ∧ pv.ownBlock ≠ some b) (nest q):=fun q hq => by
  rcases List.mem_append.1 hq with hq | hq
  ·exact h.dep q hq
  ·rw [List.mem_singleton] at hq
   subst hq
   exact hn
 refine ⟨by simpa [List.length_append] using hrow,fun q hq => ?_,?_,h.lt⟩
 ·intro w2 hz hx
  refine (hall q hq) w2 (Nat.le_trans ha.size (Nat.le_trans hg.size hz)) fun b hlt hS => ?_
  have hlt2:b < (wr.alloc o).heap.size:=Nat.lt_of_lt_of_le hlt ha.size
  refine (hx b (Nat.lt_of_lt_of_le hlt2 hg.size) ⟨hS.1,fun e => ?_⟩).trans ((hg.block b hlt2 fun e => hS.2 e.symm).trans (ha.block b hlt))
  rcases hob with e' | e'
  ·exact hS.2 (e'.symm.trans e)
  ·rw [e'] at e; injection e with e; omega
 ·have hgw:=h.grown
  refine ⟨hg.os.trans hgw.os,hg.tape.trans hgw.tape,hg.output.trans hgw.output,Nat.le_trans hgw.size (Nat.le_trans ha.size hg.size),fun i hi hn => ?_⟩
  have hi2:i < wr.heap.size:=Nat.lt_of_lt_of_le hi hgw.size
  refine (hg.block i (Nat.lt_of_lt_of_le hi2 ha.size) fun e => ?_).trans ((ha.block i hi2).trans (hgw.block i hi hn))
  have:=(own_block_bd h.own i e.symm).1
  omega
theorem RowB.set {i j g cap:Nat} {p p':α} {u:Value} (h:RowB T k cv nest W B wr (.slice (some ⟨g,0,none⟩) ps.length cap) ps) (hlen:∀ a,(cv a).length = k) (hp:ps[i]? = some p) (hj:j < k) (hu:cv p' = (cv p).set j u)
 (hn:Dep wr (fun b => W.heap.size ≤ b ∧ (Value.slice (some ⟨g,0,none⟩) ps.length cap).ownBlock ≠ some b) (nest p')) :
 RowB T k cv nest W B (wr.setCell ⟨g,i * k + j,none⟩ u) (.slice (some ⟨g,0,none⟩) ps.length cap) (ps.set i p'):=by
 have hs:wr.grownBy (wr.setCell ⟨g,i * k + j,none⟩ u) (some g):=but_set (but_refl wr _) _ _
 have hi:=(List.getElem?_eq_some_iff.1 hp).1
 have hlt:i * k + j < (ps.flatMap cv).length:=by
  rw [flat_length hlen]
  have:(i + 1) * k ≤ ps.length * k:=Nat.mul_le_mul_right k hi
  rw [Nat.add_mul] at this
  omega
 refine ⟨?_,fun q hq => ?_,?_,h.lt⟩
 ·rw [List.length_set,flat_set hlen hp hj hu]
  exact own_set h.own hlt u
 ·have hall:Dep wr (fun b => W.heap.size ≤ b ∧ (Value.slice (some ⟨g,0,none⟩) ps.length cap).ownBlock ≠ some b) (nest q):=by
   rcases List.mem_or_eq_of_mem_set hq with hq | rfl
   ·exact h.dep q hq
   ·exact hn
  exact hall.go hs fun b hS e => hS.2 e
 ·exact but_set_new h.grown (own_block_bd h.own g rfl).1 _ _
theorem RowB.far (h:RowB T k cv nest W B wr pv ps):Dep wr (fun b => W.heap.size ≤ b) (fun x => Rdk k x pv ps.length (ps.flatMap cv) ∧ ∀ p ∈ ps,nest p x) :=
 (rdk_dep (Rdk.own h.own) fun _ b e => (own_block_bd h.own b e).1).and fun w2 hz hx p hp => (h.dep p hp) w2 hz fun b hlt hS => hx b hlt hS.1
end
section
variable {P:Program}
end
end Go.Proofs.Ytbdalbpackfejaa
namespace Go.Proofs.Ytbdalbpackfejaa
open Go.RowKit TermSpec EvalSpec ActSpec NamesSpec ExprSpec TransSpec
structure SmallT (t:Tr):Prop where
 ev:t.ev.size ≤ 9223372036854775807
 tg:t.tg.size ≤ 9223372036854775807
 g:Small t.g
 glen:t.g.length ≤ 4398046511104
 acts:∀ a ∈ t.acts,SmallA a
 alen:t.acts.length ≤ 9223372036854775807
structure TrIn (W:World) (gA:Option Addr) (gn gc:Nat) (aA:Option Addr) (an ac:Nat) (t:Tr):Prop where
 g:Tms W (.slice gA gn gc) t.g
 a:Acs W (.slice aA an ac) t.acts
section
variable {W W':World} {gA aA:Option Addr} {gn gc an ac:Nat} {t:Tr}
theorem TrIn.keep (h:TrIn W gA gn gc aA an ac t) (hb:Below W.heap.size W W'):TrIn W' gA gn gc aA an ac t:=⟨h.g.keep hb,h.a.keep hb⟩
theorem TrIn.alloc (h:TrIn W gA gn gc aA an ac t) (o:Obj):TrIn (W.alloc o) gA gn gc aA an ac t:=h.keep (KitC.below_one W o)
theorem TrIn.len (h:TrIn W gA gn gc aA an ac t):gn = t.g.length ∧ an = t.acts.length:=by
 obtain ⟨A',n',c',heq,hn,-⟩:=h.g.shape
 cases heq
 exact ⟨hn,h.a.len.1⟩
theorem TrIn.cap (h:TrIn W gA gn gc aA an ac t):gn ≤ gc ∧ an ≤ ac:=by
 obtain ⟨A',n',c',heq,-,hc⟩:=h.g.shape
 cases heq
 exact ⟨hc,h.a.len.2⟩
end
theorem okN_nil {s:ByteArray} (h:s.size = 0):okN s = true:=by unfold okN; simp [h]
theorem okN_pos {s:ByteArray} (h:0 < s.size):okN s = isName s.data.toList:=by
 unfold okN
 rw [decide_eq_false (show ¬ s.size = 0 by omega)]
 rfl
theorem chkT_name {t:Tr} (h:okN t.ev = false ∨ okN t.tg = false):chkT t = 1:=by unfold chkT; rw [if_pos h]
theorem chkT_nog {t:Tr} (h1:okN t.ev = true) (h2:okN t.tg = true) (h:t.g.length = 0):chkT t = chkA t.acts:=by unfold chkT; rw [if_neg (by rw [h1,h2]; simp),if_neg (fun h' => h'.1 h)]
theorem chkT_bad {t:Tr} (h1:okN t.ev = true) (h2:okN t.tg = true) (h:t.g.length ≠ 0) (hk:chk t.g ≠ 0):chkT t = chk t.g:=by unfold chkT; rw [if_neg (by rw [h1,h2]; simp),if_pos ⟨h,hk⟩]
theorem chkT_good {t:Tr} (h1:okN t.ev = true) (h2:okN t.tg = true) (hk:chk t.g = 0):chkT t = chkA t.acts:=by unfold chkT; rw [if_neg (by rw [h1,h2]; simp),if_neg (fun h' => h'.2 hk)]
end Go.Proofs.Ytbdalbpackfejaa
namespace Go.Proofs.Ytbdalbpackfejaa
open Go.RowKit CurSpec TermSpec ExprSpec NamesSpec
theorem Tms.own {w:World} {base n:Nat} {v:Value} {l:List Tm} (hn:n = l.length) (h:w.ownsRow base 69 3 v n (tmsV l)):Tms w v l:=⟨n,hn,Rdk.own h⟩
end Go.Proofs.Ytbdalbpackfejaa
namespace Go.Proofs.Ytbdalbpackfejaa
open Go.RowKit CurSpec TermSpec ExprSpec NamesSpec
end Go.Proofs.Ytbdalbpackfejaa
namespace Go.Proofs.Ytbdalbpackfejaa
open Go.RowKit CurSpec TermSpec EvalSpec ActSpec NamesSpec ExprSpec
set_option maxRecDepth 100000
theorem store_three {w:World} {b:Nat} (h:Blk w b 3) (u0 u1 u2:Value) :
 (w.setCell ⟨b,0,none⟩ u0).cell? ⟨b,0,none⟩ = some u0 ∧ ((w.setCell ⟨b,0,none⟩ u0).setCell ⟨b,1,none⟩ u1).cell? ⟨b,1,none⟩ = some u1 ∧
 (((w.setCell ⟨b,0,none⟩ u0).setCell ⟨b,1,none⟩ u1).setCell ⟨b,2,none⟩ u2).cell? ⟨b,2,none⟩ = some u2 :=
 ⟨h.read 0 (by omega) _,(h.set _ _).read 1 (by omega) _,((h.set _ _).set _ _).read 2 (by omega) _⟩
theorem set_three (w:World) (b:Nat) (u0 u1 u2:Value):w.grownBy (((w.setCell ⟨b,0,none⟩ u0).setCell ⟨b,1,none⟩ u1).setCell ⟨b,2,none⟩ u2) (some b):=but_set (but_set (but_set (but_refl _ _) 0 _) 1 _) 2 _
end Go.Proofs.Ytbdalbpackfejaa
namespace Go.Proofs.Ytbdalbpackfejaa
open Go.RowKit CurSpec TermSpec EvalSpec ActSpec NamesSpec ExprSpec
set_option maxRecDepth 100000
def AcsFar (B0:Nat) (w:World) (v:Value) (l:List Ac):Prop:=∃ ps:List AP,ps.map (·.a) = l ∧ Rdk 3 w v l.length (acsV ps) ∧ (∀ p ∈ ps,Tms w (.slice p.xA p.xn p.xc) p.a.x) ∧ (∀ b,v.ownBlock = some b → B0 ≤ b) ∧ ∀ p ∈ ps,0 < p.xn → ∀ b,(Value.slice p.xA p.xn p.xc).ownBlock = some b → B0 ≤ b
theorem AcsFar.acs {B0:Nat} {w:World} {v:Value} {l:List Ac} (h:AcsFar B0 w v l):Acs w v l:=by
 obtain ⟨ps,h1,h2,h3,-⟩:=h
 exact ⟨ps,h1,h2,h3⟩
theorem AcsFar.nil (B0:Nat) (w:World):AcsFar B0 w (.slice none 0 0) []:=⟨[],rfl,Rdk.nil 3 _,by simp,by simp [Value.ownBlock],by simp⟩
structure RowA (W:World) (B:Nat) (wr:World) (pv:Value) (ps:List AP):Prop where
 own:wr.ownsRow W.heap.size 67 3 pv ps.length (acsV ps)
 tms:∀ p ∈ ps,Tms wr (.slice p.xA p.xn p.xc) p.a.x
 apart:∀ p ∈ ps,0 < p.xn → ∀ b,(Value.slice p.xA p.xn p.xc).ownBlock = some b → W.heap.size ≤ b ∧ pv.ownBlock ≠ some b ∧ b < wr.heap.size
 grown:W.grownBy wr (some B)
 lt:B < W.heap.size
theorem tms_lt {w:World} {A:Option Addr} {n c:Nat} {l:List Tm} (h:Tms w (.slice A n c) l) (h0:0 < n) {b:Nat} (hb:(Value.slice A n c).ownBlock = some b):b < w.heap.size:=by
 obtain ⟨m,hm,A',c',heq,hc,hl,hA⟩:=h
 cases heq
 obtain ⟨b',off,rfl,hlt,_⟩:=hA h0
 injection hb with hb
 subst hb
 exact hlt
section
variable {W wr w':World} {B:Nat} {pv:Value} {ps:List AP}
theorem tms_row {A:Option Addr} {n c:Nat} {l:List Tm} {ob:Option Nat} (h:Tms wr (.slice A n c) l) (hb:wr.grownBy w' ob) (hne:0 < n → ∀ b,(Value.slice A n c).ownBlock = some b → ob ≠ some b):Tms w' (.slice A n c) l:=by
 obtain ⟨m,hm,A',c',heq,hc,hl,hA⟩:=h
 cases heq
 refine ⟨_,hm,A,c,rfl,hc,hl,fun h0 => ?_⟩
 obtain ⟨b,off,rfl,hlt,hcell⟩:=hA h0
 refine ⟨b,off,rfl,Nat.lt_of_lt_of_le hlt hb.size,fun j u hj => ?_⟩
 have:=hb.block b hlt (fun e => hne h0 b rfl e.symm)
 rw [← hcell j u hj]
 simp [World.cell?,this]
theorem RowA.but (h:RowA W B wr pv ps) (hb:wr.grownBy w' (some B)):RowA W B w' pv ps :=
 ⟨own_but h.own hb h.lt,fun p hp => tms_row (h.tms p hp) hb (fun h0 b e he => by have h1:=(h.apart p hp h0 b e).1; have h2:=h.lt; injection he with he; omega),fun p hp h0 b e => ⟨(h.apart p hp h0 b e).1,(h.apart p hp h0 b e).2.1,Nat.lt_of_lt_of_le (h.apart p hp h0 b e).2.2 hb.size⟩,but_trans h.grown hb,h.lt⟩
theorem RowA.keep (h:RowA W B wr pv ps) (hb:Below wr.heap.size wr w'):RowA W B w' pv ps:=h.but (but_below hb)
theorem RowA.far (h:RowA W B wr pv ps):AcsFar W.heap.size wr pv (ps.map (·.a)):=⟨ps,rfl,by rw [List.length_map]; exact Rdk.own h.own,h.tms,fun b hb => (own_block_bd h.own b hb).1,fun p hp h0 b hb => (h.apart p hp h0 b hb).1⟩
theorem RowA.acs (h:RowA W B wr pv ps):Acs wr pv (ps.map (·.a)):=⟨ps,rfl,by rw [List.length_map]; exact Rdk.own h.own,h.tms⟩
theorem RowA.add {p:AP} {pv':Value} {o:Obj} (h:RowA W B wr pv ps) (ht:Tms wr (.slice p.xA p.xn p.xc) p.a.x)
 (hap:∀ b,(Value.slice p.xA p.xn p.xc).ownBlock = some b → W.heap.size ≤ b ∧ pv.ownBlock ≠ some b)
 (hrow:w'.ownsRow W.heap.size 67 3 pv' (ps.length + 1) (acsV ps ++ acsV [p])) (hg:(wr.alloc o).grownBy w' pv.ownBlock) (hob:pv'.ownBlock = pv.ownBlock ∨ pv'.ownBlock = some (wr.alloc o).heap.size) :
 RowA W B w' pv' (ps ++ [p]):=by
 have ha:Below wr.heap.size wr (wr.alloc o):=KitC.below_one wr o
 have hbd:=fun j hj => (own_block_bd h.own j hj).1
 have hall:∀ q ∈ ps ++ [p],Tms wr (.slice q.xA q.xn q.xc) q.a.x ∧ (0 < q.xn → ∀ b,(Value.slice q.xA q.xn q.xc).ownBlock = some b → W.heap.size ≤ b ∧ pv.ownBlock ≠ some b ∧ b < wr.heap.size):=fun q hq => by
  rcases List.mem_append.1 hq with hq | hq
  ·exact ⟨h.tms q hq,h.apart q hq⟩
  ·rw [List.mem_singleton] at hq
   subst hq
   exact ⟨ht,fun h0 b hb => ⟨(hap b hb).1,(hap b hb).2,tms_lt ht h0 hb⟩⟩
 refine ⟨by rw [← acsV_append,List.length_append]; exact hrow,fun q hq => tms_row ((hall q hq).1.keep ha) hg fun h0 b hb => ((hall q hq).2 h0 b hb).2.1,fun q hq h0 b hb => ?_,?_,h.lt⟩
 ·obtain ⟨h1,h2,h3⟩:=(hall q hq).2 h0 b hb
  refine ⟨h1,?_,Nat.lt_of_lt_of_le h3 (Nat.le_trans ha.size hg.size)⟩
  rcases hob with e | e
  ·rw [e]; exact h2
  ·rw [e,World.size_alloc]; intro e; injection e with e; omega
 ·have hgw:=h.grown
  refine ⟨hg.os.trans hgw.os,hg.tape.trans hgw.tape,hg.output.trans hgw.output,Nat.le_trans hgw.size (Nat.le_trans ha.size hg.size),fun i hi hn => ?_⟩
  have hi2:i < wr.heap.size:=Nat.lt_of_lt_of_le hi hgw.size
  refine (hg.block i (Nat.lt_of_lt_of_le hi2 ha.size) fun e => ?_).trans ((ha.block i hi2).trans (hgw.block i hi hn))
  have:=hbd i e.symm
  omega
theorem RowA.one {p:AP} (hg:W.grownBy wr (some B)) (hB:B < W.heap.size) (ht:Tms wr (.slice p.xA p.xn p.xc) p.a.x) (hap:∀ b,(Value.slice p.xA p.xn p.xc).ownBlock = some b → W.heap.size ≤ b) :
 RowA W B (wr.alloc (.cells #[.string p.a.s,.bool p.a.any,.slice p.xA p.xn p.xc] 67)) (.slice (some ⟨wr.heap.size,0,none⟩) 1 1) [p]:=by
 have ha:Below wr.heap.size wr (wr.alloc (.cells #[.string p.a.s,.bool p.a.any,.slice p.xA p.xn p.xc] 67)):=KitC.below_one wr _
 refine ⟨World.ownsRow_lit wr _ 1 hg.size (by decide) rfl,fun q hq => ?_,fun q hq h0 b hb => ?_,but_trans hg (but_below ha),hB⟩
 ·rw [List.mem_singleton] at hq
  subst hq
  exact ht.keep ha
 ·rw [List.mem_singleton] at hq
  subst hq
  have:=tms_lt ht h0 hb
  refine ⟨hap b hb,fun e => ?_,Nat.lt_of_lt_of_le this ha.size⟩
  injection e with e
  simp only at e
  omega
end
end Go.Proofs.Ytbdalbpackfejaa
namespace Go.Proofs.Ytbdalbpackfejaa
open Go.RowKit CurSpec TermSpec EvalSpec ActSpec NamesSpec ExprSpec TransSpec
set_option maxRecDepth 100000
theorem rdk_but {k n:Nat} {w w':World} {A:Option Addr} {m cp:Nat} {xs:List Value} {ob:Option Nat} (h:Rdk k w (.slice A m cp) n xs) (hb:w.grownBy w' ob) (hne:∀ b,(Value.slice A m cp).ownBlock = some b → ob ≠ some b):Rdk k w' (.slice A m cp) n xs:=by
 obtain ⟨A',c',heq,hc,hl,hA⟩:=h
 cases heq
 refine ⟨A,cp,rfl,hc,hl,fun h0 => ?_⟩
 obtain ⟨b,off,rfl,hlt,hcell⟩:=hA h0
 refine ⟨b,off,rfl,Nat.lt_of_lt_of_le hlt hb.size,fun j u hj => ?_⟩
 rw [← hcell j u hj]
 have:=hb.block b hlt (fun e => hne b rfl e.symm)
 simp [World.cell?,this]
theorem AcsFar.but {B0 E:Nat} {w w':World} {A:Option Addr} {n c:Nat} {l:List Ac} (h:AcsFar B0 w (.slice A n c) l) (hb:w.grownBy w' (some E)) (hE:E < B0):AcsFar B0 w' (.slice A n c) l:=by
 obtain ⟨ps,h1,h2,h3,h4,h5⟩:=h
 refine ⟨ps,h1,rdk_but h2 hb (fun b hb' e => by have:=h4 b hb'; injection e with e; omega),fun p hp => tms_row (h3 p hp) hb (fun h0 b hb' e => by have:=h5 p hp h0 b hb'; injection e with e; omega),h4,h5⟩
theorem AcsFar.mono {B0 B1:Nat} {w:World} {v:Value} {l:List Ac} (h:AcsFar B0 w v l) (hl:B1 ≤ B0):AcsFar B1 w v l:=by
 obtain ⟨ps,h1,h2,h3,h4,h5⟩:=h
 exact ⟨ps,h1,h2,h3,fun b hb => Nat.le_trans hl (h4 b hb),fun p hp h0 b hb => Nat.le_trans hl (h5 p hp h0 b hb)⟩
section
variable {W wx wy:World} {B T:Nat} {c c':Cur} {gA aA:Option Addr} {gn gc an ac:Nat} {t:Tr}
end
end Go.Proofs.Ytbdalbpackfejaa
namespace Go.Proofs.Ytbdalbpackfejaa
open Go.RowKit CurSpec TermSpec EvalSpec ActSpec NamesSpec ExprSpec TransSpec SynSpec
set_option maxRecDepth 100000
end Go.Proofs.Ytbdalbpackfejaa
namespace Go.Proofs.Ytbdalbpackfejaa
open Go.RowKit CurSpec TermSpec EvalSpec ActSpec NamesSpec ExprSpec TransSpec SynSpec
section
variable {T:TypeId} {z0 z1 z2 z3:Value} {W wx wy:World} {B:Nat} {c c':Cur} {x0 x1 x2 x3:Value}
end
theorem acs_nil (w:World):Acs w (.slice none 0 0) []:=(AcsFar.nil 0 w).acs
end Go.Proofs.Ytbdalbpackfejaa
namespace Go.Proofs.Ytbdalbpackfejaa
open Go.RowKit TermSpec
set_option maxRecDepth 100000
theorem inf_str:(Try.prog.info? 9).map (fun i => (i.zero,i.size,i.bytes)) = some (some (.string ByteArray.empty),1,16):=by kernel_rfl
def RowS (W wr:World) (p:Value) (xs:List ByteArray):Prop:=wr.ownsRow W.heap.size 9 1 p xs.length (strV xs) ∧ Below W.heap.size W wr
theorem RowS.nil (W wr:World) (hb:Below W.heap.size W wr):RowS W wr (.slice none 0 0) []:=⟨World.ownsRow_nil _ _ _ _,hb⟩
theorem RowS.keep {W w w':World} {p:Value} {xs:List ByteArray} (h:RowS W w p xs) (hb:Below w.heap.size w w'):RowS W w' p xs:=⟨own_keep h.1 hb,below_two' h.2 hb⟩
theorem RowS.alloc {W w:World} {p:Value} {xs:List ByteArray} (h:RowS W w p xs) (o:Obj):RowS W (w.alloc o) p xs:=h.keep ((Below.refl _ _).alloc (Nat.le_refl _) _)
theorem RowS.add {W wr w2:World} {p p':Value} {xs:List ByteArray} {x:ByteArray} {o:Obj} (h:RowS W wr p xs) (hrow:w2.ownsRow W.heap.size 9 1 p' (xs.length + (strV [x]).length) (strV xs ++ strV [x])) (hg:(wr.alloc o).grownBy w2 p.ownBlock):RowS W w2 p' (xs ++ [x]):=by
 refine ⟨?_,(h.2.alloc h.2.size o).grown hg (by have:=h.2.size; simp; omega) (fun j hj => (own_block_bd h.1 j hj).1)⟩
 rw [← strV_append,List.length_append]
 exact hrow
theorem RowS.read {W wr:World} {p:Value} {xs:List ByteArray} (h:RowS W wr p xs):Rd wr p (strV xs):=Rd.own h.1
def NamRel (W:World) (l:List Tm) (n:Nat) (o:Int) (p i:Value) (wr:World):Prop:=∃ k:Nat,k ≤ n ∧ i = .int .i64 k ∧ RowS W wr p (namesOf (l.take k) o)
set_option maxHeartbeats 2000000 in
theorem names_any (A:Option Addr) (n c:Nat) (l:List Tm) (o:Int) (hn:n = l.length) (hn62:n ≤ 4398046511104) (w:World) (h:Tms w (.slice A n c) l) :
 Calls Try.prog 66 #[.slice A n c,.int .i64 o] w (RetStrs w (namesOf l o)):=by
 have HT:=Lib.hid h
 have HN:=Lib.hid hn
 obtain ⟨i0,hi,hz0,hz1,hz2⟩:=info_parts inf_str
 have HI:=Lib.hid (And.intro hi (And.intro hz0 (And.intro hz1 hz2)))
 clear h hn hi hz0 hz1 hz2
 go_enter Try.func66,Try.ntmps66
 go_wp2_with fail
 go_loopw [5,7,10] (fun p _ i wr => NamRel w l n o p i wr) (fun _ _ i _ => n - (intOf i).toNat)
 case atStart => exact ⟨0,Nat.zero_le _,rfl,RowS.nil _ _ (Below.refl _ _)⟩
 case round =>
  obtain ⟨k,hk,rfl,hrow⟩:=hrel
  have HR0:=Lib.hid hrow
  clear hrow
  by_cases hlt:k < n
  ·obtain ⟨t,ht⟩:∃ t,l[k]? = some t:=get_some (by rw [← HN.out]; exact hlt)
   obtain ⟨b,off,rfl,hb,c0,c1,c2⟩:=(HT.out.keep HR0.out.2).at_ ht
   by_cases ho:t.op = o
   ·have HY:=Lib.hid (namesOf_yes ht ho)
    have hl:=namesOf_length (l.take k) o
    rw [List.length_take] at hl
    have HR:=Lib.hid (HR0.out.alloc (.cells #[.int .i64 t.op,.int .i64 t.n,.string t.s] 69))
    obtain ⟨s,hs⟩:∃ s,s = t.s:=⟨_,rfl⟩
    rw [← hs] at HY HR c2
    have HL1:Hid ((namesOf (l.take k) o).length + (strV [s]).length ≤ maxLen):=Lib.hid (by simp [maxLen]; omega)
    have HL2:Hid (((namesOf (l.take k) o).length + (strV [s]).length) * 16 ≤ 140737488355328):=Lib.hid (by simp; omega)
    have HSZ:Hid (w.heap.size ≤ wr.heap.size):=Lib.hid HR0.out.2.size
    have HRA:=Lib.hid HR.out.1
    have g:(t.op == o) = true:=by simp [ho]
    clear ht hl hs ho
    go_wp2_with (at_builtin; refine wpList_append_rd _ rfl (.tmp 18) (.tmp 21) _ rfl w.heap.size 9 i0 (.string ByteArray.empty) 16 Try.underlying22 HI.out.1 HI.out.2.1 HI.out.2.2.1 HI.out.2.2.2 rfl _ _ _ rfl (HRA.out.alloc _) _ (strV [s]) rfl (lit_here (World.size_alloc _ _).symm rfl rfl) (strV_one _) HL1.out HL2.out ?_ ?_; (have:=HSZ.out; simp; omega); intro p2 w2 hrow2 hg2 _; have HR2:=Lib.hid (RowS.add HR.out hrow2 hg2); clear hrow2 hg2)
    go_roundw
    case rel => exact ⟨k + 1,hlt,by simp,by rw [HY.out]; exact HR2.out⟩
    case measure => simp [intOf]; omega
   ·have HY:=Lib.hid (namesOf_no ht ho)
    have g:(t.op == o) = false:=by simp [ho]
    clear ho
    go_wp2_with fail
    go_roundw
    case rel => exact ⟨k + 1,hlt,by simp,by rw [HY.out]; exact HR0.out.alloc _⟩
    case measure => simp [intOf]; omega
  ·obtain rfl:k = n:=by omega
   go_wp2_with fail
   go_ret
   have hr:=HR0.out
   rw [List.take_of_length_le (by rw [← HN.out]; omega)] at hr
   exact ⟨_,rfl,hr.read,hr.2⟩
end Go.Proofs.Ytbdalbpackfejaa
namespace Go.Proofs.Ytbdalbpackfejaa
open Go.RowKit CurSpec TermSpec EvalSpec ActSpec NamesSpec ExprSpec TransSpec SynSpec
set_option maxRecDepth 100000
abbrev sC (s:ByteArray):List Value:=[.string s]
theorem sC_flat (l:List ByteArray):l.flatMap sC = strV l:=by
 induction l with
 | nil => rfl
 | cons a t ih => rw [List.flatMap_cons,ih]; rfl
theorem rd_one {w:World} {v:Value} {n:Nat} {xs:List Value} (h:Rdk 1 w v n xs):Rd w v xs:=by
 obtain ⟨A,c,rfl,hc,hl,hA⟩:=h
 exact ⟨A,n,c,rfl,by omega,hc,hA⟩
structure TP where
 t:Tr
 gA:Option Addr
 gn:Nat
 gc:Nat
 aA:Option Addr
 an:Nat
 ac:Nat
def tpV (p:TP):List Value:=[.string p.t.ev,.slice p.gA p.gn p.gc,.slice p.aA p.an p.ac,.string p.t.tg]
def tpN (p:TP) (w:World):Prop:=TrIn w p.gA p.gn p.gc p.aA p.an p.ac p.t
theorem tpV_length (p:TP):(tpV p).length = 4:=rfl
def Trs (w:World) (v:Value) (l:List Tr):Prop:=∃ ps:List TP,ps.map (·.t) = l ∧ Rdk 4 w v ps.length (ps.flatMap tpV) ∧ ∀ p ∈ ps,tpN p w
theorem Trs.keep {w w':World} {v:Value} {l:List Tr} (h:Trs w v l) (hb:Below w.heap.size w w'):Trs w' v l:=by
 obtain ⟨ps,h1,h2,h3⟩:=h
 exact ⟨ps,h1,h2.keep hb,fun p hp => (h3 p hp).keep hb⟩
theorem Trs.nil (w:World):Trs w (.slice none 0 0) []:=⟨[],rfl,Rdk.nil 4 w,by simp⟩
def RdS (w:World) (v:Value) (l:List ByteArray):Prop:=Rd w v (strV l)
def RdV (w:World) (v:Value) (l:List Vr):Prop:=Rdk 4 w v l.length (vrsV l)
end Go.Proofs.Ytbdalbpackfejaa
namespace Go.Proofs.Ytbdalbpackfejaa
open Go.RowKit CurSpec TermSpec EvalSpec ActSpec NamesSpec ExprSpec TransSpec SynSpec
end Go.Proofs.Ytbdalbpackfejaa
namespace Go.Proofs.Ytbdalbpackfejaa
open Go.RowKit CurSpec TermSpec EvalSpec ActSpec NamesSpec ExprSpec TransSpec SynSpec
set_option maxRecDepth 100000
structure SP where
 x:Sx
 a3:Option Addr
 n3:Nat
 c3:Nat
 a4:Option Addr
 n4:Nat
 c4:Nat
 a5:Option Addr
 n5:Nat
 c5:Nat
def spV (p:SP):List Value:=[.string p.x.s,.int .i64 p.x.kind,.int .i64 p.x.par,.slice p.a3 p.n3 p.c3,.slice p.a4 p.n4 p.c4,.slice p.a5 p.n5 p.c5]
def spN (p:SP) (w:World):Prop:=Acs w (.slice p.a3 p.n3 p.c3) p.x.en ∧ Acs w (.slice p.a4 p.n4 p.c4) p.x.ex ∧ Trs w (.slice p.a5 p.n5 p.c5) p.x.tr
theorem spV_length (p:SP):(spV p).length = 6:=rfl
end Go.Proofs.Ytbdalbpackfejaa
namespace Go.Proofs.Ytbdalbpackfejaa
open Go.RowKit CurSpec TermSpec EvalSpec ActSpec NamesSpec ExprSpec TransSpec SynSpec
end Go.Proofs.Ytbdalbpackfejaa
namespace Go.Proofs.Ytbdalbpackfejaa
open Go.RowKit CurSpec TermSpec EvalSpec ActSpec NamesSpec ExprSpec TransSpec SynSpec
end Go.Proofs.Ytbdalbpackfejaa
namespace Go.Proofs.Ytbdalbpackfejaa
open Go.RowKit CurSpec TermSpec EvalSpec ActSpec NamesSpec ExprSpec TransSpec SynSpec
set_option maxRecDepth 100000
def StsP (w:World) (v:Value) (l:List Sx):Prop:=∃ ps:List SP,ps.map (·.x) = l ∧ Rdk 6 w v ps.length (ps.flatMap spV) ∧ ∀ p ∈ ps,spN p w
theorem spN_keep {p:SP} {w w':World} (h:spN p w) (hb:Below w.heap.size w w'):spN p w':=⟨h.1.keep hb,h.2.1.keep hb,h.2.2.keep hb⟩
theorem StsP.keep {w w':World} {v:Value} {l:List Sx} (h:StsP w v l) (hb:Below w.heap.size w w'):StsP w' v l:=by
 obtain ⟨ps,h1,h2,h3⟩:=h
 exact ⟨ps,h1,h2.keep hb,fun p hp => spN_keep (h3 p hp) hb⟩
theorem StsP.nil (w:World):StsP w (.slice none 0 0) []:=⟨[],rfl,Rdk.nil 6 w,by simp⟩
structure ChIn (w:World) (e v t:Value) (x:Cx):Prop where
 evs:RdS w e x.evs
 vars:RdV w v x.vars
 sts:StsP w t x.sts
theorem ChIn.keep {w w':World} {e v t:Value} {x:Cx} (h:ChIn w e v t x) (hb:Below w.heap.size w w'):ChIn w' e v t x:=⟨Rd.keep h.evs hb,Rdk.keep h.vars hb,h.sts.keep hb⟩
theorem ChIn.zero (w:World):ChIn w (.slice none 0 0) (.slice none 0 0) (.slice none 0 0) zeroC:=⟨Rd.nil w,Rdk.nil 4 w,StsP.nil w⟩
end Go.Proofs.Ytbdalbpackfejaa
namespace Go.Proofs.Ytbdalbpackfejaa
open Go.RowKit TermSpec EvalSpec ValSpec
end Go.Proofs.Ytbdalbpackfejaa
namespace Go.Proofs.Ytbdalbpackfejaa
open Go.RowKit TermSpec EvalSpec NamesSpec Go.Lib ValSpec
end Go.Proofs.Ytbdalbpackfejaa
namespace Go.Proofs.Ytbdalbpackfejaa
open Go.RowKit TermSpec EvalSpec NamesSpec Go.Lib ValSpec
end Go.Proofs.Ytbdalbpackfejaa
namespace Go.Proofs.Ytbdalbpackfejaa
open Go.RowKit TermSpec EvalSpec NamesSpec
end Go.Proofs.Ytbdalbpackfejaa
namespace Go.Proofs.Ytbdalbpackfejaa
open Go.RowKit TermSpec EvalSpec
end Go.Proofs.Ytbdalbpackfejaa
namespace Go.Proofs.Ytbdalbpackfejaa
open Go.RowKit TermSpec EvalSpec ActSpec NamesSpec
end Go.Proofs.Ytbdalbpackfejaa