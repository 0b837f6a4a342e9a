/- MixR, ConfKids, ConfRefFill, ConfRefFirst, AtlasClone, AtlasActs, joined. -/
import Derived.Test.YtckojimeglkobaaGreatDoorMConfChecks13
import Derived.Test.YtckojimeglkobaaGreatDoorMConfChecks11
import Derived.Test.YtckojimeglkobaaGreatDoorMConfChecks05
import Derived.Test.YtckojimeglkobaaGreatDoorRows
import Derived.Lib.Walk
import Derived.Test.YtckojimeglkobaaGreatDoorMConfChecks00
import Derived.Test.YtckojimeglkobaaGreatDoorMConfChecks01
namespace Go.Proofs.YtckojimeglkobaaGreatDoor
open Go.RowKit TermSpec EvalSpec ActSpec NamesSpec ExprSpec TransSpec SynSpec CurSpec
theorem rdk_rd {w:World} {v:Value} {xs:List Value} {n:Nat} (h:Rd w v xs) (hn:xs.length = n):Rdk 1 w v n xs:=by
 subst hn
 obtain ⟨A,n,c,rfl,rfl,hc,hA⟩:=h
 exact ⟨A,c,rfl,hc,(Nat.mul_one _).symm,hA⟩
theorem set_same {α:Type} {l:List α} {i:Nat} {a:α} (h:l[i]? = some a):l.set i a = l:=by
 apply List.ext_getElem?
 intro j
 by_cases e:i = j
 ·subst e
  rw [List.getElem?_set_self (List.getElem?_eq_some_iff.1 h).1,h]
 ·rw [List.getElem?_set_ne e]
theorem map_same {α β:Type} {f:α → β} {l:List α} {i:Nat} {a a':α} (h:l[i]? = some a) (hf:f a' = f a):(l.set i a').map f = l.map f:=by
 rw [List.map_set]
 exact set_same (by rw [List.getElem?_map,h,hf]; rfl)
theorem rdk_here {w:World} {k n:Nat} {v:Value} {xs:List Value} (h:Rdk k w v n xs):Dep w (fun b => b < w.heap.size) (fun x => Rdk k x v n xs):=by
 intro w2 hz hx
 obtain ⟨A,c,rfl,hc,hl,hA⟩:=h
 refine ⟨A,c,rfl,hc,hl,fun h0 => ?_⟩
 obtain ⟨b,off,rfl,hlt,hcell⟩:=hA h0
 refine ⟨b,off,rfl,Nat.lt_of_lt_of_le hlt hz,fun j u hj => ?_⟩
 rw [← hcell j u hj]
 simp [World.cell?,hx b hlt hlt]
theorem tms_rdk {w:World} {A:Option Addr} {n c:Nat} {l:List Tm} (h:Tms w (.slice A n c) l):n = l.length ∧ Rdk 3 w (.slice A n c) n (tmsV l):=by
 obtain ⟨q,hq,hr⟩:=h
 have e:n = q:=by
  obtain ⟨A',c',heq,-⟩:=hr
  injection heq
 subst e
 exact ⟨hq,hr⟩
theorem tms_here {w:World} {v:Value} {l:List Tm} (h:Tms w v l):Dep w (fun b => b < w.heap.size) (fun x => Tms x v l):=by
 obtain ⟨n,hn,h⟩:=h
 exact (rdk_here h).imp fun _ g => ⟨n,hn,g⟩
theorem dep_all {α:Type} {w:World} {S:Nat → Prop} {P:α → World → Prop} {l:List α} (h:∀ p ∈ l,Dep w S (P p)):Dep w S (fun x => ∀ p ∈ l,P p x):=fun w2 hz hx p hp => h p hp w2 hz hx
theorem acs_here {w:World} {v:Value} {l:List Ac} (h:Acs w v l):Dep w (fun b => b < w.heap.size) (fun x => Acs x v l):=by
 obtain ⟨ps,hm,hr,hx⟩:=h
 exact ((rdk_here hr).and (dep_all fun p hp => tms_here (hx p hp))).imp fun _ g => ⟨ps,hm,g.1,g.2⟩
theorem tpN_here {w:World} {p:TP} (h:tpN p w):Dep w (fun b => b < w.heap.size) (tpN p):=((tms_here h.g).and (acs_here h.a)).imp fun _ g => ⟨g.1,g.2⟩
theorem trs_here {w:World} {v:Value} {l:List Tr} (h:Trs w v l):Dep w (fun b => b < w.heap.size) (fun x => Trs x v l):=by
 obtain ⟨ps,hm,hr,hx⟩:=h
 exact ((rdk_here hr).and (dep_all fun p hp => tpN_here (hx p hp))).imp fun _ g => ⟨ps,hm,g.1,g.2⟩
theorem spN_here {w:World} {p:SP} (h:spN p w):Dep w (fun b => b < w.heap.size) (spN p):=((acs_here h.1).and ((acs_here h.2.1).and (trs_here h.2.2))).imp fun _ g => g
structure MixR {α:Type} (T:TypeId) (k:Nat) (cv:α → List Value) (nest:α → World → Prop) (N:Nat) (wr:World) (pv:Value) (ps:List α) (m:Nat):Prop where
 own:wr.ownsRow N T k pv ps.length (ps.flatMap cv)
 dep:∀ j p,ps[j]? = some p → Dep wr (fun b => (j < m → N ≤ b) ∧ pv.ownBlock ≠ some b) (nest p)
section
variable {α:Type} {T:TypeId} {k:Nat} {cv:α → List Value} {nest:α → World → Prop} {N m:Nat} {wr w':World} {pv:Value} {ps:List α}
theorem MixR.start {w:World} (hb:Below w.heap.size w wr) (hown:wr.ownsRow w.heap.size T k pv ps.length (ps.flatMap cv)) (hn:∀ p ∈ ps,Dep w (fun b => b < w.heap.size) (nest p)):MixR T k cv nest w.heap.size wr pv ps 0 :=
 ⟨hown,fun j p hj => ((hn p (List.mem_of_getElem? hj)).keep hb).mono fun b _ h => ⟨fun h0 => by omega,fun e => by have:=(own_block_bd hown b e).1; omega⟩⟩
theorem MixR.keep (h:MixR T k cv nest N wr pv ps m) (hb:Below wr.heap.size wr w'):MixR T k cv nest N w' pv ps m:=⟨own_keep h.own hb,fun j p hj => (h.dep j p hj).keep hb⟩
theorem MixR.bd (h:MixR T k cv nest N wr pv ps m):∀ j,pv.ownBlock = some j → N ≤ j ∧ j < wr.heap.size:=own_block_bd h.own
theorem MixR.go (h:MixR T k cv nest N wr pv ps ps.length) {oc:Option Nat} (g:wr.grownBy w' oc) (hk:∀ j,oc = some j → j < N):MixR T k cv nest N w' pv ps ps.length :=
 ⟨own_go h.own g fun j e e' => by have:=(h.bd j e').1; have:=hk j e; omega,fun j p hj => (h.dep j p hj).go g fun b hS e => by have:=hS.1 (List.getElem?_eq_some_iff.1 hj).1; have:=hk b e; omega⟩
theorem MixR.now (h:MixR T k cv nest N wr pv ps m) {j:Nat} {p:α} (hj:ps[j]? = some p):nest p wr:=(h.dep j p hj).now
theorem MixR.far (h:MixR T k cv nest N wr pv ps m) (hm:ps.length ≤ m):Dep wr (fun b => N ≤ b) (fun x => Rdk k x pv ps.length (ps.flatMap cv) ∧ ∀ p ∈ ps,nest p x) :=
 (rdk_dep (Rdk.own h.own) fun _ b e => (h.bd b e).1).and fun w2 hz hx p hp => by
   obtain ⟨j,hj⟩:=List.mem_iff_getElem?.1 hp
   exact (h.dep j p hj) w2 hz fun b hlt hS => hx b hlt (hS.1 (Nat.lt_of_lt_of_le (List.getElem?_eq_some_iff.1 hj).1 hm))
theorem MixR.cells {g n cap:Nat} (h:MixR T k cv nest N wr (.slice (some ⟨g,0,none⟩) n cap) ps m) (hnl:ps.length = n):(∃ cur,wr.heap[g]? = some (.cells cur T (0,0))) ∧ (∀ i u,(ps.flatMap cv)[i]? = some u → wr.cell? ⟨g,i,none⟩ = some u) ∧ N ≤ g ∧ g < wr.heap.size:=by
 subst hnl
 obtain ⟨⟨cur,hcur,-⟩,hc⟩:=own_cell h.own
 exact ⟨⟨cur,hcur⟩,hc,own_block_bd h.own g rfl⟩
theorem MixR.set {i j g n cap m':Nat} {p p':α} {u:Value} (h:MixR T k cv nest N wr (.slice (some ⟨g,0,none⟩) n cap) ps m) (hnl:ps.length = n) (hlen:∀ a,(cv a).length = k) (hp:ps[i]? = some p) (hj:j < k) (hu:cv p' = (cv p).set j u)
 (hm:∀ q,q ≠ i → q < m' → q < m)
 (hn:Dep wr (fun b => (i < m' → N ≤ b) ∧ (Value.slice (some ⟨g,0,none⟩) n cap).ownBlock ≠ some b) (nest p')) :
 MixR T k cv nest N (wr.setCell ⟨g,i * k + j,none⟩ u) (.slice (some ⟨g,0,none⟩) n cap) (ps.set i p') m':=by
 subst hnl
 have hs:wr.grownBy (wr.setCell ⟨g,i * k + j,none⟩ u) (some g):=but_set (but_refl wr _) _ _
 have hi:=(List.getElem?_eq_some_iff.1 hp).1
 have hlt:i * k + j < (ps.flatMap cv).length:=by
  rw [flat_length hlen]
  have:(i + 1) * k ≤ ps.length * k:=Nat.mul_le_mul_right k hi
  rw [Nat.add_mul] at this
  omega
 refine ⟨?_,fun q p2 hq => ?_⟩
 ·rw [List.length_set,flat_set hlen hp hj hu]
  exact own_set h.own hlt u
 ·have hall:Dep wr (fun b => (q < m' → N ≤ b) ∧ (Value.slice (some ⟨g,0,none⟩) ps.length cap).ownBlock ≠ some b) (nest p2):=by
   by_cases e:q = i
   ·subst e
    rw [List.getElem?_set_self hi] at hq
    injection hq with hq
    subst hq
    exact hn
   ·rw [List.getElem?_set_ne (fun e' => e e'.symm)] at hq
    exact (h.dep q p2 hq).mono fun b _ hS => ⟨fun h0 => hS.1 (hm q e h0),hS.2⟩
  exact hall.go hs fun b hS e => hS.2 e
end
theorem dep_new {w:World} {k n N B g:Nat} {T:TypeId} {v:Value} {xs:List Value} {S:Prop} (h:w.ownsRow B T k v n xs) (hN:N ≤ B) (hg:g < B):Dep w (fun b => (S → N ≤ b) ∧ some g ≠ some b) (fun x => Rdk k x v n xs) :=
 rdk_dep (Rdk.own h) fun _ b e => by
  have:=(own_block_bd h b e).1
  exact ⟨fun _ => by omega,fun e' => by injection e' with e'; omega⟩
def RetCp (R:World → Value → Prop) (W:World) (n:Nat) (e:Ending) (w':World):Prop:=∃ A c,e = .returned (.slice A n c) ∧ Dep w' (fun b => W.heap.size ≤ b) (fun x => R x (.slice A n c)) ∧ Below W.heap.size W w'
end Go.Proofs.YtckojimeglkobaaGreatDoor
namespace Go.Proofs.YtckojimeglkobaaGreatDoor
open Go.RowKit ShapeSpec
set_option maxRecDepth 100000
def KRow (wr:World) (p v:Value) (ks:List Int):Prop:=Dep wr (fun b => p.ownBlock ≠ some b) (fun X => Rd X v (intV ks))
theorem KRow.add {wr w2:World} {p p' v:Value} {ks:List Int} {o:Obj} (h:KRow wr p v ks) (hg:(wr.alloc o).grownBy w2 p.ownBlock) (hob:p'.ownBlock = p.ownBlock ∨ p'.ownBlock = some (wr.alloc o).heap.size):KRow w2 p' v ks:=by
 have ha:Below wr.heap.size wr (wr.alloc o):=KitC.below_one wr o
 intro w3 hz hx
 refine h w3 (Nat.le_trans ha.size (Nat.le_trans hg.size hz)) fun b hlt hS => ?_
 have hlt2:b < (wr.alloc o).heap.size:=Nat.lt_of_lt_of_le hlt ha.size
 refine (hx b (Nat.lt_of_lt_of_le hlt2 hg.size) fun e => ?_).trans ((hg.block b hlt2 fun e => hS e.symm).trans (ha.block b hlt))
 rcases hob with e' | e'
 ·exact hS (e'.symm.trans e)
 ·rw [e'] at e
  injection e with e
  omega
end Go.Proofs.YtckojimeglkobaaGreatDoor
namespace Go.Proofs.YtckojimeglkobaaGreatDoor
open Go.RowKit Go.Sort TermSpec EvalSpec ActSpec NamesSpec ExprSpec TransSpec SynSpec CurSpec ShapeSpec GroupSpec PrintSpec ConfSpec
set_option maxRecDepth 100000
theorem closed_next {l:List Sh} {a:List Int} {k:Nat} (h:closedTo l a k) (hk:(k:Int) ∈ a → (kind l k = 2 → ∃ x ∈ kids l k,x ∈ a) ∧ (kind l k = 3 → ∀ x ∈ kids l k,x ∈ a)):closedTo l a (k + 1):=fun i hi hm => by
 by_cases e:i = k
 ·subst e; exact hk hm
 ·exact h i (by omega) hm
def P3 (l:List Sh) (a0:List Int) (v:Value) (a:List Int) (k:Nat):Prop:=(v = .bool false ∧ a = a0 ∧ closedTo l a0 k) ∨ (v = .bool true ∧ a0.length < a.length)
theorem P3.skip {l:List Sh} {a0 a:List Int} {v:Value} {k:Nat} (h:P3 l a0 v a k) (hk:(k:Int) ∉ a):P3 l a0 v a (k + 1):=by
 rcases h with ⟨h,rfl,hc⟩ | h
 ·exact .inl ⟨h,rfl,closed_next hc fun h => absurd h hk⟩
 ·exact .inr h
theorem P3.grow {l:List Sh} {a0 a:List Int} {v:Value} {k:Nat} (h:P3 l a0 v a k) (y:Int) (k':Nat):P3 l a0 (.bool true) (a ++ [y]) k':=by
 refine .inr ⟨rfl,?_⟩
 rw [List.length_append]
 rcases h with ⟨_,rfl,_⟩ | ⟨_,h⟩
 ·simp
 ·simp; omega
section
variable (x:Cx) (eA:Option Addr) (en ec:Nat) (vA:Option Addr) (vn vc:Nat) (sA:Option Addr) (sn sc:Nat) (w:World) (h:ChIn w (.slice eA en ec) (.slice vA vn vc) (.slice sA sn sc) x) (hc:chk (x.sts.map shOf) = 0) (hne:∀ i,i < (x.sts.map shOf).length → kind (x.sts.map shOf) i = 2 → kids (x.sts.map shOf) i ≠ []) (m:Nat) (h64:m < 18446744073709551616)
include h hc hne h64
end
end Go.Proofs.YtckojimeglkobaaGreatDoor
namespace Go.Proofs.YtckojimeglkobaaGreatDoor
open Go.RowKit Go.Sort TermSpec EvalSpec ActSpec NamesSpec ExprSpec TransSpec SynSpec CurSpec ShapeSpec GroupSpec PrintSpec ConfSpec
set_option maxRecDepth 100000
abbrev cfZ:Obj:=.cells #[.int .u64 0,.int .i64 0,.int .i64 0,.int .i64 0,.int .i64 0] 30
theorem cf_build (m:Int) (w:World):(Instr.build 30 #[(0,.int .u64 m)]).run Tryz.prog w = .ok (.agg #[.int .u64 m,.int .i64 0,.int .i64 0,.int .i64 0,.int .i64 0]) w:=run_build w 30 _ _ (by kernel_rfl)
theorem store_5 {w:World} {b:Nat} (h:Blk w b 5) (u0 u1 u2 u3 u4:Value) :
 (w.setCell ⟨b,0,none⟩ u0).cell? ⟨b,0,none⟩ = some u0 ∧ ((w.setCell ⟨b,0,none⟩ u0).setCell ⟨b,1,none⟩ u1).cell? ⟨b,1,none⟩ = some u1 ∧
 (((w.setCell ⟨b,0,none⟩ u0).setCell ⟨b,1,none⟩ u1).setCell ⟨b,2,none⟩ u2).cell? ⟨b,2,none⟩ = some u2 ∧
 ((((w.setCell ⟨b,0,none⟩ u0).setCell ⟨b,1,none⟩ u1).setCell ⟨b,2,none⟩ u2).setCell ⟨b,3,none⟩ u3).cell? ⟨b,3,none⟩ = some u3 ∧
 (((((w.setCell ⟨b,0,none⟩ u0).setCell ⟨b,1,none⟩ u1).setCell ⟨b,2,none⟩ u2).setCell ⟨b,3,none⟩ u3).setCell ⟨b,4,none⟩ u4).cell? ⟨b,4,none⟩ = some u4 :=
 ⟨h.read 0 (by omega) _,(h.set _ _).read 1 (by omega) _,((h.set _ _).set _ _).read 2 (by omega) _,(((h.set _ _).set _ _).set _ _).read 3 (by omega) _,((((h.set _ _).set _ _).set _ _).set _ _).read 4 (by omega) _⟩
abbrev set5 (w:World) (b:Nat) (u0 u1 u2 u3 u4:Value):World:=((((w.setCell ⟨b,0,none⟩ u0).setCell ⟨b,1,none⟩ u1).setCell ⟨b,2,none⟩ u2).setCell ⟨b,3,none⟩ u3).setCell ⟨b,4,none⟩ u4
theorem set5_blk {w:World} {b:Nat} {T:TypeId} {z0 z1 z2 z3 z4:Value} (h:w.heap[b]? = some (.cells #[z0,z1,z2,z3,z4] T (0,0))) (u0 u1 u2 u3 u4:Value):(set5 w b u0 u1 u2 u3 u4).heap[b]? = some (.cells #[u0,u1,u2,u3,u4] T (0,0)) :=
 block_setCell' (block_setCell' (block_setCell' (block_setCell' (block_setCell' h 0 u0) 1 u1) 2 u2) 3 u3) 4 u4
def upV (vs:List Vr) (k:Nat):V4:=⟨if 0 < k then iniV vs 0 else 0,if 1 < k then iniV vs 1 else 0,if 2 < k then iniV vs 2 else 0,if 3 < k then iniV vs 3 else 0⟩
theorem upV_end {vs:List Vr} {k:Nat} (h:vs.length ≤ k):upV vs k = firstV vs:=by
 have e:∀ i,k ≤ i → iniV vs i = 0:=fun i hi => by
  unfold iniV
  rw [List.getElem?_eq_none (by omega)]
  rfl
 have g:∀ i,(if i < k then iniV vs i else 0) = iniV vs i:=fun i => by
  by_cases hi:i < k
  ·rw [if_pos hi]
  ·rw [if_neg hi,e i (by omega)]
 unfold upV firstV
 rw [g,g,g,g]
theorem up_set {w:World} {b m k:Nat} {vs:List Vr} (h:w.heap[b]? = some (cfO ⟨m,upV vs k⟩)) (hk:k < 4):(w.setCell ⟨b,1 + k,none⟩ (.int .i64 (iniV vs k))).heap[b]? = some (cfO ⟨m,upV vs (k + 1)⟩):=by
 have:=block_setCell' h (1 + k) (.int .i64 (iniV vs k))
 rcases (show k = 0 ∨ k = 1 ∨ k = 2 ∨ k = 3 by omega) with rfl | rfl | rfl | rfl <;> exact this
theorem free_5c {w:World} {b:Nat} {T:TypeId} {z0 z1 z2 z3 z4:Value} (h:w.heap[b]? = some (.cells #[z0,z1,z2,z3,z4] T (0,0))) :
 w.frozen? ⟨b,0,none⟩ = false ∧ w.frozen? ⟨b,1,none⟩ = false ∧ w.frozen? ⟨b,2,none⟩ = false ∧ w.frozen? ⟨b,3,none⟩ = false ∧ w.frozen? ⟨b,4,none⟩ = false :=
 ⟨free_of_block' h _,free_of_block' h _,free_of_block' h _,free_of_block' h _,free_of_block' h _⟩
section
variable (x:Cx) (eA:Option Addr) (en ec:Nat) (vA:Option Addr) (vn vc:Nat) (sA:Option Addr) (sn sc:Nat) (w:World) (h:ChIn w (.slice eA en ec) (.slice vA vn vc) (.slice sA sn sc) x)
include h
end
end Go.Proofs.YtckojimeglkobaaGreatDoor
namespace Go.Proofs.YtckojimeglkobaaGreatDoor
open Go.RowKit
set_option maxRecDepth 100000
def RetRw (T:TypeId) (k:Nat) (W:World) (n:Nat) (xs:List Value) (e:Ending) (w':World):Prop:=∃ A c,e = .returned (.slice A n c) ∧ w'.ownsRow W.heap.size T k (.slice A n c) n xs ∧ Below W.heap.size W w'
theorem infc_str:(Tryz.prog.info? 9).map (fun i => (i.zero,i.size,i.bytes)) = some (some (.string ByteArray.empty),1,16):=by kernel_rfl
set_option maxRecDepth 100000 in
set_option maxHeartbeats 2000000 in
theorem clone_str (v:Value) (n:Nat) (xs:List Value) (w:World) (h:Rdk 1 w v n xs) (h1:∀ u ∈ xs,u.oneCell' = true) (hm:n ≤ 1000000):Calls Tryz.prog 45 #[v] w (RetRw 9 1 w n xs):=by
 obtain ⟨i0,hi,hz0,hz1,hz2⟩:=info_parts infc_str
 have HI:=Lib.hid (And.intro hi (And.intro hz0 (And.intro hz1 hz2)))
 have HR:=Lib.hid h
 have H1:=Lib.hid h1
 obtain ⟨A,c,rfl,hc,hl,hA⟩:=h
 have q22:∀ (w:World) (a:Option Addr) (n c n' c':Nat),(binOp .eql 22 (.slice a n c) (.slice none n' c')).run Tryz.prog w = .ok (.bool a.isNone) w:=fun w a n c n' c' => Lib.run_eql_slice_nil w _ _ a n c n' c' Tryz.underlying22
 rcases A with _ | a
 ·have h0:n = 0:=by
   rcases Nat.eq_zero_or_pos n with h0 | h0
   ·exact h0
   ·obtain ⟨b,off,hb,-⟩:=hA h0
    cases hb
  subst h0
  obtain rfl:xs = []:=List.eq_nil_of_length_eq_zero (by omega)
  clear h1 hA hl hc hi hz0 hz1 hz2
  go_enter Tryz.func45,Tryz.ntmps45
  go_wp2
  go_ret
  exact ⟨none,0,rfl,World.ownsRow_nil _ _ _ _,Below.refl _ _⟩
 ·have HL1:Hid (0 + n ≤ maxLen):=Lib.hid (by simp only [maxLen]; omega)
  have HL2:Hid ((0 + n) * 16 ≤ 140737488355328):=Lib.hid (by omega)
  clear h1 hA hl hc hi hz0 hz1 hz2 hm
  go_enter Tryz.func45,Tryz.ntmps45
  go_wp2_with (at_builtin; refine wpList_append_rdk _ rfl (.tmp 5) (.tmp 6) _ rfl w.heap.size 9 i0 (.string ByteArray.empty) 1 16 Tryz.underlying22 HI.out.1 HI.out.2.1 HI.out.2.2.1 HI.out.2.2.2 rfl (by decide) _ 0 [] rfl (World.ownsRow_lit w #[] 0 (Nat.le_refl _) (Nat.zero_le _) rfl) _ n xs rfl (HR.out.alloc _) H1.out HL1.out HL2.out (KitC.below_one w _).size ?_; intro p2 w6 hrow2 hg2 hob; have HR2:=Lib.hid hrow2; have HG2:=Lib.hid hg2; clear hrow2 hg2 hob)
  go_ret
  have hrow:=HR2.out
  rw [Nat.zero_add,List.nil_append] at hrow
  obtain ⟨A',c',rfl⟩:=own_shape hrow
  refine ⟨A',c',rfl,hrow,?_⟩
  exact (KitC.below_one w _).grown HG2.out (KitC.below_one w _).size (fun j hj => by injection hj with hj; simp only at hj; omega)
theorem infc_int:(Tryz.prog.info? 3).map (fun i => (i.zero,i.size,i.bytes)) = some (some (.int .i64 0),1,8):=by kernel_rfl
set_option maxRecDepth 100000 in
set_option maxHeartbeats 2000000 in
theorem clone_int (v:Value) (n:Nat) (xs:List Value) (w:World) (h:Rdk 1 w v n xs) (h1:∀ u ∈ xs,u.oneCell' = true) (hm:n ≤ 1000000):Calls Tryz.prog 83 #[v] w (RetRw 3 1 w n xs):=by
 obtain ⟨i0,hi,hz0,hz1,hz2⟩:=info_parts infc_int
 have HI:=Lib.hid (And.intro hi (And.intro hz0 (And.intro hz1 hz2)))
 have HR:=Lib.hid h
 have H1:=Lib.hid h1
 obtain ⟨A,c,rfl,hc,hl,hA⟩:=h
 have q22:∀ (w:World) (a:Option Addr) (n c n' c':Nat),(binOp .eql 90 (.slice a n c) (.slice none n' c')).run Tryz.prog w = .ok (.bool a.isNone) w:=fun w a n c n' c' => Lib.run_eql_slice_nil w _ _ a n c n' c' Tryz.underlying90
 rcases A with _ | a
 ·have h0:n = 0:=by
   rcases Nat.eq_zero_or_pos n with h0 | h0
   ·exact h0
   ·obtain ⟨b,off,hb,-⟩:=hA h0
    cases hb
  subst h0
  obtain rfl:xs = []:=List.eq_nil_of_length_eq_zero (by omega)
  clear h1 hA hl hc hi hz0 hz1 hz2
  go_enter Tryz.func83,Tryz.ntmps83
  go_wp2
  go_ret
  exact ⟨none,0,rfl,World.ownsRow_nil _ _ _ _,Below.refl _ _⟩
 ·have HL1:Hid (0 + n ≤ maxLen):=Lib.hid (by simp only [maxLen]; omega)
  have HL2:Hid ((0 + n) * 8 ≤ 140737488355328):=Lib.hid (by omega)
  clear h1 hA hl hc hi hz0 hz1 hz2 hm
  go_enter Tryz.func83,Tryz.ntmps83
  go_wp2_with (at_builtin; refine wpList_append_rdk _ rfl (.tmp 5) (.tmp 6) _ rfl w.heap.size 3 i0 (.int .i64 0) 1 8 Tryz.underlying90 HI.out.1 HI.out.2.1 HI.out.2.2.1 HI.out.2.2.2 rfl (by decide) _ 0 [] rfl (World.ownsRow_lit w #[] 0 (Nat.le_refl _) (Nat.zero_le _) rfl) _ n xs rfl (HR.out.alloc _) H1.out HL1.out HL2.out (KitC.below_one w _).size ?_; intro p2 w6 hrow2 hg2 hob; have HR2:=Lib.hid hrow2; have HG2:=Lib.hid hg2; clear hrow2 hg2 hob)
  go_ret
  have hrow:=HR2.out
  rw [Nat.zero_add,List.nil_append] at hrow
  obtain ⟨A',c',rfl⟩:=own_shape hrow
  refine ⟨A',c',rfl,hrow,?_⟩
  exact (KitC.below_one w _).grown HG2.out (KitC.below_one w _).size (fun j hj => by injection hj with hj; simp only at hj; omega)
theorem infc_var:(Tryz.prog.info? 52).map (fun i => (i.zero,i.size,i.bytes)) = some (some (.agg #[.string ByteArray.empty,.int .i64 0,.int .i64 0,.int .i64 0]),4,40):=by kernel_rfl
set_option maxRecDepth 100000 in
set_option maxHeartbeats 2000000 in
theorem clone_var (v:Value) (n:Nat) (xs:List Value) (w:World) (h:Rdk 4 w v n xs) (h1:∀ u ∈ xs,u.oneCell' = true) (hm:n ≤ 1000000):Calls Tryz.prog 46 #[v] w (RetRw 52 4 w n xs):=by
 obtain ⟨i0,hi,hz0,hz1,hz2⟩:=info_parts infc_var
 have HI:=Lib.hid (And.intro hi (And.intro hz0 (And.intro hz1 hz2)))
 have HR:=Lib.hid h
 have H1:=Lib.hid h1
 obtain ⟨A,c,rfl,hc,hl,hA⟩:=h
 have q22:∀ (w:World) (a:Option Addr) (n c n' c':Nat),(binOp .eql 23 (.slice a n c) (.slice none n' c')).run Tryz.prog w = .ok (.bool a.isNone) w:=fun w a n c n' c' => Lib.run_eql_slice_nil w _ _ a n c n' c' Tryz.underlying23
 rcases A with _ | a
 ·have h0:n = 0:=by
   rcases Nat.eq_zero_or_pos n with h0 | h0
   ·exact h0
   ·obtain ⟨b,off,hb,-⟩:=hA h0
    cases hb
  subst h0
  obtain rfl:xs = []:=List.eq_nil_of_length_eq_zero (by omega)
  clear h1 hA hl hc hi hz0 hz1 hz2
  go_enter Tryz.func46,Tryz.ntmps46
  go_wp2
  go_ret
  exact ⟨none,0,rfl,World.ownsRow_nil _ _ _ _,Below.refl _ _⟩
 ·have HL1:Hid (0 + n ≤ maxLen):=Lib.hid (by simp only [maxLen]; omega)
  have HL2:Hid ((0 + n) * 40 ≤ 140737488355328):=Lib.hid (by omega)
  clear h1 hA hl hc hi hz0 hz1 hz2 hm
  go_enter Tryz.func46,Tryz.ntmps46
  go_wp2_with (at_builtin; refine wpList_append_rdk _ rfl (.tmp 5) (.tmp 6) _ rfl w.heap.size 52 i0 (.agg #[.string ByteArray.empty,.int .i64 0,.int .i64 0,.int .i64 0]) 4 40 Tryz.underlying23 HI.out.1 HI.out.2.1 HI.out.2.2.1 HI.out.2.2.2 rfl (by decide) _ 0 [] rfl (World.ownsRow_lit w #[] 0 (Nat.le_refl _) (Nat.zero_le _) rfl) _ n xs rfl (HR.out.alloc _) H1.out HL1.out HL2.out (KitC.below_one w _).size ?_; intro p2 w6 hrow2 hg2 hob; have HR2:=Lib.hid hrow2; have HG2:=Lib.hid hg2; clear hrow2 hg2 hob)
  go_ret
  have hrow:=HR2.out
  rw [Nat.zero_add,List.nil_append] at hrow
  obtain ⟨A',c',rfl⟩:=own_shape hrow
  refine ⟨A',c',rfl,hrow,?_⟩
  exact (KitC.below_one w _).grown HG2.out (KitC.below_one w _).size (fun j hj => by injection hj with hj; simp only at hj; omega)
theorem infc_state:(Tryz.prog.info? 58).map (fun i => (i.zero,i.size,i.bytes)) = some (some (.agg #[.string ByteArray.empty,.int .i64 0,.int .i64 0,.slice none 0 0,.slice none 0 0,.slice none 0 0]),6,104):=by kernel_rfl
set_option maxRecDepth 100000 in
set_option maxHeartbeats 2000000 in
theorem clone_state (v:Value) (n:Nat) (xs:List Value) (w:World) (h:Rdk 6 w v n xs) (h1:∀ u ∈ xs,u.oneCell' = true) (hm:n ≤ 1000000):Calls Tryz.prog 47 #[v] w (RetRw 58 6 w n xs):=by
 obtain ⟨i0,hi,hz0,hz1,hz2⟩:=info_parts infc_state
 have HI:=Lib.hid (And.intro hi (And.intro hz0 (And.intro hz1 hz2)))
 have HR:=Lib.hid h
 have H1:=Lib.hid h1
 obtain ⟨A,c,rfl,hc,hl,hA⟩:=h
 have q22:∀ (w:World) (a:Option Addr) (n c n' c':Nat),(binOp .eql 24 (.slice a n c) (.slice none n' c')).run Tryz.prog w = .ok (.bool a.isNone) w:=fun w a n c n' c' => Lib.run_eql_slice_nil w _ _ a n c n' c' Tryz.underlying24
 rcases A with _ | a
 ·have h0:n = 0:=by
   rcases Nat.eq_zero_or_pos n with h0 | h0
   ·exact h0
   ·obtain ⟨b,off,hb,-⟩:=hA h0
    cases hb
  subst h0
  obtain rfl:xs = []:=List.eq_nil_of_length_eq_zero (by omega)
  clear h1 hA hl hc hi hz0 hz1 hz2
  go_enter Tryz.func47,Tryz.ntmps47
  go_wp2
  go_ret
  exact ⟨none,0,rfl,World.ownsRow_nil _ _ _ _,Below.refl _ _⟩
 ·have HL1:Hid (0 + n ≤ maxLen):=Lib.hid (by simp only [maxLen]; omega)
  have HL2:Hid ((0 + n) * 104 ≤ 140737488355328):=Lib.hid (by omega)
  clear h1 hA hl hc hi hz0 hz1 hz2 hm
  go_enter Tryz.func47,Tryz.ntmps47
  go_wp2_with (at_builtin; refine wpList_append_rdk _ rfl (.tmp 5) (.tmp 6) _ rfl w.heap.size 58 i0 (.agg #[.string ByteArray.empty,.int .i64 0,.int .i64 0,.slice none 0 0,.slice none 0 0,.slice none 0 0]) 6 104 Tryz.underlying24 HI.out.1 HI.out.2.1 HI.out.2.2.1 HI.out.2.2.2 rfl (by decide) _ 0 [] rfl (World.ownsRow_lit w #[] 0 (Nat.le_refl _) (Nat.zero_le _) rfl) _ n xs rfl (HR.out.alloc _) H1.out HL1.out HL2.out (KitC.below_one w _).size ?_; intro p2 w6 hrow2 hg2 hob; have HR2:=Lib.hid hrow2; have HG2:=Lib.hid hg2; clear hrow2 hg2 hob)
  go_ret
  have hrow:=HR2.out
  rw [Nat.zero_add,List.nil_append] at hrow
  obtain ⟨A',c',rfl⟩:=own_shape hrow
  refine ⟨A',c',rfl,hrow,?_⟩
  exact (KitC.below_one w _).grown HG2.out (KitC.below_one w _).size (fun j hj => by injection hj with hj; simp only at hj; omega)
theorem infc_trans:(Tryz.prog.info? 62).map (fun i => (i.zero,i.size,i.bytes)) = some (some (.agg #[.string ByteArray.empty,.slice none 0 0,.slice none 0 0,.string ByteArray.empty]),4,80):=by kernel_rfl
set_option maxRecDepth 100000 in
set_option maxHeartbeats 2000000 in
theorem clone_trans (v:Value) (n:Nat) (xs:List Value) (w:World) (h:Rdk 4 w v n xs) (h1:∀ u ∈ xs,u.oneCell' = true) (hm:n ≤ 1000000):Calls Tryz.prog 49 #[v] w (RetRw 62 4 w n xs):=by
 obtain ⟨i0,hi,hz0,hz1,hz2⟩:=info_parts infc_trans
 have HI:=Lib.hid (And.intro hi (And.intro hz0 (And.intro hz1 hz2)))
 have HR:=Lib.hid h
 have H1:=Lib.hid h1
 obtain ⟨A,c,rfl,hc,hl,hA⟩:=h
 have q22:∀ (w:World) (a:Option Addr) (n c n' c':Nat),(binOp .eql 56 (.slice a n c) (.slice none n' c')).run Tryz.prog w = .ok (.bool a.isNone) w:=fun w a n c n' c' => Lib.run_eql_slice_nil w _ _ a n c n' c' Tryz.underlying56
 rcases A with _ | a
 ·have h0:n = 0:=by
   rcases Nat.eq_zero_or_pos n with h0 | h0
   ·exact h0
   ·obtain ⟨b,off,hb,-⟩:=hA h0
    cases hb
  subst h0
  obtain rfl:xs = []:=List.eq_nil_of_length_eq_zero (by omega)
  clear h1 hA hl hc hi hz0 hz1 hz2
  go_enter Tryz.func49,Tryz.ntmps49
  go_wp2
  go_ret
  exact ⟨none,0,rfl,World.ownsRow_nil _ _ _ _,Below.refl _ _⟩
 ·have HL1:Hid (0 + n ≤ maxLen):=Lib.hid (by simp only [maxLen]; omega)
  have HL2:Hid ((0 + n) * 80 ≤ 140737488355328):=Lib.hid (by omega)
  clear h1 hA hl hc hi hz0 hz1 hz2 hm
  go_enter Tryz.func49,Tryz.ntmps49
  go_wp2_with (at_builtin; refine wpList_append_rdk _ rfl (.tmp 5) (.tmp 6) _ rfl w.heap.size 62 i0 (.agg #[.string ByteArray.empty,.slice none 0 0,.slice none 0 0,.string ByteArray.empty]) 4 80 Tryz.underlying56 HI.out.1 HI.out.2.1 HI.out.2.2.1 HI.out.2.2.2 rfl (by decide) _ 0 [] rfl (World.ownsRow_lit w #[] 0 (Nat.le_refl _) (Nat.zero_le _) rfl) _ n xs rfl (HR.out.alloc _) H1.out HL1.out HL2.out (KitC.below_one w _).size ?_; intro p2 w6 hrow2 hg2 hob; have HR2:=Lib.hid hrow2; have HG2:=Lib.hid hg2; clear hrow2 hg2 hob)
  go_ret
  have hrow:=HR2.out
  rw [Nat.zero_add,List.nil_append] at hrow
  obtain ⟨A',c',rfl⟩:=own_shape hrow
  refine ⟨A',c',rfl,hrow,?_⟩
  exact (KitC.below_one w _).grown HG2.out (KitC.below_one w _).size (fun j hj => by injection hj with hj; simp only at hj; omega)
theorem infc_term:(Tryz.prog.info? 100).map (fun i => (i.zero,i.size,i.bytes)) = some (some (.agg #[.int .i64 0,.int .i64 0,.string ByteArray.empty]),3,32):=by kernel_rfl
set_option maxRecDepth 100000 in
set_option maxHeartbeats 2000000 in
theorem clone_term (v:Value) (n:Nat) (xs:List Value) (w:World) (h:Rdk 3 w v n xs) (h1:∀ u ∈ xs,u.oneCell' = true) (hm:n ≤ 1000000):Calls Tryz.prog 50 #[v] w (RetRw 100 3 w n xs):=by
 obtain ⟨i0,hi,hz0,hz1,hz2⟩:=info_parts infc_term
 have HI:=Lib.hid (And.intro hi (And.intro hz0 (And.intro hz1 hz2)))
 have HR:=Lib.hid h
 have H1:=Lib.hid h1
 obtain ⟨A,c,rfl,hc,hl,hA⟩:=h
 have q22:∀ (w:World) (a:Option Addr) (n c n' c':Nat),(binOp .eql 60 (.slice a n c) (.slice none n' c')).run Tryz.prog w = .ok (.bool a.isNone) w:=fun w a n c n' c' => Lib.run_eql_slice_nil w _ _ a n c n' c' Tryz.underlying60
 rcases A with _ | a
 ·have h0:n = 0:=by
   rcases Nat.eq_zero_or_pos n with h0 | h0
   ·exact h0
   ·obtain ⟨b,off,hb,-⟩:=hA h0
    cases hb
  subst h0
  obtain rfl:xs = []:=List.eq_nil_of_length_eq_zero (by omega)
  clear h1 hA hl hc hi hz0 hz1 hz2
  go_enter Tryz.func50,Tryz.ntmps50
  go_wp2
  go_ret
  exact ⟨none,0,rfl,World.ownsRow_nil _ _ _ _,Below.refl _ _⟩
 ·have HL1:Hid (0 + n ≤ maxLen):=Lib.hid (by simp only [maxLen]; omega)
  have HL2:Hid ((0 + n) * 32 ≤ 140737488355328):=Lib.hid (by omega)
  clear h1 hA hl hc hi hz0 hz1 hz2 hm
  go_enter Tryz.func50,Tryz.ntmps50
  go_wp2_with (at_builtin; refine wpList_append_rdk _ rfl (.tmp 5) (.tmp 6) _ rfl w.heap.size 100 i0 (.agg #[.int .i64 0,.int .i64 0,.string ByteArray.empty]) 3 32 Tryz.underlying60 HI.out.1 HI.out.2.1 HI.out.2.2.1 HI.out.2.2.2 rfl (by decide) _ 0 [] rfl (World.ownsRow_lit w #[] 0 (Nat.le_refl _) (Nat.zero_le _) rfl) _ n xs rfl (HR.out.alloc _) H1.out HL1.out HL2.out (KitC.below_one w _).size ?_; intro p2 w6 hrow2 hg2 hob; have HR2:=Lib.hid hrow2; have HG2:=Lib.hid hg2; clear hrow2 hg2 hob)
  go_ret
  have hrow:=HR2.out
  rw [Nat.zero_add,List.nil_append] at hrow
  obtain ⟨A',c',rfl⟩:=own_shape hrow
  refine ⟨A',c',rfl,hrow,?_⟩
  exact (KitC.below_one w _).grown HG2.out (KitC.below_one w _).size (fun j hj => by injection hj with hj; simp only at hj; omega)
theorem infc_act:(Tryz.prog.info? 98).map (fun i => (i.zero,i.size,i.bytes)) = some (some (.agg #[.string ByteArray.empty,.bool false,.slice none 0 0]),3,48):=by kernel_rfl
set_option maxRecDepth 100000 in
set_option maxHeartbeats 2000000 in
theorem clone_act (v:Value) (n:Nat) (xs:List Value) (w:World) (h:Rdk 3 w v n xs) (h1:∀ u ∈ xs,u.oneCell' = true) (hm:n ≤ 1000000):Calls Tryz.prog 70 #[v] w (RetRw 98 3 w n xs):=by
 obtain ⟨i0,hi,hz0,hz1,hz2⟩:=info_parts infc_act
 have HI:=Lib.hid (And.intro hi (And.intro hz0 (And.intro hz1 hz2)))
 have HR:=Lib.hid h
 have H1:=Lib.hid h1
 obtain ⟨A,c,rfl,hc,hl,hA⟩:=h
 have q22:∀ (w:World) (a:Option Addr) (n c n' c':Nat),(binOp .eql 55 (.slice a n c) (.slice none n' c')).run Tryz.prog w = .ok (.bool a.isNone) w:=fun w a n c n' c' => Lib.run_eql_slice_nil w _ _ a n c n' c' Tryz.underlying55
 rcases A with _ | a
 ·have h0:n = 0:=by
   rcases Nat.eq_zero_or_pos n with h0 | h0
   ·exact h0
   ·obtain ⟨b,off,hb,-⟩:=hA h0
    cases hb
  subst h0
  obtain rfl:xs = []:=List.eq_nil_of_length_eq_zero (by omega)
  clear h1 hA hl hc hi hz0 hz1 hz2
  go_enter Tryz.func70,Tryz.ntmps70
  go_wp2
  go_ret
  exact ⟨none,0,rfl,World.ownsRow_nil _ _ _ _,Below.refl _ _⟩
 ·have HL1:Hid (0 + n ≤ maxLen):=Lib.hid (by simp only [maxLen]; omega)
  have HL2:Hid ((0 + n) * 48 ≤ 140737488355328):=Lib.hid (by omega)
  clear h1 hA hl hc hi hz0 hz1 hz2 hm
  go_enter Tryz.func70,Tryz.ntmps70
  go_wp2_with (at_builtin; refine wpList_append_rdk _ rfl (.tmp 5) (.tmp 6) _ rfl w.heap.size 98 i0 (.agg #[.string ByteArray.empty,.bool false,.slice none 0 0]) 3 48 Tryz.underlying55 HI.out.1 HI.out.2.1 HI.out.2.2.1 HI.out.2.2.2 rfl (by decide) _ 0 [] rfl (World.ownsRow_lit w #[] 0 (Nat.le_refl _) (Nat.zero_le _) rfl) _ n xs rfl (HR.out.alloc _) H1.out HL1.out HL2.out (KitC.below_one w _).size ?_; intro p2 w6 hrow2 hg2 hob; have HR2:=Lib.hid hrow2; have HG2:=Lib.hid hg2; clear hrow2 hg2 hob)
  go_ret
  have hrow:=HR2.out
  rw [Nat.zero_add,List.nil_append] at hrow
  obtain ⟨A',c',rfl⟩:=own_shape hrow
  refine ⟨A',c',rfl,hrow,?_⟩
  exact (KitC.below_one w _).grown HG2.out (KitC.below_one w _).size (fun j hj => by injection hj with hj; simp only at hj; omega)
end Go.Proofs.YtckojimeglkobaaGreatDoor
namespace Go.Proofs.YtckojimeglkobaaGreatDoor
open Go.RowKit TermSpec EvalSpec ActSpec NamesSpec ExprSpec TransSpec SynSpec CurSpec
set_option maxRecDepth 100000
abbrev acN (p:AP) (w:World):Prop:=Tms w (.slice p.xA p.xn p.xc) p.a.x
abbrev MixA (N:Nat) (wr:World) (pv:Value) (ps:List AP) (m:Nat):Prop:=MixR 98 3 acV acN N wr pv ps m
def CaRel (w:World) (l:List Ac) (A:Option Addr) (n c:Nat) (i:Value) (wr:World):Prop :=
 ∃ (k:Nat) (ps:List AP),k ≤ n ∧ i = .int .i64 k ∧ ps.map (·.a) = l ∧ Hid (MixA w.heap.size wr (.slice A n c) ps k) ∧ Hid (Below w.heap.size w wr)
set_option maxRecDepth 100000 in
set_option maxHeartbeats 4000000 in
theorem copiedActs_any (v:Value) (l:List Ac) (w:World) (h:Acs w v l) (hm:l.length ≤ 1000000) (hx:∀ a ∈ l,a.x.length ≤ 1000000) :
 Calls Tryz.prog 48 #[v] w (RetCp (fun x v => Acs x v l) w l.length):=by
 obtain ⟨ps0,hps,hr,hx0⟩:=h
 obtain ⟨n,hn⟩:∃ n,n = l.length:=⟨_,rfl⟩
 rw [← hn] at hr hm ⊢
 have hpn:ps0.length = n:=by rw [hn,← hps,List.length_map]
 have HCL:=Lib.hid (clone_act v n (acsV ps0) w hr (acsV_one ps0) hm)
 have H0:=Lib.hid (fun p (hp:p ∈ ps0) => tms_here (hx0 p hp))
 have HX:=Lib.hid hx
 have HP:=Lib.hid hps
 have HPN:=Lib.hid hpn
 have HN:=Lib.hid hn
 clear hr hx0 hx hps hpn hn
 go_enter Tryz.func48,Tryz.ntmps48
 go_wp2_with (go_at_call 70; go_fit HCL.out)
 rintro e w1 ⟨A1,c1,rfl,hown,hb1⟩
 have HS:Hid (MixA w.heap.size w1 (.slice A1 n c1) ps0 0):=Lib.hid (MixR.start hb1 (by rw [HPN.out]; exact hown) H0.out)
 have HB1:=Lib.hid hb1
 clear hown hb1
 go_wp2_with fail
 go_loopw [8] (fun i wr => CaRel w l A1 n c1 i wr) (fun i _ => n - (intOf i).toNat)
 case atStart => exact ⟨0,ps0,Nat.zero_le _,rfl,HP.out,HS,HB1⟩
 case round =>
  obtain ⟨k,ps,hk,rfl,hps,HM,HB⟩:=hrel
  have hpn:ps.length = n:=by rw [HN.out,← hps,List.length_map]
  by_cases hlt:k < n
  case neg =>
   obtain rfl:k = n:=by omega
   go_wp2_with fail
   go_ret
   exact ⟨A1,c1,rfl,(MixR.far HM.out (Nat.le_of_eq hpn)).imp fun x g => ⟨ps,hps,by rw [HN.out,← hps,List.length_map] at *; exact hpn ▸ g.1,g.2⟩,HB.out⟩
  obtain ⟨⟨a,xA,xn,xc⟩,hp⟩:∃ p,ps[k]? = some p:=get_some (by omega)
  obtain ⟨g,cap,heq,hcap⟩:=own_at HM.out.own (by omega)
  rw [hpn] at heq
  cases heq
  have hal:a ∈ l:=by rw [← hps]; exact List.mem_map.2 ⟨_,List.mem_of_getElem? hp,rfl⟩
  obtain ⟨hxn,hr⟩:=tms_rdk (HM.out.now hp)
  have HT:Hid (Rdk 3 wr (.slice xA xn xc) xn (tmsV a.x)):=Lib.hid hr
  have HXN:Hid (xn ≤ 1000000):=Lib.hid (by have:=HX.out a hal; simp only at hxn; omega)
  have HXL:Hid (xn = a.x.length):=Lib.hid hxn
  have HPS:=Lib.hid hps
  have HPN2:=Lib.hid hpn
  have HPK:=Lib.hid hp
  obtain ⟨-,hcells,hg1,hg2⟩:=MixR.cells HM.out hpn
  have c2:wr.cell? ⟨g,k * 3 + 2,none⟩ = some (.slice xA xn xc):=hcells _ _ (acsV_get hp).2.2
  have HG:=Lib.hid (And.intro hg1 hg2)
  clear hcells hxn hr hal hps hpn hp hg1
  go_wp2_with (go_at_call 50; go_fit (clone_term _ _ _ _ HT.out (tmsV_one _) HXN.out))
  rintro e w5 ⟨A5,c5,rfl,hown5,hb5⟩
  have HM5:=Lib.hid (HM.out.keep hb5)
  have HB5:=Lib.hid (below_two' HB.out hb5)
  have HO5:=Lib.hid hown5
  obtain ⟨⟨cur,hcur⟩,hcells,-,-⟩:=MixR.cells HM5.out HPN2.out
  have hz5:=HB5.out.size
  have c2':w5.cell? ⟨g,k * 3 + 2,none⟩ = some (.slice xA xn xc):=hcells _ _ (acsV_get HPK.out).2.2
  have f2':w5.frozen? ⟨g,k * 3 + 2,none⟩ = false:=free_of_block' hcur _
  clear hcells hcur hown5 hb5 c2
  go_wp2_with fail
  go_roundw
  case rel =>
   refine ⟨k + 1,ps.set k ⟨a,A5,xn,c5⟩,hlt,by go_num,?_,Lib.hid ?_,Lib.hid ?_⟩
   ·exact (map_same (a':=⟨a,A5,xn,c5⟩) HPK.out rfl).trans HPS.out
   ·refine MixR.set HM5.out HPN2.out acV_length HPK.out (by decide) rfl (fun q h1 h2 => by omega) ?_
    exact (dep_new HO5.out (Nat.le_trans HG.out.1 (Nat.le_of_lt HG.out.2)) HG.out.2).imp fun _ g => ⟨_,HXL.out,g⟩
   ·exact HB5.out.setCell HG.out.1 _
  case measure => simp [intOf]; omega
end Go.Proofs.YtckojimeglkobaaGreatDoor