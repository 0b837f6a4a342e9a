/- KitB, NamesPlace, Posts, TermMem, ExprInsert, joined. -/
import Derived.Test.YtjfghaohogcfbaaGreatDoorMFormatSame01
import Derived.LoopTactic
import Derived.Test.YtjfghaohogcfbaaGreatDoorRows
import Derived.Test.YtjfghaohogcfbaaGreatDoorShelf
import Derived.Test.YtjfghaohogcfbaaGreatDoorMFormatSame00
import Derived.BigQuiet
import Derived.Deep.QuietTactic
import Derived.Lib.Overlaps
import Derived.Lib.AppendZerosOnto
import Derived.Laws.CopyRow
import Derived.Shelf.Spec.SlicesInsert
namespace Go.Proofs.YtjfghaohogcfbaaGreatDoor
open Go.RowKit
theorem cell_of_block' {w:World} {b:Nat} {cs:Array Value} {t:TypeId} (h:w.heap[b]? = some (.cells cs t (0,0))) {i:Nat} {v:Value} (hi:cs[i]? = some v):w.cell? ⟨b,i,none⟩ = some v:=by simp [World.cell?,h,hi]
theorem free_of_block' {w:World} {b:Nat} {cs:Array Value} {t:TypeId} (h:w.heap[b]? = some (.cells cs t (0,0))) (i:Nat):w.frozen? ⟨b,i,none⟩ = false:=by simp [World.frozen?,h]
theorem block_setCell' {w:World} {b:Nat} {cs:Array Value} {t:TypeId} (h:w.heap[b]? = some (.cells cs t (0,0))) (i:Nat) (u:Value):(w.setCell ⟨b,i,none⟩ u).heap[b]? = some (.cells (cs.setIfInBounds i u) t (0,0)):=by
 have hlt:=(Array.getElem?_eq_some_iff.1 h).1
 have h':w.heap[b] = .cells cs t (0,0):=by simpa [Array.getElem?_eq_getElem hlt] using h
 show (w.heap.modify b _)[b]? = _
 rw [Array.getElem?_eq_getElem (by simpa using hlt),Array.getElem_modify_self,h']
 rfl
theorem but_refl (w:World) (v:Option Nat):w.grownBy w v:=⟨rfl,rfl,rfl,Nat.le_refl _,fun _ _ _ => rfl⟩
theorem but_trans {a b c:World} {B:Nat} (h:a.grownBy b (some B)) (k:b.grownBy c (some B)):a.grownBy c (some B) :=
 ⟨k.os.trans h.os,k.tape.trans h.tape,k.output.trans h.output,Nat.le_trans h.size k.size,fun i hi hn => (k.block i (Nat.lt_of_lt_of_le hi h.size) hn).trans (h.block i hi hn)⟩
theorem but_set {a b:World} {B:Nat} (h:a.grownBy b (some B)) (i:Nat) (u:Value):a.grownBy (b.setCell ⟨B,i,none⟩ u) (some B) :=
 but_trans h ⟨rfl,rfl,rfl,by simp [World.setCell],fun k _ hn => Below.heap_setCell _ _ _ _ (by intro e; exact hn (by rw [e]))⟩
theorem but_set_new {a b:World} {B:Nat} (h:a.grownBy b (some B)) {k:Nat} (hk:a.heap.size ≤ k) (i:Nat) (u:Value):a.grownBy (b.setCell ⟨k,i,none⟩ u) (some B) :=
 ⟨h.os,h.tape,h.output,by simp [World.setCell]; exact h.size,fun j hj hn => (Below.heap_setCell _ _ _ _ (by simp; omega)).trans (h.block j hj hn)⟩
theorem but_alloc {a b:World} {B:Nat} (h:a.grownBy b (some B)) (o:Obj):a.grownBy (b.alloc o) (some B) :=
 ⟨h.os,h.tape,h.output,by simp; exact Nat.le_succ_of_le h.size,fun j hj hn => (Below.heap_alloc _ _ _ (Nat.lt_of_lt_of_le hj h.size)).trans (h.block j hj hn)⟩
theorem but_drew {a b:World} {B:Nat} (h:a.grownBy b (some B)):a.grownBy b.drew (some B):=⟨h.os,h.tape,h.output,h.size,h.block⟩
theorem but_from {w w':World} {B:Nat} {o:Obj} (h:(w.alloc o).grownBy w' (some B)):w.grownBy w' (some B) :=
 ⟨h.os,h.tape,h.output,Nat.le_trans (Nat.le_succ _) (by have:=h.size; rwa [World.size_alloc] at this),fun j hj hn => (h.block j (by rw [World.size_alloc]; omega) hn).trans (heap_alloc_old _ _ hj)⟩
theorem own_keep {w w':World} {base n k:Nat} {e:TypeId} {v:Value} {xs:List Value} (h:w.ownsRow base e k v n xs) (hb:Below w.heap.size w w'):w'.ownsRow base e k v n xs:=by
 refine ⟨h.1,?_⟩
 rcases h.2 with h | ⟨g,cap,cur,h1,h2,h3,h4⟩
 ·exact .inl h
 ·exact .inr ⟨g,cap,cur,h1,h2,(hb.block g (Array.getElem?_eq_some_iff.1 h3).1).trans h3,h4⟩
theorem store_pair {w:World} {b:Nat} {T:TypeId} {x y:Value} (h:w.heap[b]? = some (.cells #[x,y] T (0,0))) (u v:Value) :
 (w.setCell ⟨b,0,none⟩ u).cell? ⟨b,0,none⟩ = some u ∧ ((w.setCell ⟨b,0,none⟩ u).setCell ⟨b,1,none⟩ v).cell? ⟨b,1,none⟩ = some v :=
 ⟨cell_of_block' (block_setCell' h 0 u) (i:=0) rfl,cell_of_block' (block_setCell' (block_setCell' h 0 u) 1 v) (i:=1) rfl⟩
theorem store_four {w:World} {b:Nat} {T:TypeId} {x y z t:Value} (h:w.heap[b]? = some (.cells #[x,y,z,t] T (0,0))) (u0 u1 u2 u3:Value) :
 (w.setCell ⟨b,0,none⟩ u0).cell? ⟨b,0,none⟩ = some u0 ∧ ((w.setCell ⟨b,0,none⟩ u0).setCell ⟨b,1,none⟩ u1).cell? ⟨b,1,none⟩ = some u1 ∧
 (((w.setCell ⟨b,0,none⟩ u0).setCell ⟨b,1,none⟩ u1).setCell ⟨b,2,none⟩ u2).cell? ⟨b,2,none⟩ = some u2 ∧
 ((((w.setCell ⟨b,0,none⟩ u0).setCell ⟨b,1,none⟩ u1).setCell ⟨b,2,none⟩ u2).setCell ⟨b,3,none⟩ u3).cell? ⟨b,3,none⟩ = some u3 :=
 ⟨cell_of_block' (block_setCell' h 0 u0) (i:=0) rfl,cell_of_block' (block_setCell' (block_setCell' h 0 u0) 1 u1) (i:=1) rfl,
  cell_of_block' (block_setCell' (block_setCell' (block_setCell' h 0 u0) 1 u1) 2 u2) (i:=2) rfl,
  cell_of_block' (block_setCell' (block_setCell' (block_setCell' (block_setCell' h 0 u0) 1 u1) 2 u2) 3 u3) (i:=3) rfl⟩
theorem own_but {w w':World} {base n k B:Nat} {e:TypeId} {v:Value} {xs:List Value} (h:w.ownsRow base e k v n xs) (hb:w.grownBy w' (some B)) (hB:B < base):w'.ownsRow base e k v n xs:=by
 refine ⟨h.1,?_⟩
 rcases h.2 with h | ⟨g,cap,cur,h1,h2,h3,h4⟩
 ·exact .inl h
 ·exact .inr ⟨g,cap,cur,h1,h2,(hb.block g (Array.getElem?_eq_some_iff.1 h3).1 (by simp; omega)).trans h3,h4⟩
theorem own_shape {w:World} {base n k:Nat} {e:TypeId} {v:Value} {xs:List Value} (h:w.ownsRow base e k v n xs):∃ A c,v = .slice A n c:=by
 rcases h.2 with ⟨h1,h2⟩ | ⟨g,cap,cur,h1,_⟩
 ·subst h2
  exact ⟨_,_,h1⟩
 ·exact ⟨_,_,h1⟩
theorem own_weak {w:World} {base base' n k:Nat} {e:TypeId} {v:Value} {xs:List Value} (h:w.ownsRow base e k v n xs) (hb:base' ≤ base):w.ownsRow base' e k v n xs:=by
 refine ⟨h.1,?_⟩
 rcases h.2 with h | ⟨g,cap,cur,h1,h2,h3⟩
 ·exact .inl h
 ·exact .inr ⟨g,cap,cur,h1,by omega,h3⟩
theorem own_block_bd {w:World} {base n k:Nat} {e:TypeId} {v:Value} {xs:List Value} (h:w.ownsRow base e k v n xs):∀ j,v.ownBlock = some j → base ≤ j ∧ j < w.heap.size:=by
 intro j hj
 rcases h.2 with ⟨h1,h2⟩ | ⟨g,cap,cur,h1,h2,h3,h4⟩
 ·subst h1; simp [Value.ownBlock] at hj
 ·subst h1
  simp [Value.ownBlock] at hj
  subst hj
  exact ⟨h2,(Array.getElem?_eq_some_iff.1 h3).1⟩
theorem cells_2 {w:World} {b:Nat} {T:TypeId} {x0 x1:Value} (h:w.heap[b]? = some (.cells #[x0,x1] T (0,0))):w.cell? ⟨b,0,none⟩ = some x0 ∧ w.cell? ⟨b,1,none⟩ = some x1 :=
 ⟨cell_of_block' h (i:=0) rfl,cell_of_block' h (i:=1) rfl⟩
theorem free_2 {w:World} {b:Nat} {T:TypeId} {cs:Array Value} (h:w.heap[b]? = some (.cells cs T (0,0))):w.frozen? ⟨b,0,none⟩ = false ∧ w.frozen? ⟨b,1,none⟩ = false :=
 ⟨free_of_block' h 0,free_of_block' h 1⟩
theorem cells_4 {w:World} {b:Nat} {T:TypeId} {x0 x1 x2 x3:Value} (h:w.heap[b]? = some (.cells #[x0,x1,x2,x3] T (0,0))):w.cell? ⟨b,0,none⟩ = some x0 ∧ w.cell? ⟨b,1,none⟩ = some x1 ∧ w.cell? ⟨b,2,none⟩ = some x2 ∧ w.cell? ⟨b,3,none⟩ = some x3 :=
 ⟨cell_of_block' h (i:=0) rfl,cell_of_block' h (i:=1) rfl,cell_of_block' h (i:=2) rfl,cell_of_block' h (i:=3) rfl⟩
theorem free_4 {w:World} {b:Nat} {T:TypeId} {cs:Array Value} (h:w.heap[b]? = some (.cells cs T (0,0))):w.frozen? ⟨b,0,none⟩ = false ∧ w.frozen? ⟨b,1,none⟩ = false ∧ w.frozen? ⟨b,2,none⟩ = false ∧ w.frozen? ⟨b,3,none⟩ = false :=
 ⟨free_of_block' h 0,free_of_block' h 1,free_of_block' h 2,free_of_block' h 3⟩
theorem cells_6 {w:World} {b:Nat} {T:TypeId} {x0 x1 x2 x3 x4 x5:Value} (h:w.heap[b]? = some (.cells #[x0,x1,x2,x3,x4,x5] T (0,0))):w.cell? ⟨b,0,none⟩ = some x0 ∧ w.cell? ⟨b,1,none⟩ = some x1 ∧ w.cell? ⟨b,2,none⟩ = some x2 ∧ w.cell? ⟨b,3,none⟩ = some x3 ∧ w.cell? ⟨b,4,none⟩ = some x4 ∧ w.cell? ⟨b,5,none⟩ = some x5 :=
 ⟨cell_of_block' h (i:=0) rfl,cell_of_block' h (i:=1) rfl,cell_of_block' h (i:=2) rfl,cell_of_block' h (i:=3) rfl,cell_of_block' h (i:=4) rfl,cell_of_block' h (i:=5) rfl⟩
theorem free_6 {w:World} {b:Nat} {T:TypeId} {cs:Array Value} (h:w.heap[b]? = some (.cells cs T (0,0))):w.frozen? ⟨b,0,none⟩ = false ∧ w.frozen? ⟨b,1,none⟩ = false ∧ w.frozen? ⟨b,2,none⟩ = false ∧ w.frozen? ⟨b,3,none⟩ = false ∧ w.frozen? ⟨b,4,none⟩ = false ∧ w.frozen? ⟨b,5,none⟩ = false :=
 ⟨free_of_block' h 0,free_of_block' h 1,free_of_block' h 2,free_of_block' h 3,free_of_block' h 4,free_of_block' h 5⟩
end Go.Proofs.YtjfghaohogcfbaaGreatDoor
namespace Go.Proofs.YtjfghaohogcfbaaGreatDoor
open Go.RowKit NamesSpec Go.Lib
set_option maxRecDepth 100000
def RetInts (W:World) (l:List Int) (e:Ending) (w':World):Prop:=∃ v,e = .returned v ∧ Rd w' v (intV l) ∧ Below W.heap.size W w'
def PlaceRel (l:List ByteArray) (n:Nat) (s:ByteArray) (i:Value):Prop:=∃ k:Nat,k ≤ n ∧ i = .int .i64 k ∧ s ∉ l.take k
set_option maxHeartbeats 400000 in
theorem rplace_any (v:Value) (l:List ByteArray) (s:ByteArray) (w:World) (h:Rd w v (strV l)) (hm:l.length ≤ 9223372036854775807) :
 Calls Tryz.prog 59 #[v,.string s] w fun e w' => e = .returned (.int .i64 (idxOfS l s)) ∧ w = w':=by
 obtain ⟨A,n,c,rfl,hn,hc,hA⟩:=h.strs
 have HA:=Lib.hid hA
 have HN:=Lib.hid hn
 have hm':n ≤ 9223372036854775807:=by omega
 clear hA hn h hc hm
 go_enter Tryz.func59,Tryz.ntmps59
 go_wp2
 go_loop [5] (fun i => PlaceRel l n s i) (fun i => n - (RowKit.intOf i).toNat)
 case atStart => exact ⟨0,Nat.zero_le _,rfl,by simp⟩
 case round =>
  obtain ⟨k,hk,rfl,hno⟩:=hrel
  by_cases hlt:k < n
  ·obtain ⟨b,off,rfl,hb,hcell⟩:=HA.out (by omega)
   obtain ⟨x,hx⟩:∃ x,l[k]? = some x:=get_some (by have:=HN.out; omega)
   have hck:=hcell k x hx
   have HX:=Lib.hid hx
   have HO:=Lib.hid hno
   clear hcell hx hno
   rcases hxs:(x.toList == s.toList) with _ | _
   ·go_wp2
    go_round
    case rel =>
     refine ⟨k + 1,by omega,by go_num,?_⟩
     rw [take_next HX.out,List.mem_append,List.mem_singleton]
     rintro (h1 | h1)
     ·exact HO.out h1
     ·exact bytes_ne hxs h1.symm
    case measure => simp [RowKit.intOf]; omega
   ·go_wp2
    go_ret
    exact ⟨ret_int (by rw [← bytes_eq hxs] at HO ⊢; exact (place_hit HX.out HO.out).symm),rfl⟩
  ·go_wp2
   go_ret
   have:=HN.out
   exact ⟨ret_int (by rw [List.take_of_length_le (by omega)] at hno; exact (place_miss hno).symm),rfl⟩
def longB (l:List ByteArray) (m:Int):Bool:=l.any fun s => decide (m < (s.size:Int))
def sameS (a b:List ByteArray):Bool:=decide (a = b)
theorem same_step {α:Type} {a b:List α} {k:Nat} {x y:α} (h:a.take k = b.take k) (hx:a[k]? = some x) (hy:b[k]? = some y):a.take (k + 1) = b.take (k + 1) ↔ x = y:=by
 rw [take_next hx,take_next hy,h]; simp
theorem same_ne {α:Type} {a b:List α} {k:Nat} {x y:α} (hx:a[k]? = some x) (hy:b[k]? = some y) (h:x ≠ y):a ≠ b:=by
 rintro rfl
 rw [hx] at hy
 exact h (by injection hy)
def SameRel {α:Type} (W:World) (a b:List α) (n:Nat) (i:Value) (w:World):Prop:=∃ (k q:Nat),k ≤ n ∧ i = .int .i64 k ∧ a.take k = b.take k ∧ w = W.drewN q
def BoolQuiet (W:World) (b:Bool) (e:Ending) (w':World):Prop:=e = .returned (.bool b) ∧ ∃ q,w' = W.drewN q
theorem BoolQuiet.below {W:World} {b:Bool} {e:Ending} {w':World} (h:BoolQuiet W b e w'):e = .returned (.bool b) ∧ Below W.heap.size W w':=by
 obtain ⟨rfl,q,rfl⟩:=h
 exact ⟨rfl,below_drewN (Below.refl _ _) q⟩
set_option maxHeartbeats 800000 in
theorem texts_any (v u:Value) (a b:List ByteArray) (w:World) (h:Rd w v (strV a)) (h':Rd w u (strV b)) (hm:a.length ≤ 9223372036854775807) :
 Calls Tryz.prog 27 #[v,u] w (BoolQuiet w (sameS a b)):=by
 obtain ⟨A,n,c,rfl,hn,hc,hA⟩:=h.strs
 obtain ⟨B,m,d,rfl,hn',hd,hB⟩:=h'.strs
 have HA:=Lib.hid hA
 have HB:=Lib.hid hB
 have hm':n ≤ 9223372036854775807:=by omega
 by_cases hnm:n = m
 ·subst hnm
  have HN:=Lib.hid hn
  have HN':=Lib.hid hn'
  clear hA hn h hc hm hB hn' h' hd
  go_enter Tryz.func27,Tryz.ntmps27
  go_wp2
  go_loopw [5] (fun i wr => SameRel w a b n i wr) (fun i _ => n - (RowKit.intOf i).toNat)
  case atStart => exact ⟨0,0,Nat.zero_le _,rfl,by simp,rfl⟩
  case round =>
   obtain ⟨k,q,hk,rfl,hsm,rfl⟩:=hrel
   by_cases hlt:k < n
   ·obtain ⟨b1,off1,rfl,hb1,hcell1⟩:=HA.out (by omega)
    obtain ⟨b2,off2,rfl,hb2,hcell2⟩:=HB.out (by omega)
    obtain ⟨x,hx⟩:∃ x,a[k]? = some x:=get_some (by have:=HN.out; omega)
    obtain ⟨y,hy⟩:∃ y,b[k]? = some y:=get_some (by have:=HN'.out; omega)
    have hck1:=hcell1 k x hx
    have hck2:=hcell2 k y hy
    have hltI:(k:Int) < (n:Int):=by omega
    have HX:=Lib.hid hx
    have HY:=Lib.hid hy
    have HS:=Lib.hid hsm
    clear hcell1 hcell2 hx hy hsm
    rcases hxy:(x.toList == y.toList) with _ | _
    ·have hxy':(x.toList != y.toList) = true:=by simp [bne,hxy]
     go_wp2
     go_quiet (fail)
     go_wp2
     go_ret
     exact ⟨ret_bool (by unfold sameS; exact (decide_eq_false (same_ne HX.out HY.out (bytes_ne hxy))).symm),_,World.drewN_drewN _ _ _⟩
    ·have hxy':(x.toList != y.toList) = false:=by simp [bne,hxy]
     go_wp2
     go_quiet (fail)
     go_wp2
     go_roundw
     case rel => exact ⟨k + 1,_,by omega,by go_num,(same_step HS.out HX.out HY.out).2 (bytes_eq hxy),rfl⟩
     case measure => simp [RowKit.intOf]; omega
   ·go_wp2
    go_ret
    have e1:=HN.out
    have e2:=HN'.out
    exact ⟨ret_bool (by rw [List.take_of_length_le (by omega),List.take_of_length_le (by omega)] at hsm; unfold sameS; exact (decide_eq_true hsm).symm),_,rfl⟩
 ·have HE:Hid (sameS a b = false):=Lib.hid (decide_eq_false (fun e => hnm (by rw [← hn,← hn',e])))
  have hne:¬ (n:Int) = (m:Int):=by omega
  clear hA hn h hc hm hB hn' h' hd HA HB
  go_enter Tryz.func27,Tryz.ntmps27
  go_wp2
  go_ret
  exact ⟨ret_bool HE.out.symm,0,rfl⟩
end Go.Proofs.YtjfghaohogcfbaaGreatDoor
namespace Go.Proofs.YtjfghaohogcfbaaGreatDoor
open Go.RowKit
def RetPP (W:World) (s:ByteArray) (er:Int) (e:Ending) (w':World):Prop:=e = .returned (.tuple #[.string s,.int .i64 er]) ∧ Below W.heap.size W w'
def RetI (W:World) (n:Int) (e:Ending) (w':World):Prop:=e = .returned (.int .i64 n) ∧ Below W.heap.size W w'
def RetB (W:World) (b:Bool) (e:Ending) (w':World):Prop:=e = .returned (.bool b) ∧ Below W.heap.size W w'
def SameI (W:World) (n:Int) (e:Ending) (w':World):Prop:=e = .returned (.int .i64 n) ∧ W = w'
def SameB (W:World) (b:Bool) (e:Ending) (w':World):Prop:=e = .returned (.bool b) ∧ W = w'
theorem lit_here {w:World} {cs:Array Value} {xs:List Value} {e:TypeId} {n k:Nat} (hk:k = w.heap.size) (hn:n = xs.length) (hx:cs.toList = xs):Rd (w.alloc (.cells cs e)) (.slice (some ⟨k,0,none⟩) n n) xs:=by
 subst hk; subst hx
 exact Rd.lit (by simpa using hn)
theorem undrawn {w w':World} (h:Below w.drew.heap.size w.drew w'):Below w.heap.size w w':=⟨h.os,h.tape,h.output,h.size,h.block⟩
end Go.Proofs.YtjfghaohogcfbaaGreatDoor
namespace Go.Proofs.YtjfghaohogcfbaaGreatDoor
open Go.RowKit TermSpec
set_option maxRecDepth 100000
def tmV (t:Tm):List Value:=[.int .i64 t.op,.int .i64 t.n,.string t.s]
def tmsV (l:List Tm):List Value:=l.flatMap tmV
theorem tmV_length (t:Tm):(tmV t).length = 3:=rfl
theorem tmsV_length (l:List Tm):(tmsV l).length = l.length * 3:=flat_length tmV_length l
theorem tmV_one (t:Tm):∀ u ∈ tmV t,u.oneCell' = true:=by simp [tmV,Value.oneCell']
theorem tmsV_one (l:List Tm):∀ u ∈ tmsV l,u.oneCell' = true:=by
 intro u hu
 obtain ⟨t,_,h⟩:=List.mem_flatMap.1 hu
 exact tmV_one t u h
theorem tmsV_get {l:List Tm} {i:Nat} {t:Tm} (h:l[i]? = some t):(tmsV l)[i * 3]? = some (.int .i64 t.op) ∧ (tmsV l)[i * 3 + 1]? = some (.int .i64 t.n) ∧ (tmsV l)[i * 3 + 2]? = some (.string t.s) :=
 ⟨flat_get (j:=0) tmV_length h (by omega),flat_get (j:=1) tmV_length h (by omega),flat_get (j:=2) tmV_length h (by omega)⟩
def Tms (w:World) (v:Value) (l:List Tm):Prop:=∃ n,n = l.length ∧ Rdk 3 w v n (tmsV l)
theorem Tms.keep {w w':World} {v:Value} {l:List Tm} (h:Tms w v l) (hb:Below w.heap.size w w'):Tms w' v l:=by
 obtain ⟨n,hn,h⟩:=h
 exact ⟨n,hn,h.keep hb⟩
theorem Tms.alloc {w:World} {v:Value} {l:List Tm} (h:Tms w v l) (o:Obj):Tms (w.alloc o) v l:=h.keep ((Below.refl _ _).alloc (Nat.le_refl _) _)
theorem Tms.shape {w:World} {v:Value} {l:List Tm} (h:Tms w v l):∃ A n c,v = .slice A n c ∧ n = l.length ∧ n ≤ c:=by
 obtain ⟨n,hn,A,c,hv,hc,_⟩:=h
 exact ⟨A,n,c,hv,hn,hc⟩
theorem Tms.cap {w:World} {A:Option Addr} {n c:Nat} {l:List Tm} (h:Tms w (.slice A n c) l):n ≤ c:=by
 obtain ⟨A',n',c',heq,_,hc⟩:=h.shape
 cases heq
 exact hc
theorem Tms.at_ {w:World} {A:Option Addr} {n c:Nat} {l:List Tm} {i:Nat} {t:Tm} (h:Tms w (.slice A n c) l) (hi:l[i]? = some t) :
 ∃ b off,A = some ⟨b,off,none⟩ ∧ b < w.heap.size ∧ w.cell? ⟨b,off + i * 3,none⟩ = some (.int .i64 t.op) ∧ w.cell? ⟨b,off + i * 3 + 1,none⟩ = some (.int .i64 t.n) ∧ w.cell? ⟨b,off + i * 3 + 2,none⟩ = some (.string t.s):=by
 obtain ⟨m,hm,A',c',heq,hc,hl,hA⟩:=h
 cases heq
 have:=get_lt hi
 obtain ⟨b,off,rfl,hb,hcell⟩:=hA (by omega)
 obtain ⟨g0,g1,g2⟩:=tmsV_get hi
 exact ⟨b,off,rfl,hb,hcell _ _ g0,by rw [Nat.add_assoc]; exact hcell _ _ g1,by rw [Nat.add_assoc]; exact hcell _ _ g2⟩
theorem tms_drop {l:List Tm} {k:Nat}:tmsV (l.drop k) = (tmsV l).drop (k * 3):=by
 induction l generalizing k with
 | nil => simp [tmsV]
 | cons t r ih =>
   cases k with
   | zero => simp
   | succ k =>
     rw [List.drop_succ_cons,ih,show tmsV (t :: r) = tmV t ++ tmsV r from List.flatMap_cons ..,show (k + 1) * 3 = 3 + k * 3 by omega,← List.drop_drop]
     rfl
theorem tms_take {l:List Tm} {k:Nat}:tmsV (l.take k) = (tmsV l).take (k * 3):=by
 induction l generalizing k with
 | nil => simp [tmsV]
 | cons t r ih =>
   cases k with
   | zero => simp [tmsV]
   | succ k =>
     rw [List.take_succ_cons,show tmsV (t :: r.take k) = tmV t ++ tmsV (r.take k) from List.flatMap_cons ..,ih,show tmsV (t :: r) = tmV t ++ tmsV r from List.flatMap_cons ..,show (k + 1) * 3 = 3 + k * 3 by omega,List.take_append,tmV_length]
     rw [show (tmV t).take (3 + k * 3) = tmV t from List.take_of_length_le (by rw [tmV_length]; omega),Nat.add_sub_cancel_left]
theorem Tms.part {w:World} {b off n c c' i j:Nat} {l:List Tm} (h:Tms w (.slice (some ⟨b,off,none⟩) n c) l) (hij:i ≤ j) (hj:j ≤ n) (hc:j - i ≤ c'):Tms w (.slice (some ⟨b,off + i * 3,none⟩) (j - i) c') ((l.drop i).take (j - i)):=by
 obtain ⟨m,hm,A',c2,heq,hcm,hl,hA⟩:=h
 cases heq
 refine ⟨j - i,by rw [List.length_take,List.length_drop]; omega,_,c',rfl,hc,by rw [tmsV_length,List.length_take,List.length_drop]; rw [show min (j - i) (l.length - i) = j - i by omega],fun h0 => ?_⟩
 obtain ⟨b',off',heq,hb,hcell⟩:=hA (by omega)
 cases heq
 refine ⟨b,off + i * 3,rfl,hb,fun q u hq => ?_⟩
 rw [tms_take,tms_drop] at hq
 have hq1:q < (j - i) * 3:=by have:=(List.getElem?_eq_some_iff.1 hq).1; rw [List.length_take] at this; omega
 rw [List.getElem?_take_of_lt hq1,List.getElem?_drop] at hq
 rw [Nat.add_assoc]
 exact hcell _ _ hq
theorem elem_tms:Tryz.prog.elem 63 = 105:=by kernel_rfl
def Small (l:List Tm):Prop:=∀ t ∈ l,t.s.size ≤ 9223372036854775807
end Go.Proofs.YtjfghaohogcfbaaGreatDoor
namespace Go.Proofs.YtjfghaohogcfbaaGreatDoor
open Go.RowKit TermSpec
set_option maxRecDepth 100000
theorem info_tm:(Tryz.prog.info? 105).map (fun i => (i.zero,i.size,i.bytes)) = some (some (.agg #[.int .i64 0,.int .i64 0,.string ByteArray.empty]),3,32):=by kernel_rfl
theorem run_copy_rowk {P:Program} (k:Nat) (w:World) (dT sT ty elem:TypeId) (g o dLen dCap:Nat) (a:Addr) (sLen sCap:Nat) (cur:Array Value) (t:TypeId) (cs:List Value)
 (hu:P.underlying dT = some (.slice elem)) (hs:(P.info? elem).map (·.size) = some k)
 (hg:w.heap[g]? = some (.cells cur t (0,0))) (hn:cs.length = Nat.min sLen dLen * k)
 (hsrc:∀ j v,cs[j]? = some v → w.cell? (a.add j) = some v) (hfit:o + cs.length ≤ cur.size) (h1:∀ v ∈ cs,v.oneCell' = true) :
 (Builtin.copy_ #[dT,sT] ty #[.slice (some ⟨g,o,none⟩) dLen dCap,.slice (some a) sLen sCap]).run P w =
   .ok (goInt (Nat.min sLen dLen)) (w.setRow g (cur.toList.take o ++ cs ++ cur.toList.drop (o + cs.length)).toArray):=by
 have hl:=run_loadCells_list (P:=P) w a cs hsrc
 have hst:=run_storeCells_at P g o t cs 0 cur w hg (by simpa using hfit) h1
 cases hq:P.info? elem with
 | none => simp [hq] at hs
 | some i =>
   have hi:i.size = k:=by simpa [hq] using hs
   simp [Builtin.copy_,run_underlying hu,Builtin.lenOf,Builtin.firstCells,sizeOf,typeInfo,hq,hi,← hn,hl,hst]
theorem slice_lo (a:Option Addr) (len cap lo:Nat) (li:Int) (hli:li = lo) (h1:lo ≤ len):∃ r,∀ W,(Instr.slice 63 (.slice a len cap) (some (.int .i64 li)) none none).run Tryz.prog W = .ok r W:=by
 refine ⟨sliced a lo len cap 3,fun W => ?_⟩
 rw [run_slice_l (P:=Tryz.prog) W 63 a len cap (by rw [elem_tms]; exact Tryz.underlying63) .i64 li (by omega) (by omega),elem_tms,Tryz.sizeOf105]
 subst hli
 rfl
theorem slice_at (g len cap lo:Nat) (li:Int) (hli:li = lo) (h1:lo ≤ len) (h2:lo < cap) (W:World):(Instr.slice 63 (.slice (some ⟨g,0,none⟩) len cap) (some (.int .i64 li)) none none).run Tryz.prog W = .ok (.slice (some ⟨g,lo * 3,none⟩) (len - lo) (cap - lo)) W:=by
 rw [run_slice_l (P:=Tryz.prog) W 63 _ len cap (by rw [elem_tms]; exact Tryz.underlying63) .i64 li (by omega) (by omega),elem_tms,Tryz.sizeOf105]
 subst hli
 simp [sliced,Result.andThen,addr_add]
 omega
theorem slice_up (g len cap hi:Nat) (h:Int) (hh:h = hi) (h2:hi ≤ cap) (_h0:0 < cap) (W:World):(Instr.slice 63 (.slice (some ⟨g,0,none⟩) len cap) none (some (.int .i64 h)) none).run Tryz.prog W = .ok (.slice (some ⟨g,0,none⟩) hi cap) W:=by
 rw [run_slice_h (P:=Tryz.prog) W 63 _ len cap (by rw [elem_tms]; exact Tryz.underlying63) .i64 h (by omega) (by omega),elem_tms,Tryz.sizeOf105]
 subst hh
 simp [sliced,Result.andThen,addr_add]
 try omega
def InsPost (W:World) (base:Nat) (v:Value) (n:Nat) (l:List Tm) (e:Ending) (w':World):Prop :=
 ∃ v',e = .returned v' ∧ w'.ownsRow base 105 3 v' n (tmsV l) ∧ W.grownBy w' v.ownBlock ∧ (v'.ownBlock = v.ownBlock ∨ v'.ownBlock = some W.heap.size)
theorem grow_setRow {w w':World} {g:Nat} (h:w.grownBy w' (some g)) (cs:Array Value):w.grownBy (w'.setRow g cs) (some g) :=
 ⟨h.os,h.tape,h.output,by simp [World.setRow]; exact h.size,fun i hi hn => by
  rw [← h.block i hi hn]
  unfold World.setRow
  simp only [Array.getElem?_modify]
  rw [if_neg (by intro e; exact hn (by rw [e]))]⟩
set_option maxHeartbeats 4000000 in
theorem insert_end (base:Nat) (v:Value) (n:Nat) (l:List Tm) (t:Tm) (vb:Nat) (w:World) (_hn:n = l.length) (h40:n ≤ 1000) (hown:w.ownsRow base 105 3 v n (tmsV l)) (hbase:base ≤ w.heap.size)
 (hvb:w.heap[vb]? = some (.cells #[.int .i64 t.op,.int .i64 t.n,.string t.s] 105 (0,0))) :
 Calls Tryz.prog 206 #[v,.int .i64 n,.slice (some ⟨vb,0,none⟩) 1 1] w (InsPost w base v (n + 1) (l ++ [t])):=by
 obtain ⟨i0,hi,hz0,hz1,hz2⟩:=info_parts info_tm
 obtain ⟨A,cp,rfl⟩:=own_shape hown
 obtain ⟨r,hr⟩:=slice_lo A n cp n (n:Int) rfl (Nat.le_refl _)
 have HO:=Lib.hid hown
 have HF:Hid (∀ (w':World) (v':Value),w'.ownsRow base 105 3 v' (n + 1) (tmsV l ++ [.int .i64 t.op,.int .i64 t.n,.string t.s]) → w'.ownsRow base 105 3 v' (n + 1) (tmsV (l ++ [t]))):=Lib.hid (fun w' v' h => by
  have:tmsV (l ++ [t]) = tmsV l ++ [.int .i64 t.op,.int .i64 t.n,.string t.s]:=by simp [tmsV,tmV]
  rw [this]; exact h)
 clear hown _hn
 go_enter Tryz.func206,Tryz.ntmps206
 go_wp2_with (at_builtin; refine wpList_append_lies _ rfl (.tmp 23) (.tmp 24) 63 rfl base 105 i0 _ 3 32 Tryz.underlying63 hi hz0 hz1 hz2 rfl (by decide) _ n (tmsV l) rfl HO.out ⟨vb,0,none⟩ 1 1 [.int .i64 t.op,.int .i64 t.n,.string t.s] rfl rfl (World.news_of_block (cs:=#[.int .i64 t.op,.int .i64 t.n,.string t.s]) hvb) (by simp [Value.oneCell']) (by decide) (by unfold maxLen; omega) (by omega) hbase _ rfl ?_)
 intro g cap w2 hown2 hgrow2 hwhere hlt2
 have HE:=Lib.hid (And.intro (HF.out _ _ hown2) (And.intro hgrow2 hwhere))
 clear hown2 hgrow2 hwhere
 go_wp2_with fail
 go_ret
 refine ⟨_,rfl,HE.out.1,HE.out.2.1,?_⟩
 rcases HE.out.2.2 with h | h
 ·exact .inl h.symm
 ·exact .inr (by rw [← h]; rfl)
theorem seg_list {cur cs t:List Value} {i n:Nat} (hcs:cur.take (n * 3) = cs) (hi:i < n) (hn:(n + 1) * 3 ≤ cur.length) (ht:t.length = 3) :
 ((cur.take ((i + 1) * 3) ++ cs.drop (i * 3) ++ cur.drop ((i + 1) * 3 + (cs.drop (i * 3)).length)).take (i * 3) ++ t ++ (cur.take ((i + 1) * 3) ++ cs.drop (i * 3) ++ cur.drop ((i + 1) * 3 + (cs.drop (i * 3)).length)).drop (i * 3 + t.length)).take ((n + 1) * 3) = cs.take (i * 3) ++ t ++ cs.drop (i * 3):=by
 have hl:cs.length = n * 3:=by rw [← hcs,List.length_take]; omega
 have hd:(cs.drop (i * 3)).length = n * 3 - i * 3:=by rw [List.length_drop,hl]
 have h1:(cur.take ((i + 1) * 3)).length = (i + 1) * 3:=by rw [List.length_take]; omega
 have e1:(cur.take ((i + 1) * 3) ++ cs.drop (i * 3) ++ cur.drop ((i + 1) * 3 + (cs.drop (i * 3)).length)).take (i * 3) = cs.take (i * 3):=by
  rw [List.append_assoc,List.take_append_of_le_length (by omega),List.take_take,← hcs,List.take_take,show min (i * 3) ((i + 1) * 3) = i * 3 by omega,show min (i * 3) (n * 3) = i * 3 by omega]
 have e2:(cur.take ((i + 1) * 3) ++ cs.drop (i * 3) ++ cur.drop ((i + 1) * 3 + (cs.drop (i * 3)).length)).drop (i * 3 + t.length) = cs.drop (i * 3) ++ cur.drop ((i + 1) * 3 + (cs.drop (i * 3)).length):=by
  rw [List.append_assoc,show i * 3 + t.length = (cur.take ((i + 1) * 3)).length by omega,List.drop_left]
 rw [e1,e2]
 have h4:(cs.take (i * 3)).length = i * 3:=by rw [List.length_take]; omega
 rw [List.append_assoc,List.append_assoc,← List.append_assoc,← List.append_assoc,List.take_append_of_le_length (by simp only [List.length_append]; omega)]
 rw [List.take_of_length_le (by simp only [List.length_append]; omega),List.append_assoc]
theorem tms_mid (l:List Tm) (t:Tm) (i:Nat):tmsV (l.take i ++ t :: l.drop i) = (tmsV l).take (i * 3) ++ tmV t ++ (tmsV l).drop (i * 3):=by
 rw [← tms_take,← tms_drop]
 simp [tmsV]
set_option maxHeartbeats 4000000 in
theorem insert_shift (base g cap:Nat) (n i:Nat) (l:List Tm) (t:Tm) (vb:Nat) (w:World) (hn:n = l.length) (h40:n ≤ 1000) (hi:i < n) (hroom:n + 1 ≤ cap)
 (hown:w.ownsRow base 105 3 (.slice (some ⟨g,0,none⟩) n cap) n (tmsV l))
 (hvb:w.heap[vb]? = some (.cells #[.int .i64 t.op,.int .i64 t.n,.string t.s] 105 (0,0))) (hne:vb ≠ g) :
 Calls Tryz.prog 206 #[.slice (some ⟨g,0,none⟩) n cap,.int .i64 i,.slice (some ⟨vb,0,none⟩) 1 1] w (InsPost w base (.slice (some ⟨g,0,none⟩) n cap) (n + 1) (l.take i ++ t :: l.drop i)):=by
 obtain ⟨i0,hi0,hz0,hz1,hz2⟩:=info_parts info_tm
 obtain ⟨hl,hv⟩:=hown
 rcases hv with ⟨hv,_⟩ | ⟨g',cap',cur,hv,hbase,hb,hnc,hcm,hcs,ht⟩
 ·cases hv
 cases hv
 have hsz:(Tryz.prog.info? 105).map (·.size) = some 3:=by rw [hi0]; simp [hz1]
 have hcur:cur.toList.length = cap * 3:=by rw [Array.length_toList]; exact hcs
 have hc63:cap ≤ 9223372036854775807:=hcm
 have hdl:((tmsV l).drop (i * 3)).length = (n - i) * 3:=by rw [List.length_drop,hl]; omega
 have hone:=tmsV_one l
 have hs1:=slice_at g n cap i (i:Int) rfl (by omega) (by omega)
 have hs2:=slice_up g n cap (n + 1) ((n:Int) + 1) (by omega) (by omega) (by omega)
 have hs3:=slice_at g (n + 1) cap (i + 1) ((i:Int) + 1) (by omega) (by omega) (by omega)
 have hs4:=slice_at g (n + 1) cap i (i:Int) rfl (by omega) (by omega)
 have hov:∀ lb cb,(callFunc 212 #[.slice (some ⟨vb,0,none⟩) 1 1,.slice (some ⟨g,(i + 1) * 3,none⟩) lb cb]).run Tryz.prog w = .ok (.value (.bool false)) w:=fun lb cb => by
  rw [run_callFunc_extern Tryz.func212 (by kernel_rfl) (by kernel_rfl) (by kernel_rfl) (e:=Extern.SlicesOverlaps.overlaps #[63,63] #[4]) (by kernel_rfl),
   Lib.run_overlaps_apart w 63 4 105 Tryz.underlying63 3 Tryz.sizeOf105 ⟨vb,0,none⟩ ⟨g,(i + 1) * 3,none⟩ 1 1 lb cb hne 105 105 3 (cap * 3) (by simp [World.shape?,hvb]) (by simp [World.shape?,hb,hcs]) (by omega) (by simp [World.frozen?,hvb]) (by simp [World.frozen?,hvb])]
  rfl
 obtain ⟨row1,hrow1⟩:∃ row1,row1 = cur.toList.take ((i + 1) * 3) ++ (tmsV l).drop (i * 3) ++ cur.toList.drop ((i + 1) * 3 + ((tmsV l).drop (i * 3)).length):=⟨_,rfl⟩
 have hr1l:row1.length = cap * 3:=by rw [hrow1]; simp only [List.length_append,List.length_take,List.length_drop,hcur,hl]; omega
 have hcell:∀ j u,(tmsV l)[j]? = some u → w.cell? ⟨g,j,none⟩ = some u:=fun j u hj => by
  have hj':=(List.getElem?_eq_some_iff.1 hj).1
  rw [← ht,List.getElem?_take_of_lt (by omega),Array.getElem?_toList] at hj
  simp [World.cell?,hb,hj]
 have hcp1:∀ ty dc sc,(Builtin.copy_ #[63,63] ty #[.slice (some ⟨g,(i + 1) * 3,none⟩) (n - i) dc,.slice (some ⟨g,i * 3,none⟩) (n + 1 - i) sc]).run Tryz.prog w.drew = .ok (goInt (Nat.min (n + 1 - i) (n - i))) (w.drew.setRow g row1.toArray):=fun ty dc sc => by
  rw [hrow1]
  exact run_copy_rowk 3 w.drew _ _ ty 105 g ((i + 1) * 3) _ dc ⟨g,i * 3,none⟩ _ sc cur 105 ((tmsV l).drop (i * 3)) Tryz.underlying63 hsz hb
   (by rw [hdl,show Nat.min (n + 1 - i) (n - i) = n - i by simp only [Nat.min_def]; split <;> omega])
   (fun j v hj => by rw [addr_add]; rw [List.getElem?_drop] at hj; exact hcell _ v hj) (by rw [hdl]; omega) (fun v hv => hone v (List.mem_of_mem_drop hv))
 obtain ⟨row2,hrow2⟩:∃ row2,row2 = row1.take (i * 3) ++ tmV t ++ row1.drop (i * 3 + (tmV t).length):=⟨_,rfl⟩
 have hr2l:row2.length = cap * 3:=by rw [hrow2]; simp only [List.length_append,List.length_take,List.length_drop,hr1l,tmV_length]; omega
 have hb1:(w.drew.setRow g row1.toArray).heap[g]? = some (.cells row1.toArray 105 (0,0)):=setRow_heap w.drew g cur row1.toArray 105 (0,0) hb
 have hvb1:(w.drew.setRow g row1.toArray).heap[vb]? = some (.cells #[.int .i64 t.op,.int .i64 t.n,.string t.s] 105 (0,0)) :=
  ((grow_setRow (but_refl w (some g)) row1.toArray).block vb (Array.getElem?_eq_some_iff.1 hvb).1 (by simpa using hne)).trans hvb
 have hcp2:∀ ty dc,(Builtin.copy_ #[63,63] ty #[.slice (some ⟨g,i * 3,none⟩) (n + 1 - i) dc,.slice (some ⟨vb,0,none⟩) 1 1]).run Tryz.prog (w.drew.setRow g row1.toArray) = .ok (goInt (Nat.min 1 (n + 1 - i))) (w.drew.setRow g row2.toArray):=fun ty dc => by
  have:=run_copy_rowk (P:=Tryz.prog) 3 (w.drew.setRow g row1.toArray) 63 63 ty 105 g (i * 3) (n + 1 - i) dc ⟨vb,0,none⟩ 1 1 row1.toArray 105 (tmV t) Tryz.underlying63 hsz hb1
   (by rw [tmV_length,show Nat.min 1 (n + 1 - i) = 1 by simp only [Nat.min_def]; split <;> omega])
   (fun j v hj => by rw [addr_add,Nat.zero_add]; exact cell_of_block' hvb1 (by rw [show (#[.int .i64 t.op,.int .i64 t.n,.string t.s]:Array Value) = (tmV t).toArray from rfl,List.getElem?_toArray]; exact hj))
   (by rw [tmV_length]; simp only [List.size_toArray]; omega) (tmV_one t)
  rw [this,setRow_setRow,hrow2]
 have hfin:InsPost w base (.slice (some ⟨g,0,none⟩) n cap) (n + 1) (l.take i ++ t :: l.drop i) (.returned (.slice (some ⟨g,0,none⟩) (n + 1) cap)) (w.drew.setRow g row2.toArray):=by
  refine ⟨_,rfl,⟨by rw [tmsV_length]; simp; omega,.inr ⟨g,cap,row2.toArray,rfl,hbase,setRow_heap w.drew g cur row2.toArray 105 (0,0) hb,hroom,hcm,by simpa using hr2l,?_⟩⟩,grow_setRow (but_drew (but_refl w (some g))) _,.inl rfl⟩
  rw [tms_mid,hrow2,hrow1]
  exact seg_list ht hi (by omega) rfl
 have HF:=Lib.hid hfin
 have hz3:¬ ((i:Int) = (n:Int)):=by omega
 have hz3':((i:Int) == (n:Int)) = false:=by simpa using hz3
 have hz4:¬ ((cap:Int) < (n:Int) + 1):=by omega
 have hz4':decide ((cap:Int) < (n:Int) + 1) = false:=decide_eq_false hz4
 clear hfin hrow2 hrow1 hr1l hr2l hb1 hvb1 hcell hone hdl hcur ht hl hcs hbase hn
 have hw1:IntKind.i64.wrap ((i:Int) + 1) = (i:Int) + 1:=by rw [IntKind.wrap_i64]; omega
 have hb1:(0:Int) ≤ (i:Int) + 1:=by omega
 have hb5:(i:Int) ≤ (n:Int):=by omega
 have htn:((i:Int) + 1).toNat = i + 1:=by omega
 have hb2:¬ (cap = i + 1):=by omega
 have hb3:(i:Int) ≤ (n:Int) + 1:=by omega
 have hb4:¬ (cap = i):=by omega
 have mixed:Tryz.prog.follows .mixedOrders = true:=by kernel_rfl
 go_enter Tryz.func206,Tryz.ntmps206
 go_wp2_with (simp only [hov])
 go_region_law_o (refine step_copy_runI rfl _ _ 63 63 rfl _ _ (by simp [Act.eval,Act.put]) (by simp [Act.eval,Act.put]) (hcp1 _ _ _) ?_)
 go_wp2_with (at_builtin; refine wpList_copy_runI _ rfl _ _ 63 63 rfl _ _ rfl rfl (hcp2 _ _) ?_)
 go_ret
 exact HF.out
end Go.Proofs.YtjfghaohogcfbaaGreatDoor