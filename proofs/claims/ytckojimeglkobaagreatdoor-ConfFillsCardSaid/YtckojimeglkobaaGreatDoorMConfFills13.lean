/- MixR, ConfKids, joined. -/
import Derived.Test.YtckojimeglkobaaGreatDoorMConfFills12
import Derived.Test.YtckojimeglkobaaGreatDoorMConfFills11
import Derived.Test.YtckojimeglkobaaGreatDoorMConfFills05
namespace Go.Proofs.YtckojimeglkobaaGreatDoor
open Go.RowKit TermSpec EvalSpec ActSpec NamesSpec ExprSpec TransSpec SynSpec CurSpec
theorem rdk_rd {w:World} {v:Value} {xs:List Value} {n:Nat} (h:Rd w v xs) (hn:xs.length = n):Rdk 1 w v n xs:=by
 subst hn
 obtain ⟨A,n,c,rfl,rfl,hc,hA⟩:=h
 exact ⟨A,c,rfl,hc,(Nat.mul_one _).symm,hA⟩
theorem set_same {α:Type} {l:List α} {i:Nat} {a:α} (h:l[i]? = some a):l.set i a = l:=by
 apply List.ext_getElem?
 intro j
 by_cases e:i = j
 ·subst e
  rw [List.getElem?_set_self (List.getElem?_eq_some_iff.1 h).1,h]
 ·rw [List.getElem?_set_ne e]
theorem map_same {α β:Type} {f:α → β} {l:List α} {i:Nat} {a a':α} (h:l[i]? = some a) (hf:f a' = f a):(l.set i a').map f = l.map f:=by
 rw [List.map_set]
 exact set_same (by rw [List.getElem?_map,h,hf]; rfl)
theorem rdk_here {w:World} {k n:Nat} {v:Value} {xs:List Value} (h:Rdk k w v n xs):Dep w (fun b => b < w.heap.size) (fun x => Rdk k x v n xs):=by
 intro w2 hz hx
 obtain ⟨A,c,rfl,hc,hl,hA⟩:=h
 refine ⟨A,c,rfl,hc,hl,fun h0 => ?_⟩
 obtain ⟨b,off,rfl,hlt,hcell⟩:=hA h0
 refine ⟨b,off,rfl,Nat.lt_of_lt_of_le hlt hz,fun j u hj => ?_⟩
 rw [← hcell j u hj]
 simp [World.cell?,hx b hlt hlt]
theorem tms_rdk {w:World} {A:Option Addr} {n c:Nat} {l:List Tm} (h:Tms w (.slice A n c) l):n = l.length ∧ Rdk 3 w (.slice A n c) n (tmsV l):=by
 obtain ⟨q,hq,hr⟩:=h
 have e:n = q:=by
  obtain ⟨A',c',heq,-⟩:=hr
  injection heq
 subst e
 exact ⟨hq,hr⟩
theorem tms_here {w:World} {v:Value} {l:List Tm} (h:Tms w v l):Dep w (fun b => b < w.heap.size) (fun x => Tms x v l):=by
 obtain ⟨n,hn,h⟩:=h
 exact (rdk_here h).imp fun _ g => ⟨n,hn,g⟩
theorem dep_all {α:Type} {w:World} {S:Nat → Prop} {P:α → World → Prop} {l:List α} (h:∀ p ∈ l,Dep w S (P p)):Dep w S (fun x => ∀ p ∈ l,P p x):=fun w2 hz hx p hp => h p hp w2 hz hx
theorem acs_here {w:World} {v:Value} {l:List Ac} (h:Acs w v l):Dep w (fun b => b < w.heap.size) (fun x => Acs x v l):=by
 obtain ⟨ps,hm,hr,hx⟩:=h
 exact ((rdk_here hr).and (dep_all fun p hp => tms_here (hx p hp))).imp fun _ g => ⟨ps,hm,g.1,g.2⟩
theorem tpN_here {w:World} {p:TP} (h:tpN p w):Dep w (fun b => b < w.heap.size) (tpN p):=((tms_here h.g).and (acs_here h.a)).imp fun _ g => ⟨g.1,g.2⟩
theorem trs_here {w:World} {v:Value} {l:List Tr} (h:Trs w v l):Dep w (fun b => b < w.heap.size) (fun x => Trs x v l):=by
 obtain ⟨ps,hm,hr,hx⟩:=h
 exact ((rdk_here hr).and (dep_all fun p hp => tpN_here (hx p hp))).imp fun _ g => ⟨ps,hm,g.1,g.2⟩
theorem spN_here {w:World} {p:SP} (h:spN p w):Dep w (fun b => b < w.heap.size) (spN p):=((acs_here h.1).and ((acs_here h.2.1).and (trs_here h.2.2))).imp fun _ g => g
structure MixR {α:Type} (T:TypeId) (k:Nat) (cv:α → List Value) (nest:α → World → Prop) (N:Nat) (wr:World) (pv:Value) (ps:List α) (m:Nat):Prop where
 own:wr.ownsRow N T k pv ps.length (ps.flatMap cv)
 dep:∀ j p,ps[j]? = some p → Dep wr (fun b => (j < m → N ≤ b) ∧ pv.ownBlock ≠ some b) (nest p)
section
variable {α:Type} {T:TypeId} {k:Nat} {cv:α → List Value} {nest:α → World → Prop} {N m:Nat} {wr w':World} {pv:Value} {ps:List α}
theorem MixR.start {w:World} (hb:Below w.heap.size w wr) (hown:wr.ownsRow w.heap.size T k pv ps.length (ps.flatMap cv)) (hn:∀ p ∈ ps,Dep w (fun b => b < w.heap.size) (nest p)):MixR T k cv nest w.heap.size wr pv ps 0 :=
 ⟨hown,fun j p hj => ((hn p (List.mem_of_getElem? hj)).keep hb).mono fun b _ h => ⟨fun h0 => by omega,fun e => by have:=(own_block_bd hown b e).1; omega⟩⟩
theorem MixR.keep (h:MixR T k cv nest N wr pv ps m) (hb:Below wr.heap.size wr w'):MixR T k cv nest N w' pv ps m:=⟨own_keep h.own hb,fun j p hj => (h.dep j p hj).keep hb⟩
theorem MixR.bd (h:MixR T k cv nest N wr pv ps m):∀ j,pv.ownBlock = some j → N ≤ j ∧ j < wr.heap.size:=own_block_bd h.own
theorem MixR.go (h:MixR T k cv nest N wr pv ps ps.length) {oc:Option Nat} (g:wr.grownBy w' oc) (hk:∀ j,oc = some j → j < N):MixR T k cv nest N w' pv ps ps.length :=
 ⟨own_go h.own g fun j e e' => by have:=(h.bd j e').1; have:=hk j e; omega,fun j p hj => (h.dep j p hj).go g fun b hS e => by have:=hS.1 (List.getElem?_eq_some_iff.1 hj).1; have:=hk b e; omega⟩
theorem MixR.now (h:MixR T k cv nest N wr pv ps m) {j:Nat} {p:α} (hj:ps[j]? = some p):nest p wr:=(h.dep j p hj).now
theorem MixR.far (h:MixR T k cv nest N wr pv ps m) (hm:ps.length ≤ m):Dep wr (fun b => N ≤ b) (fun x => Rdk k x pv ps.length (ps.flatMap cv) ∧ ∀ p ∈ ps,nest p x) :=
 (rdk_dep (Rdk.own h.own) fun _ b e => (h.bd b e).1).and fun w2 hz hx p hp => by
   obtain ⟨j,hj⟩:=List.mem_iff_getElem?.1 hp
   exact (h.dep j p hj) w2 hz fun b hlt hS => hx b hlt (hS.1 (Nat.lt_of_lt_of_le (List.getElem?_eq_some_iff.1 hj).1 hm))
theorem MixR.cells {g n cap:Nat} (h:MixR T k cv nest N wr (.slice (some ⟨g,0,none⟩) n cap) ps m) (hnl:ps.length = n):(∃ cur,wr.heap[g]? = some (.cells cur T (0,0))) ∧ (∀ i u,(ps.flatMap cv)[i]? = some u → wr.cell? ⟨g,i,none⟩ = some u) ∧ N ≤ g ∧ g < wr.heap.size:=by
 subst hnl
 obtain ⟨⟨cur,hcur,-⟩,hc⟩:=own_cell h.own
 exact ⟨⟨cur,hcur⟩,hc,own_block_bd h.own g rfl⟩
theorem MixR.set {i j g n cap m':Nat} {p p':α} {u:Value} (h:MixR T k cv nest N wr (.slice (some ⟨g,0,none⟩) n cap) ps m) (hnl:ps.length = n) (hlen:∀ a,(cv a).length = k) (hp:ps[i]? = some p) (hj:j < k) (hu:cv p' = (cv p).set j u)
 (hm:∀ q,q ≠ i → q < m' → q < m)
 (hn:Dep wr (fun b => (i < m' → N ≤ b) ∧ (Value.slice (some ⟨g,0,none⟩) n cap).ownBlock ≠ some b) (nest p')) :
 MixR T k cv nest N (wr.setCell ⟨g,i * k + j,none⟩ u) (.slice (some ⟨g,0,none⟩) n cap) (ps.set i p') m':=by
 subst hnl
 have hs:wr.grownBy (wr.setCell ⟨g,i * k + j,none⟩ u) (some g):=but_set (but_refl wr _) _ _
 have hi:=(List.getElem?_eq_some_iff.1 hp).1
 have hlt:i * k + j < (ps.flatMap cv).length:=by
  rw [flat_length hlen]
  have:(i + 1) * k ≤ ps.length * k:=Nat.mul_le_mul_right k hi
  rw [Nat.add_mul] at this
  omega
 refine ⟨?_,fun q p2 hq => ?_⟩
 ·rw [List.length_set,flat_set hlen hp hj hu]
  exact own_set h.own hlt u
 ·have hall:Dep wr (fun b => (q < m' → N ≤ b) ∧ (Value.slice (some ⟨g,0,none⟩) ps.length cap).ownBlock ≠ some b) (nest p2):=by
   by_cases e:q = i
   ·subst e
    rw [List.getElem?_set_self hi] at hq
    injection hq with hq
    subst hq
    exact hn
   ·rw [List.getElem?_set_ne (fun e' => e e'.symm)] at hq
    exact (h.dep q p2 hq).mono fun b _ hS => ⟨fun h0 => hS.1 (hm q e h0),hS.2⟩
  exact hall.go hs fun b hS e => hS.2 e
end
theorem dep_new {w:World} {k n N B g:Nat} {T:TypeId} {v:Value} {xs:List Value} {S:Prop} (h:w.ownsRow B T k v n xs) (hN:N ≤ B) (hg:g < B):Dep w (fun b => (S → N ≤ b) ∧ some g ≠ some b) (fun x => Rdk k x v n xs) :=
 rdk_dep (Rdk.own h) fun _ b e => by
  have:=(own_block_bd h b e).1
  exact ⟨fun _ => by omega,fun e' => by injection e' with e'; omega⟩
def RetCp (R:World → Value → Prop) (W:World) (n:Nat) (e:Ending) (w':World):Prop:=∃ A c,e = .returned (.slice A n c) ∧ Dep w' (fun b => W.heap.size ≤ b) (fun x => R x (.slice A n c)) ∧ Below W.heap.size W w'
end Go.Proofs.YtckojimeglkobaaGreatDoor
namespace Go.Proofs.YtckojimeglkobaaGreatDoor
open Go.RowKit ShapeSpec
set_option maxRecDepth 100000
set_option maxHeartbeats 4000000 in
theorem rshkids_own (A:Option Addr) (n c:Nat) (l:List Sh) (a:Nat) (w:World) (h:Sts w (.slice A n c) l) (hm:n ≤ 1000000) :
 Calls Tryz.prog 38 #[.slice A n c,.int .i64 a] w (fun e w' => ∃ p,e = .returned p ∧ RowI w w' p (kids l a)):=by
 have hn:=h.len
 have HE:Hid (kids l a = kidsTo l a n):=Lib.hid (by rw [hn]; rfl)
 rw [HE.out]
 have HT:=Lib.hid h
 obtain ⟨i0,hi,hz0,hz1,hz2⟩:=info_parts inf_int
 have HI:=Lib.hid (And.intro hi (And.intro hz0 (And.intro hz1 hz2)))
 clear h hn HE hi hz0 hz1 hz2
 go_enter Tryz.func38,Tryz.ntmps38
 go_wp2_with fail
 go_loopw [5,6] (fun p v wr => RKidRel w l a n p v wr) (fun _ v _ => n - (intOf v).toNat)
 case atStart => exact ⟨0,Nat.zero_le _,rfl,⟨World.ownsRow_lit w #[] 0 (Nat.le_refl _) (Nat.zero_le _) rfl,(Below.refl _ _).alloc (Nat.le_refl _) _⟩⟩
 case round =>
  obtain ⟨k,hk,rfl,hrow⟩:=hrel
  have HR:=Lib.hid hrow
  by_cases hlt:k < n
  ·have hltI:(k:Int) < n:=by omega
   obtain ⟨b,off,rfl,hb,-,c2⟩:=(HT.out.keep HR.out.2).at_ hlt
   obtain ⟨q,hq⟩:∃ q,q = par l k:=⟨_,rfl⟩
   rw [← hq] at c2
   have HP:=Lib.hid hq
   have HSZ:Hid (w.heap.size ≤ wr.heap.size):=Lib.hid HR.out.2.size
   have hkl:=kids_le l a k
   have HL1:Hid ((kidsTo l a k).length + (intV [(k:Int)]).length ≤ maxLen):=Lib.hid (by simp [maxLen]; omega)
   have HL2:Hid (((kidsTo l a k).length + (intV [(k:Int)]).length) * 8 ≤ 140737488355328):=Lib.hid (by simp; omega)
   clear hq hkl hrow
   by_cases hqa:q = a
   ·have g1:(q == (a:Int)) = true:=by simpa using hqa
    have HS:Hid (kidsTo l a (k + 1) = kidsTo l a k ++ [(k:Int)]):=Lib.hid (kids_yes (HP.out.symm.trans hqa))
    clear hqa
    go_wp2_with (at_builtin; refine wpList_append_rd _ rfl (.tmp 21) (.tmp 23) _ rfl w.heap.size 3 i0 (.int .i64 0) 8 Tryz.underlying90 HI.out.1 HI.out.2.1 HI.out.2.2.1 HI.out.2.2.2 rfl _ _ _ rfl (HR.out.1.alloc _) _ (intV [(k:Int)]) rfl (lit_here rfl rfl rfl) (intV_one _) HL1.out HL2.out ?_ ?_; (have:=HSZ.out; simp; omega); intro p2 w2 hrow2 hg2 _; have HR2:=Lib.hid (RowI.add HR.out hrow2 hg2); clear hrow2 hg2)
    go_roundw
    case rel => exact ⟨k + 1,by omega,by simp,by rw [HS.out]; exact HR2.out⟩
    case measure => simp [intOf]; omega
   ·have g1:(q == (a:Int)) = false:=by simpa using hqa
    have HS:Hid (kidsTo l a (k + 1) = kidsTo l a k):=Lib.hid (kids_no (by rw [← HP.out]; exact hqa))
    clear hqa
    go_wp2_with fail
    go_roundw
    case rel => exact ⟨k + 1,by omega,by simp,by rw [HS.out]; exact HR.out⟩
    case measure => simp [intOf]; omega
  ·obtain rfl:k = n:=by omega
   go_wp2_with fail
   go_ret
   exact ⟨_,rfl,HR.out⟩
def KRow (wr:World) (p v:Value) (ks:List Int):Prop:=Dep wr (fun b => p.ownBlock ≠ some b) (fun X => Rd X v (intV ks))
theorem krow_start {W w':World} {p v:Value} {n base:Nat} {xs:List Value} {ks:List Int} (hp:W.ownsRow base 3 1 p n xs) (hk:RowI W w' v ks):KRow w' p v ks:=by
 have h1:=rdk_dep (k:=1) (n:=ks.length) (v:=v) (xs:=intV ks) (S:=fun b => W.heap.size ≤ b) (Rdk.own hk.1) fun _ b e => (own_block_bd hk.1 b e).1
 exact (h1.imp fun X g => rd_one g).mono fun b _ hb e => by
  have:=(own_block_bd hp b e).2
  omega
theorem KRow.add {wr w2:World} {p p' v:Value} {ks:List Int} {o:Obj} (h:KRow wr p v ks) (hg:(wr.alloc o).grownBy w2 p.ownBlock) (hob:p'.ownBlock = p.ownBlock ∨ p'.ownBlock = some (wr.alloc o).heap.size):KRow w2 p' v ks:=by
 have ha:Below wr.heap.size wr (wr.alloc o):=KitC.below_one wr o
 intro w3 hz hx
 refine h w3 (Nat.le_trans ha.size (Nat.le_trans hg.size hz)) fun b hlt hS => ?_
 have hlt2:b < (wr.alloc o).heap.size:=Nat.lt_of_lt_of_le hlt ha.size
 refine (hx b (Nat.lt_of_lt_of_le hlt2 hg.size) fun e => ?_).trans ((hg.block b hlt2 fun e => hS e.symm).trans (ha.block b hlt))
 rcases hob with e' | e'
 ·exact hS (e'.symm.trans e)
 ·rw [e'] at e
  injection e with e
  omega
end Go.Proofs.YtckojimeglkobaaGreatDoor