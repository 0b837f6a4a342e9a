/- ExprRdr, ExprSigns, TermEnd, TermRefEnd, RowI, TermBelow, ValPut, joined. -/
import Derived.Test.YtcofikjpplkjdaaGreatDoorMPrintPuts02
import Derived.Test.YtcofikjpplkjdaaGreatDoorMPrintPuts03
import Derived.Test.YtcofikjpplkjdaaGreatDoorMPrintPuts00
import Derived.Laws.Rows
import Derived.Deep.RegionLaw
import Derived.Test.YtcofikjpplkjdaaGreatDoorRows
import Derived.Test.YtcofikjpplkjdaaGreatDoorMPrintPuts01
namespace Go.Proofs.YtcofikjpplkjdaaGreatDoor
open Go.RowKit CurSpec TermSpec ExprSpec
set_option maxRecDepth 100000
theorem CurAt.upto {w w':World} {B:Nat} {c:Cur} (h:CurAt w B c) (hs:w.heap.size ≤ w'.heap.size) (hk:∀ i,i ≤ B → w'.heap[i]? = w.heap[i]?):CurAt w' B c:=by
 obtain ⟨b,off,n,cp,h,hlt,hn,m,hm,A,c',heq,hc,hl,hA⟩:=h
 refine ⟨b,off,n,cp,(hk B (Nat.le_refl _)).trans h,hlt,hn,m,hm,A,c',heq,hc,hl,fun h0 => ?_⟩
 obtain ⟨b',off',h1,hlt',hcell⟩:=hA h0
 subst h1
 cases heq
 refine ⟨b,off,rfl,by omega,fun j u hj => ?_⟩
 rw [← hcell j u hj]
 simp [World.cell?,hk b (by omega)]
structure RdAt (w:World) (R B:Nat) (v:Value) (c:Cur) (l:List Tm):Prop where
 cur:CurAt w B c
 blk:w.heap[R]? = some (.cells #[.pointer (some ⟨B,0,none⟩),v] 186 (0,0))
 own:w.ownsRow (R + 1) 44 3 v l.length (tmsV l)
 lt:B < R
 few:l.length ≤ 41
 small:Small l
structure Hold (R B:Nat) (v v':Value) (w w':World):Prop where
 os:w'.os = w.os
 tape:w'.tape = w.tape
 output:w'.output = w.output
 size:w.heap.size ≤ w'.heap.size
 block:∀ i,i < w.heap.size → i ≠ B → i ≠ R → v.ownBlock ≠ some i → w'.heap[i]? = w.heap[i]?
 row:v'.ownBlock = v.ownBlock ∨ ∀ j,v'.ownBlock = some j → w.heap.size ≤ j
theorem Hold.refl (R B:Nat) (v:Value) (w:World):Hold R B v v w w:=⟨rfl,rfl,rfl,Nat.le_refl _,fun _ _ _ _ _ => rfl,.inl rfl⟩
theorem Hold.trans {R B:Nat} {v v' v2:Value} {w w' w2:World} (h:Hold R B v v' w w') (k:Hold R B v' v2 w' w2):Hold R B v v2 w w2:=by
 refine ⟨k.os.trans h.os,k.tape.trans h.tape,k.output.trans h.output,Nat.le_trans h.size k.size,fun i hi h1 h2 h3 => ?_,?_⟩
 ·refine (k.block i (Nat.lt_of_lt_of_le hi h.size) h1 h2 ?_).trans (h.block i hi h1 h2 h3)
  rcases h.row with hr | hr
  ·rw [hr]; exact h3
  ·intro e; have:=hr i e; omega
 ·rcases k.row with hk | hk
  ·rcases h.row with hr | hr
   ·exact .inl (hk.trans hr)
   ·exact .inr (fun j hj => hr j (by rw [← hk]; exact hj))
  ·exact .inr (fun j hj => Nat.le_trans h.size (hk j hj))
theorem Hold.of_but {R B:Nat} {w w':World} (v:Value) (h:w.grownBy w' (some B)):Hold R B v v w w' :=
 ⟨h.os,h.tape,h.output,h.size,fun i hi h1 _ _ => h.block i hi (by simpa using h1),.inl rfl⟩
theorem Hold.of_below {R B:Nat} {w w':World} (v:Value) (h:Below w.heap.size w w'):Hold R B v v w w':=Hold.of_but v (but_below h)
theorem Hold.apart {R B:Nat} {v v':Value} {w w':World} (h:Hold R B v v' w w') {i:Nat} (hi:i < w.heap.size) (hne:v.ownBlock ≠ some i):v'.ownBlock ≠ some i:=by
 rcases h.row with hr | hr
 ·rw [hr]; exact hne
 ·intro e; have:=hr i e; omega
theorem RdAt.lt' {w:World} {R B:Nat} {v:Value} {c:Cur} {l:List Tm} (h:RdAt w R B v c l):R < w.heap.size:=(Array.getElem?_eq_some_iff.1 h.blk).1
theorem RdAt.apart {w:World} {R B:Nat} {v:Value} {c:Cur} {l:List Tm} (h:RdAt w R B v c l) {i:Nat} (hi:w.heap.size ≤ i):i ≠ B ∧ i ≠ R ∧ v.ownBlock ≠ some i:=by
 have h1:=h.lt'
 have h2:=h.lt
 refine ⟨by omega,by omega,fun e => ?_⟩
 have:=(own_block_bd h.own i e).2
 omega
theorem RdAt.keep {w w':World} {R B:Nat} {v:Value} {c:Cur} {l:List Tm} (h:RdAt w R B v c l) (hb:Below w.heap.size w w'):RdAt w' R B v c l :=
 ⟨h.cur.keep hb,block_on h.blk hb,own_keep h.own hb,h.lt,h.few,h.small⟩
theorem RdAt.but {w w':World} {R B:Nat} {v:Value} {c c':Cur} {l:List Tm} (h:RdAt w R B v c l) (hb:w.grownBy w' (some B)) (hc:CurAt w' B c'):RdAt w' R B v c' l :=
 ⟨hc,(hb.block R h.lt' (by have:=h.lt; simp; omega)).trans h.blk,own_but h.own hb (by have:=h.lt; omega),h.lt,h.few,h.small⟩
theorem RdAt.alloc {w:World} {R B:Nat} {v:Value} {c:Cur} {l:List Tm} (h:RdAt w R B v c l) (o:Obj):RdAt (w.alloc o) R B v c l:=h.keep ((Below.refl _ _).alloc (Nat.le_refl _) _)
theorem RdAt.drew {w:World} {R B:Nat} {v:Value} {c:Cur} {l:List Tm} (h:RdAt w R B v c l):RdAt w.drew R B v c l:=⟨h.cur.drew,h.blk,h.own,h.lt,h.few,h.small⟩
def RetRd (W:World) (R B:Nat) (v:Value) (c:Cur) (l:List Tm) (e:Ending) (w':World):Prop:=∃ v',e = .returned (.tuple #[]) ∧ RdAt w' R B v' c l ∧ Hold R B v v' W w'
def ins (l:List Tm) (i:Nat) (t:Tm):List Tm:=if l.length ≤ 40 then l.take i ++ t :: l.drop i else l
theorem hold_ins {w w1 x:World} {R B:Nat} {v v':Value} {c:Cur} {l:List Tm} {i:Nat} {t:Tm} {n:Nat} (h:RdAt w R B v c l) (hn:n = l.length) (h40:n ≤ 40) (ht:t.s.size ≤ 9223372036854775807) (hb:Below w.heap.size w w1)
 (hown:x.ownsRow (R + 1) 44 3 v' (n + 1) (tmsV (l.take i ++ t :: l.drop i))) (hg:w1.grownBy x v.ownBlock) (hr:v'.ownBlock = v.ownBlock ∨ v'.ownBlock = some w1.heap.size) :
 RdAt (x.setCell ⟨R,1,none⟩ v') R B v' c (ins l i t) ∧ Hold R B v v' w (x.setCell ⟨R,1,none⟩ v') ∧ x.heap[R]? = some (.cells #[.pointer (some ⟨B,0,none⟩),v] 186 (0,0)):=by
 have hRlt:=h.lt'
 have hBR:=h.lt
 have hz1:=hb.size
 have hz2:=hg.size
 have hap:∀ j,j ≤ R → v.ownBlock ≠ some j:=fun j hj e => by have:=(own_block_bd h.own j e).1; omega
 have hold:∀ j,j < w.heap.size → v.ownBlock ≠ some j → x.heap[j]? = w.heap[j]?:=fun j hj hne => (hg.block j (by omega) (fun e => hne e.symm)).trans (hb.block j hj)
 have hxR:=(hold R hRlt (hap R (Nat.le_refl _))).trans h.blk
 have hlen:(l.take i ++ t :: l.drop i).length = n + 1:=by
  simp only [List.length_append,List.length_take,List.length_cons,List.length_drop]; omega
 have hins:ins l i t = l.take i ++ t :: l.drop i:=if_pos (by omega)
 have hset:∀ j,j ≠ R → (x.setCell ⟨R,1,none⟩ v').heap[j]? = x.heap[j]?:=fun j hj => Below.heap_setCell _ _ _ _ hj
 have hown':(x.setCell ⟨R,1,none⟩ v').ownsRow (R + 1) 44 3 v' (n + 1) (tmsV (l.take i ++ t :: l.drop i)) :=
  own_but hown (B:=R) (but_set (but_refl _ _) 1 _) (by omega)
 refine ⟨⟨?_,block_setCell' hxR 1 v',by rw [hins,hlen]; exact hown',h.lt,by rw [hins,hlen]; omega,?_⟩,⟨?_,?_,?_,?_,fun j hj h1 h2 h3 => (hset j h2).trans (hold j hj h3),?_⟩,hxR⟩
 rotate_left
 ·rw [hins]
  intro u hu
  rcases List.mem_append.1 hu with hu | hu
  ·exact h.small u (List.mem_of_mem_take hu)
  ·rcases List.mem_cons.1 hu with rfl | hu
   ·exact ht
   ·exact h.small u (List.mem_of_mem_drop hu)
 rotate_right
 ·refine h.cur.upto (by simp [World.setCell]; omega) (fun j hj => (hset j (by omega)).trans (hold j (by omega) (hap j (by omega))))
 ·exact hg.os.trans hb.os
 ·exact hg.tape.trans hb.tape
 ·exact hg.output.trans hb.output
 ·simp [World.setCell]; omega
 ·rcases hr with hr | hr
  ·exact .inl hr
  ·exact .inr (fun j hj => by rw [hr] at hj; cases hj; omega)
abbrev tmO (t:Tm):Obj:=.cells #[.int .i64 t.op,.int .i64 t.n,.string t.s] 44
set_option maxHeartbeats 4000000 in
theorem insert_at (R B:Nat) (v:Value) (c:Cur) (l:List Tm) (i:Nat) (t:Tm) (w:World) (h:RdAt w R B v c l) (hi:i ≤ l.length) (ht:t.s.size ≤ 9223372036854775807) :
 Calls Tryz.prog 165 #[.pointer (some ⟨R,0,none⟩),.int .i64 i,.agg #[.int .i64 t.op,.int .i64 t.n,.string t.s]] w (RetRd w R B v c (ins l i t)):=by
 obtain ⟨A,cp,rfl⟩:=own_shape h.own
 obtain ⟨n,hn⟩:∃ n,n = l.length:=⟨_,rfl⟩
 have HR:=Lib.hid (h.alloc (tmO t)).blk
 obtain ⟨r0,r1⟩:=cells_2 HR.out
 obtain ⟨_,r2⟩:=cells_2 ((h.alloc (tmO t)).alloc (tmO t)).blk
 rw [← hn] at r1 r2 hi ⊢
 obtain ⟨b0,b1,b2⟩:=cells_3 (heap_alloc_new w (tmO t))
 by_cases h40:n ≤ 40
 ·have hI:(n:Int) ≤ 40:=by omega
  have h41:n < 41:=by omega
  have HINS:Hid (Calls Tryz.prog 173 #[.slice A n cp,.int .i64 i,.slice (some ⟨w.heap.size + 1,0,none⟩) 1 1] (((w.alloc (tmO t)).alloc (tmO t)).drew) (InsPost (((w.alloc (tmO t)).alloc (tmO t)).drew) (R + 1) (.slice A n cp) (n + 1) (l.take i ++ t :: l.drop i))):=Lib.hid (by
   have h2:=((h.alloc (tmO t)).alloc (tmO t)).drew
   have ho:=h2.own
   rw [← hn] at ho
   refine insert_any (R + 1) _ n i l t (w.heap.size + 1) _ hn (by omega) hi ho (by have:=h2.lt'; omega) ?_ ?_
   ·have:=heap_alloc_new (w.alloc (tmO t)) (tmO t)
    rwa [World.size_alloc] at this
   ·have:=(h.apart (i:=w.heap.size + 1) (by omega)).2.2
    rw [← hn] at this
    exact this)
  have HH:=Lib.hid h
  have HTS:=Lib.hid ht
  have HN:=Lib.hid hn
  have HB:Hid (Below w.heap.size w (((w.alloc (tmO t)).alloc (tmO t)).drew)):=Lib.hid (((Below.refl _ _).alloc (Nat.le_refl _) _).alloc (by simp) _).drew
  clear h hn ht
  go_enter Tryz.func165,Tryz.ntmps165
  go_wp2_with fail
  go_region_law (go_simp; go_at_call 173; (with_reducible refine HINS.out.mono ?_); rintro e x ⟨v',he,hown',hgr',hrow'⟩; obtain ⟨A2,cp2,rfl⟩:=own_shape hown'; subst he; (have HE:=Lib.hid (hold_ins HH.out HN.out h40 HTS.out HB.out hown' (by rw [← HN.out]; exact hgr') (by rw [← HN.out]; exact hrow'))); clear hown' hgr' hrow'; obtain ⟨s0,s1⟩:=cells_2 HE.out.2.2; obtain ⟨f0,f1⟩:=free_2 HE.out.2.2)
  all_goals
   go_wp2_with fail
   go_end0
   have hnl:=HN.out
   subst hnl
   exact ⟨_,rfl,HE.out.1,HE.out.2.1⟩
 ·have hI:¬ (n:Int) ≤ 40:=by omega
  have HF:Hid (ins l i t = l):=Lib.hid (if_neg (by omega))
  have HH:=Lib.hid h
  have HN:=Lib.hid hn
  clear h hn ht
  go_enter Tryz.func165,Tryz.ntmps165
  go_wp2_with fail
  go_end0
  have hnl:=HN.out
  subst hnl
  rw [HF.out]
  exact ⟨_,rfl,HH.out.alloc _,Hold.of_below _ ((Below.refl _ _).alloc (Nat.le_refl _) _)⟩
end Go.Proofs.YtcofikjpplkjdaaGreatDoor
namespace Go.Proofs.YtcofikjpplkjdaaGreatDoor
open Go.RowKit CurSpec TermSpec ExprSpec
set_option maxRecDepth 100000
def sgC (s:Sg):List Value:=[.string s.t,.int .i64 s.op,.int .i64 s.lev,.int .i64 s.left,.int .i64 s.right]
abbrev sgA (s:Sg):Value:=.agg #[.string s.t,.int .i64 s.op,.int .i64 s.lev,.int .i64 s.left,.int .i64 s.right]
def sgZ:Sg:=⟨⟨#[]⟩,0,0,0,0⟩
def signsV:Array Value:=(sgs.flatMap sgC).toArray
def SignsIn (w:World):Prop:=∃ T fr,w.heap[2]? = some (.cells signsV T fr)
theorem SignsIn.pos {w:World} (h:SignsIn w):2 < w.heap.size:=by
 obtain ⟨T,fr,h⟩:=h
 exact (Array.getElem?_eq_some_iff.1 h).1
theorem SignsIn.of {w w':World} (h:SignsIn w) (hb:w'.heap[2]? = w.heap[2]?):SignsIn w':=by
 obtain ⟨T,fr,h⟩:=h
 exact ⟨T,fr,hb.trans h⟩
theorem SignsIn.keep {w w':World} (h:SignsIn w) (hb:Below w.heap.size w w'):SignsIn w':=h.of (hb.block _ h.pos)
theorem SignsIn.alloc {w:World} (h:SignsIn w) (o:Obj):SignsIn (w.alloc o):=h.keep ((Below.refl _ _).alloc (Nat.le_refl _) _)
theorem signs_size:(Tryz.prog.info? 198).map (·.size) = some signsV.size:=by kernel_rfl
theorem signs_index:∀ (j:Nat) (s:Sg),sgs[j]? = some s → ∀ w,(Instr.index 198 (.agg signsV) (.int .i64 j)).run Tryz.prog w = .ok (sgA s) w
 | 0,s,h,w => by cases h; kernel_rfl
 | 1,s,h,w => by cases h; kernel_rfl
 | 2,s,h,w => by cases h; kernel_rfl
 | 3,s,h,w => by cases h; kernel_rfl
 | 4,s,h,w => by cases h; kernel_rfl
 | 5,s,h,w => by cases h; kernel_rfl
 | 6,s,h,w => by cases h; kernel_rfl
 | 7,s,h,w => by cases h; kernel_rfl
 | 8,s,h,w => by cases h; kernel_rfl
 | 9,s,h,w => by cases h; kernel_rfl
 | 10,s,h,w => by cases h; kernel_rfl
 | j + 11,s,h,w => by cases h
theorem sgs_len:sgs.length = 11:=rfl
theorem cells_5 {w:World} {b:Nat} {T:TypeId} {x0 x1 x2 x3 x4:Value} (h:w.heap[b]? = some (.cells #[x0,x1,x2,x3,x4] T (0,0))):w.cell? ⟨b,0,none⟩ = some x0 ∧ w.cell? ⟨b,1,none⟩ = some x1 ∧ w.cell? ⟨b,2,none⟩ = some x2 ∧ w.cell? ⟨b,3,none⟩ = some x3 ∧ w.cell? ⟨b,4,none⟩ = some x4 :=
 ⟨cell_of_block' h (i:=0) rfl,cell_of_block' h (i:=1) rfl,cell_of_block' h (i:=2) rfl,cell_of_block' h (i:=3) rfl,cell_of_block' h (i:=4) rfl⟩
theorem free_5 {w:World} {b:Nat} {T:TypeId} {cs:Array Value} (h:w.heap[b]? = some (.cells cs T (0,0))):w.frozen? ⟨b,0,none⟩ = false ∧ w.frozen? ⟨b,1,none⟩ = false ∧ w.frozen? ⟨b,2,none⟩ = false ∧ w.frozen? ⟨b,3,none⟩ = false ∧ w.frozen? ⟨b,4,none⟩ = false :=
 ⟨free_of_block' h 0,free_of_block' h 1,free_of_block' h 2,free_of_block' h 3,free_of_block' h 4⟩
theorem store_five {w:World} {b:Nat} (h:Blk w b 5) (u0 u1 u2 u3 u4:Value) :
 (w.setCell ⟨b,0,none⟩ u0).cell? ⟨b,0,none⟩ = some u0 ∧ ((w.setCell ⟨b,0,none⟩ u0).setCell ⟨b,1,none⟩ u1).cell? ⟨b,1,none⟩ = some u1 ∧
 (((w.setCell ⟨b,0,none⟩ u0).setCell ⟨b,1,none⟩ u1).setCell ⟨b,2,none⟩ u2).cell? ⟨b,2,none⟩ = some u2 ∧
 ((((w.setCell ⟨b,0,none⟩ u0).setCell ⟨b,1,none⟩ u1).setCell ⟨b,2,none⟩ u2).setCell ⟨b,3,none⟩ u3).cell? ⟨b,3,none⟩ = some u3 ∧
 (((((w.setCell ⟨b,0,none⟩ u0).setCell ⟨b,1,none⟩ u1).setCell ⟨b,2,none⟩ u2).setCell ⟨b,3,none⟩ u3).setCell ⟨b,4,none⟩ u4).cell? ⟨b,4,none⟩ = some u4 :=
 ⟨h.read 0 (by omega) _,(h.set _ _).read 1 (by omega) _,((h.set _ _).set _ _).read 2 (by omega) _,(((h.set _ _).set _ _).set _ _).read 3 (by omega) _,((((h.set _ _).set _ _).set _ _).set _ _).read 4 (by omega) _⟩
theorem below_5 {B:Nat} {w x:World} {b:Nat} (h:Below B w x) (hb:B ≤ b) (u0 u1 u2 u3 u4:Value) :
 Below B w (((((x.setCell ⟨b,0,none⟩ u0).setCell ⟨b,1,none⟩ u1).setCell ⟨b,2,none⟩ u2).setCell ⟨b,3,none⟩ u3).setCell ⟨b,4,none⟩ u4) :=
 ((((h.setCell hb _).setCell hb _).setCell hb _).setCell hb _).setCell hb _
def SgRel (W:World) (o:Int) (i:Value) (wr:World):Prop:=∃ j:Nat,j ≤ 11 ∧ i = .int .i64 j ∧ (∀ y ∈ sgs.take j,y.op ≠ o) ∧ Below W.heap.size W wr
def opSg (o:Int):Sg:=(sgs.find? fun s => decide (s.op = o)).getD sgZ
theorem opSg_hit {o:Int} {j:Nat} {s:Sg} (hs:sgs[j]? = some s) (h:∀ y ∈ sgs.take j,y.op ≠ o) (he:s.op = o):opSg o = s:=by
 have hl:=(List.getElem?_eq_some_iff.1 hs).1
 have e:sgs = sgs.take j ++ s :: sgs.drop (j + 1):=by
  have h2:sgs.drop j = s :: sgs.drop (j + 1):=by rw [List.drop_eq_getElem_cons hl]; congr 1; exact (List.getElem?_eq_some_iff.1 hs).2
  rw [← h2,List.take_append_drop]
 unfold opSg
 rw [e,List.find?_append]
 have:(sgs.take j).find? (fun s => decide (s.op = o)) = none:=by
  rw [List.find?_eq_none]
  intro y hy
  simpa using h y hy
 rw [this]
 simp [he]
theorem opSg_none {o:Int} (h:∀ y ∈ sgs.take 11,y.op ≠ o):opSg o = sgZ:=by
 unfold opSg
 have:sgs.find? (fun s => decide (s.op = o)) = none:=by
  rw [List.find?_eq_none]
  intro y hy
  have:sgs.take 11 = sgs:=rfl
  rw [this] at h
  simpa using h y hy
 rw [this]
 rfl
def RetSign (W:World) (s:Sg) (e:Ending) (w':World):Prop:=e = .returned (sgA s) ∧ Below W.heap.size W w'
abbrev sgO (s:Sg):Obj:=.cells #[.string s.t,.int .i64 s.op,.int .i64 s.lev,.int .i64 s.left,.int .i64 s.right] 190
theorem sg_below' {w wr:World} {o:Obj} (h:Below (w.alloc o).heap.size (w.alloc o) wr):Below w.heap.size w wr :=
 ((Below.refl _ _).alloc (Nat.le_refl _) _).trans (h.mono (by simp))
theorem sg_below {w wr:World} {o:Obj} (h:Below (w.alloc o).heap.size (w.alloc o) wr) (p:Obj):Below w.heap.size w (wr.alloc p) :=
 (sg_below' h).alloc (sg_below' h).size _
theorem sg_next {o:Int} {j:Nat} {s:Sg} (h:∀ y ∈ sgs.take j,y.op ≠ o) (hs:sgs[j]? = some s) (hne:s.op ≠ o):∀ y ∈ sgs.take (j + 1),y.op ≠ o:=by
 intro y hy
 rw [take_next hs,List.mem_append,List.mem_singleton] at hy
 rcases hy with hy | rfl
 ·exact h y hy
 ·exact hne
set_option maxHeartbeats 4000000 in
theorem signOf_any (o:Int) (w:World) (hs:SignsIn w):Calls Tryz.prog 160 #[.int .i64 o] w (RetSign w (opSg o)):=by
 have hi:=signs_size
 have hix:=signs_index
 obtain ⟨SV,hSV⟩:∃ SV,SV = signsV:=⟨_,rfl⟩
 unfold SignsIn at hs
 rw [← hSV] at hi hix hs
 obtain ⟨T,fr,hg0⟩:=hs
 have hg:=(heap_alloc_old w (.cells #[.string ⟨#[]⟩,.int .i64 0,.int .i64 0,.int .i64 0,.int .i64 0] 190) (Array.getElem?_eq_some_iff.1 hg0).1).trans hg0
 have HIX:=Lib.hid hix
 clear hix hSV hg0
 have k0:=heap_alloc_new w (.cells #[.string ⟨#[]⟩,.int .i64 0,.int .i64 0,.int .i64 0,.int .i64 0] 190)
 have HK0:=Lib.hid k0
 clear k0
 go_enter Tryz.func160,Tryz.ntmps160
 go_wp2_with (refine wpList_load_row rfl 198 _ rfl 2 rfl T SV fr _ hg Tryz.underlying198 rfl hi ?_)
 clear hg hi
 go_loopw [4,6] (fun _ i wr => SgRel (w.alloc (.cells #[.string ⟨#[]⟩,.int .i64 0,.int .i64 0,.int .i64 0,.int .i64 0] 190)) o i wr) (fun _ i _ => 11 - (intOf i).toNat)
 case atStart => exact ⟨0,by omega,rfl,by simp,Below.refl _ _⟩
 case round =>
  obtain ⟨j,hj,rfl,hno,hbw⟩:=hrel
  have HN:=Lib.hid hno
  have HB:=Lib.hid hbw
  have hz:=hbw.size
  rw [World.size_alloc] at hz
  have hlt0:w.heap.size < wr.heap.size:=by omega
  have k0:=block_on HK0.out hbw
  have HK:=Lib.hid k0
  have HZ:=Lib.hid hlt0
  clear hno hbw k0 hz
  by_cases hlt:j < 11
  ·obtain ⟨s,hs⟩:∃ s,sgs[j]? = some s:=get_some (by rw [sgs_len]; exact hlt)
   have hx:=HIX.out j s hs
   have HS:=Lib.hid hs
   have k1:=(heap_alloc_old wr (sgO s) hlt0).trans HK.out
   have HK1:=Lib.hid (blk_of k1 (n:=5) rfl)
   clear hs hlt0
   by_cases ho:s.op = o
   ·have e1:(s.op == o) = true:=by simpa using ho
    have HO:=Lib.hid (opSg_hit HS.out HN.out ho)
    obtain ⟨f0,f1,f2,f3,f4⟩:=free_5 k1
    obtain ⟨d0,d1,d2,d3,d4⟩:=cells_5 k1
    clear ho k1
    go_wp2_with fail
    obtain ⟨q0,q1,q2,q3,q4⟩:=store_five HK1.out (.string s.t) (.int .i64 s.op) (.int .i64 s.lev) (.int .i64 s.left) (.int .i64 s.right)
    refine bodyPost_ret (v:=sgA s) (by simp [results,Tryz.results160,go_sem,q0,q1,q2,q3,q4]) rfl ?_
    rw [HO.out]
    exact ⟨rfl,below_5 (sg_below HB.out (sgO s)) (Nat.le_refl _) _ _ _ _ _⟩
   ·have e1:(s.op == o) = false:=by simpa using ho
    have HO:=Lib.hid ho
    clear ho k1
    go_wp2_with fail
    go_roundw
    case rel => exact ⟨j + 1,hlt,by simp,sg_next HN.out HS.out HO.out,HB.out.alloc HB.out.size _⟩
    case measure => simp [intOf]; omega
  ·obtain rfl:j = 11:=by omega
   have HO:=Lib.hid (opSg_none HN.out)
   obtain ⟨f0,f1,f2,f3,f4⟩:=free_5 HK.out
   obtain ⟨d0,d1,d2,d3,d4⟩:=cells_5 HK.out
   have HK1:=Lib.hid (blk_of HK.out (n:=5) rfl)
   go_wp2_with fail
   obtain ⟨q0,q1,q2,q3,q4⟩:=store_five HK1.out (.string ⟨#[]⟩) (.int .i64 0) (.int .i64 0) (.int .i64 0) (.int .i64 0)
   refine bodyPost_ret (v:=sgA sgZ) (by simp [results,Tryz.results160,go_sem,q0,q1,q2,q3,q4,sgZ]) rfl ?_
   rw [HO.out]
   exact ⟨rfl,below_5 (sg_below' HB.out) (Nat.le_refl _) _ _ _ _ _⟩
end Go.Proofs.YtcofikjpplkjdaaGreatDoor
namespace Go.Proofs.YtcofikjpplkjdaaGreatDoor
open Go.RowKit TermSpec
set_option maxRecDepth 100000
def EndRel (l:List Tm) (n:Nat) (r:Int) (a o:Value):Prop:=∃ (j k:Nat),j ≤ n ∧ a = .int .i64 j ∧ o = .int .i64 k ∧ k ≤ j + 1 ∧ fin k (l.drop j) j = r
theorem endRel_next {l:List Tm} {n j k:Nat} {r:Int} {t:Tm} (hj:j < n) (ht:l[j]? = some t) (h0:0 ≤ ar t.op) (hk:k + 1 ≤ j + 1) (h:fin (k + 1) (l.drop j) j = r) (o:Int) (ho:o = (k + 1:Nat) + (ar t.op - 1)):EndRel l n r (.int .i64 ((j:Int) + 1)) (.int .i64 o):=by
 have h2:=(ar_bd t.op).2
 have e:=arN_of h0
 refine ⟨j + 1,k + arN t.op,by omega,by simp,?_,by omega,?_⟩
 ·congr 1; omega
 ·rw [drop_get ht,fin_cons,if_neg (by omega)] at h
  exact h
theorem fin_stop {l:List Tm} {j k:Nat} {r:Int} {t:Tm} (ht:l[j]? = some t) (h0:ar t.op < 0) (h:fin (k + 1) (l.drop j) j = r):-1 = r:=by
 rw [drop_get ht,fin_cons,if_pos h0] at h
 exact h
theorem fin_out {l:List Tm} {j k:Nat} {r:Int} (hj:l.length ≤ j) (h:fin (k + 1) (l.drop j) j = r):-1 = r:=by
 rw [List.drop_eq_nil_of_le hj] at h
 exact h
set_option maxHeartbeats 1000000 in
theorem end_nat (A:Option Addr) (n c:Nat) (l:List Tm) (a:Nat) (w:World) (h:Tms w (.slice A n c) l) (hn:n = l.length) (hn62:n ≤ 4611686018427387903) (ha:a ≤ n) :
 Calls Tryz.prog 166 #[.slice A n c,.int .i64 a] w (SameI w (endA l a)):=by
 have HT:=Lib.hid h
 have HN:=Lib.hid hn
 have HA:=Lib.hid (endA_nat l a)
 obtain ⟨r,hr⟩:∃ r,r = endA l a:=⟨_,rfl⟩
 rw [← hr] at HA ⊢
 clear h hn hr
 go_enter Tryz.func166,Tryz.ntmps166
 go_wp2_with fail
 go_loop [1,5] (fun a o => EndRel l n r a o) (fun a _ => n - (intOf a).toNat)
 case atStart => exact ⟨a,1,ha,rfl,rfl,by omega,HA.out.symm⟩
 case round =>
  obtain ⟨j,k,hj,rfl,rfl,hk,hf⟩:=hrel
  have HF:=Lib.hid hf
  clear hf
  rcases Nat.eq_zero_or_pos k with hk0 | hk0
  ·subst hk0
   go_wp2_with fail
   go_ret
   exact ⟨ret_int (by rw [← HF.out,fin_zero]),rfl⟩
  ·obtain ⟨k,rfl⟩:∃ k',k = k' + 1:=⟨k - 1,by omega⟩
   have hk1:(0:Int) < ((k + 1:Nat):Int):=by omega
   by_cases hlt:j < n
   ·obtain ⟨t,ht⟩:∃ t,l[j]? = some t:=get_some (by rw [← HN.out]; exact hlt)
    obtain ⟨b,off,rfl,hb,c0,-,-⟩:=HT.out.at_ ht
    have hltI:(j:Int) < (n:Int):=by omega
    have HX:=Lib.hid ht
    have HC:=Lib.hid (arity_any t.op)
    obtain ⟨h1,h2⟩:=ar_bd t.op
    have HR:=Lib.hid (fun h0 => endRel_next (n:=n) (r:=r) hlt ht h0 hk HF.out)
    have HS:=Lib.hid (fun h0 => fin_stop ht h0 HF.out)
    obtain ⟨o,ho⟩:∃ o,o = t.op:=⟨_,rfl⟩
    rw [← ho] at HC h1 h2 c0 HR HS
    obtain ⟨q,hq⟩:∃ q,q = ar o:=⟨_,rfl⟩
    rw [← hq] at HC h1 h2 HR HS
    clear ht ho hq
    by_cases h0:q < 0
    ·go_wp2_with (go_at_call 168; (with_reducible refine (HC.out _).mono ?_); rintro e w' ⟨rfl,rfl⟩)
     go_ret
     exact ⟨ret_int (HS.out h0),rfl⟩
    ·have h0':0 ≤ q:=by omega
     go_wp2_with (go_at_call 168; (with_reducible refine (HC.out _).mono ?_); rintro e w' ⟨rfl,rfl⟩)
     go_round
     case rel => exact HR.out h0' _ (by simp)
     case measure => simp [intOf]; omega
   ·go_wp2_with fail
    go_ret
    exact ⟨ret_int (fin_out (by rw [← HN.out]; omega) HF.out),rfl⟩
theorem end_far (A:Option Addr) (n c:Nat) (l:List Tm) (a:Int) (w:World) (hn:n = l.length) (ha:(n:Int) < a) :
 Calls Tryz.prog 166 #[.slice A n c,.int .i64 a] w (SameI w (endA l a)):=by
 have HE:=Lib.hid (endA_out (l:=l) (a:=a) (by omega))
 have h0:¬ a < 0:=by omega
 have h1:(n:Int) ≤ a:=by omega
 clear hn
 go_enter Tryz.func166,Tryz.ntmps166
 go_wp2_with fail
 go_loop [1,5] (fun v o => v = .int .i64 a ∧ o = .int .i64 1) (fun _ _ => 0)
 case atStart => exact ⟨rfl,rfl⟩
 case round =>
  obtain ⟨rfl,rfl⟩:=hrel
  go_wp2_with fail
  go_ret
  exact ⟨ret_int HE.out.symm,rfl⟩
theorem end_any (A:Option Addr) (n c:Nat) (l:List Tm) (a:Int) (w:World) (h:Tms w (.slice A n c) l) (hn:n = l.length) (hn62:n ≤ 4611686018427387903) :
 Calls Tryz.prog 166 #[.slice A n c,.int .i64 a] w (SameI w (endA l a)):=by
 by_cases h0:a < 0
 ·have HE:=Lib.hid (endA_neg (l:=l) h0)
  clear hn h
  go_enter Tryz.func166,Tryz.ntmps166
  go_wp2_with fail
  go_ret
  exact ⟨ret_int HE.out.symm,rfl⟩
 ·by_cases h1:(n:Int) < a
  ·exact end_far A n c l a w hn h1
  ·obtain ⟨k,rfl⟩:=Int.eq_ofNat_of_zero_le (Int.not_lt.1 h0)
   exact end_nat A n c l k w h hn hn62 (by omega)
end Go.Proofs.YtcofikjpplkjdaaGreatDoor
namespace Go.Proofs.YtcofikjpplkjdaaGreatDoor
open Go.RowKit TermSpec
set_option maxRecDepth 100000
theorem rend_out (A:Option Addr) (n c:Nat) (l:List Tm) (a:Int) (w:World) (hn:n = l.length) (ha:a < 0 ∨ (n:Int) ≤ a) :
 Calls Tryz.prog 123 #[.slice A n c,.int .i64 a] w (RetI w (endA l a)):=by
 have HE:Hid (endA l a = -1):=Lib.hid (by rcases ha with h | h; exact endA_neg h; exact endA_out (by omega))
 clear hn
 by_cases h0:a < 0
 ·clear ha
  go_enter Tryz.func123,Tryz.ntmps123
  go_wp2_with fail
  go_ret
  exact ⟨ret_int HE.out.symm,Below.refl _ _⟩
 ·have h1:(n:Int) ≤ a:=by omega
  clear ha
  go_enter Tryz.func123,Tryz.ntmps123
  go_wp2_with fail
  go_ret
  exact ⟨ret_int HE.out.symm,Below.refl _ _⟩
def REndRel (W:World) (l:List Tm) (a:Nat) (q:Int) (v i:Value) (wr:World):Prop :=
 ∃ (k x:Nat),(k:Int) ≤ q ∧ i = .int .i64 k ∧ v = .int .i64 (a + 1 + x:Nat) ∧ cnt k (l.drop (a + 1)) = some x ∧ Below W.heap.size W wr
theorem rend_next {l:List Tm} {a k x:Nat} (hx:cnt k (l.drop (a + 1)) = some x) (h:0 ≤ endA l ((a + 1 + x:Nat):Int)):∃ x',endA l ((a + 1 + x:Nat):Int) = (a + 1 + x':Nat) ∧ cnt (k + 1) (l.drop (a + 1)) = some x':=by
 obtain ⟨p,m,hp,hc,he,hm,hl⟩:=endA_nn h
 obtain rfl:p = a + 1 + x:=by omega
 refine ⟨x + m,by rw [he]; omega,cnt_join hx (by rw [List.drop_drop]; exact hc)⟩
theorem rend_bad {l:List Tm} {a k x:Nat} {t:Tm} (ht:l[a]? = some t) (h0:0 ≤ ar t.op) (hk:(k:Int) < ar t.op) (hx:cnt k (l.drop (a + 1)) = some x) (h:endA l ((a + 1 + x:Nat):Int) < 0):endA l a = -1:=by
 have hc:cnt 1 ((l.drop (a + 1)).drop x) = none:=by
  rw [List.drop_drop]
  cases hc:cnt 1 (l.drop (a + 1 + x)) with
  | none => rfl
  | some m => rw [endA_some hc] at h; omega
 have e:=arN_of h0
 have:=cnt_none (cnt_stop hx hc) (arN t.op - (k + 1))
 rw [show k + 1 + (arN t.op - (k + 1)) = arN t.op by omega] at this
 rw [endA_at ht h0,fin_none this]
theorem rend_done {l:List Tm} {a k x:Nat} {t:Tm} (ht:l[a]? = some t) (h0:0 ≤ ar t.op) (hk:(k:Int) = ar t.op) (hx:cnt k (l.drop (a + 1)) = some x):endA l a = (a + 1 + x:Nat):=by
 have e:=arN_of h0
 obtain rfl:k = arN t.op:=by omega
 rw [endA_at ht h0,fin_some hx]
def RIH (A:Option Addr) (n c:Nat) (l:List Tm) (K:Nat):Prop:=∀ (a:Nat) (w:World),n ≤ a + K → Tms w (.slice A n c) l → Calls Tryz.prog 123 #[.slice A n c,.int .i64 a] w (RetI w (endA l a))
set_option maxHeartbeats 2000000 in
theorem rend_step (A:Option Addr) (n c:Nat) (l:List Tm) (K:Nat) (hn:n = l.length) (hn62:n ≤ 4611686018427387903) (ih:RIH A n c l K) (a:Nat) (w:World) (hK:n ≤ a + (K + 1)) (ha:a < n) (h:Tms w (.slice A n c) l) :
 Calls Tryz.prog 123 #[.slice A n c,.int .i64 a] w (RetI w (endA l a)):=by
 obtain ⟨t,ht⟩:∃ t,l[a]? = some t:=get_some (by omega)
 have HT:=Lib.hid h
 have HN:=Lib.hid hn
 have HIH:=Lib.hid ih
 have HX:=Lib.hid ht
 have haI:(a:Int) < (n:Int):=by omega
 obtain ⟨b,off,rfl,hb,c0,-,-⟩:=h.at_ ht
 have HCELL:=Lib.hid c0
 have HC:=Lib.hid (rarity_any t.op)
 obtain ⟨h1,h2⟩:=ar_bd t.op
 have HE:Hid (ar t.op < 0 → endA l a = -1):=Lib.hid (endA_bad ht)
 have HB:Hid (∀ k x:Nat,0 ≤ ar t.op → (k:Int) < ar t.op → cnt k (l.drop (a + 1)) = some x → endA l ((a + 1 + x:Nat):Int) < 0 → endA l a = -1):=Lib.hid (fun k x h0 hk hx h => rend_bad ht h0 hk hx h)
 have HD:Hid (∀ k x:Nat,0 ≤ ar t.op → (k:Int) = ar t.op → cnt k (l.drop (a + 1)) = some x → endA l a = (a + 1 + x:Nat)):=Lib.hid (fun k x h0 hk hx => rend_done ht h0 hk hx)
 obtain ⟨o,ho⟩:∃ o,o = t.op:=⟨_,rfl⟩
 rw [← ho] at HC h1 h2 c0 HCELL HE HB HD
 obtain ⟨q,hq⟩:∃ q,q = ar o:=⟨_,rfl⟩
 rw [← hq] at HC h1 h2 HE HB HD
 obtain ⟨r,hr⟩:∃ r,r = endA l a:=⟨_,rfl⟩
 rw [← hr] at HE HB HD ⊢
 clear ht ho hq hn ih h HX hr
 by_cases h0:q < 0
 ·go_enter Tryz.func123,Tryz.ntmps123
  go_wp2_with (go_at_call 145; (with_reducible refine (HC.out _).mono ?_))
  rintro e w1 ⟨rfl,hb1⟩
  go_wp2_with fail
  go_ret
  exact ⟨ret_int (HE.out h0).symm,hb1⟩
 ·have h0':0 ≤ q:=by omega
  clear HE
  have d1:decide ((a:Int) < 0) = false:=decide_eq_false (by omega)
  have d2:decide (n ≤ a) = false:=decide_eq_false (by omega)
  have d3:decide (q < 0) = false:=decide_eq_false h0
  go_enter Tryz.func123,Tryz.ntmps123
  go_wp2_with (go_at_call 145; (with_reducible refine (HC.out _).mono ?_))
  rintro e w1 ⟨rfl,hb1⟩
  have HB1:=Lib.hid hb1
  clear c0 hb1
  go_wp2_with fail
  go_loopw [5,6] (fun v i wr => REndRel w l a q v i wr) (fun _ i _ => 3 - (intOf i).toNat)
  case atStart => exact ⟨0,0,by simpa using h0',rfl,by simp,cnt_zero _,HB1.out⟩
  case round =>
   obtain ⟨k,x,hk,rfl,rfl,hx,hbw⟩:=hrel
   have HXc:=Lib.hid hx
   have HBW:=Lib.hid hbw
   have hle:=(cnt_le hx).1
   rw [List.length_drop,← HN.out] at hle
   have c0:wr.cell? ⟨b,off + a * 3,none⟩ = some (.int .i64 o):=(hbw.cell (by exact hb)).trans HCELL.out
   clear hx hbw
   go_wp2_with (go_at_call 145; (with_reducible refine (HC.out _).mono ?_))
   rintro e w2 ⟨rfl,hb2⟩
   have HB2:=Lib.hid (below_two' HBW.out hb2)
   clear hb2 c0
   by_cases hlt:(k:Int) < q
   ·have HI:=Lib.hid (HIH.out (a + 1 + x) w2 (by omega) (HT.out.keep HB2.out))
    obtain ⟨z,hz⟩:∃ z,z = endA l ((a + 1 + x:Nat):Int):=⟨_,rfl⟩
    have HZ:=Lib.hid hz
    rw [← hz] at HI
    obtain ⟨p,hp⟩:∃ p:Nat,p = a + 1 + x:=⟨_,rfl⟩
    rw [← hp] at HI
    have HP:=Lib.hid hp
    obtain ⟨v,hv⟩:∃ v,v = Value.int .i64 ((a + 1 + x:Nat):Int):=⟨_,rfl⟩
    clear hz
    rw [← HP.out] at hv ⊢
    clear hp hv
    go_wp2_with (go_at_call 123; (with_reducible refine (HI.out).mono ?_))
    rintro e w3 ⟨rfl,hb3⟩
    by_cases hz0:z < 0
    ·go_wp2_with fail
     go_ret
     exact ⟨ret_int (HB.out k x h0' hlt HXc.out (by rw [← HZ.out]; exact hz0)).symm,below_two' HB2.out hb3⟩
    ·go_wp2_with fail
     go_roundw
     case rel =>
      obtain ⟨x',hx',hc'⟩:=rend_next HXc.out (by rw [← HZ.out]; omega)
      exact ⟨k + 1,x',by omega,by simp,by rw [HZ.out,hx'],hc',below_two' HB2.out hb3⟩
     case measure => simp [intOf]; omega
   ·go_wp2_with fail
    go_ret
    exact ⟨ret_int (HD.out k x h0' (by omega) HXc.out).symm,HB2.out⟩
theorem rend_all (A:Option Addr) (n c:Nat) (l:List Tm) (hn:n = l.length) (hn62:n ≤ 4611686018427387903) (K:Nat):RIH A n c l K:=by
 induction K with
 | zero => exact fun a w h _ => rend_out A n c l a w hn (.inr (by omega))
 | succ K ih =>
   intro a w hK h
   by_cases ha:a < n
   ·exact rend_step A n c l K hn hn62 ih a w hK ha h
   ·exact rend_out A n c l a w hn (.inr (by omega))
theorem rend_any (A:Option Addr) (n c:Nat) (l:List Tm) (a:Int) (w:World) (h:Tms w (.slice A n c) l) (hn:n = l.length) (hn62:n ≤ 4611686018427387903) :
 Calls Tryz.prog 123 #[.slice A n c,.int .i64 a] w (RetI w (endA l a)):=by
 by_cases h0:a < 0
 ·exact rend_out A n c l a w hn (.inl h0)
 ·obtain ⟨k,rfl⟩:=Int.eq_ofNat_of_zero_le (Int.not_lt.1 h0)
  exact rend_all A n c l hn hn62 n k w (by omega) h
end Go.Proofs.YtcofikjpplkjdaaGreatDoor
namespace Go.Proofs.YtcofikjpplkjdaaGreatDoor
open Go.RowKit NamesSpec
set_option maxRecDepth 100000
theorem inf_int:(Tryz.prog.info? 3).map (fun i => (i.zero,i.size,i.bytes)) = some (some (.int .i64 0),1,8):=by kernel_rfl
def RowI (W wr:World) (p:Value) (xs:List Int):Prop:=wr.ownsRow W.heap.size 3 1 p xs.length (intV xs) ∧ Below W.heap.size W wr
theorem RowI.nil (W wr:World) (hb:Below W.heap.size W wr):RowI W wr (.slice none 0 0) []:=⟨World.ownsRow_nil _ _ _ _,hb⟩
theorem RowI.keep {W w w':World} {p:Value} {xs:List Int} (h:RowI W w p xs) (hb:Below w.heap.size w w'):RowI W w' p xs:=⟨own_keep h.1 hb,below_two' h.2 hb⟩
theorem RowI.addL {W wr w2:World} {p p':Value} {xs ys:List Int} {o:Obj} (h:RowI W wr p xs) (hrow:w2.ownsRow W.heap.size 3 1 p' (xs.length + (intV ys).length) (intV xs ++ intV ys)) (hg:(wr.alloc o).grownBy w2 p.ownBlock):RowI W w2 p' (xs ++ ys):=by
 refine ⟨?_,(h.2.alloc h.2.size o).grown hg (by have:=h.2.size; simp; omega) (fun j hj => (own_block_bd h.1 j hj).1)⟩
 rw [← intV_append,List.length_append,← intV_length ys]
 exact hrow
theorem RowI.add {W wr w2:World} {p p':Value} {xs:List Int} {x:Int} {o:Obj} (h:RowI W wr p xs) (hrow:w2.ownsRow W.heap.size 3 1 p' (xs.length + (intV [x]).length) (intV xs ++ intV [x])) (hg:(wr.alloc o).grownBy w2 p.ownBlock):RowI W w2 p' (xs ++ [x]):=h.addL hrow hg
theorem RowI.addB {W wr w2:World} {p p':Value} {xs ys:List Int} (h:RowI W wr p xs) (hrow:w2.ownsRow W.heap.size 3 1 p' (xs.length + (intV ys).length) (intV xs ++ intV ys)) (hg:wr.grownBy w2 p.ownBlock):RowI W w2 p' (xs ++ ys):=by
 refine ⟨?_,h.2.grown hg h.2.size (fun j hj => (own_block_bd h.1 j hj).1)⟩
 rw [← intV_append,List.length_append,← intV_length ys]
 exact hrow
theorem RowI.read {W wr:World} {p:Value} {xs:List Int} (h:RowI W wr p xs):Rd wr p (intV xs):=Rd.own h.1
theorem RowI.ret {W wr:World} {p:Value} {xs:List Int} (h:RowI W wr p xs):RetInts W xs (.returned p) wr:=⟨p,rfl,h.read,h.2⟩
def RetInts' (W:World) (l:List Int) (e:Ending) (w':World):Prop:=∃ A c,e = .returned (.slice A l.length c) ∧ Rd w' (.slice A l.length c) (intV l) ∧ Below W.heap.size W w'
theorem retInts_shape {W w':World} {l:List Int} {e:Ending} (h:RetInts W l e w'):RetInts' W l e w':=by
 obtain ⟨v,rfl,hr,hb⟩:=h
 obtain ⟨A,n,c,rfl,hn,hc,_⟩:=hr.ints
 subst hn
 exact ⟨A,c,rfl,hr,hb⟩
end Go.Proofs.YtcofikjpplkjdaaGreatDoor
namespace Go.Proofs.YtcofikjpplkjdaaGreatDoor
open Go.RowKit TermSpec
set_option maxRecDepth 100000
theorem below_next {l:List Tm} {a k q m:Nat} (h:cnt q (l.drop (a + 1)) = some m) (hk:k < q) :
 endA l ((a + 1 + (cnt k (l.drop (a + 1))).getD 0:Nat):Int) = (a + 1 + (cnt (k + 1) (l.drop (a + 1))).getD 0:Nat) ∧ a + 1 + (cnt (k + 1) (l.drop (a + 1))).getD 0 ≤ max l.length (a + 1):=by
 rw [show q = (k + 1) + (q - (k + 1)) by omega] at h
 obtain ⟨x,_,hx,_,_⟩:=cnt_split h
 obtain ⟨y,z,hy,hz,rfl⟩:=cnt_split hx
 rw [hy,hx]
 rw [List.drop_drop] at hz
 have:=(cnt_le hx).1
 rw [List.length_drop] at this
 refine ⟨?_,by simp only [Option.getD_some]; omega⟩
 rw [show (some y).getD 0 = y from rfl,endA_some hz]
 simp only [Option.getD_some]
 omega
def BelRel (W:World) (l:List Tm) (a q:Nat) (p v i:Value) (wr:World):Prop :=
 ∃ k:Nat,k ≤ q ∧ i = .int .i64 k ∧ v = .int .i64 (a + 1 + (cnt k (l.drop (a + 1))).getD 0:Nat) ∧ RowI W wr p (belows l a k)
set_option maxHeartbeats 2000000 in
theorem below_yes (A:Option Addr) (n c:Nat) (l:List Tm) (a:Nat) (w:World) (h:Tms w (.slice A n c) l) (hn:n = l.length) (hn62:n ≤ 70368744177664) (t:Tm) (ht:l[a]? = some t) (he:0 ≤ endA l a) :
 Calls Tryz.prog 158 #[.slice A n c,.int .i64 a] w (RetInts w (belows l a (arN t.op))):=by
 obtain ⟨k0,m0,hk0,hc0,_,_,_⟩:=endA_nn he
 obtain rfl:k0 = a:=by omega
 obtain ⟨t',m,ht',h0,_,hm⟩:=first_of hc0
 rw [ht] at ht'
 cases ht'
 have han:=get_lt ht
 have e0:=arN_of h0
 have HT:=Lib.hid h
 have HN:=Lib.hid hn
 have HM:=Lib.hid hm
 obtain ⟨b,off,rfl,hb,c0,-,-⟩:=h.at_ ht
 have HC:=Lib.hid (arity_any t.op)
 have HEE:=Lib.hid (fun (a:Int) w h => end_any (some ⟨b,off,none⟩) n c l a w h hn (by omega))
 have hE:=HEE.out k0 w h
 obtain ⟨r,hr⟩:∃ r,r = endA l k0:=⟨_,rfl⟩
 rw [← hr] at hE he
 have HE:=Lib.hid hE
 obtain ⟨o,ho⟩:∃ o,o = t.op:=⟨_,rfl⟩
 rw [← ho] at HC c0 e0 h0 HM ⊢
 have hq:=(ar_bd o).2
 obtain ⟨q,hqe⟩:∃ q,q = arN o:=⟨_,rfl⟩
 rw [← hqe] at e0 HM ⊢
 rw [← e0] at HC hq
 have hq2:q ≤ 2:=by omega
 have hal:k0 < n:=by omega
 have hal':(k0:Int) < n:=by omega
 obtain ⟨i0,hi,hz0,hz1,hz2⟩:=info_parts inf_int
 have HI:=Lib.hid (And.intro hi (And.intro hz0 (And.intro hz1 hz2)))
 clear ht ho hqe hn h hc0 hk0 hm hr hE h0 e0 han hi hz0 hz1 hz2 hq
 go_enter Tryz.func158,Tryz.ntmps158
 go_wp2_with (first
  | (go_at_call 166; (with_reducible refine HE.out.mono ?_); rintro e w' ⟨rfl,rfl⟩)
  | (go_at_call 168; (with_reducible refine (HC.out _).mono ?_); rintro e w' ⟨rfl,rfl⟩))
 go_loopw [5,6,19] (fun p v i wr => BelRel w l k0 q p v i wr) (fun _ _ i _ => 3 - (intOf i).toNat)
 case atStart => exact ⟨0,Nat.zero_le _,rfl,by rw [cnt_zero]; simp,RowI.nil _ _ (Below.refl _ _)⟩
 case round =>
  obtain ⟨k,hk,rfl,rfl,hrow⟩:=hrel
  have HR:=Lib.hid hrow
  by_cases hlt:k < q
  ·obtain ⟨hx,hx2⟩:=below_next HM.out hlt
   obtain ⟨y,hy⟩:∃ y,y = k0 + 1 + (cnt k (l.drop (k0 + 1))).getD 0:=⟨_,rfl⟩
   obtain ⟨z,hz⟩:∃ z,z = k0 + 1 + (cnt (k + 1) (l.drop (k0 + 1))).getD 0:=⟨_,rfl⟩
   have HX:=Lib.hid hx
   have HY:=Lib.hid hy
   have HZ:=Lib.hid hz
   have hl:=belows_length l k0 k
   have HL1:Hid ((belows l k0 k).length + (intV [(y:Int)]).length ≤ maxLen):=Lib.hid (by rw [hl]; simp [maxLen]; omega)
   have HL2:Hid (((belows l k0 k).length + (intV [(y:Int)]).length) * 8 ≤ 140737488355328):=Lib.hid (by rw [hl]; simp; omega)
   rw [← HY.out]
   have HSZ:Hid (w.heap.size ≤ wr.heap.size):=Lib.hid hrow.2.size
   have HRA:=Lib.hid hrow.1
   clear hx hx2 hy hz hl hrow
   go_wp2_with (first
    | (at_builtin; refine wpList_append_rd _ rfl (.tmp 21) (.tmp 23) _ rfl w.heap.size 3 i0 (.int .i64 0) 8 Tryz.underlying72 HI.out.1 HI.out.2.1 HI.out.2.2.1 HI.out.2.2.2 rfl _ _ _ rfl (HRA.out.alloc _) _ (intV [(y:Int)]) rfl (Rd.lit (cs:=#[.int .i64 y]) rfl) (intV_one _) HL1.out HL2.out ?_ ?_; (have:=HSZ.out; simp; omega); intro p2 w2 hrow2 hg2 _; have HR2:=Lib.hid (RowI.add HR.out hrow2 hg2); have HT2:=Lib.hid (HT.out.keep HR2.out.2); clear hrow2 hg2)
    | (go_at_call 166; (with_reducible refine (HEE.out _ _ HT2.out).mono ?_); rintro e w' ⟨rfl,rfl⟩))
   go_roundw
   case rel => exact ⟨k + 1,hlt,by simp,by rw [HY.out,HX.out],by rw [belows_next,← HY.out]; exact HR2.out⟩
   case measure => simp [intOf]; omega
  ·obtain rfl:k = q:=by omega
   go_wp2_with fail
   go_ret
   exact ⟨_,rfl,HR.out.read,HR.out.2⟩
set_option maxHeartbeats 2000000 in
theorem rbelow_any (A:Option Addr) (n c:Nat) (l:List Tm) (a:Nat) (w:World) (h:Tms w (.slice A n c) l) (hn:n = l.length) (hn62:n ≤ 70368744177664) (t:Tm) (ht:l[a]? = some t) (he:0 ≤ endA l a) :
 Calls Tryz.prog 124 #[.slice A n c,.int .i64 a] w (RetInts w (belows l a (arN t.op))):=by
 obtain ⟨k0,m0,hk0,hc0,_,_,_⟩:=endA_nn he
 obtain rfl:k0 = a:=by omega
 obtain ⟨t',m,ht',h0,_,hm⟩:=first_of hc0
 rw [ht] at ht'
 cases ht'
 have han:=get_lt ht
 have e0:=arN_of h0
 have HT:=Lib.hid h
 have HN:=Lib.hid hn
 have HM:=Lib.hid hm
 obtain ⟨b,off,rfl,hb,c0,-,-⟩:=h.at_ ht
 have HC:=Lib.hid (rarity_any t.op)
 have HEE:=Lib.hid (fun (a:Int) w h => rend_any (some ⟨b,off,none⟩) n c l a w h hn (by omega))
 obtain ⟨o,ho⟩:∃ o,o = t.op:=⟨_,rfl⟩
 rw [← ho] at HC c0 e0 h0 HM ⊢
 have hq:=(ar_bd o).2
 obtain ⟨q,hqe⟩:∃ q,q = arN o:=⟨_,rfl⟩
 rw [← hqe] at e0 HM ⊢
 rw [← e0] at HC hq
 have hq2:q ≤ 2:=by omega
 have hal:k0 < n:=by omega
 have hal':(k0:Int) < n:=by omega
 have HCELL:=Lib.hid c0
 obtain ⟨i0,hi,hz0,hz1,hz2⟩:=info_parts inf_int
 have HI:=Lib.hid (And.intro hi (And.intro hz0 (And.intro hz1 hz2)))
 clear ht ho hqe hn h hc0 hk0 hm he h0 e0 han hi hz0 hz1 hz2 hq c0
 go_enter Tryz.func124,Tryz.ntmps124
 go_wp2_with fail
 go_loopw [5,6,7] (fun p v i wr => BelRel w l k0 q p v i wr) (fun _ _ i _ => 3 - (intOf i).toNat)
 case atStart => exact ⟨0,Nat.zero_le _,rfl,by rw [cnt_zero]; simp,World.ownsRow_lit w #[] 0 (Nat.le_refl _) (Nat.zero_le _) rfl,(Below.refl _ _).alloc (Nat.le_refl _) _⟩
 case round =>
  obtain ⟨k,hk,rfl,rfl,hrow⟩:=hrel
  have HR0:=Lib.hid hrow
  have c0:wr.cell? ⟨b,off + k0 * 3,none⟩ = some (.int .i64 o):=(hrow.2.cell (by exact hb)).trans HCELL.out
  clear hrow
  by_cases hlt:k < q
  ·obtain ⟨hx,hx2⟩:=below_next HM.out hlt
   obtain ⟨y,hy⟩:∃ y,y = k0 + 1 + (cnt k (l.drop (k0 + 1))).getD 0:=⟨_,rfl⟩
   have HX:=Lib.hid hx
   have HY:=Lib.hid hy
   have hl:=belows_length l k0 k
   have HL1:Hid ((belows l k0 k).length + (intV [(y:Int)]).length ≤ maxLen):=Lib.hid (by rw [hl]; simp [maxLen]; omega)
   have HL2:Hid (((belows l k0 k).length + (intV [(y:Int)]).length) * 8 ≤ 140737488355328):=Lib.hid (by rw [hl]; simp; omega)
   rw [← HY.out]
   clear hx hx2 hy hl
   go_wp2_with (go_at_call 145; (with_reducible refine (HC.out _).mono ?_))
   rintro e w1 ⟨rfl,hb1⟩
   have HR:=Lib.hid (HR0.out.keep hb1)
   have HSZ:Hid (w.heap.size ≤ w1.heap.size):=Lib.hid HR.out.2.size
   have HRA:=Lib.hid HR.out.1
   clear hb1 c0
   go_wp2_with (at_builtin; refine wpList_append_rd _ rfl (.tmp 21) (.tmp 23) _ rfl w.heap.size 3 i0 (.int .i64 0) 8 Tryz.underlying72 HI.out.1 HI.out.2.1 HI.out.2.2.1 HI.out.2.2.2 rfl _ _ _ rfl (HRA.out.alloc _) _ (intV [(y:Int)]) rfl (Rd.lit (cs:=#[.int .i64 y]) rfl) (intV_one _) HL1.out HL2.out ?_ ?_; (have:=HSZ.out; simp; omega); intro p2 w2 hrow2 hg2 _; have HR2:=Lib.hid (RowI.add HR.out hrow2 hg2); have HT2:=Lib.hid (HT.out.keep HR2.out.2); clear hrow2 hg2)
   go_wp2_with (go_at_call 123; (with_reducible refine (HEE.out _ _ HT2.out).mono ?_))
   rintro e w3 ⟨rfl,hb3⟩
   have HR3:=Lib.hid (HR2.out.keep hb3)
   clear hb3
   go_wp2_with fail
   go_roundw
   case rel => exact ⟨k + 1,hlt,by simp,by rw [HY.out,HX.out],by rw [belows_next,← HY.out]; exact HR3.out⟩
   case measure => simp [intOf]; omega
  ·obtain rfl:k = q:=by omega
   go_wp2_with (go_at_call 145; (with_reducible refine (HC.out _).mono ?_))
   rintro e w1 ⟨rfl,hb1⟩
   have HR:=Lib.hid (HR0.out.keep hb1)
   clear hb1 c0
   go_wp2_with fail
   go_ret
   exact ⟨_,rfl,HR.out.read,HR.out.2⟩
end Go.Proofs.YtcofikjpplkjdaaGreatDoor
namespace Go.Proofs.YtcofikjpplkjdaaGreatDoor
open Go.RowKit ValSpec
set_option maxRecDepth 100000
theorem extract_digit {d:Nat} (h:d < 10):({ data:=#[48,49,50,51,52,53,54,55,56,57] }:ByteArray).extract d (d + 1) = ⟨[UInt8.ofNat (48 + d)].toArray⟩:=by
 match d,h with
 | 0,_ => rfl
 | 1,_ => rfl
 | 2,_ => rfl
 | 3,_ => rfl
 | 4,_ => rfl
 | 5,_ => rfl
 | 6,_ => rfl
 | 7,_ => rfl
 | 8,_ => rfl
 | 9,_ => rfl
theorem val_str {a b:ByteArray} (h:a = b):Ending.returned (.string a) = .returned (.string b):=by rw [h]
theorem str_app (a b:List UInt8):(⟨a.toArray⟩:ByteArray) ++ ⟨b.toArray⟩ = ⟨(a ++ b).toArray⟩:=by
 apply ByteArray.ext
 simp [ByteArray.data_append]
theorem text_any (k:Nat):∀ (n:Nat) (w:World),n ≤ k → n ≤ 9223372036854775807 →
 Calls Tryz.prog 64 #[.int .i64 n] w fun e w' => e = .returned (.string ⟨(digs n).toArray⟩) ∧ w = w':=by
 induction k with
 | zero =>
   intro n w hk hb
   obtain rfl:n = 0:=by omega
   go_enter Tryz.func64,Tryz.ntmps64
   go_wp2_with fail
   go_ret
   exact ⟨val_str (by rw [digs_lt (by omega)]; exact extract_digit (d:=0) (by omega)),rfl⟩
 | succ k ih =>
   intro n w hk hb
   by_cases h:n < 10
   ·go_enter Tryz.func64,Tryz.ntmps64
    go_wp2_with fail
    go_ret
    exact ⟨val_str (by rw [digs_lt h,Nat.mod_eq_of_lt h]; exact extract_digit h),rfl⟩
   ·have hl:(digs (n / 10)).length ≤ 19:=digs_len 18 _ (by omega)
    go_enter Tryz.func64,Tryz.ntmps64
    go_wp2_with (go_at_call 64; refine (ih (n / 10) _ (by omega) (by omega)).mono ?_; rintro e w' ⟨rfl,rfl⟩)
    go_ret
    exact ⟨val_str (by rw [digs_ge h,extract_digit (Nat.mod_lt _ (by omega)),str_app]),rfl⟩
theorem neg_parts (n:Int) (h:n < 0) (h1:-9223372036854775808 ≤ n):∃ d q:Nat,n.tmod 10 = -(d:Int) ∧ n.tdiv 10 = -(q:Int) ∧ d < 10 ∧ q ≤ 922337203685477580 ∧ n.natAbs = 10 * q + d:=by
 obtain ⟨m,rfl⟩:∃ m:Nat,n = -(m:Int):=⟨n.natAbs,by omega⟩
 refine ⟨m % 10,m / 10,?_,?_,Nat.mod_lt _ (by omega),by omega,by rw [Int.natAbs_neg]; simp; omega⟩
 ·rw [Int.neg_tmod]; rfl
 ·rw [Int.neg_tdiv]; rfl
theorem rput_any (n:Int) (w:World) (h1:-9223372036854775808 ≤ n) (h2:n ≤ 9223372036854775807) :
 Calls Tryz.prog 28 #[.int .i64 n] w fun e w' => e = .returned (.string ⟨(text n).toArray⟩) ∧ w = w':=by
 by_cases h:0 ≤ n
 ·obtain ⟨m,rfl⟩:=Int.eq_ofNat_of_zero_le h
  go_enter Tryz.func28,Tryz.ntmps28
  go_wp2_with (go_at_call 64; refine (text_any m m _ (by omega) (by omega)).mono ?_; rintro e w' ⟨rfl,rfl⟩)
  go_ret
  exact ⟨val_str (by unfold text; rw [if_neg (by omega)]; rfl),rfl⟩
 ·obtain ⟨d,q,hd,hq,hd10,hqb,hn⟩:=neg_parts n (by omega) h1
  have HN:=Lib.hid hn
  clear hn
  by_cases h9:-10 < n
  ·go_enter Tryz.func28,Tryz.ntmps28
   go_wp2_with fail
   go_ret
   have:=HN.out
   exact ⟨val_str (by rw [extract_digit hd10,show (#[45]:Array UInt8) = [45].toArray from rfl,str_app]; unfold text; rw [if_pos (by omega),this,show q = 0 by omega,digs_lt (by omega)]; simp),rfl⟩
  ·have hl:(digs q).length ≤ 19:=digs_len 18 _ (by omega)
   go_enter Tryz.func28,Tryz.ntmps28
   go_wp2_with (go_at_call 64; refine (text_any q q _ (by omega) (by omega)).mono ?_; rintro e w' ⟨rfl,rfl⟩)
   go_ret
   have:=HN.out
   exact ⟨val_str (by rw [extract_digit hd10,show (#[45]:Array UInt8) = [45].toArray from rfl,str_app,str_app]; unfold text; rw [if_pos (by omega),this,digs_ge (n:=10 * q + d) (by omega),show (10 * q + d) / 10 = q by omega,show (10 * q + d) % 10 = d by omega]; simp),rfl⟩
theorem vdigit_any (d:Int) (w:World) (h0:0 ≤ d) (h9:d ≤ 9) :
 Calls Tryz.prog 74 #[.int .i64 d] w fun e w' => e = .returned (.int .u8 (48 + d)) ∧ w = w':=by
 go_enter Tryz.func74,Tryz.ntmps74
 go_wp2
 go_ret
 exact ⟨rfl,rfl⟩
def byteV (c:UInt8):Value:=.int .u8 c.toNat
def cellsOf (z:Nat) (cs:List UInt8):Array Value:=(List.replicate z (Value.int .u8 0) ++ cs.map byteV).toArray
theorem cells_zero {z k:Nat} {cs:List UInt8} (h:k < z):(cellsOf z cs)[k]? = some (.int .u8 0):=by
 simp [cellsOf,List.getElem?_append,h]
theorem cells_set {z:Nat} {cs:List UInt8} (c:UInt8):(cellsOf (z + 1) cs).setIfInBounds z (byteV c) = cellsOf z (c :: cs):=by
 apply Array.ext'
 simp only [cellsOf,Array.toList_setIfInBounds]
 rw [List.set_append_left _ _ (by simp)]
 simp [List.replicate_succ',List.set_append_right]
theorem byteV_digit {d:Nat} (h:d < 10):byteV (UInt8.ofNat (48 + d)) = .int .u8 (48 + (d:Int)):=by
 unfold byteV; rw [byte_nat (by omega)]; simp
theorem cell_of_block {w:World} {b:Nat} {cs:Array Value} {t:TypeId} (h:w.heap[b]? = some (.cells cs t (0,0))) {i:Nat} {v:Value} (hi:cs[i]? = some v):w.cell? ⟨b,i,none⟩ = some v:=by simp [World.cell?,h,hi]
theorem free_of_block {w:World} {b:Nat} {cs:Array Value} {t:TypeId} (h:w.heap[b]? = some (.cells cs t (0,0))) (i:Nat):w.frozen? ⟨b,i,none⟩ = false:=by simp [World.frozen?,h]
theorem block_setCell {w:World} {b:Nat} {cs:Array Value} {t:TypeId} (h:w.heap[b]? = some (.cells cs t (0,0))) (i:Nat) (u:Value):(w.setCell ⟨b,i,none⟩ u).heap[b]? = some (.cells (cs.setIfInBounds i u) t (0,0)):=by
 have hlt:=lt_of_block h
 have h':w.heap[b] = .cells cs t (0,0):=by simpa [Array.getElem?_eq_getElem hlt] using h
 show (w.heap.modify b _)[b]? = _
 rw [Array.getElem?_eq_getElem (by simpa using hlt),Array.getElem_modify_self,h']
 rfl
def PutRel (W:World) (m:Nat) (rv av:Value) (wr:World):Prop :=
 ∃ (i:Nat) (r:Int) (cs:List UInt8),cs.length + i = 18 ∧ rv = .int .i64 r ∧ av = .int .i64 ((i:Int) + 1) ∧ r ≤ 0 ∧ -9223372036854775808 ≤ r ∧ digs m = digs r.natAbs ++ cs ∧ r.natAbs * 10 ^ (18 - i) ≤ m ∧
   wr.heap[W.heap.size]? = some (.cells (cellsOf (i + 2) cs) 123 (0,0)) ∧ Below W.heap.size W wr
theorem put_step {W wr:World} {m i q d:Nat} {r:Int} {cs:List UInt8} (hm:m ≤ 9223372036854775808) (hl:cs.length + i = 18) (hr:r < -9) (hd:digs m = digs r.natAbs ++ cs) (hp:r.natAbs * 10 ^ (18 - i) ≤ m)
 (hb:wr.heap[W.heap.size]? = some (.cells (cellsOf (i + 2) cs) 123 (0,0))) (hbel:Below W.heap.size W wr) (hn:r.natAbs = 10 * q + d) (hd10:d < 10) (hq:q ≤ 922337203685477580) :
 PutRel W m (.int .i64 (-(q:Int))) (.int .i64 i) (wr.setCell ⟨W.heap.size,i + 1,none⟩ (.int .u8 (48 + (d:Int)))):=by
 have hi:1 ≤ i:=by
  rcases Nat.lt_or_ge 0 i with h | h
  ·exact h
  ·exfalso
   obtain rfl:i = 0:=by omega
   have:10 * 10 ^ 18 ≤ r.natAbs * 10 ^ (18 - 0):=Nat.mul_le_mul_right _ (by omega)
   omega
 obtain ⟨k,rfl⟩:∃ k,i = k + 1:=⟨i - 1,by omega⟩
 have hq1:1 ≤ q:=by omega
 refine ⟨k,-(q:Int),UInt8.ofNat (48 + d) :: cs,by simp; omega,rfl,by simp,by omega,by omega,?_,?_,?_,hbel.setCell (Nat.le_refl _) _⟩
 ·rw [hd,hn,digs_ge (n:=10 * q + d) (by omega),show (10 * q + d) / 10 = q by omega,show (10 * q + d) % 10 = d by omega]
  simp
 ·have e:18 - k = (18 - (k + 1)) + 1:=by omega
  rw [e,Nat.pow_succ]
  refine Nat.le_trans ?_ hp
  rw [hn,Int.natAbs_neg,Int.natAbs_natCast,Nat.mul_comm (10 ^ _) 10,← Nat.mul_assoc]
  exact Nat.mul_le_mul_right _ (by omega)
 ·rw [block_setCell hb,← byteV_digit hd10,cells_set]
theorem slice_tail (B l L:Nat) (li:Int) (hli:li = l) (hl:l + L = 20) (h1:1 ≤ L) (W:World):(Instr.sliceAt 123 (.pointer (some ⟨B,0,none⟩)) (some (.int .i64 li)) none none).run Tryz.prog W = .ok (.slice (some ⟨B,l,none⟩) L L) W:=by
 subst hli
 have hal:Tryz.prog.arrayLen 123 = 20:=by simp [Program.arrayLen,Tryz.underlying123]
 rw [run_sliceAt_array_l W 123 ⟨B,0,none⟩ (by simp [Program.arrayLen,Program.elem,Tryz.underlying123]) .i64 (l:Int) (by omega) (by rw [hal]; omega),hal]
 go_simp
 omega
theorem tail_text {w:World} {B z:Nat} {cs:List UInt8} (h:w.heap[B]? = some (.cells (cellsOf z cs) 123 (0,0))) (L:Nat) (hL:cs.length = L) :
 (convert 80 9 (.slice (some ⟨B,z,none⟩) L L)).run Tryz.prog w = .ok (.string ⟨cs.toArray⟩) w:=by
 subst hL
 refine run_convert_bytes_back _ _ _ _ _ cs.length cs Tryz.underlying80 Tryz.underlying5 Tryz.underlying9 (fun j hj => ?_)
 have ea:(⟨B,z,none⟩:Addr).add j = ⟨B,z + j,none⟩:=by unfold Addr.add; split <;> simp_all
 rw [ea]
 refine cell_of_block h ?_
 simp [cellsOf,List.getElem?_append,show ¬ (z + j < z) by omega,List.getElem?_eq_getElem hj,byteV]
theorem put_last {W wr:World} {m i d:Nat} {r:Int} {cs:List UInt8} (hr:r = -(d:Int)) (hd10:d < 10) (hd:digs m = digs r.natAbs ++ cs)
 (hb:wr.heap[W.heap.size]? = some (.cells (cellsOf (i + 2) cs) 123 (0,0))) :
 (wr.setCell ⟨W.heap.size,i + 1,none⟩ (.int .u8 (48 + (d:Int)))).heap[W.heap.size]? = some (.cells (cellsOf (i + 1) (digs m)) 123 (0,0)):=by
 rw [block_setCell hb,← byteV_digit hd10,cells_set,hd,hr,Int.natAbs_neg,Int.natAbs_natCast,digs_lt hd10]
 rfl
theorem put_sign {wr:World} {B i:Nat} {cs:List UInt8} (hb:wr.heap[B]? = some (.cells (cellsOf (i + 1) cs) 123 (0,0))) :
 (wr.setCell ⟨B,i,none⟩ (.int .u8 45)).heap[B]? = some (.cells (cellsOf i (45 :: cs)) 123 (0,0)):=by
 rw [block_setCell hb,show (Value.int .u8 45) = byteV 45 from rfl,cells_set]
set_option maxRecDepth 100000 in
set_option maxHeartbeats 800000 in
theorem put_any (n:Int) (w:World) (h1:-9223372036854775808 ≤ n) (h2:n ≤ 9223372036854775807) :
 Calls Tryz.prog 41 #[.int .i64 n] w fun e w' => e = .returned (.string ⟨(text n).toArray⟩) ∧ Below w.heap.size w w':=by
 rcases (show 0 < n ∨ n < 0 ∨ n ≤ 0 ∧ 0 ≤ n by omega) with h | h | ⟨h,h'⟩
 all_goals
  go_enter Tryz.func41,Tryz.ntmps41
  go_wp2_with fail
  go_loopw [3,5] (fun r a wr => PutRel w n.natAbs r a wr) (fun r _ _ => (intOf r).natAbs)
  case atStart => first
   | exact ⟨18,-n,[],rfl,rfl,rfl,by omega,by omega,by simp,by simp,(heap_alloc_new _ _).trans rfl,(Below.refl _ _).alloc (Nat.le_refl _) _⟩
   | exact ⟨18,n,[],rfl,rfl,rfl,by omega,by omega,by simp,by simp,(heap_alloc_new _ _).trans rfl,(Below.refl _ _).alloc (Nat.le_refl _) _⟩
  case round =>
   obtain ⟨i,r,cs,hl,rfl,rfl,hr,hr2,hd,hp,hb,hbel⟩:=hrel
   have hi2:i ≤ 18:=by omega
   have hc:=cell_of_block hb (cells_zero (k:=i + 1) (by omega))
   have hf:=free_of_block hb (i + 1)
   have hc':=cell_of_block hb (cells_zero (k:=i) (by omega))
   have hf':=free_of_block hb i
   by_cases h9:r < -9
   ·obtain ⟨d,q,hd1,hq,hd10,hqb,hn⟩:=neg_parts r (by omega) hr2
    have HR:=Lib.hid (put_step (show n.natAbs ≤ 9223372036854775808 by omega) hl h9 hd hp hb hbel hn hd10 hqb)
    have HM:Hid (q < r.natAbs):=Lib.hid (by omega)
    clear hn hd hp hb hl hc' hf'
    go_wp2_with (go_at_call 74; refine (vdigit_any _ _ (by omega) (by omega)).mono ?_; rintro e w' ⟨rfl,rfl⟩)
    go_round
    case rel => exact HR.out
    case measure => have:=HM.out; simp [intOf]; omega
   ·obtain ⟨d,rfl⟩:∃ d:Nat,r = -(d:Int):=⟨r.natAbs,by omega⟩
    have hd10:d < 10:=by omega
    have hb2:=put_last (m:=n.natAbs) rfl hd10 hd hb
    have hlen:(digs n.natAbs).length = 19 - i:=by
     rw [hd,List.length_append,Int.natAbs_neg,Int.natAbs_natCast,digs_lt hd10]; simp; omega
    by_cases hneg:n < 0
    ·first
      | (exfalso; omega)
      | (have hb3:=put_sign hb2
         obtain ⟨L,hL⟩:∃ L,L = 20 - i:=⟨_,rfl⟩
         have hsl:=slice_tail w.heap.size i L (i:Int) rfl (by omega) (by omega)
         have hcv:=tail_text hb3 L (by simp; omega)
         have HB:Hid (Below w.heap.size w ((wr.setCell ⟨w.heap.size,i + 1,none⟩ (.int .u8 (48 + (d:Int)))).setCell ⟨w.heap.size,i,none⟩ (.int .u8 45))):=Lib.hid ((hbel.setCell (Nat.le_refl _) _).setCell (Nat.le_refl _) _)
         clear hb hb2 hb3 hlen hd hp hl hL hbel
         go_wp2_with (go_at_call 74; refine (vdigit_any _ _ (by omega) (by omega)).mono ?_; rintro e w' ⟨rfl,rfl⟩)
         go_ret
         exact ⟨val_str (by unfold text; rw [if_pos (by omega)]),HB.out⟩)
    ·first
      | (exfalso; omega)
      | (obtain ⟨L,hL⟩:∃ L,L = 19 - i:=⟨_,rfl⟩
         have hsl:=slice_tail w.heap.size (i + 1) L ((i:Int) + 1) rfl (by omega) (by omega)
         have hcv:=tail_text hb2 L (by omega)
         have HB:Hid (Below w.heap.size w (wr.setCell ⟨w.heap.size,i + 1,none⟩ (.int .u8 (48 + (d:Int))))):=Lib.hid (hbel.setCell (Nat.le_refl _) _)
         clear hb hb2 hlen hd hp hl hL hbel hc' hf'
         go_wp2_with (go_at_call 74; refine (vdigit_any _ _ (by omega) (by omega)).mono ?_; rintro e w' ⟨rfl,rfl⟩)
         go_ret
         exact ⟨val_str (by unfold text; rw [if_neg (by omega)]),HB.out⟩)
end Go.Proofs.YtcofikjpplkjdaaGreatDoor