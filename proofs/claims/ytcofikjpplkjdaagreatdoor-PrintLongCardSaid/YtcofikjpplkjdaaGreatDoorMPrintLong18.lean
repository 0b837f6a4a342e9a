/- ShapeSpec, CurNew, ScanSpec, ScanRef, ScanRefOne, joined. -/
import Derived.Test.YtcofikjpplkjdaaGreatDoorMPrintLong04
import Derived.Deep.AppendLies
import Derived.Laws.MakeOwn
import Derived.OwnWalk
import Derived.Test.YtcofikjpplkjdaaGreatDoorMPrintLong00
import Derived.Test.YtcofikjpplkjdaaGreatDoorRows
import Derived.Test.YtcofikjpplkjdaaGreatDoorMPrintLong02
import Derived.BigQuiet
import Derived.Deep.QuietTactic
import Derived.IntWalk
namespace Go.Proofs.YtcofikjpplkjdaaGreatDoor
namespace ShapeSpec
structure Sh where
 kind:Int
 par:Int
def par (l:List Sh) (i:Nat):Int:=(l[i]?).elim (-1) (·.par)
def kind (l:List Sh) (i:Nat):Int:=(l[i]?).elim 0 (·.kind)
theorem par_at {l:List Sh} {i:Nat} {s:Sh} (h:l[i]? = some s):par l i = s.par:=by simp [par,h]
theorem kind_at {l:List Sh} {i:Nat} {s:Sh} (h:l[i]? = some s):kind l i = s.kind:=by simp [kind,h]
def upF (l:List Sh):Nat → Nat → List Nat
 | 0,_ => []
 | f + 1,i => if 0 ≤ par l i ∧ par l i < i then (par l i).toNat :: upF l f (par l i).toNat else []
theorem upF_fuel (l:List Sh):∀ f g i,i ≤ f → i ≤ g → upF l f i = upF l g i
 | 0,0,_,_,_ => rfl
 | 0,g + 1,i,h,_ => by
   obtain rfl:i = 0:=by omega
   rw [upF,upF,if_neg (by omega)]
 | f + 1,0,i,_,h => by
   obtain rfl:i = 0:=by omega
   rw [upF,upF,if_neg (by omega)]
 | f + 1,g + 1,i,hf,hg => by
   rw [upF,upF]
   split
   ·rw [upF_fuel l f g _ (by omega) (by omega)]
   ·rfl
def up (l:List Sh) (i:Nat):List Nat:=upF l i i
theorem up_no {l:List Sh} {i:Nat} (h:¬ (0 ≤ par l i ∧ par l i < i)):up l i = []:=by
 unfold up
 cases i with
 | zero => rfl
 | succ i => rw [upF,if_neg h]
theorem up_par {l:List Sh} {i:Nat} (h0:0 ≤ par l i) (h1:par l i < i):up l i = (par l i).toNat :: up l (par l i).toNat:=by
 unfold up
 cases i with
 | zero => omega
 | succ i => rw [upF,if_pos ⟨h0,h1⟩,upF_fuel l i _ _ (by omega) (Nat.le_refl _)]
def sf (l:List Sh) (i:Nat):List Nat:=i :: up l i
theorem up_sf {l:List Sh} {i:Nat} (h0:0 ≤ par l i) (h1:par l i < i):up l i = sf l (par l i).toNat:=up_par h0 h1
theorem up_of {l:List Sh} {i p:Nat} (h:par l i = p) (h1:p < i):up l i = sf l p:=by
 rw [up_sf (by omega) (by omega),h]
 rfl
theorem up_lt {l:List Sh}:∀ {i j:Nat},j ∈ up l i → j < i:=by
 intro i
 induction i using Nat.strongRecOn with
 | ind i ih =>
   intro j h
   by_cases hp:0 ≤ par l i ∧ par l i < i
   ·rw [up_par hp.1 hp.2,List.mem_cons] at h
    rcases h with rfl | h
    ·omega
    ·have:=ih _ (by omega) h
     omega
   ·rw [up_no hp] at h
    simp at h
theorem sf_le {l:List Sh} {i j:Nat} (h:j ∈ sf l i):j ≤ i:=by
 rcases List.mem_cons.1 h with rfl | h
 ·omega
 ·exact Nat.le_of_lt (up_lt h)
theorem sf_self (l:List Sh) (i:Nat):i ∈ sf l i:=List.mem_cons_self ..
theorem sf_up {l:List Sh} {i j:Nat} (h:j ∈ sf l i) (hne:j ≠ i):j ∈ up l i:=by
 rcases List.mem_cons.1 h with rfl | h
 ·exact absurd rfl hne
 ·exact h
theorem up_in {l:List Sh} {i j:Nat} (h:j ∈ up l i):j ∈ sf l i:=List.mem_cons_of_mem _ h
theorem sf_chain {l:List Sh}:∀ {i j m:Nat},j ∈ sf l i → m ∈ sf l i → m ≤ j → m ∈ sf l j:=by
 intro i
 induction i using Nat.strongRecOn with
 | ind i ih =>
   intro j m hj hm hle
   by_cases hji:j = i
   ·subst hji
    exact hm
   ·have hj':=sf_up hj hji
    have hlt:=up_lt hj'
    have hm':=sf_up hm (by omega)
    by_cases hp:0 ≤ par l i ∧ par l i < i
    ·rw [up_sf hp.1 hp.2] at hj' hm'
     exact ih _ (by omega) hj' hm' hle
    ·rw [up_no hp] at hj'
     simp at hj'
theorem sf_sub {l:List Sh}:∀ {i j m:Nat},j ∈ sf l i → m ∈ sf l j → m ∈ sf l i:=by
 intro i
 induction i using Nat.strongRecOn with
 | ind i ih =>
   intro j m hj hm
   by_cases hji:j = i
   ·subst hji
    exact hm
   ·have hj':=sf_up hj hji
    by_cases hp:0 ≤ par l i ∧ par l i < i
    ·rw [up_sf hp.1 hp.2] at hj'
     refine up_in ?_
     rw [up_sf hp.1 hp.2]
     exact ih _ (by omega) hj' hm
    ·rw [up_no hp] at hj'
     simp at hj'
theorem up_length_le (l:List Sh):∀ i,(up l i).length ≤ i:=by
 intro i
 induction i using Nat.strongRecOn with
 | ind i ih =>
   by_cases hp:0 ≤ par l i ∧ par l i < i
   ·rw [up_par hp.1 hp.2,List.length_cons]
    have:=ih (par l i).toNat (by omega)
    omega
   ·rw [up_no hp]
    simp
def hangB (l:List Sh) (i:Nat):Bool :=
 if i = 0 then decide (par l i = -1) else decide (0 ≤ par l i) && decide (par l i < i) && decide (kind l (par l i).toNat ≠ 1) && decide ((par l i).toNat ∈ sf l (i - 1))
def goodB (l:List Sh) (i:Nat):Bool:=decide (1 ≤ kind l i) && decide (kind l i ≤ 3) && hangB l i
def standB (l:List Sh):Bool:=decide (0 < l.length) && (List.range l.length).all (goodB l)
def deepB (l:List Sh):Bool:=(List.range l.length).any fun i => decide (11 < (up l i).length)
def chk (l:List Sh):Int:=if 60 < l.length then 8 else if standB l = false then 1 else if deepB l = true then 6 else 0
def SU (l:List Sh) (n:Nat):Prop:=∀ i,i < n → goodB l i = true
theorem SU.zero (l:List Sh):SU l 0:=fun _ h => absurd h (by omega)
theorem SU.next {l:List Sh} {n:Nat} (h:SU l n) (hg:goodB l n = true):SU l (n + 1):=fun i hi => by
 by_cases e:i = n
 ·rw [e]; exact hg
 ·exact h i (by omega)
theorem SU.mono {l:List Sh} {n m:Nat} (h:SU l n) (hm:m ≤ n):SU l m:=fun i hi => h i (by omega)
theorem SU.root {l:List Sh} {n:Nat} (h:SU l n) (hn:0 < n):par l 0 = -1:=by
 have:=h 0 hn
 simp [goodB,hangB] at this
 exact this.2
theorem SU.par {l:List Sh} {n i:Nat} (h:SU l n) (hi:i < n) (h0:0 < i):0 ≤ par l i ∧ par l i < i ∧ (par l i).toNat ∈ sf l (i - 1):=by
 have:=h i hi
 have e:i ≠ 0:=by omega
 simp [goodB,hangB,e] at this
 exact ⟨this.2.1.1.1,this.2.1.1.2,this.2.2⟩
theorem SU.parn {l:List Sh} {n i:Nat} (h:SU l n) (hi:i < n) (h0:0 < i):∃ p:Nat,ShapeSpec.par l i = p ∧ p < i ∧ up l i = sf l p ∧ p ∈ sf l (i - 1):=by
 obtain ⟨a,b,c⟩:=h.par hi h0
 exact ⟨(ShapeSpec.par l i).toNat,by omega,by omega,up_sf a b,c⟩
theorem stand_su {l:List Sh} (h:standB l = true):0 < l.length ∧ SU l l.length:=by
 simp [standB] at h
 refine ⟨?_,fun i hi => h.2 i hi⟩
 cases l with
 | nil => simp at h
 | cons => simp
theorem stand_of {l:List Sh} (h0:0 < l.length) (h:SU l l.length):standB l = true:=by
 simp only [standB,Bool.and_eq_true,decide_eq_true_eq,List.all_eq_true,List.mem_range]
 exact ⟨h0,h⟩
theorem stand_not {l:List Sh} {i:Nat} (hi:i < l.length) (h:goodB l i = false):standB l = false:=by
 cases hs:standB l with
 | false => rfl
 | true => rw [(stand_su hs).2 i hi] at h; cases h
theorem chk_ok {l:List Sh} (h:chk l = 0):l.length ≤ 60 ∧ standB l = true ∧ ∀ i,i < l.length → (up l i).length ≤ 11:=by
 unfold chk at h
 split at h
 ·cases h
 ·split at h
  ·cases h
  ·split at h
   ·cases h
   ·rename_i h1 h2 h3
    refine ⟨by omega,by simpa using h2,fun i hi => ?_⟩
    simp only [deepB,Bool.not_eq_true,List.any_eq_false,List.mem_range,decide_eq_true_eq] at h3
    exact Nat.le_of_not_lt (h3 i hi)
theorem chk_su {l:List Sh} (h:chk l = 0):SU l l.length:=(stand_su (chk_ok h).2.1).2
def kidsTo (l:List Sh) (i n:Nat):List Int:=((List.range n).filter fun k => decide (par l k = i)).map Int.ofNat
def kids (l:List Sh) (i:Nat):List Int:=kidsTo l i l.length
theorem kids_yes {l:List Sh} {i n:Nat} (h:par l n = i):kidsTo l i (n + 1) = kidsTo l i n ++ [(n:Int)]:=by simp [kidsTo,List.range_succ,List.filter_append,h]
theorem kids_no {l:List Sh} {i n:Nat} (h:par l n ≠ i):kidsTo l i (n + 1) = kidsTo l i n:=by simp [kidsTo,List.range_succ,List.filter_append,h]
theorem kids_le (l:List Sh) (i n:Nat):(kidsTo l i n).length ≤ n:=by
 unfold kidsTo
 rw [List.length_map]
 have:=List.length_filter_le (fun k => decide (par l k = i)) (List.range n)
 simpa using this
def endTo (l:List Sh) (i:Nat):Nat → Nat
 | 0 => i + 1
 | k + 1 => if i ∈ up l k then k + 1 else endTo l i k
def endOf (l:List Sh) (i:Nat):Nat:=endTo l i l.length
theorem endTo_gt {l:List Sh} {i:Nat}:∀ n,i < endTo l i n
 | 0 => by rw [endTo]; omega
 | n + 1 => by
   rw [endTo]
   split
   ·have:=up_lt ‹_›
    omega
   ·exact endTo_gt n
theorem endTo_le {l:List Sh} {i:Nat}:∀ {n},endTo l i n ≤ max (i + 1) n
 | 0 => by rw [endTo]; omega
 | n + 1 => by
   rw [endTo]
   split
   ·omega
   ·have:=endTo_le (l:=l) (i:=i) (n:=n)
    omega
theorem endTo_mem {l:List Sh} {i k:Nat} (h:i ∈ up l k):∀ {n},k < n → k < endTo l i n
 | 0,hk => absurd hk (by omega)
 | n + 1,hk => by
   rw [endTo]
   split
   ·omega
   ·rename_i hn
    have:k ≠ n:=by rintro rfl; exact hn h
    exact endTo_mem h (by omega)
theorem endTo_last {l:List Sh} {i:Nat}:∀ {n},endTo l i n = i + 1 ∨ i ∈ up l (endTo l i n - 1) ∧ endTo l i n ≤ n
 | 0 => .inl rfl
 | n + 1 => by
   rw [endTo]
   split
   ·exact .inr ⟨by simpa using ‹i ∈ up l n›,Nat.le_refl _⟩
   ·rcases endTo_last (l:=l) (i:=i) (n:=n) with h | ⟨h,h'⟩
    ·exact .inl h
    ·exact .inr ⟨h,by omega⟩
theorem below_stop {l:List Sh} {n i k:Nat} (h:SU l n) (hk:k < n) (hi:i < k) (hno:i ∉ sf l (k - 1)):i ∉ up l k:=by
 obtain ⟨p,hp,hlt,hup,hin⟩:=h.parn hk (by omega)
 rw [hup]
 exact fun hm => hno (sf_sub hin hm)
theorem below_none {l:List Sh} {n i e:Nat} (h:SU l n) (hi:i < e) (hno:i ∉ up l e):∀ k,e ≤ k → k < n → i ∉ up l k:=by
 intro k
 induction k with
 | zero => intro h1 _; omega
 | succ k ih =>
   intro h1 h2
   by_cases e1:e = k + 1
   ·rw [← e1]
    exact hno
   ·have hk:=ih (by omega) (by omega)
    refine below_stop h h2 (by omega) fun hm => hk (sf_up (by simpa using hm) (by omega))
theorem end_bd {l:List Sh} {i:Nat} (hi:i < l.length):i < endOf l i ∧ endOf l i ≤ l.length:=by
 refine ⟨endTo_gt _,?_⟩
 have:=endTo_le (l:=l) (i:=i) (n:=l.length)
 unfold endOf
 omega
theorem end_iff {l:List Sh} {i k:Nat} (h:SU l l.length) (hi:i < l.length) (hk:k < l.length):i ∈ sf l k ↔ i ≤ k ∧ k < endOf l i:=by
 constructor
 ·intro hm
  refine ⟨sf_le hm,?_⟩
  by_cases e:i = k
  ·rw [← e]
   exact (end_bd hi).1
  ·exact endTo_mem (sf_up hm e) hk
 ·rintro ⟨h1,h2⟩
  rcases Classical.em (i ∈ sf l k) with hm | hm
  ·exact hm
  ·exfalso
   have hne:i ≠ k:=by rintro rfl; exact hm (sf_self _ _)
   have hno:i ∉ up l k:=fun hu => hm (up_in hu)
   rcases endTo_last (l:=l) (i:=i) (n:=l.length) with e | ⟨e,e'⟩
   ·have:endOf l i = i + 1:=e
    omega
   ·have hlt:k < endTo l i l.length:=h2
    exact below_none h (by omega) hno (endTo l i l.length - 1) (by omega) (by omega) e
def meet (l:List Sh) (i k:Nat):Int:=((sf l i).find? fun a => decide (a ∈ sf l k)).elim (-1) Int.ofNat
end ShapeSpec
end Go.Proofs.YtcofikjpplkjdaaGreatDoor
namespace Go.Proofs.YtcofikjpplkjdaaGreatDoor
open Go.RowKit CurSpec
set_option maxRecDepth 100000
theorem info_tk:(Tryz.prog.info? 92).map (fun i => (i.zero,i.size,i.bytes)) = some (some (.agg #[.int .i64 0,.string ByteArray.empty,.int .i64 0,.int .i64 0]),4,40):=by kernel_rfl
def lastP (L:List Tk):Int × Int:=match L.getLast? with | none => (0,0) | some t => (t.l,t.c)
theorem full_snoc:∀ (L:List Tk) (a b:Int),full L a b = L ++ [⟨0,⟨#[]⟩,(match L.getLast? with | none => (a,b) | some t => (t.l,t.c)).1,(match L.getLast? with | none => (a,b) | some t => (t.l,t.c)).2⟩]
 | [],a,b => rfl
 | t :: r,a,b => by
   rw [full,full_snoc r t.l t.c]
   cases r with
   | nil => rfl
   | cons u q =>
     rw [List.getLast?_cons_cons]
     obtain ⟨x,hx⟩:∃ x,(u :: q).getLast? = some x:=⟨_,List.getLast?_eq_some_getLast (by simp)⟩
     rw [hx]
     rfl
theorem full_zero (L:List Tk):full L 0 0 = L ++ [⟨0,⟨#[]⟩,(lastP L).1,(lastP L).2⟩]:=full_snoc L 0 0
def NewPost (W:World) (l:List Tk) (e:Ending) (w':World):Prop :=
 ∃ B,e = .returned (.pointer (some ⟨B,0,none⟩)) ∧ W.heap.size ≤ B ∧ CurAt w' B ⟨l,0,0,0,0,0⟩ ∧ Below W.heap.size W w'
theorem last_cells {w:World} {b off m:Nat} {l:List Tk} (hl:m + 1 = l.length) (hcell:∀ j u,(tksV l)[j]? = some u → w.cell? ⟨b,off + j,none⟩ = some u) :
 w.cell? ⟨b,off + m * 4 + 2,none⟩ = some (.int .i64 (lastP l).1) ∧ w.cell? ⟨b,off + m * 4 + 3,none⟩ = some (.int .i64 (lastP l).2):=by
 obtain ⟨t,ht⟩:∃ t,l[m]? = some t:=get_some (by omega)
 have hlast:l.getLast? = some t:=by rw [List.getLast?_eq_getElem?,← hl]; exact ht
 obtain ⟨_,_,g2,g3⟩:=tksV_get ht
 unfold lastP
 rw [hlast]
 exact ⟨hcell _ _ g2,hcell _ _ g3⟩
theorem lastP_nil {l:List Tk} (h:l.length = 0):lastP l = (0,0):=by rw [List.eq_nil_of_length_eq_zero h]; rfl
theorem new_fin {W w2:World} {l:List Tk} {n g cap:Nat} {p1 p2:Int} (hn:n = l.length) (hp:lastP l = (p1,p2)) (hb:Below W.heap.size W w2) (hg:g < w2.heap.size)
 (hown:w2.ownsRow (W.heap.size + 1) 92 4 (.slice (some ⟨g,0,none⟩) (n + 1) cap) (n + 1) (tksV l ++ [.int .i64 0,.string ⟨#[]⟩,.int .i64 p1,.int .i64 p2])) :
 NewPost W l (.returned (.pointer (some ⟨w2.heap.size,0,none⟩))) (w2.alloc (.cells #[.slice (some ⟨g,0,none⟩) (n + 1) cap,.int .i64 0,.int .i64 0,.int .i64 0] 105)):=by
 refine ⟨_,rfl,hb.size,⟨g,0,n,cap,heap_alloc_new _ _,by omega,hn,Toks.alloc ⟨n + 1,by rw [full_length,hn],?_⟩ _⟩,hb.alloc hb.size _⟩
 have e:tksV (full l 0 0) = tksV l ++ [.int .i64 0,.string ⟨#[]⟩,.int .i64 p1,.int .i64 p2]:=by
  rw [full_zero,hp]
  simp [tksV,tkV]
 show Rdk 4 w2 _ (n + 1) (tksV (full l 0 0))
 rw [e]
 exact Rdk.own hown
theorem made_at {W:World} {base cap H:Nat} {cur:Array Value} (hH:W.heap.size = H) (hb:base ≤ W.heap.size) (hm:cap ≤ maxLen) (hs:cur.size = cap * 4) :
 (W.alloc (.cells cur 92)).ownsRow base 92 4 (.slice (some ⟨H,0,none⟩) 0 cap) 0 []:=by
 subst hH
 exact World.ownsRow_made W cur cap hb hm hs
structure NewMid (W:World) (l:List Tk) (n:Nat) (p1 p2:Int) (v:Value) (w1:World):Prop where
 tok:w1.heap[W.heap.size]? = some (.cells #[.int .i64 0,.string ⟨#[]⟩,.int .i64 p1,.int .i64 p2] 92 (0,0))
 own:w1.ownsRow (W.heap.size + 1) 92 4 v n (tksV l)
 below:Below W.heap.size W w1
theorem new_mid {W w1:World} {l:List Tk} {n cap:Nat} {p1 p2:Int} {v:Value} {mk:Array Value}
 (hown:w1.ownsRow (W.heap.size + 1) 92 4 v n (tksV l))
 (hg:((W.alloc (.cells #[.int .i64 0,.string ⟨#[]⟩,.int .i64 p1,.int .i64 p2] 92)).alloc (.cells mk 92)).grownBy w1 (Value.ownBlock (.slice (some ⟨W.heap.size + 1,0,none⟩) 0 cap))) :
 NewMid W l n p1 p2 v w1:=by
 have hz:=hg.size
 simp only [World.size_alloc] at hz
 refine ⟨?_,hown,⟨hg.os,hg.tape,hg.output,by omega,fun i hi => ?_⟩⟩
 ·exact (hg.block _ (by simp; omega) (by simp [Value.ownBlock])).trans ((heap_alloc_old _ _ (by simp)).trans (heap_alloc_new _ _))
 ·exact (hg.block i (by simp; omega) (by simp [Value.ownBlock]; omega)).trans ((heap_alloc_old _ _ (by simp; omega)).trans (heap_alloc_old _ _ hi))
theorem new_below {W w1 w2:World} {l:List Tk} {n:Nat} {p1 p2:Int} {v:Value} {o:Obj} (h:NewMid W l n p1 p2 v w1) (hg:(w1.alloc o).grownBy w2 v.ownBlock):Below W.heap.size W w2:=by
 have hb:=own_block_bd h.own
 have hz:=hg.size
 have hz1:=h.below.size
 simp only [World.size_alloc] at hz
 refine h.below.trans ⟨hg.os,hg.tape,hg.output,by omega,fun i hi => ?_⟩
 exact (hg.block i (by simp; omega) (fun e => by have:=(hb i e.symm).1; omega)).trans (heap_alloc_old _ _ (by omega))
set_option maxHeartbeats 2000000 in
theorem new_any (A:Option Addr) (n cp:Nat) (l:List Tk) (w:World) (h:Toks w (.slice A n cp) l) (hl:n ≤ 1000000):Calls Tryz.prog 24 #[.slice A n cp] w (NewPost w l):=by
 obtain ⟨i0,hi,hz0,hz1,hz2⟩:=info_parts info_tk
 obtain ⟨n',hn',hR⟩:=h
 obtain rfl:n = n':=by obtain ⟨A',c',heq,_⟩:=hR; cases heq; rfl
 have hmk:∀ W,(Instr.makeSlice 56 (.int .i64 0) (.int .i64 ((n:Int) + 1))).run Tryz.prog W = .ok (.slice (some ⟨W.heap.size,0,none⟩) 0 (n + 1)) (W.alloc (.cells (madeCells (Value.agg #[.int .i64 0,.string ByteArray.empty,.int .i64 0,.int .i64 0]).cells ((n + 1) * 4)) 92)):=fun W => by
  have h:=run_make (P:=Tryz.prog) W 56 92 i0 _ Tryz.underlying56 hi hz0 .i64 .i64 0 ((n:Int) + 1) (by omega) (by omega) (by rw [hz2]; omega) (by omega)
  rw [hz1] at h
  exact h
 have hms:=size_madeCells (Value.agg #[.int .i64 0,.string ByteArray.empty,.int .i64 0,.int .i64 0]).cells ((n + 1) * 4)
 generalize madeCells (Value.agg #[.int .i64 0,.string ByteArray.empty,.int .i64 0,.int .i64 0]).cells ((n + 1) * 4) = mk at hmk hms
 have HM:=Lib.hid hms
 have HR:=Lib.hid hR
 have HN:=Lib.hid hn'
 clear hms hR hn'
 rcases Nat.eq_zero_or_pos n with h0 | h0
 ·have hp:lastP l = (0,0):=lastP_nil (by rw [← HN.out]; exact h0)
  have HP:=Lib.hid hp
  have hn0:n ≤ 0:=by omega
  have hd:decide (0 < (n:Int)) = false:=decide_eq_false (by omega)
  clear hp h0
  go_enter Tryz.func24,Tryz.ntmps24
  go_wp2_with (at_builtin; refine wpList_append_rdk _ rfl (.tmp 21) (.tmp 22) 56 rfl (w.heap.size + 1) 92 i0 _ 4 40 Tryz.underlying56 hi hz0 hz1 hz2 rfl (by decide) _ 0 [] rfl (made_at (by simp) (by simp) (by unfold maxLen; omega) HM.out) _ n (tksV l) rfl ((HR.out.alloc _).alloc _) (tksV_one l) (by unfold maxLen; omega) (by omega) (by simp) ?_)
  intro v1 w1 hown1 hgrow1 _
  have HMid:=Lib.hid (new_mid hown1 hgrow1)
  clear hown1 hgrow1 hmk
  obtain ⟨t0,t1,t2,t3⟩:=cells_4 HMid.out.tok
  go_wp2_with (at_builtin; refine wpList_append_lies _ rfl (.tmp 24) (.tmp 26) 56 rfl (w.heap.size + 1) 92 i0 _ 4 40 Tryz.underlying56 hi hz0 hz1 hz2 rfl (by decide) v1 n (tksV l) rfl (HMid.out.own.alloc _) ⟨w1.heap.size,0,none⟩ 1 1 [.int .i64 0,.string ⟨#[]⟩,.int .i64 0,.int .i64 0] rfl rfl (World.news_of_block (cs:=#[.int .i64 0,.string ⟨#[]⟩,.int .i64 0,.int .i64 0]) (heap_alloc_new w1 _)) (by simp [Value.oneCell']) (by decide) (by unfold maxLen; omega) (by omega) (by have:=HMid.out.below.size; have:=HMid.out.own.2; have:=(Array.getElem?_eq_some_iff.1 HMid.out.tok).1; simp; omega) (w1.heap.size + 1) (by simp) ?_)
  intro g cap w2 hown2 hgrow2 _ hlt2
  have HE:=Lib.hid (new_fin HN.out HP.out (new_below HMid.out hgrow2) hlt2 hown2)
  clear hown2 hgrow2 t0 t1 t2 t3
  go_wp2_with fail
  go_ret
  exact HE.out
 ·obtain ⟨m,rfl⟩:∃ m,n = m + 1:=⟨n - 1,by omega⟩
  have hR:=HR.out
  obtain ⟨A',c',heq,_,_,hA⟩:=hR
  cases heq
  obtain ⟨b,off,rfl,hlt,hcell⟩:=hA (by omega)
  obtain ⟨c2,c3⟩:=last_cells HN.out hcell
  obtain ⟨p1,p2,hp⟩:∃ p1 p2,lastP l = (p1,p2):=⟨_,_,rfl⟩
  rw [hp] at c2 c3
  simp only at c2 c3
  have HP:=Lib.hid hp
  rw [show ((m + 1:Nat):Int) = (m:Int) + 1 by omega] at hmk
  clear hp hcell hA h0
  go_enter Tryz.func24,Tryz.ntmps24
  go_wp2_with (at_builtin; refine wpList_append_rdk _ rfl (.tmp 21) (.tmp 22) 56 rfl (w.heap.size + 1) 92 i0 _ 4 40 Tryz.underlying56 hi hz0 hz1 hz2 rfl (by decide) _ 0 [] rfl (made_at (by simp) (by simp) (by unfold maxLen; omega) HM.out) _ (m + 1) (tksV l) rfl ((HR.out.alloc _).alloc _) (tksV_one l) (by unfold maxLen; omega) (by omega) (by simp) ?_)
  intro v1 w1 hown1 hgrow1 _
  have HMid:=Lib.hid (new_mid hown1 hgrow1)
  clear hown1 hgrow1 hmk c2 c3
  obtain ⟨t0,t1,t2,t3⟩:=cells_4 HMid.out.tok
  go_wp2_with (at_builtin; refine wpList_append_lies _ rfl (.tmp 24) (.tmp 26) 56 rfl (w.heap.size + 1) 92 i0 _ 4 40 Tryz.underlying56 hi hz0 hz1 hz2 rfl (by decide) v1 (m + 1) (tksV l) rfl (HMid.out.own.alloc _) ⟨w1.heap.size,0,none⟩ 1 1 [.int .i64 0,.string ⟨#[]⟩,.int .i64 p1,.int .i64 p2] rfl rfl (World.news_of_block (cs:=#[.int .i64 0,.string ⟨#[]⟩,.int .i64 p1,.int .i64 p2]) (heap_alloc_new w1 _)) (by simp [Value.oneCell']) (by decide) (by unfold maxLen; omega) (by omega) (by have:=HMid.out.below.size; have:=HMid.out.own.2; have:=(Array.getElem?_eq_some_iff.1 HMid.out.tok).1; simp; omega) (w1.heap.size + 1) (by simp) ?_)
  intro g cap w2 hown2 hgrow2 _ hlt2
  have HE:=Lib.hid (new_fin HN.out HP.out (new_below HMid.out hgrow2) hlt2 hown2)
  clear hown2 hgrow2 t0 t1 t2 t3
  go_wp2_with fail
  go_ret
  exact HE.out
end Go.Proofs.YtcofikjpplkjdaaGreatDoor
namespace Go.Proofs.YtcofikjpplkjdaaGreatDoor
namespace ScanSpec
def isLow (c:UInt8):Bool:=decide (97 ≤ (c.toNat:Int)) && decide ((c.toNat:Int) ≤ 122)
def isDig (c:UInt8):Bool:=decide (48 ≤ (c.toNat:Int)) && decide ((c.toNat:Int) ≤ 57)
def isBlank (c:UInt8):Bool:=(c.toNat == 32 || c.toNat == 9) || c.toNat == 10 || c.toNat == 13
def clsB (c:UInt8):Int:=if isLow c then 1 else if isDig c then 2 else if c.toNat = 95 then 3 else if isBlank c then 4 else if c.toNat = 35 then 5 else 0
def cls (l:List UInt8) (i:Nat):Int:=match l[i]? with | some c => clsB c | none => 0
def gapRun:Bool → List UInt8 → Nat
 | _,[] => 0
 | false,c :: t => if clsB c = 4 then gapRun false t + 1 else if clsB c = 5 then gapRun true t + 1 else 0
 | true,c :: t => if c.toNat = 10 then gapRun false t + 1 else gapRun true t + 1
def gap (l:List UInt8) (i:Nat):Nat:=i + gapRun false (l.drop i)
def run (p:UInt8 → Bool):List UInt8 → Nat
 | [] => 0
 | c :: t => if p c then run p t + 1 else 0
def isWord (c:UInt8):Bool:=decide (1 ≤ clsB c) && decide (clsB c ≤ 3)
def isNum (c:UInt8):Bool:=decide (clsB c = 2)
def marks:List (List UInt8):=[[45,62],[58,61],[60,61],[62,61],[33,61],[61,61],[46,46],[123],[125],[91],[93],[40],[41],[44],[59],[61],[60],[62],[43],[45],[42],[47]]
def markLen (d:List UInt8):Nat:=match marks.find? fun m => m.isPrefixOf d with | some m => m.length | none => 0
def one (d:List UInt8):Int × Nat × Int :=
 if cls d 0 = 1 then (if 12 < run isWord d then (0,0,5) else (1,run isWord d,0))
 else if cls d 0 = 2 then (if cls d (run isNum d) = 1 ∨ cls d (run isNum d) = 3 then (0,0,2) else if 9 < run isNum d then (0,0,5) else (2,run isNum d,0))
 else if markLen d = 0 then (0,0,2) else (3,markLen d,0)
def posGo:List UInt8 → Int × Int → Int × Int
 | [],p => p
 | c :: t,p => posGo t (if c.toNat = 10 then (p.1 + 1,1) else (p.1,p.2 + 1))
def pos (l:List UInt8) (i:Nat):Int × Int:=posGo (l.take i) (1,1)
theorem posGo_snoc (l:List UInt8) (c:UInt8) (p:Int × Int):posGo (l ++ [c]) p = (if c.toNat = 10 then ((posGo l p).1 + 1,1) else ((posGo l p).1,(posGo l p).2 + 1)):=by
 induction l generalizing p with
 | nil => rfl
 | cons a t ih => simp only [List.cons_append,posGo,ih]
theorem pos_next {l:List UInt8} {i:Nat} {c:UInt8} (h:l[i]? = some c):pos l (i + 1) = (if c.toNat = 10 then ((pos l i).1 + 1,1) else ((pos l i).1,(pos l i).2 + 1)):=by
 unfold pos; rw [take_next h,posGo_snoc]
theorem posGo_bd (l:List UInt8) (p:Int × Int) (h1:1 ≤ p.1) (h2:1 ≤ p.2):1 ≤ (posGo l p).1 ∧ (posGo l p).1 ≤ p.1 + l.length ∧ 1 ≤ (posGo l p).2 ∧ (posGo l p).2 ≤ p.2 + l.length:=by
 induction l generalizing p with
 | nil => simp [posGo]; omega
 | cons a t ih =>
   simp only [posGo,List.length_cons]
   split
   ·have:=ih (p.1 + 1,1) (by simp; omega) (by simp)
    simp at this ⊢; omega
   ·have:=ih (p.1,p.2 + 1) (by simp; omega) (by simp; omega)
    simp at this ⊢; omega
theorem pos_bd (l:List UInt8) (i:Nat):1 ≤ (pos l i).1 ∧ (pos l i).1 ≤ 1 + i ∧ 1 ≤ (pos l i).2 ∧ (pos l i).2 ≤ 1 + i:=by
 have:=posGo_bd (l.take i) (1,1) (by simp) (by simp)
 have h:=List.length_take_le i l
 unfold pos
 simp at this
 omega
theorem cls_some {l:List UInt8} {i:Nat} {c:UInt8} (h:l[i]? = some c):cls l i = clsB c:=by unfold cls; rw [h]
theorem cls_none {l:List UInt8} {i:Nat} (h:l.length ≤ i):cls l i = 0:=by unfold cls; rw [List.getElem?_eq_none_iff.2 h]
theorem cls_drop (l:List UInt8) (i j:Nat):cls (l.drop i) j = cls l (i + j):=by unfold cls; rw [List.getElem?_drop]
theorem drop_next {l:List UInt8} {i:Nat} {c:UInt8} (h:l[i]? = some c):l.drop i = c :: l.drop (i + 1):=by
 have hi:=get_lt h
 rw [List.drop_eq_getElem_cons hi]
 congr 1
 rw [List.getElem?_eq_getElem hi] at h
 injection h
theorem drop_end {l:List UInt8} {i:Nat} (h:l.length ≤ i):l.drop i = []:=List.drop_eq_nil_of_le h
theorem clsB_35 {c:UInt8} (h:clsB c = 5):c.toNat = 35:=by
 unfold clsB at h
 split at h
 ·simp at h
 ·split at h
  ·simp at h
  ·split at h
   ·simp at h
   ·split at h
    ·simp at h
    ·split at h
     ·assumption
     ·simp at h
theorem clsB_10 {c:UInt8} (h:c.toNat = 10):clsB c = 4:=by
 unfold clsB isLow isDig isBlank
 rw [h]; rfl
theorem gap_blank {l:List UInt8} {i:Nat} (h:cls l i = 4):gap l (i + 1) = gap l i:=by
 unfold cls at h
 split at h
 ·rename_i c hc
  unfold gap
  rw [drop_next hc,gapRun,if_pos h]; omega
 ·simp at h
def rem (l:List UInt8) (i:Nat):Nat:=i + gapRun true (l.drop i)
theorem gap_remark {l:List UInt8} {i:Nat} (h:cls l i = 5):rem l i = gap l i:=by
 unfold cls at h
 split at h
 ·rename_i c hc
  unfold gap rem
  rw [drop_next hc,gapRun,gapRun,if_neg (by rw [clsB_35 h]; decide),if_neg (by rw [h]; decide),if_pos h]
 ·simp at h
theorem rem_next {l:List UInt8} {i:Nat} {c:UInt8} (hc:l[i]? = some c) (h:¬ c.toNat = 10):rem l (i + 1) = rem l i:=by
 unfold rem
 rw [drop_next hc,gapRun,if_neg h]; omega
theorem rem_line {l:List UInt8} {i:Nat} {c:UInt8} (hc:l[i]? = some c) (h:c.toNat = 10):rem l i = gap l i:=by
 unfold rem gap
 rw [drop_next hc,gapRun,gapRun,if_pos h,if_pos (clsB_10 h)]
theorem rem_end {l:List UInt8} {i:Nat} (h:l.length ≤ i):rem l i = gap l i:=by
 unfold rem gap
 rw [drop_end h]; rfl
theorem gap_stop {l:List UInt8} {i:Nat} (h4:¬ cls l i = 4) (h5:¬ cls l i = 5):gap l i = i:=by
 unfold gap
 rcases hc:l[i]? with _ | c
 ·rw [drop_end (List.getElem?_eq_none_iff.1 hc)]; rfl
 ·rw [cls_some hc] at h4 h5
  rw [drop_next hc,gapRun,if_neg h4,if_neg h5]; rfl
theorem gapRun_le (b:Bool) (l:List UInt8):gapRun b l ≤ l.length:=by
 induction l generalizing b with
 | nil => cases b <;> simp [gapRun]
 | cons c t ih =>
   have h1:=ih false
   have h2:=ih true
   cases b <;> simp only [gapRun,List.length_cons] <;> repeat' split
   all_goals omega
theorem gap_bd {l:List UInt8} {i:Nat} (h:i ≤ l.length):i ≤ gap l i ∧ gap l i ≤ l.length:=by
 have:=gapRun_le false (l.drop i)
 rw [List.length_drop] at this
 unfold gap; omega
theorem run_next {p:UInt8 → Bool} {l:List UInt8} {i:Nat} {c:UInt8} (hc:l[i]? = some c) (h:p c = true):i + 1 + run p (l.drop (i + 1)) = i + run p (l.drop i):=by
 rw [drop_next hc,run,if_pos h]; omega
theorem run_stop {p:UInt8 → Bool} {l:List UInt8} {i:Nat} (h:∀ c,l[i]? = some c → p c = false):run p (l.drop i) = 0:=by
 rcases hc:l[i]? with _ | c
 ·rw [drop_end (List.getElem?_eq_none_iff.1 hc)]; rfl
 ·rw [drop_next hc,run,if_neg (by rw [h c hc]; simp)]
theorem run_le (p:UInt8 → Bool) (l:List UInt8):run p l ≤ l.length:=by
 induction l with
 | nil => simp [run]
 | cons c t ih => simp only [run,List.length_cons]; split <;> omega
theorem run_pos {p:UInt8 → Bool} {l:List UInt8} {i:Nat} {c:UInt8} (hc:l[i]? = some c) (h:p c = true):0 < run p (l.drop i):=by
 rw [drop_next hc,run,if_pos h]; omega
theorem isWord_cls {l:List UInt8} {i:Nat} (h1:1 ≤ cls l i) (h3:cls l i ≤ 3):∃ c,l[i]? = some c ∧ isWord c = true:=by
 unfold cls at h1 h3
 split at h1
 ·rename_i c hc
  refine ⟨c,hc,?_⟩
  rw [hc] at h3
  simp [isWord,h1,h3]
 ·omega
structure Tok where
 kind:Int
 at_:Nat
 len:Nat
def scanGo (l:List UInt8):Nat → Nat → List Tok → List Tok × Nat × Int
 | 0,i,acc => (acc ++ [⟨0,i,0⟩],0,0)
 | f + 1,i,acc =>
   if l.length ≤ i then (acc ++ [⟨0,i,0⟩],0,0)
   else
    let t:=one (l.drop i)
    if t.2.2 ≠ 0 then ([],i,t.2.2)
    else if acc.length = 4000 then ([],i,8)
    else scanGo l f (gap l (i + t.2.1)) (acc ++ [⟨t.1,i,t.2.1⟩])
def scan (l:List UInt8):List Tok × Nat × Int:=scanGo l l.length (gap l 0) []
end ScanSpec
end Go.Proofs.YtcofikjpplkjdaaGreatDoor
namespace Go.Proofs.YtcofikjpplkjdaaGreatDoor
open Go.RowKit ScanSpec
theorem byte_at' (s:ByteArray) (i:Nat) (h:i < s.size):s.data.toList[i]? = some s[i]:=by
 rw [List.getElem?_eq_getElem (by simpa using h)]; rfl
theorem size_list' (s:ByteArray):s.data.toList.length = s.size:=rfl
theorem clsB_val (c:UInt8) (n:Int) (hn:n = (c.toNat:Int)):(97 ≤ n ∧ n ≤ 122 ∧ clsB c = 1) ∨ (48 ≤ n ∧ n ≤ 57 ∧ clsB c = 2) ∨ (n = 95 ∧ clsB c = 3) ∨ ((n = 32 ∨ n = 9 ∨ n = 10 ∨ n = 13) ∧ clsB c = 4) ∨ (n = 35 ∧ clsB c = 5) ∨
 ((n < 48 ∨ (57 < n ∧ n < 97) ∨ 122 < n) ∧ n ≠ 95 ∧ n ≠ 32 ∧ n ≠ 9 ∧ n ≠ 10 ∧ n ≠ 13 ∧ n ≠ 35 ∧ clsB c = 0):=by
 unfold clsB isLow isDig isBlank
 simp only [← hn,Bool.and_eq_true,Bool.or_eq_true,decide_eq_true_eq,beq_iff_eq]
 by_cases h1:97 ≤ n ∧ n ≤ 122
 ·exact .inl ⟨h1.1,h1.2,by rw [if_pos h1]⟩
 ·rw [if_neg h1]
  by_cases h2:48 ≤ n ∧ n ≤ 57
  ·exact .inr (.inl ⟨h2.1,h2.2,by rw [if_pos h2]⟩)
  ·rw [if_neg h2]
   by_cases h3:c.toNat = 95
   ·exact .inr (.inr (.inl ⟨by omega,by rw [if_pos h3]⟩))
   ·rw [if_neg h3]
    by_cases h4:((c.toNat = 32 ∨ c.toNat = 9) ∨ c.toNat = 10) ∨ c.toNat = 13
    ·exact .inr (.inr (.inr (.inl ⟨by omega,by rw [if_pos h4]⟩)))
    ·rw [if_neg h4]
     by_cases h5:c.toNat = 35
     ·exact .inr (.inr (.inr (.inr (.inl ⟨by omega,by rw [if_pos h5]⟩))))
     ·exact .inr (.inr (.inr (.inr (.inr ⟨by omega,by omega,by omega,by omega,by omega,by omega,by omega,by rw [if_neg h5]⟩))))
end Go.Proofs.YtcofikjpplkjdaaGreatDoor
namespace Go.Proofs.YtcofikjpplkjdaaGreatDoor
open Go.RowKit ScanSpec Go.BigFrame
theorem one_name {l:List UInt8} {i:Nat} (h:cls l i = 1):ScanSpec.one (l.drop i) = if 12 < run isWord (l.drop i) then (0,0,5) else (1,run isWord (l.drop i),0):=by
 unfold ScanSpec.one; rw [cls_drop,Nat.add_zero,if_pos h]
theorem one_num {l:List UInt8} {i:Nat} (h:cls l i = 2):ScanSpec.one (l.drop i) = if cls l (i + run isNum (l.drop i)) = 1 ∨ cls l (i + run isNum (l.drop i)) = 3 then (0,0,2) else if 9 < run isNum (l.drop i) then (0,0,5) else (2,run isNum (l.drop i),0):=by
 unfold ScanSpec.one; rw [cls_drop,Nat.add_zero,if_neg (by rw [h]; decide),if_pos h,cls_drop]
theorem one_mark {l:List UInt8} {i:Nat} (h1:¬ cls l i = 1) (h2:¬ cls l i = 2):ScanSpec.one (l.drop i) = if markLen (l.drop i) = 0 then (0,0,2) else (3,markLen (l.drop i),0):=by
 unfold ScanSpec.one; rw [cls_drop,Nat.add_zero,if_neg h1,if_neg h2]
theorem find_hit {α:Type} {p:α → Bool}:∀ {l:List α} {j:Nat} {x:α},l[j]? = some x → (∀ y ∈ l.take j,p y = false) → p x = true → l.find? p = some x
 | [],_,_,h,_,_ => by simp at h
 | a :: t,0,x,h,_,hx => by
   simp at h; subst h; simp [hx]
 | a :: t,j + 1,x,h,hn,hx => by
   have ha:p a = false:=hn a (by simp)
   rw [List.find?_cons,ha]
   exact find_hit (j:=j) (by simpa using h) (fun y hy => hn y (by simp [hy])) hx
theorem mark_hit {d:List UInt8} {j:Nat} {m:List UInt8} (h:marks[j]? = some m) (hn:∀ y ∈ marks.take j,y.isPrefixOf d = false) (hm:m.isPrefixOf d = true):markLen d = m.length:=by
 unfold markLen; rw [find_hit (p:=fun m => m.isPrefixOf d) h hn hm]
end Go.Proofs.YtcofikjpplkjdaaGreatDoor