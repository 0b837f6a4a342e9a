/- CurMem, CurAt, CurDead, CurRef, CurLive, CurRefTake, joined. -/
import Derived.Test.YtjfghaohogcfbaaGreatDoorRows
import Derived.Test.YtjfghaohogcfbaaGreatDoorMFormatTwice02
import Derived.Test.YtjfghaohogcfbaaGreatDoorMFormatTwice01
import Derived.RegionTactic
import Derived.ChangeAlike
namespace Go.Proofs.YtjfghaohogcfbaaGreatDoor
open Go.RowKit CurSpec
def tkV (t:Tk):List Value:=[.int .i64 t.k,.string t.t,.int .i64 t.l,.int .i64 t.c]
def tksV (l:List Tk):List Value:=l.flatMap tkV
theorem tkV_length (t:Tk):(tkV t).length = 4:=rfl
theorem tksV_length (l:List Tk):(tksV l).length = l.length * 4:=flat_length tkV_length l
theorem tkV_one (t:Tk):∀ u ∈ tkV t,u.oneCell' = true:=by simp [tkV,Value.oneCell']
theorem tksV_one (l:List Tk):∀ u ∈ tksV l,u.oneCell' = true:=by
 intro u hu
 obtain ⟨t,_,h⟩:=List.mem_flatMap.1 hu
 exact tkV_one t u h
theorem tksV_cons (t:Tk) (l:List Tk):tksV (t :: l) = tkV t ++ tksV l:=by simp [tksV]
theorem tksV_get {l:List Tk} {i:Nat} {t:Tk} (h:l[i]? = some t):(tksV l)[i * 4]? = some (.int .i64 t.k) ∧ (tksV l)[i * 4 + 1]? = some (.string t.t) ∧ (tksV l)[i * 4 + 2]? = some (.int .i64 t.l) ∧ (tksV l)[i * 4 + 3]? = some (.int .i64 t.c) :=
 ⟨flat_get (j:=0) tkV_length h (by omega),flat_get (j:=1) tkV_length h (by omega),flat_get (j:=2) tkV_length h (by omega),flat_get (j:=3) tkV_length h (by omega)⟩
def tkA (t:Tk):Value:=.agg #[.int .i64 t.k,.string t.t,.int .i64 t.l,.int .i64 t.c]
def Toks (w:World) (v:Value) (l:List Tk):Prop:=∃ n,n = l.length ∧ Rdk 4 w v n (tksV l)
theorem Toks.keep {w w':World} {v:Value} {l:List Tk} (h:Toks w v l) (hb:Below w.heap.size w w'):Toks w' v l:=by
 obtain ⟨n,hn,h⟩:=h
 exact ⟨n,hn,h.keep hb⟩
theorem Toks.alloc {w:World} {v:Value} {l:List Tk} (h:Toks w v l) (o:Obj):Toks (w.alloc o) v l:=h.keep ((Below.refl _ _).alloc (Nat.le_refl _) _)
theorem Toks.cons {w:World} {v:Value} {t:Tk} {l:List Tk} (h:Toks w v (t :: l)) :
 ∃ b off n c,v = .slice (some ⟨b,off,none⟩) (n + 1) c ∧ n = l.length ∧ n + 1 ≤ c ∧ b < w.heap.size ∧ w.cell? ⟨b,off,none⟩ = some (.int .i64 t.k) ∧ w.cell? ⟨b,off + 1,none⟩ = some (.string t.t) ∧ w.cell? ⟨b,off + 2,none⟩ = some (.int .i64 t.l) ∧ w.cell? ⟨b,off + 3,none⟩ = some (.int .i64 t.c) ∧
   Toks w (.slice (some ⟨b,if c = 1 then off else off + 4,none⟩) n (c - 1)) l:=by
 obtain ⟨n,rfl,A,c,rfl,hc,hl,hA⟩:=h
 obtain ⟨b,off,rfl,hb,hcell⟩:=hA (by simp)
 have g:=tksV_get (l:=t :: l) (i:=0) rfl
 simp only [List.length_cons] at hc
 refine ⟨b,off,l.length,c,rfl,rfl,hc,hb,hcell 0 _ g.1,hcell 1 _ g.2.1,hcell 2 _ g.2.2.1,hcell 3 _ g.2.2.2,l.length,rfl,_,_,rfl,by omega,tksV_length l,fun h0 => ⟨b,off + 4,?_,hb,fun j u hj => ?_⟩⟩
 ·rw [if_neg (by omega)]
 ·rw [show off + 4 + j = off + (4 + j) by omega]
  refine hcell _ _ ?_
  rw [tksV_cons,List.getElem?_append_right (by rw [tkV_length]; omega),tkV_length,Nat.add_sub_cancel_left,hj]
theorem Toks.shape {w:World} {v:Value} {l:List Tk} (h:Toks w v l):∃ A n c,v = .slice A n c ∧ n = l.length:=by
 obtain ⟨n,hn,A,c,hv,_⟩:=h
 exact ⟨A,n,c,hv,hn⟩
theorem Toks.cons' {w:World} {A:Option Addr} {n cp:Nat} {t:Tk} {l:List Tk} (h:Toks w (.slice A n cp) (t :: l)) :
 ∃ b off m,A = some ⟨b,off,none⟩ ∧ n = m + 1 ∧ m + 1 ≤ cp ∧ b < w.heap.size ∧ w.cell? ⟨b,off,none⟩ = some (.int .i64 t.k) ∧ w.cell? ⟨b,off + 1,none⟩ = some (.string t.t) ∧ w.cell? ⟨b,off + 2,none⟩ = some (.int .i64 t.l) ∧ w.cell? ⟨b,off + 3,none⟩ = some (.int .i64 t.c) ∧
   Toks w (.slice (some ⟨b,if cp = 1 then off else off + 4,none⟩) m (cp - 1)) l:=by
 obtain ⟨b,off,m,c,heq,_,hc,hb,h0,h1,h2,h3,ht⟩:=h.cons
 cases heq
 exact ⟨b,off,m,rfl,rfl,hc,hb,h0,h1,h2,h3,ht⟩
def RetBool (W:World) (b:Bool) (e:Ending) (w':World):Prop:=e = .returned (.bool b) ∧ Below W.heap.size W w'
def RetTk (W:World) (k:Int) (s:ByteArray) (l c:Int) (e:Ending) (w':World):Prop:=e = .returned (.agg #[.int .i64 k,.string s,.int .i64 l,.int .i64 c]) ∧ Below W.heap.size W w'
def Blk (w:World) (b n:Nat):Prop:=∃ cs T,w.heap[b]? = some (.cells cs T (0,0)) ∧ cs.size = n
theorem Blk.of {w:World} {b:Nat} {cs:Array Value} {T:TypeId} (h:w.heap[b]? = some (.cells cs T (0,0))):Blk w b cs.size:=⟨cs,T,h,rfl⟩
theorem Blk.set {w:World} {b n:Nat} (h:Blk w b n) (i:Nat) (u:Value):Blk (w.setCell ⟨b,i,none⟩ u) b n:=by
 obtain ⟨cs,T,h,hn⟩:=h
 exact ⟨_,T,block_setCell' h i u,by rw [Array.size_setIfInBounds,hn]⟩
theorem Blk.read {w:World} {b n:Nat} (h:Blk w b n) (i:Nat) (hi:i < n) (u:Value):(w.setCell ⟨b,i,none⟩ u).cell? ⟨b,i,none⟩ = some u:=by
 obtain ⟨cs,T,h,hn⟩:=h
 exact cell_of_block' (block_setCell' h i u) (by rw [Array.getElem?_setIfInBounds_self,if_pos (by omega)])
theorem store_six {w:World} {b:Nat} (h:Blk w b 6) (u0 u1 u2 u3 u4 u5:Value) :
 (w.setCell ⟨b,0,none⟩ u0).cell? ⟨b,0,none⟩ = some u0 ∧ ((w.setCell ⟨b,0,none⟩ u0).setCell ⟨b,1,none⟩ u1).cell? ⟨b,1,none⟩ = some u1 ∧
 (((w.setCell ⟨b,0,none⟩ u0).setCell ⟨b,1,none⟩ u1).setCell ⟨b,2,none⟩ u2).cell? ⟨b,2,none⟩ = some u2 ∧
 ((((w.setCell ⟨b,0,none⟩ u0).setCell ⟨b,1,none⟩ u1).setCell ⟨b,2,none⟩ u2).setCell ⟨b,3,none⟩ u3).cell? ⟨b,3,none⟩ = some u3 ∧
 (((((w.setCell ⟨b,0,none⟩ u0).setCell ⟨b,1,none⟩ u1).setCell ⟨b,2,none⟩ u2).setCell ⟨b,3,none⟩ u3).setCell ⟨b,4,none⟩ u4).cell? ⟨b,4,none⟩ = some u4 ∧
 ((((((w.setCell ⟨b,0,none⟩ u0).setCell ⟨b,1,none⟩ u1).setCell ⟨b,2,none⟩ u2).setCell ⟨b,3,none⟩ u3).setCell ⟨b,4,none⟩ u4).setCell ⟨b,5,none⟩ u5).cell? ⟨b,5,none⟩ = some u5 :=
 ⟨h.read 0 (by omega) _,(h.set _ _).read 1 (by omega) _,((h.set _ _).set _ _).read 2 (by omega) _,(((h.set _ _).set _ _).set _ _).read 3 (by omega) _,((((h.set _ _).set _ _).set _ _).set _ _).read 4 (by omega) _,(((((h.set _ _).set _ _).set _ _).set _ _).set _ _).read 5 (by omega) _⟩
theorem store_4 {w:World} {b:Nat} (h:Blk w b 4) (u0 u1 u2 u3:Value) :
 (w.setCell ⟨b,0,none⟩ u0).cell? ⟨b,0,none⟩ = some u0 ∧ ((w.setCell ⟨b,0,none⟩ u0).setCell ⟨b,1,none⟩ u1).cell? ⟨b,1,none⟩ = some u1 ∧
 (((w.setCell ⟨b,0,none⟩ u0).setCell ⟨b,1,none⟩ u1).setCell ⟨b,2,none⟩ u2).cell? ⟨b,2,none⟩ = some u2 ∧
 ((((w.setCell ⟨b,0,none⟩ u0).setCell ⟨b,1,none⟩ u1).setCell ⟨b,2,none⟩ u2).setCell ⟨b,3,none⟩ u3).cell? ⟨b,3,none⟩ = some u3 :=
 ⟨h.read 0 (by omega) _,(h.set _ _).read 1 (by omega) _,((h.set _ _).set _ _).read 2 (by omega) _,(((h.set _ _).set _ _).set _ _).read 3 (by omega) _⟩
theorem below_4 {B:Nat} {w x:World} {b:Nat} (h:Below B w x) (hb:B ≤ b) (u0 u1 u2 u3:Value) :
 Below B w ((((x.setCell ⟨b,0,none⟩ u0).setCell ⟨b,1,none⟩ u1).setCell ⟨b,2,none⟩ u2).setCell ⟨b,3,none⟩ u3) :=
 (((h.setCell hb _).setCell hb _).setCell hb _).setCell hb _
theorem below_pair (w:World) (o p:Obj):Below w.heap.size w ((w.alloc o).alloc p):=((Below.refl _ _).alloc (Nat.le_refl _) _).alloc (by simp) _
theorem pair_blocks {w w2:World} {o p:Obj} (hb:Below ((w.alloc o).alloc p).heap.size ((w.alloc o).alloc p) w2) :
 w2.heap[w.heap.size]? = some o ∧ w2.heap[w.heap.size + 1]? = some p ∧ Below w.heap.size w w2 ∧ w.heap.size + 1 < w2.heap.size:=by
 have hz:=hb.size
 simp only [World.size_alloc] at hz
 refine ⟨(hb.block _ (by simp; omega)).trans ((heap_alloc_old _ _ (by simp)).trans (heap_alloc_new _ _)),(hb.block _ (by simp)).trans ?_,?_,by omega⟩
 ·have:=heap_alloc_new (w.alloc o) p
  rwa [World.size_alloc] at this
 ·exact (below_pair w o p).trans (hb.mono (by simp; omega))
theorem one_block {w w2:World} {o:Obj} (hb:Below (w.alloc o).heap.size (w.alloc o) w2):w2.heap[w.heap.size]? = some o ∧ Below w.heap.size w w2 ∧ w.heap.size < w2.heap.size:=by
 have hz:=hb.size
 simp only [World.size_alloc] at hz
 exact ⟨(hb.block _ (by simp)).trans (heap_alloc_new _ _),((Below.refl _ _).alloc (Nat.le_refl _) _).trans (hb.mono (by simp)),by omega⟩
theorem undrew {w w':World} (h:Below w.drew.heap.size w.drew w'):Below w.heap.size w w':=⟨h.os,h.tape,h.output,h.size,h.block⟩
theorem block_on {w w2:World} {b:Nat} {o:Obj} (h:w.heap[b]? = some o) (hb:Below w.heap.size w w2):w2.heap[b]? = some o:=(hb.block b (Array.getElem?_eq_some_iff.1 h).1).trans h
theorem blk_of {w:World} {b n:Nat} {cs:Array Value} {T:TypeId} (h:w.heap[b]? = some (.cells cs T (0,0))) (hn:cs.size = n):Blk w b n:=⟨cs,T,h,hn⟩
theorem Blk.other {w:World} {b n c:Nat} (h:Blk w b n) (hne:b ≠ c) (i:Nat) (u:Value):Blk (w.setCell ⟨c,i,none⟩ u) b n:=by
 obtain ⟨cs,T,h,hn⟩:=h
 exact ⟨cs,T,(Below.heap_setCell _ _ _ _ hne).trans h,hn⟩
end Go.Proofs.YtjfghaohogcfbaaGreatDoor
namespace Go.Proofs.YtjfghaohogcfbaaGreatDoor
open Go.RowKit CurSpec
set_option maxRecDepth 100000
theorem Toks.but {w w':World} {b off n cp B:Nat} {l:List Tk} (h:Toks w (.slice (some ⟨b,off,none⟩) n cp) l) (hb:w.grownBy w' (some B)) (hne:b ≠ B):Toks w' (.slice (some ⟨b,off,none⟩) n cp) l:=by
 obtain ⟨m,hm,A,c,heq,hc,hl,hA⟩:=h
 cases heq
 refine ⟨n,hm,_,cp,rfl,hc,hl,fun h0 => ?_⟩
 obtain ⟨b',off',h1,hlt,hcell⟩:=hA h0
 cases h1
 refine ⟨b,off,rfl,Nat.lt_of_lt_of_le hlt hb.size,fun j u hj => ?_⟩
 rw [← hcell j u hj]
 have:=hb.block b hlt (by simp; omega)
 simp [World.cell?,this]
def CurAt (w:World) (B:Nat) (c:Cur):Prop :=
 ∃ b off n cp,w.heap[B]? = some (.cells #[.slice (some ⟨b,off,none⟩) (n + 1) cp,.int .i64 c.a1,.int .i64 c.a2,.int .i64 c.bad] 90 (0,0)) ∧ b < B ∧ n = c.L.length ∧
   Toks w (.slice (some ⟨b,off,none⟩) (n + 1) cp) (full c.L c.w1 c.w2)
theorem CurAt.lt {w:World} {B:Nat} {c:Cur} (h:CurAt w B c):B < w.heap.size:=by
 obtain ⟨b,off,n,cp,h,_⟩:=h
 exact (Array.getElem?_eq_some_iff.1 h).1
theorem CurAt.keep {w w':World} {B:Nat} {c:Cur} (h:CurAt w B c) (hb:Below w.heap.size w w'):CurAt w' B c:=by
 obtain ⟨b,off,n,cp,h,hne,hn,hT⟩:=h
 exact ⟨b,off,n,cp,block_on h hb,hne,hn,hT.keep hb⟩
theorem CurAt.but {w w':World} {B B2:Nat} {c:Cur} (h:CurAt w B c) (hb:w.grownBy w' (some B2)) (hlt:B < B2):CurAt w' B c:=by
 obtain ⟨b,off,n,cp,h,hne,hn,hT⟩:=h
 exact ⟨b,off,n,cp,(hb.block _ (Array.getElem?_eq_some_iff.1 h).1 (by simp; omega)).trans h,hne,hn,hT.but hb (by omega)⟩
theorem CurAt.drew {w:World} {B:Nat} {c:Cur} (h:CurAt w B c):CurAt w.drew B c:=h
theorem CurAt.alloc {w:World} {B:Nat} {c:Cur} (h:CurAt w B c) (o:Obj):CurAt (w.alloc o) B c:=h.keep ((Below.refl _ _).alloc (Nat.le_refl _) _)
def Fl (w:World) (p:Value) (a1 a2 e:Int):Prop :=
 (p = .pointer none ∧ a1 = 0 ∧ a2 = 0 ∧ e = 10) ∨
 (∃ B,p = .pointer (some ⟨B,0,none⟩) ∧ w.heap[B]? = some (.cells #[.slice none 0 0,.int .i64 0,.int .i64 0,.int .i64 0] 90 (0,0)) ∧ a1 = 0 ∧ a2 = 0 ∧ e = 10) ∨
 (∃ B c,p = .pointer (some ⟨B,0,none⟩) ∧ CurAt w B c ∧ a1 = c.a1 ∧ a2 = c.a2 ∧ e = c.bad)
theorem Fl.keep {w w':World} {p:Value} {a1 a2 e:Int} (h:Fl w p a1 a2 e) (hb:Below w.heap.size w w'):Fl w' p a1 a2 e:=by
 rcases h with h | ⟨B,hp,h,h'⟩ | ⟨B,c,hp,h,h'⟩
 ·exact .inl h
 ·exact .inr (.inl ⟨B,hp,block_on h hb,h'⟩)
 ·exact .inr (.inr ⟨B,c,hp,h.keep hb,h'⟩)
theorem Fl.of {w:World} {B:Nat} {c:Cur} (h:CurAt w B c):Fl w (.pointer (some ⟨B,0,none⟩)) c.a1 c.a2 c.bad:=.inr (.inr ⟨B,c,rfl,h,rfl,rfl,rfl⟩)
def RetFault (W:World) (a1 a2 er:Int) (e:Ending) (w':World):Prop:=e = .returned (.tuple #[.agg #[.int .i64 a1,.int .i64 a2],.int .i64 er]) ∧ Below W.heap.size W w'
set_option maxHeartbeats 1000000 in
theorem fault_any (p:Value) (a1 a2 er:Int) (w:World) (h:Fl w p a1 a2 er):Calls Tryz.prog 22 #[p] w (RetFault w a1 a2 er):=by
 rcases h with ⟨rfl,rfl,rfl,rfl⟩ | ⟨B,rfl,h,rfl,rfl,rfl⟩ | ⟨B,c,rfl,h,rfl,rfl,rfl⟩
 ·go_enter Tryz.func22,Tryz.ntmps22
  go_wp2_with fail
  refine bodyPost_ret (v:=.tuple #[.agg #[.int .i64 0,.int .i64 0],.int .i64 10]) (by simp [results,Tryz.results22,go_sem]) rfl ⟨rfl,(Below.refl _ _).alloc (Nat.le_refl _) _⟩
 ·obtain ⟨c0,c1,c2,c3⟩:=cells_4 h
  have hlt:=(Array.getElem?_eq_some_iff.1 h).1
  clear h
  go_enter Tryz.func22,Tryz.ntmps22
  go_wp2_with fail
  refine bodyPost_ret (v:=.tuple #[.agg #[.int .i64 0,.int .i64 0],.int .i64 10]) (by simp [results,Tryz.results22,go_sem]) rfl ⟨rfl,(Below.refl _ _).alloc (Nat.le_refl _) _⟩
 ·have hlt:=h.lt
  obtain ⟨b,off,n,cp,h,_,_,_⟩:=h
  obtain ⟨c0,c1,c2,c3⟩:=cells_4 h
  have hnI:0 ≤ (n:Int):=by omega
  clear h
  go_enter Tryz.func22,Tryz.ntmps22
  go_wp2_with fail
  go_region
  all_goals
   go_wp2_with fail
   refine bodyPost_ret (v:=.tuple #[.agg #[.int .i64 c.a1,.int .i64 c.a2],.int .i64 c.bad]) (by simp [results,Tryz.results22,go_sem]) rfl ⟨rfl,((Below.refl _ _).alloc (Nat.le_refl _) _).drew⟩
theorem good_any (p:Value) (a1 a2 er:Int) (w:World) (h:Fl w p a1 a2 er) {b:Bool} (hb:(er == 0) = b):Calls Tryz.prog 51 #[p] w (RetBool w b):=by
 have HF:=Lib.hid (fun W hW => fault_any p a1 a2 er W (h.keep hW))
 have HV:=Lib.hid hb
 clear h hb
 go_enter Tryz.func51,Tryz.ntmps51
 go_wp2_with (go_at_call 22; (with_reducible refine (HF.out _ (Below.refl _ _)).mono ?_))
 rintro e x2 ⟨rfl,hb2⟩
 have HB:=Lib.hid hb2
 clear hb2
 go_wp2_with fail
 go_ret
 exact ⟨ret_bool HV.out,HB.out.alloc HB.out.size _⟩
end Go.Proofs.YtjfghaohogcfbaaGreatDoor
namespace Go.Proofs.YtjfghaohogcfbaaGreatDoor
open Go.RowKit CurSpec
set_option maxRecDepth 100000
def RetNone (W:World) (e:Ending) (w':World):Prop:=e = .returned (.tuple #[]) ∧ Below W.heap.size W w'
section
variable (p:Value) (a1 a2 er:Int) (hne:er ≠ 0) (w:World) (h:Fl w p a1 a2 er)
include hne h
theorem good_dead:Calls Tryz.prog 51 #[p] w (RetBool w false):=good_any p a1 a2 er w h (by simpa using hne)
set_option maxHeartbeats 1000000 in
theorem next_dead':Calls Tryz.prog 87 #[p] w (RetTk w 0 ⟨#[]⟩ 0 0):=by
 have HG:=Lib.hid (fun W hW => good_dead p a1 a2 er hne W (h.keep hW))
 clear h hne
 go_enter Tryz.func87,Tryz.ntmps87
 go_wp2_with (go_at_call 51; (with_reducible refine (HG.out _ ((Below.refl _ _).alloc (Nat.le_refl _) _)).mono ?_))
 rintro e x2 ⟨rfl,hb2⟩
 obtain ⟨k1,hB,hz⟩:=one_block hb2
 obtain ⟨c0,c1,c2,c3⟩:=cells_4 k1
 obtain ⟨f0,f1,f2,f3⟩:=free_4 k1
 have HK:=Lib.hid (blk_of k1 (n:=4) rfl)
 have HB:=Lib.hid hB
 clear hb2 hB k1
 go_wp2_with fail
 obtain ⟨q0,q1,q2,q3⟩:=store_4 HK.out (.int .i64 0) (.string ⟨#[]⟩) (.int .i64 0) (.int .i64 0)
 refine bodyPost_ret (v:=.agg #[.int .i64 0,.string ⟨#[]⟩,.int .i64 0,.int .i64 0]) (by simp [results,Tryz.results87,go_sem,q0,q1,q2,q3]) rfl ⟨rfl,below_4 HB.out (Nat.le_refl _) _ _ _ _⟩
set_option maxHeartbeats 1000000 in
theorem is_dead (k:Int) (s:ByteArray):Calls Tryz.prog 98 #[p,.int .i64 k,.string s] w (RetBool w false):=by
 have HG:=Lib.hid (good_dead p a1 a2 er hne w h)
 clear h hne
 go_enter Tryz.func98,Tryz.ntmps98
 go_wp2_with (go_at_call 51; (with_reducible refine HG.out.mono ?_))
 rintro e x2 ⟨rfl,hb2⟩
 have HB:=Lib.hid hb2
 clear hb2
 go_wp2_with fail
 go_ret
 exact ⟨rfl,HB.out⟩
set_option maxHeartbeats 1000000 in
theorem fail_dead' (n:Int):Calls Tryz.prog 53 #[p,.int .i64 n] w (RetNone w):=by
 have HG:=Lib.hid (good_dead p a1 a2 er hne w h)
 clear h hne
 go_enter Tryz.func53,Tryz.ntmps53
 go_wp2_with (go_at_call 51; (with_reducible refine HG.out.mono ?_))
 rintro e x2 ⟨rfl,hb2⟩
 have HB:=Lib.hid hb2
 clear hb2
 go_wp2_with fail
 go_end0
 exact ⟨rfl,HB.out⟩
end
end Go.Proofs.YtjfghaohogcfbaaGreatDoor
namespace Go.Proofs.YtjfghaohogcfbaaGreatDoor
open Go.RowKit CurSpec
set_option maxRecDepth 100000
theorem isB_yes {c:Cur} {k:Int} {s:ByteArray} (h0:c.bad = 0) (h1:(next c).k = k) (h2:(next c).t = s):isB c k s = true:=by simp [isB,h0,h1,h2]
theorem isB_no1 {c:Cur} {k:Int} {s:ByteArray} (h1:(next c).k ≠ k):isB c k s = false:=by simp [isB,h1]
theorem isB_no2 {c:Cur} {k:Int} {s:ByteArray} (h1:(next c).t ≠ s):isB c k s = false:=by simp [isB,h1]
end Go.Proofs.YtjfghaohogcfbaaGreatDoor
namespace Go.Proofs.YtjfghaohogcfbaaGreatDoor
open Go.RowKit CurSpec
set_option maxRecDepth 100000
theorem full_next {c:Cur} (h:c.bad = 0):∃ r,full c.L c.w1 c.w2 = next c :: r ∧ (0 < c.L.length → r = full (on c).L (on c).w1 (on c).w2):=by
 obtain ⟨L,w1,w2,a1,a2,bad⟩:=c
 obtain rfl:bad = 0:=h
 cases L with
 | nil => exact ⟨[],rfl,fun h => absurd h (by simp)⟩
 | cons t r => exact ⟨_,rfl,fun _ => rfl⟩
theorem CurAt.open {w:World} {B:Nat} {c:Cur} (h:CurAt w B c) (h0:c.bad = 0) :
 ∃ b off n cp,w.heap[B]? = some (.cells #[.slice (some ⟨b,off,none⟩) (n + 1) cp,.int .i64 c.a1,.int .i64 c.a2,.int .i64 c.bad] 90 (0,0)) ∧ b ≠ B ∧ n = c.L.length ∧ n + 1 ≤ cp ∧ b < w.heap.size ∧
   w.cell? ⟨b,off,none⟩ = some (.int .i64 (next c).k) ∧ w.cell? ⟨b,off + 1,none⟩ = some (.string (next c).t) ∧ w.cell? ⟨b,off + 2,none⟩ = some (.int .i64 (next c).l) ∧ w.cell? ⟨b,off + 3,none⟩ = some (.int .i64 (next c).c):=by
 obtain ⟨b,off,n,cp,hB,hne,hn,hT⟩:=h
 obtain ⟨r,hr,_⟩:=full_next h0
 rw [hr] at hT
 obtain ⟨b',off',m,hA,hm,hc,hlt,c0,c1,c2,c3,_⟩:=hT.cons'
 cases hA; cases hm
 exact ⟨b,off,n,cp,hB,Nat.ne_of_lt hne,hn,hc,hlt,c0,c1,c2,c3⟩
set_option maxHeartbeats 1000000 in
theorem next_live (B:Nat) (c:Cur) (w:World) (h:CurAt w B c) (h0:c.bad = 0):Calls Tryz.prog 87 #[.pointer (some ⟨B,0,none⟩)] w (RetTk w (next c).k (next c).t (next c).l (next c).c):=by
 have HG:=Lib.hid (fun W hW => good_any _ _ _ _ W ((Fl.of h).keep hW) (b:=true) (by simpa using h0))
 obtain ⟨t,ht⟩:∃ t,t = next c:=⟨_,rfl⟩
 have HC:=Lib.hid (fun W hW => (CurAt.keep (w':=W) h hW).open h0)
 rw [← ht] at HC ⊢
 clear h h0 ht
 go_enter Tryz.func87,Tryz.ntmps87
 go_wp2_with (go_at_call 51; (with_reducible refine (HG.out _ ((Below.refl _ _).alloc (Nat.le_refl _) _)).mono ?_))
 rintro e x2 ⟨rfl,hb2⟩
 obtain ⟨k1,hB,hz⟩:=one_block hb2
 obtain ⟨b,off,n,cp,hBl,hne,hn,hcp,hlt,t0,t1,t2,t3⟩:=HC.out x2 hB
 obtain ⟨c0,c1,c2,c3⟩:=cells_4 hBl
 obtain ⟨d0,d1,d2,d3⟩:=cells_4 k1
 obtain ⟨f0,f1,f2,f3⟩:=free_4 k1
 have HK:=Lib.hid (blk_of k1 (n:=4) rfl)
 have HB:=Lib.hid hB
 have hnI:0 ≤ (n:Int):=by omega
 clear hb2 hB k1 hBl hne hn hcp
 go_wp2_with fail
 obtain ⟨q0,q1,q2,q3⟩:=store_4 HK.out (.int .i64 t.k) (.string t.t) (.int .i64 t.l) (.int .i64 t.c)
 refine bodyPost_ret (v:=.agg #[.int .i64 t.k,.string t.t,.int .i64 t.l,.int .i64 t.c]) (by simp [results,Tryz.results87,go_sem,q0,q1,q2,q3]) rfl ⟨rfl,below_4 HB.out (Nat.le_refl _) _ _ _ _⟩
theorem next_at (B:Nat) (c:Cur) (w:World) (h:CurAt w B c):Calls Tryz.prog 87 #[.pointer (some ⟨B,0,none⟩)] w (RetTk w (next c).k (next c).t (next c).l (next c).c):=by
 by_cases h0:c.bad = 0
 ·exact next_live B c w h h0
 ·rw [next_dead h0]
  exact next_dead' _ _ _ _ h0 w (Fl.of h)
set_option maxHeartbeats 1000000 in
theorem is_at (B:Nat) (c:Cur) (k:Int) (s:ByteArray) (w:World) (h:CurAt w B c):Calls Tryz.prog 98 #[.pointer (some ⟨B,0,none⟩),.int .i64 k,.string s] w (RetBool w (isB c k s)):=by
 by_cases h0:c.bad = 0
 ·have HG:=Lib.hid (good_any _ _ _ _ w (Fl.of h) (b:=true) (by simpa using h0))
  have HN:=Lib.hid (fun W hW => next_at B c W (h.keep hW))
  obtain ⟨t,ht⟩:∃ t,t = next c:=⟨_,rfl⟩
  obtain ⟨b,hb⟩:∃ b,b = isB c k s:=⟨_,rfl⟩
  rw [← ht] at HN
  rw [← hb]
  clear h
  by_cases h1:t.k = k
  ·have e1:(t.k == k) = true:=by simpa using h1
   by_cases h2:t.t = s
   ·have e2:(t.t.toList == s.toList) = true:=by rw [h2]; simp
    have HV:Hid (b = true):=Lib.hid (hb.trans (isB_yes h0 (by rw [← ht]; exact h1) (by rw [← ht]; exact h2)))
    clear hb ht h0 h1 h2
    go_enter Tryz.func98,Tryz.ntmps98
    go_wp2_with (go_at_call 51; (with_reducible refine HG.out.mono ?_))
    rintro e x2 ⟨rfl,hb2⟩
    have HB:=Lib.hid hb2
    clear hb2
    go_wp2_with (go_at_call 87; (with_reducible refine (HN.out _ HB.out).mono ?_))
    rintro e x3 ⟨rfl,hb3⟩
    have HB3:=Lib.hid (below_two' HB.out hb3)
    clear hb3
    go_wp2_with fail
    go_ret
    exact ⟨ret_bool HV.out.symm,HB3.out.alloc HB3.out.size _⟩
   ·have e2:(t.t.toList == s.toList) = false:=(Lib.bytes_beq_false_iff _ _).2 h2
    have HV:Hid (b = false):=Lib.hid (hb.trans (isB_no2 (by rw [← ht]; exact h2)))
    clear hb ht h0 h1 h2
    go_enter Tryz.func98,Tryz.ntmps98
    go_wp2_with (go_at_call 51; (with_reducible refine HG.out.mono ?_))
    rintro e x2 ⟨rfl,hb2⟩
    have HB:=Lib.hid hb2
    clear hb2
    go_wp2_with (go_at_call 87; (with_reducible refine (HN.out _ HB.out).mono ?_))
    rintro e x3 ⟨rfl,hb3⟩
    have HB3:=Lib.hid (below_two' HB.out hb3)
    clear hb3
    go_wp2_with fail
    go_ret
    exact ⟨ret_bool HV.out.symm,HB3.out.alloc HB3.out.size _⟩
  ·have e1:(t.k == k) = false:=by simpa using h1
   have HV:Hid (b = false):=Lib.hid (hb.trans (isB_no1 (by rw [← ht]; exact h1)))
   clear hb ht h0 h1
   go_enter Tryz.func98,Tryz.ntmps98
   go_wp2_with (go_at_call 51; (with_reducible refine HG.out.mono ?_))
   rintro e x2 ⟨rfl,hb2⟩
   have HB:=Lib.hid hb2
   clear hb2
   go_wp2_with (go_at_call 87; (with_reducible refine (HN.out _ HB.out).mono ?_))
   rintro e x3 ⟨rfl,hb3⟩
   have HB3:=Lib.hid (below_two' HB.out hb3)
   clear hb3
   go_wp2_with fail
   go_ret
   exact ⟨ret_bool HV.out.symm,HB3.out.alloc HB3.out.size _⟩
 ·rw [isB_dead k s h0]
  exact is_dead _ _ _ _ h0 w (Fl.of h) k s
def RetAt (W:World) (B:Nat) (c:Cur) (e:Ending) (w':World):Prop:=e = .returned (.tuple #[]) ∧ CurAt w' B c ∧ W.grownBy w' (some B)
theorem but_below {w w':World} {B:Nat} (h:Below w.heap.size w w'):w.grownBy w' (some B):=⟨h.os,h.tape,h.output,h.size,fun i hi _ => h.block i hi⟩
set_option maxHeartbeats 1000000 in
theorem pass_at (B:Nat) (c:Cur) (w:World) (h:CurAt w B c):Calls Tryz.prog 89 #[.pointer (some ⟨B,0,none⟩)] w (RetAt w B (on c)):=by
 have HC:=Lib.hid h
 obtain ⟨b,off,n,cp,hBl,hne,hn,hT⟩:=h
 rcases Nat.eq_zero_or_pos n with hz | hp
 ·obtain rfl:n = 0:=hz
  have HO:Hid (on c = c):=Lib.hid (on_nil hn.symm)
  obtain ⟨c0,c1,c2,c3⟩:=cells_4 hBl
  clear hBl hne hn hT
  go_enter Tryz.func89,Tryz.ntmps89
  go_wp2_with fail
  go_end0
  exact ⟨rfl,by rw [HO.out]; exact HC.out,but_refl _ _⟩
 ·obtain ⟨m,rfl⟩:∃ m,n = m + 1:=⟨n - 1,by omega⟩
  have hf:full c.L c.w1 c.w2 = (full c.L c.w1 c.w2).headD tz :: full (on c).L (on c).w1 (on c).w2:=on_full (by omega)
  rw [hf] at hT
  obtain ⟨b',off',m',hA,hm,hcp,hlt,_,_,_,_,hr⟩:=hT.cons'
  cases hA; cases hm
  rw [if_neg (by omega)] at hr
  obtain ⟨c0,c1,c2,c3⟩:=cells_4 hBl
  obtain ⟨f0,f1,f2,f3⟩:=free_4 hBl
  have hcI:1 < cp:=by omega
  have hb:=on_bad c
  have HR:Hid (CurAt (w.setCell ⟨B,0,none⟩ (.slice (some ⟨b,off + 4,none⟩) (m + 1) (cp - 1))) B (on c)):=Lib.hid (by
   refine ⟨b,off + 4,m,cp - 1,?_,hne,by rw [on_len]; omega,hr.but (but_set (but_refl _ _) 0 _) (Nat.ne_of_lt hne)⟩
   have:=block_setCell' hBl 0 (.slice (some ⟨b,off + 4,none⟩) (m + 1) (cp - 1))
   rw [hb.1,hb.2.1,hb.2.2]
   exact this)
  have hnI:0 ≤ (m:Int):=by omega
  clear hBl hne hn hT hr hf hb hlt
  go_enter Tryz.func89,Tryz.ntmps89
  go_wp2_with fail
  go_end0
  exact ⟨rfl,HR.out,but_set (but_refl _ _) 0 _⟩
theorem CurAt.fault {w:World} {B:Nat} {c:Cur} (h:CurAt w B c) (l cc er:Int) :
 CurAt (((w.setCell ⟨B,1,none⟩ (.int .i64 l)).setCell ⟨B,2,none⟩ (.int .i64 cc)).setCell ⟨B,3,none⟩ (.int .i64 er)) B ⟨c.L,c.w1,c.w2,l,cc,er⟩:=by
 obtain ⟨b,off,n,cp,hBl,hne,hn,hT⟩:=h
 refine ⟨b,off,n,cp,?_,hne,hn,hT.but (but_set (but_set (but_set (but_refl _ _) 1 _) 2 _) 3 _) (Nat.ne_of_lt hne)⟩
 exact block_setCell' (block_setCell' (block_setCell' hBl 1 (.int .i64 l)) 2 (.int .i64 cc)) 3 (.int .i64 er)
set_option maxHeartbeats 1000000 in
theorem fail_at (B:Nat) (c:Cur) (er:Int) (w:World) (h:CurAt w B c):Calls Tryz.prog 53 #[.pointer (some ⟨B,0,none⟩),.int .i64 er] w (RetAt w B (fail c er)):=by
 by_cases h0:c.bad = 0
 ·have HG:=Lib.hid (good_any _ _ _ _ w (Fl.of h) (b:=true) (by simpa using h0))
  have HC:=Lib.hid h
  by_cases he:er = 0
  ·have e1:(er != 0) = false:=by simpa using he
   have HF:Hid (fail c er = c):=Lib.hid (by rw [he]; exact fail_zero c)
   clear h he h0
   go_enter Tryz.func53,Tryz.ntmps53
   go_wp2_with (go_at_call 51; (with_reducible refine HG.out.mono ?_))
   rintro e x2 ⟨rfl,hb2⟩
   have HB:=Lib.hid hb2
   clear hb2
   go_wp2_with fail
   go_end0
   exact ⟨rfl,by rw [HF.out]; exact HC.out.keep HB.out,but_below HB.out⟩
  ·have e1:(er != 0) = true:=by simpa using he
   obtain ⟨t,ht⟩:∃ t,t = next c:=⟨_,rfl⟩
   have HF:Hid (fail c er = ⟨c.L,c.w1,c.w2,t.l,t.c,er⟩):=Lib.hid (by rw [fail_yes h0 he,ht])
   have HO:=Lib.hid (fun W hW => (CurAt.keep (w':=W) h hW).open h0)
   rw [← ht] at HO
   clear h he h0 ht
   go_enter Tryz.func53,Tryz.ntmps53
   go_wp2_with (go_at_call 51; (with_reducible refine HG.out.mono ?_))
   rintro e x2 ⟨rfl,hb2⟩
   have HB:=Lib.hid hb2
   obtain ⟨b,off,n,cp,hBl,hne,hn,hcp,hlt,t0,t1,t2,t3⟩:=HO.out x2 hb2
   obtain ⟨c0,c1,c2,c3⟩:=cells_4 hBl
   obtain ⟨f0,f1,f2,f3⟩:=free_4 hBl
   have hnI:0 ≤ (n:Int):=by omega
   clear hb2 hBl hn hcp
   go_wp2_with fail
   go_end0
   refine ⟨rfl,?_,but_set (but_set (but_set (but_below HB.out) 1 _) 2 _) 3 _⟩
   rw [HF.out]
   exact (HC.out.keep HB.out).fault t.l t.c er
 ·rw [fail_dead er h0]
  refine (fail_dead' _ _ _ _ h0 w (Fl.of h) er).mono ?_
  rintro e w' ⟨he,hb⟩
  exact ⟨he,h.keep hb,but_below hb⟩
end Go.Proofs.YtjfghaohogcfbaaGreatDoor
namespace Go.Proofs.YtjfghaohogcfbaaGreatDoor
open Go.RowKit CurSpec
set_option maxRecDepth 100000
end Go.Proofs.YtjfghaohogcfbaaGreatDoor