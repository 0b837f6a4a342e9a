/- ExprInsert2, CurMem, CurAt, CurDead, CurRef, CurLive, CurRefTake, joined. -/
import Derived.Test.YtbdalbpackfejaaGreatDoorMFormatOf01
set_option maxHeartbeats 16000000
set_option maxRecDepth 100000
namespace Go.Proofs.YtbdalbpackfejaaGreatDoor
section
open Go.RowKit TermSpec
set_option maxRecDepth 100000
theorem zero_size (n:Nat):(Builtin.zeroCells (Value.agg #[.int .i64 0,.int .i64 0,.string ByteArray.empty]).cells n).size = n * 3:=by
 simp [Builtin.zeroCells,Value.cells]
theorem seg_new {cs t row:List Value} {i n:Nat} (hl:cs.length = n * 3) (hi:i < n) (hr:row.take (i * 3) = cs.take (i * 3)) (_hrl:(n + 1) * 3 <= row.length) (ht:t.length = 3) :
 ((row.take (i*3)++t++row.drop (i*3+t.length)).take ((i+1)*3)++cs.drop (i*3)++(row.take (i*3)++t++row.drop (i*3+t.length)).drop ((i+1)*3+(cs.drop (i*3)).length)).take ((n+1)*3)=cs.take (i*3)++t++cs.drop (i*3):=by
 have h4:(cs.take (i*3)).length=i*3:=by rw [List.length_take]; omega
 have hd:(cs.drop (i*3)).length=n*3-i*3:=by rw [List.length_drop,hl]
 have e1:(row.take (i * 3) ++ t ++ row.drop (i * 3 + t.length)).take ((i + 1) * 3) = cs.take (i * 3) ++ t:=by
  rw [hr,List.take_append_of_le_length (by rw [List.length_append]; omega),List.take_of_length_le (by rw [List.length_append]; omega)]
 rw [e1,List.take_append_of_le_length (by simp only [List.length_append]; omega),List.take_of_length_le (by simp only [List.length_append]; omega)]
theorem Qg0 (base g cap:Nat) (n i:Nat) (l:List Tm) (t:Tm) (vb:Nat) (w:World) (hn:n = l.length) (h40:n <= 1000) (hi:i < n) (hroom:cap < n + 1)
 (hown:w.ownsRow base 123 3 (.slice (some ⟨g,0,none⟩) n cap) n (tmsV l)) (hbs:base<=w.heap.size)
 (hvb:w.heap[vb]?=some (.cells #[.int .i64 t.op,.int .i64 t.n,.string t.s] 123 (0,0))) (_hne:vb≠g) :
 Calls Tryz.prog 193 #[.slice (some ⟨g,0,none⟩) n cap,.int .i64 i,.slice (some ⟨vb,0,none⟩) 1 1] w (InsPost w base (.slice (some ⟨g,0,none⟩) n cap) (n+1) (l.take i++t::l.drop i)):=by
 obtain ⟨i0,hi0,hz0,hz1,hz2⟩:=info_parts QdD;obtain ⟨hl,hv⟩:=hown
 rcases hv with ⟨hv,_⟩ | ⟨g',cap',cur,hv,hbase,hb,hnc,hcm,hcs,ht⟩
 ·cases hv
 cases hv
 have hsz:(Tryz.prog.info? 123).map (·.size)=some 3:=by rw [hi0]; simp [hz1]
 have hc63:cap<=9223372036854775807:=hcm;have hdl:((tmsV l).drop (i*3)).length=(n-i)*3:=by rw [List.length_drop,hl]; omega
 have hone:=Qcj l;have hgw:=(Array.getElem?_eq_some_iff.1 hb).1;have hvw:=(Array.getElem?_eq_some_iff.1 hvb).1
 have hcell:∀ j u,(tmsV l)[j]? = some u -> w.cell? ⟨g,j,none⟩ = some u:=fun j u hj => by
  have hj':=(List.getElem?_eq_some_iff.1 hj).1;rw [<- ht,List.getElem?_take_of_lt (by omega),Array.getElem?_toList] at hj;simp [World.cell?,hb,hj]
 have hold:(Builtin.firstCells i0.size i (.slice (some ⟨g,0,none⟩) i cap)).run Tryz.prog w.drew = .ok ((tmsV l).take (i * 3)).toArray w.drew:=by
  rw [hz1]
  exact run_firstCells_some w.drew 3 i ⟨g,0,none⟩ i cap _ (by rw [List.length_take]; omega) (fun j v hj => by
   rw [addr_add,Nat.zero_add];rw [List.getElem?_take] at hj
   split at hj
   ·exact hcell j v hj
   ·cases hj)
 have hik:i+(n+1-i)=n+1:=by omega
 have hkk:(n:Int)+1-(i:Int)=((n+1-i:Nat):Int):=by omega
 obtain ⟨G,hG⟩:∃ G,G=grownCap w (n+1) cap 123:=⟨_,rfl⟩;have hGn:n+1<=G:=by rw [hG]; exact grownCap_ge w _ _ _
 have hGm:G<=maxLen:=by rw [hG]; exact grownCap_le_maxLen w (n+1) cap _ (by unfold maxLen; omega)
 obtain ⟨ROW,hROW⟩:∃ ROW:Array Value,ROW=((tmsV l).take (i*3)).toArray++Builtin.zeroCells (Value.agg #[.int .i64 0,.int .i64 0,.string ByteArray.empty]).cells (n+1-i)++Builtin.zeroCells (Value.agg #[.int .i64 0,.int .i64 0,.string ByteArray.empty]).cells (G-(n+1)):=⟨_,rfl⟩
 have hRl:ROW.size = G * 3:=by
  rw [hROW];simp only [Array.size_append,zero_size,List.size_toArray,List.length_take,hl];omega
 have hRt:ROW.toList.take (i * 3) = (tmsV l).take (i * 3):=by
  rw [hROW];simp only [Array.toList_append];have:((tmsV l).take (i*3)).length=i*3:=by rw [List.length_take]; omega
  rw [List.append_assoc,List.take_append_of_le_length (by omega),List.take_of_length_le (by omega)]
 have hrz:∀ ty,(Builtin.append_ #[79,3] ty #[.slice (some ⟨g,0,none⟩) i cap,.int .i64 ((n:Int) + 1 - (i:Int))]).run Tryz.prog w =
  .ok (.slice (some ⟨w.heap.size,0,none⟩) (n+1) G) (w.alloc (.cells ROW 123)).drew:=fun ty=>by
  have h:=Lib.run_append_grow_zeros w 79 3 ty 123 i0 _ .i64 .i64 Tryz.underlying79 Tryz.underlying3 hi0 hz0 (some ⟨g,0,none⟩) i cap ((tmsV l).take (i*3)) hold (n+1-i) (by omega) (by omega) (by omega) (by omega) (by rw [hz2]; omega) (by rw [hz2,hik]; exact growslice_fits hroom (by omega));rw [hik,<- hG] at h;rw [hkk,hROW];exact h
 obtain ⟨W1,hW1⟩:∃ W1,W1=(w.alloc (.cells ROW 123)).drew:=⟨_,rfl⟩;have hN:W1.heap[w.heap.size]?=some (.cells ROW 123 (0,0)):=by rw [hW1]; exact heap_alloc_new _ _
 have hOld:∀ b,b<w.heap.size->W1.heap[b]?=w.heap[b]?:=fun b hb=>by rw [hW1]; exact heap_alloc_old _ _ hb
 obtain ⟨row1,hrow1⟩:∃ row1,row1=ROW.toList.take (i*3)++tmV t++ROW.toList.drop (i*3+(tmV t).length):=⟨_,rfl⟩;have hr1l:row1.length=G*3:=by rw [hrow1]; simp only [List.length_append,List.length_take,List.length_drop,Array.length_toList,hRl,Q7]; omega
 have hcpA:∀ ty dc,(Builtin.copy_ #[79,79] ty #[.slice (some ⟨w.heap.size,i * 3,none⟩) (n + 1 - i) dc,.slice (some ⟨vb,0,none⟩) 1 1]).run Tryz.prog W1 = .ok (goInt (Nat.min 1 (n + 1 - i))) (W1.setRow w.heap.size row1.toArray):=fun ty dc => by
  rw [hrow1]
  exact Zn (P:=Tryz.prog) 3 W1 79 79 ty 123 w.heap.size (i * 3) (n + 1 - i) dc ⟨vb,0,none⟩ 1 1 ROW 123 (tmV t) Tryz.underlying79 hsz hN
   (by rw [Q7,show Nat.min 1 (n+1-i)=1 by simp only [Nat.min_def]; split<;>omega])
   (fun j v hj=>by rw [addr_add,Nat.zero_add]; exact Qb ((hOld vb hvw).trans hvb) (by rw [show (#[.int .i64 t.op,.int .i64 t.n,.string t.s]:Array Value)=(tmV t).toArray from rfl,List.getElem?_toArray]; exact hj))
   (by rw [Q7]; omega) (QgT t)
 have hN2:((W1.setRow w.heap.size row1.toArray).drew).heap[w.heap.size]?=some (.cells row1.toArray 123 (0,0)):=setRow_heap W1 w.heap.size ROW row1.toArray 123 (0,0) hN
 have hOld2:∀ b,b < w.heap.size -> ((W1.setRow w.heap.size row1.toArray).drew).heap[b]? = w.heap[b]?:=fun b hb =>
  ((Zt (Qx W1 (some w.heap.size)) row1.toArray).block b (by rw [hW1]; simp; omega) (by simp; omega)).trans (hOld b hb)
 obtain ⟨row2,hrow2⟩:∃ row2,row2=row1.take ((i+1)*3)++(tmsV l).drop (i*3)++row1.drop ((i+1)*3+((tmsV l).drop (i*3)).length):=⟨_,rfl⟩;have hr2l:row2.length=G*3:=by rw [hrow2]; simp only [List.length_append,List.length_take,List.length_drop,hr1l,hl]; omega
 have hcpB:∀ ty dc sc,(Builtin.copy_ #[79,79] ty #[.slice (some ⟨w.heap.size,(i + 1) * 3,none⟩) (n - i) dc,.slice (some ⟨g,i * 3,none⟩) (n - i) sc]).run Tryz.prog (W1.setRow w.heap.size row1.toArray).drew = .ok (goInt (Nat.min (n - i) (n - i))) (((W1.setRow w.heap.size row1.toArray).drew).setRow w.heap.size row2.toArray):=fun ty dc sc => by
  have:=Zn (P:=Tryz.prog) 3 (W1.setRow w.heap.size row1.toArray).drew 79 79 ty 123 w.heap.size ((i + 1) * 3) (n - i) dc ⟨g,i * 3,none⟩ (n - i) sc row1.toArray 123 ((tmsV l).drop (i * 3)) Tryz.underlying79 hsz hN2
   (by rw [hdl,show Nat.min (n-i) (n-i)=n-i by simp only [Nat.min_def]; split<;>omega])
   (fun j v hj => by
     rw [addr_add];rw [List.getElem?_drop] at hj;have:=hcell _ v hj;unfold World.cell? at this ⊢;rw [hOld2 g hgw];exact this) (by rw [hdl]; simp only [List.size_toArray]; omega) (fun v hv=>hone v (List.mem_of_mem_drop hv))
  rw [this,hrow2]
 have hfin:InsPost w base (.slice (some ⟨g,0,none⟩) n cap) (n + 1) (l.take i ++ t :: l.drop i) (.returned (.slice (some ⟨w.heap.size,0,none⟩) (n + 1) G)) (((W1.setRow w.heap.size row1.toArray).drew).setRow w.heap.size row2.toArray):=by
  have hgr:w.grownBy (((W1.setRow w.heap.size row1.toArray).drew).setRow w.heap.size row2.toArray) (some w.heap.size):=by
   refine Zt (Qba (Zt ?_ _)) _;rw [hW1];exact Qba (QcB (Qx w _) _)
  refine ⟨_,rfl,⟨by rw [ZR]; simp; omega,.inr ⟨w.heap.size,G,row2.toArray,rfl,by omega,setRow_heap (W1.setRow w.heap.size row1.toArray).drew w.heap.size row1.toArray row2.toArray 123 (0,0) hN2,hGn,hGm,by simpa using hr2l,?_⟩⟩,⟨hgr.os,hgr.tape,hgr.output,hgr.size,fun j hj _=>hgr.block j hj (by simp; omega)⟩,.inr rfl⟩;rw [tms_mid,hrow2,hrow1];exact seg_new (n:=n) hl hi hRt (by rw [Array.length_toList]; omega) rfl
 have HF:=qh hfin;have hs1:=QaT g n cap i (i:Int) rfl (by omega) (by omega);have hs2:=Qh5 g n cap i (i:Int) rfl (by omega) (by omega);have hs3:=QaT w.heap.size (n+1) G i (i:Int) rfl (by omega) (by omega);have hz3:¬ ((i:Int)=(n:Int)):=by omega
 have hz3':((i:Int)==(n:Int))=false:=by simpa using hz3
 have hz4:(cap:Int)<(n:Int)+1:=by omega
 have hw1:IntKind.i64.wrap ((i:Int)+1)=(i:Int)+1:=by rw [IntKind.wrap_i64]; omega
 have hb1:(0:Int)<=(i:Int)+1:=by omega
 have hb5:(i:Int)<=(n:Int):=by omega
 have hin:i<=n:=by omega
 have htn:((i:Int)+1).toNat=i+1:=by omega
 have hb3:(i:Int)<=(n:Int)+1:=by omega
 have hb4:¬ (cap=i):=by omega
 have hGi:¬ (G=i):=by omega
 have hGim:¬ (G=i+1):=by omega
 have hG63:G<=9223372036854775807:=hGm;clear hGm;have mixed:Tryz.prog.follows .mixedOrders=true:=by kernel_rfl
 clear hfin hrow2 hrow1 hr1l hr2l hN hN2 hOld hOld2 hcell hone hdl ht hl hcs hbase hn hold hROW hRl hRt hG hb hvb hgw hvw hkk hik;subst hW1;go_enter Tryz.func193,Tryz.ntmps193
 go_wp2_with (first
  | (at_builtin; refine Lib.wpList_append_run _ rfl _ _ _ _ rfl _ _ rfl rfl _ _ (hrz _) ?_)
  | (at_builtin; refine wpList_copy_runI _ rfl _ _ 79 79 rfl _ _ rfl rfl (hcpA _ _) ?_))
 go_region_law_o (refine step_copy_runI rfl _ _ 79 79 rfl _ _ (by simp [Act.eval,Act.put]) (by simp [Act.eval,Act.put]) (hcpB _ _ _) ?_)
 go_wp2_with fail;go_ret;exact HF.o
theorem Qjl (base:Nat) (v:Value) (n i:Nat) (l:List Tm) (t:Tm) (vb:Nat) (w:World) (hn:n = l.length) (h40:n <= 1000) (hi:i <= n) (hown:w.ownsRow base 123 3 v n (tmsV l)) (hbs:base <= w.heap.size)
 (hvb:w.heap[vb]?=some (.cells #[.int .i64 t.op,.int .i64 t.n,.string t.s] 123 (0,0))) (hne:v.ownBlock≠some vb) :
 Calls Tryz.prog 193 #[v,.int .i64 i,.slice (some ⟨vb,0,none⟩) 1 1] w (InsPost w base v (n+1) (l.take i++t::l.drop i)):=by
 rcases Nat.lt_or_ge i n with h | h
 ·have hown':=hown
  obtain ⟨_,hv⟩:=hown'
  rcases hv with ⟨_,h0⟩ | ⟨g,cap,cur,rfl,_⟩
  ·omega
  ·have hne':vb ≠ g:=fun e => hne (by rw [e]; rfl)
   rcases Nat.lt_or_ge cap (n+1) with hc | hc
   ·exact Qg0 base g cap n i l t vb w hn h40 h hc hown hbs hvb hne'
   ·exact Qgd base g cap n i l t vb w hn h40 h hc hown hvb hne'
 ·obtain rfl:i = n:=by omega
  have:=QiU base v i l t vb w hn h40 hown hbs hvb;rw [List.take_of_length_le (by omega),List.drop_eq_nil_of_le (by omega)];exact this
end
section
open Go.RowKit CurSpec
def tkV (t:Tk):List Value:=[.int .i64 t.k,.string t.t,.int .i64 t.l,.int .i64 t.c]
def tksV (l:List Tk):List Value:=l.flatMap tkV
theorem JK (t:Tk):(tkV t).length=4:=rfl
theorem Qg3 (l:List Tk):(tksV l).length=l.length*4:=Qbc JK l
theorem tkV_one (t:Tk):∀ u∈tkV t,u.oneCell'=true:=by simp [tkV,Value.oneCell']
theorem QhN (l:List Tk):∀ u ∈ tksV l,u.oneCell' = true:=by
 intro u hu;obtain ⟨t,_,h⟩:=List.mem_flatMap.1 hu;exact tkV_one t u h
theorem tksV_cons (t:Tk) (l:List Tk):tksV (t::l)=tkV t++tksV l:=by simp [tksV]
theorem QhY {l:List Tk} {i:Nat} {t:Tk} (h:l[i]? = some t):(tksV l)[i * 4]? = some (.int .i64 t.k) /\ (tksV l)[i * 4 + 1]? = some (.string t.t) /\ (tksV l)[i * 4 + 2]? = some (.int .i64 t.l) /\ (tksV l)[i * 4 + 3]? = some (.int .i64 t.c) :=
 ⟨flat_get (j:=0) JK h (by omega),flat_get (j:=1) JK h (by omega),flat_get (j:=2) JK h (by omega),flat_get (j:=3) JK h (by omega)⟩
def tkA (t:Tk):Value:=.agg #[.int .i64 t.k,.string t.t,.int .i64 t.l,.int .i64 t.c]
def Toks (w:World) (v:Value) (l:List Tk):Prop:=∃ n,n=l.length/\Rdk 4 w v n (tksV l)
theorem Toks.keep {w w':World} {v:Value} {l:List Tk} (h:Toks w v l) (hb:Below w.heap.size w w'):Toks w' v l:=by
 obtain ⟨n,hn,h⟩:=h;exact ⟨n,hn,h.keep hb⟩
theorem Toks.alloc {w:World} {v:Value} {l:List Tk} (h:Toks w v l) (o:Obj):Toks (w.alloc o) v l:=h.keep ((Below.refl _ _).alloc (Nat.le_refl _) _)
theorem Toks.cons {w:World} {v:Value} {t:Tk} {l:List Tk} (h:Toks w v (t :: l)) :
 ∃ b off n c,v = .slice (some ⟨b,off,none⟩) (n + 1) c /\ n = l.length /\ n + 1 <= c /\ b < w.heap.size /\ w.cell? ⟨b,off,none⟩ = some (.int .i64 t.k) /\ w.cell? ⟨b,off + 1,none⟩ = some (.string t.t) /\ w.cell? ⟨b,off + 2,none⟩ = some (.int .i64 t.l) /\ w.cell? ⟨b,off + 3,none⟩ = some (.int .i64 t.c) /\
   Toks w (.slice (some ⟨b,if c=1 then off else off+4,none⟩) n (c-1)) l:=by
 obtain ⟨n,rfl,A,c,rfl,hc,hl,hA⟩:=h;obtain ⟨b,off,rfl,hb,hcell⟩:=hA (by simp);have g:=QhY (l:=t::l) (i:=0) rfl;simp only [List.length_cons] at hc;refine ⟨b,off,l.length,c,rfl,rfl,hc,hb,hcell 0 _ g.1,hcell 1 _ g.2.1,hcell 2 _ g.2.2.1,hcell 3 _ g.2.2.2,l.length,rfl,_,_,rfl,by omega,Qg3 l,fun h0=>⟨b,off+4,?_,hb,fun j u hj=>?_⟩⟩
 ·rw [if_neg (by omega)]
 ·rw [show off + 4 + j = off + (4 + j) by omega]
  refine hcell _ _ ?_;rw [tksV_cons,List.getElem?_append_right (by rw [JK]; omega),JK,Nat.add_sub_cancel_left,hj]
theorem Toks.shape {w:World} {v:Value} {l:List Tk} (h:Toks w v l):∃ A n c,v = .slice A n c /\ n = l.length:=by
 obtain ⟨n,hn,A,c,hv,_⟩:=h;exact ⟨A,n,c,hv,hn⟩
theorem Toks.nil0 {w:World} {A:Option Addr} {n cp:Nat} (h:Toks w (.slice A n cp) []):n = 0:=by
 obtain ⟨m,hm,A',c',heq,_⟩:=h
 cases heq
 exact hm
theorem Toks.cons' {w:World} {A:Option Addr} {n cp:Nat} {t:Tk} {l:List Tk} (h:Toks w (.slice A n cp) (t :: l)) :
 ∃ b off m,A = some ⟨b,off,none⟩ /\ n = m + 1 /\ m + 1 <= cp /\ b < w.heap.size /\ w.cell? ⟨b,off,none⟩ = some (.int .i64 t.k) /\ w.cell? ⟨b,off + 1,none⟩ = some (.string t.t) /\ w.cell? ⟨b,off + 2,none⟩ = some (.int .i64 t.l) /\ w.cell? ⟨b,off + 3,none⟩ = some (.int .i64 t.c) /\
   Toks w (.slice (some ⟨b,if cp=1 then off else off+4,none⟩) m (cp-1)) l:=by
 obtain ⟨b,off,m,c,heq,_,hc,hb,h0,h1,h2,h3,ht⟩:=h.cons
 cases heq
 exact ⟨b,off,m,rfl,rfl,hc,hb,h0,h1,h2,h3,ht⟩
def RetCur (W0 W:World) (c:Cur) (e:Ending) (w':World):Prop :=
 ∃ A n cp,e = .returned (.agg #[.slice A n cp,.int .i64 c.w1,.int .i64 c.w2,.int .i64 c.a1,.int .i64 c.a2,.int .i64 c.bad])/\Toks W0 (.slice A n cp) c.L/\Below W.heap.size W w'
def RetBool (W:World) (b:Bool) (e:Ending) (w':World):Prop:=e = .returned (.bool b)/\Below W.heap.size W w'
def RetTk (W:World) (k:Int) (s:ByteArray) (l c:Int) (e:Ending) (w':World):Prop:=e = .returned (.agg #[.int .i64 k,.string s,.int .i64 l,.int .i64 c])/\Below W.heap.size W w'
def Blk (w:World) (b n:Nat):Prop:=∃ cs T,w.heap[b]?=some (.cells cs T (0,0))/\cs.size=n
theorem Blk.of {w:World} {b:Nat} {cs:Array Value} {T:TypeId} (h:w.heap[b]?=some (.cells cs T (0,0))):Blk w b cs.size:=⟨cs,T,h,rfl⟩
theorem Blk.set {w:World} {b n:Nat} (h:Blk w b n) (i:Nat) (u:Value):Blk (w.setCell ⟨b,i,none⟩ u) b n:=by
 obtain ⟨cs,T,h,hn⟩:=h;exact ⟨_,T,Qd h i u,by rw [Array.size_setIfInBounds,hn]⟩
theorem Blk.read {w:World} {b n:Nat} (h:Blk w b n) (i:Nat) (hi:i < n) (u:Value):(w.setCell ⟨b,i,none⟩ u).cell? ⟨b,i,none⟩ = some u:=by
 obtain ⟨cs,T,h,hn⟩:=h;exact Qb (Qd h i u) (by rw [Array.getElem?_setIfInBounds_self,if_pos (by omega)])
theorem Qq {w:World} {b:Nat} (h:Blk w b 6) (u0 u1 u2 u3 u4 u5:Value) :
 (w.setCell ⟨b,0,none⟩ u0).cell? ⟨b,0,none⟩=some u0/\((w.setCell ⟨b,0,none⟩ u0).setCell ⟨b,1,none⟩ u1).cell? ⟨b,1,none⟩=some u1 /\
 (((w.setCell ⟨b,0,none⟩ u0).setCell ⟨b,1,none⟩ u1).setCell ⟨b,2,none⟩ u2).cell? ⟨b,2,none⟩=some u2 /\
 ((((w.setCell ⟨b,0,none⟩ u0).setCell ⟨b,1,none⟩ u1).setCell ⟨b,2,none⟩ u2).setCell ⟨b,3,none⟩ u3).cell? ⟨b,3,none⟩=some u3 /\
 (((((w.setCell ⟨b,0,none⟩ u0).setCell ⟨b,1,none⟩ u1).setCell ⟨b,2,none⟩ u2).setCell ⟨b,3,none⟩ u3).setCell ⟨b,4,none⟩ u4).cell? ⟨b,4,none⟩=some u4 /\
 ((((((w.setCell ⟨b,0,none⟩ u0).setCell ⟨b,1,none⟩ u1).setCell ⟨b,2,none⟩ u2).setCell ⟨b,3,none⟩ u3).setCell ⟨b,4,none⟩ u4).setCell ⟨b,5,none⟩ u5).cell? ⟨b,5,none⟩=some u5 :=
 ⟨h.read 0 (by omega) _,(h.set _ _).read 1 (by omega) _,((h.set _ _).set _ _).read 2 (by omega) _,(((h.set _ _).set _ _).set _ _).read 3 (by omega) _,((((h.set _ _).set _ _).set _ _).set _ _).read 4 (by omega) _,(((((h.set _ _).set _ _).set _ _).set _ _).set _ _).read 5 (by omega) _⟩
theorem store_4 {w:World} {b:Nat} (h:Blk w b 4) (u0 u1 u2 u3:Value) :
 (w.setCell ⟨b,0,none⟩ u0).cell? ⟨b,0,none⟩=some u0/\((w.setCell ⟨b,0,none⟩ u0).setCell ⟨b,1,none⟩ u1).cell? ⟨b,1,none⟩=some u1 /\
 (((w.setCell ⟨b,0,none⟩ u0).setCell ⟨b,1,none⟩ u1).setCell ⟨b,2,none⟩ u2).cell? ⟨b,2,none⟩=some u2 /\
 ((((w.setCell ⟨b,0,none⟩ u0).setCell ⟨b,1,none⟩ u1).setCell ⟨b,2,none⟩ u2).setCell ⟨b,3,none⟩ u3).cell? ⟨b,3,none⟩=some u3 :=
 ⟨h.read 0 (by omega) _,(h.set _ _).read 1 (by omega) _,((h.set _ _).set _ _).read 2 (by omega) _,(((h.set _ _).set _ _).set _ _).read 3 (by omega) _⟩
theorem Qf7 {B:Nat} {w x:World} {b:Nat} (h:Below B w x) (hb:B <= b) (u0 u1 u2 u3:Value) :
 Below B w ((((x.setCell ⟨b,0,none⟩ u0).setCell ⟨b,1,none⟩ u1).setCell ⟨b,2,none⟩ u2).setCell ⟨b,3,none⟩ u3) :=
 (((h.setCell hb _).setCell hb _).setCell hb _).setCell hb _
theorem QL {B:Nat} {w x:World} {b:Nat} (h:Below B w x) (hb:B <= b) (u0 u1 u2 u3 u4 u5:Value) :
 Below B w ((((((x.setCell ⟨b,0,none⟩ u0).setCell ⟨b,1,none⟩ u1).setCell ⟨b,2,none⟩ u2).setCell ⟨b,3,none⟩ u3).setCell ⟨b,4,none⟩ u4).setCell ⟨b,5,none⟩ u5) :=
 (((((h.setCell hb _).setCell hb _).setCell hb _).setCell hb _).setCell hb _).setCell hb _
theorem Qm (w:World) (o p:Obj):Below w.heap.size w ((w.alloc o).alloc p):=((Below.refl _ _).alloc (Nat.le_refl _) _).alloc (by simp) _
theorem Qz {w w2:World} {o p:Obj} (hb:Below ((w.alloc o).alloc p).heap.size ((w.alloc o).alloc p) w2) :
 w2.heap[w.heap.size]?=some o/\w2.heap[w.heap.size+1]?=some p/\Below w.heap.size w w2/\w.heap.size+1<w2.heap.size:=by
 have hz:=hb.size;simp only [World.size_alloc] at hz;refine ⟨(hb.block _ (by simp; omega)).trans ((heap_alloc_old _ _ (by simp)).trans (heap_alloc_new _ _)),(hb.block _ (by simp)).trans ?_,?_,by omega⟩
 ·have:=heap_alloc_new (w.alloc o) p
  rwa [World.size_alloc] at this
 ·exact (Qm w o p).trans (hb.mono (by simp; omega))
theorem Qy {w w2:World} {o:Obj} (hb:Below (w.alloc o).heap.size (w.alloc o) w2):w2.heap[w.heap.size]? = some o /\ Below w.heap.size w w2 /\ w.heap.size < w2.heap.size:=by
 have hz:=hb.size;simp only [World.size_alloc] at hz;exact ⟨(hb.block _ (by simp)).trans (heap_alloc_new _ _),((Below.refl _ _).alloc (Nat.le_refl _) _).trans (hb.mono (by simp)),by omega⟩
theorem undrew {w w':World} (h:Below w.drew.heap.size w.drew w'):Below w.heap.size w w':=⟨h.os,h.tape,h.output,h.size,h.block⟩
theorem Qe {w w2:World} {b:Nat} {o:Obj} (h:w.heap[b]?=some o) (hb:Below w.heap.size w w2):w2.heap[b]?=some o:=(hb.block b (Array.getElem?_eq_some_iff.1 h).1).trans h
theorem QD {w:World} {b n:Nat} {cs:Array Value} {T:TypeId} (h:w.heap[b]?=some (.cells cs T (0,0))) (hn:cs.size=n):Blk w b n:=⟨cs,T,h,hn⟩
theorem Blk.other {w:World} {b n c:Nat} (h:Blk w b n) (hne:b ≠ c) (i:Nat) (u:Value):Blk (w.setCell ⟨c,i,none⟩ u) b n:=by
 obtain ⟨cs,T,h,hn⟩:=h;exact ⟨cs,T,(Below.heap_setCell _ _ _ _ hne).trans h,hn⟩
end
section
open Go.RowKit CurSpec
set_option maxRecDepth 100000
theorem Toks.but {w w':World} {b off n cp B:Nat} {l:List Tk} (h:Toks w (.slice (some ⟨b,off,none⟩) n cp) l) (hb:w.grownBy w' (some B)) (hne:b ≠ B):Toks w' (.slice (some ⟨b,off,none⟩) n cp) l:=by
 obtain ⟨m,hm,A,c,heq,hc,hl,hA⟩:=h
 cases heq
 refine ⟨n,hm,_,cp,rfl,hc,hl,fun h0=>?_⟩;obtain ⟨b',off',h1,hlt,hcell⟩:=hA h0
 cases h1
 refine ⟨b,off,rfl,Nat.lt_of_lt_of_le hlt hb.size,fun j u hj=>?_⟩;rw [<- hcell j u hj];have:=hb.block b hlt (by simp; omega);simp [World.cell?,this]
def CurAt (w:World) (B:Nat) (c:Cur):Prop :=
 ∃ b off n cp,w.heap[B]? = some (.cells #[.slice (some ⟨b,off,none⟩) (n + 1) cp,.int .i64 c.a1,.int .i64 c.a2,.int .i64 c.bad] 88 (0,0)) /\ b < B /\ n = c.L.length /\
   Toks w (.slice (some ⟨b,off,none⟩) (n+1) cp) (full c.L c.w1 c.w2)
theorem CurAt.lt {w:World} {B:Nat} {c:Cur} (h:CurAt w B c):B < w.heap.size:=by
 obtain ⟨b,off,n,cp,h,_⟩:=h;exact (Array.getElem?_eq_some_iff.1 h).1
theorem CurAt.keep {w w':World} {B:Nat} {c:Cur} (h:CurAt w B c) (hb:Below w.heap.size w w'):CurAt w' B c:=by
 obtain ⟨b,off,n,cp,h,hne,hn,hT⟩:=h;exact ⟨b,off,n,cp,Qe h hb,hne,hn,hT.keep hb⟩
theorem CurAt.but {w w':World} {B B2:Nat} {c:Cur} (h:CurAt w B c) (hb:w.grownBy w' (some B2)) (hlt:B < B2):CurAt w' B c:=by
 obtain ⟨b,off,n,cp,h,hne,hn,hT⟩:=h;exact ⟨b,off,n,cp,(hb.block _ (Array.getElem?_eq_some_iff.1 h).1 (by simp; omega)).trans h,hne,hn,hT.but hb (by omega)⟩
theorem CurAt.drew {w:World} {B:Nat} {c:Cur} (h:CurAt w B c):CurAt w.drew B c:=h
theorem CurAt.alloc {w:World} {B:Nat} {c:Cur} (h:CurAt w B c) (o:Obj):CurAt (w.alloc o) B c:=h.keep ((Below.refl _ _).alloc (Nat.le_refl _) _)
def Fl (w:World) (p:Value) (a1 a2 e:Int):Prop :=
 (p = .pointer none/\a1=0/\a2=0/\e=10) \/
 (∃ B,p = .pointer (some ⟨B,0,none⟩)/\w.heap[B]?=some (.cells #[.slice none 0 0,.int .i64 0,.int .i64 0,.int .i64 0] 88 (0,0))/\a1=0/\a2=0/\e=10) \/
 (∃ B c,p = .pointer (some ⟨B,0,none⟩)/\CurAt w B c/\a1=c.a1/\a2=c.a2/\e=c.bad)
theorem Fl.keep {w w':World} {p:Value} {a1 a2 e:Int} (h:Fl w p a1 a2 e) (hb:Below w.heap.size w w'):Fl w' p a1 a2 e:=by
 rcases h with h | ⟨B,hp,h,h'⟩ | ⟨B,c,hp,h,h'⟩
 ·exact .inl h
 ·exact .inr (.inl ⟨B,hp,Qe h hb,h'⟩)
 ·exact .inr (.inr ⟨B,c,hp,h.keep hb,h'⟩)
theorem Fl.of {w:World} {B:Nat} {c:Cur} (h:CurAt w B c):Fl w (.pointer (some ⟨B,0,none⟩)) c.a1 c.a2 c.bad:=.inr (.inr ⟨B,c,rfl,h,rfl,rfl,rfl⟩)
def RetFault (W:World) (a1 a2 er:Int) (e:Ending) (w':World):Prop:=e = .returned (.tuple #[.agg #[.int .i64 a1,.int .i64 a2],.int .i64 er])/\Below W.heap.size W w'
theorem QfS (p:Value) (a1 a2 er:Int) (w:World) (h:Fl w p a1 a2 er):Calls Tryz.prog 22 #[p] w (RetFault w a1 a2 er):=by
 rcases h with ⟨rfl,rfl,rfl,rfl⟩ | ⟨B,rfl,h,rfl,rfl,rfl⟩ | ⟨B,c,rfl,h,rfl,rfl,rfl⟩
 ·go_enter Tryz.func22,Tryz.ntmps22
  go_wp2_with fail;refine bodyPost_ret (v:=.tuple #[.agg #[.int .i64 0,.int .i64 0],.int .i64 10]) (by simp [results,Tryz.results22,go_sem]) rfl ⟨rfl,(Below.refl _ _).alloc (Nat.le_refl _) _⟩
 ·obtain ⟨c0,c1,c2,c3⟩:=Qi h
  have hlt:=(Array.getElem?_eq_some_iff.1 h).1;clear h;go_enter Tryz.func22,Tryz.ntmps22;go_wp2_with fail;refine bodyPost_ret (v:=.tuple #[.agg #[.int .i64 0,.int .i64 0],.int .i64 10]) (by simp [results,Tryz.results22,go_sem]) rfl ⟨rfl,(Below.refl _ _).alloc (Nat.le_refl _) _⟩
 ·have hlt:=h.lt
  obtain ⟨b,off,n,cp,h,_,_,_⟩:=h;obtain ⟨c0,c1,c2,c3⟩:=Qi h;have hnI:0<=(n:Int):=by omega
  clear h;go_enter Tryz.func22,Tryz.ntmps22;go_wp2_with fail;go_region
  all_goals
   go_wp2_with fail;refine bodyPost_ret (v:=.tuple #[.agg #[.int .i64 c.a1,.int .i64 c.a2],.int .i64 c.bad]) (by simp [results,Tryz.results22,go_sem]) rfl ⟨rfl,((Below.refl _ _).alloc (Nat.le_refl _) _).drew⟩
theorem JR (p:Value) (a1 a2 er:Int) (w:World) (h:Fl w p a1 a2 er) {b:Bool} (hb:(er == 0) = b):Calls Tryz.prog 45 #[p] w (RetBool w b):=by
 have HF:=qh (fun W hW=>QfS p a1 a2 er W (h.keep hW));have HV:=qh hb;clear h hb;go_enter Tryz.func45,Tryz.ntmps45;go_wp2_with (go_at_call 22; go_fit (HF.o _ (Below.refl _ _)));rintro e x2 ⟨rfl,hb2⟩;have HB:=qh hb2;clear hb2;go_wp2_with fail;go_ret;exact ⟨Qg HV.o,HB.o.alloc HB.o.size _⟩
end
section
open Go.RowKit CurSpec
set_option maxRecDepth 100000
def RetNone (W:World) (e:Ending) (w':World):Prop:=e = .returned (.tuple #[])/\Below W.heap.size W w'
section
variable (p:Value) (a1 a2 er:Int) (hne:er≠0) (w:World) (h:Fl w p a1 a2 er)
include hne h
theorem Qc3:Calls Tryz.prog 45 #[p] w (RetBool w false):=JR p a1 a2 er w h (by simpa using hne)
theorem QjB:Calls Tryz.prog 78 #[p] w (RetTk w 0 ⟨#[]⟩ 0 0):=by
 have HG:=qh (fun W hW=>Qc3 p a1 a2 er hne W (h.keep hW));clear h hne;go_enter Tryz.func78,Tryz.ntmps78;go_wp2_with (go_at_call 45; go_fit (HG.o _ ((Below.refl _ _).alloc (Nat.le_refl _) _)));rintro e x2 ⟨rfl,hb2⟩;obtain ⟨k1,hB,hz⟩:=Qy hb2;obtain ⟨c0,c1,c2,c3⟩:=Qi k1;obtain ⟨f0,f1,f2,f3⟩:=Q3 k1;have HK:=qh (QD k1 (n:=4) rfl);have HB:=qh hB;clear hb2 hB k1;go_wp2_with fail;obtain ⟨q0,q1,q2,q3⟩:=store_4 HK.o (.int .i64 0) (.string ⟨#[]⟩) (.int .i64 0) (.int .i64 0);refine bodyPost_ret (v:=.agg #[.int .i64 0,.string ⟨#[]⟩,.int .i64 0,.int .i64 0]) (by simp [results,Tryz.results78,go_sem,q0,q1,q2,q3]) rfl ⟨rfl,Qf7 HB.o (Nat.le_refl _) _ _ _ _⟩
theorem is_dead (k:Int) (s:ByteArray):Calls Tryz.prog 89 #[p,.int .i64 k,.string s] w (RetBool w false):=by
 have HG:=qh (Qc3 p a1 a2 er hne w h);clear h hne;go_enter Tryz.func89,Tryz.ntmps89;go_wp2_with (go_at_call 45; go_fit HG.o);rintro e x2 ⟨rfl,hb2⟩;have HB:=qh hb2;clear hb2;go_wp2_with fail;go_ret;exact ⟨rfl,HB.o⟩
theorem QcS (k:Int) (s:ByteArray):Calls Tryz.prog 46 #[p,.int .i64 k,.string s] w (RetBool w false):=by
 have HG:=qh (is_dead p a1 a2 er hne w h k s);clear h hne;go_enter Tryz.func46,Tryz.ntmps46;go_wp2_with (go_at_call 89; go_fit HG.o);rintro e x2 ⟨rfl,hb2⟩;have HB:=qh hb2;clear hb2;go_wp2_with fail;go_ret;exact ⟨rfl,HB.o⟩
theorem QeI (n:Int):Calls Tryz.prog 47 #[p,.int .i64 n] w (RetNone w):=by
 have HG:=qh (Qc3 p a1 a2 er hne w h);clear h hne;go_enter Tryz.func47,Tryz.ntmps47;go_wp2_with (go_at_call 45; go_fit HG.o);rintro e x2 ⟨rfl,hb2⟩;have HB:=qh hb2;clear hb2;go_wp2_with fail
 go_end0
 exact ⟨rfl,HB.o⟩
theorem QV (k:Int) (s:ByteArray):Calls Tryz.prog 21 #[p,.int .i64 k,.string s] w (RetNone w):=by
 have HG:=qh (QcS p a1 a2 er hne w h k s);have HF:=qh (fun W hW=>QeI p a1 a2 er hne W (h.keep hW) 2);clear h hne;go_enter Tryz.func21,Tryz.ntmps21;go_wp2_with (go_at_call 46; go_fit HG.o);rintro e x2 ⟨rfl,hb2⟩;have HB:=qh hb2;clear hb2;go_wp2_with (go_at_call 47; go_fit (HF.o _ HB.o));rintro e x3 ⟨rfl,hb3⟩;have HB3:=qh (Qa HB.o hb3);clear hb3;go_wp2_with fail
 go_end0
 exact ⟨rfl,HB3.o⟩
end
end
section
open Go.RowKit CurSpec
set_option maxRecDepth 100000
theorem Q4 (c:Cur) (A:Option Addr) (n cp:Nat) (w:World) (h:Toks w (.slice A n cp) c.L) :
 Calls Tryz.prog 104 #[.agg #[.slice A n cp,.int .i64 c.w1,.int .i64 c.w2,.int .i64 c.a1,.int .i64 c.a2,.int .i64 c.bad]] w (RetTk w (next c).k (next c).t (next c).l (next c).c):=by
 obtain ⟨L,w1,w2,a1,a2,bad⟩:=c
 change Calls _ _ #[.agg #[.slice A n cp,.int .i64 w1,.int .i64 w2,.int .i64 a1,.int .i64 a2,.int .i64 bad]] _ _
 by_cases hb:bad=0
 ·subst hb
  cases L with
  | nil =>
    obtain rfl:=h.nil0;clear h;go_enter Tryz.func104,Tryz.ntmps104;go_wp2_with fail;refine bodyPost_ret (v:=.agg #[.int .i64 0,.string ⟨#[]⟩,.int .i64 w1,.int .i64 w2]) (by simp [results,Tryz.results104,go_sem]) rfl ⟨rfl,Qm _ _ _⟩
  | cons t r =>
    obtain ⟨b,off,m,rfl,rfl,hc,hlt,c0,c1,c2,c3,_⟩:=h.cons';clear h;obtain ⟨k,s,l,cc⟩:=t;simp only at c0 c1 c2 c3;have hnI:0<=(m:Int):=by omega
    clear hc;go_enter Tryz.func104,Tryz.ntmps104;go_wp2_with fail;refine bodyPost_ret (v:=.agg #[.int .i64 k,.string s,.int .i64 l,.int .i64 cc]) (by simp [results,Tryz.results104,go_sem]) rfl ⟨rfl,Qm _ _ _⟩
 ·have e0:(bad == 0) = false:=by simpa using hb
  have e1:(bad != 0)=true:=by simpa using hb
  clear h;go_enter Tryz.func104,Tryz.ntmps104;go_wp2_with fail;refine bodyPost_ret (v:=.agg #[.int .i64 0,.string ⟨#[]⟩,.int .i64 0,.int .i64 0]) (by simp [results,Tryz.results104,go_sem]) rfl ⟨?_,Qm _ _ _⟩;rw [J8 hb]; rfl
theorem Qbp {W0 w w':World} {c:Cur} {A:Option Addr} {n cp:Nat} {w1 w2 a1 a2 bad:Int} (h:c = ⟨c.L,w1,w2,a1,a2,bad⟩) (hT:Toks W0 (.slice A n cp) c.L) (hB:Below w.heap.size w w') :
 RetCur W0 w c (.returned (.agg #[.slice A n cp,.int .i64 w1,.int .i64 w2,.int .i64 a1,.int .i64 a2,.int .i64 bad])) w' :=
 ⟨A,n,cp,by rw [h],hT,hB⟩
theorem Ji (c:Cur) (A:Option Addr) (n cp:Nat) (W0 w:World) (h:Toks W0 (.slice A n cp) c.L) (hw:Below W0.heap.size W0 w) :
 Calls Tryz.prog 63 #[.agg #[.slice A n cp,.int .i64 c.w1,.int .i64 c.w2,.int .i64 c.a1,.int .i64 c.a2,.int .i64 c.bad]] w (RetCur W0 w (on c)):=by
 obtain ⟨L,w1,w2,a1,a2,bad⟩:=c
 change Calls _ _ #[.agg #[.slice A n cp,.int .i64 w1,.int .i64 w2,.int .i64 a1,.int .i64 a2,.int .i64 bad]] _ _
 cases L with
 | nil =>
   obtain rfl:=h.nil0;have HT:=qh h;clear h hw;go_enter Tryz.func63,Tryz.ntmps63;go_wp2_with fail;refine bodyPost_ret (v:=.agg #[.slice A 0 cp,.int .i64 w1,.int .i64 w2,.int .i64 a1,.int .i64 a2,.int .i64 bad]) (by simp [results,Tryz.results63,go_sem]) rfl ?_;exact Qbp rfl HT.o (Qm _ _ _)
 | cons t r =>
   obtain ⟨b,off,n,rfl,rfl,hc,_,_,_,_,_,hr⟩:=h.cons';obtain ⟨b',off',n',hA,hn,_,hlt,c0,c1,c2,c3,_⟩:=(h.keep hw).cons'
   cases hA; cases hn
   clear h hw;have HT:=qh hr;clear hr;obtain ⟨k,s,l,cc⟩:=t;simp only at c0 c1 c2 c3;have hnI:0<=(n:Int):=by omega
   by_cases hcp:cp=1
   ·subst hcp
    obtain rfl:n=0:=by omega
    have HT2:Hid (Toks W0 (.slice (some ⟨b,off,none⟩) 0 0) r):=HT;clear HT;go_enter Tryz.func63,Tryz.ntmps63;go_wp2_with fail;refine bodyPost_ret (v:=.agg #[.slice (some ⟨b,off,none⟩) 0 0,.int .i64 l,.int .i64 cc,.int .i64 a1,.int .i64 a2,.int .i64 bad]) (by simp [results,Tryz.results63,go_sem]) rfl ?_;exact Qbp rfl HT2.o (Qm _ _ _)
   ·have hc1:1 < cp:=by omega
    have HT2:Hid (Toks W0 (.slice (some ⟨b,off+4,none⟩) n (cp-1)) r):=qh (by have:=HT.o; rwa [if_neg hcp] at this);go_enter Tryz.func63,Tryz.ntmps63;go_wp2_with fail;refine bodyPost_ret (v:=.agg #[.slice (some ⟨b,off+4,none⟩) n (cp-1),.int .i64 l,.int .i64 cc,.int .i64 a1,.int .i64 a2,.int .i64 bad]) (by simp [results,Tryz.results63,go_sem]) rfl ?_;exact Qbp rfl HT2.o (Qm _ _ _)
theorem Jw (c:Cur) (er:Int) (A:Option Addr) (n cp:Nat) (W0 w:World) (h:Toks W0 (.slice A n cp) c.L) (hw:Below W0.heap.size W0 w) :
 Calls Tryz.prog 64 #[.agg #[.slice A n cp,.int .i64 c.w1,.int .i64 c.w2,.int .i64 c.a1,.int .i64 c.a2,.int .i64 c.bad],.int .i64 er] w (RetCur W0 w (fail c er)):=by
 have HT:=qh h;have HTw:=qh (h.keep hw);have HN:=qh (fun W h=>Q4 c A n cp W h);clear h hw
 by_cases hb:c.bad=0
 ·by_cases he:er = 0
  ·have HF:Hid (fail c er = c):=qh (by rw [he]; exact JM _)
   have e0:(c.bad==0)=true:=by simpa using hb
   have e1:(er != 0)=false:=by simpa using he
   clear he hb;go_enter Tryz.func64,Tryz.ntmps64;go_wp2_with fail;refine bodyPost_ret (v:=.agg #[.slice A n cp,.int .i64 c.w1,.int .i64 c.w2,.int .i64 c.a1,.int .i64 c.a2,.int .i64 c.bad]) (by simp [results,Tryz.results64,go_sem]) rfl ?_;rw [HF.o];exact Qbp rfl HT.o (Qm _ _ _)
  ·obtain ⟨k,s,l,cc⟩:∃ t,next c = t:=⟨_,rfl⟩
   obtain ⟨t,ht⟩:∃ t,t=next c:=⟨_,rfl⟩;have HF:Hid (fail c er=⟨c.L,c.w1,c.w2,t.l,t.c,er⟩):=qh (by rw [Qb9 hb he,ht]);rw [<- ht] at HN;have e2:(c.bad==0)=true:=by simpa using hb
   have e1:(er != 0)=true:=by simpa using he
   have e0:(er==0)=false:=by simpa using he
   clear he ht hb;have hF2:∀ W,(Instr.field 76 (.agg #[.int .i64 t.k,.string t.t,.int .i64 t.l,.int .i64 t.c]) 2).run Tryz.prog W = .ok (.agg #[.int .i64 t.l,.int .i64 t.c]) W:=fun _=>by kernel_rfl
   go_enter Tryz.func64,Tryz.ntmps64;go_wp2_with (go_at_call 104; go_fit (HN.o _ ((HTw.o.alloc _).alloc _)));rintro e x2 ⟨rfl,hb2⟩;obtain ⟨k1,k2,hB,_⟩:=Qz hb2;have HK2:=qh (QD k2 (n:=6) rfl);have HB:=qh hB;obtain ⟨c0,c1,c2,c3,c4,c5⟩:=Qc k1;obtain ⟨f0,f1,f2,f3,f4,f5⟩:=Qk k1;obtain ⟨d0,d1,d2,d3,d4,d5⟩:=Qc k2;obtain ⟨g0,g1,g2,g3,g4,g5⟩:=Qk k2;clear hb2 k1 k2 hB;go_wp2_with fail;have HS:=((HK2.o.other (c:=w.heap.size) (by omega) 3 (.int .i64 t.l)).other (c:=w.heap.size) (by omega) 4 (.int .i64 t.c)).other (c:=w.heap.size) (by omega) 5 (.int .i64 er);obtain ⟨q0,q1,q2,q3,q4,q5⟩:=Qq HS (.slice A n cp) (.int .i64 c.w1) (.int .i64 c.w2) (.int .i64 t.l) (.int .i64 t.c) (.int .i64 er);refine bodyPost_ret (v:=.agg #[.slice A n cp,.int .i64 c.w1,.int .i64 c.w2,.int .i64 t.l,.int .i64 t.c,.int .i64 er]) (by simp [results,Tryz.results64,go_sem,q0,q1,q2,q3,q4,q5]) rfl ?_;have hB:=QL (((HB.o.setCell (p:=⟨w.heap.size,3,none⟩) (Nat.le_refl _) (.int .i64 t.l)).setCell (p:=⟨w.heap.size,4,none⟩) (Nat.le_refl _) (.int .i64 t.c)).setCell (p:=⟨w.heap.size,5,none⟩) (Nat.le_refl _) (.int .i64 er)) (b:=w.heap.size+1) (by omega) (.slice A n cp) (.int .i64 c.w1) (.int .i64 c.w2) (.int .i64 t.l) (.int .i64 t.c) (.int .i64 er);rw [HF.o];exact Qbp rfl HT.o hB
 ·have HF:Hid (fail c er = c):=qh (Jo er hb)
  have e0:(c.bad==0)=false:=by simpa using hb
  go_enter Tryz.func64,Tryz.ntmps64;go_wp2_with fail;refine bodyPost_ret (v:=.agg #[.slice A n cp,.int .i64 c.w1,.int .i64 c.w2,.int .i64 c.a1,.int .i64 c.a2,.int .i64 c.bad]) (by simp [results,Tryz.results64,go_sem]) rfl ?_;rw [HF.o];exact Qbp rfl HT.o (Qm _ _ _)
theorem JB {c:Cur} {k:Int} {s:ByteArray} (h0:c.bad=0) (h1:(next c).k=k) (h2:(next c).t=s):isB c k s=true:=by simp [isB,h0,h1,h2]
theorem isB_no1 {c:Cur} {k:Int} {s:ByteArray} (h1:(next c).k≠k):isB c k s=false:=by simp [isB,h1]
theorem isB_no2 {c:Cur} {k:Int} {s:ByteArray} (h1:(next c).t≠s):isB c k s=false:=by simp [isB,h1]
theorem QaW (c:Cur) (k:Int) (s:ByteArray) (A:Option Addr) (n cp:Nat) (w:World) (h:Toks w (.slice A n cp) c.L) :
 Calls Tryz.prog 62 #[.agg #[.slice A n cp,.int .i64 c.w1,.int .i64 c.w2,.int .i64 c.a1,.int .i64 c.a2,.int .i64 c.bad],.int .i64 k,.string s] w (RetBool w (isB c k s)):=by
 have HT:=qh h;have HN:=qh (fun W h=>Q4 c A n cp W h);clear h;obtain ⟨t,ht⟩:∃ t,t=next c:=⟨_,rfl⟩;obtain ⟨b,hb⟩:∃ b,b=isB c k s:=⟨_,rfl⟩;rw [<- ht] at HN;rw [<- hb]
 by_cases h0:c.bad=0
 ·have e0:(c.bad == 0) = true:=by simpa using h0
  by_cases h1:t.k=k
  ·have e1:(t.k == k) = true:=by simpa using h1
   by_cases h2:t.t=s
   ·have e2:(t.t.toList == s.toList) = true:=by rw [h2]; simp
    have HV:Hid (b=true):=qh (hb.trans (JB h0 (by rw [<- ht]; exact h1) (by rw [<- ht]; exact h2)));clear hb ht h0 h1 h2;go_enter Tryz.func62,Tryz.ntmps62;go_wp2_with (go_at_call 104; go_fit (HN.o _ (HT.o.alloc _)));rintro e x2 ⟨rfl,hb2⟩;obtain ⟨k1,hB,hz⟩:=Qy hb2;obtain ⟨c0,c1,c2,c3,c4,c5⟩:=Qc k1;have HB:=qh hB;clear hb2 k1 hB;go_wp2_with fail;go_ret;exact ⟨Qg HV.o.symm,HB.o.alloc (Nat.le_of_lt hz) _⟩
   ·have e2:(t.t.toList == s.toList) = false:=(Lib.bytes_beq_false_iff _ _).2 h2
    have HV:Hid (b=false):=qh (hb.trans (isB_no2 (by rw [<- ht]; exact h2)));clear hb ht h0 h1 h2;go_enter Tryz.func62,Tryz.ntmps62;go_wp2_with (go_at_call 104; go_fit (HN.o _ (HT.o.alloc _)));rintro e x2 ⟨rfl,hb2⟩;obtain ⟨k1,hB,hz⟩:=Qy hb2;obtain ⟨c0,c1,c2,c3,c4,c5⟩:=Qc k1;have HB:=qh hB;clear hb2 k1 hB;go_wp2_with fail;go_ret;exact ⟨Qg HV.o.symm,HB.o.alloc (Nat.le_of_lt hz) _⟩
  ·have e1:(t.k == k) = false:=by simpa using h1
   have HV:Hid (b=false):=qh (hb.trans (isB_no1 (by rw [<- ht]; exact h1)));clear hb ht h0 h1;go_enter Tryz.func62,Tryz.ntmps62;go_wp2_with (go_at_call 104; go_fit (HN.o _ (HT.o.alloc _)));rintro e x2 ⟨rfl,hb2⟩;obtain ⟨k1,hB,hz⟩:=Qy hb2;obtain ⟨c0,c1,c2,c3,c4,c5⟩:=Qc k1;have HB:=qh hB;clear hb2 k1 hB;go_wp2_with fail;go_ret;exact ⟨Qg HV.o.symm,HB.o.alloc (Nat.le_of_lt hz) _⟩
 ·have e0:(c.bad == 0) = false:=by simpa using h0
  have HV:Hid (b=false):=qh (hb.trans (QP k s h0));clear hb ht h0;go_enter Tryz.func62,Tryz.ntmps62;go_wp2_with (go_at_call 104; go_fit (HN.o _ (HT.o.alloc _)));rintro e x2 ⟨rfl,hb2⟩;obtain ⟨k1,hB,hz⟩:=Qy hb2;obtain ⟨c0,c1,c2,c3,c4,c5⟩:=Qc k1;have HB:=qh hB;clear hb2 k1 hB;go_wp2_with fail;go_ret;exact ⟨Qg HV.o.symm,HB.o.alloc (Nat.le_of_lt hz) _⟩
end
section
open Go.RowKit CurSpec
set_option maxRecDepth 100000
theorem full_next {c:Cur} (h:c.bad = 0):∃ r,full c.L c.w1 c.w2 = next c :: r /\ (0 < c.L.length -> r = full (on c).L (on c).w1 (on c).w2):=by
 obtain ⟨L,w1,w2,a1,a2,bad⟩:=c;obtain rfl:bad=0:=h
 cases L with
 | nil => exact ⟨[],rfl,fun h => absurd h (by simp)⟩
 | cons t r => exact ⟨_,rfl,fun _ => rfl⟩
theorem CurAt.open {w:World} {B:Nat} {c:Cur} (h:CurAt w B c) (h0:c.bad = 0) :
 ∃ b off n cp,w.heap[B]? = some (.cells #[.slice (some ⟨b,off,none⟩) (n + 1) cp,.int .i64 c.a1,.int .i64 c.a2,.int .i64 c.bad] 88 (0,0)) /\ b ≠ B /\ n = c.L.length /\ n + 1 <= cp /\ b < w.heap.size /\
   w.cell? ⟨b,off,none⟩=some (.int .i64 (next c).k)/\w.cell? ⟨b,off+1,none⟩=some (.string (next c).t)/\w.cell? ⟨b,off+2,none⟩=some (.int .i64 (next c).l)/\w.cell? ⟨b,off+3,none⟩=some (.int .i64 (next c).c):=by
 obtain ⟨b,off,n,cp,hB,hne,hn,hT⟩:=h;obtain ⟨r,hr,_⟩:=full_next h0;rw [hr] at hT;obtain ⟨b',off',m,hA,hm,hc,hlt,c0,c1,c2,c3,_⟩:=hT.cons'
 cases hA; cases hm
 exact ⟨b,off,n,cp,hB,Nat.ne_of_lt hne,hn,hc,hlt,c0,c1,c2,c3⟩
theorem next_live (B:Nat) (c:Cur) (w:World) (h:CurAt w B c) (h0:c.bad = 0):Calls Tryz.prog 78 #[.pointer (some ⟨B,0,none⟩)] w (RetTk w (next c).k (next c).t (next c).l (next c).c):=by
 have HG:=qh (fun W hW=>JR _ _ _ _ W ((Fl.of h).keep hW) (b:=true) (by simpa using h0));obtain ⟨t,ht⟩:∃ t,t=next c:=⟨_,rfl⟩;have HC:=qh (fun W hW=>(CurAt.keep (w':=W) h hW).open h0);rw [<- ht] at HC ⊢;clear h h0 ht;go_enter Tryz.func78,Tryz.ntmps78;go_wp2_with (go_at_call 45; go_fit (HG.o _ ((Below.refl _ _).alloc (Nat.le_refl _) _)));rintro e x2 ⟨rfl,hb2⟩;obtain ⟨k1,hB,hz⟩:=Qy hb2;obtain ⟨b,off,n,cp,hBl,hne,hn,hcp,hlt,t0,t1,t2,t3⟩:=HC.o x2 hB;obtain ⟨c0,c1,c2,c3⟩:=Qi hBl;obtain ⟨d0,d1,d2,d3⟩:=Qi k1;obtain ⟨f0,f1,f2,f3⟩:=Q3 k1;have HK:=qh (QD k1 (n:=4) rfl);have HB:=qh hB;have hnI:0<=(n:Int):=by omega
 clear hb2 hB k1 hBl hne hn hcp;go_wp2_with fail;obtain ⟨q0,q1,q2,q3⟩:=store_4 HK.o (.int .i64 t.k) (.string t.t) (.int .i64 t.l) (.int .i64 t.c);refine bodyPost_ret (v:=.agg #[.int .i64 t.k,.string t.t,.int .i64 t.l,.int .i64 t.c]) (by simp [results,Tryz.results78,go_sem,q0,q1,q2,q3]) rfl ⟨rfl,Qf7 HB.o (Nat.le_refl _) _ _ _ _⟩
theorem Qbu (B:Nat) (c:Cur) (w:World) (h:CurAt w B c):Calls Tryz.prog 78 #[.pointer (some ⟨B,0,none⟩)] w (RetTk w (next c).k (next c).t (next c).l (next c).c):=by
 by_cases h0:c.bad=0
 ·exact next_live B c w h h0
 ·rw [J8 h0]
  exact QjB _ _ _ _ h0 w (Fl.of h)
theorem is_at (B:Nat) (c:Cur) (k:Int) (s:ByteArray) (w:World) (h:CurAt w B c):Calls Tryz.prog 89 #[.pointer (some ⟨B,0,none⟩),.int .i64 k,.string s] w (RetBool w (isB c k s)):=by
 by_cases h0:c.bad=0
 ·have HG:=qh (JR _ _ _ _ w (Fl.of h) (b:=true) (by simpa using h0))
  have HN:=qh (fun W hW=>Qbu B c W (h.keep hW));obtain ⟨t,ht⟩:∃ t,t=next c:=⟨_,rfl⟩;obtain ⟨b,hb⟩:∃ b,b=isB c k s:=⟨_,rfl⟩;rw [<- ht] at HN;rw [<- hb];clear h
  by_cases h1:t.k=k
  ·have e1:(t.k == k) = true:=by simpa using h1
   by_cases h2:t.t=s
   ·have e2:(t.t.toList == s.toList) = true:=by rw [h2]; simp
    have HV:Hid (b=true):=qh (hb.trans (JB h0 (by rw [<- ht]; exact h1) (by rw [<- ht]; exact h2)));clear hb ht h0 h1 h2;go_enter Tryz.func89,Tryz.ntmps89;go_wp2_with (go_at_call 45; go_fit HG.o);rintro e x2 ⟨rfl,hb2⟩;have HB:=qh hb2;clear hb2;go_wp2_with (go_at_call 78; go_fit (HN.o _ HB.o));rintro e x3 ⟨rfl,hb3⟩;have HB3:=qh (Qa HB.o hb3);clear hb3;go_wp2_with fail;go_ret;exact ⟨Qg HV.o.symm,HB3.o.alloc HB3.o.size _⟩
   ·have e2:(t.t.toList == s.toList) = false:=(Lib.bytes_beq_false_iff _ _).2 h2
    have HV:Hid (b=false):=qh (hb.trans (isB_no2 (by rw [<- ht]; exact h2)));clear hb ht h0 h1 h2;go_enter Tryz.func89,Tryz.ntmps89;go_wp2_with (go_at_call 45; go_fit HG.o);rintro e x2 ⟨rfl,hb2⟩;have HB:=qh hb2;clear hb2;go_wp2_with (go_at_call 78; go_fit (HN.o _ HB.o));rintro e x3 ⟨rfl,hb3⟩;have HB3:=qh (Qa HB.o hb3);clear hb3;go_wp2_with fail;go_ret;exact ⟨Qg HV.o.symm,HB3.o.alloc HB3.o.size _⟩
  ·have e1:(t.k == k) = false:=by simpa using h1
   have HV:Hid (b=false):=qh (hb.trans (isB_no1 (by rw [<- ht]; exact h1)));clear hb ht h0 h1;go_enter Tryz.func89,Tryz.ntmps89;go_wp2_with (go_at_call 45; go_fit HG.o);rintro e x2 ⟨rfl,hb2⟩;have HB:=qh hb2;clear hb2;go_wp2_with (go_at_call 78; go_fit (HN.o _ HB.o));rintro e x3 ⟨rfl,hb3⟩;have HB3:=qh (Qa HB.o hb3);clear hb3;go_wp2_with fail;go_ret;exact ⟨Qg HV.o.symm,HB3.o.alloc HB3.o.size _⟩
 ·rw [QP k s h0]
  exact is_dead _ _ _ _ h0 w (Fl.of h) k s
def RetAt (W:World) (B:Nat) (c:Cur) (e:Ending) (w':World):Prop:=e = .returned (.tuple #[])/\CurAt w' B c/\W.grownBy w' (some B)
theorem QH {w w':World} {B:Nat} (h:Below w.heap.size w w'):w.grownBy w' (some B):=⟨h.os,h.tape,h.output,h.size,fun i hi _=>h.block i hi⟩
theorem Qgb (B:Nat) (c:Cur) (w:World) (h:CurAt w B c):Calls Tryz.prog 80 #[.pointer (some ⟨B,0,none⟩)] w (RetAt w B (on c)):=by
 have HC:=qh h;obtain ⟨b,off,n,cp,hBl,hne,hn,hT⟩:=h
 rcases Nat.eq_zero_or_pos n with hz | hp
 ·obtain rfl:n = 0:=hz
  have HO:Hid (on c=c):=qh (on_nil hn.symm);obtain ⟨c0,c1,c2,c3⟩:=Qi hBl;clear hBl hne hn hT;go_enter Tryz.func80,Tryz.ntmps80;go_wp2_with fail
  go_end0
  exact ⟨rfl,by rw [HO.o]; exact HC.o,Qx _ _⟩
 ·obtain ⟨m,rfl⟩:∃ m,n = m + 1:=⟨n - 1,by omega⟩
  have hf:full c.L c.w1 c.w2=(full c.L c.w1 c.w2).headD tz::full (on c).L (on c).w1 (on c).w2:=on_full (by omega);rw [hf] at hT;obtain ⟨b',off',m',hA,hm,hcp,hlt,_,_,_,_,hr⟩:=hT.cons'
  cases hA; cases hm
  rw [if_neg (by omega)] at hr;obtain ⟨c0,c1,c2,c3⟩:=Qi hBl;obtain ⟨f0,f1,f2,f3⟩:=Q3 hBl;have hcI:1<cp:=by omega
  have hb:=JL c
  have HR:Hid (CurAt (w.setCell ⟨B,0,none⟩ (.slice (some ⟨b,off + 4,none⟩) (m + 1) (cp - 1))) B (on c)):=qh (by
   refine ⟨b,off+4,m,cp-1,?_,hne,by rw [QeJ]; omega,hr.but (Ql (Qx _ _) 0 _) (Nat.ne_of_lt hne)⟩;have:=Qd hBl 0 (.slice (some ⟨b,off+4,none⟩) (m+1) (cp-1));rw [hb.1,hb.2.1,hb.2.2];exact this)
  have hnI:0<=(m:Int):=by omega
  clear hBl hne hn hT hr hf hb hlt;go_enter Tryz.func80,Tryz.ntmps80;go_wp2_with fail
  go_end0
  exact ⟨rfl,HR.o,Ql (Qx _ _) 0 _⟩
theorem CurAt.fault {w:World} {B:Nat} {c:Cur} (h:CurAt w B c) (l cc er:Int) :
 CurAt (((w.setCell ⟨B,1,none⟩ (.int .i64 l)).setCell ⟨B,2,none⟩ (.int .i64 cc)).setCell ⟨B,3,none⟩ (.int .i64 er)) B ⟨c.L,c.w1,c.w2,l,cc,er⟩:=by
 obtain ⟨b,off,n,cp,hBl,hne,hn,hT⟩:=h;refine ⟨b,off,n,cp,?_,hne,hn,hT.but (Ql (Ql (Ql (Qx _ _) 1 _) 2 _) 3 _) (Nat.ne_of_lt hne)⟩;exact Qd (Qd (Qd hBl 1 (.int .i64 l)) 2 (.int .i64 cc)) 3 (.int .i64 er)
theorem Zg (B:Nat) (c:Cur) (er:Int) (w:World) (h:CurAt w B c):Calls Tryz.prog 47 #[.pointer (some ⟨B,0,none⟩),.int .i64 er] w (RetAt w B (fail c er)):=by
 by_cases h0:c.bad=0
 ·have HG:=qh (JR _ _ _ _ w (Fl.of h) (b:=true) (by simpa using h0))
  have HC:=qh h
  by_cases he:er=0
  ·have e1:(er != 0) = false:=by simpa using he
   have HF:Hid (fail c er=c):=qh (by rw [he]; exact JM c);clear h he h0;go_enter Tryz.func47,Tryz.ntmps47;go_wp2_with (go_at_call 45; go_fit HG.o);rintro e x2 ⟨rfl,hb2⟩;have HB:=qh hb2;clear hb2;go_wp2_with fail
   go_end0
   exact ⟨rfl,by rw [HF.o]; exact HC.o.keep HB.o,QH HB.o⟩
  ·have e1:(er != 0) = true:=by simpa using he
   obtain ⟨t,ht⟩:∃ t,t=next c:=⟨_,rfl⟩;have HF:Hid (fail c er=⟨c.L,c.w1,c.w2,t.l,t.c,er⟩):=qh (by rw [Qb9 h0 he,ht]);have HO:=qh (fun W hW=>(CurAt.keep (w':=W) h hW).open h0);rw [<- ht] at HO;clear h he h0 ht;go_enter Tryz.func47,Tryz.ntmps47;go_wp2_with (go_at_call 45; go_fit HG.o);rintro e x2 ⟨rfl,hb2⟩;have HB:=qh hb2;obtain ⟨b,off,n,cp,hBl,hne,hn,hcp,hlt,t0,t1,t2,t3⟩:=HO.o x2 hb2;obtain ⟨c0,c1,c2,c3⟩:=Qi hBl;obtain ⟨f0,f1,f2,f3⟩:=Q3 hBl;have hnI:0<=(n:Int):=by omega
   clear hb2 hBl hn hcp;go_wp2_with fail
   go_end0
   refine ⟨rfl,?_,Ql (Ql (Ql (QH HB.o) 1 _) 2 _) 3 _⟩;rw [HF.o];exact (HC.o.keep HB.o).fault t.l t.c er
 ·rw [Jo er h0]
  refine (QeI _ _ _ _ h0 w (Fl.of h) er).mono ?_;rintro e w' ⟨he,hb⟩;exact ⟨he,h.keep hb,QH hb⟩
end
section
open Go.RowKit CurSpec
set_option maxRecDepth 100000
def RetCurB (W0 W:World) (c:Cur) (b:Bool) (e:Ending) (w':World):Prop :=
 ∃ A n cp,e = .returned (.tuple #[.agg #[.slice A n cp,.int .i64 c.w1,.int .i64 c.w2,.int .i64 c.a1,.int .i64 c.a2,.int .i64 c.bad],.bool b])/\Toks W0 (.slice A n cp) c.L/\Below W.heap.size W w'
theorem Jf (c:Cur) (k:Int) (s:ByteArray) (A:Option Addr) (n cp:Nat) (W0 w:World) (h:Toks W0 (.slice A n cp) c.L) (hw:Below W0.heap.size W0 w) :
 Calls Tryz.prog 107 #[.agg #[.slice A n cp,.int .i64 c.w1,.int .i64 c.w2,.int .i64 c.a1,.int .i64 c.a2,.int .i64 c.bad],.int .i64 k,.string s] w (RetCurB W0 w (take c k s) (isB c k s)):=by
 have HT:=qh h;have HW:=qh hw;have HI:=qh (fun W h=>QaW c k s A n cp W h);have HO:=qh (fun W hw=>Ji c A n cp W0 W h hw);clear h hw;obtain ⟨d,hd⟩:∃ d,d=on c:=⟨_,rfl⟩;rw [<- hd] at HO
 by_cases hb:isB c k s=true
 ·have HC:Hid (take c k s = d):=qh (by unfold take; rw [if_pos hb,hd])
  rw [hb] at HI ⊢;clear hb hd;go_enter Tryz.func107,Tryz.ntmps107;go_wp2_with (go_at_call 62; go_fit (HI.o _ (((HT.o.keep HW.o).alloc _).alloc _)));rintro e x2 ⟨rfl,hb2⟩;obtain ⟨k1,k2,hB,hz⟩:=Qz hb2;have HK2:=qh k2;have HB:=qh hB;obtain ⟨c0,c1,c2,c3,c4,c5⟩:=Qc k1;clear hb2 k1 k2 hB;go_wp2_with (go_at_call 63; go_fit (HO.o _ (Qa HW.o HB.o)));rintro e x3 ⟨A',n',cp',rfl,hT3,hb3⟩;have k3:=Qe HK2.o hb3;have HT3:=qh hT3;have HB3:=qh (Qa HB.o hb3);have HK3:=qh (QD k3 (n:=6) rfl);obtain ⟨d0,d1,d2,d3,d4,d5⟩:=Qc k3;obtain ⟨g0,g1,g2,g3,g4,g5⟩:=Qk k3;clear hT3 hb3 k3 c0 c1 c2 c3 c4 c5;go_wp2_with fail;obtain ⟨q0,q1,q2,q3,q4,q5⟩:=Qq HK3.o (.slice A' n' cp') (.int .i64 d.w1) (.int .i64 d.w2) (.int .i64 d.a1) (.int .i64 d.a2) (.int .i64 d.bad);refine bodyPost_ret (v:=.tuple #[.agg #[.slice A' n' cp',.int .i64 d.w1,.int .i64 d.w2,.int .i64 d.a1,.int .i64 d.a2,.int .i64 d.bad],.bool true]) (by simp [results,Tryz.results107,go_sem,q0,q1,q2,q3,q4,q5]) rfl ?_;rw [HC.o];exact ⟨A',n',cp',rfl,HT3.o,QL HB3.o (by omega) _ _ _ _ _ _⟩
 ·have hb':isB c k s = false:=by simpa using hb
  have HC:Hid (take c k s=c):=qh (by unfold take; rw [if_neg hb]);rw [hb'] at HI ⊢;clear hb hb' hd;go_enter Tryz.func107,Tryz.ntmps107;go_wp2_with (go_at_call 62; go_fit (HI.o _ (((HT.o.keep HW.o).alloc _).alloc _)));rintro e x2 ⟨rfl,hb2⟩;obtain ⟨k1,k2,hB,hz⟩:=Qz hb2;have HK2:=qh (QD k2 (n:=6) rfl);have HB:=qh hB;obtain ⟨c0,c1,c2,c3,c4,c5⟩:=Qc k1;obtain ⟨d0,d1,d2,d3,d4,d5⟩:=Qc k2;obtain ⟨g0,g1,g2,g3,g4,g5⟩:=Qk k2;clear hb2 k1 k2 hB;go_wp2_with fail;obtain ⟨q0,q1,q2,q3,q4,q5⟩:=Qq HK2.o (.slice A n cp) (.int .i64 c.w1) (.int .i64 c.w2) (.int .i64 c.a1) (.int .i64 c.a2) (.int .i64 c.bad);refine bodyPost_ret (v:=.tuple #[.agg #[.slice A n cp,.int .i64 c.w1,.int .i64 c.w2,.int .i64 c.a1,.int .i64 c.a2,.int .i64 c.bad],.bool false]) (by simp [results,Tryz.results107,go_sem,q0,q1,q2,q3,q4,q5]) rfl ?_;have hB:=QL HB.o (b:=w.heap.size+1) (by omega) (.slice A n cp) (.int .i64 c.w1) (.int .i64 c.w2) (.int .i64 c.a1) (.int .i64 c.a2) (.int .i64 c.bad);rw [HC.o];exact ⟨A,n,cp,rfl,HT.o,hB⟩
theorem Qd5 (c:Cur) (k:Int) (s:ByteArray) (A:Option Addr) (n cp:Nat) (W0 w:World) (h:Toks W0 (.slice A n cp) c.L) (hw:Below W0.heap.size W0 w) :
 Calls Tryz.prog 26 #[.agg #[.slice A n cp,.int .i64 c.w1,.int .i64 c.w2,.int .i64 c.a1,.int .i64 c.a2,.int .i64 c.bad],.int .i64 k,.string s] w (RetCur W0 w (want c k s)):=by
 have HT:=qh h;have HW:=qh hw;have HI:=qh (fun W h=>QaW c k s A n cp W h);have HO:=qh (fun W hw=>Ji c A n cp W0 W h hw);have HF:=qh (fun W hw=>Jw c 2 A n cp W0 W h hw);clear h hw;obtain ⟨d,hd⟩:∃ d,d=want c k s:=⟨_,rfl⟩;rw [<- hd]
 by_cases hb:isB c k s=true
 ·have hc:on c = d:=by rw [hd]; unfold want; rw [if_pos hb]
  rw [hc] at HO;rw [hb] at HI;clear hb hd hc HF;go_enter Tryz.func26,Tryz.ntmps26;go_wp2_with (go_at_call 62; go_fit (HI.o _ (((HT.o.keep HW.o).alloc _).alloc _)));rintro e x2 ⟨rfl,hb2⟩;obtain ⟨k1,k2,hB,hz⟩:=Qz hb2;have HK2:=qh k2;have HB:=qh hB;obtain ⟨c0,c1,c2,c3,c4,c5⟩:=Qc k1;clear hb2 k1 k2 hB;go_wp2_with (go_at_call 63; go_fit (HO.o _ (Qa HW.o HB.o)));rintro e x3 ⟨A',n',cp',rfl,hT3,hb3⟩;have k3:=Qe HK2.o hb3;have HT3:=qh hT3;have HB3:=qh (Qa HB.o hb3);have HK3:=qh (QD k3 (n:=6) rfl);obtain ⟨d0,d1,d2,d3,d4,d5⟩:=Qc k3;obtain ⟨g0,g1,g2,g3,g4,g5⟩:=Qk k3;clear hT3 hb3 k3 c0 c1 c2 c3 c4 c5;go_wp2_with fail;obtain ⟨q0,q1,q2,q3,q4,q5⟩:=Qq HK3.o (.slice A' n' cp') (.int .i64 d.w1) (.int .i64 d.w2) (.int .i64 d.a1) (.int .i64 d.a2) (.int .i64 d.bad);refine bodyPost_ret (v:=.agg #[.slice A' n' cp',.int .i64 d.w1,.int .i64 d.w2,.int .i64 d.a1,.int .i64 d.a2,.int .i64 d.bad]) (by simp [results,Tryz.results26,go_sem,q0,q1,q2,q3,q4,q5]) rfl ?_;exact ⟨A',n',cp',rfl,HT3.o,QL HB3.o (by omega) _ _ _ _ _ _⟩
 ·have hc:fail c 2 = d:=by rw [hd]; unfold want; rw [if_neg hb]
  have hb':isB c k s=false:=by simpa using hb
  rw [hc] at HF;rw [hb'] at HI;clear hb hb' hd hc HO;go_enter Tryz.func26,Tryz.ntmps26;go_wp2_with (go_at_call 62; go_fit (HI.o _ (((HT.o.keep HW.o).alloc _).alloc _)));rintro e x2 ⟨rfl,hb2⟩;obtain ⟨k1,k2,hB,hz⟩:=Qz hb2;have HK2:=qh k2;have HB:=qh hB;obtain ⟨c0,c1,c2,c3,c4,c5⟩:=Qc k1;clear hb2 k1 k2 hB;go_wp2_with (go_at_call 64; go_fit (HF.o _ (Qa HW.o HB.o)));rintro e x3 ⟨A',n',cp',rfl,hT3,hb3⟩;have k3:=Qe HK2.o hb3;have HT3:=qh hT3;have HB3:=qh (Qa HB.o hb3);have HK3:=qh (QD k3 (n:=6) rfl);obtain ⟨d0,d1,d2,d3,d4,d5⟩:=Qc k3;obtain ⟨g0,g1,g2,g3,g4,g5⟩:=Qk k3;clear hT3 hb3 k3 c0 c1 c2 c3 c4 c5;go_wp2_with fail;obtain ⟨q0,q1,q2,q3,q4,q5⟩:=Qq HK3.o (.slice A' n' cp') (.int .i64 d.w1) (.int .i64 d.w2) (.int .i64 d.a1) (.int .i64 d.a2) (.int .i64 d.bad);refine bodyPost_ret (v:=.agg #[.slice A' n' cp',.int .i64 d.w1,.int .i64 d.w2,.int .i64 d.a1,.int .i64 d.a2,.int .i64 d.bad]) (by simp [results,Tryz.results26,go_sem,q0,q1,q2,q3,q4,q5]) rfl ?_;exact ⟨A',n',cp',rfl,HT3.o,QL HB3.o (by omega) _ _ _ _ _ _⟩
end
end Go.Proofs.YtbdalbpackfejaaGreatDoor
