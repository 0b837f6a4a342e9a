/- ExprInsert2, CurMem, CurAt, CurDead, CurRef, joined. -/
import Derived.Test.YtjfghaohogcfbaaGreatDoorMFormatSame02
import Derived.Test.YtjfghaohogcfbaaGreatDoorRows
import Derived.Test.YtjfghaohogcfbaaGreatDoorMFormatSame01
import Derived.RegionTactic
import Derived.ChangeAlike
namespace Go.Proofs.YtjfghaohogcfbaaGreatDoor
open Go.RowKit TermSpec
set_option maxRecDepth 100000
theorem zero_size (n:Nat):(Builtin.zeroCells (Value.agg #[.int .i64 0,.int .i64 0,.string ByteArray.empty]).cells n).size = n * 3:=by
 simp [Builtin.zeroCells,Value.cells]
theorem seg_new {cs t row:List Value} {i n:Nat} (hl:cs.length = n * 3) (hi:i < n) (hr:row.take (i * 3) = cs.take (i * 3)) (_hrl:(n + 1) * 3 ≤ row.length) (ht:t.length = 3) :
 ((row.take (i * 3) ++ t ++ row.drop (i * 3 + t.length)).take ((i + 1) * 3) ++ cs.drop (i * 3) ++ (row.take (i * 3) ++ t ++ row.drop (i * 3 + t.length)).drop ((i + 1) * 3 + (cs.drop (i * 3)).length)).take ((n + 1) * 3) = cs.take (i * 3) ++ t ++ cs.drop (i * 3):=by
 have h4:(cs.take (i * 3)).length = i * 3:=by rw [List.length_take]; omega
 have hd:(cs.drop (i * 3)).length = n * 3 - i * 3:=by rw [List.length_drop,hl]
 have e1:(row.take (i * 3) ++ t ++ row.drop (i * 3 + t.length)).take ((i + 1) * 3) = cs.take (i * 3) ++ t:=by
  rw [hr,List.take_append_of_le_length (by rw [List.length_append]; omega),List.take_of_length_le (by rw [List.length_append]; omega)]
 rw [e1,List.take_append_of_le_length (by simp only [List.length_append]; omega),List.take_of_length_le (by simp only [List.length_append]; omega)]
set_option maxHeartbeats 4000000 in
theorem insert_grow (base g cap:Nat) (n i:Nat) (l:List Tm) (t:Tm) (vb:Nat) (w:World) (hn:n = l.length) (h40:n ≤ 1000) (hi:i < n) (hroom:cap < n + 1)
 (hown:w.ownsRow base 105 3 (.slice (some ⟨g,0,none⟩) n cap) n (tmsV l)) (hbs:base ≤ w.heap.size)
 (hvb:w.heap[vb]? = some (.cells #[.int .i64 t.op,.int .i64 t.n,.string t.s] 105 (0,0))) (_hne:vb ≠ g) :
 Calls Tryz.prog 206 #[.slice (some ⟨g,0,none⟩) n cap,.int .i64 i,.slice (some ⟨vb,0,none⟩) 1 1] w (InsPost w base (.slice (some ⟨g,0,none⟩) n cap) (n + 1) (l.take i ++ t :: l.drop i)):=by
 obtain ⟨i0,hi0,hz0,hz1,hz2⟩:=info_parts info_tm
 obtain ⟨hl,hv⟩:=hown
 rcases hv with ⟨hv,_⟩ | ⟨g',cap',cur,hv,hbase,hb,hnc,hcm,hcs,ht⟩
 ·cases hv
 cases hv
 have hsz:(Tryz.prog.info? 105).map (·.size) = some 3:=by rw [hi0]; simp [hz1]
 have hc63:cap ≤ 9223372036854775807:=hcm
 have hdl:((tmsV l).drop (i * 3)).length = (n - i) * 3:=by rw [List.length_drop,hl]; omega
 have hone:=tmsV_one l
 have hgw:=(Array.getElem?_eq_some_iff.1 hb).1
 have hvw:=(Array.getElem?_eq_some_iff.1 hvb).1
 have hcell:∀ j u,(tmsV l)[j]? = some u → w.cell? ⟨g,j,none⟩ = some u:=fun j u hj => by
  have hj':=(List.getElem?_eq_some_iff.1 hj).1
  rw [← ht,List.getElem?_take_of_lt (by omega),Array.getElem?_toList] at hj
  simp [World.cell?,hb,hj]
 have hold:(Builtin.firstCells i0.size i (.slice (some ⟨g,0,none⟩) i cap)).run Tryz.prog w.drew = .ok ((tmsV l).take (i * 3)).toArray w.drew:=by
  rw [hz1]
  exact run_firstCells_some w.drew 3 i ⟨g,0,none⟩ i cap _ (by rw [List.length_take]; omega) (fun j v hj => by
   rw [addr_add,Nat.zero_add]
   rw [List.getElem?_take] at hj
   split at hj
   ·exact hcell j v hj
   ·cases hj)
 have hik:i + (n + 1 - i) = n + 1:=by omega
 have hkk:(n:Int) + 1 - (i:Int) = ((n + 1 - i:Nat):Int):=by omega
 obtain ⟨G,hG⟩:∃ G,G = grownCap w (n + 1) cap 105:=⟨_,rfl⟩
 have hGn:n + 1 ≤ G:=by rw [hG]; exact grownCap_ge w _ _ _
 have hGm:G ≤ maxLen:=by rw [hG]; exact grownCap_le_maxLen w (n + 1) cap _ (by unfold maxLen; omega)
 obtain ⟨ROW,hROW⟩:∃ ROW:Array Value,ROW = ((tmsV l).take (i * 3)).toArray ++ Builtin.zeroCells (Value.agg #[.int .i64 0,.int .i64 0,.string ByteArray.empty]).cells (n + 1 - i) ++ Builtin.zeroCells (Value.agg #[.int .i64 0,.int .i64 0,.string ByteArray.empty]).cells (G - (n + 1)):=⟨_,rfl⟩
 have hRl:ROW.size = G * 3:=by
  rw [hROW]
  simp only [Array.size_append,zero_size,List.size_toArray,List.length_take,hl]
  omega
 have hRt:ROW.toList.take (i * 3) = (tmsV l).take (i * 3):=by
  rw [hROW]
  simp only [Array.toList_append]
  have:((tmsV l).take (i * 3)).length = i * 3:=by rw [List.length_take]; omega
  rw [List.append_assoc,List.take_append_of_le_length (by omega),List.take_of_length_le (by omega)]
 have hrz:∀ ty,(Builtin.append_ #[63,3] ty #[.slice (some ⟨g,0,none⟩) i cap,.int .i64 ((n:Int) + 1 - (i:Int))]).run Tryz.prog w =
  .ok (.slice (some ⟨w.heap.size,0,none⟩) (n + 1) G) (w.alloc (.cells ROW 105)).drew:=fun ty => by
  have h:=Lib.run_append_grow_zeros w 63 3 ty 105 i0 _ .i64 .i64 Tryz.underlying63 Tryz.underlying3 hi0 hz0 (some ⟨g,0,none⟩) i cap ((tmsV l).take (i * 3)) hold (n + 1 - i) (by omega) (by omega) (by omega) (by omega) (by rw [hz2]; omega) (by rw [hz2,hik]; exact growslice_fits hroom (by omega))
  rw [hik,← hG] at h
  rw [hkk,hROW]
  exact h
 obtain ⟨W1,hW1⟩:∃ W1,W1 = (w.alloc (.cells ROW 105)).drew:=⟨_,rfl⟩
 have hN:W1.heap[w.heap.size]? = some (.cells ROW 105 (0,0)):=by rw [hW1]; exact heap_alloc_new _ _
 have hOld:∀ b,b < w.heap.size → W1.heap[b]? = w.heap[b]?:=fun b hb => by rw [hW1]; exact heap_alloc_old _ _ hb
 obtain ⟨row1,hrow1⟩:∃ row1,row1 = ROW.toList.take (i * 3) ++ tmV t ++ ROW.toList.drop (i * 3 + (tmV t).length):=⟨_,rfl⟩
 have hr1l:row1.length = G * 3:=by rw [hrow1]; simp only [List.length_append,List.length_take,List.length_drop,Array.length_toList,hRl,tmV_length]; omega
 have hcpA:∀ ty dc,(Builtin.copy_ #[63,63] ty #[.slice (some ⟨w.heap.size,i * 3,none⟩) (n + 1 - i) dc,.slice (some ⟨vb,0,none⟩) 1 1]).run Tryz.prog W1 = .ok (goInt (Nat.min 1 (n + 1 - i))) (W1.setRow w.heap.size row1.toArray):=fun ty dc => by
  rw [hrow1]
  exact run_copy_rowk (P:=Tryz.prog) 3 W1 63 63 ty 105 w.heap.size (i * 3) (n + 1 - i) dc ⟨vb,0,none⟩ 1 1 ROW 105 (tmV t) Tryz.underlying63 hsz hN
   (by rw [tmV_length,show Nat.min 1 (n + 1 - i) = 1 by simp only [Nat.min_def]; split <;> omega])
   (fun j v hj => by rw [addr_add,Nat.zero_add]; exact cell_of_block' ((hOld vb hvw).trans hvb) (by rw [show (#[.int .i64 t.op,.int .i64 t.n,.string t.s]:Array Value) = (tmV t).toArray from rfl,List.getElem?_toArray]; exact hj))
   (by rw [tmV_length]; omega) (tmV_one t)
 have hN2:((W1.setRow w.heap.size row1.toArray).drew).heap[w.heap.size]? = some (.cells row1.toArray 105 (0,0)):=setRow_heap W1 w.heap.size ROW row1.toArray 105 (0,0) hN
 have hOld2:∀ b,b < w.heap.size → ((W1.setRow w.heap.size row1.toArray).drew).heap[b]? = w.heap[b]?:=fun b hb =>
  ((grow_setRow (but_refl W1 (some w.heap.size)) row1.toArray).block b (by rw [hW1]; simp; omega) (by simp; omega)).trans (hOld b hb)
 obtain ⟨row2,hrow2⟩:∃ row2,row2 = row1.take ((i + 1) * 3) ++ (tmsV l).drop (i * 3) ++ row1.drop ((i + 1) * 3 + ((tmsV l).drop (i * 3)).length):=⟨_,rfl⟩
 have hr2l:row2.length = G * 3:=by rw [hrow2]; simp only [List.length_append,List.length_take,List.length_drop,hr1l,hl]; omega
 have hcpB:∀ ty dc sc,(Builtin.copy_ #[63,63] ty #[.slice (some ⟨w.heap.size,(i + 1) * 3,none⟩) (n - i) dc,.slice (some ⟨g,i * 3,none⟩) (n - i) sc]).run Tryz.prog (W1.setRow w.heap.size row1.toArray).drew = .ok (goInt (Nat.min (n - i) (n - i))) (((W1.setRow w.heap.size row1.toArray).drew).setRow w.heap.size row2.toArray):=fun ty dc sc => by
  have:=run_copy_rowk (P:=Tryz.prog) 3 (W1.setRow w.heap.size row1.toArray).drew 63 63 ty 105 w.heap.size ((i + 1) * 3) (n - i) dc ⟨g,i * 3,none⟩ (n - i) sc row1.toArray 105 ((tmsV l).drop (i * 3)) Tryz.underlying63 hsz hN2
   (by rw [hdl,show Nat.min (n - i) (n - i) = n - i by simp only [Nat.min_def]; split <;> omega])
   (fun j v hj => by
     rw [addr_add]
     rw [List.getElem?_drop] at hj
     have:=hcell _ v hj
     unfold World.cell? at this ⊢
     rw [hOld2 g hgw]
     exact this) (by rw [hdl]; simp only [List.size_toArray]; omega) (fun v hv => hone v (List.mem_of_mem_drop hv))
  rw [this,hrow2]
 have hfin:InsPost w base (.slice (some ⟨g,0,none⟩) n cap) (n + 1) (l.take i ++ t :: l.drop i) (.returned (.slice (some ⟨w.heap.size,0,none⟩) (n + 1) G)) (((W1.setRow w.heap.size row1.toArray).drew).setRow w.heap.size row2.toArray):=by
  have hgr:w.grownBy (((W1.setRow w.heap.size row1.toArray).drew).setRow w.heap.size row2.toArray) (some w.heap.size):=by
   refine grow_setRow (but_drew (grow_setRow ?_ _)) _
   rw [hW1]
   exact but_drew (but_alloc (but_refl w _) _)
  refine ⟨_,rfl,⟨by rw [tmsV_length]; simp; omega,.inr ⟨w.heap.size,G,row2.toArray,rfl,by omega,setRow_heap (W1.setRow w.heap.size row1.toArray).drew w.heap.size row1.toArray row2.toArray 105 (0,0) hN2,hGn,hGm,by simpa using hr2l,?_⟩⟩,⟨hgr.os,hgr.tape,hgr.output,hgr.size,fun j hj _ => hgr.block j hj (by simp; omega)⟩,.inr rfl⟩
  rw [tms_mid,hrow2,hrow1]
  exact seg_new (n:=n) hl hi hRt (by rw [Array.length_toList]; omega) rfl
 have HF:=Lib.hid hfin
 have hs1:=slice_at g n cap i (i:Int) rfl (by omega) (by omega)
 have hs2:=slice_up g n cap i (i:Int) rfl (by omega) (by omega)
 have hs3:=slice_at w.heap.size (n + 1) G i (i:Int) rfl (by omega) (by omega)
 have hz3:¬ ((i:Int) = (n:Int)):=by omega
 have hz3':((i:Int) == (n:Int)) = false:=by simpa using hz3
 have hz4:(cap:Int) < (n:Int) + 1:=by omega
 have hw1:IntKind.i64.wrap ((i:Int) + 1) = (i:Int) + 1:=by rw [IntKind.wrap_i64]; omega
 have hb1:(0:Int) ≤ (i:Int) + 1:=by omega
 have hb5:(i:Int) ≤ (n:Int):=by omega
 have hin:i ≤ n:=by omega
 have htn:((i:Int) + 1).toNat = i + 1:=by omega
 have hb3:(i:Int) ≤ (n:Int) + 1:=by omega
 have hb4:¬ (cap = i):=by omega
 have hGi:¬ (G = i):=by omega
 have hGim:¬ (G = i + 1):=by omega
 have hG63:G ≤ 9223372036854775807:=hGm
 clear hGm
 have mixed:Tryz.prog.follows .mixedOrders = true:=by kernel_rfl
 clear hfin hrow2 hrow1 hr1l hr2l hN hN2 hOld hOld2 hcell hone hdl ht hl hcs hbase hn hold hROW hRl hRt hG hb hvb hgw hvw hkk hik
 subst hW1
 go_enter Tryz.func206,Tryz.ntmps206
 go_wp2_with (first
  | (at_builtin; refine Lib.wpList_append_run _ rfl _ _ _ _ rfl _ _ rfl rfl _ _ (hrz _) ?_)
  | (at_builtin; refine wpList_copy_runI _ rfl _ _ 63 63 rfl _ _ rfl rfl (hcpA _ _) ?_))
 go_region_law_o (refine step_copy_runI rfl _ _ 63 63 rfl _ _ (by simp [Act.eval,Act.put]) (by simp [Act.eval,Act.put]) (hcpB _ _ _) ?_)
 go_wp2_with fail
 go_ret
 exact HF.out
theorem insert_any (base:Nat) (v:Value) (n i:Nat) (l:List Tm) (t:Tm) (vb:Nat) (w:World) (hn:n = l.length) (h40:n ≤ 1000) (hi:i ≤ n) (hown:w.ownsRow base 105 3 v n (tmsV l)) (hbs:base ≤ w.heap.size)
 (hvb:w.heap[vb]? = some (.cells #[.int .i64 t.op,.int .i64 t.n,.string t.s] 105 (0,0))) (hne:v.ownBlock ≠ some vb) :
 Calls Tryz.prog 206 #[v,.int .i64 i,.slice (some ⟨vb,0,none⟩) 1 1] w (InsPost w base v (n + 1) (l.take i ++ t :: l.drop i)):=by
 rcases Nat.lt_or_ge i n with h | h
 ·have hown':=hown
  obtain ⟨_,hv⟩:=hown'
  rcases hv with ⟨_,h0⟩ | ⟨g,cap,cur,rfl,_⟩
  ·omega
  ·have hne':vb ≠ g:=fun e => hne (by rw [e]; rfl)
   rcases Nat.lt_or_ge cap (n + 1) with hc | hc
   ·exact insert_grow base g cap n i l t vb w hn h40 h hc hown hbs hvb hne'
   ·exact insert_shift base g cap n i l t vb w hn h40 h hc hown hvb hne'
 ·obtain rfl:i = n:=by omega
  have:=insert_end base v i l t vb w hn h40 hown hbs hvb
  rw [List.take_of_length_le (by omega),List.drop_eq_nil_of_le (by omega)]
  exact this
end Go.Proofs.YtjfghaohogcfbaaGreatDoor
namespace Go.Proofs.YtjfghaohogcfbaaGreatDoor
open Go.RowKit CurSpec
def tkV (t:Tk):List Value:=[.int .i64 t.k,.string t.t,.int .i64 t.l,.int .i64 t.c]
def tksV (l:List Tk):List Value:=l.flatMap tkV
theorem tkV_length (t:Tk):(tkV t).length = 4:=rfl
theorem tksV_length (l:List Tk):(tksV l).length = l.length * 4:=flat_length tkV_length l
theorem tkV_one (t:Tk):∀ u ∈ tkV t,u.oneCell' = true:=by simp [tkV,Value.oneCell']
theorem tksV_one (l:List Tk):∀ u ∈ tksV l,u.oneCell' = true:=by
 intro u hu
 obtain ⟨t,_,h⟩:=List.mem_flatMap.1 hu
 exact tkV_one t u h
theorem tksV_cons (t:Tk) (l:List Tk):tksV (t :: l) = tkV t ++ tksV l:=by simp [tksV]
theorem tksV_get {l:List Tk} {i:Nat} {t:Tk} (h:l[i]? = some t):(tksV l)[i * 4]? = some (.int .i64 t.k) ∧ (tksV l)[i * 4 + 1]? = some (.string t.t) ∧ (tksV l)[i * 4 + 2]? = some (.int .i64 t.l) ∧ (tksV l)[i * 4 + 3]? = some (.int .i64 t.c) :=
 ⟨flat_get (j:=0) tkV_length h (by omega),flat_get (j:=1) tkV_length h (by omega),flat_get (j:=2) tkV_length h (by omega),flat_get (j:=3) tkV_length h (by omega)⟩
def tkA (t:Tk):Value:=.agg #[.int .i64 t.k,.string t.t,.int .i64 t.l,.int .i64 t.c]
def Toks (w:World) (v:Value) (l:List Tk):Prop:=∃ n,n = l.length ∧ Rdk 4 w v n (tksV l)
theorem Toks.keep {w w':World} {v:Value} {l:List Tk} (h:Toks w v l) (hb:Below w.heap.size w w'):Toks w' v l:=by
 obtain ⟨n,hn,h⟩:=h
 exact ⟨n,hn,h.keep hb⟩
theorem Toks.alloc {w:World} {v:Value} {l:List Tk} (h:Toks w v l) (o:Obj):Toks (w.alloc o) v l:=h.keep ((Below.refl _ _).alloc (Nat.le_refl _) _)
theorem Toks.cons {w:World} {v:Value} {t:Tk} {l:List Tk} (h:Toks w v (t :: l)) :
 ∃ b off n c,v = .slice (some ⟨b,off,none⟩) (n + 1) c ∧ n = l.length ∧ n + 1 ≤ c ∧ b < w.heap.size ∧ w.cell? ⟨b,off,none⟩ = some (.int .i64 t.k) ∧ w.cell? ⟨b,off + 1,none⟩ = some (.string t.t) ∧ w.cell? ⟨b,off + 2,none⟩ = some (.int .i64 t.l) ∧ w.cell? ⟨b,off + 3,none⟩ = some (.int .i64 t.c) ∧
   Toks w (.slice (some ⟨b,if c = 1 then off else off + 4,none⟩) n (c - 1)) l:=by
 obtain ⟨n,rfl,A,c,rfl,hc,hl,hA⟩:=h
 obtain ⟨b,off,rfl,hb,hcell⟩:=hA (by simp)
 have g:=tksV_get (l:=t :: l) (i:=0) rfl
 simp only [List.length_cons] at hc
 refine ⟨b,off,l.length,c,rfl,rfl,hc,hb,hcell 0 _ g.1,hcell 1 _ g.2.1,hcell 2 _ g.2.2.1,hcell 3 _ g.2.2.2,l.length,rfl,_,_,rfl,by omega,tksV_length l,fun h0 => ⟨b,off + 4,?_,hb,fun j u hj => ?_⟩⟩
 ·rw [if_neg (by omega)]
 ·rw [show off + 4 + j = off + (4 + j) by omega]
  refine hcell _ _ ?_
  rw [tksV_cons,List.getElem?_append_right (by rw [tkV_length]; omega),tkV_length,Nat.add_sub_cancel_left,hj]
theorem Toks.shape {w:World} {v:Value} {l:List Tk} (h:Toks w v l):∃ A n c,v = .slice A n c ∧ n = l.length:=by
 obtain ⟨n,hn,A,c,hv,_⟩:=h
 exact ⟨A,n,c,hv,hn⟩
theorem Toks.cons' {w:World} {A:Option Addr} {n cp:Nat} {t:Tk} {l:List Tk} (h:Toks w (.slice A n cp) (t :: l)) :
 ∃ b off m,A = some ⟨b,off,none⟩ ∧ n = m + 1 ∧ m + 1 ≤ cp ∧ b < w.heap.size ∧ w.cell? ⟨b,off,none⟩ = some (.int .i64 t.k) ∧ w.cell? ⟨b,off + 1,none⟩ = some (.string t.t) ∧ w.cell? ⟨b,off + 2,none⟩ = some (.int .i64 t.l) ∧ w.cell? ⟨b,off + 3,none⟩ = some (.int .i64 t.c) ∧
   Toks w (.slice (some ⟨b,if cp = 1 then off else off + 4,none⟩) m (cp - 1)) l:=by
 obtain ⟨b,off,m,c,heq,_,hc,hb,h0,h1,h2,h3,ht⟩:=h.cons
 cases heq
 exact ⟨b,off,m,rfl,rfl,hc,hb,h0,h1,h2,h3,ht⟩
def RetBool (W:World) (b:Bool) (e:Ending) (w':World):Prop:=e = .returned (.bool b) ∧ Below W.heap.size W w'
def RetTk (W:World) (k:Int) (s:ByteArray) (l c:Int) (e:Ending) (w':World):Prop:=e = .returned (.agg #[.int .i64 k,.string s,.int .i64 l,.int .i64 c]) ∧ Below W.heap.size W w'
def Blk (w:World) (b n:Nat):Prop:=∃ cs T,w.heap[b]? = some (.cells cs T (0,0)) ∧ cs.size = n
theorem Blk.of {w:World} {b:Nat} {cs:Array Value} {T:TypeId} (h:w.heap[b]? = some (.cells cs T (0,0))):Blk w b cs.size:=⟨cs,T,h,rfl⟩
theorem Blk.set {w:World} {b n:Nat} (h:Blk w b n) (i:Nat) (u:Value):Blk (w.setCell ⟨b,i,none⟩ u) b n:=by
 obtain ⟨cs,T,h,hn⟩:=h
 exact ⟨_,T,block_setCell' h i u,by rw [Array.size_setIfInBounds,hn]⟩
theorem Blk.read {w:World} {b n:Nat} (h:Blk w b n) (i:Nat) (hi:i < n) (u:Value):(w.setCell ⟨b,i,none⟩ u).cell? ⟨b,i,none⟩ = some u:=by
 obtain ⟨cs,T,h,hn⟩:=h
 exact cell_of_block' (block_setCell' h i u) (by rw [Array.getElem?_setIfInBounds_self,if_pos (by omega)])
theorem store_six {w:World} {b:Nat} (h:Blk w b 6) (u0 u1 u2 u3 u4 u5:Value) :
 (w.setCell ⟨b,0,none⟩ u0).cell? ⟨b,0,none⟩ = some u0 ∧ ((w.setCell ⟨b,0,none⟩ u0).setCell ⟨b,1,none⟩ u1).cell? ⟨b,1,none⟩ = some u1 ∧
 (((w.setCell ⟨b,0,none⟩ u0).setCell ⟨b,1,none⟩ u1).setCell ⟨b,2,none⟩ u2).cell? ⟨b,2,none⟩ = some u2 ∧
 ((((w.setCell ⟨b,0,none⟩ u0).setCell ⟨b,1,none⟩ u1).setCell ⟨b,2,none⟩ u2).setCell ⟨b,3,none⟩ u3).cell? ⟨b,3,none⟩ = some u3 ∧
 (((((w.setCell ⟨b,0,none⟩ u0).setCell ⟨b,1,none⟩ u1).setCell ⟨b,2,none⟩ u2).setCell ⟨b,3,none⟩ u3).setCell ⟨b,4,none⟩ u4).cell? ⟨b,4,none⟩ = some u4 ∧
 ((((((w.setCell ⟨b,0,none⟩ u0).setCell ⟨b,1,none⟩ u1).setCell ⟨b,2,none⟩ u2).setCell ⟨b,3,none⟩ u3).setCell ⟨b,4,none⟩ u4).setCell ⟨b,5,none⟩ u5).cell? ⟨b,5,none⟩ = some u5 :=
 ⟨h.read 0 (by omega) _,(h.set _ _).read 1 (by omega) _,((h.set _ _).set _ _).read 2 (by omega) _,(((h.set _ _).set _ _).set _ _).read 3 (by omega) _,((((h.set _ _).set _ _).set _ _).set _ _).read 4 (by omega) _,(((((h.set _ _).set _ _).set _ _).set _ _).set _ _).read 5 (by omega) _⟩
theorem store_4 {w:World} {b:Nat} (h:Blk w b 4) (u0 u1 u2 u3:Value) :
 (w.setCell ⟨b,0,none⟩ u0).cell? ⟨b,0,none⟩ = some u0 ∧ ((w.setCell ⟨b,0,none⟩ u0).setCell ⟨b,1,none⟩ u1).cell? ⟨b,1,none⟩ = some u1 ∧
 (((w.setCell ⟨b,0,none⟩ u0).setCell ⟨b,1,none⟩ u1).setCell ⟨b,2,none⟩ u2).cell? ⟨b,2,none⟩ = some u2 ∧
 ((((w.setCell ⟨b,0,none⟩ u0).setCell ⟨b,1,none⟩ u1).setCell ⟨b,2,none⟩ u2).setCell ⟨b,3,none⟩ u3).cell? ⟨b,3,none⟩ = some u3 :=
 ⟨h.read 0 (by omega) _,(h.set _ _).read 1 (by omega) _,((h.set _ _).set _ _).read 2 (by omega) _,(((h.set _ _).set _ _).set _ _).read 3 (by omega) _⟩
theorem below_4 {B:Nat} {w x:World} {b:Nat} (h:Below B w x) (hb:B ≤ b) (u0 u1 u2 u3:Value) :
 Below B w ((((x.setCell ⟨b,0,none⟩ u0).setCell ⟨b,1,none⟩ u1).setCell ⟨b,2,none⟩ u2).setCell ⟨b,3,none⟩ u3) :=
 (((h.setCell hb _).setCell hb _).setCell hb _).setCell hb _
theorem below_pair (w:World) (o p:Obj):Below w.heap.size w ((w.alloc o).alloc p):=((Below.refl _ _).alloc (Nat.le_refl _) _).alloc (by simp) _
theorem pair_blocks {w w2:World} {o p:Obj} (hb:Below ((w.alloc o).alloc p).heap.size ((w.alloc o).alloc p) w2) :
 w2.heap[w.heap.size]? = some o ∧ w2.heap[w.heap.size + 1]? = some p ∧ Below w.heap.size w w2 ∧ w.heap.size + 1 < w2.heap.size:=by
 have hz:=hb.size
 simp only [World.size_alloc] at hz
 refine ⟨(hb.block _ (by simp; omega)).trans ((heap_alloc_old _ _ (by simp)).trans (heap_alloc_new _ _)),(hb.block _ (by simp)).trans ?_,?_,by omega⟩
 ·have:=heap_alloc_new (w.alloc o) p
  rwa [World.size_alloc] at this
 ·exact (below_pair w o p).trans (hb.mono (by simp; omega))
theorem one_block {w w2:World} {o:Obj} (hb:Below (w.alloc o).heap.size (w.alloc o) w2):w2.heap[w.heap.size]? = some o ∧ Below w.heap.size w w2 ∧ w.heap.size < w2.heap.size:=by
 have hz:=hb.size
 simp only [World.size_alloc] at hz
 exact ⟨(hb.block _ (by simp)).trans (heap_alloc_new _ _),((Below.refl _ _).alloc (Nat.le_refl _) _).trans (hb.mono (by simp)),by omega⟩
theorem undrew {w w':World} (h:Below w.drew.heap.size w.drew w'):Below w.heap.size w w':=⟨h.os,h.tape,h.output,h.size,h.block⟩
theorem block_on {w w2:World} {b:Nat} {o:Obj} (h:w.heap[b]? = some o) (hb:Below w.heap.size w w2):w2.heap[b]? = some o:=(hb.block b (Array.getElem?_eq_some_iff.1 h).1).trans h
theorem blk_of {w:World} {b n:Nat} {cs:Array Value} {T:TypeId} (h:w.heap[b]? = some (.cells cs T (0,0))) (hn:cs.size = n):Blk w b n:=⟨cs,T,h,hn⟩
theorem Blk.other {w:World} {b n c:Nat} (h:Blk w b n) (hne:b ≠ c) (i:Nat) (u:Value):Blk (w.setCell ⟨c,i,none⟩ u) b n:=by
 obtain ⟨cs,T,h,hn⟩:=h
 exact ⟨cs,T,(Below.heap_setCell _ _ _ _ hne).trans h,hn⟩
end Go.Proofs.YtjfghaohogcfbaaGreatDoor
namespace Go.Proofs.YtjfghaohogcfbaaGreatDoor
open Go.RowKit CurSpec
set_option maxRecDepth 100000
theorem Toks.but {w w':World} {b off n cp B:Nat} {l:List Tk} (h:Toks w (.slice (some ⟨b,off,none⟩) n cp) l) (hb:w.grownBy w' (some B)) (hne:b ≠ B):Toks w' (.slice (some ⟨b,off,none⟩) n cp) l:=by
 obtain ⟨m,hm,A,c,heq,hc,hl,hA⟩:=h
 cases heq
 refine ⟨n,hm,_,cp,rfl,hc,hl,fun h0 => ?_⟩
 obtain ⟨b',off',h1,hlt,hcell⟩:=hA h0
 cases h1
 refine ⟨b,off,rfl,Nat.lt_of_lt_of_le hlt hb.size,fun j u hj => ?_⟩
 rw [← hcell j u hj]
 have:=hb.block b hlt (by simp; omega)
 simp [World.cell?,this]
def CurAt (w:World) (B:Nat) (c:Cur):Prop :=
 ∃ b off n cp,w.heap[B]? = some (.cells #[.slice (some ⟨b,off,none⟩) (n + 1) cp,.int .i64 c.a1,.int .i64 c.a2,.int .i64 c.bad] 90 (0,0)) ∧ b < B ∧ n = c.L.length ∧
   Toks w (.slice (some ⟨b,off,none⟩) (n + 1) cp) (full c.L c.w1 c.w2)
theorem CurAt.lt {w:World} {B:Nat} {c:Cur} (h:CurAt w B c):B < w.heap.size:=by
 obtain ⟨b,off,n,cp,h,_⟩:=h
 exact (Array.getElem?_eq_some_iff.1 h).1
theorem CurAt.keep {w w':World} {B:Nat} {c:Cur} (h:CurAt w B c) (hb:Below w.heap.size w w'):CurAt w' B c:=by
 obtain ⟨b,off,n,cp,h,hne,hn,hT⟩:=h
 exact ⟨b,off,n,cp,block_on h hb,hne,hn,hT.keep hb⟩
theorem CurAt.but {w w':World} {B B2:Nat} {c:Cur} (h:CurAt w B c) (hb:w.grownBy w' (some B2)) (hlt:B < B2):CurAt w' B c:=by
 obtain ⟨b,off,n,cp,h,hne,hn,hT⟩:=h
 exact ⟨b,off,n,cp,(hb.block _ (Array.getElem?_eq_some_iff.1 h).1 (by simp; omega)).trans h,hne,hn,hT.but hb (by omega)⟩
theorem CurAt.drew {w:World} {B:Nat} {c:Cur} (h:CurAt w B c):CurAt w.drew B c:=h
theorem CurAt.alloc {w:World} {B:Nat} {c:Cur} (h:CurAt w B c) (o:Obj):CurAt (w.alloc o) B c:=h.keep ((Below.refl _ _).alloc (Nat.le_refl _) _)
def Fl (w:World) (p:Value) (a1 a2 e:Int):Prop :=
 (p = .pointer none ∧ a1 = 0 ∧ a2 = 0 ∧ e = 10) ∨
 (∃ B,p = .pointer (some ⟨B,0,none⟩) ∧ w.heap[B]? = some (.cells #[.slice none 0 0,.int .i64 0,.int .i64 0,.int .i64 0] 90 (0,0)) ∧ a1 = 0 ∧ a2 = 0 ∧ e = 10) ∨
 (∃ B c,p = .pointer (some ⟨B,0,none⟩) ∧ CurAt w B c ∧ a1 = c.a1 ∧ a2 = c.a2 ∧ e = c.bad)
theorem Fl.keep {w w':World} {p:Value} {a1 a2 e:Int} (h:Fl w p a1 a2 e) (hb:Below w.heap.size w w'):Fl w' p a1 a2 e:=by
 rcases h with h | ⟨B,hp,h,h'⟩ | ⟨B,c,hp,h,h'⟩
 ·exact .inl h
 ·exact .inr (.inl ⟨B,hp,block_on h hb,h'⟩)
 ·exact .inr (.inr ⟨B,c,hp,h.keep hb,h'⟩)
theorem Fl.of {w:World} {B:Nat} {c:Cur} (h:CurAt w B c):Fl w (.pointer (some ⟨B,0,none⟩)) c.a1 c.a2 c.bad:=.inr (.inr ⟨B,c,rfl,h,rfl,rfl,rfl⟩)
def RetFault (W:World) (a1 a2 er:Int) (e:Ending) (w':World):Prop:=e = .returned (.tuple #[.agg #[.int .i64 a1,.int .i64 a2],.int .i64 er]) ∧ Below W.heap.size W w'
set_option maxHeartbeats 1000000 in
theorem fault_any (p:Value) (a1 a2 er:Int) (w:World) (h:Fl w p a1 a2 er):Calls Tryz.prog 22 #[p] w (RetFault w a1 a2 er):=by
 rcases h with ⟨rfl,rfl,rfl,rfl⟩ | ⟨B,rfl,h,rfl,rfl,rfl⟩ | ⟨B,c,rfl,h,rfl,rfl,rfl⟩
 ·go_enter Tryz.func22,Tryz.ntmps22
  go_wp2_with fail
  refine bodyPost_ret (v:=.tuple #[.agg #[.int .i64 0,.int .i64 0],.int .i64 10]) (by simp [results,Tryz.results22,go_sem]) rfl ⟨rfl,(Below.refl _ _).alloc (Nat.le_refl _) _⟩
 ·obtain ⟨c0,c1,c2,c3⟩:=cells_4 h
  have hlt:=(Array.getElem?_eq_some_iff.1 h).1
  clear h
  go_enter Tryz.func22,Tryz.ntmps22
  go_wp2_with fail
  refine bodyPost_ret (v:=.tuple #[.agg #[.int .i64 0,.int .i64 0],.int .i64 10]) (by simp [results,Tryz.results22,go_sem]) rfl ⟨rfl,(Below.refl _ _).alloc (Nat.le_refl _) _⟩
 ·have hlt:=h.lt
  obtain ⟨b,off,n,cp,h,_,_,_⟩:=h
  obtain ⟨c0,c1,c2,c3⟩:=cells_4 h
  have hnI:0 ≤ (n:Int):=by omega
  clear h
  go_enter Tryz.func22,Tryz.ntmps22
  go_wp2_with fail
  go_region
  all_goals
   go_wp2_with fail
   refine bodyPost_ret (v:=.tuple #[.agg #[.int .i64 c.a1,.int .i64 c.a2],.int .i64 c.bad]) (by simp [results,Tryz.results22,go_sem]) rfl ⟨rfl,((Below.refl _ _).alloc (Nat.le_refl _) _).drew⟩
theorem good_any (p:Value) (a1 a2 er:Int) (w:World) (h:Fl w p a1 a2 er) {b:Bool} (hb:(er == 0) = b):Calls Tryz.prog 51 #[p] w (RetBool w b):=by
 have HF:=Lib.hid (fun W hW => fault_any p a1 a2 er W (h.keep hW))
 have HV:=Lib.hid hb
 clear h hb
 go_enter Tryz.func51,Tryz.ntmps51
 go_wp2_with (go_at_call 22; (with_reducible refine (HF.out _ (Below.refl _ _)).mono ?_))
 rintro e x2 ⟨rfl,hb2⟩
 have HB:=Lib.hid hb2
 clear hb2
 go_wp2_with fail
 go_ret
 exact ⟨ret_bool HV.out,HB.out.alloc HB.out.size _⟩
end Go.Proofs.YtjfghaohogcfbaaGreatDoor
namespace Go.Proofs.YtjfghaohogcfbaaGreatDoor
open Go.RowKit CurSpec
set_option maxRecDepth 100000
def RetNone (W:World) (e:Ending) (w':World):Prop:=e = .returned (.tuple #[]) ∧ Below W.heap.size W w'
section
variable (p:Value) (a1 a2 er:Int) (hne:er ≠ 0) (w:World) (h:Fl w p a1 a2 er)
include hne h
theorem good_dead:Calls Tryz.prog 51 #[p] w (RetBool w false):=good_any p a1 a2 er w h (by simpa using hne)
set_option maxHeartbeats 1000000 in
theorem next_dead':Calls Tryz.prog 87 #[p] w (RetTk w 0 ⟨#[]⟩ 0 0):=by
 have HG:=Lib.hid (fun W hW => good_dead p a1 a2 er hne W (h.keep hW))
 clear h hne
 go_enter Tryz.func87,Tryz.ntmps87
 go_wp2_with (go_at_call 51; (with_reducible refine (HG.out _ ((Below.refl _ _).alloc (Nat.le_refl _) _)).mono ?_))
 rintro e x2 ⟨rfl,hb2⟩
 obtain ⟨k1,hB,hz⟩:=one_block hb2
 obtain ⟨c0,c1,c2,c3⟩:=cells_4 k1
 obtain ⟨f0,f1,f2,f3⟩:=free_4 k1
 have HK:=Lib.hid (blk_of k1 (n:=4) rfl)
 have HB:=Lib.hid hB
 clear hb2 hB k1
 go_wp2_with fail
 obtain ⟨q0,q1,q2,q3⟩:=store_4 HK.out (.int .i64 0) (.string ⟨#[]⟩) (.int .i64 0) (.int .i64 0)
 refine bodyPost_ret (v:=.agg #[.int .i64 0,.string ⟨#[]⟩,.int .i64 0,.int .i64 0]) (by simp [results,Tryz.results87,go_sem,q0,q1,q2,q3]) rfl ⟨rfl,below_4 HB.out (Nat.le_refl _) _ _ _ _⟩
set_option maxHeartbeats 1000000 in
theorem is_dead (k:Int) (s:ByteArray):Calls Tryz.prog 98 #[p,.int .i64 k,.string s] w (RetBool w false):=by
 have HG:=Lib.hid (good_dead p a1 a2 er hne w h)
 clear h hne
 go_enter Tryz.func98,Tryz.ntmps98
 go_wp2_with (go_at_call 51; (with_reducible refine HG.out.mono ?_))
 rintro e x2 ⟨rfl,hb2⟩
 have HB:=Lib.hid hb2
 clear hb2
 go_wp2_with fail
 go_ret
 exact ⟨rfl,HB.out⟩
set_option maxHeartbeats 1000000 in
theorem fail_dead' (n:Int):Calls Tryz.prog 53 #[p,.int .i64 n] w (RetNone w):=by
 have HG:=Lib.hid (good_dead p a1 a2 er hne w h)
 clear h hne
 go_enter Tryz.func53,Tryz.ntmps53
 go_wp2_with (go_at_call 51; (with_reducible refine HG.out.mono ?_))
 rintro e x2 ⟨rfl,hb2⟩
 have HB:=Lib.hid hb2
 clear hb2
 go_wp2_with fail
 go_end0
 exact ⟨rfl,HB.out⟩
end
end Go.Proofs.YtjfghaohogcfbaaGreatDoor
namespace Go.Proofs.YtjfghaohogcfbaaGreatDoor
open Go.RowKit CurSpec
set_option maxRecDepth 100000
theorem isB_yes {c:Cur} {k:Int} {s:ByteArray} (h0:c.bad = 0) (h1:(next c).k = k) (h2:(next c).t = s):isB c k s = true:=by simp [isB,h0,h1,h2]
theorem isB_no1 {c:Cur} {k:Int} {s:ByteArray} (h1:(next c).k ≠ k):isB c k s = false:=by simp [isB,h1]
theorem isB_no2 {c:Cur} {k:Int} {s:ByteArray} (h1:(next c).t ≠ s):isB c k s = false:=by simp [isB,h1]
end Go.Proofs.YtjfghaohogcfbaaGreatDoor