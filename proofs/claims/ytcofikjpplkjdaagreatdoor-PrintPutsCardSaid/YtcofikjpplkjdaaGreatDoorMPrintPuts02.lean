/- TermMem, ExprInsert, ExprInsert2, CurMem, CurAt, CurDead, CurRef, CurLive, CurRefTake, joined. -/
import Derived.Test.YtcofikjpplkjdaaGreatDoorRows
import Derived.Test.YtcofikjpplkjdaaGreatDoorMPrintPuts01
import Derived.Test.YtcofikjpplkjdaaGreatDoorMPrintPuts00
import Derived.Lib.Overlaps
import Derived.Lib.AppendZerosOnto
import Derived.Laws.CopyRow
import Derived.Shelf.Spec.SlicesInsert
import Derived.RegionTactic
import Derived.ChangeAlike
namespace Go.Proofs.YtcofikjpplkjdaaGreatDoor
open Go.RowKit TermSpec
set_option maxRecDepth 100000
def tmV (t:Tm):List Value:=[.int .i64 t.op,.int .i64 t.n,.string t.s]
def tmsV (l:List Tm):List Value:=l.flatMap tmV
theorem tmV_length (t:Tm):(tmV t).length = 3:=rfl
theorem tmsV_length (l:List Tm):(tmsV l).length = l.length * 3:=flat_length tmV_length l
theorem tmV_one (t:Tm):∀ u ∈ tmV t,u.oneCell' = true:=by simp [tmV,Value.oneCell']
theorem tmsV_one (l:List Tm):∀ u ∈ tmsV l,u.oneCell' = true:=by
 intro u hu
 obtain ⟨t,_,h⟩:=List.mem_flatMap.1 hu
 exact tmV_one t u h
theorem tmsV_get {l:List Tm} {i:Nat} {t:Tm} (h:l[i]? = some t):(tmsV l)[i * 3]? = some (.int .i64 t.op) ∧ (tmsV l)[i * 3 + 1]? = some (.int .i64 t.n) ∧ (tmsV l)[i * 3 + 2]? = some (.string t.s) :=
 ⟨flat_get (j:=0) tmV_length h (by omega),flat_get (j:=1) tmV_length h (by omega),flat_get (j:=2) tmV_length h (by omega)⟩
def Tms (w:World) (v:Value) (l:List Tm):Prop:=∃ n,n = l.length ∧ Rdk 3 w v n (tmsV l)
theorem Tms.keep {w w':World} {v:Value} {l:List Tm} (h:Tms w v l) (hb:Below w.heap.size w w'):Tms w' v l:=by
 obtain ⟨n,hn,h⟩:=h
 exact ⟨n,hn,h.keep hb⟩
theorem Tms.shape {w:World} {v:Value} {l:List Tm} (h:Tms w v l):∃ A n c,v = .slice A n c ∧ n = l.length ∧ n ≤ c:=by
 obtain ⟨n,hn,A,c,hv,hc,_⟩:=h
 exact ⟨A,n,c,hv,hn,hc⟩
theorem Tms.at_ {w:World} {A:Option Addr} {n c:Nat} {l:List Tm} {i:Nat} {t:Tm} (h:Tms w (.slice A n c) l) (hi:l[i]? = some t) :
 ∃ b off,A = some ⟨b,off,none⟩ ∧ b < w.heap.size ∧ w.cell? ⟨b,off + i * 3,none⟩ = some (.int .i64 t.op) ∧ w.cell? ⟨b,off + i * 3 + 1,none⟩ = some (.int .i64 t.n) ∧ w.cell? ⟨b,off + i * 3 + 2,none⟩ = some (.string t.s):=by
 obtain ⟨m,hm,A',c',heq,hc,hl,hA⟩:=h
 cases heq
 have:=get_lt hi
 obtain ⟨b,off,rfl,hb,hcell⟩:=hA (by omega)
 obtain ⟨g0,g1,g2⟩:=tmsV_get hi
 exact ⟨b,off,rfl,hb,hcell _ _ g0,by rw [Nat.add_assoc]; exact hcell _ _ g1,by rw [Nat.add_assoc]; exact hcell _ _ g2⟩
theorem tms_drop {l:List Tm} {k:Nat}:tmsV (l.drop k) = (tmsV l).drop (k * 3):=by
 induction l generalizing k with
 | nil => simp [tmsV]
 | cons t r ih =>
   cases k with
   | zero => simp
   | succ k =>
     rw [List.drop_succ_cons,ih,show tmsV (t :: r) = tmV t ++ tmsV r from List.flatMap_cons ..,show (k + 1) * 3 = 3 + k * 3 by omega,← List.drop_drop]
     rfl
theorem tms_take {l:List Tm} {k:Nat}:tmsV (l.take k) = (tmsV l).take (k * 3):=by
 induction l generalizing k with
 | nil => simp [tmsV]
 | cons t r ih =>
   cases k with
   | zero => simp [tmsV]
   | succ k =>
     rw [List.take_succ_cons,show tmsV (t :: r.take k) = tmV t ++ tmsV (r.take k) from List.flatMap_cons ..,ih,show tmsV (t :: r) = tmV t ++ tmsV r from List.flatMap_cons ..,show (k + 1) * 3 = 3 + k * 3 by omega,List.take_append,tmV_length]
     rw [show (tmV t).take (3 + k * 3) = tmV t from List.take_of_length_le (by rw [tmV_length]; omega),Nat.add_sub_cancel_left]
theorem elem_tms:Tryz.prog.elem 45 = 44:=by kernel_rfl
def Small (l:List Tm):Prop:=∀ t ∈ l,t.s.size ≤ 9223372036854775807
end Go.Proofs.YtcofikjpplkjdaaGreatDoor
namespace Go.Proofs.YtcofikjpplkjdaaGreatDoor
open Go.RowKit TermSpec
set_option maxRecDepth 100000
theorem info_tm:(Tryz.prog.info? 44).map (fun i => (i.zero,i.size,i.bytes)) = some (some (.agg #[.int .i64 0,.int .i64 0,.string ByteArray.empty]),3,32):=by kernel_rfl
theorem run_copy_rowk {P:Program} (k:Nat) (w:World) (dT sT ty elem:TypeId) (g o dLen dCap:Nat) (a:Addr) (sLen sCap:Nat) (cur:Array Value) (t:TypeId) (cs:List Value)
 (hu:P.underlying dT = some (.slice elem)) (hs:(P.info? elem).map (·.size) = some k)
 (hg:w.heap[g]? = some (.cells cur t (0,0))) (hn:cs.length = Nat.min sLen dLen * k)
 (hsrc:∀ j v,cs[j]? = some v → w.cell? (a.add j) = some v) (hfit:o + cs.length ≤ cur.size) (h1:∀ v ∈ cs,v.oneCell' = true) :
 (Builtin.copy_ #[dT,sT] ty #[.slice (some ⟨g,o,none⟩) dLen dCap,.slice (some a) sLen sCap]).run P w =
   .ok (goInt (Nat.min sLen dLen)) (w.setRow g (cur.toList.take o ++ cs ++ cur.toList.drop (o + cs.length)).toArray):=by
 have hl:=run_loadCells_list (P:=P) w a cs hsrc
 have hst:=run_storeCells_at P g o t cs 0 cur w hg (by simpa using hfit) h1
 cases hq:P.info? elem with
 | none => simp [hq] at hs
 | some i =>
   have hi:i.size = k:=by simpa [hq] using hs
   simp [Builtin.copy_,run_underlying hu,Builtin.lenOf,Builtin.firstCells,sizeOf,typeInfo,hq,hi,← hn,hl,hst]
theorem slice_lo (a:Option Addr) (len cap lo:Nat) (li:Int) (hli:li = lo) (h1:lo ≤ len):∃ r,∀ W,(Instr.slice 45 (.slice a len cap) (some (.int .i64 li)) none none).run Tryz.prog W = .ok r W:=by
 refine ⟨sliced a lo len cap 3,fun W => ?_⟩
 rw [run_slice_l (P:=Tryz.prog) W 45 a len cap (by rw [elem_tms]; exact Tryz.underlying45) .i64 li (by omega) (by omega),elem_tms,Tryz.sizeOf44]
 subst hli
 rfl
theorem slice_at (g len cap lo:Nat) (li:Int) (hli:li = lo) (h1:lo ≤ len) (h2:lo < cap) (W:World):(Instr.slice 45 (.slice (some ⟨g,0,none⟩) len cap) (some (.int .i64 li)) none none).run Tryz.prog W = .ok (.slice (some ⟨g,lo * 3,none⟩) (len - lo) (cap - lo)) W:=by
 rw [run_slice_l (P:=Tryz.prog) W 45 _ len cap (by rw [elem_tms]; exact Tryz.underlying45) .i64 li (by omega) (by omega),elem_tms,Tryz.sizeOf44]
 subst hli
 simp [sliced,Result.andThen,addr_add]
 omega
theorem slice_up (g len cap hi:Nat) (h:Int) (hh:h = hi) (h2:hi ≤ cap) (_h0:0 < cap) (W:World):(Instr.slice 45 (.slice (some ⟨g,0,none⟩) len cap) none (some (.int .i64 h)) none).run Tryz.prog W = .ok (.slice (some ⟨g,0,none⟩) hi cap) W:=by
 rw [run_slice_h (P:=Tryz.prog) W 45 _ len cap (by rw [elem_tms]; exact Tryz.underlying45) .i64 h (by omega) (by omega),elem_tms,Tryz.sizeOf44]
 subst hh
 simp [sliced,Result.andThen,addr_add]
 try omega
def InsPost (W:World) (base:Nat) (v:Value) (n:Nat) (l:List Tm) (e:Ending) (w':World):Prop :=
 ∃ v',e = .returned v' ∧ w'.ownsRow base 44 3 v' n (tmsV l) ∧ W.grownBy w' v.ownBlock ∧ (v'.ownBlock = v.ownBlock ∨ v'.ownBlock = some W.heap.size)
theorem grow_setRow {w w':World} {g:Nat} (h:w.grownBy w' (some g)) (cs:Array Value):w.grownBy (w'.setRow g cs) (some g) :=
 ⟨h.os,h.tape,h.output,by simp [World.setRow]; exact h.size,fun i hi hn => by
  rw [← h.block i hi hn]
  unfold World.setRow
  simp only [Array.getElem?_modify]
  rw [if_neg (by intro e; exact hn (by rw [e]))]⟩
set_option maxHeartbeats 4000000 in
theorem insert_end (base:Nat) (v:Value) (n:Nat) (l:List Tm) (t:Tm) (vb:Nat) (w:World) (_hn:n = l.length) (h40:n ≤ 1000) (hown:w.ownsRow base 44 3 v n (tmsV l)) (hbase:base ≤ w.heap.size)
 (hvb:w.heap[vb]? = some (.cells #[.int .i64 t.op,.int .i64 t.n,.string t.s] 44 (0,0))) :
 Calls Tryz.prog 173 #[v,.int .i64 n,.slice (some ⟨vb,0,none⟩) 1 1] w (InsPost w base v (n + 1) (l ++ [t])):=by
 obtain ⟨i0,hi,hz0,hz1,hz2⟩:=info_parts info_tm
 obtain ⟨A,cp,rfl⟩:=own_shape hown
 obtain ⟨r,hr⟩:=slice_lo A n cp n (n:Int) rfl (Nat.le_refl _)
 have HO:=Lib.hid hown
 have HF:Hid (∀ (w':World) (v':Value),w'.ownsRow base 44 3 v' (n + 1) (tmsV l ++ [.int .i64 t.op,.int .i64 t.n,.string t.s]) → w'.ownsRow base 44 3 v' (n + 1) (tmsV (l ++ [t]))):=Lib.hid (fun w' v' h => by
  have:tmsV (l ++ [t]) = tmsV l ++ [.int .i64 t.op,.int .i64 t.n,.string t.s]:=by simp [tmsV,tmV]
  rw [this]; exact h)
 clear hown _hn
 go_enter Tryz.func173,Tryz.ntmps173
 go_wp2_with (at_builtin; refine wpList_append_lies _ rfl (.tmp 23) (.tmp 24) 45 rfl base 44 i0 _ 3 32 Tryz.underlying45 hi hz0 hz1 hz2 rfl (by decide) _ n (tmsV l) rfl HO.out ⟨vb,0,none⟩ 1 1 [.int .i64 t.op,.int .i64 t.n,.string t.s] rfl rfl (World.news_of_block (cs:=#[.int .i64 t.op,.int .i64 t.n,.string t.s]) hvb) (by simp [Value.oneCell']) (by decide) (by unfold maxLen; omega) (by omega) hbase _ rfl ?_)
 intro g cap w2 hown2 hgrow2 hwhere hlt2
 have HE:=Lib.hid (And.intro (HF.out _ _ hown2) (And.intro hgrow2 hwhere))
 clear hown2 hgrow2 hwhere
 go_wp2_with fail
 go_ret
 refine ⟨_,rfl,HE.out.1,HE.out.2.1,?_⟩
 rcases HE.out.2.2 with h | h
 ·exact .inl h.symm
 ·exact .inr (by rw [← h]; rfl)
theorem seg_list {cur cs t:List Value} {i n:Nat} (hcs:cur.take (n * 3) = cs) (hi:i < n) (hn:(n + 1) * 3 ≤ cur.length) (ht:t.length = 3) :
 ((cur.take ((i + 1) * 3) ++ cs.drop (i * 3) ++ cur.drop ((i + 1) * 3 + (cs.drop (i * 3)).length)).take (i * 3) ++ t ++ (cur.take ((i + 1) * 3) ++ cs.drop (i * 3) ++ cur.drop ((i + 1) * 3 + (cs.drop (i * 3)).length)).drop (i * 3 + t.length)).take ((n + 1) * 3) = cs.take (i * 3) ++ t ++ cs.drop (i * 3):=by
 have hl:cs.length = n * 3:=by rw [← hcs,List.length_take]; omega
 have hd:(cs.drop (i * 3)).length = n * 3 - i * 3:=by rw [List.length_drop,hl]
 have h1:(cur.take ((i + 1) * 3)).length = (i + 1) * 3:=by rw [List.length_take]; omega
 have e1:(cur.take ((i + 1) * 3) ++ cs.drop (i * 3) ++ cur.drop ((i + 1) * 3 + (cs.drop (i * 3)).length)).take (i * 3) = cs.take (i * 3):=by
  rw [List.append_assoc,List.take_append_of_le_length (by omega),List.take_take,← hcs,List.take_take,show min (i * 3) ((i + 1) * 3) = i * 3 by omega,show min (i * 3) (n * 3) = i * 3 by omega]
 have e2:(cur.take ((i + 1) * 3) ++ cs.drop (i * 3) ++ cur.drop ((i + 1) * 3 + (cs.drop (i * 3)).length)).drop (i * 3 + t.length) = cs.drop (i * 3) ++ cur.drop ((i + 1) * 3 + (cs.drop (i * 3)).length):=by
  rw [List.append_assoc,show i * 3 + t.length = (cur.take ((i + 1) * 3)).length by omega,List.drop_left]
 rw [e1,e2]
 have h4:(cs.take (i * 3)).length = i * 3:=by rw [List.length_take]; omega
 rw [List.append_assoc,List.append_assoc,← List.append_assoc,← List.append_assoc,List.take_append_of_le_length (by simp only [List.length_append]; omega)]
 rw [List.take_of_length_le (by simp only [List.length_append]; omega),List.append_assoc]
theorem tms_mid (l:List Tm) (t:Tm) (i:Nat):tmsV (l.take i ++ t :: l.drop i) = (tmsV l).take (i * 3) ++ tmV t ++ (tmsV l).drop (i * 3):=by
 rw [← tms_take,← tms_drop]
 simp [tmsV]
set_option maxHeartbeats 4000000 in
theorem insert_shift (base g cap:Nat) (n i:Nat) (l:List Tm) (t:Tm) (vb:Nat) (w:World) (hn:n = l.length) (h40:n ≤ 1000) (hi:i < n) (hroom:n + 1 ≤ cap)
 (hown:w.ownsRow base 44 3 (.slice (some ⟨g,0,none⟩) n cap) n (tmsV l))
 (hvb:w.heap[vb]? = some (.cells #[.int .i64 t.op,.int .i64 t.n,.string t.s] 44 (0,0))) (hne:vb ≠ g) :
 Calls Tryz.prog 173 #[.slice (some ⟨g,0,none⟩) n cap,.int .i64 i,.slice (some ⟨vb,0,none⟩) 1 1] w (InsPost w base (.slice (some ⟨g,0,none⟩) n cap) (n + 1) (l.take i ++ t :: l.drop i)):=by
 obtain ⟨i0,hi0,hz0,hz1,hz2⟩:=info_parts info_tm
 obtain ⟨hl,hv⟩:=hown
 rcases hv with ⟨hv,_⟩ | ⟨g',cap',cur,hv,hbase,hb,hnc,hcm,hcs,ht⟩
 ·cases hv
 cases hv
 have hsz:(Tryz.prog.info? 44).map (·.size) = some 3:=by rw [hi0]; simp [hz1]
 have hcur:cur.toList.length = cap * 3:=by rw [Array.length_toList]; exact hcs
 have hc63:cap ≤ 9223372036854775807:=hcm
 have hdl:((tmsV l).drop (i * 3)).length = (n - i) * 3:=by rw [List.length_drop,hl]; omega
 have hone:=tmsV_one l
 have hs1:=slice_at g n cap i (i:Int) rfl (by omega) (by omega)
 have hs2:=slice_up g n cap (n + 1) ((n:Int) + 1) (by omega) (by omega) (by omega)
 have hs3:=slice_at g (n + 1) cap (i + 1) ((i:Int) + 1) (by omega) (by omega) (by omega)
 have hs4:=slice_at g (n + 1) cap i (i:Int) rfl (by omega) (by omega)
 have hov:∀ lb cb,(callFunc 175 #[.slice (some ⟨vb,0,none⟩) 1 1,.slice (some ⟨g,(i + 1) * 3,none⟩) lb cb]).run Tryz.prog w = .ok (.value (.bool false)) w:=fun lb cb => by
  rw [run_callFunc_extern Tryz.func175 (by kernel_rfl) (by kernel_rfl) (by kernel_rfl) (e:=Extern.SlicesOverlaps.overlaps #[45,45] #[4]) (by kernel_rfl),
   Lib.run_overlaps_apart w 45 4 44 Tryz.underlying45 3 Tryz.sizeOf44 ⟨vb,0,none⟩ ⟨g,(i + 1) * 3,none⟩ 1 1 lb cb hne 44 44 3 (cap * 3) (by simp [World.shape?,hvb]) (by simp [World.shape?,hb,hcs]) (by omega) (by simp [World.frozen?,hvb]) (by simp [World.frozen?,hvb])]
  rfl
 obtain ⟨row1,hrow1⟩:∃ row1,row1 = cur.toList.take ((i + 1) * 3) ++ (tmsV l).drop (i * 3) ++ cur.toList.drop ((i + 1) * 3 + ((tmsV l).drop (i * 3)).length):=⟨_,rfl⟩
 have hr1l:row1.length = cap * 3:=by rw [hrow1]; simp only [List.length_append,List.length_take,List.length_drop,hcur,hl]; omega
 have hcell:∀ j u,(tmsV l)[j]? = some u → w.cell? ⟨g,j,none⟩ = some u:=fun j u hj => by
  have hj':=(List.getElem?_eq_some_iff.1 hj).1
  rw [← ht,List.getElem?_take_of_lt (by omega),Array.getElem?_toList] at hj
  simp [World.cell?,hb,hj]
 have hcp1:∀ ty dc sc,(Builtin.copy_ #[45,45] ty #[.slice (some ⟨g,(i + 1) * 3,none⟩) (n - i) dc,.slice (some ⟨g,i * 3,none⟩) (n + 1 - i) sc]).run Tryz.prog w.drew = .ok (goInt (Nat.min (n + 1 - i) (n - i))) (w.drew.setRow g row1.toArray):=fun ty dc sc => by
  rw [hrow1]
  exact run_copy_rowk 3 w.drew _ _ ty 44 g ((i + 1) * 3) _ dc ⟨g,i * 3,none⟩ _ sc cur 44 ((tmsV l).drop (i * 3)) Tryz.underlying45 hsz hb
   (by rw [hdl,show Nat.min (n + 1 - i) (n - i) = n - i by simp only [Nat.min_def]; split <;> omega])
   (fun j v hj => by rw [addr_add]; rw [List.getElem?_drop] at hj; exact hcell _ v hj) (by rw [hdl]; omega) (fun v hv => hone v (List.mem_of_mem_drop hv))
 obtain ⟨row2,hrow2⟩:∃ row2,row2 = row1.take (i * 3) ++ tmV t ++ row1.drop (i * 3 + (tmV t).length):=⟨_,rfl⟩
 have hr2l:row2.length = cap * 3:=by rw [hrow2]; simp only [List.length_append,List.length_take,List.length_drop,hr1l,tmV_length]; omega
 have hb1:(w.drew.setRow g row1.toArray).heap[g]? = some (.cells row1.toArray 44 (0,0)):=setRow_heap w.drew g cur row1.toArray 44 (0,0) hb
 have hvb1:(w.drew.setRow g row1.toArray).heap[vb]? = some (.cells #[.int .i64 t.op,.int .i64 t.n,.string t.s] 44 (0,0)) :=
  ((grow_setRow (but_refl w (some g)) row1.toArray).block vb (Array.getElem?_eq_some_iff.1 hvb).1 (by simpa using hne)).trans hvb
 have hcp2:∀ ty dc,(Builtin.copy_ #[45,45] ty #[.slice (some ⟨g,i * 3,none⟩) (n + 1 - i) dc,.slice (some ⟨vb,0,none⟩) 1 1]).run Tryz.prog (w.drew.setRow g row1.toArray) = .ok (goInt (Nat.min 1 (n + 1 - i))) (w.drew.setRow g row2.toArray):=fun ty dc => by
  have:=run_copy_rowk (P:=Tryz.prog) 3 (w.drew.setRow g row1.toArray) 45 45 ty 44 g (i * 3) (n + 1 - i) dc ⟨vb,0,none⟩ 1 1 row1.toArray 44 (tmV t) Tryz.underlying45 hsz hb1
   (by rw [tmV_length,show Nat.min 1 (n + 1 - i) = 1 by simp only [Nat.min_def]; split <;> omega])
   (fun j v hj => by rw [addr_add,Nat.zero_add]; exact cell_of_block' hvb1 (by rw [show (#[.int .i64 t.op,.int .i64 t.n,.string t.s]:Array Value) = (tmV t).toArray from rfl,List.getElem?_toArray]; exact hj))
   (by rw [tmV_length]; simp only [List.size_toArray]; omega) (tmV_one t)
  rw [this,setRow_setRow,hrow2]
 have hfin:InsPost w base (.slice (some ⟨g,0,none⟩) n cap) (n + 1) (l.take i ++ t :: l.drop i) (.returned (.slice (some ⟨g,0,none⟩) (n + 1) cap)) (w.drew.setRow g row2.toArray):=by
  refine ⟨_,rfl,⟨by rw [tmsV_length]; simp; omega,.inr ⟨g,cap,row2.toArray,rfl,hbase,setRow_heap w.drew g cur row2.toArray 44 (0,0) hb,hroom,hcm,by simpa using hr2l,?_⟩⟩,grow_setRow (but_drew (but_refl w (some g))) _,.inl rfl⟩
  rw [tms_mid,hrow2,hrow1]
  exact seg_list ht hi (by omega) rfl
 have HF:=Lib.hid hfin
 have hz3:¬ ((i:Int) = (n:Int)):=by omega
 have hz3':((i:Int) == (n:Int)) = false:=by simpa using hz3
 have hz4:¬ ((cap:Int) < (n:Int) + 1):=by omega
 have hz4':decide ((cap:Int) < (n:Int) + 1) = false:=decide_eq_false hz4
 clear hfin hrow2 hrow1 hr1l hr2l hb1 hvb1 hcell hone hdl hcur ht hl hcs hbase hn
 have hw1:IntKind.i64.wrap ((i:Int) + 1) = (i:Int) + 1:=by rw [IntKind.wrap_i64]; omega
 have hb1:(0:Int) ≤ (i:Int) + 1:=by omega
 have hb5:(i:Int) ≤ (n:Int):=by omega
 have htn:((i:Int) + 1).toNat = i + 1:=by omega
 have hb2:¬ (cap = i + 1):=by omega
 have hb3:(i:Int) ≤ (n:Int) + 1:=by omega
 have hb4:¬ (cap = i):=by omega
 have mixed:Tryz.prog.follows .mixedOrders = true:=by kernel_rfl
 go_enter Tryz.func173,Tryz.ntmps173
 go_wp2_with (simp only [hov])
 go_region_law_o (refine step_copy_runI rfl _ _ 45 45 rfl _ _ (by simp [Act.eval,Act.put]) (by simp [Act.eval,Act.put]) (hcp1 _ _ _) ?_)
 go_wp2_with (at_builtin; refine wpList_copy_runI _ rfl _ _ 45 45 rfl _ _ rfl rfl (hcp2 _ _) ?_)
 go_ret
 exact HF.out
end Go.Proofs.YtcofikjpplkjdaaGreatDoor
namespace Go.Proofs.YtcofikjpplkjdaaGreatDoor
open Go.RowKit TermSpec
set_option maxRecDepth 100000
theorem zero_size (n:Nat):(Builtin.zeroCells (Value.agg #[.int .i64 0,.int .i64 0,.string ByteArray.empty]).cells n).size = n * 3:=by
 simp [Builtin.zeroCells,Value.cells]
theorem seg_new {cs t row:List Value} {i n:Nat} (hl:cs.length = n * 3) (hi:i < n) (hr:row.take (i * 3) = cs.take (i * 3)) (_hrl:(n + 1) * 3 ≤ row.length) (ht:t.length = 3) :
 ((row.take (i * 3) ++ t ++ row.drop (i * 3 + t.length)).take ((i + 1) * 3) ++ cs.drop (i * 3) ++ (row.take (i * 3) ++ t ++ row.drop (i * 3 + t.length)).drop ((i + 1) * 3 + (cs.drop (i * 3)).length)).take ((n + 1) * 3) = cs.take (i * 3) ++ t ++ cs.drop (i * 3):=by
 have h4:(cs.take (i * 3)).length = i * 3:=by rw [List.length_take]; omega
 have hd:(cs.drop (i * 3)).length = n * 3 - i * 3:=by rw [List.length_drop,hl]
 have e1:(row.take (i * 3) ++ t ++ row.drop (i * 3 + t.length)).take ((i + 1) * 3) = cs.take (i * 3) ++ t:=by
  rw [hr,List.take_append_of_le_length (by rw [List.length_append]; omega),List.take_of_length_le (by rw [List.length_append]; omega)]
 rw [e1,List.take_append_of_le_length (by simp only [List.length_append]; omega),List.take_of_length_le (by simp only [List.length_append]; omega)]
set_option maxHeartbeats 4000000 in
theorem insert_grow (base g cap:Nat) (n i:Nat) (l:List Tm) (t:Tm) (vb:Nat) (w:World) (hn:n = l.length) (h40:n ≤ 1000) (hi:i < n) (hroom:cap < n + 1)
 (hown:w.ownsRow base 44 3 (.slice (some ⟨g,0,none⟩) n cap) n (tmsV l)) (hbs:base ≤ w.heap.size)
 (hvb:w.heap[vb]? = some (.cells #[.int .i64 t.op,.int .i64 t.n,.string t.s] 44 (0,0))) (_hne:vb ≠ g) :
 Calls Tryz.prog 173 #[.slice (some ⟨g,0,none⟩) n cap,.int .i64 i,.slice (some ⟨vb,0,none⟩) 1 1] w (InsPost w base (.slice (some ⟨g,0,none⟩) n cap) (n + 1) (l.take i ++ t :: l.drop i)):=by
 obtain ⟨i0,hi0,hz0,hz1,hz2⟩:=info_parts info_tm
 obtain ⟨hl,hv⟩:=hown
 rcases hv with ⟨hv,_⟩ | ⟨g',cap',cur,hv,hbase,hb,hnc,hcm,hcs,ht⟩
 ·cases hv
 cases hv
 have hsz:(Tryz.prog.info? 44).map (·.size) = some 3:=by rw [hi0]; simp [hz1]
 have hc63:cap ≤ 9223372036854775807:=hcm
 have hdl:((tmsV l).drop (i * 3)).length = (n - i) * 3:=by rw [List.length_drop,hl]; omega
 have hone:=tmsV_one l
 have hgw:=(Array.getElem?_eq_some_iff.1 hb).1
 have hvw:=(Array.getElem?_eq_some_iff.1 hvb).1
 have hcell:∀ j u,(tmsV l)[j]? = some u → w.cell? ⟨g,j,none⟩ = some u:=fun j u hj => by
  have hj':=(List.getElem?_eq_some_iff.1 hj).1
  rw [← ht,List.getElem?_take_of_lt (by omega),Array.getElem?_toList] at hj
  simp [World.cell?,hb,hj]
 have hold:(Builtin.firstCells i0.size i (.slice (some ⟨g,0,none⟩) i cap)).run Tryz.prog w.drew = .ok ((tmsV l).take (i * 3)).toArray w.drew:=by
  rw [hz1]
  exact run_firstCells_some w.drew 3 i ⟨g,0,none⟩ i cap _ (by rw [List.length_take]; omega) (fun j v hj => by
   rw [addr_add,Nat.zero_add]
   rw [List.getElem?_take] at hj
   split at hj
   ·exact hcell j v hj
   ·cases hj)
 have hik:i + (n + 1 - i) = n + 1:=by omega
 have hkk:(n:Int) + 1 - (i:Int) = ((n + 1 - i:Nat):Int):=by omega
 obtain ⟨G,hG⟩:∃ G,G = grownCap w (n + 1) cap 44:=⟨_,rfl⟩
 have hGn:n + 1 ≤ G:=by rw [hG]; exact grownCap_ge w _ _ _
 have hGm:G ≤ maxLen:=by rw [hG]; exact grownCap_le_maxLen w (n + 1) cap _ (by unfold maxLen; omega)
 obtain ⟨ROW,hROW⟩:∃ ROW:Array Value,ROW = ((tmsV l).take (i * 3)).toArray ++ Builtin.zeroCells (Value.agg #[.int .i64 0,.int .i64 0,.string ByteArray.empty]).cells (n + 1 - i) ++ Builtin.zeroCells (Value.agg #[.int .i64 0,.int .i64 0,.string ByteArray.empty]).cells (G - (n + 1)):=⟨_,rfl⟩
 have hRl:ROW.size = G * 3:=by
  rw [hROW]
  simp only [Array.size_append,zero_size,List.size_toArray,List.length_take,hl]
  omega
 have hRt:ROW.toList.take (i * 3) = (tmsV l).take (i * 3):=by
  rw [hROW]
  simp only [Array.toList_append]
  have:((tmsV l).take (i * 3)).length = i * 3:=by rw [List.length_take]; omega
  rw [List.append_assoc,List.take_append_of_le_length (by omega),List.take_of_length_le (by omega)]
 have hrz:∀ ty,(Builtin.append_ #[45,3] ty #[.slice (some ⟨g,0,none⟩) i cap,.int .i64 ((n:Int) + 1 - (i:Int))]).run Tryz.prog w =
  .ok (.slice (some ⟨w.heap.size,0,none⟩) (n + 1) G) (w.alloc (.cells ROW 44)).drew:=fun ty => by
  have h:=Lib.run_append_grow_zeros w 45 3 ty 44 i0 _ .i64 .i64 Tryz.underlying45 Tryz.underlying3 hi0 hz0 (some ⟨g,0,none⟩) i cap ((tmsV l).take (i * 3)) hold (n + 1 - i) (by omega) (by omega) (by omega) (by omega) (by rw [hz2]; omega) (by rw [hz2,hik]; exact growslice_fits hroom (by omega))
  rw [hik,← hG] at h
  rw [hkk,hROW]
  exact h
 obtain ⟨W1,hW1⟩:∃ W1,W1 = (w.alloc (.cells ROW 44)).drew:=⟨_,rfl⟩
 have hN:W1.heap[w.heap.size]? = some (.cells ROW 44 (0,0)):=by rw [hW1]; exact heap_alloc_new _ _
 have hOld:∀ b,b < w.heap.size → W1.heap[b]? = w.heap[b]?:=fun b hb => by rw [hW1]; exact heap_alloc_old _ _ hb
 obtain ⟨row1,hrow1⟩:∃ row1,row1 = ROW.toList.take (i * 3) ++ tmV t ++ ROW.toList.drop (i * 3 + (tmV t).length):=⟨_,rfl⟩
 have hr1l:row1.length = G * 3:=by rw [hrow1]; simp only [List.length_append,List.length_take,List.length_drop,Array.length_toList,hRl,tmV_length]; omega
 have hcpA:∀ ty dc,(Builtin.copy_ #[45,45] ty #[.slice (some ⟨w.heap.size,i * 3,none⟩) (n + 1 - i) dc,.slice (some ⟨vb,0,none⟩) 1 1]).run Tryz.prog W1 = .ok (goInt (Nat.min 1 (n + 1 - i))) (W1.setRow w.heap.size row1.toArray):=fun ty dc => by
  rw [hrow1]
  exact run_copy_rowk (P:=Tryz.prog) 3 W1 45 45 ty 44 w.heap.size (i * 3) (n + 1 - i) dc ⟨vb,0,none⟩ 1 1 ROW 44 (tmV t) Tryz.underlying45 hsz hN
   (by rw [tmV_length,show Nat.min 1 (n + 1 - i) = 1 by simp only [Nat.min_def]; split <;> omega])
   (fun j v hj => by rw [addr_add,Nat.zero_add]; exact cell_of_block' ((hOld vb hvw).trans hvb) (by rw [show (#[.int .i64 t.op,.int .i64 t.n,.string t.s]:Array Value) = (tmV t).toArray from rfl,List.getElem?_toArray]; exact hj))
   (by rw [tmV_length]; omega) (tmV_one t)
 have hN2:((W1.setRow w.heap.size row1.toArray).drew).heap[w.heap.size]? = some (.cells row1.toArray 44 (0,0)):=setRow_heap W1 w.heap.size ROW row1.toArray 44 (0,0) hN
 have hOld2:∀ b,b < w.heap.size → ((W1.setRow w.heap.size row1.toArray).drew).heap[b]? = w.heap[b]?:=fun b hb =>
  ((grow_setRow (but_refl W1 (some w.heap.size)) row1.toArray).block b (by rw [hW1]; simp; omega) (by simp; omega)).trans (hOld b hb)
 obtain ⟨row2,hrow2⟩:∃ row2,row2 = row1.take ((i + 1) * 3) ++ (tmsV l).drop (i * 3) ++ row1.drop ((i + 1) * 3 + ((tmsV l).drop (i * 3)).length):=⟨_,rfl⟩
 have hr2l:row2.length = G * 3:=by rw [hrow2]; simp only [List.length_append,List.length_take,List.length_drop,hr1l,hl]; omega
 have hcpB:∀ ty dc sc,(Builtin.copy_ #[45,45] ty #[.slice (some ⟨w.heap.size,(i + 1) * 3,none⟩) (n - i) dc,.slice (some ⟨g,i * 3,none⟩) (n - i) sc]).run Tryz.prog (W1.setRow w.heap.size row1.toArray).drew = .ok (goInt (Nat.min (n - i) (n - i))) (((W1.setRow w.heap.size row1.toArray).drew).setRow w.heap.size row2.toArray):=fun ty dc sc => by
  have:=run_copy_rowk (P:=Tryz.prog) 3 (W1.setRow w.heap.size row1.toArray).drew 45 45 ty 44 w.heap.size ((i + 1) * 3) (n - i) dc ⟨g,i * 3,none⟩ (n - i) sc row1.toArray 44 ((tmsV l).drop (i * 3)) Tryz.underlying45 hsz hN2
   (by rw [hdl,show Nat.min (n - i) (n - i) = n - i by simp only [Nat.min_def]; split <;> omega])
   (fun j v hj => by
     rw [addr_add]
     rw [List.getElem?_drop] at hj
     have:=hcell _ v hj
     unfold World.cell? at this ⊢
     rw [hOld2 g hgw]
     exact this) (by rw [hdl]; simp only [List.size_toArray]; omega) (fun v hv => hone v (List.mem_of_mem_drop hv))
  rw [this,hrow2]
 have hfin:InsPost w base (.slice (some ⟨g,0,none⟩) n cap) (n + 1) (l.take i ++ t :: l.drop i) (.returned (.slice (some ⟨w.heap.size,0,none⟩) (n + 1) G)) (((W1.setRow w.heap.size row1.toArray).drew).setRow w.heap.size row2.toArray):=by
  have hgr:w.grownBy (((W1.setRow w.heap.size row1.toArray).drew).setRow w.heap.size row2.toArray) (some w.heap.size):=by
   refine grow_setRow (but_drew (grow_setRow ?_ _)) _
   rw [hW1]
   exact but_drew (but_alloc (but_refl w _) _)
  refine ⟨_,rfl,⟨by rw [tmsV_length]; simp; omega,.inr ⟨w.heap.size,G,row2.toArray,rfl,by omega,setRow_heap (W1.setRow w.heap.size row1.toArray).drew w.heap.size row1.toArray row2.toArray 44 (0,0) hN2,hGn,hGm,by simpa using hr2l,?_⟩⟩,⟨hgr.os,hgr.tape,hgr.output,hgr.size,fun j hj _ => hgr.block j hj (by simp; omega)⟩,.inr rfl⟩
  rw [tms_mid,hrow2,hrow1]
  exact seg_new (n:=n) hl hi hRt (by rw [Array.length_toList]; omega) rfl
 have HF:=Lib.hid hfin
 have hs1:=slice_at g n cap i (i:Int) rfl (by omega) (by omega)
 have hs2:=slice_up g n cap i (i:Int) rfl (by omega) (by omega)
 have hs3:=slice_at w.heap.size (n + 1) G i (i:Int) rfl (by omega) (by omega)
 have hz3:¬ ((i:Int) = (n:Int)):=by omega
 have hz3':((i:Int) == (n:Int)) = false:=by simpa using hz3
 have hz4:(cap:Int) < (n:Int) + 1:=by omega
 have hw1:IntKind.i64.wrap ((i:Int) + 1) = (i:Int) + 1:=by rw [IntKind.wrap_i64]; omega
 have hb1:(0:Int) ≤ (i:Int) + 1:=by omega
 have hb5:(i:Int) ≤ (n:Int):=by omega
 have hin:i ≤ n:=by omega
 have htn:((i:Int) + 1).toNat = i + 1:=by omega
 have hb3:(i:Int) ≤ (n:Int) + 1:=by omega
 have hb4:¬ (cap = i):=by omega
 have hGi:¬ (G = i):=by omega
 have hGim:¬ (G = i + 1):=by omega
 have hG63:G ≤ 9223372036854775807:=hGm
 clear hGm
 have mixed:Tryz.prog.follows .mixedOrders = true:=by kernel_rfl
 clear hfin hrow2 hrow1 hr1l hr2l hN hN2 hOld hOld2 hcell hone hdl ht hl hcs hbase hn hold hROW hRl hRt hG hb hvb hgw hvw hkk hik
 subst hW1
 go_enter Tryz.func173,Tryz.ntmps173
 go_wp2_with (first
  | (at_builtin; refine Lib.wpList_append_run _ rfl _ _ _ _ rfl _ _ rfl rfl _ _ (hrz _) ?_)
  | (at_builtin; refine wpList_copy_runI _ rfl _ _ 45 45 rfl _ _ rfl rfl (hcpA _ _) ?_))
 go_region_law_o (refine step_copy_runI rfl _ _ 45 45 rfl _ _ (by simp [Act.eval,Act.put]) (by simp [Act.eval,Act.put]) (hcpB _ _ _) ?_)
 go_wp2_with fail
 go_ret
 exact HF.out
theorem insert_any (base:Nat) (v:Value) (n i:Nat) (l:List Tm) (t:Tm) (vb:Nat) (w:World) (hn:n = l.length) (h40:n ≤ 1000) (hi:i ≤ n) (hown:w.ownsRow base 44 3 v n (tmsV l)) (hbs:base ≤ w.heap.size)
 (hvb:w.heap[vb]? = some (.cells #[.int .i64 t.op,.int .i64 t.n,.string t.s] 44 (0,0))) (hne:v.ownBlock ≠ some vb) :
 Calls Tryz.prog 173 #[v,.int .i64 i,.slice (some ⟨vb,0,none⟩) 1 1] w (InsPost w base v (n + 1) (l.take i ++ t :: l.drop i)):=by
 rcases Nat.lt_or_ge i n with h | h
 ·have hown':=hown
  obtain ⟨_,hv⟩:=hown'
  rcases hv with ⟨_,h0⟩ | ⟨g,cap,cur,rfl,_⟩
  ·omega
  ·have hne':vb ≠ g:=fun e => hne (by rw [e]; rfl)
   rcases Nat.lt_or_ge cap (n + 1) with hc | hc
   ·exact insert_grow base g cap n i l t vb w hn h40 h hc hown hbs hvb hne'
   ·exact insert_shift base g cap n i l t vb w hn h40 h hc hown hvb hne'
 ·obtain rfl:i = n:=by omega
  have:=insert_end base v i l t vb w hn h40 hown hbs hvb
  rw [List.take_of_length_le (by omega),List.drop_eq_nil_of_le (by omega)]
  exact this
end Go.Proofs.YtcofikjpplkjdaaGreatDoor
namespace Go.Proofs.YtcofikjpplkjdaaGreatDoor
open Go.RowKit CurSpec
def tkV (t:Tk):List Value:=[.int .i64 t.k,.string t.t,.int .i64 t.l,.int .i64 t.c]
def tksV (l:List Tk):List Value:=l.flatMap tkV
theorem tkV_length (t:Tk):(tkV t).length = 4:=rfl
theorem tksV_length (l:List Tk):(tksV l).length = l.length * 4:=flat_length tkV_length l
theorem tkV_one (t:Tk):∀ u ∈ tkV t,u.oneCell' = true:=by simp [tkV,Value.oneCell']
theorem tksV_one (l:List Tk):∀ u ∈ tksV l,u.oneCell' = true:=by
 intro u hu
 obtain ⟨t,_,h⟩:=List.mem_flatMap.1 hu
 exact tkV_one t u h
theorem tksV_cons (t:Tk) (l:List Tk):tksV (t :: l) = tkV t ++ tksV l:=by simp [tksV]
theorem tksV_get {l:List Tk} {i:Nat} {t:Tk} (h:l[i]? = some t):(tksV l)[i * 4]? = some (.int .i64 t.k) ∧ (tksV l)[i * 4 + 1]? = some (.string t.t) ∧ (tksV l)[i * 4 + 2]? = some (.int .i64 t.l) ∧ (tksV l)[i * 4 + 3]? = some (.int .i64 t.c) :=
 ⟨flat_get (j:=0) tkV_length h (by omega),flat_get (j:=1) tkV_length h (by omega),flat_get (j:=2) tkV_length h (by omega),flat_get (j:=3) tkV_length h (by omega)⟩
def Toks (w:World) (v:Value) (l:List Tk):Prop:=∃ n,n = l.length ∧ Rdk 4 w v n (tksV l)
theorem Toks.keep {w w':World} {v:Value} {l:List Tk} (h:Toks w v l) (hb:Below w.heap.size w w'):Toks w' v l:=by
 obtain ⟨n,hn,h⟩:=h
 exact ⟨n,hn,h.keep hb⟩
theorem Toks.alloc {w:World} {v:Value} {l:List Tk} (h:Toks w v l) (o:Obj):Toks (w.alloc o) v l:=h.keep ((Below.refl _ _).alloc (Nat.le_refl _) _)
theorem Toks.cons {w:World} {v:Value} {t:Tk} {l:List Tk} (h:Toks w v (t :: l)) :
 ∃ b off n c,v = .slice (some ⟨b,off,none⟩) (n + 1) c ∧ n = l.length ∧ n + 1 ≤ c ∧ b < w.heap.size ∧ w.cell? ⟨b,off,none⟩ = some (.int .i64 t.k) ∧ w.cell? ⟨b,off + 1,none⟩ = some (.string t.t) ∧ w.cell? ⟨b,off + 2,none⟩ = some (.int .i64 t.l) ∧ w.cell? ⟨b,off + 3,none⟩ = some (.int .i64 t.c) ∧
   Toks w (.slice (some ⟨b,if c = 1 then off else off + 4,none⟩) n (c - 1)) l:=by
 obtain ⟨n,rfl,A,c,rfl,hc,hl,hA⟩:=h
 obtain ⟨b,off,rfl,hb,hcell⟩:=hA (by simp)
 have g:=tksV_get (l:=t :: l) (i:=0) rfl
 simp only [List.length_cons] at hc
 refine ⟨b,off,l.length,c,rfl,rfl,hc,hb,hcell 0 _ g.1,hcell 1 _ g.2.1,hcell 2 _ g.2.2.1,hcell 3 _ g.2.2.2,l.length,rfl,_,_,rfl,by omega,tksV_length l,fun h0 => ⟨b,off + 4,?_,hb,fun j u hj => ?_⟩⟩
 ·rw [if_neg (by omega)]
 ·rw [show off + 4 + j = off + (4 + j) by omega]
  refine hcell _ _ ?_
  rw [tksV_cons,List.getElem?_append_right (by rw [tkV_length]; omega),tkV_length,Nat.add_sub_cancel_left,hj]
theorem Toks.cons' {w:World} {A:Option Addr} {n cp:Nat} {t:Tk} {l:List Tk} (h:Toks w (.slice A n cp) (t :: l)) :
 ∃ b off m,A = some ⟨b,off,none⟩ ∧ n = m + 1 ∧ m + 1 ≤ cp ∧ b < w.heap.size ∧ w.cell? ⟨b,off,none⟩ = some (.int .i64 t.k) ∧ w.cell? ⟨b,off + 1,none⟩ = some (.string t.t) ∧ w.cell? ⟨b,off + 2,none⟩ = some (.int .i64 t.l) ∧ w.cell? ⟨b,off + 3,none⟩ = some (.int .i64 t.c) ∧
   Toks w (.slice (some ⟨b,if cp = 1 then off else off + 4,none⟩) m (cp - 1)) l:=by
 obtain ⟨b,off,m,c,heq,_,hc,hb,h0,h1,h2,h3,ht⟩:=h.cons
 cases heq
 exact ⟨b,off,m,rfl,rfl,hc,hb,h0,h1,h2,h3,ht⟩
def RetBool (W:World) (b:Bool) (e:Ending) (w':World):Prop:=e = .returned (.bool b) ∧ Below W.heap.size W w'
def RetTk (W:World) (k:Int) (s:ByteArray) (l c:Int) (e:Ending) (w':World):Prop:=e = .returned (.agg #[.int .i64 k,.string s,.int .i64 l,.int .i64 c]) ∧ Below W.heap.size W w'
def Blk (w:World) (b n:Nat):Prop:=∃ cs T,w.heap[b]? = some (.cells cs T (0,0)) ∧ cs.size = n
theorem Blk.set {w:World} {b n:Nat} (h:Blk w b n) (i:Nat) (u:Value):Blk (w.setCell ⟨b,i,none⟩ u) b n:=by
 obtain ⟨cs,T,h,hn⟩:=h
 exact ⟨_,T,block_setCell' h i u,by rw [Array.size_setIfInBounds,hn]⟩
theorem Blk.read {w:World} {b n:Nat} (h:Blk w b n) (i:Nat) (hi:i < n) (u:Value):(w.setCell ⟨b,i,none⟩ u).cell? ⟨b,i,none⟩ = some u:=by
 obtain ⟨cs,T,h,hn⟩:=h
 exact cell_of_block' (block_setCell' h i u) (by rw [Array.getElem?_setIfInBounds_self,if_pos (by omega)])
theorem store_six {w:World} {b:Nat} (h:Blk w b 6) (u0 u1 u2 u3 u4 u5:Value) :
 (w.setCell ⟨b,0,none⟩ u0).cell? ⟨b,0,none⟩ = some u0 ∧ ((w.setCell ⟨b,0,none⟩ u0).setCell ⟨b,1,none⟩ u1).cell? ⟨b,1,none⟩ = some u1 ∧
 (((w.setCell ⟨b,0,none⟩ u0).setCell ⟨b,1,none⟩ u1).setCell ⟨b,2,none⟩ u2).cell? ⟨b,2,none⟩ = some u2 ∧
 ((((w.setCell ⟨b,0,none⟩ u0).setCell ⟨b,1,none⟩ u1).setCell ⟨b,2,none⟩ u2).setCell ⟨b,3,none⟩ u3).cell? ⟨b,3,none⟩ = some u3 ∧
 (((((w.setCell ⟨b,0,none⟩ u0).setCell ⟨b,1,none⟩ u1).setCell ⟨b,2,none⟩ u2).setCell ⟨b,3,none⟩ u3).setCell ⟨b,4,none⟩ u4).cell? ⟨b,4,none⟩ = some u4 ∧
 ((((((w.setCell ⟨b,0,none⟩ u0).setCell ⟨b,1,none⟩ u1).setCell ⟨b,2,none⟩ u2).setCell ⟨b,3,none⟩ u3).setCell ⟨b,4,none⟩ u4).setCell ⟨b,5,none⟩ u5).cell? ⟨b,5,none⟩ = some u5 :=
 ⟨h.read 0 (by omega) _,(h.set _ _).read 1 (by omega) _,((h.set _ _).set _ _).read 2 (by omega) _,(((h.set _ _).set _ _).set _ _).read 3 (by omega) _,((((h.set _ _).set _ _).set _ _).set _ _).read 4 (by omega) _,(((((h.set _ _).set _ _).set _ _).set _ _).set _ _).read 5 (by omega) _⟩
theorem store_4 {w:World} {b:Nat} (h:Blk w b 4) (u0 u1 u2 u3:Value) :
 (w.setCell ⟨b,0,none⟩ u0).cell? ⟨b,0,none⟩ = some u0 ∧ ((w.setCell ⟨b,0,none⟩ u0).setCell ⟨b,1,none⟩ u1).cell? ⟨b,1,none⟩ = some u1 ∧
 (((w.setCell ⟨b,0,none⟩ u0).setCell ⟨b,1,none⟩ u1).setCell ⟨b,2,none⟩ u2).cell? ⟨b,2,none⟩ = some u2 ∧
 ((((w.setCell ⟨b,0,none⟩ u0).setCell ⟨b,1,none⟩ u1).setCell ⟨b,2,none⟩ u2).setCell ⟨b,3,none⟩ u3).cell? ⟨b,3,none⟩ = some u3 :=
 ⟨h.read 0 (by omega) _,(h.set _ _).read 1 (by omega) _,((h.set _ _).set _ _).read 2 (by omega) _,(((h.set _ _).set _ _).set _ _).read 3 (by omega) _⟩
theorem below_4 {B:Nat} {w x:World} {b:Nat} (h:Below B w x) (hb:B ≤ b) (u0 u1 u2 u3:Value) :
 Below B w ((((x.setCell ⟨b,0,none⟩ u0).setCell ⟨b,1,none⟩ u1).setCell ⟨b,2,none⟩ u2).setCell ⟨b,3,none⟩ u3) :=
 (((h.setCell hb _).setCell hb _).setCell hb _).setCell hb _
theorem below_pair (w:World) (o p:Obj):Below w.heap.size w ((w.alloc o).alloc p):=((Below.refl _ _).alloc (Nat.le_refl _) _).alloc (by simp) _
theorem pair_blocks {w w2:World} {o p:Obj} (hb:Below ((w.alloc o).alloc p).heap.size ((w.alloc o).alloc p) w2) :
 w2.heap[w.heap.size]? = some o ∧ w2.heap[w.heap.size + 1]? = some p ∧ Below w.heap.size w w2 ∧ w.heap.size + 1 < w2.heap.size:=by
 have hz:=hb.size
 simp only [World.size_alloc] at hz
 refine ⟨(hb.block _ (by simp; omega)).trans ((heap_alloc_old _ _ (by simp)).trans (heap_alloc_new _ _)),(hb.block _ (by simp)).trans ?_,?_,by omega⟩
 ·have:=heap_alloc_new (w.alloc o) p
  rwa [World.size_alloc] at this
 ·exact (below_pair w o p).trans (hb.mono (by simp; omega))
theorem one_block {w w2:World} {o:Obj} (hb:Below (w.alloc o).heap.size (w.alloc o) w2):w2.heap[w.heap.size]? = some o ∧ Below w.heap.size w w2 ∧ w.heap.size < w2.heap.size:=by
 have hz:=hb.size
 simp only [World.size_alloc] at hz
 exact ⟨(hb.block _ (by simp)).trans (heap_alloc_new _ _),((Below.refl _ _).alloc (Nat.le_refl _) _).trans (hb.mono (by simp)),by omega⟩
theorem undrew {w w':World} (h:Below w.drew.heap.size w.drew w'):Below w.heap.size w w':=⟨h.os,h.tape,h.output,h.size,h.block⟩
theorem block_on {w w2:World} {b:Nat} {o:Obj} (h:w.heap[b]? = some o) (hb:Below w.heap.size w w2):w2.heap[b]? = some o:=(hb.block b (Array.getElem?_eq_some_iff.1 h).1).trans h
theorem blk_of {w:World} {b n:Nat} {cs:Array Value} {T:TypeId} (h:w.heap[b]? = some (.cells cs T (0,0))) (hn:cs.size = n):Blk w b n:=⟨cs,T,h,hn⟩
end Go.Proofs.YtcofikjpplkjdaaGreatDoor
namespace Go.Proofs.YtcofikjpplkjdaaGreatDoor
open Go.RowKit CurSpec
set_option maxRecDepth 100000
theorem Toks.but {w w':World} {b off n cp B:Nat} {l:List Tk} (h:Toks w (.slice (some ⟨b,off,none⟩) n cp) l) (hb:w.grownBy w' (some B)) (hne:b ≠ B):Toks w' (.slice (some ⟨b,off,none⟩) n cp) l:=by
 obtain ⟨m,hm,A,c,heq,hc,hl,hA⟩:=h
 cases heq
 refine ⟨n,hm,_,cp,rfl,hc,hl,fun h0 => ?_⟩
 obtain ⟨b',off',h1,hlt,hcell⟩:=hA h0
 cases h1
 refine ⟨b,off,rfl,Nat.lt_of_lt_of_le hlt hb.size,fun j u hj => ?_⟩
 rw [← hcell j u hj]
 have:=hb.block b hlt (by simp; omega)
 simp [World.cell?,this]
def CurAt (w:World) (B:Nat) (c:Cur):Prop :=
 ∃ b off n cp,w.heap[B]? = some (.cells #[.slice (some ⟨b,off,none⟩) (n + 1) cp,.int .i64 c.a1,.int .i64 c.a2,.int .i64 c.bad] 105 (0,0)) ∧ b < B ∧ n = c.L.length ∧
   Toks w (.slice (some ⟨b,off,none⟩) (n + 1) cp) (full c.L c.w1 c.w2)
theorem CurAt.lt {w:World} {B:Nat} {c:Cur} (h:CurAt w B c):B < w.heap.size:=by
 obtain ⟨b,off,n,cp,h,_⟩:=h
 exact (Array.getElem?_eq_some_iff.1 h).1
theorem CurAt.keep {w w':World} {B:Nat} {c:Cur} (h:CurAt w B c) (hb:Below w.heap.size w w'):CurAt w' B c:=by
 obtain ⟨b,off,n,cp,h,hne,hn,hT⟩:=h
 exact ⟨b,off,n,cp,block_on h hb,hne,hn,hT.keep hb⟩
theorem CurAt.but {w w':World} {B B2:Nat} {c:Cur} (h:CurAt w B c) (hb:w.grownBy w' (some B2)) (hlt:B < B2):CurAt w' B c:=by
 obtain ⟨b,off,n,cp,h,hne,hn,hT⟩:=h
 exact ⟨b,off,n,cp,(hb.block _ (Array.getElem?_eq_some_iff.1 h).1 (by simp; omega)).trans h,hne,hn,hT.but hb (by omega)⟩
theorem CurAt.drew {w:World} {B:Nat} {c:Cur} (h:CurAt w B c):CurAt w.drew B c:=h
theorem CurAt.alloc {w:World} {B:Nat} {c:Cur} (h:CurAt w B c) (o:Obj):CurAt (w.alloc o) B c:=h.keep ((Below.refl _ _).alloc (Nat.le_refl _) _)
def Fl (w:World) (p:Value) (a1 a2 e:Int):Prop :=
 (p = .pointer none ∧ a1 = 0 ∧ a2 = 0 ∧ e = 10) ∨
 (∃ B,p = .pointer (some ⟨B,0,none⟩) ∧ w.heap[B]? = some (.cells #[.slice none 0 0,.int .i64 0,.int .i64 0,.int .i64 0] 105 (0,0)) ∧ a1 = 0 ∧ a2 = 0 ∧ e = 10) ∨
 (∃ B c,p = .pointer (some ⟨B,0,none⟩) ∧ CurAt w B c ∧ a1 = c.a1 ∧ a2 = c.a2 ∧ e = c.bad)
theorem Fl.keep {w w':World} {p:Value} {a1 a2 e:Int} (h:Fl w p a1 a2 e) (hb:Below w.heap.size w w'):Fl w' p a1 a2 e:=by
 rcases h with h | ⟨B,hp,h,h'⟩ | ⟨B,c,hp,h,h'⟩
 ·exact .inl h
 ·exact .inr (.inl ⟨B,hp,block_on h hb,h'⟩)
 ·exact .inr (.inr ⟨B,c,hp,h.keep hb,h'⟩)
theorem Fl.of {w:World} {B:Nat} {c:Cur} (h:CurAt w B c):Fl w (.pointer (some ⟨B,0,none⟩)) c.a1 c.a2 c.bad:=.inr (.inr ⟨B,c,rfl,h,rfl,rfl,rfl⟩)
def RetFault (W:World) (a1 a2 er:Int) (e:Ending) (w':World):Prop:=e = .returned (.tuple #[.agg #[.int .i64 a1,.int .i64 a2],.int .i64 er]) ∧ Below W.heap.size W w'
set_option maxHeartbeats 1000000 in
theorem fault_any (p:Value) (a1 a2 er:Int) (w:World) (h:Fl w p a1 a2 er):Calls Tryz.prog 27 #[p] w (RetFault w a1 a2 er):=by
 rcases h with ⟨rfl,rfl,rfl,rfl⟩ | ⟨B,rfl,h,rfl,rfl,rfl⟩ | ⟨B,c,rfl,h,rfl,rfl,rfl⟩
 ·go_enter Tryz.func27,Tryz.ntmps27
  go_wp2_with fail
  refine bodyPost_ret (v:=.tuple #[.agg #[.int .i64 0,.int .i64 0],.int .i64 10]) (by simp [results,Tryz.results27,go_sem]) rfl ⟨rfl,(Below.refl _ _).alloc (Nat.le_refl _) _⟩
 ·obtain ⟨c0,c1,c2,c3⟩:=cells_4 h
  have hlt:=(Array.getElem?_eq_some_iff.1 h).1
  clear h
  go_enter Tryz.func27,Tryz.ntmps27
  go_wp2_with fail
  refine bodyPost_ret (v:=.tuple #[.agg #[.int .i64 0,.int .i64 0],.int .i64 10]) (by simp [results,Tryz.results27,go_sem]) rfl ⟨rfl,(Below.refl _ _).alloc (Nat.le_refl _) _⟩
 ·have hlt:=h.lt
  obtain ⟨b,off,n,cp,h,_,_,_⟩:=h
  obtain ⟨c0,c1,c2,c3⟩:=cells_4 h
  have hnI:0 ≤ (n:Int):=by omega
  clear h
  go_enter Tryz.func27,Tryz.ntmps27
  go_wp2_with fail
  go_region
  all_goals
   go_wp2_with fail
   refine bodyPost_ret (v:=.tuple #[.agg #[.int .i64 c.a1,.int .i64 c.a2],.int .i64 c.bad]) (by simp [results,Tryz.results27,go_sem]) rfl ⟨rfl,((Below.refl _ _).alloc (Nat.le_refl _) _).drew⟩
theorem good_any (p:Value) (a1 a2 er:Int) (w:World) (h:Fl w p a1 a2 er) {b:Bool} (hb:(er == 0) = b):Calls Tryz.prog 61 #[p] w (RetBool w b):=by
 have HF:=Lib.hid (fun W hW => fault_any p a1 a2 er W (h.keep hW))
 have HV:=Lib.hid hb
 clear h hb
 go_enter Tryz.func61,Tryz.ntmps61
 go_wp2_with (go_at_call 27; (with_reducible refine (HF.out _ (Below.refl _ _)).mono ?_))
 rintro e x2 ⟨rfl,hb2⟩
 have HB:=Lib.hid hb2
 clear hb2
 go_wp2_with fail
 go_ret
 exact ⟨ret_bool HV.out,HB.out.alloc HB.out.size _⟩
end Go.Proofs.YtcofikjpplkjdaaGreatDoor
namespace Go.Proofs.YtcofikjpplkjdaaGreatDoor
open Go.RowKit CurSpec
set_option maxRecDepth 100000
def RetNone (W:World) (e:Ending) (w':World):Prop:=e = .returned (.tuple #[]) ∧ Below W.heap.size W w'
section
variable (p:Value) (a1 a2 er:Int) (hne:er ≠ 0) (w:World) (h:Fl w p a1 a2 er)
include hne h
theorem good_dead:Calls Tryz.prog 61 #[p] w (RetBool w false):=good_any p a1 a2 er w h (by simpa using hne)
set_option maxHeartbeats 1000000 in
theorem next_dead':Calls Tryz.prog 94 #[p] w (RetTk w 0 ⟨#[]⟩ 0 0):=by
 have HG:=Lib.hid (fun W hW => good_dead p a1 a2 er hne W (h.keep hW))
 clear h hne
 go_enter Tryz.func94,Tryz.ntmps94
 go_wp2_with (go_at_call 61; (with_reducible refine (HG.out _ ((Below.refl _ _).alloc (Nat.le_refl _) _)).mono ?_))
 rintro e x2 ⟨rfl,hb2⟩
 obtain ⟨k1,hB,hz⟩:=one_block hb2
 obtain ⟨c0,c1,c2,c3⟩:=cells_4 k1
 obtain ⟨f0,f1,f2,f3⟩:=free_4 k1
 have HK:=Lib.hid (blk_of k1 (n:=4) rfl)
 have HB:=Lib.hid hB
 clear hb2 hB k1
 go_wp2_with fail
 obtain ⟨q0,q1,q2,q3⟩:=store_4 HK.out (.int .i64 0) (.string ⟨#[]⟩) (.int .i64 0) (.int .i64 0)
 refine bodyPost_ret (v:=.agg #[.int .i64 0,.string ⟨#[]⟩,.int .i64 0,.int .i64 0]) (by simp [results,Tryz.results94,go_sem,q0,q1,q2,q3]) rfl ⟨rfl,below_4 HB.out (Nat.le_refl _) _ _ _ _⟩
set_option maxHeartbeats 1000000 in
theorem is_dead (k:Int) (s:ByteArray):Calls Tryz.prog 104 #[p,.int .i64 k,.string s] w (RetBool w false):=by
 have HG:=Lib.hid (good_dead p a1 a2 er hne w h)
 clear h hne
 go_enter Tryz.func104,Tryz.ntmps104
 go_wp2_with (go_at_call 61; (with_reducible refine HG.out.mono ?_))
 rintro e x2 ⟨rfl,hb2⟩
 have HB:=Lib.hid hb2
 clear hb2
 go_wp2_with fail
 go_ret
 exact ⟨rfl,HB.out⟩
set_option maxHeartbeats 1000000 in
theorem fail_dead' (n:Int):Calls Tryz.prog 63 #[p,.int .i64 n] w (RetNone w):=by
 have HG:=Lib.hid (good_dead p a1 a2 er hne w h)
 clear h hne
 go_enter Tryz.func63,Tryz.ntmps63
 go_wp2_with (go_at_call 61; (with_reducible refine HG.out.mono ?_))
 rintro e x2 ⟨rfl,hb2⟩
 have HB:=Lib.hid hb2
 clear hb2
 go_wp2_with fail
 go_end0
 exact ⟨rfl,HB.out⟩
end
end Go.Proofs.YtcofikjpplkjdaaGreatDoor
namespace Go.Proofs.YtcofikjpplkjdaaGreatDoor
open Go.RowKit CurSpec
theorem isB_yes {c:Cur} {k:Int} {s:ByteArray} (h0:c.bad = 0) (h1:(next c).k = k) (h2:(next c).t = s):isB c k s = true:=by simp [isB,h0,h1,h2]
theorem isB_no1 {c:Cur} {k:Int} {s:ByteArray} (h1:(next c).k ≠ k):isB c k s = false:=by simp [isB,h1]
theorem isB_no2 {c:Cur} {k:Int} {s:ByteArray} (h1:(next c).t ≠ s):isB c k s = false:=by simp [isB,h1]
end Go.Proofs.YtcofikjpplkjdaaGreatDoor
namespace Go.Proofs.YtcofikjpplkjdaaGreatDoor
open Go.RowKit CurSpec
set_option maxRecDepth 100000
theorem full_next {c:Cur} (h:c.bad = 0):∃ r,full c.L c.w1 c.w2 = next c :: r ∧ (0 < c.L.length → r = full (on c).L (on c).w1 (on c).w2):=by
 obtain ⟨L,w1,w2,a1,a2,bad⟩:=c
 obtain rfl:bad = 0:=h
 cases L with
 | nil => exact ⟨[],rfl,fun h => absurd h (by simp)⟩
 | cons t r => exact ⟨_,rfl,fun _ => rfl⟩
theorem CurAt.open {w:World} {B:Nat} {c:Cur} (h:CurAt w B c) (h0:c.bad = 0) :
 ∃ b off n cp,w.heap[B]? = some (.cells #[.slice (some ⟨b,off,none⟩) (n + 1) cp,.int .i64 c.a1,.int .i64 c.a2,.int .i64 c.bad] 105 (0,0)) ∧ b ≠ B ∧ n = c.L.length ∧ n + 1 ≤ cp ∧ b < w.heap.size ∧
   w.cell? ⟨b,off,none⟩ = some (.int .i64 (next c).k) ∧ w.cell? ⟨b,off + 1,none⟩ = some (.string (next c).t) ∧ w.cell? ⟨b,off + 2,none⟩ = some (.int .i64 (next c).l) ∧ w.cell? ⟨b,off + 3,none⟩ = some (.int .i64 (next c).c):=by
 obtain ⟨b,off,n,cp,hB,hne,hn,hT⟩:=h
 obtain ⟨r,hr,_⟩:=full_next h0
 rw [hr] at hT
 obtain ⟨b',off',m,hA,hm,hc,hlt,c0,c1,c2,c3,_⟩:=hT.cons'
 cases hA; cases hm
 exact ⟨b,off,n,cp,hB,Nat.ne_of_lt hne,hn,hc,hlt,c0,c1,c2,c3⟩
set_option maxHeartbeats 1000000 in
theorem next_live (B:Nat) (c:Cur) (w:World) (h:CurAt w B c) (h0:c.bad = 0):Calls Tryz.prog 94 #[.pointer (some ⟨B,0,none⟩)] w (RetTk w (next c).k (next c).t (next c).l (next c).c):=by
 have HG:=Lib.hid (fun W hW => good_any _ _ _ _ W ((Fl.of h).keep hW) (b:=true) (by simpa using h0))
 obtain ⟨t,ht⟩:∃ t,t = next c:=⟨_,rfl⟩
 have HC:=Lib.hid (fun W hW => (CurAt.keep (w':=W) h hW).open h0)
 rw [← ht] at HC ⊢
 clear h h0 ht
 go_enter Tryz.func94,Tryz.ntmps94
 go_wp2_with (go_at_call 61; (with_reducible refine (HG.out _ ((Below.refl _ _).alloc (Nat.le_refl _) _)).mono ?_))
 rintro e x2 ⟨rfl,hb2⟩
 obtain ⟨k1,hB,hz⟩:=one_block hb2
 obtain ⟨b,off,n,cp,hBl,hne,hn,hcp,hlt,t0,t1,t2,t3⟩:=HC.out x2 hB
 obtain ⟨c0,c1,c2,c3⟩:=cells_4 hBl
 obtain ⟨d0,d1,d2,d3⟩:=cells_4 k1
 obtain ⟨f0,f1,f2,f3⟩:=free_4 k1
 have HK:=Lib.hid (blk_of k1 (n:=4) rfl)
 have HB:=Lib.hid hB
 have hnI:0 ≤ (n:Int):=by omega
 clear hb2 hB k1 hBl hne hn hcp
 go_wp2_with fail
 obtain ⟨q0,q1,q2,q3⟩:=store_4 HK.out (.int .i64 t.k) (.string t.t) (.int .i64 t.l) (.int .i64 t.c)
 refine bodyPost_ret (v:=.agg #[.int .i64 t.k,.string t.t,.int .i64 t.l,.int .i64 t.c]) (by simp [results,Tryz.results94,go_sem,q0,q1,q2,q3]) rfl ⟨rfl,below_4 HB.out (Nat.le_refl _) _ _ _ _⟩
theorem next_at (B:Nat) (c:Cur) (w:World) (h:CurAt w B c):Calls Tryz.prog 94 #[.pointer (some ⟨B,0,none⟩)] w (RetTk w (next c).k (next c).t (next c).l (next c).c):=by
 by_cases h0:c.bad = 0
 ·exact next_live B c w h h0
 ·rw [next_dead h0]
  exact next_dead' _ _ _ _ h0 w (Fl.of h)
set_option maxHeartbeats 1000000 in
theorem is_at (B:Nat) (c:Cur) (k:Int) (s:ByteArray) (w:World) (h:CurAt w B c):Calls Tryz.prog 104 #[.pointer (some ⟨B,0,none⟩),.int .i64 k,.string s] w (RetBool w (isB c k s)):=by
 by_cases h0:c.bad = 0
 ·have HG:=Lib.hid (good_any _ _ _ _ w (Fl.of h) (b:=true) (by simpa using h0))
  have HN:=Lib.hid (fun W hW => next_at B c W (h.keep hW))
  obtain ⟨t,ht⟩:∃ t,t = next c:=⟨_,rfl⟩
  obtain ⟨b,hb⟩:∃ b,b = isB c k s:=⟨_,rfl⟩
  rw [← ht] at HN
  rw [← hb]
  clear h
  by_cases h1:t.k = k
  ·have e1:(t.k == k) = true:=by simpa using h1
   by_cases h2:t.t = s
   ·have e2:(t.t.toList == s.toList) = true:=by rw [h2]; simp
    have HV:Hid (b = true):=Lib.hid (hb.trans (isB_yes h0 (by rw [← ht]; exact h1) (by rw [← ht]; exact h2)))
    clear hb ht h0 h1 h2
    go_enter Tryz.func104,Tryz.ntmps104
    go_wp2_with (go_at_call 61; (with_reducible refine HG.out.mono ?_))
    rintro e x2 ⟨rfl,hb2⟩
    have HB:=Lib.hid hb2
    clear hb2
    go_wp2_with (go_at_call 94; (with_reducible refine (HN.out _ HB.out).mono ?_))
    rintro e x3 ⟨rfl,hb3⟩
    have HB3:=Lib.hid (below_two' HB.out hb3)
    clear hb3
    go_wp2_with fail
    go_ret
    exact ⟨ret_bool HV.out.symm,HB3.out.alloc HB3.out.size _⟩
   ·have e2:(t.t.toList == s.toList) = false:=(Lib.bytes_beq_false_iff _ _).2 h2
    have HV:Hid (b = false):=Lib.hid (hb.trans (isB_no2 (by rw [← ht]; exact h2)))
    clear hb ht h0 h1 h2
    go_enter Tryz.func104,Tryz.ntmps104
    go_wp2_with (go_at_call 61; (with_reducible refine HG.out.mono ?_))
    rintro e x2 ⟨rfl,hb2⟩
    have HB:=Lib.hid hb2
    clear hb2
    go_wp2_with (go_at_call 94; (with_reducible refine (HN.out _ HB.out).mono ?_))
    rintro e x3 ⟨rfl,hb3⟩
    have HB3:=Lib.hid (below_two' HB.out hb3)
    clear hb3
    go_wp2_with fail
    go_ret
    exact ⟨ret_bool HV.out.symm,HB3.out.alloc HB3.out.size _⟩
  ·have e1:(t.k == k) = false:=by simpa using h1
   have HV:Hid (b = false):=Lib.hid (hb.trans (isB_no1 (by rw [← ht]; exact h1)))
   clear hb ht h0 h1
   go_enter Tryz.func104,Tryz.ntmps104
   go_wp2_with (go_at_call 61; (with_reducible refine HG.out.mono ?_))
   rintro e x2 ⟨rfl,hb2⟩
   have HB:=Lib.hid hb2
   clear hb2
   go_wp2_with (go_at_call 94; (with_reducible refine (HN.out _ HB.out).mono ?_))
   rintro e x3 ⟨rfl,hb3⟩
   have HB3:=Lib.hid (below_two' HB.out hb3)
   clear hb3
   go_wp2_with fail
   go_ret
   exact ⟨ret_bool HV.out.symm,HB3.out.alloc HB3.out.size _⟩
 ·rw [isB_dead k s h0]
  exact is_dead _ _ _ _ h0 w (Fl.of h) k s
def RetAt (W:World) (B:Nat) (c:Cur) (e:Ending) (w':World):Prop:=e = .returned (.tuple #[]) ∧ CurAt w' B c ∧ W.grownBy w' (some B)
theorem but_below {w w':World} {B:Nat} (h:Below w.heap.size w w'):w.grownBy w' (some B):=⟨h.os,h.tape,h.output,h.size,fun i hi _ => h.block i hi⟩
set_option maxHeartbeats 1000000 in
theorem pass_at (B:Nat) (c:Cur) (w:World) (h:CurAt w B c):Calls Tryz.prog 95 #[.pointer (some ⟨B,0,none⟩)] w (RetAt w B (on c)):=by
 have HC:=Lib.hid h
 obtain ⟨b,off,n,cp,hBl,hne,hn,hT⟩:=h
 rcases Nat.eq_zero_or_pos n with hz | hp
 ·obtain rfl:n = 0:=hz
  have HO:Hid (on c = c):=Lib.hid (on_nil hn.symm)
  obtain ⟨c0,c1,c2,c3⟩:=cells_4 hBl
  clear hBl hne hn hT
  go_enter Tryz.func95,Tryz.ntmps95
  go_wp2_with fail
  go_end0
  exact ⟨rfl,by rw [HO.out]; exact HC.out,but_refl _ _⟩
 ·obtain ⟨m,rfl⟩:∃ m,n = m + 1:=⟨n - 1,by omega⟩
  have hf:full c.L c.w1 c.w2 = (full c.L c.w1 c.w2).headD tz :: full (on c).L (on c).w1 (on c).w2:=on_full (by omega)
  rw [hf] at hT
  obtain ⟨b',off',m',hA,hm,hcp,hlt,_,_,_,_,hr⟩:=hT.cons'
  cases hA; cases hm
  rw [if_neg (by omega)] at hr
  obtain ⟨c0,c1,c2,c3⟩:=cells_4 hBl
  obtain ⟨f0,f1,f2,f3⟩:=free_4 hBl
  have hcI:1 < cp:=by omega
  have hb:=on_bad c
  have HR:Hid (CurAt (w.setCell ⟨B,0,none⟩ (.slice (some ⟨b,off + 4,none⟩) (m + 1) (cp - 1))) B (on c)):=Lib.hid (by
   refine ⟨b,off + 4,m,cp - 1,?_,hne,by rw [on_len]; omega,hr.but (but_set (but_refl _ _) 0 _) (Nat.ne_of_lt hne)⟩
   have:=block_setCell' hBl 0 (.slice (some ⟨b,off + 4,none⟩) (m + 1) (cp - 1))
   rw [hb.1,hb.2.1,hb.2.2]
   exact this)
  have hnI:0 ≤ (m:Int):=by omega
  clear hBl hne hn hT hr hf hb hlt
  go_enter Tryz.func95,Tryz.ntmps95
  go_wp2_with fail
  go_end0
  exact ⟨rfl,HR.out,but_set (but_refl _ _) 0 _⟩
theorem CurAt.fault {w:World} {B:Nat} {c:Cur} (h:CurAt w B c) (l cc er:Int) :
 CurAt (((w.setCell ⟨B,1,none⟩ (.int .i64 l)).setCell ⟨B,2,none⟩ (.int .i64 cc)).setCell ⟨B,3,none⟩ (.int .i64 er)) B ⟨c.L,c.w1,c.w2,l,cc,er⟩:=by
 obtain ⟨b,off,n,cp,hBl,hne,hn,hT⟩:=h
 refine ⟨b,off,n,cp,?_,hne,hn,hT.but (but_set (but_set (but_set (but_refl _ _) 1 _) 2 _) 3 _) (Nat.ne_of_lt hne)⟩
 exact block_setCell' (block_setCell' (block_setCell' hBl 1 (.int .i64 l)) 2 (.int .i64 cc)) 3 (.int .i64 er)
set_option maxHeartbeats 1000000 in
theorem fail_at (B:Nat) (c:Cur) (er:Int) (w:World) (h:CurAt w B c):Calls Tryz.prog 63 #[.pointer (some ⟨B,0,none⟩),.int .i64 er] w (RetAt w B (fail c er)):=by
 by_cases h0:c.bad = 0
 ·have HG:=Lib.hid (good_any _ _ _ _ w (Fl.of h) (b:=true) (by simpa using h0))
  have HC:=Lib.hid h
  by_cases he:er = 0
  ·have e1:(er != 0) = false:=by simpa using he
   have HF:Hid (fail c er = c):=Lib.hid (by rw [he]; exact fail_zero c)
   clear h he h0
   go_enter Tryz.func63,Tryz.ntmps63
   go_wp2_with (go_at_call 61; (with_reducible refine HG.out.mono ?_))
   rintro e x2 ⟨rfl,hb2⟩
   have HB:=Lib.hid hb2
   clear hb2
   go_wp2_with fail
   go_end0
   exact ⟨rfl,by rw [HF.out]; exact HC.out.keep HB.out,but_below HB.out⟩
  ·have e1:(er != 0) = true:=by simpa using he
   obtain ⟨t,ht⟩:∃ t,t = next c:=⟨_,rfl⟩
   have HF:Hid (fail c er = ⟨c.L,c.w1,c.w2,t.l,t.c,er⟩):=Lib.hid (by rw [fail_yes h0 he,ht])
   have HO:=Lib.hid (fun W hW => (CurAt.keep (w':=W) h hW).open h0)
   rw [← ht] at HO
   clear h he h0 ht
   go_enter Tryz.func63,Tryz.ntmps63
   go_wp2_with (go_at_call 61; (with_reducible refine HG.out.mono ?_))
   rintro e x2 ⟨rfl,hb2⟩
   have HB:=Lib.hid hb2
   obtain ⟨b,off,n,cp,hBl,hne,hn,hcp,hlt,t0,t1,t2,t3⟩:=HO.out x2 hb2
   obtain ⟨c0,c1,c2,c3⟩:=cells_4 hBl
   obtain ⟨f0,f1,f2,f3⟩:=free_4 hBl
   have hnI:0 ≤ (n:Int):=by omega
   clear hb2 hBl hn hcp
   go_wp2_with fail
   go_end0
   refine ⟨rfl,?_,but_set (but_set (but_set (but_below HB.out) 1 _) 2 _) 3 _⟩
   rw [HF.out]
   exact (HC.out.keep HB.out).fault t.l t.c er
 ·rw [fail_dead er h0]
  refine (fail_dead' _ _ _ _ h0 w (Fl.of h) er).mono ?_
  rintro e w' ⟨he,hb⟩
  exact ⟨he,h.keep hb,but_below hb⟩
end Go.Proofs.YtcofikjpplkjdaaGreatDoor
namespace Go.Proofs.YtcofikjpplkjdaaGreatDoor
open Go.RowKit CurSpec
end Go.Proofs.YtcofikjpplkjdaaGreatDoor