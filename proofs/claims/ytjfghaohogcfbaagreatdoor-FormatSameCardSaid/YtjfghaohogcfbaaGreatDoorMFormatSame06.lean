/- ExprSigns, TermEnd, TermRefEnd, RowI, TermBelow, ValPut, joined. -/
import Derived.Test.YtjfghaohogcfbaaGreatDoorMFormatSame05
import Derived.Laws.Rows
import Derived.Deep.RegionLaw
import Derived.Test.YtjfghaohogcfbaaGreatDoorRows
import Derived.Test.YtjfghaohogcfbaaGreatDoorMFormatSame02
import Derived.Test.YtjfghaohogcfbaaGreatDoorMFormatSame04
namespace Go.Proofs.YtjfghaohogcfbaaGreatDoor
open Go.RowKit CurSpec TermSpec ExprSpec
set_option maxRecDepth 100000
def sgC (s:Sg):List Value:=[.string s.t,.int .i64 s.op,.int .i64 s.lev,.int .i64 s.left,.int .i64 s.right]
abbrev sgA (s:Sg):Value:=.agg #[.string s.t,.int .i64 s.op,.int .i64 s.lev,.int .i64 s.left,.int .i64 s.right]
def sgZ:Sg:=⟨⟨#[]⟩,0,0,0,0⟩
def signsV:Array Value:=(sgs.flatMap sgC).toArray
def SignsIn (w:World):Prop:=∃ T fr,w.heap[2]? = some (.cells signsV T fr)
theorem SignsIn.pos {w:World} (h:SignsIn w):2 < w.heap.size:=by
 obtain ⟨T,fr,h⟩:=h
 exact (Array.getElem?_eq_some_iff.1 h).1
theorem SignsIn.of {w w':World} (h:SignsIn w) (hb:w'.heap[2]? = w.heap[2]?):SignsIn w':=by
 obtain ⟨T,fr,h⟩:=h
 exact ⟨T,fr,hb.trans h⟩
theorem SignsIn.keep {w w':World} (h:SignsIn w) (hb:Below w.heap.size w w'):SignsIn w':=h.of (hb.block _ h.pos)
theorem SignsIn.alloc {w:World} (h:SignsIn w) (o:Obj):SignsIn (w.alloc o):=h.keep ((Below.refl _ _).alloc (Nat.le_refl _) _)
theorem signs_size:(Tryz.prog.info? 241).map (·.size) = some signsV.size:=by kernel_rfl
theorem signs_index:∀ (j:Nat) (s:Sg),sgs[j]? = some s → ∀ w,(Instr.index 241 (.agg signsV) (.int .i64 j)).run Tryz.prog w = .ok (sgA s) w
 | 0,s,h,w => by cases h; kernel_rfl
 | 1,s,h,w => by cases h; kernel_rfl
 | 2,s,h,w => by cases h; kernel_rfl
 | 3,s,h,w => by cases h; kernel_rfl
 | 4,s,h,w => by cases h; kernel_rfl
 | 5,s,h,w => by cases h; kernel_rfl
 | 6,s,h,w => by cases h; kernel_rfl
 | 7,s,h,w => by cases h; kernel_rfl
 | 8,s,h,w => by cases h; kernel_rfl
 | 9,s,h,w => by cases h; kernel_rfl
 | 10,s,h,w => by cases h; kernel_rfl
 | j + 11,s,h,w => by cases h
theorem sgs_len:sgs.length = 11:=rfl
theorem cells_5 {w:World} {b:Nat} {T:TypeId} {x0 x1 x2 x3 x4:Value} (h:w.heap[b]? = some (.cells #[x0,x1,x2,x3,x4] T (0,0))):w.cell? ⟨b,0,none⟩ = some x0 ∧ w.cell? ⟨b,1,none⟩ = some x1 ∧ w.cell? ⟨b,2,none⟩ = some x2 ∧ w.cell? ⟨b,3,none⟩ = some x3 ∧ w.cell? ⟨b,4,none⟩ = some x4 :=
 ⟨cell_of_block' h (i:=0) rfl,cell_of_block' h (i:=1) rfl,cell_of_block' h (i:=2) rfl,cell_of_block' h (i:=3) rfl,cell_of_block' h (i:=4) rfl⟩
theorem free_5 {w:World} {b:Nat} {T:TypeId} {cs:Array Value} (h:w.heap[b]? = some (.cells cs T (0,0))):w.frozen? ⟨b,0,none⟩ = false ∧ w.frozen? ⟨b,1,none⟩ = false ∧ w.frozen? ⟨b,2,none⟩ = false ∧ w.frozen? ⟨b,3,none⟩ = false ∧ w.frozen? ⟨b,4,none⟩ = false :=
 ⟨free_of_block' h 0,free_of_block' h 1,free_of_block' h 2,free_of_block' h 3,free_of_block' h 4⟩
theorem store_five {w:World} {b:Nat} (h:Blk w b 5) (u0 u1 u2 u3 u4:Value) :
 (w.setCell ⟨b,0,none⟩ u0).cell? ⟨b,0,none⟩ = some u0 ∧ ((w.setCell ⟨b,0,none⟩ u0).setCell ⟨b,1,none⟩ u1).cell? ⟨b,1,none⟩ = some u1 ∧
 (((w.setCell ⟨b,0,none⟩ u0).setCell ⟨b,1,none⟩ u1).setCell ⟨b,2,none⟩ u2).cell? ⟨b,2,none⟩ = some u2 ∧
 ((((w.setCell ⟨b,0,none⟩ u0).setCell ⟨b,1,none⟩ u1).setCell ⟨b,2,none⟩ u2).setCell ⟨b,3,none⟩ u3).cell? ⟨b,3,none⟩ = some u3 ∧
 (((((w.setCell ⟨b,0,none⟩ u0).setCell ⟨b,1,none⟩ u1).setCell ⟨b,2,none⟩ u2).setCell ⟨b,3,none⟩ u3).setCell ⟨b,4,none⟩ u4).cell? ⟨b,4,none⟩ = some u4 :=
 ⟨h.read 0 (by omega) _,(h.set _ _).read 1 (by omega) _,((h.set _ _).set _ _).read 2 (by omega) _,(((h.set _ _).set _ _).set _ _).read 3 (by omega) _,((((h.set _ _).set _ _).set _ _).set _ _).read 4 (by omega) _⟩
theorem below_5 {B:Nat} {w x:World} {b:Nat} (h:Below B w x) (hb:B ≤ b) (u0 u1 u2 u3 u4:Value) :
 Below B w (((((x.setCell ⟨b,0,none⟩ u0).setCell ⟨b,1,none⟩ u1).setCell ⟨b,2,none⟩ u2).setCell ⟨b,3,none⟩ u3).setCell ⟨b,4,none⟩ u4) :=
 ((((h.setCell hb _).setCell hb _).setCell hb _).setCell hb _).setCell hb _
def SgRel (W:World) (o:Int) (i:Value) (wr:World):Prop:=∃ j:Nat,j ≤ 11 ∧ i = .int .i64 j ∧ (∀ y ∈ sgs.take j,y.op ≠ o) ∧ Below W.heap.size W wr
def opSg (o:Int):Sg:=(sgs.find? fun s => decide (s.op = o)).getD sgZ
theorem opSg_hit {o:Int} {j:Nat} {s:Sg} (hs:sgs[j]? = some s) (h:∀ y ∈ sgs.take j,y.op ≠ o) (he:s.op = o):opSg o = s:=by
 have hl:=(List.getElem?_eq_some_iff.1 hs).1
 have e:sgs = sgs.take j ++ s :: sgs.drop (j + 1):=by
  have h2:sgs.drop j = s :: sgs.drop (j + 1):=by rw [List.drop_eq_getElem_cons hl]; congr 1; exact (List.getElem?_eq_some_iff.1 hs).2
  rw [← h2,List.take_append_drop]
 unfold opSg
 rw [e,List.find?_append]
 have:(sgs.take j).find? (fun s => decide (s.op = o)) = none:=by
  rw [List.find?_eq_none]
  intro y hy
  simpa using h y hy
 rw [this]
 simp [he]
theorem opSg_none {o:Int} (h:∀ y ∈ sgs.take 11,y.op ≠ o):opSg o = sgZ:=by
 unfold opSg
 have:sgs.find? (fun s => decide (s.op = o)) = none:=by
  rw [List.find?_eq_none]
  intro y hy
  have:sgs.take 11 = sgs:=rfl
  rw [this] at h
  simpa using h y hy
 rw [this]
 rfl
def RetSign (W:World) (s:Sg) (e:Ending) (w':World):Prop:=e = .returned (sgA s) ∧ Below W.heap.size W w'
abbrev sgO (s:Sg):Obj:=.cells #[.string s.t,.int .i64 s.op,.int .i64 s.lev,.int .i64 s.left,.int .i64 s.right] 233
theorem sg_below' {w wr:World} {o:Obj} (h:Below (w.alloc o).heap.size (w.alloc o) wr):Below w.heap.size w wr :=
 ((Below.refl _ _).alloc (Nat.le_refl _) _).trans (h.mono (by simp))
theorem sg_below {w wr:World} {o:Obj} (h:Below (w.alloc o).heap.size (w.alloc o) wr) (p:Obj):Below w.heap.size w (wr.alloc p) :=
 (sg_below' h).alloc (sg_below' h).size _
theorem sg_next {o:Int} {j:Nat} {s:Sg} (h:∀ y ∈ sgs.take j,y.op ≠ o) (hs:sgs[j]? = some s) (hne:s.op ≠ o):∀ y ∈ sgs.take (j + 1),y.op ≠ o:=by
 intro y hy
 rw [take_next hs,List.mem_append,List.mem_singleton] at hy
 rcases hy with hy | rfl
 ·exact h y hy
 ·exact hne
set_option maxHeartbeats 4000000 in
theorem signOf_any (o:Int) (w:World) (hs:SignsIn w):Calls Tryz.prog 202 #[.int .i64 o] w (RetSign w (opSg o)):=by
 have hi:=signs_size
 have hix:=signs_index
 obtain ⟨SV,hSV⟩:∃ SV,SV = signsV:=⟨_,rfl⟩
 unfold SignsIn at hs
 rw [← hSV] at hi hix hs
 obtain ⟨T,fr,hg0⟩:=hs
 have hg:=(heap_alloc_old w (.cells #[.string ⟨#[]⟩,.int .i64 0,.int .i64 0,.int .i64 0,.int .i64 0] 233) (Array.getElem?_eq_some_iff.1 hg0).1).trans hg0
 have HIX:=Lib.hid hix
 clear hix hSV hg0
 have k0:=heap_alloc_new w (.cells #[.string ⟨#[]⟩,.int .i64 0,.int .i64 0,.int .i64 0,.int .i64 0] 233)
 have HK0:=Lib.hid k0
 clear k0
 go_enter Tryz.func202,Tryz.ntmps202
 go_wp2_with (refine wpList_load_row rfl 241 _ rfl 2 rfl T SV fr _ hg Tryz.underlying241 rfl hi ?_)
 clear hg hi
 go_loopw [4,6] (fun _ i wr => SgRel (w.alloc (.cells #[.string ⟨#[]⟩,.int .i64 0,.int .i64 0,.int .i64 0,.int .i64 0] 233)) o i wr) (fun _ i _ => 11 - (intOf i).toNat)
 case atStart => exact ⟨0,by omega,rfl,by simp,Below.refl _ _⟩
 case round =>
  obtain ⟨j,hj,rfl,hno,hbw⟩:=hrel
  have HN:=Lib.hid hno
  have HB:=Lib.hid hbw
  have hz:=hbw.size
  rw [World.size_alloc] at hz
  have hlt0:w.heap.size < wr.heap.size:=by omega
  have k0:=block_on HK0.out hbw
  have HK:=Lib.hid k0
  have HZ:=Lib.hid hlt0
  clear hno hbw k0 hz
  by_cases hlt:j < 11
  ·obtain ⟨s,hs⟩:∃ s,sgs[j]? = some s:=get_some (by rw [sgs_len]; exact hlt)
   have hx:=HIX.out j s hs
   have HS:=Lib.hid hs
   have k1:=(heap_alloc_old wr (sgO s) hlt0).trans HK.out
   have HK1:=Lib.hid (blk_of k1 (n:=5) rfl)
   clear hs hlt0
   by_cases ho:s.op = o
   ·have e1:(s.op == o) = true:=by simpa using ho
    have HO:=Lib.hid (opSg_hit HS.out HN.out ho)
    obtain ⟨f0,f1,f2,f3,f4⟩:=free_5 k1
    obtain ⟨d0,d1,d2,d3,d4⟩:=cells_5 k1
    clear ho k1
    go_wp2_with fail
    obtain ⟨q0,q1,q2,q3,q4⟩:=store_five HK1.out (.string s.t) (.int .i64 s.op) (.int .i64 s.lev) (.int .i64 s.left) (.int .i64 s.right)
    refine bodyPost_ret (v:=sgA s) (by simp [results,Tryz.results202,go_sem,q0,q1,q2,q3,q4]) rfl ?_
    rw [HO.out]
    exact ⟨rfl,below_5 (sg_below HB.out (sgO s)) (Nat.le_refl _) _ _ _ _ _⟩
   ·have e1:(s.op == o) = false:=by simpa using ho
    have HO:=Lib.hid ho
    clear ho k1
    go_wp2_with fail
    go_roundw
    case rel => exact ⟨j + 1,hlt,by simp,sg_next HN.out HS.out HO.out,HB.out.alloc HB.out.size _⟩
    case measure => simp [intOf]; omega
  ·obtain rfl:j = 11:=by omega
   have HO:=Lib.hid (opSg_none HN.out)
   obtain ⟨f0,f1,f2,f3,f4⟩:=free_5 HK.out
   obtain ⟨d0,d1,d2,d3,d4⟩:=cells_5 HK.out
   have HK1:=Lib.hid (blk_of HK.out (n:=5) rfl)
   go_wp2_with fail
   obtain ⟨q0,q1,q2,q3,q4⟩:=store_five HK1.out (.string ⟨#[]⟩) (.int .i64 0) (.int .i64 0) (.int .i64 0) (.int .i64 0)
   refine bodyPost_ret (v:=sgA sgZ) (by simp [results,Tryz.results202,go_sem,q0,q1,q2,q3,q4,sgZ]) rfl ?_
   rw [HO.out]
   exact ⟨rfl,below_5 (sg_below' HB.out) (Nat.le_refl _) _ _ _ _ _⟩
end Go.Proofs.YtjfghaohogcfbaaGreatDoor
namespace Go.Proofs.YtjfghaohogcfbaaGreatDoor
open Go.RowKit TermSpec
set_option maxRecDepth 100000
def EndRel (l:List Tm) (n:Nat) (r:Int) (a o:Value):Prop:=∃ (j k:Nat),j ≤ n ∧ a = .int .i64 j ∧ o = .int .i64 k ∧ k ≤ j + 1 ∧ fin k (l.drop j) j = r
theorem endRel_next {l:List Tm} {n j k:Nat} {r:Int} {t:Tm} (hj:j < n) (ht:l[j]? = some t) (h0:0 ≤ ar t.op) (hk:k + 1 ≤ j + 1) (h:fin (k + 1) (l.drop j) j = r) (o:Int) (ho:o = (k + 1:Nat) + (ar t.op - 1)):EndRel l n r (.int .i64 ((j:Int) + 1)) (.int .i64 o):=by
 have h2:=(ar_bd t.op).2
 have e:=arN_of h0
 refine ⟨j + 1,k + arN t.op,by omega,by simp,?_,by omega,?_⟩
 ·congr 1; omega
 ·rw [drop_get ht,fin_cons,if_neg (by omega)] at h
  exact h
theorem fin_stop {l:List Tm} {j k:Nat} {r:Int} {t:Tm} (ht:l[j]? = some t) (h0:ar t.op < 0) (h:fin (k + 1) (l.drop j) j = r):-1 = r:=by
 rw [drop_get ht,fin_cons,if_pos h0] at h
 exact h
theorem fin_out {l:List Tm} {j k:Nat} {r:Int} (hj:l.length ≤ j) (h:fin (k + 1) (l.drop j) j = r):-1 = r:=by
 rw [List.drop_eq_nil_of_le hj] at h
 exact h
set_option maxHeartbeats 1000000 in
theorem end_nat (A:Option Addr) (n c:Nat) (l:List Tm) (a:Nat) (w:World) (h:Tms w (.slice A n c) l) (hn:n = l.length) (hn62:n ≤ 4611686018427387903) (ha:a ≤ n) :
 Calls Tryz.prog 207 #[.slice A n c,.int .i64 a] w (SameI w (endA l a)):=by
 have HT:=Lib.hid h
 have HN:=Lib.hid hn
 have HA:=Lib.hid (endA_nat l a)
 obtain ⟨r,hr⟩:∃ r,r = endA l a:=⟨_,rfl⟩
 rw [← hr] at HA ⊢
 clear h hn hr
 go_enter Tryz.func207,Tryz.ntmps207
 go_wp2_with fail
 go_loop [1,5] (fun a o => EndRel l n r a o) (fun a _ => n - (intOf a).toNat)
 case atStart => exact ⟨a,1,ha,rfl,rfl,by omega,HA.out.symm⟩
 case round =>
  obtain ⟨j,k,hj,rfl,rfl,hk,hf⟩:=hrel
  have HF:=Lib.hid hf
  clear hf
  rcases Nat.eq_zero_or_pos k with hk0 | hk0
  ·subst hk0
   go_wp2_with fail
   go_ret
   exact ⟨ret_int (by rw [← HF.out,fin_zero]),rfl⟩
  ·obtain ⟨k,rfl⟩:∃ k',k = k' + 1:=⟨k - 1,by omega⟩
   have hk1:(0:Int) < ((k + 1:Nat):Int):=by omega
   by_cases hlt:j < n
   ·obtain ⟨t,ht⟩:∃ t,l[j]? = some t:=get_some (by rw [← HN.out]; exact hlt)
    obtain ⟨b,off,rfl,hb,c0,-,-⟩:=HT.out.at_ ht
    have hltI:(j:Int) < (n:Int):=by omega
    have HX:=Lib.hid ht
    have HC:=Lib.hid (arity_any t.op)
    obtain ⟨h1,h2⟩:=ar_bd t.op
    have HR:=Lib.hid (fun h0 => endRel_next (n:=n) (r:=r) hlt ht h0 hk HF.out)
    have HS:=Lib.hid (fun h0 => fin_stop ht h0 HF.out)
    obtain ⟨o,ho⟩:∃ o,o = t.op:=⟨_,rfl⟩
    rw [← ho] at HC h1 h2 c0 HR HS
    obtain ⟨q,hq⟩:∃ q,q = ar o:=⟨_,rfl⟩
    rw [← hq] at HC h1 h2 HR HS
    clear ht ho hq
    by_cases h0:q < 0
    ·go_wp2_with (go_at_call 209; (with_reducible refine (HC.out _).mono ?_); rintro e w' ⟨rfl,rfl⟩)
     go_ret
     exact ⟨ret_int (HS.out h0),rfl⟩
    ·have h0':0 ≤ q:=by omega
     go_wp2_with (go_at_call 209; (with_reducible refine (HC.out _).mono ?_); rintro e w' ⟨rfl,rfl⟩)
     go_round
     case rel => exact HR.out h0' _ (by simp)
     case measure => simp [intOf]; omega
   ·go_wp2_with fail
    go_ret
    exact ⟨ret_int (fin_out (by rw [← HN.out]; omega) HF.out),rfl⟩
theorem end_far (A:Option Addr) (n c:Nat) (l:List Tm) (a:Int) (w:World) (hn:n = l.length) (ha:(n:Int) < a) :
 Calls Tryz.prog 207 #[.slice A n c,.int .i64 a] w (SameI w (endA l a)):=by
 have HE:=Lib.hid (endA_out (l:=l) (a:=a) (by omega))
 have h0:¬ a < 0:=by omega
 have h1:(n:Int) ≤ a:=by omega
 clear hn
 go_enter Tryz.func207,Tryz.ntmps207
 go_wp2_with fail
 go_loop [1,5] (fun v o => v = .int .i64 a ∧ o = .int .i64 1) (fun _ _ => 0)
 case atStart => exact ⟨rfl,rfl⟩
 case round =>
  obtain ⟨rfl,rfl⟩:=hrel
  go_wp2_with fail
  go_ret
  exact ⟨ret_int HE.out.symm,rfl⟩
theorem end_any (A:Option Addr) (n c:Nat) (l:List Tm) (a:Int) (w:World) (h:Tms w (.slice A n c) l) (hn:n = l.length) (hn62:n ≤ 4611686018427387903) :
 Calls Tryz.prog 207 #[.slice A n c,.int .i64 a] w (SameI w (endA l a)):=by
 by_cases h0:a < 0
 ·have HE:=Lib.hid (endA_neg (l:=l) h0)
  clear hn h
  go_enter Tryz.func207,Tryz.ntmps207
  go_wp2_with fail
  go_ret
  exact ⟨ret_int HE.out.symm,rfl⟩
 ·by_cases h1:(n:Int) < a
  ·exact end_far A n c l a w hn h1
  ·obtain ⟨k,rfl⟩:=Int.eq_ofNat_of_zero_le (Int.not_lt.1 h0)
   exact end_nat A n c l k w h hn hn62 (by omega)
end Go.Proofs.YtjfghaohogcfbaaGreatDoor
namespace Go.Proofs.YtjfghaohogcfbaaGreatDoor
open Go.RowKit TermSpec
set_option maxRecDepth 100000
end Go.Proofs.YtjfghaohogcfbaaGreatDoor
namespace Go.Proofs.YtjfghaohogcfbaaGreatDoor
open Go.RowKit NamesSpec
set_option maxRecDepth 100000
theorem inf_int:(Tryz.prog.info? 3).map (fun i => (i.zero,i.size,i.bytes)) = some (some (.int .i64 0),1,8):=by kernel_rfl
def RowI (W wr:World) (p:Value) (xs:List Int):Prop:=wr.ownsRow W.heap.size 3 1 p xs.length (intV xs) ∧ Below W.heap.size W wr
theorem RowI.nil (W wr:World) (hb:Below W.heap.size W wr):RowI W wr (.slice none 0 0) []:=⟨World.ownsRow_nil _ _ _ _,hb⟩
theorem RowI.keep {W w w':World} {p:Value} {xs:List Int} (h:RowI W w p xs) (hb:Below w.heap.size w w'):RowI W w' p xs:=⟨own_keep h.1 hb,below_two' h.2 hb⟩
theorem RowI.addL {W wr w2:World} {p p':Value} {xs ys:List Int} {o:Obj} (h:RowI W wr p xs) (hrow:w2.ownsRow W.heap.size 3 1 p' (xs.length + (intV ys).length) (intV xs ++ intV ys)) (hg:(wr.alloc o).grownBy w2 p.ownBlock):RowI W w2 p' (xs ++ ys):=by
 refine ⟨?_,(h.2.alloc h.2.size o).grown hg (by have:=h.2.size; simp; omega) (fun j hj => (own_block_bd h.1 j hj).1)⟩
 rw [← intV_append,List.length_append,← intV_length ys]
 exact hrow
theorem RowI.add {W wr w2:World} {p p':Value} {xs:List Int} {x:Int} {o:Obj} (h:RowI W wr p xs) (hrow:w2.ownsRow W.heap.size 3 1 p' (xs.length + (intV [x]).length) (intV xs ++ intV [x])) (hg:(wr.alloc o).grownBy w2 p.ownBlock):RowI W w2 p' (xs ++ [x]):=h.addL hrow hg
theorem RowI.read {W wr:World} {p:Value} {xs:List Int} (h:RowI W wr p xs):Rd wr p (intV xs):=Rd.own h.1
theorem RowI.ret {W wr:World} {p:Value} {xs:List Int} (h:RowI W wr p xs):RetInts W xs (.returned p) wr:=⟨p,rfl,h.read,h.2⟩
end Go.Proofs.YtjfghaohogcfbaaGreatDoor
namespace Go.Proofs.YtjfghaohogcfbaaGreatDoor
open Go.RowKit TermSpec
set_option maxRecDepth 100000
theorem below_next {l:List Tm} {a k q m:Nat} (h:cnt q (l.drop (a + 1)) = some m) (hk:k < q) :
 endA l ((a + 1 + (cnt k (l.drop (a + 1))).getD 0:Nat):Int) = (a + 1 + (cnt (k + 1) (l.drop (a + 1))).getD 0:Nat) ∧ a + 1 + (cnt (k + 1) (l.drop (a + 1))).getD 0 ≤ max l.length (a + 1):=by
 rw [show q = (k + 1) + (q - (k + 1)) by omega] at h
 obtain ⟨x,_,hx,_,_⟩:=cnt_split h
 obtain ⟨y,z,hy,hz,rfl⟩:=cnt_split hx
 rw [hy,hx]
 rw [List.drop_drop] at hz
 have:=(cnt_le hx).1
 rw [List.length_drop] at this
 refine ⟨?_,by simp only [Option.getD_some]; omega⟩
 rw [show (some y).getD 0 = y from rfl,endA_some hz]
 simp only [Option.getD_some]
 omega
def BelRel (W:World) (l:List Tm) (a q:Nat) (p v i:Value) (wr:World):Prop :=
 ∃ k:Nat,k ≤ q ∧ i = .int .i64 k ∧ v = .int .i64 (a + 1 + (cnt k (l.drop (a + 1))).getD 0:Nat) ∧ RowI W wr p (belows l a k)
set_option maxHeartbeats 2000000 in
theorem below_yes (A:Option Addr) (n c:Nat) (l:List Tm) (a:Nat) (w:World) (h:Tms w (.slice A n c) l) (hn:n = l.length) (hn62:n ≤ 70368744177664) (t:Tm) (ht:l[a]? = some t) (he:0 ≤ endA l a) :
 Calls Tryz.prog 200 #[.slice A n c,.int .i64 a] w (RetInts w (belows l a (arN t.op))):=by
 obtain ⟨k0,m0,hk0,hc0,_,_,_⟩:=endA_nn he
 obtain rfl:k0 = a:=by omega
 obtain ⟨t',m,ht',h0,_,hm⟩:=first_of hc0
 rw [ht] at ht'
 cases ht'
 have han:=get_lt ht
 have e0:=arN_of h0
 have HT:=Lib.hid h
 have HN:=Lib.hid hn
 have HM:=Lib.hid hm
 obtain ⟨b,off,rfl,hb,c0,-,-⟩:=h.at_ ht
 have HC:=Lib.hid (arity_any t.op)
 have HEE:=Lib.hid (fun (a:Int) w h => end_any (some ⟨b,off,none⟩) n c l a w h hn (by omega))
 have hE:=HEE.out k0 w h
 obtain ⟨r,hr⟩:∃ r,r = endA l k0:=⟨_,rfl⟩
 rw [← hr] at hE he
 have HE:=Lib.hid hE
 obtain ⟨o,ho⟩:∃ o,o = t.op:=⟨_,rfl⟩
 rw [← ho] at HC c0 e0 h0 HM ⊢
 have hq:=(ar_bd o).2
 obtain ⟨q,hqe⟩:∃ q,q = arN o:=⟨_,rfl⟩
 rw [← hqe] at e0 HM ⊢
 rw [← e0] at HC hq
 have hq2:q ≤ 2:=by omega
 have hal:k0 < n:=by omega
 have hal':(k0:Int) < n:=by omega
 obtain ⟨i0,hi,hz0,hz1,hz2⟩:=info_parts inf_int
 have HI:=Lib.hid (And.intro hi (And.intro hz0 (And.intro hz1 hz2)))
 clear ht ho hqe hn h hc0 hk0 hm hr hE h0 e0 han hi hz0 hz1 hz2 hq
 go_enter Tryz.func200,Tryz.ntmps200
 go_wp2_with (first
  | (go_at_call 207; (with_reducible refine HE.out.mono ?_); rintro e w' ⟨rfl,rfl⟩)
  | (go_at_call 209; (with_reducible refine (HC.out _).mono ?_); rintro e w' ⟨rfl,rfl⟩))
 go_loopw [5,6,19] (fun p v i wr => BelRel w l k0 q p v i wr) (fun _ _ i _ => 3 - (intOf i).toNat)
 case atStart => exact ⟨0,Nat.zero_le _,rfl,by rw [cnt_zero]; simp,RowI.nil _ _ (Below.refl _ _)⟩
 case round =>
  obtain ⟨k,hk,rfl,rfl,hrow⟩:=hrel
  have HR:=Lib.hid hrow
  by_cases hlt:k < q
  ·obtain ⟨hx,hx2⟩:=below_next HM.out hlt
   obtain ⟨y,hy⟩:∃ y,y = k0 + 1 + (cnt k (l.drop (k0 + 1))).getD 0:=⟨_,rfl⟩
   obtain ⟨z,hz⟩:∃ z,z = k0 + 1 + (cnt (k + 1) (l.drop (k0 + 1))).getD 0:=⟨_,rfl⟩
   have HX:=Lib.hid hx
   have HY:=Lib.hid hy
   have HZ:=Lib.hid hz
   have hl:=belows_length l k0 k
   have HL1:Hid ((belows l k0 k).length + (intV [(y:Int)]).length ≤ maxLen):=Lib.hid (by rw [hl]; simp [maxLen]; omega)
   have HL2:Hid (((belows l k0 k).length + (intV [(y:Int)]).length) * 8 ≤ 140737488355328):=Lib.hid (by rw [hl]; simp; omega)
   rw [← HY.out]
   have HSZ:Hid (w.heap.size ≤ wr.heap.size):=Lib.hid hrow.2.size
   have HRA:=Lib.hid hrow.1
   clear hx hx2 hy hz hl hrow
   go_wp2_with (first
    | (at_builtin; refine wpList_append_rd _ rfl (.tmp 21) (.tmp 23) _ rfl w.heap.size 3 i0 (.int .i64 0) 8 Tryz.underlying75 HI.out.1 HI.out.2.1 HI.out.2.2.1 HI.out.2.2.2 rfl _ _ _ rfl (HRA.out.alloc _) _ (intV [(y:Int)]) rfl (Rd.lit (cs:=#[.int .i64 y]) rfl) (intV_one _) HL1.out HL2.out ?_ ?_; (have:=HSZ.out; simp; omega); intro p2 w2 hrow2 hg2 _; have HR2:=Lib.hid (RowI.add HR.out hrow2 hg2); have HT2:=Lib.hid (HT.out.keep HR2.out.2); clear hrow2 hg2)
    | (go_at_call 207; (with_reducible refine (HEE.out _ _ HT2.out).mono ?_); rintro e w' ⟨rfl,rfl⟩))
   go_roundw
   case rel => exact ⟨k + 1,hlt,by simp,by rw [HY.out,HX.out],by rw [belows_next,← HY.out]; exact HR2.out⟩
   case measure => simp [intOf]; omega
  ·obtain rfl:k = q:=by omega
   go_wp2_with fail
   go_ret
   exact ⟨_,rfl,HR.out.read,HR.out.2⟩
end Go.Proofs.YtjfghaohogcfbaaGreatDoor
namespace Go.Proofs.YtjfghaohogcfbaaGreatDoor
open Go.RowKit ValSpec
set_option maxRecDepth 100000
theorem val_str {a b:ByteArray} (h:a = b):Ending.returned (.string a) = .returned (.string b):=by rw [h]
theorem neg_parts (n:Int) (h:n < 0) (h1:-9223372036854775808 ≤ n):∃ d q:Nat,n.tmod 10 = -(d:Int) ∧ n.tdiv 10 = -(q:Int) ∧ d < 10 ∧ q ≤ 922337203685477580 ∧ n.natAbs = 10 * q + d:=by
 obtain ⟨m,rfl⟩:∃ m:Nat,n = -(m:Int):=⟨n.natAbs,by omega⟩
 refine ⟨m % 10,m / 10,?_,?_,Nat.mod_lt _ (by omega),by omega,by rw [Int.natAbs_neg]; simp; omega⟩
 ·rw [Int.neg_tmod]; rfl
 ·rw [Int.neg_tdiv]; rfl
theorem vdigit_any (d:Int) (w:World) (h0:0 ≤ d) (h9:d ≤ 9) :
 Calls Tryz.prog 113 #[.int .i64 d] w fun e w' => e = .returned (.int .u8 (48 + d)) ∧ w = w':=by
 go_enter Tryz.func113,Tryz.ntmps113
 go_wp2
 go_ret
 exact ⟨rfl,rfl⟩
def byteV (c:UInt8):Value:=.int .u8 c.toNat
def cellsOf (z:Nat) (cs:List UInt8):Array Value:=(List.replicate z (Value.int .u8 0) ++ cs.map byteV).toArray
theorem cells_zero {z k:Nat} {cs:List UInt8} (h:k < z):(cellsOf z cs)[k]? = some (.int .u8 0):=by
 simp [cellsOf,List.getElem?_append,h]
theorem cells_set {z:Nat} {cs:List UInt8} (c:UInt8):(cellsOf (z + 1) cs).setIfInBounds z (byteV c) = cellsOf z (c :: cs):=by
 apply Array.ext'
 simp only [cellsOf,Array.toList_setIfInBounds]
 rw [List.set_append_left _ _ (by simp)]
 simp [List.replicate_succ',List.set_append_right]
theorem byteV_digit {d:Nat} (h:d < 10):byteV (UInt8.ofNat (48 + d)) = .int .u8 (48 + (d:Int)):=by
 unfold byteV; rw [byte_nat (by omega)]; simp
theorem cell_of_block {w:World} {b:Nat} {cs:Array Value} {t:TypeId} (h:w.heap[b]? = some (.cells cs t (0,0))) {i:Nat} {v:Value} (hi:cs[i]? = some v):w.cell? ⟨b,i,none⟩ = some v:=by simp [World.cell?,h,hi]
theorem free_of_block {w:World} {b:Nat} {cs:Array Value} {t:TypeId} (h:w.heap[b]? = some (.cells cs t (0,0))) (i:Nat):w.frozen? ⟨b,i,none⟩ = false:=by simp [World.frozen?,h]
theorem block_setCell {w:World} {b:Nat} {cs:Array Value} {t:TypeId} (h:w.heap[b]? = some (.cells cs t (0,0))) (i:Nat) (u:Value):(w.setCell ⟨b,i,none⟩ u).heap[b]? = some (.cells (cs.setIfInBounds i u) t (0,0)):=by
 have hlt:=lt_of_block h
 have h':w.heap[b] = .cells cs t (0,0):=by simpa [Array.getElem?_eq_getElem hlt] using h
 show (w.heap.modify b _)[b]? = _
 rw [Array.getElem?_eq_getElem (by simpa using hlt),Array.getElem_modify_self,h']
 rfl
def PutRel (W:World) (m:Nat) (rv av:Value) (wr:World):Prop :=
 ∃ (i:Nat) (r:Int) (cs:List UInt8),cs.length + i = 18 ∧ rv = .int .i64 r ∧ av = .int .i64 ((i:Int) + 1) ∧ r ≤ 0 ∧ -9223372036854775808 ≤ r ∧ digs m = digs r.natAbs ++ cs ∧ r.natAbs * 10 ^ (18 - i) ≤ m ∧
   wr.heap[W.heap.size]? = some (.cells (cellsOf (i + 2) cs) 158 (0,0)) ∧ Below W.heap.size W wr
theorem put_step {W wr:World} {m i q d:Nat} {r:Int} {cs:List UInt8} (hm:m ≤ 9223372036854775808) (hl:cs.length + i = 18) (hr:r < -9) (hd:digs m = digs r.natAbs ++ cs) (hp:r.natAbs * 10 ^ (18 - i) ≤ m)
 (hb:wr.heap[W.heap.size]? = some (.cells (cellsOf (i + 2) cs) 158 (0,0))) (hbel:Below W.heap.size W wr) (hn:r.natAbs = 10 * q + d) (hd10:d < 10) (hq:q ≤ 922337203685477580) :
 PutRel W m (.int .i64 (-(q:Int))) (.int .i64 i) (wr.setCell ⟨W.heap.size,i + 1,none⟩ (.int .u8 (48 + (d:Int)))):=by
 have hi:1 ≤ i:=by
  rcases Nat.lt_or_ge 0 i with h | h
  ·exact h
  ·exfalso
   obtain rfl:i = 0:=by omega
   have:10 * 10 ^ 18 ≤ r.natAbs * 10 ^ (18 - 0):=Nat.mul_le_mul_right _ (by omega)
   omega
 obtain ⟨k,rfl⟩:∃ k,i = k + 1:=⟨i - 1,by omega⟩
 have hq1:1 ≤ q:=by omega
 refine ⟨k,-(q:Int),UInt8.ofNat (48 + d) :: cs,by simp; omega,rfl,by simp,by omega,by omega,?_,?_,?_,hbel.setCell (Nat.le_refl _) _⟩
 ·rw [hd,hn,digs_ge (n:=10 * q + d) (by omega),show (10 * q + d) / 10 = q by omega,show (10 * q + d) % 10 = d by omega]
  simp
 ·have e:18 - k = (18 - (k + 1)) + 1:=by omega
  rw [e,Nat.pow_succ]
  refine Nat.le_trans ?_ hp
  rw [hn,Int.natAbs_neg,Int.natAbs_natCast,Nat.mul_comm (10 ^ _) 10,← Nat.mul_assoc]
  exact Nat.mul_le_mul_right _ (by omega)
 ·rw [block_setCell hb,← byteV_digit hd10,cells_set]
theorem slice_tail (B l L:Nat) (li:Int) (hli:li = l) (hl:l + L = 20) (h1:1 ≤ L) (W:World):(Instr.sliceAt 158 (.pointer (some ⟨B,0,none⟩)) (some (.int .i64 li)) none none).run Tryz.prog W = .ok (.slice (some ⟨B,l,none⟩) L L) W:=by
 subst hli
 have hal:Tryz.prog.arrayLen 158 = 20:=by simp [Program.arrayLen,Tryz.underlying158]
 rw [run_sliceAt_array_l W 158 ⟨B,0,none⟩ (by simp [Program.arrayLen,Program.elem,Tryz.underlying158]) .i64 (l:Int) (by omega) (by rw [hal]; omega),hal]
 go_simp
 omega
theorem tail_text {w:World} {B z:Nat} {cs:List UInt8} (h:w.heap[B]? = some (.cells (cellsOf z cs) 158 (0,0))) (L:Nat) (hL:cs.length = L) :
 (convert 107 9 (.slice (some ⟨B,z,none⟩) L L)).run Tryz.prog w = .ok (.string ⟨cs.toArray⟩) w:=by
 subst hL
 refine run_convert_bytes_back _ _ _ _ _ cs.length cs Tryz.underlying107 Tryz.underlying5 Tryz.underlying9 (fun j hj => ?_)
 have ea:(⟨B,z,none⟩:Addr).add j = ⟨B,z + j,none⟩:=by unfold Addr.add; split <;> simp_all
 rw [ea]
 refine cell_of_block h ?_
 simp [cellsOf,List.getElem?_append,show ¬ (z + j < z) by omega,List.getElem?_eq_getElem hj,byteV]
theorem put_last {W wr:World} {m i d:Nat} {r:Int} {cs:List UInt8} (hr:r = -(d:Int)) (hd10:d < 10) (hd:digs m = digs r.natAbs ++ cs)
 (hb:wr.heap[W.heap.size]? = some (.cells (cellsOf (i + 2) cs) 158 (0,0))) :
 (wr.setCell ⟨W.heap.size,i + 1,none⟩ (.int .u8 (48 + (d:Int)))).heap[W.heap.size]? = some (.cells (cellsOf (i + 1) (digs m)) 158 (0,0)):=by
 rw [block_setCell hb,← byteV_digit hd10,cells_set,hd,hr,Int.natAbs_neg,Int.natAbs_natCast,digs_lt hd10]
 rfl
theorem put_sign {wr:World} {B i:Nat} {cs:List UInt8} (hb:wr.heap[B]? = some (.cells (cellsOf (i + 1) cs) 158 (0,0))) :
 (wr.setCell ⟨B,i,none⟩ (.int .u8 45)).heap[B]? = some (.cells (cellsOf i (45 :: cs)) 158 (0,0)):=by
 rw [block_setCell hb,show (Value.int .u8 45) = byteV 45 from rfl,cells_set]
set_option maxRecDepth 100000 in
set_option maxHeartbeats 800000 in
theorem put_any (n:Int) (w:World) (h1:-9223372036854775808 ≤ n) (h2:n ≤ 9223372036854775807) :
 Calls Tryz.prog 64 #[.int .i64 n] w fun e w' => e = .returned (.string ⟨(text n).toArray⟩) ∧ Below w.heap.size w w':=by
 rcases (show 0 < n ∨ n < 0 ∨ n ≤ 0 ∧ 0 ≤ n by omega) with h | h | ⟨h,h'⟩
 all_goals
  go_enter Tryz.func64,Tryz.ntmps64
  go_wp2_with fail
  go_loopw [3,5] (fun r a wr => PutRel w n.natAbs r a wr) (fun r _ _ => (intOf r).natAbs)
  case atStart => first
   | exact ⟨18,-n,[],rfl,rfl,rfl,by omega,by omega,by simp,by simp,(heap_alloc_new _ _).trans rfl,(Below.refl _ _).alloc (Nat.le_refl _) _⟩
   | exact ⟨18,n,[],rfl,rfl,rfl,by omega,by omega,by simp,by simp,(heap_alloc_new _ _).trans rfl,(Below.refl _ _).alloc (Nat.le_refl _) _⟩
  case round =>
   obtain ⟨i,r,cs,hl,rfl,rfl,hr,hr2,hd,hp,hb,hbel⟩:=hrel
   have hi2:i ≤ 18:=by omega
   have hc:=cell_of_block hb (cells_zero (k:=i + 1) (by omega))
   have hf:=free_of_block hb (i + 1)
   have hc':=cell_of_block hb (cells_zero (k:=i) (by omega))
   have hf':=free_of_block hb i
   by_cases h9:r < -9
   ·obtain ⟨d,q,hd1,hq,hd10,hqb,hn⟩:=neg_parts r (by omega) hr2
    have HR:=Lib.hid (put_step (show n.natAbs ≤ 9223372036854775808 by omega) hl h9 hd hp hb hbel hn hd10 hqb)
    have HM:Hid (q < r.natAbs):=Lib.hid (by omega)
    clear hn hd hp hb hl hc' hf'
    go_wp2_with (go_at_call 113; refine (vdigit_any _ _ (by omega) (by omega)).mono ?_; rintro e w' ⟨rfl,rfl⟩)
    go_round
    case rel => exact HR.out
    case measure => have:=HM.out; simp [intOf]; omega
   ·obtain ⟨d,rfl⟩:∃ d:Nat,r = -(d:Int):=⟨r.natAbs,by omega⟩
    have hd10:d < 10:=by omega
    have hb2:=put_last (m:=n.natAbs) rfl hd10 hd hb
    have hlen:(digs n.natAbs).length = 19 - i:=by
     rw [hd,List.length_append,Int.natAbs_neg,Int.natAbs_natCast,digs_lt hd10]; simp; omega
    by_cases hneg:n < 0
    ·first
      | (exfalso; omega)
      | (have hb3:=put_sign hb2
         obtain ⟨L,hL⟩:∃ L,L = 20 - i:=⟨_,rfl⟩
         have hsl:=slice_tail w.heap.size i L (i:Int) rfl (by omega) (by omega)
         have hcv:=tail_text hb3 L (by simp; omega)
         have HB:Hid (Below w.heap.size w ((wr.setCell ⟨w.heap.size,i + 1,none⟩ (.int .u8 (48 + (d:Int)))).setCell ⟨w.heap.size,i,none⟩ (.int .u8 45))):=Lib.hid ((hbel.setCell (Nat.le_refl _) _).setCell (Nat.le_refl _) _)
         clear hb hb2 hb3 hlen hd hp hl hL hbel
         go_wp2_with (go_at_call 113; refine (vdigit_any _ _ (by omega) (by omega)).mono ?_; rintro e w' ⟨rfl,rfl⟩)
         go_ret
         exact ⟨val_str (by unfold text; rw [if_pos (by omega)]),HB.out⟩)
    ·first
      | (exfalso; omega)
      | (obtain ⟨L,hL⟩:∃ L,L = 19 - i:=⟨_,rfl⟩
         have hsl:=slice_tail w.heap.size (i + 1) L ((i:Int) + 1) rfl (by omega) (by omega)
         have hcv:=tail_text hb2 L (by omega)
         have HB:Hid (Below w.heap.size w (wr.setCell ⟨w.heap.size,i + 1,none⟩ (.int .u8 (48 + (d:Int))))):=Lib.hid (hbel.setCell (Nat.le_refl _) _)
         clear hb hb2 hlen hd hp hl hL hbel hc' hf'
         go_wp2_with (go_at_call 113; refine (vdigit_any _ _ (by omega) (by omega)).mono ?_; rintro e w' ⟨rfl,rfl⟩)
         go_ret
         exact ⟨val_str (by unfold text; rw [if_neg (by omega)]),HB.out⟩)
end Go.Proofs.YtjfghaohogcfbaaGreatDoor