/- ExprSigns, TermEnd, TermRefEnd, RowI, TermBelow, ValPut, ExprText, ActTextSpec, ExprBetween, joined. -/
import Derived.Test.YtcofikjpplkjdaaGreatDoorMPrintLong03
import Derived.Laws.Rows
import Derived.Deep.RegionLaw
import Derived.Test.YtcofikjpplkjdaaGreatDoorRows
import Derived.Test.YtcofikjpplkjdaaGreatDoorMPrintLong01
import Derived.Deep.RegionHeld3
import Derived.Test.YtcofikjpplkjdaaGreatDoorMPrintLong00
import Derived.Lib.Join
namespace Go.Proofs.YtcofikjpplkjdaaGreatDoor
open Go.RowKit CurSpec TermSpec ExprSpec
set_option maxRecDepth 100000
def sgC (s:Sg):List Value:=[.string s.t,.int .i64 s.op,.int .i64 s.lev,.int .i64 s.left,.int .i64 s.right]
abbrev sgA (s:Sg):Value:=.agg #[.string s.t,.int .i64 s.op,.int .i64 s.lev,.int .i64 s.left,.int .i64 s.right]
def sgZ:Sg:=⟨⟨#[]⟩,0,0,0,0⟩
def signsV:Array Value:=(sgs.flatMap sgC).toArray
def SignsIn (w:World):Prop:=∃ T fr,w.heap[2]? = some (.cells signsV T fr)
theorem SignsIn.pos {w:World} (h:SignsIn w):2 < w.heap.size:=by
 obtain ⟨T,fr,h⟩:=h
 exact (Array.getElem?_eq_some_iff.1 h).1
theorem SignsIn.of {w w':World} (h:SignsIn w) (hb:w'.heap[2]? = w.heap[2]?):SignsIn w':=by
 obtain ⟨T,fr,h⟩:=h
 exact ⟨T,fr,hb.trans h⟩
theorem SignsIn.keep {w w':World} (h:SignsIn w) (hb:Below w.heap.size w w'):SignsIn w':=h.of (hb.block _ h.pos)
theorem SignsIn.alloc {w:World} (h:SignsIn w) (o:Obj):SignsIn (w.alloc o):=h.keep ((Below.refl _ _).alloc (Nat.le_refl _) _)
theorem signs_size:(Tryz.prog.info? 198).map (·.size) = some signsV.size:=by kernel_rfl
theorem signs_index:∀ (j:Nat) (s:Sg),sgs[j]? = some s → ∀ w,(Instr.index 198 (.agg signsV) (.int .i64 j)).run Tryz.prog w = .ok (sgA s) w
 | 0,s,h,w => by cases h; kernel_rfl
 | 1,s,h,w => by cases h; kernel_rfl
 | 2,s,h,w => by cases h; kernel_rfl
 | 3,s,h,w => by cases h; kernel_rfl
 | 4,s,h,w => by cases h; kernel_rfl
 | 5,s,h,w => by cases h; kernel_rfl
 | 6,s,h,w => by cases h; kernel_rfl
 | 7,s,h,w => by cases h; kernel_rfl
 | 8,s,h,w => by cases h; kernel_rfl
 | 9,s,h,w => by cases h; kernel_rfl
 | 10,s,h,w => by cases h; kernel_rfl
 | j + 11,s,h,w => by cases h
theorem sgs_len:sgs.length = 11:=rfl
theorem cells_5 {w:World} {b:Nat} {T:TypeId} {x0 x1 x2 x3 x4:Value} (h:w.heap[b]? = some (.cells #[x0,x1,x2,x3,x4] T (0,0))):w.cell? ⟨b,0,none⟩ = some x0 ∧ w.cell? ⟨b,1,none⟩ = some x1 ∧ w.cell? ⟨b,2,none⟩ = some x2 ∧ w.cell? ⟨b,3,none⟩ = some x3 ∧ w.cell? ⟨b,4,none⟩ = some x4 :=
 ⟨cell_of_block' h (i:=0) rfl,cell_of_block' h (i:=1) rfl,cell_of_block' h (i:=2) rfl,cell_of_block' h (i:=3) rfl,cell_of_block' h (i:=4) rfl⟩
theorem free_5 {w:World} {b:Nat} {T:TypeId} {cs:Array Value} (h:w.heap[b]? = some (.cells cs T (0,0))):w.frozen? ⟨b,0,none⟩ = false ∧ w.frozen? ⟨b,1,none⟩ = false ∧ w.frozen? ⟨b,2,none⟩ = false ∧ w.frozen? ⟨b,3,none⟩ = false ∧ w.frozen? ⟨b,4,none⟩ = false :=
 ⟨free_of_block' h 0,free_of_block' h 1,free_of_block' h 2,free_of_block' h 3,free_of_block' h 4⟩
theorem store_five {w:World} {b:Nat} (h:Blk w b 5) (u0 u1 u2 u3 u4:Value) :
 (w.setCell ⟨b,0,none⟩ u0).cell? ⟨b,0,none⟩ = some u0 ∧ ((w.setCell ⟨b,0,none⟩ u0).setCell ⟨b,1,none⟩ u1).cell? ⟨b,1,none⟩ = some u1 ∧
 (((w.setCell ⟨b,0,none⟩ u0).setCell ⟨b,1,none⟩ u1).setCell ⟨b,2,none⟩ u2).cell? ⟨b,2,none⟩ = some u2 ∧
 ((((w.setCell ⟨b,0,none⟩ u0).setCell ⟨b,1,none⟩ u1).setCell ⟨b,2,none⟩ u2).setCell ⟨b,3,none⟩ u3).cell? ⟨b,3,none⟩ = some u3 ∧
 (((((w.setCell ⟨b,0,none⟩ u0).setCell ⟨b,1,none⟩ u1).setCell ⟨b,2,none⟩ u2).setCell ⟨b,3,none⟩ u3).setCell ⟨b,4,none⟩ u4).cell? ⟨b,4,none⟩ = some u4 :=
 ⟨h.read 0 (by omega) _,(h.set _ _).read 1 (by omega) _,((h.set _ _).set _ _).read 2 (by omega) _,(((h.set _ _).set _ _).set _ _).read 3 (by omega) _,((((h.set _ _).set _ _).set _ _).set _ _).read 4 (by omega) _⟩
theorem below_5 {B:Nat} {w x:World} {b:Nat} (h:Below B w x) (hb:B ≤ b) (u0 u1 u2 u3 u4:Value) :
 Below B w (((((x.setCell ⟨b,0,none⟩ u0).setCell ⟨b,1,none⟩ u1).setCell ⟨b,2,none⟩ u2).setCell ⟨b,3,none⟩ u3).setCell ⟨b,4,none⟩ u4) :=
 ((((h.setCell hb _).setCell hb _).setCell hb _).setCell hb _).setCell hb _
def SgRel (W:World) (o:Int) (i:Value) (wr:World):Prop:=∃ j:Nat,j ≤ 11 ∧ i = .int .i64 j ∧ (∀ y ∈ sgs.take j,y.op ≠ o) ∧ Below W.heap.size W wr
def opSg (o:Int):Sg:=(sgs.find? fun s => decide (s.op = o)).getD sgZ
theorem opSg_hit {o:Int} {j:Nat} {s:Sg} (hs:sgs[j]? = some s) (h:∀ y ∈ sgs.take j,y.op ≠ o) (he:s.op = o):opSg o = s:=by
 have hl:=(List.getElem?_eq_some_iff.1 hs).1
 have e:sgs = sgs.take j ++ s :: sgs.drop (j + 1):=by
  have h2:sgs.drop j = s :: sgs.drop (j + 1):=by rw [List.drop_eq_getElem_cons hl]; congr 1; exact (List.getElem?_eq_some_iff.1 hs).2
  rw [← h2,List.take_append_drop]
 unfold opSg
 rw [e,List.find?_append]
 have:(sgs.take j).find? (fun s => decide (s.op = o)) = none:=by
  rw [List.find?_eq_none]
  intro y hy
  simpa using h y hy
 rw [this]
 simp [he]
theorem opSg_none {o:Int} (h:∀ y ∈ sgs.take 11,y.op ≠ o):opSg o = sgZ:=by
 unfold opSg
 have:sgs.find? (fun s => decide (s.op = o)) = none:=by
  rw [List.find?_eq_none]
  intro y hy
  have:sgs.take 11 = sgs:=rfl
  rw [this] at h
  simpa using h y hy
 rw [this]
 rfl
def RetSign (W:World) (s:Sg) (e:Ending) (w':World):Prop:=e = .returned (sgA s) ∧ Below W.heap.size W w'
abbrev sgO (s:Sg):Obj:=.cells #[.string s.t,.int .i64 s.op,.int .i64 s.lev,.int .i64 s.left,.int .i64 s.right] 190
theorem sg_below' {w wr:World} {o:Obj} (h:Below (w.alloc o).heap.size (w.alloc o) wr):Below w.heap.size w wr :=
 ((Below.refl _ _).alloc (Nat.le_refl _) _).trans (h.mono (by simp))
theorem sg_below {w wr:World} {o:Obj} (h:Below (w.alloc o).heap.size (w.alloc o) wr) (p:Obj):Below w.heap.size w (wr.alloc p) :=
 (sg_below' h).alloc (sg_below' h).size _
theorem sg_next {o:Int} {j:Nat} {s:Sg} (h:∀ y ∈ sgs.take j,y.op ≠ o) (hs:sgs[j]? = some s) (hne:s.op ≠ o):∀ y ∈ sgs.take (j + 1),y.op ≠ o:=by
 intro y hy
 rw [take_next hs,List.mem_append,List.mem_singleton] at hy
 rcases hy with hy | rfl
 ·exact h y hy
 ·exact hne
set_option maxHeartbeats 4000000 in
theorem signOf_any (o:Int) (w:World) (hs:SignsIn w):Calls Tryz.prog 160 #[.int .i64 o] w (RetSign w (opSg o)):=by
 have hi:=signs_size
 have hix:=signs_index
 obtain ⟨SV,hSV⟩:∃ SV,SV = signsV:=⟨_,rfl⟩
 unfold SignsIn at hs
 rw [← hSV] at hi hix hs
 obtain ⟨T,fr,hg0⟩:=hs
 have hg:=(heap_alloc_old w (.cells #[.string ⟨#[]⟩,.int .i64 0,.int .i64 0,.int .i64 0,.int .i64 0] 190) (Array.getElem?_eq_some_iff.1 hg0).1).trans hg0
 have HIX:=Lib.hid hix
 clear hix hSV hg0
 have k0:=heap_alloc_new w (.cells #[.string ⟨#[]⟩,.int .i64 0,.int .i64 0,.int .i64 0,.int .i64 0] 190)
 have HK0:=Lib.hid k0
 clear k0
 go_enter Tryz.func160,Tryz.ntmps160
 go_wp2_with (refine wpList_load_row rfl 198 _ rfl 2 rfl T SV fr _ hg Tryz.underlying198 rfl hi ?_)
 clear hg hi
 go_loopw [4,6] (fun _ i wr => SgRel (w.alloc (.cells #[.string ⟨#[]⟩,.int .i64 0,.int .i64 0,.int .i64 0,.int .i64 0] 190)) o i wr) (fun _ i _ => 11 - (intOf i).toNat)
 case atStart => exact ⟨0,by omega,rfl,by simp,Below.refl _ _⟩
 case round =>
  obtain ⟨j,hj,rfl,hno,hbw⟩:=hrel
  have HN:=Lib.hid hno
  have HB:=Lib.hid hbw
  have hz:=hbw.size
  rw [World.size_alloc] at hz
  have hlt0:w.heap.size < wr.heap.size:=by omega
  have k0:=block_on HK0.out hbw
  have HK:=Lib.hid k0
  have HZ:=Lib.hid hlt0
  clear hno hbw k0 hz
  by_cases hlt:j < 11
  ·obtain ⟨s,hs⟩:∃ s,sgs[j]? = some s:=get_some (by rw [sgs_len]; exact hlt)
   have hx:=HIX.out j s hs
   have HS:=Lib.hid hs
   have k1:=(heap_alloc_old wr (sgO s) hlt0).trans HK.out
   have HK1:=Lib.hid (blk_of k1 (n:=5) rfl)
   clear hs hlt0
   by_cases ho:s.op = o
   ·have e1:(s.op == o) = true:=by simpa using ho
    have HO:=Lib.hid (opSg_hit HS.out HN.out ho)
    obtain ⟨f0,f1,f2,f3,f4⟩:=free_5 k1
    obtain ⟨d0,d1,d2,d3,d4⟩:=cells_5 k1
    clear ho k1
    go_wp2_with fail
    obtain ⟨q0,q1,q2,q3,q4⟩:=store_five HK1.out (.string s.t) (.int .i64 s.op) (.int .i64 s.lev) (.int .i64 s.left) (.int .i64 s.right)
    refine bodyPost_ret (v:=sgA s) (by simp [results,Tryz.results160,go_sem,q0,q1,q2,q3,q4]) rfl ?_
    rw [HO.out]
    exact ⟨rfl,below_5 (sg_below HB.out (sgO s)) (Nat.le_refl _) _ _ _ _ _⟩
   ·have e1:(s.op == o) = false:=by simpa using ho
    have HO:=Lib.hid ho
    clear ho k1
    go_wp2_with fail
    go_roundw
    case rel => exact ⟨j + 1,hlt,by simp,sg_next HN.out HS.out HO.out,HB.out.alloc HB.out.size _⟩
    case measure => simp [intOf]; omega
  ·obtain rfl:j = 11:=by omega
   have HO:=Lib.hid (opSg_none HN.out)
   obtain ⟨f0,f1,f2,f3,f4⟩:=free_5 HK.out
   obtain ⟨d0,d1,d2,d3,d4⟩:=cells_5 HK.out
   have HK1:=Lib.hid (blk_of HK.out (n:=5) rfl)
   go_wp2_with fail
   obtain ⟨q0,q1,q2,q3,q4⟩:=store_five HK1.out (.string ⟨#[]⟩) (.int .i64 0) (.int .i64 0) (.int .i64 0) (.int .i64 0)
   refine bodyPost_ret (v:=sgA sgZ) (by simp [results,Tryz.results160,go_sem,q0,q1,q2,q3,q4,sgZ]) rfl ?_
   rw [HO.out]
   exact ⟨rfl,below_5 (sg_below' HB.out) (Nat.le_refl _) _ _ _ _ _⟩
end Go.Proofs.YtcofikjpplkjdaaGreatDoor
namespace Go.Proofs.YtcofikjpplkjdaaGreatDoor
open Go.RowKit TermSpec
set_option maxRecDepth 100000
def EndRel (l:List Tm) (n:Nat) (r:Int) (a o:Value):Prop:=∃ (j k:Nat),j ≤ n ∧ a = .int .i64 j ∧ o = .int .i64 k ∧ k ≤ j + 1 ∧ fin k (l.drop j) j = r
theorem endRel_next {l:List Tm} {n j k:Nat} {r:Int} {t:Tm} (hj:j < n) (ht:l[j]? = some t) (h0:0 ≤ ar t.op) (hk:k + 1 ≤ j + 1) (h:fin (k + 1) (l.drop j) j = r) (o:Int) (ho:o = (k + 1:Nat) + (ar t.op - 1)):EndRel l n r (.int .i64 ((j:Int) + 1)) (.int .i64 o):=by
 have h2:=(ar_bd t.op).2
 have e:=arN_of h0
 refine ⟨j + 1,k + arN t.op,by omega,by simp,?_,by omega,?_⟩
 ·congr 1; omega
 ·rw [drop_get ht,fin_cons,if_neg (by omega)] at h
  exact h
theorem fin_stop {l:List Tm} {j k:Nat} {r:Int} {t:Tm} (ht:l[j]? = some t) (h0:ar t.op < 0) (h:fin (k + 1) (l.drop j) j = r):-1 = r:=by
 rw [drop_get ht,fin_cons,if_pos h0] at h
 exact h
theorem fin_out {l:List Tm} {j k:Nat} {r:Int} (hj:l.length ≤ j) (h:fin (k + 1) (l.drop j) j = r):-1 = r:=by
 rw [List.drop_eq_nil_of_le hj] at h
 exact h
set_option maxHeartbeats 1000000 in
theorem end_nat (A:Option Addr) (n c:Nat) (l:List Tm) (a:Nat) (w:World) (h:Tms w (.slice A n c) l) (hn:n = l.length) (hn62:n ≤ 4611686018427387903) (ha:a ≤ n) :
 Calls Tryz.prog 166 #[.slice A n c,.int .i64 a] w (SameI w (endA l a)):=by
 have HT:=Lib.hid h
 have HN:=Lib.hid hn
 have HA:=Lib.hid (endA_nat l a)
 obtain ⟨r,hr⟩:∃ r,r = endA l a:=⟨_,rfl⟩
 rw [← hr] at HA ⊢
 clear h hn hr
 go_enter Tryz.func166,Tryz.ntmps166
 go_wp2_with fail
 go_loop [1,5] (fun a o => EndRel l n r a o) (fun a _ => n - (intOf a).toNat)
 case atStart => exact ⟨a,1,ha,rfl,rfl,by omega,HA.out.symm⟩
 case round =>
  obtain ⟨j,k,hj,rfl,rfl,hk,hf⟩:=hrel
  have HF:=Lib.hid hf
  clear hf
  rcases Nat.eq_zero_or_pos k with hk0 | hk0
  ·subst hk0
   go_wp2_with fail
   go_ret
   exact ⟨ret_int (by rw [← HF.out,fin_zero]),rfl⟩
  ·obtain ⟨k,rfl⟩:∃ k',k = k' + 1:=⟨k - 1,by omega⟩
   have hk1:(0:Int) < ((k + 1:Nat):Int):=by omega
   by_cases hlt:j < n
   ·obtain ⟨t,ht⟩:∃ t,l[j]? = some t:=get_some (by rw [← HN.out]; exact hlt)
    obtain ⟨b,off,rfl,hb,c0,-,-⟩:=HT.out.at_ ht
    have hltI:(j:Int) < (n:Int):=by omega
    have HX:=Lib.hid ht
    have HC:=Lib.hid (arity_any t.op)
    obtain ⟨h1,h2⟩:=ar_bd t.op
    have HR:=Lib.hid (fun h0 => endRel_next (n:=n) (r:=r) hlt ht h0 hk HF.out)
    have HS:=Lib.hid (fun h0 => fin_stop ht h0 HF.out)
    obtain ⟨o,ho⟩:∃ o,o = t.op:=⟨_,rfl⟩
    rw [← ho] at HC h1 h2 c0 HR HS
    obtain ⟨q,hq⟩:∃ q,q = ar o:=⟨_,rfl⟩
    rw [← hq] at HC h1 h2 HR HS
    clear ht ho hq
    by_cases h0:q < 0
    ·go_wp2_with (go_at_call 168; (with_reducible refine (HC.out _).mono ?_); rintro e w' ⟨rfl,rfl⟩)
     go_ret
     exact ⟨ret_int (HS.out h0),rfl⟩
    ·have h0':0 ≤ q:=by omega
     go_wp2_with (go_at_call 168; (with_reducible refine (HC.out _).mono ?_); rintro e w' ⟨rfl,rfl⟩)
     go_round
     case rel => exact HR.out h0' _ (by simp)
     case measure => simp [intOf]; omega
   ·go_wp2_with fail
    go_ret
    exact ⟨ret_int (fin_out (by rw [← HN.out]; omega) HF.out),rfl⟩
theorem end_far (A:Option Addr) (n c:Nat) (l:List Tm) (a:Int) (w:World) (hn:n = l.length) (ha:(n:Int) < a) :
 Calls Tryz.prog 166 #[.slice A n c,.int .i64 a] w (SameI w (endA l a)):=by
 have HE:=Lib.hid (endA_out (l:=l) (a:=a) (by omega))
 have h0:¬ a < 0:=by omega
 have h1:(n:Int) ≤ a:=by omega
 clear hn
 go_enter Tryz.func166,Tryz.ntmps166
 go_wp2_with fail
 go_loop [1,5] (fun v o => v = .int .i64 a ∧ o = .int .i64 1) (fun _ _ => 0)
 case atStart => exact ⟨rfl,rfl⟩
 case round =>
  obtain ⟨rfl,rfl⟩:=hrel
  go_wp2_with fail
  go_ret
  exact ⟨ret_int HE.out.symm,rfl⟩
theorem end_any (A:Option Addr) (n c:Nat) (l:List Tm) (a:Int) (w:World) (h:Tms w (.slice A n c) l) (hn:n = l.length) (hn62:n ≤ 4611686018427387903) :
 Calls Tryz.prog 166 #[.slice A n c,.int .i64 a] w (SameI w (endA l a)):=by
 by_cases h0:a < 0
 ·have HE:=Lib.hid (endA_neg (l:=l) h0)
  clear hn h
  go_enter Tryz.func166,Tryz.ntmps166
  go_wp2_with fail
  go_ret
  exact ⟨ret_int HE.out.symm,rfl⟩
 ·by_cases h1:(n:Int) < a
  ·exact end_far A n c l a w hn h1
  ·obtain ⟨k,rfl⟩:=Int.eq_ofNat_of_zero_le (Int.not_lt.1 h0)
   exact end_nat A n c l k w h hn hn62 (by omega)
end Go.Proofs.YtcofikjpplkjdaaGreatDoor
namespace Go.Proofs.YtcofikjpplkjdaaGreatDoor
open Go.RowKit TermSpec
set_option maxRecDepth 100000
end Go.Proofs.YtcofikjpplkjdaaGreatDoor
namespace Go.Proofs.YtcofikjpplkjdaaGreatDoor
open Go.RowKit NamesSpec
set_option maxRecDepth 100000
theorem inf_int:(Tryz.prog.info? 3).map (fun i => (i.zero,i.size,i.bytes)) = some (some (.int .i64 0),1,8):=by kernel_rfl
def RowI (W wr:World) (p:Value) (xs:List Int):Prop:=wr.ownsRow W.heap.size 3 1 p xs.length (intV xs) ∧ Below W.heap.size W wr
theorem RowI.nil (W wr:World) (hb:Below W.heap.size W wr):RowI W wr (.slice none 0 0) []:=⟨World.ownsRow_nil _ _ _ _,hb⟩
theorem RowI.keep {W w w':World} {p:Value} {xs:List Int} (h:RowI W w p xs) (hb:Below w.heap.size w w'):RowI W w' p xs:=⟨own_keep h.1 hb,below_two' h.2 hb⟩
theorem RowI.addL {W wr w2:World} {p p':Value} {xs ys:List Int} {o:Obj} (h:RowI W wr p xs) (hrow:w2.ownsRow W.heap.size 3 1 p' (xs.length + (intV ys).length) (intV xs ++ intV ys)) (hg:(wr.alloc o).grownBy w2 p.ownBlock):RowI W w2 p' (xs ++ ys):=by
 refine ⟨?_,(h.2.alloc h.2.size o).grown hg (by have:=h.2.size; simp; omega) (fun j hj => (own_block_bd h.1 j hj).1)⟩
 rw [← intV_append,List.length_append,← intV_length ys]
 exact hrow
theorem RowI.add {W wr w2:World} {p p':Value} {xs:List Int} {x:Int} {o:Obj} (h:RowI W wr p xs) (hrow:w2.ownsRow W.heap.size 3 1 p' (xs.length + (intV [x]).length) (intV xs ++ intV [x])) (hg:(wr.alloc o).grownBy w2 p.ownBlock):RowI W w2 p' (xs ++ [x]):=h.addL hrow hg
theorem RowI.read {W wr:World} {p:Value} {xs:List Int} (h:RowI W wr p xs):Rd wr p (intV xs):=Rd.own h.1
end Go.Proofs.YtcofikjpplkjdaaGreatDoor
namespace Go.Proofs.YtcofikjpplkjdaaGreatDoor
open Go.RowKit TermSpec
set_option maxRecDepth 100000
theorem below_next {l:List Tm} {a k q m:Nat} (h:cnt q (l.drop (a + 1)) = some m) (hk:k < q) :
 endA l ((a + 1 + (cnt k (l.drop (a + 1))).getD 0:Nat):Int) = (a + 1 + (cnt (k + 1) (l.drop (a + 1))).getD 0:Nat) ∧ a + 1 + (cnt (k + 1) (l.drop (a + 1))).getD 0 ≤ max l.length (a + 1):=by
 rw [show q = (k + 1) + (q - (k + 1)) by omega] at h
 obtain ⟨x,_,hx,_,_⟩:=cnt_split h
 obtain ⟨y,z,hy,hz,rfl⟩:=cnt_split hx
 rw [hy,hx]
 rw [List.drop_drop] at hz
 have:=(cnt_le hx).1
 rw [List.length_drop] at this
 refine ⟨?_,by simp only [Option.getD_some]; omega⟩
 rw [show (some y).getD 0 = y from rfl,endA_some hz]
 simp only [Option.getD_some]
 omega
def BelRel (W:World) (l:List Tm) (a q:Nat) (p v i:Value) (wr:World):Prop :=
 ∃ k:Nat,k ≤ q ∧ i = .int .i64 k ∧ v = .int .i64 (a + 1 + (cnt k (l.drop (a + 1))).getD 0:Nat) ∧ RowI W wr p (belows l a k)
set_option maxHeartbeats 2000000 in
theorem below_yes (A:Option Addr) (n c:Nat) (l:List Tm) (a:Nat) (w:World) (h:Tms w (.slice A n c) l) (hn:n = l.length) (hn62:n ≤ 70368744177664) (t:Tm) (ht:l[a]? = some t) (he:0 ≤ endA l a) :
 Calls Tryz.prog 158 #[.slice A n c,.int .i64 a] w (RetInts w (belows l a (arN t.op))):=by
 obtain ⟨k0,m0,hk0,hc0,_,_,_⟩:=endA_nn he
 obtain rfl:k0 = a:=by omega
 obtain ⟨t',m,ht',h0,_,hm⟩:=first_of hc0
 rw [ht] at ht'
 cases ht'
 have han:=get_lt ht
 have e0:=arN_of h0
 have HT:=Lib.hid h
 have HN:=Lib.hid hn
 have HM:=Lib.hid hm
 obtain ⟨b,off,rfl,hb,c0,-,-⟩:=h.at_ ht
 have HC:=Lib.hid (arity_any t.op)
 have HEE:=Lib.hid (fun (a:Int) w h => end_any (some ⟨b,off,none⟩) n c l a w h hn (by omega))
 have hE:=HEE.out k0 w h
 obtain ⟨r,hr⟩:∃ r,r = endA l k0:=⟨_,rfl⟩
 rw [← hr] at hE he
 have HE:=Lib.hid hE
 obtain ⟨o,ho⟩:∃ o,o = t.op:=⟨_,rfl⟩
 rw [← ho] at HC c0 e0 h0 HM ⊢
 have hq:=(ar_bd o).2
 obtain ⟨q,hqe⟩:∃ q,q = arN o:=⟨_,rfl⟩
 rw [← hqe] at e0 HM ⊢
 rw [← e0] at HC hq
 have hq2:q ≤ 2:=by omega
 have hal:k0 < n:=by omega
 have hal':(k0:Int) < n:=by omega
 obtain ⟨i0,hi,hz0,hz1,hz2⟩:=info_parts inf_int
 have HI:=Lib.hid (And.intro hi (And.intro hz0 (And.intro hz1 hz2)))
 clear ht ho hqe hn h hc0 hk0 hm hr hE h0 e0 han hi hz0 hz1 hz2 hq
 go_enter Tryz.func158,Tryz.ntmps158
 go_wp2_with (first
  | (go_at_call 166; (with_reducible refine HE.out.mono ?_); rintro e w' ⟨rfl,rfl⟩)
  | (go_at_call 168; (with_reducible refine (HC.out _).mono ?_); rintro e w' ⟨rfl,rfl⟩))
 go_loopw [5,6,19] (fun p v i wr => BelRel w l k0 q p v i wr) (fun _ _ i _ => 3 - (intOf i).toNat)
 case atStart => exact ⟨0,Nat.zero_le _,rfl,by rw [cnt_zero]; simp,RowI.nil _ _ (Below.refl _ _)⟩
 case round =>
  obtain ⟨k,hk,rfl,rfl,hrow⟩:=hrel
  have HR:=Lib.hid hrow
  by_cases hlt:k < q
  ·obtain ⟨hx,hx2⟩:=below_next HM.out hlt
   obtain ⟨y,hy⟩:∃ y,y = k0 + 1 + (cnt k (l.drop (k0 + 1))).getD 0:=⟨_,rfl⟩
   obtain ⟨z,hz⟩:∃ z,z = k0 + 1 + (cnt (k + 1) (l.drop (k0 + 1))).getD 0:=⟨_,rfl⟩
   have HX:=Lib.hid hx
   have HY:=Lib.hid hy
   have HZ:=Lib.hid hz
   have hl:=belows_length l k0 k
   have HL1:Hid ((belows l k0 k).length + (intV [(y:Int)]).length ≤ maxLen):=Lib.hid (by rw [hl]; simp [maxLen]; omega)
   have HL2:Hid (((belows l k0 k).length + (intV [(y:Int)]).length) * 8 ≤ 140737488355328):=Lib.hid (by rw [hl]; simp; omega)
   rw [← HY.out]
   have HSZ:Hid (w.heap.size ≤ wr.heap.size):=Lib.hid hrow.2.size
   have HRA:=Lib.hid hrow.1
   clear hx hx2 hy hz hl hrow
   go_wp2_with (first
    | (at_builtin; refine wpList_append_rd _ rfl (.tmp 21) (.tmp 23) _ rfl w.heap.size 3 i0 (.int .i64 0) 8 Tryz.underlying72 HI.out.1 HI.out.2.1 HI.out.2.2.1 HI.out.2.2.2 rfl _ _ _ rfl (HRA.out.alloc _) _ (intV [(y:Int)]) rfl (Rd.lit (cs:=#[.int .i64 y]) rfl) (intV_one _) HL1.out HL2.out ?_ ?_; (have:=HSZ.out; simp; omega); intro p2 w2 hrow2 hg2 _; have HR2:=Lib.hid (RowI.add HR.out hrow2 hg2); have HT2:=Lib.hid (HT.out.keep HR2.out.2); clear hrow2 hg2)
    | (go_at_call 166; (with_reducible refine (HEE.out _ _ HT2.out).mono ?_); rintro e w' ⟨rfl,rfl⟩))
   go_roundw
   case rel => exact ⟨k + 1,hlt,by simp,by rw [HY.out,HX.out],by rw [belows_next,← HY.out]; exact HR2.out⟩
   case measure => simp [intOf]; omega
  ·obtain rfl:k = q:=by omega
   go_wp2_with fail
   go_ret
   exact ⟨_,rfl,HR.out.read,HR.out.2⟩
end Go.Proofs.YtcofikjpplkjdaaGreatDoor
namespace Go.Proofs.YtcofikjpplkjdaaGreatDoor
open Go.RowKit ValSpec
set_option maxRecDepth 100000
theorem val_str {a b:ByteArray} (h:a = b):Ending.returned (.string a) = .returned (.string b):=by rw [h]
theorem text_any (k:Nat):∀ (n:Nat) (w:World),n ≤ k → n ≤ 9223372036854775807 →
 Calls Tryz.prog 64 #[.int .i64 n] w fun e w' => e = .returned (.string ⟨(digs n).toArray⟩) ∧ w = w':=by
 induction k with
 | zero =>
   intro n w hk hb
   obtain rfl:n = 0:=by omega
   go_enter Tryz.func64,Tryz.ntmps64
   go_wp2_with fail
   go_ret
   exact ⟨val_str (by rw [digs_lt (by omega)]; exact extract_digit (d:=0) (by omega)),rfl⟩
 | succ k ih =>
   intro n w hk hb
   by_cases h:n < 10
   ·go_enter Tryz.func64,Tryz.ntmps64
    go_wp2_with fail
    go_ret
    exact ⟨val_str (by rw [digs_lt h,Nat.mod_eq_of_lt h]; exact extract_digit h),rfl⟩
   ·have hl:(digs (n / 10)).length ≤ 19:=digs_len 18 _ (by omega)
    go_enter Tryz.func64,Tryz.ntmps64
    go_wp2_with (go_at_call 64; refine (ih (n / 10) _ (by omega) (by omega)).mono ?_; rintro e w' ⟨rfl,rfl⟩)
    go_ret
    exact ⟨val_str (by rw [digs_ge h,extract_digit (Nat.mod_lt _ (by omega)),str_app]),rfl⟩
theorem neg_parts (n:Int) (h:n < 0) (h1:-9223372036854775808 ≤ n):∃ d q:Nat,n.tmod 10 = -(d:Int) ∧ n.tdiv 10 = -(q:Int) ∧ d < 10 ∧ q ≤ 922337203685477580 ∧ n.natAbs = 10 * q + d:=by
 obtain ⟨m,rfl⟩:∃ m:Nat,n = -(m:Int):=⟨n.natAbs,by omega⟩
 refine ⟨m % 10,m / 10,?_,?_,Nat.mod_lt _ (by omega),by omega,by rw [Int.natAbs_neg]; simp; omega⟩
 ·rw [Int.neg_tmod]; rfl
 ·rw [Int.neg_tdiv]; rfl
theorem vdigit_any (d:Int) (w:World) (h0:0 ≤ d) (h9:d ≤ 9) :
 Calls Tryz.prog 74 #[.int .i64 d] w fun e w' => e = .returned (.int .u8 (48 + d)) ∧ w = w':=by
 go_enter Tryz.func74,Tryz.ntmps74
 go_wp2
 go_ret
 exact ⟨rfl,rfl⟩
def byteV (c:UInt8):Value:=.int .u8 c.toNat
def cellsOf (z:Nat) (cs:List UInt8):Array Value:=(List.replicate z (Value.int .u8 0) ++ cs.map byteV).toArray
theorem cells_zero {z k:Nat} {cs:List UInt8} (h:k < z):(cellsOf z cs)[k]? = some (.int .u8 0):=by
 simp [cellsOf,List.getElem?_append,h]
theorem cells_set {z:Nat} {cs:List UInt8} (c:UInt8):(cellsOf (z + 1) cs).setIfInBounds z (byteV c) = cellsOf z (c :: cs):=by
 apply Array.ext'
 simp only [cellsOf,Array.toList_setIfInBounds]
 rw [List.set_append_left _ _ (by simp)]
 simp [List.replicate_succ',List.set_append_right]
theorem byteV_digit {d:Nat} (h:d < 10):byteV (UInt8.ofNat (48 + d)) = .int .u8 (48 + (d:Int)):=by
 unfold byteV; rw [byte_nat (by omega)]; simp
theorem cell_of_block {w:World} {b:Nat} {cs:Array Value} {t:TypeId} (h:w.heap[b]? = some (.cells cs t (0,0))) {i:Nat} {v:Value} (hi:cs[i]? = some v):w.cell? ⟨b,i,none⟩ = some v:=by simp [World.cell?,h,hi]
theorem free_of_block {w:World} {b:Nat} {cs:Array Value} {t:TypeId} (h:w.heap[b]? = some (.cells cs t (0,0))) (i:Nat):w.frozen? ⟨b,i,none⟩ = false:=by simp [World.frozen?,h]
theorem block_setCell {w:World} {b:Nat} {cs:Array Value} {t:TypeId} (h:w.heap[b]? = some (.cells cs t (0,0))) (i:Nat) (u:Value):(w.setCell ⟨b,i,none⟩ u).heap[b]? = some (.cells (cs.setIfInBounds i u) t (0,0)):=by
 have hlt:=lt_of_block h
 have h':w.heap[b] = .cells cs t (0,0):=by simpa [Array.getElem?_eq_getElem hlt] using h
 show (w.heap.modify b _)[b]? = _
 rw [Array.getElem?_eq_getElem (by simpa using hlt),Array.getElem_modify_self,h']
 rfl
def PutRel (W:World) (m:Nat) (rv av:Value) (wr:World):Prop :=
 ∃ (i:Nat) (r:Int) (cs:List UInt8),cs.length + i = 18 ∧ rv = .int .i64 r ∧ av = .int .i64 ((i:Int) + 1) ∧ r ≤ 0 ∧ -9223372036854775808 ≤ r ∧ digs m = digs r.natAbs ++ cs ∧ r.natAbs * 10 ^ (18 - i) ≤ m ∧
   wr.heap[W.heap.size]? = some (.cells (cellsOf (i + 2) cs) 123 (0,0)) ∧ Below W.heap.size W wr
theorem put_step {W wr:World} {m i q d:Nat} {r:Int} {cs:List UInt8} (hm:m ≤ 9223372036854775808) (hl:cs.length + i = 18) (hr:r < -9) (hd:digs m = digs r.natAbs ++ cs) (hp:r.natAbs * 10 ^ (18 - i) ≤ m)
 (hb:wr.heap[W.heap.size]? = some (.cells (cellsOf (i + 2) cs) 123 (0,0))) (hbel:Below W.heap.size W wr) (hn:r.natAbs = 10 * q + d) (hd10:d < 10) (hq:q ≤ 922337203685477580) :
 PutRel W m (.int .i64 (-(q:Int))) (.int .i64 i) (wr.setCell ⟨W.heap.size,i + 1,none⟩ (.int .u8 (48 + (d:Int)))):=by
 have hi:1 ≤ i:=by
  rcases Nat.lt_or_ge 0 i with h | h
  ·exact h
  ·exfalso
   obtain rfl:i = 0:=by omega
   have:10 * 10 ^ 18 ≤ r.natAbs * 10 ^ (18 - 0):=Nat.mul_le_mul_right _ (by omega)
   omega
 obtain ⟨k,rfl⟩:∃ k,i = k + 1:=⟨i - 1,by omega⟩
 have hq1:1 ≤ q:=by omega
 refine ⟨k,-(q:Int),UInt8.ofNat (48 + d) :: cs,by simp; omega,rfl,by simp,by omega,by omega,?_,?_,?_,hbel.setCell (Nat.le_refl _) _⟩
 ·rw [hd,hn,digs_ge (n:=10 * q + d) (by omega),show (10 * q + d) / 10 = q by omega,show (10 * q + d) % 10 = d by omega]
  simp
 ·have e:18 - k = (18 - (k + 1)) + 1:=by omega
  rw [e,Nat.pow_succ]
  refine Nat.le_trans ?_ hp
  rw [hn,Int.natAbs_neg,Int.natAbs_natCast,Nat.mul_comm (10 ^ _) 10,← Nat.mul_assoc]
  exact Nat.mul_le_mul_right _ (by omega)
 ·rw [block_setCell hb,← byteV_digit hd10,cells_set]
theorem slice_tail (B l L:Nat) (li:Int) (hli:li = l) (hl:l + L = 20) (h1:1 ≤ L) (W:World):(Instr.sliceAt 123 (.pointer (some ⟨B,0,none⟩)) (some (.int .i64 li)) none none).run Tryz.prog W = .ok (.slice (some ⟨B,l,none⟩) L L) W:=by
 subst hli
 have hal:Tryz.prog.arrayLen 123 = 20:=by simp [Program.arrayLen,Tryz.underlying123]
 rw [run_sliceAt_array_l W 123 ⟨B,0,none⟩ (by simp [Program.arrayLen,Program.elem,Tryz.underlying123]) .i64 (l:Int) (by omega) (by rw [hal]; omega),hal]
 go_simp
 omega
theorem tail_text {w:World} {B z:Nat} {cs:List UInt8} (h:w.heap[B]? = some (.cells (cellsOf z cs) 123 (0,0))) (L:Nat) (hL:cs.length = L) :
 (convert 80 9 (.slice (some ⟨B,z,none⟩) L L)).run Tryz.prog w = .ok (.string ⟨cs.toArray⟩) w:=by
 subst hL
 refine run_convert_bytes_back _ _ _ _ _ cs.length cs Tryz.underlying80 Tryz.underlying5 Tryz.underlying9 (fun j hj => ?_)
 have ea:(⟨B,z,none⟩:Addr).add j = ⟨B,z + j,none⟩:=by unfold Addr.add; split <;> simp_all
 rw [ea]
 refine cell_of_block h ?_
 simp [cellsOf,List.getElem?_append,show ¬ (z + j < z) by omega,List.getElem?_eq_getElem hj,byteV]
theorem put_last {W wr:World} {m i d:Nat} {r:Int} {cs:List UInt8} (hr:r = -(d:Int)) (hd10:d < 10) (hd:digs m = digs r.natAbs ++ cs)
 (hb:wr.heap[W.heap.size]? = some (.cells (cellsOf (i + 2) cs) 123 (0,0))) :
 (wr.setCell ⟨W.heap.size,i + 1,none⟩ (.int .u8 (48 + (d:Int)))).heap[W.heap.size]? = some (.cells (cellsOf (i + 1) (digs m)) 123 (0,0)):=by
 rw [block_setCell hb,← byteV_digit hd10,cells_set,hd,hr,Int.natAbs_neg,Int.natAbs_natCast,digs_lt hd10]
 rfl
theorem put_sign {wr:World} {B i:Nat} {cs:List UInt8} (hb:wr.heap[B]? = some (.cells (cellsOf (i + 1) cs) 123 (0,0))) :
 (wr.setCell ⟨B,i,none⟩ (.int .u8 45)).heap[B]? = some (.cells (cellsOf i (45 :: cs)) 123 (0,0)):=by
 rw [block_setCell hb,show (Value.int .u8 45) = byteV 45 from rfl,cells_set]
set_option maxRecDepth 100000 in
set_option maxHeartbeats 800000 in
theorem put_any (n:Int) (w:World) (h1:-9223372036854775808 ≤ n) (h2:n ≤ 9223372036854775807) :
 Calls Tryz.prog 41 #[.int .i64 n] w fun e w' => e = .returned (.string ⟨(text n).toArray⟩) ∧ Below w.heap.size w w':=by
 rcases (show 0 < n ∨ n < 0 ∨ n ≤ 0 ∧ 0 ≤ n by omega) with h | h | ⟨h,h'⟩
 all_goals
  go_enter Tryz.func41,Tryz.ntmps41
  go_wp2_with fail
  go_loopw [3,5] (fun r a wr => PutRel w n.natAbs r a wr) (fun r _ _ => (intOf r).natAbs)
  case atStart => first
   | exact ⟨18,-n,[],rfl,rfl,rfl,by omega,by omega,by simp,by simp,(heap_alloc_new _ _).trans rfl,(Below.refl _ _).alloc (Nat.le_refl _) _⟩
   | exact ⟨18,n,[],rfl,rfl,rfl,by omega,by omega,by simp,by simp,(heap_alloc_new _ _).trans rfl,(Below.refl _ _).alloc (Nat.le_refl _) _⟩
  case round =>
   obtain ⟨i,r,cs,hl,rfl,rfl,hr,hr2,hd,hp,hb,hbel⟩:=hrel
   have hi2:i ≤ 18:=by omega
   have hc:=cell_of_block hb (cells_zero (k:=i + 1) (by omega))
   have hf:=free_of_block hb (i + 1)
   have hc':=cell_of_block hb (cells_zero (k:=i) (by omega))
   have hf':=free_of_block hb i
   by_cases h9:r < -9
   ·obtain ⟨d,q,hd1,hq,hd10,hqb,hn⟩:=neg_parts r (by omega) hr2
    have HR:=Lib.hid (put_step (show n.natAbs ≤ 9223372036854775808 by omega) hl h9 hd hp hb hbel hn hd10 hqb)
    have HM:Hid (q < r.natAbs):=Lib.hid (by omega)
    clear hn hd hp hb hl hc' hf'
    go_wp2_with (go_at_call 74; refine (vdigit_any _ _ (by omega) (by omega)).mono ?_; rintro e w' ⟨rfl,rfl⟩)
    go_round
    case rel => exact HR.out
    case measure => have:=HM.out; simp [intOf]; omega
   ·obtain ⟨d,rfl⟩:∃ d:Nat,r = -(d:Int):=⟨r.natAbs,by omega⟩
    have hd10:d < 10:=by omega
    have hb2:=put_last (m:=n.natAbs) rfl hd10 hd hb
    have hlen:(digs n.natAbs).length = 19 - i:=by
     rw [hd,List.length_append,Int.natAbs_neg,Int.natAbs_natCast,digs_lt hd10]; simp; omega
    by_cases hneg:n < 0
    ·first
     | (exfalso; omega)
     | (have hb3:=put_sign hb2
        obtain ⟨L,hL⟩:∃ L,L = 20 - i:=⟨_,rfl⟩
        have hsl:=slice_tail w.heap.size i L (i:Int) rfl (by omega) (by omega)
        have hcv:=tail_text hb3 L (by simp; omega)
        have HB:Hid (Below w.heap.size w ((wr.setCell ⟨w.heap.size,i + 1,none⟩ (.int .u8 (48 + (d:Int)))).setCell ⟨w.heap.size,i,none⟩ (.int .u8 45))):=Lib.hid ((hbel.setCell (Nat.le_refl _) _).setCell (Nat.le_refl _) _)
        clear hb hb2 hb3 hlen hd hp hl hL hbel
        go_wp2_with (go_at_call 74; refine (vdigit_any _ _ (by omega) (by omega)).mono ?_; rintro e w' ⟨rfl,rfl⟩)
        go_ret
        exact ⟨val_str (by unfold text; rw [if_pos (by omega)]),HB.out⟩)
    ·first
     | (exfalso; omega)
     | (obtain ⟨L,hL⟩:∃ L,L = 19 - i:=⟨_,rfl⟩
        have hsl:=slice_tail w.heap.size (i + 1) L ((i:Int) + 1) rfl (by omega) (by omega)
        have hcv:=tail_text hb2 L (by omega)
        have HB:Hid (Below w.heap.size w (wr.setCell ⟨w.heap.size,i + 1,none⟩ (.int .u8 (48 + (d:Int))))):=Lib.hid (hbel.setCell (Nat.le_refl _) _)
        clear hb hb2 hlen hd hp hl hL hbel hc' hf'
        go_wp2_with (go_at_call 74; refine (vdigit_any _ _ (by omega) (by omega)).mono ?_; rintro e w' ⟨rfl,rfl⟩)
        go_ret
        exact ⟨val_str (by unfold text; rw [if_neg (by omega)]),HB.out⟩)
end Go.Proofs.YtcofikjpplkjdaaGreatDoor
namespace Go.Proofs.YtcofikjpplkjdaaGreatDoor
open Go.RowKit CurSpec TermSpec ExprSpec
set_option maxRecDepth 100000
namespace ExprSpec
def bk (b:Prop) [Decidable b] (s:ByteArray):ByteArray:=if b then (⟨#[40]⟩ ++ s) ++ ⟨#[41]⟩ else s
def tx:Ex → ByteArray
 | .leaf t => if t.op = 1 then bs (ValSpec.text t.n) else if t.op = 2 then t.s else if t.op = 9 then ⟨#[116,114,117,101]⟩ else if t.op = 10 then ⟨#[102,97,108,115,101]⟩ else (⟨#[105,110,40]⟩ ++ t.s) ++ ⟨#[41]⟩
 | .un o a => if o = 3 then ⟨#[45]⟩ ++ bk (lev a < 7) (tx a) else ⟨#[110,111,116,32]⟩ ++ bk (lev a < 3) (tx a)
 | .bin o a b => if o = 7 then (((⟨#[109,105,110,40]⟩ ++ tx a) ++ ⟨#[44,32]⟩) ++ tx b) ++ ⟨#[41]⟩
   else if o = 8 then (((⟨#[109,97,120,40]⟩ ++ tx a) ++ ⟨#[44,32]⟩) ++ tx b) ++ ⟨#[41]⟩
   else (((bk (lev a < (sgOf o).left) (tx a) ++ ⟨#[32]⟩) ++ (sgOf o).t) ++ ⟨#[32]⟩) ++ bk (lev b < (sgOf o).right) (tx b)
def opE:Ex → Int
 | .leaf t => t.op
 | .un o _ => o
 | .bin o _ _ => o
def levO (o:Int):Int:=if o = 1 ∨ o = 2 ∨ o = 9 ∨ o = 10 ∨ o = 11 ∨ o = 7 ∨ o = 8 then 8 else if o = 12 then 3 else if o = 3 then 7 else (opSg o).lev
theorem lev_opE {e:Ex} (h:Good e):lev e = levO (opE e):=by
 cases e with
 | leaf t =>
   have:=leaf_ops h.1
   show (8:Int) = levO t.op
   unfold levO
   rw [if_pos (by omega)]
 | un o a =>
   have ho:o = 3 ∨ o = 12:=by
    have h1:=h.1
    unfold ar at h1
    split at h1
    ·omega
    split at h1
    ·assumption
    split at h1 <;> omega
   rcases ho with rfl | rfl <;> rfl
 | bin o a b =>
   have e:lev (.bin o a b) = if o = 7 ∨ o = 8 then 8 else (sgOf o).lev:=rfl
   rw [e]
   show _ = levO o
   unfold levO
   by_cases h7:o = 7 ∨ o = 8
   ·rw [if_pos h7,if_pos (by omega)]
   ·have h1:¬ (o = 1 ∨ o = 2 ∨ o = 9 ∨ o = 10 ∨ o = 11 ∨ o = 12 ∨ o = 3):=by
    rintro (rfl | rfl | rfl | rfl | rfl | rfl | rfl) <;> exact absurd h.1 (by decide)
    rw [if_neg h7,if_neg (by omega),if_neg (by omega),if_neg (by omega)]
    rfl
theorem bk_size (b:Prop) [Decidable b] (s:ByteArray):(bk b s).size ≤ s.size + 2:=by
 unfold bk
 split
 ·rw [ByteArray.size_append,ByteArray.size_append]
  show 1 + s.size + 1 ≤ _
  omega
 ·omega
theorem bs_size (l:List UInt8):(bs l).size = l.length:=rfl
theorem name_size {s:ByteArray} (h:NamesSpec.isName s.data.toList = true):s.size ≤ 12:=by
 unfold NamesSpec.isName at h
 simp only [Bool.and_eq_true,decide_eq_true_eq] at h
 have:=h.1.1.1.2
 rwa [show s.data.toList.length = s.size from rfl] at this
theorem text_size {n:Int} (h:0 ≤ n ∧ n ≤ 1000000):(ValSpec.text n).length ≤ 12:=by
 unfold ValSpec.text
 rw [if_neg (by omega)]
 have:=ValSpec.digs_len 6 n.natAbs (by omega)
 omega
theorem sg_size:∀ s ∈ sgs,s.t.size ≤ 3:=by decide
theorem tx_size:∀ {e:Ex},Good e → (tx e).size ≤ 30 * (flat e).length
 | .leaf t,h => by
   show (tx (.leaf t)).size ≤ 30
   unfold tx
   rcases leaf_ops h.1 with h1 | h1 | h1 | h1 | h1
   ·rw [if_pos h1,bs_size]
    have:=text_size (may_num h1 h.2).1
    omega
   ·rw [if_neg (by omega),if_pos h1]
    have:=name_size (may_name (.inl h1) h.2).1
    omega
   ·rw [if_neg (by omega),if_neg (by omega),if_pos h1]
    decide
   ·rw [if_neg (by omega),if_neg (by omega),if_neg (by omega),if_pos h1]
    decide
   ·rw [if_neg (by omega),if_neg (by omega),if_neg (by omega),if_neg (by omega),ByteArray.size_append,ByteArray.size_append]
    have:=name_size (may_name (.inr h1) h.2).1
    show 3 + t.s.size + 1 ≤ 30
    omega
 | .un o a,h => by
   have ih:=tx_size h.2
   have h7:=bk_size (lev a < 7) (tx a)
   have h3:=bk_size (lev a < 3) (tx a)
   show (tx (.un o a)).size ≤ 30 * ((flat a).length + 1)
   unfold tx
   split
   ·rw [ByteArray.size_append]
    show 1 + _ ≤ _
    omega
   ·rw [ByteArray.size_append]
    show 4 + _ ≤ _
    omega
 | .bin o a b,h => by
   have iha:=tx_size h.2.1
   have ihb:=tx_size h.2.2
   have hl:=bk_size (lev a < (sgOf o).left) (tx a)
   have hr:=bk_size (lev b < (sgOf o).right) (tx b)
   show (tx (.bin o a b)).size ≤ 30 * ((flat a ++ flat b).length + 1)
   rw [List.length_append]
   unfold tx
   by_cases h7:o = 7
   ·rw [if_pos h7]
    simp only [ByteArray.size_append]
    show 4 + _ + 2 + _ + 1 ≤ _
    omega
   by_cases h8:o = 8
   ·rw [if_neg h7,if_pos h8]
    simp only [ByteArray.size_append]
    show 4 + _ + 2 + _ + 1 ≤ _
    omega
   ·rw [if_neg h7,if_neg h8]
    have:=sg_size _ (sgOf_mem h.1 (by omega)).1
    simp only [ByteArray.size_append]
    show _ + 1 + _ + 1 + _ ≤ _
    omega
theorem flat_first (e:Ex):∃ t r,flat e = t :: r ∧ t.op = opE e:=by
 cases e with
 | leaf t => exact ⟨t,[],rfl,rfl⟩
 | un o a => exact ⟨opT o,flat a,rfl,rfl⟩
 | bin o a b => exact ⟨opT o,flat a ++ flat b,rfl,rfl⟩
end ExprSpec
def RetS (W:World) (s:ByteArray) (e:Ending) (w':World):Prop:=e = .returned (.string s) ∧ Below W.heap.size W w'
structure TxAt (W:World) (A:Option Addr) (n c:Nat) (l:List Tm):Prop where
 tms:Tms W (.slice A n c) l
 len:n = l.length
 few:n ≤ 1000
 sg:SignsIn W
theorem TxAt.on {W W':World} {A:Option Addr} {n c:Nat} {l:List Tm} (h:TxAt W A n c l) (hb:Below W.heap.size W W'):TxAt W' A n c l:=⟨h.tms.keep hb,h.len,h.few,h.sg.keep hb⟩
def TextOk (e:Ex):Prop:=∀ A n c l (a:Nat) rest W,TxAt W A n c l → l.drop a = flat e ++ rest → Calls Tryz.prog 152 #[.slice A n c,.int .i64 a] W (RetS W (tx e))
def WithinOk (e:Ex):Prop:=∀ A n c l (a:Nat) rest (k:Int) W,TxAt W A n c l → l.drop a = flat e ++ rest → Calls Tryz.prog 159 #[.slice A n c,.int .i64 a,.int .i64 k] W (RetS W (bk (lev e < k) (tx e)))
theorem sg_field (x0 x1 x2 x3 x4:Value) (w:World):(Instr.field 190 (.agg #[x0,x1,x2,x3,x4]) 2).run Tryz.prog w = .ok x2 w:=by kernel_rfl
set_option maxHeartbeats 2000000 in
theorem level_any (o:Int) (w:World) (hs:SignsIn w):Calls Tryz.prog 169 #[.int .i64 o] w (RetI w (levO o)):=by
 have HS:Hid (Calls Tryz.prog 160 #[.int .i64 o] w fun e w' => e = .returned (.agg #[.string (opSg o).t,.int .i64 (opSg o).op,.int .i64 (opSg o).lev,.int .i64 (opSg o).left,.int .i64 (opSg o).right]) ∧ Below w.heap.size w w'):=Lib.hid (signOf_any o w hs)
 clear hs
 by_cases h8:o = 1 ∨ o = 2 ∨ o = 9 ∨ o = 10 ∨ o = 11 ∨ o = 7 ∨ o = 8
 ·have HO:Hid (levO o = 8):=Lib.hid (if_pos h8)
  rcases h8 with rfl | rfl | rfl | rfl | rfl | rfl | rfl
  all_goals
   go_enter Tryz.func169,Tryz.ntmps169
   go_wp2_with fail
   go_ret
   exact ⟨by rw [HO.out]; rfl,Below.refl _ _⟩
 ·by_cases h12:o = 12
  ·subst h12
   go_enter Tryz.func169,Tryz.ntmps169
   go_wp2_with fail
   go_ret
   exact ⟨rfl,Below.refl _ _⟩
  ·by_cases h3:o = 3
   ·subst h3
    go_enter Tryz.func169,Tryz.ntmps169
    go_wp2_with fail
    go_ret
    exact ⟨rfl,Below.refl _ _⟩
   ·have HO:Hid (levO o = (opSg o).lev):=Lib.hid (by unfold levO; rw [if_neg h8,if_neg h12,if_neg h3])
    have e1:(o == 1) = false:=by simp; omega
    have e2:(o == 2) = false:=by simp; omega
    have e3:(o == 9) = false:=by simp; omega
    have e4:(o == 10) = false:=by simp; omega
    have e5:(o == 11) = false:=by simp; omega
    have e6:(o == 7) = false:=by simp; omega
    have e7:(o == 8) = false:=by simp; omega
    have e8:(o == 12) = false:=by simp; omega
    have e9:(o == 3) = false:=by simp; omega
    have hfl:=sg_field
    clear h8 h12 h3
    go_enter Tryz.func169,Tryz.ntmps169
    go_wp2_with (go_at_call 160; (with_reducible refine HS.out.mono ?_))
    rintro e w1 ⟨rfl,hb1⟩
    have HB1:=Lib.hid hb1
    clear hb1
    go_wp2_with fail
    go_ret
    exact ⟨by rw [HO.out]; rfl,HB1.out⟩
set_option maxHeartbeats 2000000 in
theorem within_ok {x:Ex} (hg:ExprSpec.Good x) (ht:TextOk x):WithinOk x:=by
 intro A n c l a rest k w h hd
 have HTX:=Lib.hid (ht A n c l a rest w h hd)
 obtain ⟨t,r,hf,hop⟩:=flat_first x
 have hla:l[a]? = some t:=by
  have:(l.drop a)[0]? = some t:=by rw [hd,hf]; rfl
  rwa [List.getElem?_drop] at this
 obtain ⟨b,off,rfl,hb,c0,-,-⟩:=h.tms.at_ hla
 have hlen:=h.len
 have hal:a < n:=by have:=get_lt hla; omega
 have hz:(tx x).size ≤ 60000:=by
  have h1:=tx_size hg
  have h2:=congrArg List.length hd
  have h3:=h.few
  rw [List.length_drop,List.length_append] at h2
  omega
 have hal':(a:Int) < n:=by omega
 have HL:=Lib.hid (fun w h => level_any t.op w h)
 obtain ⟨lv,hlv⟩:∃ lv,lv = levO t.op:=⟨_,rfl⟩
 rw [← hlv] at HL
 have HE:Hid (lev x = lv):=Lib.hid (by rw [lev_opE hg,hlv,hop])
 obtain ⟨o,ho⟩:∃ o,o = t.op:=⟨_,rfl⟩
 rw [← ho] at HL c0
 have HS:=Lib.hid h.sg
 have HC0:=Lib.hid c0
 clear ht h hd hf hop hla hlen ho hlv c0
 by_cases hk:lv < k
 all_goals
  go_enter Tryz.func159,Tryz.ntmps159
  go_wp2_with (go_at_call 152; (with_reducible refine HTX.out.mono ?_))
  rintro e w1 ⟨rfl,hb1⟩
  have c1:=(hb1.cell (p:=⟨b,off + a * 3,none⟩) hb).trans HC0.out
  have HL1:=Lib.hid (HL.out w1 (HS.out.keep hb1))
  have HB1:=Lib.hid hb1
  clear hb1
  go_wp2_with (go_at_call 169; (with_reducible refine HL1.out.mono ?_))
  rintro e w2 ⟨rfl,hb2⟩
  have HB2:=Lib.hid (below_two' HB1.out hb2)
  clear hb2 c1
  go_wp2_with fail
  go_ret
  refine ⟨?_,HB2.out⟩
  rw [HE.out]
  first | rw [show bk (lv < k) (tx x) = (⟨#[40]⟩ ++ tx x) ++ ⟨#[41]⟩ from if_pos hk] | rw [show bk (lv < k) (tx x) = tx x from if_neg (by omega)]
  rfl
end Go.Proofs.YtcofikjpplkjdaaGreatDoor
namespace Go.Proofs.YtcofikjpplkjdaaGreatDoor
namespace ActSpec
open TermSpec EvalSpec NamesSpec ExprSpec
structure Ta where
 s:ByteArray
 any:Bool
 e:Ex
def Ta.ac (t:Ta):Ac:=⟨t.s,t.any,if t.any then [] else flat t.e⟩
def Ta.Ok (t:Ta):Prop:=isName t.s.data.toList = true ∧ (t.any = false → ExprSpec.Good t.e ∧ chk (flat t.e) = 0)
theorem ta_one {t:Ta} (h:t.Ok):oneA t.ac = 0:=by
 unfold oneA Ta.ac
 rw [if_neg (by simp [h.1])]
 rcases ha:t.any with _ | _
 ·simp [(h.2 ha).2]
 ·simp
theorem tas_first:∀ {ts:List Ta},(∀ t ∈ ts,t.Ok) → firstA (ts.map Ta.ac) = 0
 | [],_ => rfl
 | t :: ts,h => by
   rw [List.map_cons]
   unfold firstA
   rw [if_pos (ta_one (h t (by simp)))]
   exact tas_first fun u hu => h u (by simp [hu])
def txA (t:Ta):ByteArray:=if t.any then ⟨#[97,110,121,32]⟩ ++ t.s else t.s ++ ⟨#[32,58,61,32]⟩ ++ tx t.e
theorem ta_few {t:Ta} (h:t.Ok) (ha:t.any = false):(flat t.e).length ≤ 40:=(wholeB_iff.1 (chk_ok (h.2 ha).2).1).1
theorem txA_size {t:Ta} (h:t.Ok):(txA t).size ≤ 1300:=by
 have h1:=name_size h.1
 unfold txA
 rcases ha:t.any with _ | _
 ·have h2:=tx_size (h.2 ha).1
  have h3:=ta_few h ha
  simp only [Bool.false_eq_true,if_false,ByteArray.size_append]
  show t.s.size + 4 + (tx t.e).size ≤ 1300
  omega
 ·simp only [if_true,ByteArray.size_append]
  show 4 + t.s.size ≤ 1300
  omega
def putT (ts:List Ta):List UInt8:=Lib.join (ts.map fun t => (txA t).data.toList) [44,32]
def putB (ts:List Ta):ByteArray:=⟨(putT ts).toArray⟩
theorem putT_snoc (ts:List Ta) (t:Ta):putT (ts ++ [t]) = (if ts = [] then [] else putT ts ++ [44,32]) ++ (txA t).data.toList:=by
 unfold putT
 cases ts with
 | nil => simp [Lib.join_one]
 | cons u r =>
   rw [if_neg (by simp)]
   simp only [List.cons_append,List.map_cons,List.map_append,Lib.join_cons,List.map_nil]
   unfold Lib.joinTail
   simp
theorem putB_snoc (ts:List Ta) (t:Ta):putB (ts ++ [t]) = (if ts = [] then ⟨#[]⟩ else putB ts ++ ⟨#[44,32]⟩) ++ txA t:=by
 apply ByteArray.ext
 apply Array.ext'
 rw [ByteArray.data_append]
 simp only [putB,putT_snoc]
 split
 ·simp
 ·simp [ByteArray.data_append]
theorem putB_size {ts:List Ta} (h:∀ t ∈ ts,t.Ok):(putB ts).size ≤ 1302 * ts.length:=by
 have:∀ n,n ≤ ts.length → (putB (ts.take n)).size ≤ 1302 * n:=by
  intro n
  induction n with
  | zero => intro _; simp [putB,putT,Lib.join_nil,ByteArray.size]
  | succ n ih =>
    intro hn
    have hg:ts[n]? = some ts[n]:=List.getElem?_eq_getElem (by omega)
    have h1:=ih (by omega)
    have h2:=txA_size (h ts[n] (List.getElem_mem _))
    rw [List.take_add_one,hg,Option.toList_some,putB_snoc,ByteArray.size_append]
    split
    ·show 0 + _ ≤ _
     omega
    ·rw [ByteArray.size_append]
     show _ + 2 + _ ≤ _
     omega
 have h2:=this ts.length (Nat.le_refl _)
 rwa [List.take_length] at h2
end ActSpec
end Go.Proofs.YtcofikjpplkjdaaGreatDoor
namespace Go.Proofs.YtcofikjpplkjdaaGreatDoor
open Go.RowKit CurSpec TermSpec ExprSpec
set_option maxRecDepth 100000
theorem RdAt.other {w w':World} {R B j:Nat} {v:Value} {c:Cur} {l:List Tm} (h:RdAt w R B v c l) (hb:w.grownBy w' (some j)) (hj:R < j) (hne:v.ownBlock ≠ some j):RdAt w' R B v c l:=by
 have hlt:=h.lt
 have hR:=h.lt'
 refine ⟨h.cur.upto hb.size (fun i hi => hb.block i (by omega) (by simp; omega)),(hb.block R hR (by simp; omega)).trans h.blk,⟨h.own.1,?_⟩,h.lt,h.few,h.small⟩
 rcases h.own.2 with h' | ⟨g,cap,cur,h1,h2,h3,h4⟩
 ·exact .inl h'
 ·refine .inr ⟨g,cap,cur,h1,h2,(hb.block g (Array.getElem?_eq_some_iff.1 h3).1 ?_).trans h3,h4⟩
  intro e
  refine hne ?_
  rw [h1]
  exact e
theorem but_five {a b:World} {B k:Nat} (h:a.grownBy b (some B)) (hk:a.heap.size ≤ k) (u0 u1 u2 u3 u4:Value) :
 a.grownBy (((((b.setCell ⟨k,0,none⟩ u0).setCell ⟨k,1,none⟩ u1).setCell ⟨k,2,none⟩ u2).setCell ⟨k,3,none⟩ u3).setCell ⟨k,4,none⟩ u4) (some B) :=
 but_set_new (but_set_new (but_set_new (but_set_new (but_set_new h hk _ _) hk _ _) hk _ _) hk _ _) hk _ _
theorem but_five' (b:World) (k:Nat) (u0 u1 u2 u3 u4:Value) :
 b.grownBy (((((b.setCell ⟨k,0,none⟩ u0).setCell ⟨k,1,none⟩ u1).setCell ⟨k,2,none⟩ u2).setCell ⟨k,3,none⟩ u3).setCell ⟨k,4,none⟩ u4) (some k) :=
 but_set (but_set (but_set (but_set (but_set (but_refl _ _) _ _) _ _) _ _) _ _) _ _
set_option maxHeartbeats 4000000 in
theorem add_at (R B:Nat) (v:Value) (c:Cur) (l:List Tm) (t:Tm) (w:World) (h:RdAt w R B v c l) (ht:t.s.size ≤ 9223372036854775807) :
 Calls Tryz.prog 171 #[.pointer (some ⟨R,0,none⟩),.agg #[.int .i64 t.op,.int .i64 t.n,.string t.s]] w (RetRd w R B v c (ins l l.length t)):=by
 obtain ⟨A,cp,rfl⟩:=own_shape h.own
 obtain ⟨n,hn⟩:∃ n,n = l.length:=⟨_,rfl⟩
 obtain ⟨r0,r1⟩:=cells_2 (h.alloc (tmO t)).blk
 obtain ⟨b0,b1,b2⟩:=cells_3 (heap_alloc_new w (tmO t))
 have HINS:=Lib.hid (insert_at R B _ c l n t _ (h.alloc (tmO t)).drew (by omega) ht)
 rw [← hn] at r1 HINS ⊢
 clear h hn ht
 go_enter Tryz.func171,Tryz.ntmps171
 go_wp2_with fail
 go_region_law (go_simp; go_at_call 165; (with_reducible refine HINS.out.mono ?_); rintro e x ⟨v',rfl,hR',hH'⟩; have HE:=Lib.hid (And.intro hR' hH'); clear hR' hH')
 all_goals
  go_wp2_with fail
  go_end0
  exact ⟨_,rfl,HE.out.1,(Hold.of_below _ ((Below.refl _ _).alloc (Nat.le_refl _) _).drew).trans HE.out.2⟩
abbrev sgZO:Obj:=.cells #[.string ⟨#[]⟩,.int .i64 0,.int .i64 0,.int .i64 0,.int .i64 0] 190
abbrev tkO (t:Tk):Obj:=.cells #[.int .i64 t.k,.string t.t,.int .i64 t.l,.int .i64 t.c] 92
def RetSg (W:World) (R B:Nat) (v:Value) (c:Cur) (l:List Tm) (o:Option Sg) (e:Ending) (w':World):Prop :=
 ∃ s b d,e = .returned (.tuple #[sgA s,.bool b]) ∧ (match o with | none => s = sgZ ∧ b = false ∧ d = c | some y => s = y ∧ b = true ∧ d = on c) ∧ RdAt w' R B v d l ∧ W.grownBy w' (some B)
theorem look_self {y:Sg} (h:y ∈ sgs):ExprSpec.look y.t = some y:=by
 unfold sgs at h
 simp only [List.mem_cons,List.not_mem_nil,or_false] at h
 rcases h with rfl | rfl | rfl | rfl | rfl | rfl | rfl | rfl | rfl | rfl | rfl <;> rfl
def Bt (t:ByteArray) (lev k:Int) (y:Sg):Prop:=y.t = t ∧ y.left ≤ lev ∧ k ≤ y.lev
def BtRel (W:World) (t:ByteArray) (lev k:Int) (i:Value) (wr:World):Prop:=∃ j:Nat,j ≤ 11 ∧ i = .int .i64 j ∧ (∀ y ∈ sgs.take j,¬ Bt t lev k y) ∧ Below W.heap.size W wr
theorem bt_next {t:ByteArray} {lev k:Int} {j:Nat} {s:Sg} (h:∀ y ∈ sgs.take j,¬ Bt t lev k y) (hs:sgs[j]? = some s) (hne:¬ Bt t lev k s):∀ y ∈ sgs.take (j + 1),¬ Bt t lev k y:=by
 intro y hy
 rw [take_next hs,List.mem_append,List.mem_singleton] at hy
 rcases hy with hy | rfl
 ·exact h y hy
 ·exact hne
theorem bt_none {c:Cur} {lev k:Int} (h:∀ y ∈ sgs.take 11,¬ Bt (next c).t lev k y):sgn c lev k = none:=sgn_none fun s hs => by
 obtain ⟨h1,h2,h3,h4,hm⟩:=sgn_some hs
 exact h s hm ⟨(look_mem h1).2,h3,h4⟩
theorem bt_hit {c:Cur} {lev k:Int} {s:Sg} {j:Nat} (hs:sgs[j]? = some s) (hk:(next c).k = 3 ∨ (next c).k = 1) (h:Bt (next c).t lev k s):sgn c lev k = some s:=by
 refine sgn_mk ?_ hk h.2.1 h.2.2
 rw [← h.1]
 exact look_self (List.mem_of_getElem? hs)
theorem tk_block {w x:World} {p q:Obj} (hb:Below (w.alloc p).heap.size (w.alloc p) x):(x.alloc q).heap[w.heap.size]? = some p ∧ (x.alloc q).heap[x.heap.size]? = some q ∧ w.heap.size < x.heap.size ∧ Below w.heap.size w (x.alloc q):=by
 obtain ⟨h1,h2,h3⟩:=one_block hb
 exact ⟨(heap_alloc_old _ _ h3).trans h1,heap_alloc_new _ _,h3,h2.alloc h2.size _⟩
theorem bt_after {w wr x3:World} {R B K2:Nat} {v:Value} {c:Cur} {l:List Tm} {s:Sg} {o1:Array Value} {o2:Obj} {T1:TypeId} (h:RdAt w R B v c l) (hb:Below w.heap.size w wr)
 (h3:((wr.alloc (sgO s)).drew).grownBy x3 (some B)) (hc:CurAt x3 B (on c)) (h2:(wr.alloc (sgO s)).heap[K2]? = some o2) (h1:(wr.alloc (sgO s)).heap[w.heap.size]? = some (.cells o1 T1 (0,0)))
 (hz:w.heap.size < K2) (hz2:K2 + 1 ≤ wr.heap.size) :
 x3.heap[w.heap.size]? = some (.cells o1 T1 (0,0)) ∧ x3.heap[wr.heap.size]? = some (sgO s) ∧ x3.heap[K2]? = some o2 ∧ RdAt x3 R B v (on c) l ∧ v.ownBlock ≠ some w.heap.size ∧ w.grownBy x3 (some B):=by
 have hR:=h.lt'
 have hB:=h.lt
 have hz3:(wr.alloc (sgO s)).drew.heap.size = wr.heap.size + 1:=World.size_alloc _ _
 have hr:RdAt (wr.alloc (sgO s)).drew R B v c l:=((h.keep hb).alloc _).drew
 refine ⟨(h3.block _ (by rw [hz3]; omega) (by simp; omega)).trans h1,(h3.block _ (by rw [hz3]; omega) (by simp; omega)).trans (heap_alloc_new _ _),(h3.block _ (by rw [hz3]; omega) (by simp; omega)).trans h2,hr.but h3 hc,(h.apart (Nat.le_refl _)).2.2,but_trans (but_drew (but_alloc (but_below hb) _)) h3⟩
set_option maxHeartbeats 8000000 in
theorem between_at (R B:Nat) (v:Value) (c:Cur) (l:List Tm) (lev k:Int) (w:World) (hs:SignsIn w) (h:RdAt w R B v c l) :
 Calls Tryz.prog 164 #[.pointer (some ⟨R,0,none⟩),.int .i64 lev,.int .i64 k] w (RetSg w R B v c l (sgn c lev k)):=by
 have HN:=Lib.hid (next_at B c _ (h.alloc (sgZO)).cur)
 obtain ⟨r0,r1⟩:=cells_2 (h.alloc (sgZO)).blk
 obtain ⟨t,ht⟩:∃ t,t = next c:=⟨_,rfl⟩
 rw [← ht] at HN
 have HH:=Lib.hid h
 have HS:=Lib.hid hs
 have HT:=Lib.hid ht
 clear h hs ht
 by_cases hk:t.k = 3 ∨ t.k = 1
 ·have HK:=Lib.hid hk
  have hi:=signs_size
  have hix:=signs_index
  obtain ⟨SV,hSV⟩:∃ SV,SV = signsV:=⟨_,rfl⟩
  have hS:=HS.out
  unfold SignsIn at hS
  rw [← hSV] at hi hix hS
  obtain ⟨T,fr,hg0⟩:=hS
  have HIX:=Lib.hid hix
  have HG0:=Lib.hid hg0
  have HI:=Lib.hid hi
  clear hix hSV hg0 hi HS
  have hkk:((t.k != 3) = false) ∨ ((t.k != 3) = true ∧ (t.k != 1) = false):=by
   by_cases h3:t.k = 3
   ·exact .inl (by simpa using h3)
   ·exact .inr ⟨by simpa using h3,by simpa using hk.resolve_left h3⟩
  clear hk
  rcases hkk with e3 | ⟨e3,e1⟩
  all_goals
   go_enter Tryz.func164,Tryz.ntmps164
   go_wp2_with (go_at_call 94; (with_reducible refine HN.out.mono ?_))
   rintro e x2 ⟨rfl,hb2⟩
   obtain ⟨k1,k2,hz,hB⟩:=tk_block (q:=tkO t) hb2
   obtain ⟨t0,t1,t2,t3⟩:=cells_4 k2
   have hg:=(hB.block _ (Array.getElem?_eq_some_iff.1 HG0.out).1).trans HG0.out
   have hi:=HI.out
   have HK1:=Lib.hid k1
   have HK2:=Lib.hid k2
   have HB:=Lib.hid hB
   have HZ:=Lib.hid hz
   clear hb2 k1 k2 hB r0 r1
   go_wp2_with (refine wpList_load_row rfl 198 _ rfl 2 rfl T SV fr _ hg Tryz.underlying198 rfl hi ?_)
   clear hg hi t0 t1 t2 t3 hz
   go_loopw [10,26] (fun _ i wr => BtRel (x2.alloc (tkO t)) t.t lev k i wr) (fun _ i _ => 11 - (intOf i).toNat)
   case atStart => exact ⟨0,by omega,rfl,by simp,Below.refl _ _⟩
   case round =>
    obtain ⟨j,hj,rfl,hno,hbw⟩:=hrel
    have HNO:=Lib.hid hno
    have HBW:=Lib.hid hbw
    have hzw:=hbw.size
    rw [World.size_alloc] at hzw
    have hz:=HZ.out
    have hB2:=below_two' HB.out hbw
    have kt:=block_on HK2.out hbw
    have ks:=block_on HK1.out hbw
    clear hno hbw
    by_cases hlt:j < 11
    ·obtain ⟨s,hs⟩:∃ s,sgs[j]? = some s:=get_some (by rw [sgs_len]; exact hlt)
     have hx:=HIX.out j s hs
     have HSJ:=Lib.hid hs
     have kt':=(heap_alloc_old wr (sgO s) (show x2.heap.size < wr.heap.size by omega)).trans kt
     have ks':=(heap_alloc_old wr (sgO s) (show w.heap.size < wr.heap.size by omega)).trans ks
     have kr':=((HH.out.keep hB2).alloc (sgO s)).blk
     obtain ⟨t0,t1,t2,t3⟩:=cells_4 kt'
     obtain ⟨r0,r1⟩:=cells_2 kr'
     have HKT:=Lib.hid kt'
     have HKS:=Lib.hid ks'
     have HB2:=Lib.hid hB2
     have HZW:=Lib.hid (And.intro hzw hz)
     clear hs kt ks kt' ks' kr' hB2 hzw hz
     by_cases h1:s.t = t.t
     ·have e4:(s.t.toList == t.t.toList) = true:=by rw [h1]; simp
      have H1:=Lib.hid h1
      clear h1
      by_cases h2:s.left ≤ lev
      ·by_cases h3:k ≤ s.lev
       ·have hit:=bt_hit (c:=c) (lev:=lev) (k:=k) HSJ.out (by rw [← HT.out]; exact HK.out) ⟨by rw [← HT.out]; exact H1.out,h2,h3⟩
        have HIT:=Lib.hid hit
        have h0:=sgn_good hit
        have HTK:=Lib.hid (take_at B c t.k t.t (wr.alloc (sgO s)).drew ((HH.out.keep HB2.out).alloc (sgO s)).drew.cur)
        have hib:isB c t.k t.t = true:=isB_yes h0 (by rw [← HT.out]) (by rw [← HT.out])
        have htk:take c t.k t.t = on c:=by unfold take; rw [if_pos hib]
        rw [hib,htk] at HTK
        have HXF:Hid (∀ x3:World,((wr.alloc (sgO s)).drew).grownBy x3 (some B) → CurAt x3 B (on c) → Hid (x3.heap[w.heap.size]? = some sgZO ∧ x3.heap[wr.heap.size]? = some (sgO s) ∧ x3.heap[x2.heap.size]? = some (tkO t) ∧ RdAt x3 R B v (on c) l ∧ v.ownBlock ≠ some w.heap.size ∧ w.grownBy x3 (some B))) :=
         Lib.hid (fun x3 h3 hc => Lib.hid (bt_after HH.out HB2.out h3 hc HKT.out HKS.out HZW.out.2 HZW.out.1))
        obtain ⟨s0,s1,s2,s3,s4⟩:=cells_5 (heap_alloc_new wr (sgO s))
        clear hit h0 hib htk
        go_wp2_with fail
        go_region_law (go_simp; go_at_call 62; (with_reducible refine HTK.out.mono ?_); rintro e x3 ⟨rfl,hC3,hb3⟩; have HE:=Lib.hid (And.intro hC3 hb3); clear hC3 hb3; have HX:=HXF.out _ HE.out.2 HE.out.1; obtain ⟨p0,p1,p2,p3,p4⟩:=cells_5 HX.out.1; obtain ⟨f0,f1,f2,f3,f4⟩:=free_5 HX.out.1; obtain ⟨u0,u1,u2,u3,u4⟩:=cells_5 HX.out.2.1; obtain ⟨g0,g1,g2,g3⟩:=cells_4 HX.out.2.2.1; obtain ⟨y0,y1⟩:=cells_2 HX.out.2.2.2.1.blk)
        all_goals
         go_wp2_with fail
         obtain ⟨q0,q1,q2,q3,q4⟩:=store_five (blk_of HX.out.1 (n:=5) rfl) (.string s.t) (.int .i64 s.op) (.int .i64 s.lev) (.int .i64 s.left) (.int .i64 s.right)
         refine bodyPost_ret (v:=.tuple #[sgA s,.bool true]) (by simp [results,Tryz.results164,go_sem,q0,q1,q2,q3,q4]) rfl ?_
         rw [HIT.out]
         exact ⟨s,true,on c,rfl,⟨rfl,rfl,rfl⟩,HX.out.2.2.2.1.other (but_five' _ _ _ _ _ _ _) (by have:=HH.out.lt'; omega) HX.out.2.2.2.2.1,but_five HX.out.2.2.2.2.2 (Nat.le_refl _) _ _ _ _ _⟩
       ·have e6:decide (k ≤ s.lev) = false:=decide_eq_false h3
        have HNX:=Lib.hid (bt_next HNO.out HSJ.out (fun h => h3 h.2.2))
        go_wp2_with fail
        go_roundw
        case rel => exact ⟨j + 1,hlt,by simp,HNX.out,HBW.out.alloc HBW.out.size _⟩
        case measure => simp [intOf]; omega
      ·have e5:decide (s.left ≤ lev) = false:=decide_eq_false h2
       have HNX:=Lib.hid (bt_next HNO.out HSJ.out (fun h => h2 h.2.1))
       go_wp2_with fail
       go_roundw
       case rel => exact ⟨j + 1,hlt,by simp,HNX.out,HBW.out.alloc HBW.out.size _⟩
       case measure => simp [intOf]; omega
     ·have e4:(s.t.toList == t.t.toList) = false:=(Lib.bytes_beq_false_iff _ _).2 h1
      have HNX:=Lib.hid (bt_next HNO.out HSJ.out (fun h => h1 h.1))
      go_wp2_with fail
      go_roundw
      case rel => exact ⟨j + 1,hlt,by simp,HNX.out,HBW.out.alloc HBW.out.size _⟩
      case measure => simp [intOf]; omega
    ·obtain rfl:j = 11:=by omega
     have HIT:=Lib.hid (bt_none (c:=c) (lev:=lev) (k:=k) (by rw [← HT.out]; exact HNO.out))
     obtain ⟨f0,f1,f2,f3,f4⟩:=free_5 ks
     obtain ⟨d0,d1,d2,d3,d4⟩:=cells_5 ks
     have HK3:=Lib.hid (blk_of ks (n:=5) rfl)
     have HB2:=Lib.hid hB2
     clear hB2 ks kt
     go_wp2_with fail
     obtain ⟨q0,q1,q2,q3,q4⟩:=store_five HK3.out (.string ⟨#[]⟩) (.int .i64 0) (.int .i64 0) (.int .i64 0) (.int .i64 0)
     refine bodyPost_ret (v:=.tuple #[sgA sgZ,.bool false]) (by simp [results,Tryz.results164,go_sem,q0,q1,q2,q3,q4,sgZ]) rfl ?_
     rw [HIT.out]
     exact ⟨sgZ,false,c,rfl,⟨rfl,rfl,rfl⟩,(HH.out.keep HB2.out).other (but_five' _ _ _ _ _ _ _) (by have:=HH.out.lt'; omega) (HH.out.apart (Nat.le_refl _)).2.2,but_five (but_below HB2.out) (Nat.le_refl _) _ _ _ _ _⟩
 ·have e3:(t.k != 3) = true:=by simp; omega
  have e1:(t.k != 1) = true:=by simp; omega
  have hno:sgn c lev k = none:=by unfold sgn; rw [← HT.out]; exact if_neg hk
  have HNO:=Lib.hid hno
  clear hk hno
  go_enter Tryz.func164,Tryz.ntmps164
  go_wp2_with (go_at_call 94; (with_reducible refine HN.out.mono ?_))
  rintro e x2 ⟨rfl,hb2⟩
  obtain ⟨k1,k2,hz,hB⟩:=tk_block (q:=tkO t) hb2
  obtain ⟨t0,t1,t2,t3⟩:=cells_4 k2
  obtain ⟨f0,f1,f2,f3,f4⟩:=free_5 k1
  obtain ⟨d0,d1,d2,d3,d4⟩:=cells_5 k1
  have HK3:=Lib.hid (blk_of k1 (n:=5) rfl)
  have HB:=Lib.hid hB
  clear hb2 k1 k2 hB r0 r1 hz
  go_wp2_with fail
  obtain ⟨q0,q1,q2,q3,q4⟩:=store_five HK3.out (.string ⟨#[]⟩) (.int .i64 0) (.int .i64 0) (.int .i64 0) (.int .i64 0)
  refine bodyPost_ret (v:=.tuple #[sgA sgZ,.bool false]) (by simp [results,Tryz.results164,go_sem,q0,q1,q2,q3,q4,sgZ]) rfl ?_
  rw [HNO.out]
  exact ⟨sgZ,false,c,rfl,⟨rfl,rfl,rfl⟩,(HH.out.keep HB.out).other (but_five' _ _ _ _ _ _ _) (by have:=HH.out.lt'; omega) (HH.out.apart (Nat.le_refl _)).2.2,but_five (but_below HB.out) (Nat.le_refl _) _ _ _ _ _⟩
end Go.Proofs.YtcofikjpplkjdaaGreatDoor