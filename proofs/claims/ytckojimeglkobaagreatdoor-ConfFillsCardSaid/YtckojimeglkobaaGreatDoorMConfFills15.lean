/- ConfRefFirst, AtlasClone, AtlasActs, joined. -/
import Derived.Test.YtckojimeglkobaaGreatDoorMConfFills14
import Derived.Test.YtckojimeglkobaaGreatDoorRows
import Derived.Lib.Walk
import Derived.Test.YtckojimeglkobaaGreatDoorMConfFills00
import Derived.Test.YtckojimeglkobaaGreatDoorMConfFills01
import Derived.Test.YtckojimeglkobaaGreatDoorMConfFills13
namespace Go.Proofs.YtckojimeglkobaaGreatDoor
open Go.RowKit Go.Sort TermSpec EvalSpec ActSpec NamesSpec ExprSpec TransSpec SynSpec CurSpec ShapeSpec GroupSpec PrintSpec ConfSpec
set_option maxRecDepth 100000
abbrev cfZ:Obj:=.cells #[.int .u64 0,.int .i64 0,.int .i64 0,.int .i64 0,.int .i64 0] 30
theorem cf_build (m:Int) (w:World):(Instr.build 30 #[(0,.int .u64 m)]).run Tryz.prog w = .ok (.agg #[.int .u64 m,.int .i64 0,.int .i64 0,.int .i64 0,.int .i64 0]) w:=run_build w 30 _ _ (by kernel_rfl)
theorem cf_build0 (w:World):(Instr.build 30 #[]).run Tryz.prog w = .ok (.agg #[.int .u64 0,.int .i64 0,.int .i64 0,.int .i64 0,.int .i64 0]) w:=run_build w 30 _ _ (by kernel_rfl)
theorem store_5 {w:World} {b:Nat} (h:Blk w b 5) (u0 u1 u2 u3 u4:Value) :
 (w.setCell ⟨b,0,none⟩ u0).cell? ⟨b,0,none⟩ = some u0 ∧ ((w.setCell ⟨b,0,none⟩ u0).setCell ⟨b,1,none⟩ u1).cell? ⟨b,1,none⟩ = some u1 ∧
 (((w.setCell ⟨b,0,none⟩ u0).setCell ⟨b,1,none⟩ u1).setCell ⟨b,2,none⟩ u2).cell? ⟨b,2,none⟩ = some u2 ∧
 ((((w.setCell ⟨b,0,none⟩ u0).setCell ⟨b,1,none⟩ u1).setCell ⟨b,2,none⟩ u2).setCell ⟨b,3,none⟩ u3).cell? ⟨b,3,none⟩ = some u3 ∧
 (((((w.setCell ⟨b,0,none⟩ u0).setCell ⟨b,1,none⟩ u1).setCell ⟨b,2,none⟩ u2).setCell ⟨b,3,none⟩ u3).setCell ⟨b,4,none⟩ u4).cell? ⟨b,4,none⟩ = some u4 :=
 ⟨h.read 0 (by omega) _,(h.set _ _).read 1 (by omega) _,((h.set _ _).set _ _).read 2 (by omega) _,(((h.set _ _).set _ _).set _ _).read 3 (by omega) _,((((h.set _ _).set _ _).set _ _).set _ _).read 4 (by omega) _⟩
abbrev set5 (w:World) (b:Nat) (u0 u1 u2 u3 u4:Value):World:=((((w.setCell ⟨b,0,none⟩ u0).setCell ⟨b,1,none⟩ u1).setCell ⟨b,2,none⟩ u2).setCell ⟨b,3,none⟩ u3).setCell ⟨b,4,none⟩ u4
theorem set5_blk {w:World} {b:Nat} {T:TypeId} {z0 z1 z2 z3 z4:Value} (h:w.heap[b]? = some (.cells #[z0,z1,z2,z3,z4] T (0,0))) (u0 u1 u2 u3 u4:Value):(set5 w b u0 u1 u2 u3 u4).heap[b]? = some (.cells #[u0,u1,u2,u3,u4] T (0,0)) :=
 block_setCell' (block_setCell' (block_setCell' (block_setCell' (block_setCell' h 0 u0) 1 u1) 2 u2) 3 u3) 4 u4
theorem set5_below {B:Nat} {w x:World} {b:Nat} (h:Below B w x) (hb:B ≤ b) (u0 u1 u2 u3 u4:Value):Below B w (set5 x b u0 u1 u2 u3 u4) :=
 ((((h.setCell hb _).setCell hb _).setCell hb _).setCell hb _).setCell hb _
def upV (vs:List Vr) (k:Nat):V4:=⟨if 0 < k then iniV vs 0 else 0,if 1 < k then iniV vs 1 else 0,if 2 < k then iniV vs 2 else 0,if 3 < k then iniV vs 3 else 0⟩
theorem upV_end {vs:List Vr} {k:Nat} (h:vs.length ≤ k):upV vs k = firstV vs:=by
 have e:∀ i,k ≤ i → iniV vs i = 0:=fun i hi => by
  unfold iniV
  rw [List.getElem?_eq_none (by omega)]
  rfl
 have g:∀ i,(if i < k then iniV vs i else 0) = iniV vs i:=fun i => by
  by_cases hi:i < k
  ·rw [if_pos hi]
  ·rw [if_neg hi,e i (by omega)]
 unfold upV firstV
 rw [g,g,g,g]
theorem up_set {w:World} {b m k:Nat} {vs:List Vr} (h:w.heap[b]? = some (cfO ⟨m,upV vs k⟩)) (hk:k < 4):(w.setCell ⟨b,1 + k,none⟩ (.int .i64 (iniV vs k))).heap[b]? = some (cfO ⟨m,upV vs (k + 1)⟩):=by
 have:=block_setCell' h (1 + k) (.int .i64 (iniV vs k))
 rcases (show k = 0 ∨ k = 1 ∨ k = 2 ∨ k = 3 by omega) with rfl | rfl | rfl | rfl <;> exact this
theorem free_5c {w:World} {b:Nat} {T:TypeId} {z0 z1 z2 z3 z4:Value} (h:w.heap[b]? = some (.cells #[z0,z1,z2,z3,z4] T (0,0))) :
 w.frozen? ⟨b,0,none⟩ = false ∧ w.frozen? ⟨b,1,none⟩ = false ∧ w.frozen? ⟨b,2,none⟩ = false ∧ w.frozen? ⟨b,3,none⟩ = false ∧ w.frozen? ⟨b,4,none⟩ = false :=
 ⟨free_of_block' h _,free_of_block' h _,free_of_block' h _,free_of_block' h _,free_of_block' h _⟩
def UpRel (W3:World) (b m:Nat) (vs:List Vr) (v:Value) (wr:World):Prop:=∃ k:Nat,k ≤ vs.length ∧ v = .int .i64 k ∧ Hid (wr.heap[b]? = some (cfO ⟨m,upV vs k⟩)) ∧ Hid (Below W3.heap.size W3 wr)
section
variable (x:Cx) (eA:Option Addr) (en ec:Nat) (vA:Option Addr) (vn vc:Nat) (sA:Option Addr) (sn sc:Nat) (w:World) (h:ChIn w (.slice eA en ec) (.slice vA vn vc) (.slice sA sn sc) x)
include h
set_option maxRecDepth 100000 in
set_option maxHeartbeats 16000000 in
theorem rfirst18 (hc:chk (x.sts.map shOf) = 0) (hne:∀ i,i < (x.sts.map shOf).length → kind (x.sts.map shOf) i = 2 → kids (x.sts.map shOf) i ≠ []) (hv4:x.vars.length ≤ 4):Calls Tryz.prog 15 #[.agg #[.string x.s,.slice eA en ec,.slice vA vn vc,.slice sA sn sc]] w (fun e w' => e = .returned (cfA ⟨fillG (x.sts.map shOf) 1,firstV x.vars⟩) ∧ Below w.heap.size w w'):=by
 have HF:=Lib.hid (fun W (hW:Below w.heap.size w W) => rfill18 x eA en ec vA vn vc sA sn sc W (h.keep hW) hc hne 1 (by decide))
 have HVS:Hid (∀ W,Below w.heap.size w W → VarsIn W vA vn vc x.vars):=Lib.hid fun W hW => RdV.vars (Rdk.keep h.vars hW)
 obtain ⟨vs,hvs⟩:∃ vs,vs = x.vars:=⟨_,rfl⟩
 rw [← hvs] at HVS hv4 ⊢
 have HVN:Hid (vn = vs.length):=Lib.hid (HVS.out w (Below.refl _ _)).1
 obtain ⟨fm,hfm⟩:∃ fm,fm = fillG (x.sts.map shOf) 1:=⟨_,rfl⟩
 obtain ⟨nm,hnm⟩:∃ nm,nm = x.s:=⟨_,rfl⟩
 rw [← hfm,← hnm] at HF
 rw [← hfm,← hnm]
 have hbd:=cf_build
 obtain ⟨W2,hW2⟩:∃ W2,(w.alloc (chO18 nm eA en ec vA vn vc sA sn sc)).alloc cfZ = W2:=⟨_,rfl⟩
 have hb:Below w.heap.size w W2:=by rw [← hW2]; exact KitC.below_pair _ _ _
 have hk1:W2.heap[w.heap.size]? = some (chO18 nm eA en ec vA vn vc sA sn sc):=by rw [← hW2]; exact (heap_alloc_old _ _ (by simp)).trans (heap_alloc_new _ _)
 have hk2:W2.heap[w.heap.size + 1]? = some cfZ:=by rw [← hW2]; have:=heap_alloc_new (w.alloc (chO18 nm eA en ec vA vn vc sA sn sc)) cfZ; rwa [World.size_alloc] at this
 have HC:Hid (∀ W,Below W2.heap.size W2 W → W.heap[w.heap.size]? = some (chO18 nm eA en ec vA vn vc sA sn sc) ∧ W.heap[w.heap.size + 1]? = some cfZ):=Lib.hid fun W hW => ⟨KitC.block_on hk1 hW,KitC.block_on hk2 hW⟩
 have HW2:=Lib.hid hW2
 have HB2:=Lib.hid hb
 obtain ⟨c0,c1,c2,c3⟩:=cells_4 hk1
 clear h hc hne hvs hfm hnm hW2 hb hk1 hk2
 go_enter Tryz.func15,Tryz.ntmps15
 go_wp2_with ((try rw [HW2.out]); go_at_call 14; go_fit (HF.out _ HB2.out))
 rintro e w3 ⟨rfl,hb3⟩
 have HB3:=Lib.hid hb3
 obtain ⟨W3,hW3⟩:∃ W3,w3.alloc cfZ = W3:=⟨_,rfl⟩
 have hk3:W3.heap[w3.heap.size]? = some cfZ:=by rw [← hW3]; exact heap_alloc_new _ _
 have hb4:Below w3.heap.size w3 W3:=by rw [← hW3]; exact KitC.below_one _ _
 have HB4:=Lib.hid hb4
 have HK3:=Lib.hid hk3
 have HW3:=Lib.hid hW3
 obtain ⟨z0,z1,z2,z3,z4⟩:=free_5c hk3
 obtain ⟨y0,y1,y2,y3,y4⟩:=cells_5c (x:=⟨0,0,0,0⟩) hk3
 clear hb3 hW3 hk3 hb4 c0 c1 c2 c3
 go_wp2_with (rw [HW3.out])
 clear z0 z1 z2 z3 z4 y0 y1 y2 y3 y4
 go_loopw [4] (fun v wr => UpRel w3 w3.heap.size fm vs v wr) (fun v _ => vs.length - (intOf v).toNat)
 case atStart => exact ⟨0,Nat.zero_le _,rfl,Lib.hid (set5_blk HK3.out _ _ _ _ _),Lib.hid (set5_below HB4.out (Nat.le_refl _) _ _ _ _ _)⟩
 case round =>
  obtain ⟨k,hk,rfl,HKB,HBB⟩:=hrel
  have hb5:=below_two' HB3.out HBB.out
  obtain ⟨hk1,hk2⟩:=HC.out _ hb5
  have HB5:=Lib.hid (below_two' HB2.out hb5)
  have HK2:=Lib.hid hk2
  obtain ⟨c0,c1,c2,c3⟩:=cells_4 hk1
  clear hk1 hk2 hb5
  by_cases hlt:k < vs.length
  ·have hkI:(k:Int) < (vn:Int):=by have:=HVN.out; omega
   have hk4:k < 4:=by omega
   have hk4I:(k:Int) < 4:=by omega
   obtain ⟨q,hq⟩:∃ q,vs[k]? = some q:=get_some hlt
   obtain ⟨b,off,rfl,hbl,-,-,-,x3⟩:=(HVS.out _ HB5.out).at_ hq
   have HIN:Hid (iniV vs k = q.ini):=Lib.hid (by unfold iniV; rw [hq]; rfl)
   obtain ⟨qi,hqi⟩:∃ qi,qi = q.ini:=⟨_,rfl⟩
   rw [← hqi] at x3 HIN
   have y1:=v5_cell HKB.out hk4
   have z1:=free_of_block' HKB.out (1 + k)
   clear hq hqi
   go_wp2_with fail
   go_roundw
   case rel => exact ⟨k + 1,by omega,by go_num,Lib.hid (by rw [← HIN.out]; exact up_set HKB.out hk4),Lib.hid (HBB.out.setCell (p:=⟨w3.heap.size,1 + k,none⟩) (Nat.le_refl _) _)⟩
   case measure => simp [intOf]; omega
  ·have hkI:¬ (k:Int) < (vn:Int):=by have:=HVN.out; omega
   have hkb:=HKB.out
   rw [upV_end (by omega:vs.length ≤ k)] at hkb
   obtain ⟨fv,hfv⟩:∃ fv,fv = firstV vs:=⟨_,rfl⟩
   rw [← hfv] at hkb
   have HFV:Hid (firstV vs = fv):=Lib.hid hfv.symm
   obtain ⟨y0,y1,y2,y3,y4⟩:=cells_5c hkb
   obtain ⟨z0,z1,z2,z3,z4⟩:=free_5c HK2.out
   obtain ⟨v0,v1,v2,v3,v4⟩:=cells_5c (x:=⟨0,0,0,0⟩) HK2.out
   have hz:=firstV
   obtain ⟨a,b,c,d⟩:=fv
   obtain ⟨q0,q1,q2,q3,q4⟩:=store_5 (blk_of HK2.out (n:=5) rfl) (.int .u64 fm) (.int .i64 a) (.int .i64 b) (.int .i64 c) (.int .i64 d)
   simp only at y0 y1 y2 y3 y4
   clear hkb hfv hz
   go_wp2_with fail
   refine bodyPost_ret (v:=.agg #[.int .u64 fm,.int .i64 a,.int .i64 b,.int .i64 c,.int .i64 d]) (by simp [results,Tryz.results15,go_sem,q0,q1,q2,q3,q4]) rfl ?_
   refine ⟨?_,set5_below HB5.out (by omega) _ _ _ _ _⟩
   rw [HFV.out]
end
end Go.Proofs.YtckojimeglkobaaGreatDoor
namespace Go.Proofs.YtckojimeglkobaaGreatDoor
open Go.RowKit
set_option maxRecDepth 100000
def RetRw (T:TypeId) (k:Nat) (W:World) (n:Nat) (xs:List Value) (e:Ending) (w':World):Prop:=∃ A c,e = .returned (.slice A n c) ∧ w'.ownsRow W.heap.size T k (.slice A n c) n xs ∧ Below W.heap.size W w'
theorem infc_str:(Tryz.prog.info? 9).map (fun i => (i.zero,i.size,i.bytes)) = some (some (.string ByteArray.empty),1,16):=by kernel_rfl
set_option maxRecDepth 100000 in
set_option maxHeartbeats 2000000 in
theorem clone_str (v:Value) (n:Nat) (xs:List Value) (w:World) (h:Rdk 1 w v n xs) (h1:∀ u ∈ xs,u.oneCell' = true) (hm:n ≤ 1000000):Calls Tryz.prog 45 #[v] w (RetRw 9 1 w n xs):=by
 obtain ⟨i0,hi,hz0,hz1,hz2⟩:=info_parts infc_str
 have HI:=Lib.hid (And.intro hi (And.intro hz0 (And.intro hz1 hz2)))
 have HR:=Lib.hid h
 have H1:=Lib.hid h1
 obtain ⟨A,c,rfl,hc,hl,hA⟩:=h
 have q22:∀ (w:World) (a:Option Addr) (n c n' c':Nat),(binOp .eql 22 (.slice a n c) (.slice none n' c')).run Tryz.prog w = .ok (.bool a.isNone) w:=fun w a n c n' c' => Lib.run_eql_slice_nil w _ _ a n c n' c' Tryz.underlying22
 rcases A with _ | a
 ·have h0:n = 0:=by
   rcases Nat.eq_zero_or_pos n with h0 | h0
   ·exact h0
   ·obtain ⟨b,off,hb,-⟩:=hA h0
    cases hb
  subst h0
  obtain rfl:xs = []:=List.eq_nil_of_length_eq_zero (by omega)
  clear h1 hA hl hc hi hz0 hz1 hz2
  go_enter Tryz.func45,Tryz.ntmps45
  go_wp2
  go_ret
  exact ⟨none,0,rfl,World.ownsRow_nil _ _ _ _,Below.refl _ _⟩
 ·have HL1:Hid (0 + n ≤ maxLen):=Lib.hid (by simp only [maxLen]; omega)
  have HL2:Hid ((0 + n) * 16 ≤ 140737488355328):=Lib.hid (by omega)
  clear h1 hA hl hc hi hz0 hz1 hz2 hm
  go_enter Tryz.func45,Tryz.ntmps45
  go_wp2_with (at_builtin; refine wpList_append_rdk _ rfl (.tmp 5) (.tmp 6) _ rfl w.heap.size 9 i0 (.string ByteArray.empty) 1 16 Tryz.underlying22 HI.out.1 HI.out.2.1 HI.out.2.2.1 HI.out.2.2.2 rfl (by decide) _ 0 [] rfl (World.ownsRow_lit w #[] 0 (Nat.le_refl _) (Nat.zero_le _) rfl) _ n xs rfl (HR.out.alloc _) H1.out HL1.out HL2.out (KitC.below_one w _).size ?_; intro p2 w6 hrow2 hg2 hob; have HR2:=Lib.hid hrow2; have HG2:=Lib.hid hg2; clear hrow2 hg2 hob)
  go_ret
  have hrow:=HR2.out
  rw [Nat.zero_add,List.nil_append] at hrow
  obtain ⟨A',c',rfl⟩:=own_shape hrow
  refine ⟨A',c',rfl,hrow,?_⟩
  exact (KitC.below_one w _).grown HG2.out (KitC.below_one w _).size (fun j hj => by injection hj with hj; simp only at hj; omega)
theorem infc_int:(Tryz.prog.info? 3).map (fun i => (i.zero,i.size,i.bytes)) = some (some (.int .i64 0),1,8):=by kernel_rfl
set_option maxRecDepth 100000 in
set_option maxHeartbeats 2000000 in
theorem clone_int (v:Value) (n:Nat) (xs:List Value) (w:World) (h:Rdk 1 w v n xs) (h1:∀ u ∈ xs,u.oneCell' = true) (hm:n ≤ 1000000):Calls Tryz.prog 83 #[v] w (RetRw 3 1 w n xs):=by
 obtain ⟨i0,hi,hz0,hz1,hz2⟩:=info_parts infc_int
 have HI:=Lib.hid (And.intro hi (And.intro hz0 (And.intro hz1 hz2)))
 have HR:=Lib.hid h
 have H1:=Lib.hid h1
 obtain ⟨A,c,rfl,hc,hl,hA⟩:=h
 have q22:∀ (w:World) (a:Option Addr) (n c n' c':Nat),(binOp .eql 90 (.slice a n c) (.slice none n' c')).run Tryz.prog w = .ok (.bool a.isNone) w:=fun w a n c n' c' => Lib.run_eql_slice_nil w _ _ a n c n' c' Tryz.underlying90
 rcases A with _ | a
 ·have h0:n = 0:=by
   rcases Nat.eq_zero_or_pos n with h0 | h0
   ·exact h0
   ·obtain ⟨b,off,hb,-⟩:=hA h0
    cases hb
  subst h0
  obtain rfl:xs = []:=List.eq_nil_of_length_eq_zero (by omega)
  clear h1 hA hl hc hi hz0 hz1 hz2
  go_enter Tryz.func83,Tryz.ntmps83
  go_wp2
  go_ret
  exact ⟨none,0,rfl,World.ownsRow_nil _ _ _ _,Below.refl _ _⟩
 ·have HL1:Hid (0 + n ≤ maxLen):=Lib.hid (by simp only [maxLen]; omega)
  have HL2:Hid ((0 + n) * 8 ≤ 140737488355328):=Lib.hid (by omega)
  clear h1 hA hl hc hi hz0 hz1 hz2 hm
  go_enter Tryz.func83,Tryz.ntmps83
  go_wp2_with (at_builtin; refine wpList_append_rdk _ rfl (.tmp 5) (.tmp 6) _ rfl w.heap.size 3 i0 (.int .i64 0) 1 8 Tryz.underlying90 HI.out.1 HI.out.2.1 HI.out.2.2.1 HI.out.2.2.2 rfl (by decide) _ 0 [] rfl (World.ownsRow_lit w #[] 0 (Nat.le_refl _) (Nat.zero_le _) rfl) _ n xs rfl (HR.out.alloc _) H1.out HL1.out HL2.out (KitC.below_one w _).size ?_; intro p2 w6 hrow2 hg2 hob; have HR2:=Lib.hid hrow2; have HG2:=Lib.hid hg2; clear hrow2 hg2 hob)
  go_ret
  have hrow:=HR2.out
  rw [Nat.zero_add,List.nil_append] at hrow
  obtain ⟨A',c',rfl⟩:=own_shape hrow
  refine ⟨A',c',rfl,hrow,?_⟩
  exact (KitC.below_one w _).grown HG2.out (KitC.below_one w _).size (fun j hj => by injection hj with hj; simp only at hj; omega)
theorem infc_var:(Tryz.prog.info? 52).map (fun i => (i.zero,i.size,i.bytes)) = some (some (.agg #[.string ByteArray.empty,.int .i64 0,.int .i64 0,.int .i64 0]),4,40):=by kernel_rfl
set_option maxRecDepth 100000 in
set_option maxHeartbeats 2000000 in
theorem clone_var (v:Value) (n:Nat) (xs:List Value) (w:World) (h:Rdk 4 w v n xs) (h1:∀ u ∈ xs,u.oneCell' = true) (hm:n ≤ 1000000):Calls Tryz.prog 46 #[v] w (RetRw 52 4 w n xs):=by
 obtain ⟨i0,hi,hz0,hz1,hz2⟩:=info_parts infc_var
 have HI:=Lib.hid (And.intro hi (And.intro hz0 (And.intro hz1 hz2)))
 have HR:=Lib.hid h
 have H1:=Lib.hid h1
 obtain ⟨A,c,rfl,hc,hl,hA⟩:=h
 have q22:∀ (w:World) (a:Option Addr) (n c n' c':Nat),(binOp .eql 23 (.slice a n c) (.slice none n' c')).run Tryz.prog w = .ok (.bool a.isNone) w:=fun w a n c n' c' => Lib.run_eql_slice_nil w _ _ a n c n' c' Tryz.underlying23
 rcases A with _ | a
 ·have h0:n = 0:=by
   rcases Nat.eq_zero_or_pos n with h0 | h0
   ·exact h0
   ·obtain ⟨b,off,hb,-⟩:=hA h0
    cases hb
  subst h0
  obtain rfl:xs = []:=List.eq_nil_of_length_eq_zero (by omega)
  clear h1 hA hl hc hi hz0 hz1 hz2
  go_enter Tryz.func46,Tryz.ntmps46
  go_wp2
  go_ret
  exact ⟨none,0,rfl,World.ownsRow_nil _ _ _ _,Below.refl _ _⟩
 ·have HL1:Hid (0 + n ≤ maxLen):=Lib.hid (by simp only [maxLen]; omega)
  have HL2:Hid ((0 + n) * 40 ≤ 140737488355328):=Lib.hid (by omega)
  clear h1 hA hl hc hi hz0 hz1 hz2 hm
  go_enter Tryz.func46,Tryz.ntmps46
  go_wp2_with (at_builtin; refine wpList_append_rdk _ rfl (.tmp 5) (.tmp 6) _ rfl w.heap.size 52 i0 (.agg #[.string ByteArray.empty,.int .i64 0,.int .i64 0,.int .i64 0]) 4 40 Tryz.underlying23 HI.out.1 HI.out.2.1 HI.out.2.2.1 HI.out.2.2.2 rfl (by decide) _ 0 [] rfl (World.ownsRow_lit w #[] 0 (Nat.le_refl _) (Nat.zero_le _) rfl) _ n xs rfl (HR.out.alloc _) H1.out HL1.out HL2.out (KitC.below_one w _).size ?_; intro p2 w6 hrow2 hg2 hob; have HR2:=Lib.hid hrow2; have HG2:=Lib.hid hg2; clear hrow2 hg2 hob)
  go_ret
  have hrow:=HR2.out
  rw [Nat.zero_add,List.nil_append] at hrow
  obtain ⟨A',c',rfl⟩:=own_shape hrow
  refine ⟨A',c',rfl,hrow,?_⟩
  exact (KitC.below_one w _).grown HG2.out (KitC.below_one w _).size (fun j hj => by injection hj with hj; simp only at hj; omega)
theorem infc_state:(Tryz.prog.info? 58).map (fun i => (i.zero,i.size,i.bytes)) = some (some (.agg #[.string ByteArray.empty,.int .i64 0,.int .i64 0,.slice none 0 0,.slice none 0 0,.slice none 0 0]),6,104):=by kernel_rfl
set_option maxRecDepth 100000 in
set_option maxHeartbeats 2000000 in
theorem clone_state (v:Value) (n:Nat) (xs:List Value) (w:World) (h:Rdk 6 w v n xs) (h1:∀ u ∈ xs,u.oneCell' = true) (hm:n ≤ 1000000):Calls Tryz.prog 47 #[v] w (RetRw 58 6 w n xs):=by
 obtain ⟨i0,hi,hz0,hz1,hz2⟩:=info_parts infc_state
 have HI:=Lib.hid (And.intro hi (And.intro hz0 (And.intro hz1 hz2)))
 have HR:=Lib.hid h
 have H1:=Lib.hid h1
 obtain ⟨A,c,rfl,hc,hl,hA⟩:=h
 have q22:∀ (w:World) (a:Option Addr) (n c n' c':Nat),(binOp .eql 24 (.slice a n c) (.slice none n' c')).run Tryz.prog w = .ok (.bool a.isNone) w:=fun w a n c n' c' => Lib.run_eql_slice_nil w _ _ a n c n' c' Tryz.underlying24
 rcases A with _ | a
 ·have h0:n = 0:=by
   rcases Nat.eq_zero_or_pos n with h0 | h0
   ·exact h0
   ·obtain ⟨b,off,hb,-⟩:=hA h0
    cases hb
  subst h0
  obtain rfl:xs = []:=List.eq_nil_of_length_eq_zero (by omega)
  clear h1 hA hl hc hi hz0 hz1 hz2
  go_enter Tryz.func47,Tryz.ntmps47
  go_wp2
  go_ret
  exact ⟨none,0,rfl,World.ownsRow_nil _ _ _ _,Below.refl _ _⟩
 ·have HL1:Hid (0 + n ≤ maxLen):=Lib.hid (by simp only [maxLen]; omega)
  have HL2:Hid ((0 + n) * 104 ≤ 140737488355328):=Lib.hid (by omega)
  clear h1 hA hl hc hi hz0 hz1 hz2 hm
  go_enter Tryz.func47,Tryz.ntmps47
  go_wp2_with (at_builtin; refine wpList_append_rdk _ rfl (.tmp 5) (.tmp 6) _ rfl w.heap.size 58 i0 (.agg #[.string ByteArray.empty,.int .i64 0,.int .i64 0,.slice none 0 0,.slice none 0 0,.slice none 0 0]) 6 104 Tryz.underlying24 HI.out.1 HI.out.2.1 HI.out.2.2.1 HI.out.2.2.2 rfl (by decide) _ 0 [] rfl (World.ownsRow_lit w #[] 0 (Nat.le_refl _) (Nat.zero_le _) rfl) _ n xs rfl (HR.out.alloc _) H1.out HL1.out HL2.out (KitC.below_one w _).size ?_; intro p2 w6 hrow2 hg2 hob; have HR2:=Lib.hid hrow2; have HG2:=Lib.hid hg2; clear hrow2 hg2 hob)
  go_ret
  have hrow:=HR2.out
  rw [Nat.zero_add,List.nil_append] at hrow
  obtain ⟨A',c',rfl⟩:=own_shape hrow
  refine ⟨A',c',rfl,hrow,?_⟩
  exact (KitC.below_one w _).grown HG2.out (KitC.below_one w _).size (fun j hj => by injection hj with hj; simp only at hj; omega)
theorem infc_trans:(Tryz.prog.info? 62).map (fun i => (i.zero,i.size,i.bytes)) = some (some (.agg #[.string ByteArray.empty,.slice none 0 0,.slice none 0 0,.string ByteArray.empty]),4,80):=by kernel_rfl
set_option maxRecDepth 100000 in
set_option maxHeartbeats 2000000 in
theorem clone_trans (v:Value) (n:Nat) (xs:List Value) (w:World) (h:Rdk 4 w v n xs) (h1:∀ u ∈ xs,u.oneCell' = true) (hm:n ≤ 1000000):Calls Tryz.prog 49 #[v] w (RetRw 62 4 w n xs):=by
 obtain ⟨i0,hi,hz0,hz1,hz2⟩:=info_parts infc_trans
 have HI:=Lib.hid (And.intro hi (And.intro hz0 (And.intro hz1 hz2)))
 have HR:=Lib.hid h
 have H1:=Lib.hid h1
 obtain ⟨A,c,rfl,hc,hl,hA⟩:=h
 have q22:∀ (w:World) (a:Option Addr) (n c n' c':Nat),(binOp .eql 56 (.slice a n c) (.slice none n' c')).run Tryz.prog w = .ok (.bool a.isNone) w:=fun w a n c n' c' => Lib.run_eql_slice_nil w _ _ a n c n' c' Tryz.underlying56
 rcases A with _ | a
 ·have h0:n = 0:=by
   rcases Nat.eq_zero_or_pos n with h0 | h0
   ·exact h0
   ·obtain ⟨b,off,hb,-⟩:=hA h0
    cases hb
  subst h0
  obtain rfl:xs = []:=List.eq_nil_of_length_eq_zero (by omega)
  clear h1 hA hl hc hi hz0 hz1 hz2
  go_enter Tryz.func49,Tryz.ntmps49
  go_wp2
  go_ret
  exact ⟨none,0,rfl,World.ownsRow_nil _ _ _ _,Below.refl _ _⟩
 ·have HL1:Hid (0 + n ≤ maxLen):=Lib.hid (by simp only [maxLen]; omega)
  have HL2:Hid ((0 + n) * 80 ≤ 140737488355328):=Lib.hid (by omega)
  clear h1 hA hl hc hi hz0 hz1 hz2 hm
  go_enter Tryz.func49,Tryz.ntmps49
  go_wp2_with (at_builtin; refine wpList_append_rdk _ rfl (.tmp 5) (.tmp 6) _ rfl w.heap.size 62 i0 (.agg #[.string ByteArray.empty,.slice none 0 0,.slice none 0 0,.string ByteArray.empty]) 4 80 Tryz.underlying56 HI.out.1 HI.out.2.1 HI.out.2.2.1 HI.out.2.2.2 rfl (by decide) _ 0 [] rfl (World.ownsRow_lit w #[] 0 (Nat.le_refl _) (Nat.zero_le _) rfl) _ n xs rfl (HR.out.alloc _) H1.out HL1.out HL2.out (KitC.below_one w _).size ?_; intro p2 w6 hrow2 hg2 hob; have HR2:=Lib.hid hrow2; have HG2:=Lib.hid hg2; clear hrow2 hg2 hob)
  go_ret
  have hrow:=HR2.out
  rw [Nat.zero_add,List.nil_append] at hrow
  obtain ⟨A',c',rfl⟩:=own_shape hrow
  refine ⟨A',c',rfl,hrow,?_⟩
  exact (KitC.below_one w _).grown HG2.out (KitC.below_one w _).size (fun j hj => by injection hj with hj; simp only at hj; omega)
theorem infc_term:(Tryz.prog.info? 100).map (fun i => (i.zero,i.size,i.bytes)) = some (some (.agg #[.int .i64 0,.int .i64 0,.string ByteArray.empty]),3,32):=by kernel_rfl
set_option maxRecDepth 100000 in
set_option maxHeartbeats 2000000 in
theorem clone_term (v:Value) (n:Nat) (xs:List Value) (w:World) (h:Rdk 3 w v n xs) (h1:∀ u ∈ xs,u.oneCell' = true) (hm:n ≤ 1000000):Calls Tryz.prog 50 #[v] w (RetRw 100 3 w n xs):=by
 obtain ⟨i0,hi,hz0,hz1,hz2⟩:=info_parts infc_term
 have HI:=Lib.hid (And.intro hi (And.intro hz0 (And.intro hz1 hz2)))
 have HR:=Lib.hid h
 have H1:=Lib.hid h1
 obtain ⟨A,c,rfl,hc,hl,hA⟩:=h
 have q22:∀ (w:World) (a:Option Addr) (n c n' c':Nat),(binOp .eql 60 (.slice a n c) (.slice none n' c')).run Tryz.prog w = .ok (.bool a.isNone) w:=fun w a n c n' c' => Lib.run_eql_slice_nil w _ _ a n c n' c' Tryz.underlying60
 rcases A with _ | a
 ·have h0:n = 0:=by
   rcases Nat.eq_zero_or_pos n with h0 | h0
   ·exact h0
   ·obtain ⟨b,off,hb,-⟩:=hA h0
    cases hb
  subst h0
  obtain rfl:xs = []:=List.eq_nil_of_length_eq_zero (by omega)
  clear h1 hA hl hc hi hz0 hz1 hz2
  go_enter Tryz.func50,Tryz.ntmps50
  go_wp2
  go_ret
  exact ⟨none,0,rfl,World.ownsRow_nil _ _ _ _,Below.refl _ _⟩
 ·have HL1:Hid (0 + n ≤ maxLen):=Lib.hid (by simp only [maxLen]; omega)
  have HL2:Hid ((0 + n) * 32 ≤ 140737488355328):=Lib.hid (by omega)
  clear h1 hA hl hc hi hz0 hz1 hz2 hm
  go_enter Tryz.func50,Tryz.ntmps50
  go_wp2_with (at_builtin; refine wpList_append_rdk _ rfl (.tmp 5) (.tmp 6) _ rfl w.heap.size 100 i0 (.agg #[.int .i64 0,.int .i64 0,.string ByteArray.empty]) 3 32 Tryz.underlying60 HI.out.1 HI.out.2.1 HI.out.2.2.1 HI.out.2.2.2 rfl (by decide) _ 0 [] rfl (World.ownsRow_lit w #[] 0 (Nat.le_refl _) (Nat.zero_le _) rfl) _ n xs rfl (HR.out.alloc _) H1.out HL1.out HL2.out (KitC.below_one w _).size ?_; intro p2 w6 hrow2 hg2 hob; have HR2:=Lib.hid hrow2; have HG2:=Lib.hid hg2; clear hrow2 hg2 hob)
  go_ret
  have hrow:=HR2.out
  rw [Nat.zero_add,List.nil_append] at hrow
  obtain ⟨A',c',rfl⟩:=own_shape hrow
  refine ⟨A',c',rfl,hrow,?_⟩
  exact (KitC.below_one w _).grown HG2.out (KitC.below_one w _).size (fun j hj => by injection hj with hj; simp only at hj; omega)
theorem infc_act:(Tryz.prog.info? 98).map (fun i => (i.zero,i.size,i.bytes)) = some (some (.agg #[.string ByteArray.empty,.bool false,.slice none 0 0]),3,48):=by kernel_rfl
set_option maxRecDepth 100000 in
set_option maxHeartbeats 2000000 in
theorem clone_act (v:Value) (n:Nat) (xs:List Value) (w:World) (h:Rdk 3 w v n xs) (h1:∀ u ∈ xs,u.oneCell' = true) (hm:n ≤ 1000000):Calls Tryz.prog 70 #[v] w (RetRw 98 3 w n xs):=by
 obtain ⟨i0,hi,hz0,hz1,hz2⟩:=info_parts infc_act
 have HI:=Lib.hid (And.intro hi (And.intro hz0 (And.intro hz1 hz2)))
 have HR:=Lib.hid h
 have H1:=Lib.hid h1
 obtain ⟨A,c,rfl,hc,hl,hA⟩:=h
 have q22:∀ (w:World) (a:Option Addr) (n c n' c':Nat),(binOp .eql 55 (.slice a n c) (.slice none n' c')).run Tryz.prog w = .ok (.bool a.isNone) w:=fun w a n c n' c' => Lib.run_eql_slice_nil w _ _ a n c n' c' Tryz.underlying55
 rcases A with _ | a
 ·have h0:n = 0:=by
   rcases Nat.eq_zero_or_pos n with h0 | h0
   ·exact h0
   ·obtain ⟨b,off,hb,-⟩:=hA h0
    cases hb
  subst h0
  obtain rfl:xs = []:=List.eq_nil_of_length_eq_zero (by omega)
  clear h1 hA hl hc hi hz0 hz1 hz2
  go_enter Tryz.func70,Tryz.ntmps70
  go_wp2
  go_ret
  exact ⟨none,0,rfl,World.ownsRow_nil _ _ _ _,Below.refl _ _⟩
 ·have HL1:Hid (0 + n ≤ maxLen):=Lib.hid (by simp only [maxLen]; omega)
  have HL2:Hid ((0 + n) * 48 ≤ 140737488355328):=Lib.hid (by omega)
  clear h1 hA hl hc hi hz0 hz1 hz2 hm
  go_enter Tryz.func70,Tryz.ntmps70
  go_wp2_with (at_builtin; refine wpList_append_rdk _ rfl (.tmp 5) (.tmp 6) _ rfl w.heap.size 98 i0 (.agg #[.string ByteArray.empty,.bool false,.slice none 0 0]) 3 48 Tryz.underlying55 HI.out.1 HI.out.2.1 HI.out.2.2.1 HI.out.2.2.2 rfl (by decide) _ 0 [] rfl (World.ownsRow_lit w #[] 0 (Nat.le_refl _) (Nat.zero_le _) rfl) _ n xs rfl (HR.out.alloc _) H1.out HL1.out HL2.out (KitC.below_one w _).size ?_; intro p2 w6 hrow2 hg2 hob; have HR2:=Lib.hid hrow2; have HG2:=Lib.hid hg2; clear hrow2 hg2 hob)
  go_ret
  have hrow:=HR2.out
  rw [Nat.zero_add,List.nil_append] at hrow
  obtain ⟨A',c',rfl⟩:=own_shape hrow
  refine ⟨A',c',rfl,hrow,?_⟩
  exact (KitC.below_one w _).grown HG2.out (KitC.below_one w _).size (fun j hj => by injection hj with hj; simp only at hj; omega)
end Go.Proofs.YtckojimeglkobaaGreatDoor
namespace Go.Proofs.YtckojimeglkobaaGreatDoor
open Go.RowKit TermSpec EvalSpec ActSpec NamesSpec ExprSpec TransSpec SynSpec CurSpec
set_option maxRecDepth 100000
abbrev acN (p:AP) (w:World):Prop:=Tms w (.slice p.xA p.xn p.xc) p.a.x
abbrev MixA (N:Nat) (wr:World) (pv:Value) (ps:List AP) (m:Nat):Prop:=MixR 98 3 acV acN N wr pv ps m
def CaRel (w:World) (l:List Ac) (A:Option Addr) (n c:Nat) (i:Value) (wr:World):Prop :=
 ∃ (k:Nat) (ps:List AP),k ≤ n ∧ i = .int .i64 k ∧ ps.map (·.a) = l ∧ Hid (MixA w.heap.size wr (.slice A n c) ps k) ∧ Hid (Below w.heap.size w wr)
set_option maxRecDepth 100000 in
set_option maxHeartbeats 4000000 in
theorem copiedActs_any (v:Value) (l:List Ac) (w:World) (h:Acs w v l) (hm:l.length ≤ 1000000) (hx:∀ a ∈ l,a.x.length ≤ 1000000) :
 Calls Tryz.prog 48 #[v] w (RetCp (fun x v => Acs x v l) w l.length):=by
 obtain ⟨ps0,hps,hr,hx0⟩:=h
 obtain ⟨n,hn⟩:∃ n,n = l.length:=⟨_,rfl⟩
 rw [← hn] at hr hm ⊢
 have hpn:ps0.length = n:=by rw [hn,← hps,List.length_map]
 have HCL:=Lib.hid (clone_act v n (acsV ps0) w hr (acsV_one ps0) hm)
 have H0:=Lib.hid (fun p (hp:p ∈ ps0) => tms_here (hx0 p hp))
 have HX:=Lib.hid hx
 have HP:=Lib.hid hps
 have HPN:=Lib.hid hpn
 have HN:=Lib.hid hn
 clear hr hx0 hx hps hpn hn
 go_enter Tryz.func48,Tryz.ntmps48
 go_wp2_with (go_at_call 70; go_fit HCL.out)
 rintro e w1 ⟨A1,c1,rfl,hown,hb1⟩
 have HS:Hid (MixA w.heap.size w1 (.slice A1 n c1) ps0 0):=Lib.hid (MixR.start hb1 (by rw [HPN.out]; exact hown) H0.out)
 have HB1:=Lib.hid hb1
 clear hown hb1
 go_wp2_with fail
 go_loopw [8] (fun i wr => CaRel w l A1 n c1 i wr) (fun i _ => n - (intOf i).toNat)
 case atStart => exact ⟨0,ps0,Nat.zero_le _,rfl,HP.out,HS,HB1⟩
 case round =>
  obtain ⟨k,ps,hk,rfl,hps,HM,HB⟩:=hrel
  have hpn:ps.length = n:=by rw [HN.out,← hps,List.length_map]
  by_cases hlt:k < n
  case neg =>
   obtain rfl:k = n:=by omega
   go_wp2_with fail
   go_ret
   exact ⟨A1,c1,rfl,(MixR.far HM.out (Nat.le_of_eq hpn)).imp fun x g => ⟨ps,hps,by rw [HN.out,← hps,List.length_map] at *; exact hpn ▸ g.1,g.2⟩,HB.out⟩
  obtain ⟨⟨a,xA,xn,xc⟩,hp⟩:∃ p,ps[k]? = some p:=get_some (by omega)
  obtain ⟨g,cap,heq,hcap⟩:=own_at HM.out.own (by omega)
  rw [hpn] at heq
  cases heq
  have hal:a ∈ l:=by rw [← hps]; exact List.mem_map.2 ⟨_,List.mem_of_getElem? hp,rfl⟩
  obtain ⟨hxn,hr⟩:=tms_rdk (HM.out.now hp)
  have HT:Hid (Rdk 3 wr (.slice xA xn xc) xn (tmsV a.x)):=Lib.hid hr
  have HXN:Hid (xn ≤ 1000000):=Lib.hid (by have:=HX.out a hal; simp only at hxn; omega)
  have HXL:Hid (xn = a.x.length):=Lib.hid hxn
  have HPS:=Lib.hid hps
  have HPN2:=Lib.hid hpn
  have HPK:=Lib.hid hp
  obtain ⟨-,hcells,hg1,hg2⟩:=MixR.cells HM.out hpn
  have c2:wr.cell? ⟨g,k * 3 + 2,none⟩ = some (.slice xA xn xc):=hcells _ _ (acsV_get hp).2.2
  have HG:=Lib.hid (And.intro hg1 hg2)
  clear hcells hxn hr hal hps hpn hp hg1
  go_wp2_with (go_at_call 50; go_fit (clone_term _ _ _ _ HT.out (tmsV_one _) HXN.out))
  rintro e w5 ⟨A5,c5,rfl,hown5,hb5⟩
  have HM5:=Lib.hid (HM.out.keep hb5)
  have HB5:=Lib.hid (below_two' HB.out hb5)
  have HO5:=Lib.hid hown5
  obtain ⟨⟨cur,hcur⟩,hcells,-,-⟩:=MixR.cells HM5.out HPN2.out
  have hz5:=HB5.out.size
  have c2':w5.cell? ⟨g,k * 3 + 2,none⟩ = some (.slice xA xn xc):=hcells _ _ (acsV_get HPK.out).2.2
  have f2':w5.frozen? ⟨g,k * 3 + 2,none⟩ = false:=free_of_block' hcur _
  clear hcells hcur hown5 hb5 c2
  go_wp2_with fail
  go_roundw
  case rel =>
   refine ⟨k + 1,ps.set k ⟨a,A5,xn,c5⟩,hlt,by go_num,?_,Lib.hid ?_,Lib.hid ?_⟩
   ·exact (map_same (a':=⟨a,A5,xn,c5⟩) HPK.out rfl).trans HPS.out
   ·refine MixR.set HM5.out HPN2.out acV_length HPK.out (by decide) rfl (fun q h1 h2 => by omega) ?_
    exact (dep_new HO5.out (Nat.le_trans HG.out.1 (Nat.le_of_lt HG.out.2)) HG.out.2).imp fun _ g => ⟨_,HXL.out,g⟩
   ·exact HB5.out.setCell HG.out.1 _
  case measure => simp [intOf]; omega
end Go.Proofs.YtckojimeglkobaaGreatDoor