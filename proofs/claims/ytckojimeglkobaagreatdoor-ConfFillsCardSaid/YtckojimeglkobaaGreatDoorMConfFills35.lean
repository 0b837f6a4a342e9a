/- ConfAtX, ConfFill, RangeSeq, RangeStop, GroupEach, GroupList, joined. -/
import Derived.Test.YtckojimeglkobaaGreatDoorMConfFills34
import Derived.RangeFuncBox
import Derived.RangeFuncNested
import Derived.RangeFuncBound
import Derived.RangeFuncCalls
import Derived.RangeFuncLeaves
import Derived.Shelf.RegionOpen
import Derived.Test.YtckojimeglkobaaGreatDoorMConfFills01
import Derived.Shelf.Abstract
import Derived.WalkKit
import Derived.OwnWalkIn
import Derived.TacticsInMore
import Derived.LoopNIn
import Derived.LoopIn
import Derived.Test.YtckojimeglkobaaGreatDoorMConfFills04
namespace Go.Proofs.YtckojimeglkobaaGreatDoor
open Go.RowKit TermSpec EvalSpec ActSpec NamesSpec ExprSpec TransSpec SynSpec CurSpec ShapeSpec GroupSpec AtlasSpec PrintSpec
set_option maxRecDepth 100000
def AtX (X:Nat → Prop) (w:World) (B:Nat) (x:Cx):Prop:=∃ K:Nat → Prop,(∀ b,K b → b ≠ B ∧ b < w.heap.size ∧ ¬ X b) ∧ AtK K w B x
def AtIX (X:Nat → Prop) (w:World) (B:Nat) (x:Cx):Prop:=∃ K:Nat → Prop,(∀ b,K b → b ≠ B ∧ b < w.heap.size ∧ ¬ X b) ∧ AtI K w B x
def RetAtX (X:Nat → Prop) (W:World) (B:Nat) (x:Cx) (R:World → Value → Prop) (e:Ending) (w':World):Prop:=∃ v,e = .returned v ∧ R w' v ∧ AtX X w' B x ∧ W.grownBy w' (some B)
theorem AtX.low {X:Nat → Prop} {w:World} {B:Nat} {x:Cx} (h:AtX X w B x):AtD w B x:=by
 obtain ⟨K,hK,h⟩:=h
 exact ⟨K,fun b hb => ⟨(hK b hb).1,(hK b hb).2.1⟩,h⟩
theorem AtIX.low {X:Nat → Prop} {w:World} {B:Nat} {x:Cx} (h:AtIX X w B x):AtIn w B x:=by
 obtain ⟨K,hK,h | h⟩:=h
 ·exact .inl h
 ·exact .inr ⟨K,fun b hb => ⟨(hK b hb).1,(hK b hb).2.1⟩,h⟩
theorem AtIn.free {w:World} {B:Nat} {x:Cx} (h:AtIn w B x):AtIX (fun _ => False) w B x:=by
 obtain ⟨K,hK,h⟩:=h.some
 exact ⟨K,fun b hb => ⟨(hK b hb).1,(hK b hb).2,id⟩,h⟩
theorem AtIn.freeX {w w':World} {B:Nat} {x:Cx} (h:AtIn w B x) (hb:Below w.heap.size w w'):AtIX (fun b => w.heap.size ≤ b ∧ b < w'.heap.size) w' B x:=by
 obtain ⟨K,hK,h⟩:=h.some
 refine ⟨K,fun b hb' => ?_,h.keep hb⟩
 have h1:=hK b hb'
 have h2:=hb.size
 exact ⟨h1.1,by omega,by omega⟩
theorem AtX.keep {X:Nat → Prop} {w w':World} {B:Nat} {x:Cx} (h:AtX X w B x) (hb:Below w.heap.size w w'):AtX X w' B x:=by
 obtain ⟨K,hK,h⟩:=h
 exact ⟨K,fun b hb' => ⟨(hK b hb').1,Nat.lt_of_lt_of_le (hK b hb').2.1 hb.size,(hK b hb').2.2⟩,h.keep hb⟩
theorem AtX.go {X:Nat → Prop} {w w':World} {B C:Nat} {x:Cx} (h:AtX X w B x) (g:w.grownBy w' (some C)) (hC:X C) (hB:C ≠ B):AtD w' B x:=by
 obtain ⟨K,hK,h⟩:=h
 exact (h.go g (fun hk => (hK C hk).2.2 hC) hB).done fun b hb => (hK b hb).1
theorem AtX.goX {X:Nat → Prop} {w w':World} {B C:Nat} {x:Cx} (h:AtX X w B x) (g:w.grownBy w' (some C)) (hC:X C) (hB:C ≠ B):AtX X w' B x:=by
 obtain ⟨K,hK,h⟩:=h
 exact ⟨K,fun b hb => ⟨(hK b hb).1,Nat.lt_of_lt_of_le (hK b hb).2.1 g.size,(hK b hb).2.2⟩,h.go g (fun hk => (hK C hk).2.2 hC) hB⟩
theorem AtX.weak {X X':Nat → Prop} {w:World} {B:Nat} {x:Cx} (h:AtX X w B x) (hx:∀ b,b < w.heap.size → X' b → X b):AtX X' w B x:=by
 obtain ⟨K,hK,h⟩:=h
 exact ⟨K,fun b hb => ⟨(hK b hb).1,(hK b hb).2.1,fun h' => (hK b hb).2.2 (hx b (hK b hb).2.1 h')⟩,h⟩
theorem AtK.doneX {X K:Nat → Prop} {w:World} {B:Nat} {x:Cx} (h:AtK K w B x) (hK:∀ b,K b → b ≠ B ∧ ¬ X b):AtX X w B x:=by
 obtain ⟨e,v,s,pl,rw,ev,ps,h1,h3,h2⟩:=h
 exact ⟨fun b => K b ∧ b < w.heap.size,fun b hb => ⟨(hK b hb.1).1,hb.2,(hK b hb.1).2⟩,e,v,s,pl,rw,ev,ps,h1,h3,h2.mono fun b hb h => ⟨h,hb⟩⟩
section
variable (X:Nat → Prop) (B:Nat) (x:Cx) (w:World) (h:AtIX X w B x) (hX:∀ b,X b → B < b ∧ b < w.heap.size) (hk:chk (x.sts.map shOf) = 0) (hev:x.evs.length ≤ 1000000)
include h hX hk hev
set_option maxRecDepth 100000 in
set_option maxHeartbeats 4000000 in
theorem rowX (i:Int):Calls Tryz.prog 80 #[.pointer (some ⟨B,0,none⟩),.int .i64 i] w (RetAtX X w B x (IsRow (x.sts.map shOf) i)):=by
 obtain ⟨W1,hW1⟩:∃ W1,w.alloc (.cells #[.slice none 0 0,.int .u64 0,.int .u64 0,.int .i64 0] 137) = W1:=⟨_,rfl⟩
 have hb1:Below w.heap.size w W1:=by rw [← hW1]; exact KitC.below_one _ _
 have hk1:W1.heap[w.heap.size]? = some (.cells #[.slice none 0 0,.int .u64 0,.int .u64 0,.int .i64 0] 137):=by rw [← hW1]; exact heap_alloc_new _ _
 have HBL:Hid (B < w.heap.size):=Lib.hid h.low.lt
 have HG:=Lib.hid (AtIn.good B x W1 (h.low.keep hb1))
 obtain ⟨K,hK,hI⟩:=h
 have HD:=Lib.hid (do_any K B x W1 (hI.keep hb1) hk hev)
 have HKK:=Lib.hid hK
 have HXX:=Lib.hid hX
 have hmf:∀ (fn:Fn) (first cap:Array Value) (w:World),(Instr.makeFunc fn first cap).run Tryz.prog w = .ok (.func fn first cap) w:=fun _ _ _ _ => rfl
 have hrb:∀ w,(Instr.build 137 #[]).run Tryz.prog w = .ok (.agg #[.slice none 0 0,.int .u64 0,.int .u64 0,.int .i64 0]) w:=fun w => run_build w 137 _ _ (by kernel_rfl)
 obtain ⟨l,hl⟩:∃ l,l = x.sts.map shOf:=⟨_,rfl⟩
 have HL:Hid (x.sts.map shOf = l):=Lib.hid hl.symm
 have h60:Hid (l.length ≤ 60):=Lib.hid (by rw [hl]; exact (chk_ok hk).1)
 have HK1:=Lib.hid hk1
 have HB1:=Lib.hid hb1
 have HW1:=Lib.hid hW1
 rw [HL.out]
 clear hX hI hK hk hev hl hW1 hb1 hk1
 go_enter Tryz.func80,Tryz.ntmps80
 go_wp2_with (rw [HW1.out]; go_at_call 29; go_fit HG.out)
 rintro e w2 ⟨rfl,rfl⟩
 go_wp2_with (go_at_call 100; go_fit HD.out)
 rintro e w3 ⟨rfl,hD,hg⟩
 have HAD:=Lib.hid hD
 have HGR:=Lib.hid hg
 have hk3:=blk_go HK1.out hg (fun e => by injection e with e; have:=HBL.out; omega)
 have HK3:=Lib.hid hk3
 obtain ⟨z0,z1,z2,z3⟩:=cells_4 hk3
 obtain ⟨f0,f1,f2,f3⟩:=free_4 hk3
 obtain ⟨e1,v1,s1,pl,rw,ev,ps,hb,hro,hdep⟩:=hD
 rw [HL.out] at hro
 have HRO:=Lib.hid hro
 have HRI:=Lib.hid (hdep.imp fun X g => g.2.2.1)
 obtain ⟨A,c,rfl,hc,-,hA⟩:=(hdep.now).2.2.1.1
 have HA:=Lib.hid hA
 obtain ⟨c0,c1,c2,c3,c4,-,-,c8,c9,c10⟩:=at_cells hb
 obtain ⟨n,hn⟩:∃ n,n = ps.length:=⟨_,rfl⟩
 have HN:=Lib.hid hn
 have hn60:n ≤ 60:=by have:=h60.out; have:=hro.1; omega
 rw [← hn] at c9 HA
 clear hb hdep hg hk3 hro hc hA hn
 have HEND:Hid (∀ (u0 u1 u2 u3:Value),AtX X ((((w3.setCell ⟨w.heap.size,0,none⟩ u0).setCell ⟨w.heap.size,1,none⟩ u1).setCell ⟨w.heap.size,2,none⟩ u2).setCell ⟨w.heap.size,3,none⟩ u3) B x ∧ w.grownBy ((((w3.setCell ⟨w.heap.size,0,none⟩ u0).setCell ⟨w.heap.size,1,none⟩ u1).setCell ⟨w.heap.size,2,none⟩ u2).setCell ⟨w.heap.size,3,none⟩ u3) (some B) ∧
  ∀ v xs,Dep w3 (fun b => b < B ∨ K b ∨ W1.heap.size ≤ b) (fun X => Rd X v xs) → Rd ((((w3.setCell ⟨w.heap.size,0,none⟩ u0).setCell ⟨w.heap.size,1,none⟩ u1).setCell ⟨w.heap.size,2,none⟩ u2).setCell ⟨w.heap.size,3,none⟩ u3) v xs):=Lib.hid (fun u0 u1 u2 u3 => by
  have hg:w3.grownBy ((((w3.setCell ⟨w.heap.size,0,none⟩ u0).setCell ⟨w.heap.size,1,none⟩ u1).setCell ⟨w.heap.size,2,none⟩ u2).setCell ⟨w.heap.size,3,none⟩ u3) (some w.heap.size):=but_set (but_set (but_set (but_set (but_refl _ _) _ _) _ _) _ _) _ _
  have hz:=(Array.getElem?_eq_some_iff.1 HK1.out).1
  have hr:¬ (w.heap.size < B ∨ K w.heap.size ∨ W1.heap.size ≤ w.heap.size):=fun h => by
   have:=HBL.out
   rcases h with h | h | h
   ·omega
   ·exact Nat.lt_irrefl _ (HKK.out _ h).2.1
   ·omega
  refine ⟨(HAD.out.go hg hr (by have:=HBL.out; omega)).doneX fun b hb => ?_,gr_any (gr_any (gr_none HB1.out (some B)) HGR.out (fun j e => .inl e)) hg (fun j e => .inr (by injection e with e; omega)),fun v xs hd => (hd.go hg fun b hb e => by injection e with e; exact hr (e ▸ hb)).now⟩
  have:=HBL.out
  have hz1:=HB1.out.size
  rcases hb with h | h | h
  ·exact ⟨by omega,fun hx => by have:=HXX.out b hx; omega⟩
  ·exact ⟨(HKK.out b h).1,(HKK.out b h).2.2⟩
  ·exact ⟨by omega,fun hx => by have:=HXX.out b hx; omega⟩)
 by_cases hi0:i < 0
 ·have HOUT:=Lib.hid (rowTb_out (l:=l) (i:=i) (by omega))
  obtain ⟨q0,q1,q2,q3⟩:=store_4 (blk_of HK3.out (n:=4) rfl) (.slice none 0 0) (.int .u64 0) (.int .u64 0) (.int .i64 0)
  go_wp2_with fail
  refine bodyPost_ret (v:=.agg #[.slice none 0 0,.int .u64 0,.int .u64 0,.int .i64 0]) (by simp [results,Tryz.results80,go_sem,q0,q1,q2,q3]) rfl ?_
  refine ⟨_,rfl,⟨none,0,0,by rw [HOUT.out.2.1,HOUT.out.2.2.1,HOUT.out.2.2.2]; rfl,by rw [HOUT.out.1]; exact Rd.nil _⟩,(HEND.out _ _ _ _).1,(HEND.out _ _ _ _).2.1⟩
 obtain ⟨j,rfl⟩:=Int.eq_ofNat_of_zero_le (show 0 ≤ i by omega)
 by_cases hin:n ≤ j
 ·have hin1:(n:Int) ≤ (j:Int):=by omega
  have HOUT:=Lib.hid (rowTb_out (l:=l) (i:=(j:Int)) (by have:=HRO.out.1; have:=HN.out; omega))
  obtain ⟨q0,q1,q2,q3⟩:=store_4 (blk_of HK3.out (n:=4) rfl) (.slice none 0 0) (.int .u64 0) (.int .u64 0) (.int .i64 0)
  go_wp2_with fail
  refine bodyPost_ret (v:=.agg #[.slice none 0 0,.int .u64 0,.int .u64 0,.int .i64 0]) (by simp [results,Tryz.results80,go_sem,q0,q1,q2,q3]) rfl ?_
  refine ⟨_,rfl,⟨none,0,0,by rw [HOUT.out.2.1,HOUT.out.2.2.1,HOUT.out.2.2.2]; rfl,by rw [HOUT.out.1]; exact Rd.nil _⟩,(HEND.out _ _ _ _).1,(HEND.out _ _ _ _).2.1⟩
 ·have hin1:¬ (n:Int) ≤ (j:Int):=by omega
  have hin2:(j:Int) < (n:Int):=by omega
  obtain ⟨p,hp⟩:∃ p,ps[j]? = some p:=get_some (by have:=HN.out; omega)
  obtain ⟨b,off,rfl,hbl,hcell⟩:=HA.out (by omega)
  have x0:w3.cell? ⟨b,off + j * 4,none⟩ = some (.slice p.A p.n p.c):=by exact hcell (j * 4 + 0) _ (flat_get (j:=0) rwV_length hp (by decide))
  have x1:w3.cell? ⟨b,off + j * 4 + 1,none⟩ = some (.int .u64 p.ab):=by rw [Nat.add_assoc]; exact hcell (j * 4 + 1) _ (flat_get (j:=1) rwV_length hp (by decide))
  have x2:w3.cell? ⟨b,off + j * 4 + 2,none⟩ = some (.int .u64 p.be):=by rw [Nat.add_assoc]; exact hcell (j * 4 + 2) _ (flat_get (j:=2) rwV_length hp (by decide))
  have x3:w3.cell? ⟨b,off + j * 4 + 3,none⟩ = some (.int .i64 p.d):=by rw [Nat.add_assoc]; exact hcell (j * 4 + 3) _ (flat_get (j:=3) rwV_length hp (by decide))
  obtain ⟨r1,r2,r3,r4⟩:=HRO.out.2 j p hp
  rw [beP_all] at r3
  have HJ:Hid (j < l.length):=Lib.hid (by have:=HRO.out.1; have:=HN.out; omega)
  have HRR:Hid (p.ks = kidsTb l (j:Int) ∧ p.ab = aboveTb l (j:Int) ∧ p.be = belowTb l (j:Int) ∧ p.d = depthTb l (j:Int)):=Lib.hid ⟨by rw [r1,kidsTb_in HJ.out],by rw [r2,aboveTb_in HJ.out],by rw [r3,belowTb_in HJ.out],by rw [r4,depthTb_in HJ.out]⟩
  have HRP:=Lib.hid (HRI.out.imp fun X g => g.2 p (List.mem_of_getElem? hp))
  obtain ⟨pA,pn,pc,pks,pab,pbe,pd⟩:=p
  simp only at HRR
  obtain ⟨q0,q1,q2,q3⟩:=store_4 (blk_of HK3.out (n:=4) rfl) (.slice pA pn pc) (.int .u64 pab) (.int .u64 pbe) (.int .i64 pd)
  clear hcell r1 r2 r3 r4 hp hin
  go_wp2_with fail
  refine bodyPost_ret (v:=.agg #[.slice pA pn pc,.int .u64 pab,.int .u64 pbe,.int .i64 pd]) (by simp [results,Tryz.results80,go_sem,q0,q1,q2,q3]) rfl ?_
  obtain ⟨k1,k2,k3,k4⟩:=HRR.out
  refine ⟨_,rfl,⟨pA,pn,pc,by rw [← k2,← k3,← k4],?_⟩,(HEND.out _ _ _ _).1,(HEND.out _ _ _ _).2.1⟩
  rw [← k1]
  exact (HEND.out _ _ _ _).2.2 _ _ HRP.out
end
section
variable (X:Nat → Prop) (B:Nat) (x:Cx) (w:World) (h:AtIX X w B x) (hX:∀ b,X b → B < b ∧ b < w.heap.size) (hk:chk (x.sts.map shOf) = 0) (hev:x.evs.length ≤ 1000000) (i:Int)
include h hX hk hev
theorem belowX:Calls Tryz.prog 60 #[.pointer (some ⟨B,0,none⟩),.int .i64 i] w (RetAtX X w B x (fun _ v => v = .int .u64 (belowTb (x.sts.map shOf) i))):=by
 have HR:=Lib.hid (rowX X B x w h hX hk hev i)
 obtain ⟨l,hl⟩:∃ l,l = x.sts.map shOf:=⟨_,rfl⟩
 rw [← hl] at HR ⊢
 have hfl:=row_fld2
 clear h hX hk hev hl
 go_enter Tryz.func60,Tryz.ntmps60
 go_wp2_with (go_at_call 80; go_fit HR.out)
 rintro e w2 ⟨v,rfl,⟨A,n,c,rfl,-⟩,hD,hg⟩
 have HD:=Lib.hid hD
 have HG:=Lib.hid hg
 clear hD hg
 go_wp2_with fail
 go_ret
 exact ⟨_,rfl,rfl,HD.out,HG.out⟩
end
end Go.Proofs.YtckojimeglkobaaGreatDoor
namespace Go.Proofs.YtckojimeglkobaaGreatDoor
open Go.RowKit Go.Sort TermSpec EvalSpec ActSpec NamesSpec ExprSpec TransSpec SynSpec CurSpec ShapeSpec GroupSpec AtlasSpec PrintSpec ConfSpec
set_option maxRecDepth 100000
def FillRel (W2:World) (l:List Sh) (m n:Nat) (u v:Value) (wr:World):Prop:=∃ k:Nat,k ≤ n ∧ v = .int .i64 k ∧ u = .int .u64 (fillTo l m k) ∧ Hid (Below W2.heap.size W2 wr)
theorem fill_out {l:List Sh} {m k:Nat} (h:hasG (fillTo l m k) (k:Int) = false):fillTo l m (k + 1) = fillTo l m k:=by
 show stepF l (fillTo l m k) k = _
 unfold stepF
 rw [h]
 rfl
theorem fill_and {l:List Sh} {m k:Nat} (h:hasG (fillTo l m k) (k:Int) = true) (h3:kind l k = 3):fillTo l m (k + 1) = fillTo l m k ||| ofG (kids l k):=by
 show stepF l (fillTo l m k) k = _
 unfold stepF
 rw [if_pos h,if_pos h3]
theorem fill_or {l:List Sh} {m k:Nat} (h:hasG (fillTo l m k) (k:Int) = true) (h2:kind l k = 2) (h0:ofG (kids l k) &&& fillTo l m k = 0):fillTo l m (k + 1) = withG (fillTo l m k) ((kids l k).headD 0):=by
 show stepF l (fillTo l m k) k = _
 unfold stepF
 rw [if_pos h,if_neg (by omega),if_pos ⟨h2,h0⟩]
theorem fill_none {l:List Sh} {m k:Nat} (h3:kind l k ≠ 3) (h2:kind l k = 2 → ofG (kids l k) &&& fillTo l m k ≠ 0):fillTo l m (k + 1) = fillTo l m k:=by
 show stepF l (fillTo l m k) k = _
 unfold stepF
 by_cases h:hasG (fillTo l m k) (k:Int) = true
 ·rw [if_pos h,if_neg h3,if_neg (fun h => h2 h.1 h.2)]
 ·rw [if_neg h]
section
variable (X:Nat → Prop) (B:Nat) (x:Cx) (w:World) (h:AtIX X w B x) (hX:∀ b,X b → B < b ∧ b < w.heap.size) (hk:chk (x.sts.map shOf) = 0) (hne:∀ i,i < (x.sts.map shOf).length → kind (x.sts.map shOf) i = 2 → kids (x.sts.map shOf) i ≠ []) (hev:x.evs.length ≤ 1000000) (m:Nat) (h64:m < 18446744073709551616)
include h hX hk hne hev h64
set_option maxRecDepth 100000 in
set_option maxHeartbeats 16000000 in
theorem filledX (sA:Option Addr) (sn sc:Nat) (hl:Dep w (fun b => b ≠ B) (fun X => StsP X (.slice sA sn sc) x.sts)):Calls Tryz.prog 35 #[.pointer (some ⟨B,0,none⟩),.slice sA sn sc,.int .u64 m] w (RetAtX X w B x (fun _ v => v = .int .u64 (fillG (x.sts.map shOf) m))):=by
 have HBL:=Lib.hid (belowX X B x w h hX hk hev 0)
 have HKD:=Lib.hid (fun W (hW:AtD W B x) (i:Int) => kidsD B x W hW hk i)
 have hsl:sn = x.sts.length:=(hl.now.len).1
 have HSL:Hid ((x.sts.map shOf).length = sn):=Lib.hid (by rw [List.length_map]; exact hsl.symm)
 have HXL:=Lib.hid hsl
 have h60:sn ≤ 60:=by have:=(chk_ok hk).1; have:=HSL.out; omega
 have HHL:=Lib.hid hl
 obtain ⟨l,hll⟩:∃ l,l = x.sts.map shOf:=⟨_,rfl⟩
 have HKI:Hid (∀ (k:Nat) s,x.sts[k]? = some s → kind l k = s.kind):=Lib.hid fun k s hs => by rw [hll]; exact kind_at (s:=shOf s) (by rw [List.getElem?_map,hs]; rfl)
 rw [← hll] at HBL HKD hne HSL ⊢
 have HNE:=Lib.hid hne
 have HKL:Hid (∀ (k:Nat),k < sn → kidsTb l (k:Int) = kids l k):=Lib.hid fun k hk => kidsTb_in (by have:=HSL.out; omega)
 have HML:=Lib.hid (fillTo_lt (l:=l) (m:=m) h64)
 have HKN:Hid (∀ k,(kids l k).length ≤ 60):=Lib.hid fun k => by
  have h1:=kids_le l k l.length
  have h2:=HSL.out
  unfold kids
  omega
 obtain ⟨b0,hb0⟩:∃ b0,b0 = belowTb l 0:=⟨_,rfl⟩
 have HM0:Hid (m &&& b0 = fillTo l m 0):=Lib.hid (by rw [hb0]; rfl)
 have hba:bits .and .u64 (m:Int) (b0:Int) = ((m &&& b0:Nat):Int):=bits_and_u64_nat m _ h64 (by rw [hb0]; exact belowTb_lt _ _)
 rw [HM0.out] at hba
 rw [← hb0] at HBL
 clear h hX hk hne hev h64 hsl hl hll hb0
 go_enter Tryz.func35,Tryz.ntmps35
 go_wp2_with (go_at_call 60; go_fit HBL.out)
 rintro e w2 ⟨v,rfl,rfl,hat,hg⟩
 have HAD:=Lib.hid hat
 have HG:=Lib.hid hg
 have HST:Hid (∀ W,Below w2.heap.size w2 W → StsP W (.slice sA sn sc) x.sts):=Lib.hid fun W hW => ((HHL.out.go hg fun b hb e => hb (by injection e with e; exact e.symm)).keep hW).now
 clear hat hg
 go_wp2_with fail
 clear hba
 go_loopw [2,16] (fun u v wr => FillRel w2 l m sn u v wr) (fun _ v _ => sn - (intOf v).toNat)
 case atStart => exact ⟨0,Nat.zero_le _,rfl,rfl,Lib.hid (Below.refl _ _)⟩
 case round =>
  obtain ⟨k,hk,rfl,rfl,HR⟩:=hrel
  by_cases hlt:k < sn
  ·have hltI:(k:Int) < sn:=by omega
   obtain ⟨s,hs⟩:∃ s,x.sts[k]? = some s:=get_some (by have:=HXL.out; omega)
   obtain ⟨b,off,a3,n3,m3,a4,n4,m4,a5,n5,m5,rfl,hbl,x0,x1,x2,x3,x4,x5,-⟩:=StsP.at_ (HST.out _ HR.out) hs
   have HKS:=Lib.hid (HKI.out k s hs)
   have HKK:=Lib.hid (HKL.out k hlt)
   have hfo:=@fill_out l m k
   have hfa:=@fill_and l m k
   have hfr:=@fill_or l m k
   have hfn:=@fill_none l m k
   have hM:=HML.out k
   have hK:=ofG_lt (kids l k)
   obtain ⟨nmk,kd,pr,i1,i2,i3⟩:=s
   simp only at x0 x1 x2 HKS
   rw [HKS.out] at hfa hfr hfn
   obtain ⟨M,hMe⟩:∃ M,M = fillTo l m k:=⟨_,rfl⟩
   rw [← hMe] at hfo hfa hfr hfn hM ⊢
   have HHK:=Lib.hid (fun W => ghas_any M (k:Int) hM W)
   obtain ⟨bk,hbk⟩:∃ bk,bk = hasG M (k:Int):=⟨_,rfl⟩
   rw [← hbk] at HHK hfo hfa hfr
   obtain ⟨kl,hkl⟩:∃ kl,kl = kids l k:=⟨_,rfl⟩
   have HNK:Hid (kd = 2 → ∃ y r,kl = y :: r):=Lib.hid fun h2 => by
    rw [hkl]
    exact List.exists_cons_of_ne_nil (HNE.out k (by have:=HSL.out; omega) (HKS.out.trans h2))
   have hkn:=HKN.out k
   rw [← hkl] at hfa hfr hfn hK HKK hkn
   have HKN':=Lib.hid hkn
   obtain ⟨K,hKe⟩:∃ K,K = ofG kl:=⟨_,rfl⟩
   have HKE:=Lib.hid hKe
   rw [← hKe] at hfa hfr hfn hK
   have HFO:=Lib.hid hfo
   have HFA:=Lib.hid hfa
   have HFR:=Lib.hid hfr
   have HFN:=Lib.hid hfn
   have HM:=Lib.hid hM
   have HK:=Lib.hid hK
   obtain ⟨W5,hW5⟩:∃ W5,wr.alloc (.cells #[.string nmk,.int .i64 kd,.int .i64 pr,.slice a3 n3 m3,.slice a4 n4 m4,.slice a5 n5 m5] 58) = W5:=⟨_,rfl⟩
   have hb5:Below wr.heap.size wr W5:=by rw [← hW5]; exact KitC.below_one _ _
   have hk5:W5.heap[wr.heap.size]? = some (.cells #[.string nmk,.int .i64 kd,.int .i64 pr,.slice a3 n3 m3,.slice a4 n4 m4,.slice a5 n5 m5] 58):=by rw [← hW5]; exact heap_alloc_new _ _
   have HB5:=Lib.hid (below_two' HR.out hb5)
   have HW5:=Lib.hid hW5
   have HK5:=Lib.hid hk5
   clear hs hfo hfa hfr hfn hM hK hMe hbk hkl hkn hKe hW5 hb5 hk5
   cases bk with
   | false =>
     have HS:=Lib.hid (HFO.out rfl)
     go_wp2_with ((try rw [HW5.out]); go_at_call 42; go_fit (HHK.out _))
     rintro e w4 ⟨rfl,rfl⟩
     go_wp2_with fail
     go_roundw
     case rel => exact ⟨k + 1,by omega,by go_num,by rw [HS.out],HB5⟩
     case measure => simp [intOf]; omega
   | true =>
     have HKW:=Lib.hid (HKD.out W5 (HAD.out.low.keep HB5.out) (k:Int))
     rw [HKK.out] at HKW
     go_wp2_with ((try rw [HW5.out]); go_at_call 42; go_fit (HHK.out _))
     rintro e w4 ⟨rfl,rfl⟩
     go_wp2_with ((try rw [HW5.out]); go_at_call 64; go_fit HKW.out)
     rintro e w6 ⟨kv,rfl,hrd,hb6⟩
     have HOF:=Lib.hid (of_any kv kl w6 hrd (by have:=HKN'.out; omega))
     rw [← HKE.out] at HOF
     obtain ⟨A,n,c,rfl,hn,hc,hA⟩:=hrd.ints
     have HA:=Lib.hid hA
     have HN:=Lib.hid hn
     obtain ⟨s0,s1,s2,s3,s4,s5⟩:=cells_6 (KitC.block_on HK5.out hb6)
     have HB6:=Lib.hid (below_two' HB5.out hb6)
     clear hrd hb6 hn hc hA
     by_cases h3:kd = 3
     ·subst h3
      have hor:bits .or .u64 (M:Int) (K:Int) = ((M ||| K:Nat):Int):=bits_or_u64_nat M K HM.out HK.out
      have HS:=Lib.hid (HFA.out (by trivial) rfl)
      go_wp2_with (go_at_call 63; go_fit HOF.out)
      rintro e w7 ⟨rfl,rfl⟩
      go_wp2_with fail
      go_roundw
      case rel => exact ⟨k + 1,by omega,by go_num,by rw [HS.out],HB6⟩
      case measure => simp [intOf]; omega
     ·have g3:(kd == 3) = false:=by simpa using h3
      by_cases h2:kd = 2
      ·subst h2
       have hand:bits .and .u64 (K:Int) (M:Int) = ((K &&& M:Nat):Int):=bits_and_u64_nat K M HK.out HM.out
       by_cases hz:K &&& M = 0
       ·rw [hz] at hand
        obtain ⟨y,r,hyr⟩:=HNK.out rfl
        have HS:=Lib.hid (HFR.out (by trivial) rfl hz)
        rw [hyr,List.headD_cons] at HS
        have HWI:=Lib.hid (fun W => with_any M y HM.out W)
        have hn0:0 < n:=by have:=HN.out; rw [hyr] at this; simp at this; omega
        obtain ⟨kb,ko,rfl,hkb,hkc⟩:=HA.out hn0
        have hck:=hkc 0 y (by rw [hyr]; rfl)
        rw [Nat.add_zero] at hck
        have hn0I:(0:Int) < (n:Int):=by omega
        clear hyr hkc hz
        go_wp2_with (first | (go_at_call 63; go_fit HOF.out; rintro e w7 ⟨rfl,rfl⟩) | (go_at_call 36; go_fit (HWI.out _); rintro e w7 ⟨rfl,rfl⟩))
        go_roundw
        case rel => exact ⟨k + 1,by omega,by go_num,by rw [HS.out],HB6⟩
        case measure => simp [intOf]; omega
       ·have HS:=Lib.hid (HFN.out h3 fun _ => hz)
        obtain ⟨Z,hZ⟩:∃ Z,Z = K &&& M:=⟨_,rfl⟩
        rw [← hZ] at hand hz
        have g0:((Z:Int) == 0) = false:=by simpa using hz
        clear hz hZ
        go_wp2_with (go_at_call 63; go_fit HOF.out; rintro e w7 ⟨rfl,rfl⟩)
        go_roundw
        case rel => exact ⟨k + 1,by omega,by go_num,by rw [HS.out],HB6⟩
        case measure => simp [intOf]; omega
      ·have g2:(kd == 2) = false:=by simpa using h2
       have HS:=Lib.hid (HFN.out h3 fun h => absurd h h2)
       clear h2 h3
       go_wp2_with fail
       go_roundw
       case rel => exact ⟨k + 1,by omega,by go_num,by rw [HS.out],HB6⟩
       case measure => simp [intOf]; omega
  ·have hltI:¬ (k:Int) < sn:=by omega
   have hks:k = l.length:=by have:=HSL.out; omega
   have HE:Hid (fillTo l m k = fillG l m):=Lib.hid (by rw [hks]; rfl)
   clear hlt hks
   rw [HE.out]
   go_wp2_with fail
   go_ret
   exact ⟨_,rfl,rfl,HAD.out.keep HR.out,gr_any HG.out (gr_none HR.out none) (by simp)⟩
end
section
variable (B:Nat) (x:Cx) (w:World) (h:AtIn w B x) (hk:chk (x.sts.map shOf) = 0) (hne:∀ i,i < (x.sts.map shOf).length → kind (x.sts.map shOf) i = 2 → kids (x.sts.map shOf) i ≠ []) (hev:x.evs.length ≤ 1000000) (m:Nat) (h64:m < 18446744073709551616)
include h hk hne hev h64
theorem filled18 (sA:Option Addr) (sn sc:Nat) (hl:Dep w (fun b => b ≠ B) (fun X => StsP X (.slice sA sn sc) x.sts)):Calls Tryz.prog 35 #[.pointer (some ⟨B,0,none⟩),.slice sA sn sc,.int .u64 m] w (RetAt w B x (fun _ v => v = .int .u64 (fillG (x.sts.map shOf) m))) :=
 (filledX (fun _ => False) B x w h.free (fun _ h => h.elim) hk hne hev m h64 sA sn sc hl).mono fun _ _ ⟨v,h1,h2,h3,h4⟩ => ⟨v,h1,h2,h3.low,h4⟩
set_option maxRecDepth 100000 in
set_option maxHeartbeats 4000000 in
theorem fill18 (hf:FewR x):Calls Tryz.prog 12 #[.pointer (some ⟨B,0,none⟩),.int .u64 m] w (RetAt w B x (fun _ v => v = .int .u64 (fillG (x.sts.map shOf) m))):=by
 have HCH:=Lib.hid (chart17 B x w h hf)
 have HFI:=Lib.hid (fun W (hW:AtIn W B x) sA sn sc hl => filled18 B x W hW hk hne hev m h64 sA sn sc hl)
 have HAT:=Lib.hid h
 have HBW:Hid (B < w.heap.size):=Lib.hid h.lt
 obtain ⟨fm,hfm⟩:∃ fm,fm = fillG (x.sts.map shOf) m:=⟨_,rfl⟩
 rw [← hfm] at HFI ⊢
 have hfl:=ch_fld3
 clear h hk hne hev h64 hfm
 go_enter Tryz.func12,Tryz.ntmps12
 go_wp2_with (go_at_call 30; go_fit HCH.out)
 rintro e w2 ⟨eA,ec,vA,vc,sA,sc,rfl,hdep,hb2⟩
 have HD:=Lib.hid hdep
 have HB2:=Lib.hid hb2
 clear hdep hb2
 go_wp2_with (go_at_call 35; go_fit (HFI.out w2 (HAT.out.keep HB2.out) _ _ _ ((HD.out.imp fun X g => g.sts).mono fun b _ hb e => by have:=HBW.out; omega)))
 rintro e w3 ⟨v,rfl,rfl,hat,hg⟩
 have HA3:=Lib.hid hat
 have HG3:=Lib.hid hg
 clear hat hg
 go_wp2_with fail
 go_ret
 exact ⟨_,rfl,rfl,HA3.out,gr_any (gr_none HB2.out (some B)) HG3.out (fun j e => .inl e)⟩
end
end Go.Proofs.YtckojimeglkobaaGreatDoor
namespace Go.Proofs.YtckojimeglkobaaGreatDoor
open Go.RowKit
def Hands (F:Fence) (n:Nat) (P:Program) (g:Nat) (lb:Array Value) (xs:Nat → Array Value) (Kp:World → World → Prop) (N:Nat) (w:World):Prop :=
 ∀ (lp:Nat) (J:Nat → World → Prop) (W:World),Below w.heap.size w W →
   (∀ k W1,J k W1 → k < N → YieldAt F (n - 1) P lp (xs k) W1 fun e W' => e = .returned (.bool true) ∧ J (k + 1) W' ∧ Kp W1 W') →
   J 0 W → CallsIn F n P g (#[.func (.yield lp) #[] #[]] ++ lb) W fun e W' => (∃ v,e = .returned v) ∧ J N W'
end Go.Proofs.YtckojimeglkobaaGreatDoor
namespace Go.Proofs.YtckojimeglkobaaGreatDoor
open Go.RowKit
def HandsS (F:Fence) (n:Nat) (P:Program) (g:Nat) (lb:Array Value) (xs:Nat → Array Value) (Kp:World → World → Prop) (N:Nat) (w:World):Prop :=
 ∀ (lp:Nat) (J:Nat → World → Prop) (Jx:World → Prop) (M:Nat) (W:World),Below w.heap.size w W → M ≤ N →
   (∀ k W1,J k W1 → k < M → YieldAt F (n - 1) P lp (xs k) W1 fun e W' => e = .returned (.bool true) ∧ J (k + 1) W' ∧ Kp W1 W') →
   (M < N → ∀ W1,J M W1 → YieldAt F (n - 1) P lp (xs M) W1 fun e W' => e = .returned (.bool false) ∧ Jx W') →
   J 0 W → CallsIn F n P g (#[.func (.yield lp) #[] #[]] ++ lb) W fun e W' => (∃ v,e = .returned v) ∧ ((M < N ∧ Jx W') ∨ (M = N ∧ J N W'))
theorem HandsS.all {F:Fence} {n:Nat} {P:Program} {g:Nat} {lb:Array Value} {xs:Nat → Array Value} {Kp:World → World → Prop} {N:Nat} {w:World} (h:HandsS F n P g lb xs Kp N w):Hands F n P g lb xs Kp N w :=
 fun lp J W hW hY h0 => (h lp J (fun _ => False) N W hW (Nat.le_refl _) hY (fun h => absurd h (Nat.lt_irrefl _)) h0).mono (by
  rintro e W' ⟨h1,⟨_,h⟩ | ⟨_,h⟩⟩
  ·exact h.elim
  ·exact ⟨h1,h⟩)
end Go.Proofs.YtckojimeglkobaaGreatDoor
namespace Go.Proofs.YtckojimeglkobaaGreatDoor
open Go.RowKit Go.Shelf GroupSpec
set_option maxRecDepth 100000
attribute [local go_sem] Oper.semAt_some
def encE (m k:Nat):Array Value:=#[.int .i64 (Lib.ctz 64 (restG m k):Int)]
theorem TabIn.mono {w w':World} {n₀:Nat} (h:TabIn w) (hg:0 < n₀) (hb:Below n₀ w w'):TabIn w':=by
 obtain ⟨T,fr,h⟩:=h
 exact ⟨T,fr,(hb.block _ hg).trans h⟩
theorem below_turn {n₀:Nat} {w:World} (hn:n₀ ≤ w.heap.size) (W:World) (l:Nat) (o o':Obj) (hl:w.heap.size ≤ l) (h:W.heap[l]? = some o) (_:o.isCells = false):Below n₀ W (W.putObj l o') :=
 (Below.refl n₀ W).grown (grownBy_putObj' W l o') (by have:=(Array.getElem?_eq_some_iff.1 h).1; omega) (fun k e => by cases e; omega)
set_option maxRecDepth 100000 in
set_option maxHeartbeats 2000000 in
theorem each1_in (n:Nat) (hn:1 ≤ n) (lp Bs n₀ m M:Nat) (hm:m < 18446744073709551616) (hM:M ≤ (bitsL m).length) (J:Nat → World → Prop) (Jx:World → Prop)
 (hY:∀ k W,J k W → k < M → YieldAt Fence.wide (n - 1) Tryz.prog lp (encE m k) W fun e W' => e = .returned (.bool true) ∧ J (k + 1) W' ∧ Below n₀ W W')
 (hX:M < (bitsL m).length → ∀ W,J M W → YieldAt Fence.wide (n - 1) Tryz.prog lp (encE m M) W fun e W' => e = .returned (.bool false) ∧ Jx W')
 (W:World) (hBx:Boxed W Bs 27 (.int .u64 m)) (hT:TabIn W) (hg:0 < n₀) (h0:J 0 W) :
 CallsIn Fence.wide n Tryz.prog 81 #[.func (.yield lp) #[] #[],.pointer (some ⟨Bs,0,none⟩)] W fun e W' => (∃ v,e = .returned v) ∧ ((M < (bitsL m).length ∧ Jx W') ∨ (M = (bitsL m).length ∧ J (bitsL m).length W')):=by
 have HT:=Lib.hid hT
 have HX:=Lib.hid hX
 have HY:=Lib.hid hY
 have hBs:=hBx.cell
 clear hT hX hY hBx
 refine callsIn_of_wp Tryz.func81 rfl trivial ?_ rfl
 simp only [Tryz.ntmps81,List.size_toArray,List.length_cons,List.length_nil,Nat.reduceAdd,Nat.reduceSub,Array.replicate_succ,Array.replicate_zero,List.push_toArray,List.append_toArray,List.nil_append,List.cons_append]
 gi_wp2
 gi_loopw [3] (fun v wr => ∃ k:Nat,k ≤ M ∧ v = .int .u64 (restG m k:Nat) ∧ J k wr ∧ Below n₀ W wr)
  (fun v _ => (intOf v).toNat)
 case atStart => exact ⟨0,Nat.zero_le _,rfl,h0,Below.refl _ _⟩
 case round =>
  obtain ⟨k,hk,rfl,hJs,hnx⟩:=hrel
  have hr:=restG_lt hm k
  have HTZ:=Lib.hid (tz_any (restG m k) hr wr (HT.out.mono hg hnx))
  have HNX:=Lib.hid hnx
  by_cases hkl:k < (bitsL m).length
  ·have h0:=(rest_more hm hkl).1
   have hyk:∀ u,u = Lib.ctz 64 (restG m k) → encE m k = #[.int .i64 u]:=fun u hu => by rw [hu]; rfl
   have HE1:Hid (restG m (k + 1) = dropG (restG m k)):=Lib.hid rfl
   have hdl:dropG (restG m k) < restG m k:=by have:dropG (restG m k) ≤ restG m k - 1:=Nat.and_le_right; omega
   obtain ⟨u,hu⟩:∃ u,u = Lib.ctz 64 (restG m k):=⟨_,rfl⟩
   have hyk2:=hyk u hu
   rw [← hu] at HTZ
   clear hyk hu hnx
   obtain ⟨y,hy⟩:∃ y,y = restG m k:=⟨_,rfl⟩
   rw [← hy] at hr h0 HTZ HE1 hdl ⊢
   clear hy
   have hne:((y:Int) != 0) = true:=by rw [ne_cast]; exact decide_eq_true h0
   have hw1:IntKind.u64.wrap ((y:Int) - 1) = ((y - 1:Nat):Int):=by rw [IntKind.wrap_u64]; omega
   have hw2:bits .and .u64 (y:Int) ((y - 1:Nat):Int) = (dropG y:Int):=bits_and_u64_nat y _ hr (by omega)
   have HDL:=Lib.hid hdl
   clear hdl
   by_cases hkM:k < M
   ·obtain ⟨fn,tmps,assign,body,hyy,hR⟩:=HY.out k wr hJs hkM
    rw [hyk2] at hyy
    clear hyk2 hJs
    gi_wp2_with (refine ⟨trivial,?_⟩; gi_at_call 82; (with_reducible refine (callsIn_wide.2 HTZ.out).mono ?_); rintro e w' ⟨rfl,rfl⟩)
    refine hR.mono ?_
    rintro e W3 ⟨rfl,hJ3,hk3⟩
    gi_wp2
    go_roundw
    case rel => exact ⟨k + 1,by omega,by rw [HE1.out],hJ3,HNX.out.trans hk3⟩
    case measure => have:=HDL.out; simp [intOf] <;> omega
   ·obtain rfl:k = M:=by omega
    obtain ⟨fn,tmps,assign,body,hyy,hR⟩:=HX.out hkl wr hJs
    rw [hyk2] at hyy
    clear hyk2 hJs
    gi_wp2_with (refine ⟨trivial,?_⟩; gi_at_call 82; (with_reducible refine (callsIn_wide.2 HTZ.out).mono ?_); rintro e w' ⟨rfl,rfl⟩)
    refine hR.mono ?_
    rintro e W3 ⟨rfl,hJ3⟩
    gi_wp2
    (try simp only [Exit.inBlock,Exit.then])
    refine bodyPost_ret (results_none rfl _ _ _) rfl ?_
    exact ⟨⟨_,rfl⟩,.inl ⟨hkl,hJ3⟩⟩
  ·have h0:=rest_none hm (by omega:(bitsL m).length ≤ k)
   have hkM:k = M:=by omega
   have hkN:k = (bitsL m).length:=by omega
   rw [h0]
   gi_wp2
   go_end0
   exact ⟨⟨_,rfl⟩,.inr ⟨hkM.symm.trans hkN,hkN ▸ hJs⟩⟩
set_option maxHeartbeats 1000000 in
theorem each_in (m:Nat) (n:Nat) (w:World) :
 CallsIn Fence.wide n Tryz.prog 61 #[.int .u64 m] w fun e w' => e = .returned (.func (.func 81) #[] #[.pointer (some ⟨w.heap.size,0,none⟩)]) ∧ w' = w.alloc (.cells #[.int .u64 m] 27):=by
 refine callsIn_of_wp Tryz.func61 rfl trivial ?_ rfl
 simp only [Tryz.ntmps61,List.size_toArray,List.length_cons,List.length_nil,Nat.reduceAdd,Nat.reduceSub,Array.replicate_succ,Array.replicate_zero,List.push_toArray,List.append_toArray,List.nil_append,List.cons_append]
 gi_wp2
 go_ret
 exact ⟨rfl,rfl⟩
theorem each_hands (n:Nat) (hn:1 ≤ n) (Bs n₀ m:Nat) (hm:m < 18446744073709551616) (w:World) (hc:Boxed w Bs 27 (.int .u64 m)) (hT:TabIn w) (hg:0 < n₀) :
 HandsS Fence.wide n Tryz.prog 81 #[.pointer (some ⟨Bs,0,none⟩)] (fun k => encE m k) (Below n₀) (bitsL m).length w:=fun lp J Jx M W hW hM hY hX h0 =>
 each1_in n hn lp Bs n₀ m M hm hM J Jx hY hX W ((hW.block Bs hc.lt).trans hc) (hT.keep hW) hg h0
end Go.Proofs.YtckojimeglkobaaGreatDoor
namespace Go.Proofs.YtckojimeglkobaaGreatDoor
open Go.RowKit Go.Shelf GroupSpec NamesSpec
attribute [local go_sem] Oper.semAt_some
def AtL (w:World) (C m k:Nat) (W:World):Prop :=
 (∃ v,Boxed W C 90 v ∧ W.ownsRow w.heap.size 3 1 v ((bitsL m).take k).length (intV ((bitsL m).take k)) ∧ True) ∧ Below w.heap.size w W
theorem AtL.own (w:World) (C m B:Nat) (hB:w.heap.size ≤ B):OwnFrom B (fun k W => AtL w C m k W) :=
 OwnFrom.and (Own.from (holdsRow_own _ _ _ _ _ (fun k => ((bitsL m).take k).length) (fun k => intV ((bitsL m).take k)) (fun _ _ => True)) _) (ownFrom_below (Nat.le_refl _) hB)
theorem keepsFrom_below' {B:Nat} {W W':World} (h:Below W.heap.size W W'):KeepsFrom B W W':=⟨h.size,fun k _ _ hk _ => (h.block k (Array.getElem?_eq_some_iff.1 hk).1).trans hk⟩
theorem AtL.appended {w W w1:World} {C m k:Nat} {v v':Value} {x:Int} {tmp:Obj} (h:AtL w C m k W) (hC:w.heap.size ≤ C) (hx:(bitsL m)[k]? = some x) (hv:Boxed W C 90 v)
 (hrow:W.ownsRow w.heap.size 3 1 v ((bitsL m).take k).length (intV ((bitsL m).take k))) (hown':w1.ownsRow w.heap.size 3 1 v' (((bitsL m).take k).length + 1) (intV ((bitsL m).take k) ++ [.int .i64 x])) (hgrow:(W.alloc tmp).grownBy w1 v.ownBlock) :
 (∃ u,Boxed w1 C 90 u) ∧ AtL w C m (k + 1) (w1.setCell ⟨C,0,none⟩ v') ∧ (∀ B,KeepsFrom B W (w1.setCell ⟨C,0,none⟩ v')) ∧ Below w.heap.size W (w1.setCell ⟨C,0,none⟩ v'):=by
 obtain ⟨-,h6⟩:=h
 have hu1:Boxed w1 C 90 v:=(hv.alloc tmp).kept hgrow (hv.not_row (by decide) hrow)
 have hlow:Below w.heap.size W (w1.setCell ⟨C,0,none⟩ v'):=by
  refine (((Below.refl w.heap.size W).alloc h6.size tmp).grown hgrow (by have:=h6.size; simp; omega) fun i ei => ?_).setCell (p:=⟨C,0,none⟩) hC v'
  exact (own_block_bd hrow i ei).1
 have e1:((bitsL m).take (k + 1)).length = ((bitsL m).take k).length + 1:=by rw [take_next hx]; simp
 have e2:intV ((bitsL m).take (k + 1)) = intV ((bitsL m).take k) ++ [.int .i64 x]:=by rw [take_next hx]; unfold intV; simp
 refine ⟨⟨v,hu1⟩,⟨⟨v',hu1.set v',?_,trivial⟩,h6.trans hlow⟩,fun B => ?_,hlow⟩
 ·rw [e1,e2]
  exact hown'.kept (grownBy_setCell' w1 C v') (.inr (hu1.not_row (by decide) hown').symm)
 ·refine KeepsOthers.from ((KeepsOthers.alloc W tmp).trans (KeepsOthers.trans (KeepsOthers.of_grownBy hgrow fun i o ei hi => ?_) (KeepsOthers.setCell _ _ _))) B
  rcases (hrow.alloc tmp).2 with ⟨heq,_⟩ | ⟨g,cap',cur,heq,_,hgb,_⟩
  ·rw [heq] at ei; simp [Value.ownBlock] at ei
  ·rw [heq] at ei
   obtain rfl:g = i:=by simpa [Value.ownBlock] using ei
   rw [hgb] at hi; cases hi; rfl
end Go.Proofs.YtckojimeglkobaaGreatDoor