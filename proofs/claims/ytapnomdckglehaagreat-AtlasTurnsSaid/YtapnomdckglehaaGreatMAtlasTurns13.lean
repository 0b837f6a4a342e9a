/- AtlasCalls, AtlasCopied, joined. -/
import Derived.Test.YtapnomdckglehaaGreatMAtlasTurns12
import Derived.Test.YtapnomdckglehaaGreatMAtlasTurns02
import Derived.Test.YtapnomdckglehaaGreatMAtlasTurns07
import Derived.Deep.CutRange
import Derived.Deep.RegionLaw
namespace Go.Proofs.YtapnomdckglehaaGreat
open Go.RowKit TermSpec EvalSpec ActSpec NamesSpec ExprSpec TransSpec SynSpec CurSpec ShapeSpec GroupSpec AtlasSpec PrintSpec
set_option maxRecDepth 100000
def RetAt (W:World) (B:Nat) (x:Cx) (R:World → Value → Prop) (e:Ending) (w':World):Prop:=∃ v,e = .returned v ∧ R w' v ∧ AtD w' B x ∧ W.grownBy w' (some B)
theorem AtIn.lt {w:World} {B:Nat} {x:Cx} (h:AtIn w B x):B < w.heap.size:=by
 rcases h with ⟨_,_,_,h,_⟩ | ⟨_,_,_,_,_,_,_,_,_,h,_⟩
 ·exact (Array.getElem?_eq_some_iff.1 h).1
 ·exact (Array.getElem?_eq_some_iff.1 h).1
theorem AtIn.blk {w:World} {B:Nat} {x:Cx} (h:AtIn w B x):∃ eA en ec vA vn vc sA sn sc d pl rw ev,w.heap[B]? = some (atO x.s (.slice eA en ec) (.slice vA vn vc) (.slice sA sn sc) d 0 pl rw ev) ∧ ChIn w (.slice eA en ec) (.slice vA vn vc) (.slice sA sn sc) x:=by
 have key:∀ e v s,ChIn w e v s x → ∃ eA en ec vA vn vc sA sn sc,e = .slice eA en ec ∧ v = .slice vA vn vc ∧ s = .slice sA sn sc:=fun e v s hc => by
  obtain ⟨eA,en,ec,h1,-⟩:=Rd.strs hc.evs
  obtain ⟨vA,vc,h2,-⟩:=hc.vars
  obtain ⟨ps,-,⟨sA,sc,h3,-⟩,-⟩:=hc.sts
  exact ⟨eA,en,ec,vA,_,vc,sA,_,sc,h1,h2,h3⟩
 rcases h with ⟨e,v,s,h1,h2⟩ | ⟨K0,-,e,v,s,pl,rw,ev,_,h1,-,h2⟩
 ·obtain ⟨eA,en,ec,vA,vn,vc,sA,sn,sc,rfl,rfl,rfl⟩:=key _ _ _ h2.now
  exact ⟨eA,en,ec,vA,vn,vc,sA,sn,sc,0,_,_,_,h1,h2.now⟩
 ·obtain ⟨eA,en,ec,vA,vn,vc,sA,sn,sc,rfl,rfl,rfl⟩:=key _ _ _ h2.now.1
  exact ⟨eA,en,ec,vA,vn,vc,sA,sn,sc,1,_,_,_,h1,h2.now.1⟩
theorem good17 (B:Nat) (b:Bool) (w:World) (h:w.cell? ⟨B,0,none⟩ = some (.bool b)):Calls Tryz.prog 9 #[.pointer (some ⟨B,0,none⟩)] w (SameB w b):=by
 go_enter Tryz.func9,Tryz.ntmps9
 go_wp2
 go_ret
 exact ⟨rfl,rfl⟩
theorem good_nil17 (w:World):Calls Tryz.prog 9 #[.pointer none] w (SameB w false):=by
 go_enter Tryz.func9,Tryz.ntmps9
 go_wp2
 go_ret
 exact ⟨rfl,rfl⟩
section
variable (B:Nat) (x:Cx) (w:World) (h:AtIn w B x) (hk:chk (x.sts.map shOf) = 0) (hev:x.evs.length ≤ 1000000)
include h
theorem AtIn.good:Calls Tryz.prog 9 #[.pointer (some ⟨B,0,none⟩)] w (SameB w true):=by
 obtain ⟨_,_,_,_,_,_,_,_,_,_,_,_,_,hb,-⟩:=h.blk
 exact good17 B true w (at_cells hb).1
end
def AtI (K:Nat → Prop) (w:World) (B:Nat) (x:Cx):Prop:=AtN w B x ∨ AtK K w B x
theorem AtIn.some {w:World} {B:Nat} {x:Cx} (h:AtIn w B x):∃ K:Nat → Prop,(∀ b,K b → b ≠ B ∧ b < w.heap.size) ∧ AtI K w B x:=by
 rcases h with h | ⟨K,hK,h⟩
 ·exact ⟨fun _ => False,fun b hb => hb.elim,.inl h⟩
 ·exact ⟨K,hK,.inr h⟩
theorem AtI.keep {K:Nat → Prop} {w w':World} {B:Nat} {x:Cx} (h:AtI K w B x) (hb:Below w.heap.size w w'):AtI K w' B x:=h.imp (·.keep hb) (·.keep hb)
section
variable (K:Nat → Prop) (B:Nat) (x:Cx) (w:World) (h:AtI K w B x) (hk:chk (x.sts.map shOf) = 0) (hev:x.evs.length ≤ 1000000)
include h hk hev
theorem do_any:Calls Tryz.prog 35 #[.pointer (some ⟨B,5,none⟩),.func (.func 36) #[.pointer (some ⟨B,0,none⟩)] #[]] w fun r w' => r = .returned (.tuple #[]) ∧ AtK (fun b => b < B ∨ K b ∨ w.heap.size ≤ b) w' B x ∧ w.grownBy w' (some B):=by
 rcases h with hN | hD
 ·obtain ⟨eA,en,ec,vA,vn,vc,sA,sn,sc,d,pl,rw,ev,hb,hch⟩:=AtIn.blk (.inl hN)
  obtain ⟨e,v,s,h1,h2⟩:=hN
  rw [h1] at hb
  injection hb with hb
  injection hb with hb
  have hl:=congrArg Array.toList hb
  simp only [List.cons.injEq] at hl
  obtain ⟨-,-,rfl,rfl,rfl,-⟩:=hl
  have hBl:=(Array.getElem?_eq_some_iff.1 h1).1
  have hs:w.grownBy (w.setCell ⟨B,6,none⟩ (.int .i32 1)) (some B):=but_set (but_refl _ _) _ _
  have hM:=make_any B x (w.setCell ⟨B,6,none⟩ (.int .i32 1)) eA en ec (.slice vA vn vc) sA sn sc (block_setCell' h1 6 _) (h2.go hs fun b hb e => by injection e with e; omega) hk hev
  refine (do_first B x.s _ _ _ _ _ _ (fun W pl' rw' ev' w2 => W.grownBy w2 (some B) ∧ ∃ ps,RowsOf (x.sts.map shOf) ps ∧ Dep w2 (fun b => W.heap.size ≤ b) (fun X => RdS X pl' (x.sts.map (·.s)) ∧ RowsIn X rw' ps ∧ RdS X ev' (un x.evs []))) w h1 (hM.mono fun r w' ⟨he,pl',rw',ev',q1,q2,q3⟩ => ⟨he,pl',rw',ev',q1,q2,q3⟩)).mono ?_
  rintro r w' ⟨he,pl',rw',ev',w2,q1,⟨q2,ps,q4,q3⟩,rfl⟩
  have hd:w2.grownBy ((w2.drew.setCell ⟨B,5,none⟩ (.int .u32 1)).setCell ⟨B,6,none⟩ (.int .i32 0)) (some B):=but_set (but_set (but_drew (but_refl _ _)) _ _) _ _
  have hg:=but_trans (but_trans hs q2) hd
  refine ⟨he,⟨_,_,_,pl',rw',ev',ps,block_setCell' (block_setCell' (show w2.drew.heap[B]? = _ from q1) 5 _) 6 _,q4,Dep.and ?_ ?_⟩,hg⟩
  ·exact (h2.go hg fun b hb e => by injection e with e; omega).mono fun b _ hb => .inl hb
  ·exact (q3.go hd fun b hb e => by injection e with e; have:=hs.size; omega).mono fun b _ hb => .inr (.inr (Nat.le_trans hs.size hb))
 ·have hD':=hD
  obtain ⟨e,v,s,pl,rw,ev,ps,h1,h3,h2⟩:=hD
  refine (do_done ⟨B,5,none⟩ _ w (at_cells h1).2.2.2.2.2.1).mono ?_
  rintro r w' ⟨he,rfl⟩
  exact ⟨he,⟨e,v,s,pl,rw,ev,ps,h1,h3,h2.mono fun b _ hb => .inr (.inl hb)⟩,but_refl _ _⟩
end
section
variable (B:Nat) (x:Cx) (w:World) (h:AtIn w B x) (hk:chk (x.sts.map shOf) = 0) (hev:x.evs.length ≤ 1000000)
include h hk hev
theorem do_in:Calls Tryz.prog 35 #[.pointer (some ⟨B,5,none⟩),.func (.func 36) #[.pointer (some ⟨B,0,none⟩)] #[]] w fun r w' => r = .returned (.tuple #[]) ∧ AtD w' B x ∧ w.grownBy w' (some B):=by
 have hlt:=h.lt
 obtain ⟨K,hK,hI⟩:=h.some
 refine (do_any K B x w hI hk hev).mono ?_
 rintro r w' ⟨he,hD,hg⟩
 refine ⟨he,hD.done fun b hb => ?_,hg⟩
 rcases hb with h1 | h1 | h1
 ·omega
 ·exact (hK b h1).1
 ·omega
set_option maxRecDepth 100000 in
set_option maxHeartbeats 4000000 in
theorem place17 (s:ByteArray):Calls Tryz.prog 12 #[.pointer (some ⟨B,0,none⟩),.string s] w (RetAt w B x (fun _ v => v = .int .i64 (Go.Lib.idxOfS (x.sts.map (·.s)) s))):=by
 have HG:=Lib.hid (h.good)
 have HD:=Lib.hid (do_in B x w h hk hev)
 have HL:Hid ((x.sts.map (·.s)).length ≤ 9223372036854775807):=Lib.hid (by have:=(chk_ok hk).1; rw [List.length_map] at this ⊢; omega)
 have hmf:∀ (fn:Fn) (first cap:Array Value) (w:World),(Instr.makeFunc fn first cap).run Tryz.prog w = .ok (.func fn first cap) w:=fun _ _ _ _ => rfl
 obtain ⟨ns,hns⟩:∃ ns,ns = x.sts.map (·.s):=⟨_,rfl⟩
 have HNS:Hid (x.sts.map (·.s) = ns):=Lib.hid hns.symm
 rw [HNS.out] at HL ⊢
 clear h hk hev hns
 go_enter Tryz.func12,Tryz.ntmps12
 go_wp2_with (go_at_call 9; go_fit HG.out)
 rintro e w2 ⟨rfl,rfl⟩
 go_wp2_with (go_at_call 35; go_fit HD.out)
 rintro e w3 ⟨rfl,hD,hg⟩
 have HAD:=Lib.hid hD
 have HGR:=Lib.hid hg
 obtain ⟨K0,-,e1,v1,s1,pl,rw,ev,_,hb,-,hdep⟩:=hD
 have HPL:Hid (Rd w3 pl (strV ns)):=Lib.hid (by rw [← HNS.out]; exact hdep.now.2.1)
 obtain ⟨c0,c1,c2,c3,c4,-,-,c8,c9,c10⟩:=at_cells hb
 clear hb hdep hg
 go_wp2_with (go_at_call 37; go_fit (nplace_any pl ns s _ HPL.out HL.out))
 rintro e w4 ⟨rfl,rfl⟩
 go_wp2_with fail
 go_ret
 exact ⟨_,rfl,rfl,HAD.out,HGR.out⟩
set_option maxRecDepth 100000 in
set_option maxHeartbeats 4000000 in
theorem events17:Calls Tryz.prog 15 #[.pointer (some ⟨B,0,none⟩)] w (RetAt w B x (fun W v => RdS W v (un x.evs []))):=by
 have HG:=Lib.hid (h.good)
 have HD:=Lib.hid (do_in B x w h hk hev)
 have hmf:∀ (fn:Fn) (first cap:Array Value) (w:World),(Instr.makeFunc fn first cap).run Tryz.prog w = .ok (.func fn first cap) w:=fun _ _ _ _ => rfl
 obtain ⟨es,hes⟩:∃ es,es = un x.evs []:=⟨_,rfl⟩
 have HES:Hid (un x.evs [] = es):=Lib.hid hes.symm
 have HEL:Hid (es.length ≤ 1000000):=Lib.hid (by rw [hes]; have:=un_length x.evs []; simp at this; omega)
 rw [HES.out]
 clear h hk hev hes
 go_enter Tryz.func15,Tryz.ntmps15
 go_wp2_with (go_at_call 9; go_fit HG.out)
 rintro e w2 ⟨rfl,rfl⟩
 go_wp2_with (go_at_call 35; go_fit HD.out)
 rintro e w3 ⟨rfl,hD,hg⟩
 have HAD:=Lib.hid hD
 have HGR:=Lib.hid hg
 obtain ⟨K0,-,e1,v1,s1,pl,rw,ev,_,hb,-,hdep⟩:=hD
 have HEV:Hid (Rdk 1 w3 ev es.length (strV es)):=Lib.hid (by rw [← HES.out]; exact rdk_rd hdep.now.2.2.2 (strV_length _))
 obtain ⟨c0,c1,c2,c3,c4,-,-,c8,c9,c10⟩:=at_cells hb
 clear hb hdep hg
 go_wp2_with (go_at_call 38; go_fit (clone_str ev es.length (strV es) _ HEV.out (strV_one _) HEL.out))
 rintro e w4 ⟨A,c,rfl,ho,hb⟩
 have HO:=Lib.hid ho
 have HB:=Lib.hid hb
 clear ho hb
 go_wp2_with fail
 go_ret
 exact ⟨_,rfl,rd_one (Rdk.own HO.out),HAD.out.keep HB.out,gr_any HGR.out (gr_none HB.out none) (by simp)⟩
def IsRow (l:List Sh) (i:Int) (W:World) (v:Value):Prop:=∃ A n c,v = .agg #[.slice A n c,.int .u64 (aboveTb l i),.int .u64 (belowTb l i),.int .i64 (depthTb l i)] ∧ Rd W (.slice A n c) (intV (kidsTb l i))
set_option maxRecDepth 100000 in
set_option maxHeartbeats 4000000 in
theorem row17 (i:Int):Calls Tryz.prog 41 #[.pointer (some ⟨B,0,none⟩),.int .i64 i] w (RetAt w B x (IsRow (x.sts.map shOf) i)):=by
 obtain ⟨W1,hW1⟩:∃ W1,w.alloc (.cells #[.slice none 0 0,.int .u64 0,.int .u64 0,.int .i64 0] 88) = W1:=⟨_,rfl⟩
 have hb1:Below w.heap.size w W1:=by rw [← hW1]; exact KitC.below_one _ _
 have hk1:W1.heap[w.heap.size]? = some (.cells #[.slice none 0 0,.int .u64 0,.int .u64 0,.int .i64 0] 88):=by rw [← hW1]; exact heap_alloc_new _ _
 have HBL:Hid (B < w.heap.size):=Lib.hid h.lt
 have HG:=Lib.hid (AtIn.good B x W1 (h.keep hb1))
 obtain ⟨K,hK,hI⟩:=h.some
 have HD:=Lib.hid (do_any K B x W1 (hI.keep hb1) hk hev)
 have HKK:=Lib.hid hK
 have hmf:∀ (fn:Fn) (first cap:Array Value) (w:World),(Instr.makeFunc fn first cap).run Tryz.prog w = .ok (.func fn first cap) w:=fun _ _ _ _ => rfl
 have hrb:∀ w,(Instr.build 88 #[]).run Tryz.prog w = .ok (.agg #[.slice none 0 0,.int .u64 0,.int .u64 0,.int .i64 0]) w:=fun w => run_build w 88 _ _ (by kernel_rfl)
 obtain ⟨l,hl⟩:∃ l,l = x.sts.map shOf:=⟨_,rfl⟩
 have HL:Hid (x.sts.map shOf = l):=Lib.hid hl.symm
 have h60:Hid (l.length ≤ 60):=Lib.hid (by rw [hl]; exact (chk_ok hk).1)
 have HK1:=Lib.hid hk1
 have HB1:=Lib.hid hb1
 have HW1:=Lib.hid hW1
 rw [HL.out]
 clear h hI hK hk hev hl hW1 hb1 hk1
 go_enter Tryz.func41,Tryz.ntmps41
 go_wp2_with (rw [HW1.out]; go_at_call 9; go_fit HG.out)
 rintro e w2 ⟨rfl,rfl⟩
 go_wp2_with (go_at_call 35; go_fit HD.out)
 rintro e w3 ⟨rfl,hD,hg⟩
 have HAD:=Lib.hid hD
 have HGR:=Lib.hid hg
 have hk3:=blk_go HK1.out hg (fun e => by injection e with e; have:=HBL.out; omega)
 have HK3:=Lib.hid hk3
 obtain ⟨z0,z1,z2,z3⟩:=cells_4 hk3
 obtain ⟨f0,f1,f2,f3⟩:=free_4 hk3
 obtain ⟨e1,v1,s1,pl,rw,ev,ps,hb,hro,hdep⟩:=hD
 rw [HL.out] at hro
 have HRO:=Lib.hid hro
 have HRI:=Lib.hid (hdep.imp fun X g => g.2.2.1)
 obtain ⟨A,c,rfl,hc,-,hA⟩:=(hdep.now).2.2.1.1
 have HA:=Lib.hid hA
 obtain ⟨c0,c1,c2,c3,c4,-,-,c8,c9,c10⟩:=at_cells hb
 obtain ⟨n,hn⟩:∃ n,n = ps.length:=⟨_,rfl⟩
 have HN:=Lib.hid hn
 have hn60:n ≤ 60:=by have:=h60.out; have:=hro.1; omega
 rw [← hn] at c9 HA
 clear hb hdep hg hk3 hro hc hA hn
 have HEND:Hid (∀ (u0 u1 u2 u3:Value),AtD ((((w3.setCell ⟨w.heap.size,0,none⟩ u0).setCell ⟨w.heap.size,1,none⟩ u1).setCell ⟨w.heap.size,2,none⟩ u2).setCell ⟨w.heap.size,3,none⟩ u3) B x ∧ w.grownBy ((((w3.setCell ⟨w.heap.size,0,none⟩ u0).setCell ⟨w.heap.size,1,none⟩ u1).setCell ⟨w.heap.size,2,none⟩ u2).setCell ⟨w.heap.size,3,none⟩ u3) (some B) ∧
  ∀ v xs,Dep w3 (fun b => b < B ∨ K b ∨ W1.heap.size ≤ b) (fun X => Rd X v xs) → Rd ((((w3.setCell ⟨w.heap.size,0,none⟩ u0).setCell ⟨w.heap.size,1,none⟩ u1).setCell ⟨w.heap.size,2,none⟩ u2).setCell ⟨w.heap.size,3,none⟩ u3) v xs):=Lib.hid (fun u0 u1 u2 u3 => by
  have hg:w3.grownBy ((((w3.setCell ⟨w.heap.size,0,none⟩ u0).setCell ⟨w.heap.size,1,none⟩ u1).setCell ⟨w.heap.size,2,none⟩ u2).setCell ⟨w.heap.size,3,none⟩ u3) (some w.heap.size):=but_set (but_set (but_set (but_set (but_refl _ _) _ _) _ _) _ _) _ _
  have hz:=(Array.getElem?_eq_some_iff.1 HK1.out).1
  have hr:¬ (w.heap.size < B ∨ K w.heap.size ∨ W1.heap.size ≤ w.heap.size):=fun h => by
   have:=HBL.out
   rcases h with h | h | h
   ·omega
   ·exact Nat.lt_irrefl _ (HKK.out _ h).2
   ·omega
  refine ⟨(HAD.out.go hg hr (by have:=HBL.out; omega)).done fun b hb => ?_,gr_any (gr_any (gr_none HB1.out (some B)) HGR.out (fun j e => .inl e)) hg (fun j e => .inr (by injection e with e; omega)),fun v xs hd => (hd.go hg fun b hb e => by injection e with e; exact hr (e ▸ hb)).now⟩
  have:=HBL.out
  rcases hb with h | h | h
  ·omega
  ·exact (HKK.out b h).1
  ·omega)
 by_cases hi0:i < 0
 ·have HOUT:=Lib.hid (rowTb_out (l:=l) (i:=i) (by omega))
  obtain ⟨q0,q1,q2,q3⟩:=store_4 (blk_of HK3.out (n:=4) rfl) (.slice none 0 0) (.int .u64 0) (.int .u64 0) (.int .i64 0)
  go_wp2_with fail
  refine bodyPost_ret (v:=.agg #[.slice none 0 0,.int .u64 0,.int .u64 0,.int .i64 0]) (by simp [results,Tryz.results41,go_sem,q0,q1,q2,q3]) rfl ?_
  refine ⟨_,rfl,⟨none,0,0,by rw [HOUT.out.2.1,HOUT.out.2.2.1,HOUT.out.2.2.2]; rfl,by rw [HOUT.out.1]; exact Rd.nil _⟩,(HEND.out _ _ _ _).1,(HEND.out _ _ _ _).2.1⟩
 obtain ⟨j,rfl⟩:=Int.eq_ofNat_of_zero_le (show 0 ≤ i by omega)
 by_cases hin:n ≤ j
 ·have hin1:(n:Int) ≤ (j:Int):=by omega
  have HOUT:=Lib.hid (rowTb_out (l:=l) (i:=(j:Int)) (by have:=HRO.out.1; have:=HN.out; omega))
  obtain ⟨q0,q1,q2,q3⟩:=store_4 (blk_of HK3.out (n:=4) rfl) (.slice none 0 0) (.int .u64 0) (.int .u64 0) (.int .i64 0)
  go_wp2_with fail
  refine bodyPost_ret (v:=.agg #[.slice none 0 0,.int .u64 0,.int .u64 0,.int .i64 0]) (by simp [results,Tryz.results41,go_sem,q0,q1,q2,q3]) rfl ?_
  refine ⟨_,rfl,⟨none,0,0,by rw [HOUT.out.2.1,HOUT.out.2.2.1,HOUT.out.2.2.2]; rfl,by rw [HOUT.out.1]; exact Rd.nil _⟩,(HEND.out _ _ _ _).1,(HEND.out _ _ _ _).2.1⟩
 ·have hin1:¬ (n:Int) ≤ (j:Int):=by omega
  have hin2:(j:Int) < (n:Int):=by omega
  obtain ⟨p,hp⟩:∃ p,ps[j]? = some p:=get_some (by have:=HN.out; omega)
  obtain ⟨b,off,rfl,hbl,hcell⟩:=HA.out (by omega)
  have x0:w3.cell? ⟨b,off + j * 4,none⟩ = some (.slice p.A p.n p.c):=by exact hcell (j * 4 + 0) _ (flat_get (j:=0) rwV_length hp (by decide))
  have x1:w3.cell? ⟨b,off + j * 4 + 1,none⟩ = some (.int .u64 p.ab):=by rw [Nat.add_assoc]; exact hcell (j * 4 + 1) _ (flat_get (j:=1) rwV_length hp (by decide))
  have x2:w3.cell? ⟨b,off + j * 4 + 2,none⟩ = some (.int .u64 p.be):=by rw [Nat.add_assoc]; exact hcell (j * 4 + 2) _ (flat_get (j:=2) rwV_length hp (by decide))
  have x3:w3.cell? ⟨b,off + j * 4 + 3,none⟩ = some (.int .i64 p.d):=by rw [Nat.add_assoc]; exact hcell (j * 4 + 3) _ (flat_get (j:=3) rwV_length hp (by decide))
  obtain ⟨r1,r2,r3,r4⟩:=HRO.out.2 j p hp
  rw [beP_all] at r3
  have HJ:Hid (j < l.length):=Lib.hid (by have:=HRO.out.1; have:=HN.out; omega)
  have HRR:Hid (p.ks = kidsTb l (j:Int) ∧ p.ab = aboveTb l (j:Int) ∧ p.be = belowTb l (j:Int) ∧ p.d = depthTb l (j:Int)):=Lib.hid ⟨by rw [r1,kidsTb_in HJ.out],by rw [r2,aboveTb_in HJ.out],by rw [r3,belowTb_in HJ.out],by rw [r4,depthTb_in HJ.out]⟩
  have HRP:=Lib.hid (HRI.out.imp fun X g => g.2 p (List.mem_of_getElem? hp))
  obtain ⟨pA,pn,pc,pks,pab,pbe,pd⟩:=p
  simp only at HRR
  obtain ⟨q0,q1,q2,q3⟩:=store_4 (blk_of HK3.out (n:=4) rfl) (.slice pA pn pc) (.int .u64 pab) (.int .u64 pbe) (.int .i64 pd)
  clear hcell r1 r2 r3 r4 hp hin
  go_wp2_with fail
  refine bodyPost_ret (v:=.agg #[.slice pA pn pc,.int .u64 pab,.int .u64 pbe,.int .i64 pd]) (by simp [results,Tryz.results41,go_sem,q0,q1,q2,q3]) rfl ?_
  obtain ⟨k1,k2,k3,k4⟩:=HRR.out
  refine ⟨_,rfl,⟨pA,pn,pc,by rw [← k2,← k3,← k4],?_⟩,(HEND.out _ _ _ _).1,(HEND.out _ _ _ _).2.1⟩
  rw [← k1]
  exact (HEND.out _ _ _ _).2.2 _ _ HRP.out
end
end Go.Proofs.YtapnomdckglehaaGreat
namespace Go.Proofs.YtapnomdckglehaaGreat
open Go.RowKit TermSpec EvalSpec ActSpec NamesSpec ExprSpec TransSpec SynSpec CurSpec
set_option maxRecDepth 100000
section
variable (x:Cx) (eA:Option Addr) (en ec:Nat) (vA:Option Addr) (vn vc:Nat) (sA:Option Addr) (sn sc:Nat) (w:World) (h:ChIn w (.slice eA en ec) (.slice vA vn vc) (.slice sA sn sc) x) (hf:FewQ x)
include h hf
set_option maxRecDepth 100000 in
set_option maxHeartbeats 8000000 in
theorem copied_any:Calls Tryz.prog 31 #[.agg #[.string x.s,.slice eA en ec,.slice vA vn vc,.slice sA sn sc]] w (RetCx w x):=by
 obtain ⟨ps0,hps,hrs,hx0⟩:=h.sts
 have hpn:ps0.length = x.sts.length:=by rw [← hps,List.length_map]
 have HEV:=Lib.hid (fun W (hW:Below w.heap.size w W) => clone_str (.slice eA en ec) x.evs.length (strV x.evs) W (rdk_rd (Rd.keep h.evs hW) (strV_length _)) (strV_one _) hf.evs)
 have HVA:=Lib.hid (fun W (hW:Below w.heap.size w W) => clone_var (.slice vA vn vc) x.vars.length (vrsV x.vars) W (Rdk.keep h.vars hW) (vrsV_one17 _) hf.vars)
 have HST:=Lib.hid (fun W (hW:Below w.heap.size w W) => clone_state (.slice sA sn sc) ps0.length (ps0.flatMap spV) W (hrs.keep hW) (flat_one17 spV_one _) (by rw [hpn]; exact hf.stl))
 have H0:=Lib.hid (fun p (hp:p ∈ ps0) => spN_here (hx0 p hp))
 have H1:=Lib.hid hx0
 have HF:=Lib.hid hf
 have HP:=Lib.hid hps
 have HPN:=Lib.hid hpn
 obtain ⟨nm,hnm⟩:∃ nm,nm = x.s:=⟨_,rfl⟩
 have HNM:=Lib.hid hnm
 rw [← hnm]
 obtain ⟨W1,hW1⟩:∃ W1,(w.alloc (chO17 nm (.slice eA en ec) (.slice vA vn vc) (.slice sA sn sc))).alloc (chZ17) = W1:=⟨_,rfl⟩
 have hb1:Below w.heap.size w W1:=by rw [← hW1]; exact KitC.below_pair _ _ _
 have hk1:W1.heap[w.heap.size]? = some (chO17 nm (.slice eA en ec) (.slice vA vn vc) (.slice sA sn sc)):=by rw [← hW1]; exact (heap_alloc_old _ _ (by simp)).trans (heap_alloc_new _ _)
 have hk2:W1.heap[w.heap.size + 1]? = some (chZ17):=by rw [← hW1]; have:=heap_alloc_new (w.alloc (chO17 nm (.slice eA en ec) (.slice vA vn vc) (.slice sA sn sc))) (chZ17); rwa [World.size_alloc] at this
 have HK:=Lib.hid (fun W (hW:Below W1.heap.size W1 W) => And.intro (KitC.block_on hk1 hW) (KitC.block_on hk2 hW))
 have HSZ:Hid (w.heap.size + 1 < W1.heap.size):=Lib.hid (Array.getElem?_eq_some_iff.1 hk2).1
 have HW1:=Lib.hid hW1
 have HB1:=Lib.hid hb1
 obtain ⟨c0,c1,c2,c3⟩:=cells_4 hk1
 obtain ⟨f0,f1,f2,f3⟩:=free_4 hk1
 have hdr:Below W1.heap.size W1 W1.drew:=(Below.refl _ _).drew
 clear h hf hps hrs hx0 hpn hnm hW1 hb1 hk1 hk2
 go_enter Tryz.func31,Tryz.ntmps31
 go_wp2_with fail
 rw [HW1.out]
 go_cut [] from 7 (fun wx => CpA w nm x ps0 wx)
 case first =>
  go_region_law (first
   | (go_simp; go_at_call 38; (with_reducible refine (HEV.out _ (below_two' HB1.out hdr)).mono ?_); rintro e y1 ⟨A1,n1,rfl,o1,b1⟩; have g1:=below_two' hdr b1; obtain ⟨p10,p11,p12,p13⟩:=cells_4 (HK.out _ g1).1; obtain ⟨q10,q11,q12,q13⟩:=free_4 (HK.out _ g1).1)
   | (go_simp; go_at_call 47; (with_reducible refine (HVA.out _ (below_two' HB1.out g1)).mono ?_); rintro e y2 ⟨A2,n2,rfl,o2,b2⟩; have g2:=below_two' g1 b2; obtain ⟨p20,p21,p22,p23⟩:=cells_4 (HK.out _ g2).1; obtain ⟨q20,q21,q22,q23⟩:=free_4 (HK.out _ g2).1)
   | (go_simp; go_at_call 48; (with_reducible refine (HST.out _ (below_two' HB1.out g2)).mono ?_); rintro e y3 ⟨A3,n3,rfl,o3,b3⟩; have g3:=below_two' g2 b3; obtain ⟨p30,p31,p32,p33⟩:=cells_4 (HK.out _ g3).1; obtain ⟨q30,q31,q32,q33⟩:=free_4 (HK.out _ g3).1))
  all_goals
   go_wp2_with fail
   go_meet
   exact cpA_done HB1.out HSZ.out HK.out b1 b2 b3 o1 o2 o3 H0.out
 case rest =>
  obtain ⟨A1,c1',A2,c2',A3,c3',N,hb0,hb0z,hdep,hmix,hNlt,hbw⟩:=hcut
  have HCH:=Lib.hid (And.intro hb0 hb0z)
  have HDEP:=Lib.hid hdep
  have HMX:=Lib.hid hmix
  have HNL:=Lib.hid hNlt
  have HBW:=Lib.hid hbw
  obtain ⟨k0,k1,k2,k3⟩:=cells_4 hb0
  obtain ⟨n,hn⟩:∃ n,n = ps0.length:=⟨_,rfl⟩
  rw [← hn] at HMX HCH k3
  have HPN0:=Lib.hid hn
  have HNX:Hid (n ≤ 1000000):=Lib.hid (by rw [hn,HPN.out]; exact HF.out.stl)
  clear hb0 hb0z hdep hmix hNlt hbw hn c0 c1 c2 c3 f0 f1 f2 f3 hdr
  go_wp2_with fail
  go_loopw [22] (fun i wr => CsRel wc N x.sts ps0 A3 n c3' i wr) (fun i _ => n - (intOf i).toNat)
  case atStart => exact ⟨0,ps0,Nat.zero_le _,rfl,HP,Lib.hid HPN0.out.symm,HMX,Lib.hid (but_refl _ _),Lib.hid (fun _ _ => rfl)⟩
  case round =>
   obtain ⟨k,ps,hk,rfl,HPS,HPL,HM,HG,HSM⟩:=hrel
   by_cases hlt:k < n
   case neg =>
    obtain rfl:k = n:=by omega
    have hne:∀ b,b ≤ w.heap.size + 1 → (Value.slice A3 k c3').ownBlock ≠ some b:=fun b hb e => by have:=(MixR.bd HM.out b e).1; have:=HNL.out; omega
    have hb0:=blk_go HCH.out.1 HG.out (hne _ (by omega))
    have hbz:=blk_go HCH.out.2 HG.out (hne _ (by omega))
    obtain ⟨k0,k1,k2,k3⟩:=cells_4 hb0
    obtain ⟨z0,z1,z2,z3⟩:=cells_4 hbz
    obtain ⟨f0,f1,f2,f3⟩:=free_4 hbz
    obtain ⟨q0,q1,q2,q3⟩:=store_4 (blk_of hbz (n:=4) rfl) (.string nm) (.slice A1 x.evs.length c1') (.slice A2 x.vars.length c2') (.slice A3 k c3')
    have HE:=Lib.hid (cs_end HDEP.out HNL.out HBW.out HM.out HPL.out HPS.out HG.out (but_set (but_set (but_set (but_set (but_refl wr (some (w.heap.size + 1))) 0 (.string nm)) 1 (.slice A1 x.evs.length c1')) 2 (.slice A2 x.vars.length c2')) 3 (.slice A3 k c3')))
    clear hne hb0 hbz
    go_wp2_with fail
    refine bodyPost_ret (v:=.agg #[.string nm,.slice A1 x.evs.length c1',.slice A2 x.vars.length c2',.slice A3 k c3']) (by simp [results,Tryz.results31,go_sem,q0,q1,q2,q3]) rfl ?_
    obtain ⟨h1,h2,h3⟩:=HE.out
    subst h1
    exact ⟨A1,c1',A2,c2',A3,c3',by rw [← HNM.out],h2,h3⟩
   obtain ⟨⟨s,a3,n3,m3,a4,n4,m4,a5,n5,m5⟩,hp⟩:∃ p,ps[k]? = some p:=get_some (by have:=HPL.out; omega)
   obtain ⟨g,cap,heq,hcap⟩:=own_at HM.out.own (by have:=HPL.out; omega)
   rw [HPL.out] at heq
   cases heq
   have hsm:s ∈ x.sts:=by rw [← HPS.out]; exact List.mem_map.2 ⟨_,List.mem_of_getElem? hp,rfl⟩
   obtain ⟨⟨he1,he2⟩,⟨hx1,hx2⟩,ht1,ht2⟩:=HF.out.sts s hsm
   obtain ⟨hen,hex,hts⟩:=HM.out.now hp
   obtain ⟨-,hcells,hg1,hg2⟩:=MixR.cells HM.out HPL.out
   have HGB:=Lib.hid (And.intro hg1 hg2)
   have HPK:=Lib.hid hp
   have hb0:=blk_go HCH.out.1 HG.out (fun e => by injection e with e; simp only at e; have:=HNL.out; omega)
   obtain ⟨k0,k1,k2,k3⟩:=cells_4 hb0
   have HB0:=Lib.hid hb0
   simp only at hen hex hts
   have HE1:=Lib.hid (fun W (hW:Below wr.heap.size wr W) => copiedActs_any _ _ W (hen.keep hW) he1 he2)
   have HE2:=Lib.hid (fun W (hW:Below wr.heap.size wr W) => copiedActs_any _ _ W (hex.keep hW) hx1 hx2)
   have hp0:ps0[k]? = some ⟨s,a3,n3,m3,a4,n4,m4,a5,n5,m5⟩:=(HSM.out k (Nat.le_refl _)).symm.trans hp
   obtain ⟨ts,htm,hrt0,htn0⟩:=(H1.out _ (List.mem_of_getElem? hp0)).2.2
   simp only at htm hrt0
   have hsg:∀ b,b < w.heap.size → (Value.slice (some ⟨g,0,none⟩) n c3').ownBlock ≠ some b:=fun b hb e => by have:=(MixR.bd HM.out b e).1; have:=HNL.out; omega
   have hrt:=(((rdk_here hrt0).keep HBW.out).go HG.out hsg).now
   have htl:ts.length = s.tr.length:=by rw [← htm,List.length_map]
   have HE3:=Lib.hid (fun W (hW:Below wr.heap.size wr W) => clone_trans _ _ _ W (hrt.keep hW) (flat_one17 tpV_one _) (by rw [htl]; exact ht1))
   have HT2:=Lib.hid ht2
   have HTM:=Lib.hid htm
   have HTD:Hid (∀ p ∈ ts,Dep wr (fun b => g ≠ b) (tpN p)):=Lib.hid (fun p hp => (((tpN_here (htn0 p hp)).keep HBW.out).go HG.out hsg).mono fun b _ hb e => hsg b hb (by rw [← e]; rfl))
   have hn5:n5 = ts.length:=by
    obtain ⟨_,_,heq,-⟩:=hrt0
    injection heq
   have c3:=hcells (k * 6 + 3) _ (flat_get (j:=3) spV_length hp (by decide))
   have c4:=hcells (k * 6 + 4) _ (flat_get (j:=4) spV_length hp (by decide))
   have c5:=hcells (k * 6 + 5) _ (flat_get (j:=5) spV_length hp (by decide))
   obtain ⟨m,hm⟩:∃ m,m = ts.length:=⟨_,rfl⟩
   have HMT:=Lib.hid hm
   have HMX2:Hid (m ≤ 1000000):=Lib.hid (by rw [hm,htl]; exact ht1)
   have HC:Hid (∀ W,Below wr.heap.size wr W → (W.cell? ⟨g,k * 6 + 3,none⟩ = some (.slice a3 n3 m3) ∧ W.cell? ⟨g,k * 6 + 4,none⟩ = some (.slice a4 n4 m4) ∧ W.cell? ⟨g,k * 6 + 5,none⟩ = some (.slice a5 n5 m5)) ∧ W.frozen? ⟨g,k * 6 + 3,none⟩ = false ∧ W.frozen? ⟨g,k * 6 + 4,none⟩ = false ∧ W.frozen? ⟨g,k * 6 + 5,none⟩ = false):=Lib.hid (fun W hW => by
    obtain ⟨⟨cur,hcur⟩,hc,-⟩:=MixR.cells (HM.out.keep hW) HPL.out
    exact ⟨⟨hc _ _ (flat_get (j:=3) spV_length HPK.out (by decide)),hc _ _ (flat_get (j:=4) spV_length HPK.out (by decide)),hc _ _ (flat_get (j:=5) spV_length HPK.out (by decide))⟩,free_of_block' hcur _,free_of_block' hcur _,free_of_block' hcur _⟩)
   have hdr:Below wr.heap.size wr wr.drew:=(Below.refl _ _).drew
   clear hsm he1 he2 hx1 hx2 ht1 ht2 hen hex hts hrt hrt0 htn0 hsg htl htm hcells hg1 hb0 hp hp0 hm hn5 hcap
   go_wp2_with fail
   go_cut [] from 29 to 52 (fun wx => CpB wr N g n c3' k ps s ts wx)
   case first =>
    obtain ⟨⟨d3,d4,d5⟩,e3,e4,e5⟩:=HC.out _ hdr
    go_region_law (first
     | (go_simp; go_at_call 49; (with_reducible refine (HE1.out _ hdr).mono ?_); rintro e y1 ⟨A1x,n1x,rfl,o1,b1⟩; have g1:=below_two' hdr b1; obtain ⟨⟨p13,p14,p15⟩,q13,q14,q15⟩:=HC.out _ g1)
     | (go_simp; go_at_call 49; (with_reducible refine (HE2.out _ g1).mono ?_); rintro e y2 ⟨A2x,n2x,rfl,o2,b2⟩; have g2:=below_two' g1 b2; obtain ⟨⟨p23,p24,p25⟩,q23,q24,q25⟩:=HC.out _ g2)
     | (go_simp; go_at_call 50; (with_reducible refine (HE3.out _ g2).mono ?_); rintro e y3 ⟨A3x,n3x,rfl,o3,b3⟩; have g3:=below_two' g2 b3; obtain ⟨⟨p33,p34,p35⟩,q33,q34,q35⟩:=HC.out _ g3))
    all_goals
     go_wp2_with fail
     go_meet
     exact cpB_done HM.out HPL.out HPK.out b1 b2 b3 o1 o2 o3 HTD.out
   case rest =>
    obtain ⟨A3x,c3x,A4x,c4x,A5x,c5x,N3,hrow,hdx,hmt,hz3,hgx⟩:=hcut
    have HRW:=Lib.hid hrow
    have HDX:=Lib.hid hdx
    have HZ3:=Lib.hid hz3
    have HGX:=Lib.hid hgx
    have HMX3:=Lib.hid hmt
    have hpx:(ps.set k ⟨s,A3x,s.en.length,c3x,A4x,s.ex.length,c4x,A5x,ts.length,c5x⟩)[k]? = some ⟨s,A3x,s.en.length,c3x,A4x,s.ex.length,c4x,A5x,ts.length,c5x⟩:=set_at HPK.out
    have HPX:=Lib.hid hpx
    have k5:=(own_cell hrow).2 (k * 6 + 5) _ (flat_get (j:=5) spV_length hpx (by decide))
    have hb0:=blk_go HB0.out hgx (fun e => by injection e with e; have:=HGB.out.1; have:=HNL.out; omega)
    obtain ⟨k0,k1,k2,k3⟩:=cells_4 hb0
    rw [← HMT.out] at k5 HMX3
    clear hpx hrow hdx hmt hz3 hgx hb0 c3 c4 c5 hdr
    go_wp2_with fail
    go_loopw [58] (fun i wr => CtRel wc N3 s.tr A5x m c5x i wr) (fun i _ => m - (intOf i).toNat)
    case atStart => exact ⟨0,ts,Nat.zero_le _,rfl,HTM,Lib.hid HMT.out.symm,HMX3,Lib.hid (but_refl _ _)⟩
    case round =>
     obtain ⟨kk,qs,hkk,rfl,HQS,HQL,HQM,HQG⟩:=hrel
     have hnx:n ≤ 1000000:=HNX.out
     have hmx:m ≤ 1000000:=HMX2.out
     by_cases hlt2:kk < m
     case neg =>
      obtain rfl:kk = m:=by omega
      go_wp2_with fail
      go_roundw
      case rel =>
       have HST:=Lib.hid (cs_step HM.out HPL.out HPK.out rfl HRW.out HDX.out HZ3.out HGX.out (by rw [← HMT.out]; exact HQM.out) (by rw [← HMT.out]; exact HQL.out) HQS.out (by rw [← HMT.out]; exact HQG.out))
       refine ⟨k + 1,ps.set k ⟨s,A3x,s.en.length,c3x,A4x,s.ex.length,c4x,A5x,ts.length,c5x⟩,hlt,by go_num,Lib.hid (HST.out.2.2.1.trans HPS.out),Lib.hid HST.out.2.2.2,Lib.hid HST.out.1,Lib.hid ?_,Lib.hid ?_⟩
       ·exact gr_any HG.out HST.out.2.1 (fun j e => .inl (by rw [← e]; rfl))
       ·intro j hj
        rw [List.getElem?_set_ne (by omega)]
        exact HSM.out j (by omega)
      case measure => simp [intOf]; omega
     obtain ⟨⟨t,gA,gn,gc,aA,an,ac⟩,hq⟩:∃ q,qs[kk]? = some q:=get_some (by have:=HQL.out; omega)
     obtain ⟨hh,cap2,heq2,hcap2⟩:=own_at HQM.out.own (by have:=HQL.out; omega)
     rw [HQL.out] at heq2
     cases heq2
     have htm2:t ∈ s.tr:=by rw [← HQS.out]; exact List.mem_map.2 ⟨_,List.mem_of_getElem? hq,rfl⟩
     obtain ⟨hx1,hx2,hx3⟩:=HT2.out t htm2
     obtain ⟨hmg,hma⟩:=HQM.out.now hq
     obtain ⟨-,hcells2,hh1,hh2⟩:=MixR.cells HQM.out HQL.out
     have HHB:=Lib.hid (And.intro hh1 hh2)
     have HQK:=Lib.hid hq
     simp only at hmg hma
     obtain ⟨hgl,hrg⟩:=tms_rdk hmg
     have HGL:=Lib.hid hgl
     have HF1:=Lib.hid (fun W (hW:Below wr.heap.size wr W) => clone_term _ _ _ W (hrg.keep hW) (tmsV_one _) (by rw [hgl]; exact hx1))
     have HF2:=Lib.hid (fun W (hW:Below wr.heap.size wr W) => copiedActs_any _ _ W (hma.keep hW) hx2 hx3)
     have HAL:Hid (an = t.acts.length):=Lib.hid hma.len.1
     have HC2:Hid (∀ W,Below wr.heap.size wr W → (W.cell? ⟨hh,kk * 4 + 1,none⟩ = some (.slice gA gn gc) ∧ W.cell? ⟨hh,kk * 4 + 2,none⟩ = some (.slice aA an ac)) ∧ W.frozen? ⟨hh,kk * 4 + 1,none⟩ = false ∧ W.frozen? ⟨hh,kk * 4 + 2,none⟩ = false):=Lib.hid (fun W hW => by
      obtain ⟨⟨cur,hcur⟩,hc,-⟩:=MixR.cells (HQM.out.keep hW) HQL.out
      exact ⟨⟨hc _ _ (flat_get (j:=1) tpV_length HQK.out (by decide)),hc _ _ (flat_get (j:=2) tpV_length HQK.out (by decide))⟩,free_of_block' hcur _,free_of_block' hcur _⟩)
     have hne:(Value.slice (some ⟨hh,0,none⟩) m c5x).ownBlock ≠ some g:=fun e => by injection e with e; simp only at e; have:=HGB.out.2; have:=HZ3.out; omega
     have k5:wr.cell? ⟨g,k * 6 + 5,none⟩ = some (.slice (some ⟨hh,0,none⟩) m c5x):=cell_go ((own_cell HRW.out).2 (k * 6 + 5) _ (by rw [HMT.out]; exact flat_get (j:=5) spV_length HPX.out (by decide))) (Nat.lt_of_lt_of_le HGB.out.2 HGX.out.size) HQG.out hne
     have hdr:Below wr.heap.size wr wr.drew:=(Below.refl _ _).drew
     obtain ⟨⟨d1,d2⟩,e1,e2⟩:=HC2.out _ hdr
     have l1:=hcells2 (kk * 4 + 1) _ (flat_get (j:=1) tpV_length hq (by decide))
     clear htm2 hx1 hx2 hx3 hmg hma hcells2 hh1 hq hgl hrg hne
     go_wp2_with fail
     go_region_law (first
      | (go_simp; go_at_call 51; (with_reducible refine (HF1.out _ hdr).mono ?_); rintro e y1 ⟨A1y,n1y,rfl,o1,b1⟩; have g1:=below_two' hdr b1; obtain ⟨⟨p11,p12⟩,q11,q12⟩:=HC2.out _ g1)
      | (go_simp; go_at_call 49; (with_reducible refine (HF2.out _ g1).mono ?_); rintro e y2 ⟨A2y,n2y,rfl,o2,b2⟩; have g2:=below_two' g1 b2; obtain ⟨⟨p21,p22⟩,q21,q22⟩:=HC2.out _ g2))
     all_goals
      have HST:=Lib.hid (ct_step HQM.out HQL.out HQK.out HGL.out b1 b2 o1 o2)
      clear b1 b2 o1 o2 g1 g2 p11 p12 p21 p22 d1 d2 e1 e2 k5 l1 hdr
      go_wp2_with fail
      go_roundw
      case rel =>
       refine ⟨kk + 1,qs.set kk ⟨t,A1y,gn,n1y,A2y,t.acts.length,n2y⟩,hlt2,by go_num,Lib.hid (HST.out.2.2.1.trans HQS.out),Lib.hid HST.out.2.2.2,Lib.hid HST.out.1,Lib.hid ?_⟩
       exact gr_any HQG.out HST.out.2.1 (fun j e => .inl (by rw [← e]; rfl))
      case measure => simp [intOf]; omega
end
end Go.Proofs.YtapnomdckglehaaGreat