/- ActReadOne, ActRead, joined. -/
import Derived.Test.YtcofikjpplkjdaaGreatDoorMPrintLong10
import Derived.Test.YtcofikjpplkjdaaGreatDoorMPrintLong12
import Derived.Test.YtcofikjpplkjdaaGreatDoorMPrintLong06
import Derived.Laws.Tables
import Derived.Deep.LoopGhost
import Derived.Deep.RegionHeld3
namespace Go.Proofs.YtcofikjpplkjdaaGreatDoor
open Go.RowKit CurSpec TermSpec EvalSpec ActSpec NamesSpec ExprSpec
set_option maxRecDepth 100000
def RetOne (W:World) (B:Nat) (p:Cur × Ac) (e:Ending) (w':World):Prop :=
 ∃ A n cp,e = .returned (.agg #[.string p.2.s,.bool p.2.any,.slice A n cp]) ∧ CurAt w' B p.1 ∧ Tms w' (.slice A n cp) p.2.x ∧ (∀ b,(Value.slice A n cp).ownBlock = some b → W.heap.size ≤ b) ∧ W.grownBy w' (some B)
theorem rb_any (s:ByteArray) (w:World):(Instr.build 47 #[(0,.string s),(1,.bool true)]).run Tryz.prog w = .ok (.agg #[.string s,.bool true,.slice none 0 0]) w:=run_build w 47 _ _ (by kernel_rfl)
theorem rb_set (s:ByteArray) (A:Option Addr) (n c:Nat) (w:World):(Instr.build 47 #[(0,.string s),(2,.slice A n c)]).run Tryz.prog w = .ok (.agg #[.string s,.bool false,.slice A n c]) w:=run_build w 47 _ _ (by kernel_rfl)
theorem store_three {w:World} {b:Nat} (h:Blk w b 3) (u0 u1 u2:Value) :
 (w.setCell ⟨b,0,none⟩ u0).cell? ⟨b,0,none⟩ = some u0 ∧ ((w.setCell ⟨b,0,none⟩ u0).setCell ⟨b,1,none⟩ u1).cell? ⟨b,1,none⟩ = some u1 ∧
 (((w.setCell ⟨b,0,none⟩ u0).setCell ⟨b,1,none⟩ u1).setCell ⟨b,2,none⟩ u2).cell? ⟨b,2,none⟩ = some u2 :=
 ⟨h.read 0 (by omega) _,(h.set _ _).read 1 (by omega) _,((h.set _ _).set _ _).read 2 (by omega) _⟩
theorem set_three (w:World) (b:Nat) (u0 u1 u2:Value):w.grownBy (((w.setCell ⟨b,0,none⟩ u0).setCell ⟨b,1,none⟩ u1).setCell ⟨b,2,none⟩ u2) (some b):=but_set (but_set (but_set (but_refl _ _) 0 _) 1 _) 2 _
theorem but_own {w x y:World} {B:Nat} {o:Obj} (h:(w.alloc o).grownBy x (some B)) (hy:x.grownBy y (some w.heap.size)):w.grownBy y (some B):=by
 have hz:=h.size
 rw [World.size_alloc] at hz
 exact ⟨hy.os.trans h.os,hy.tape.trans h.tape,hy.output.trans h.output,Nat.le_trans (by omega) hy.size,fun i hi hn => (hy.block i (by omega) (by simp; omega)).trans ((h.block i (by rw [World.size_alloc]; omega) hn).trans (heap_alloc_old _ _ hi))⟩
theorem CurAt.own {x y:World} {B k:Nat} {c:Cur} (h:CurAt x B c) (hy:x.grownBy y (some k)) (hlt:B < k):CurAt y B c:=h.but hy hlt
theorem grown_block {x y:World} {b B:Nat} {o:Obj} (h:x.heap[b]? = some o) (hb:x.grownBy y (some B)) (hne:b ≠ B):y.heap[b]? = some o:=(hb.block b (Array.getElem?_eq_some_iff.1 h).1 (by simpa using hne)).trans h
theorem signs_but {w w':World} {B:Nat} {c:Cur} (h:SignsIn w) (hc:CurAt w B c) (hb:w.grownBy w' (some B)):SignsIn w':=by
 refine h.of (hb.block _ h.pos fun e => ?_)
 obtain ⟨T,fr,h⟩:=h
 obtain ⟨b,off,n,cp,hB,_⟩:=hc
 injection e with e
 rw [← e,h] at hB
 simp only [Option.some.injEq,Obj.cells.injEq] at hB
 exact absurd ((congrArg Array.size hB.1).symm.trans rfl) (show ¬ _ = signsV.size by rw [show signsV.size = 55 by decide]; simp)
set_option maxHeartbeats 4000000 in
theorem readOne_at (B:Nat) (c:Cur) (w:World) (hs:SignsIn w) (h:CurAt w B c) (ok:Ok c) :
 Calls Tryz.prog 147 #[.pointer (some ⟨B,0,none⟩)] w (RetOne w B (oneR c)):=by
 have hB:=h.lt
 have b1:=rb_any
 have b2:=rb_set
 have h1:=h.alloc (.cells #[.string ⟨#[]⟩,.bool false,.slice none 0 0] 47)
 have hk:=heap_alloc_new w (.cells #[.string ⟨#[]⟩,.bool false,.slice none 0 0] 47)
 have hs1:=hs.alloc (.cells #[.string ⟨#[]⟩,.bool false,.slice none 0 0] 47)
 obtain ⟨w1,hw1⟩:∃ w1,w.alloc (.cells #[.string ⟨#[]⟩,.bool false,.slice none 0 0] 47) = w1:=⟨_,rfl⟩
 have hsz:w1.heap.size = w.heap.size + 1:=by rw [← hw1,World.size_alloc]
 rw [hw1] at h1 hk hs1
 have HK:=Lib.hid hk
 have HS:=Lib.hid hs1
 have HT:=Lib.hid (take_at B c 1 wAny w1 h1)
 have HCU:=Lib.hid h1
 have HW:=Lib.hid hw1
 have HSZ:=Lib.hid hsz
 obtain ⟨P,hP⟩:∃ P,P = oneR c:=⟨_,rfl⟩
 rw [← hP]
 by_cases hb:isB c 1 wAny = true
 ·have HP:Hid (P = (nameC (on c),⟨nameS (on c),true,[]⟩)):=Lib.hid (by rw [hP]; unfold oneR; rw [if_pos hb])
  rw [hb,show take c 1 wAny = on c by unfold take; rw [if_pos hb]] at HT
  have HN:=Lib.hid (fun W (hW:CurAt W B (on c)) => name_at B (on c) ok.on W hW)
  clear hP hb h hs h1 hk hs1 hw1 hsz ok
  go_enter Tryz.func147,Tryz.ntmps147
  go_wp2_with (rw [HW.out]; go_at_call 62; (with_reducible refine HT.out.mono ?_))
  rintro e x2 ⟨rfl,hc2,hb2⟩
  have HB2:=Lib.hid hb2
  have HC2:=Lib.hid hc2
  clear hb2 hc2
  go_wp2_with (go_at_call 57; (with_reducible refine (HN.out _ HC2.out).mono ?_))
  rintro e x3 ⟨rfl,hc3,hb3⟩
  have HB3:=Lib.hid (but_trans HB2.out hb3)
  have HC3:=Lib.hid hc3
  have hk3:=grown_block HK.out HB3.out (show w.heap.size ≠ B by omega)
  have HK3:=Lib.hid hk3
  obtain ⟨c0,c1,c2⟩:=cells_3 hk3
  obtain ⟨f0,f1,f2⟩:=free_3 hk3
  obtain ⟨s,hs⟩:∃ s,s = nameS (on c):=⟨_,rfl⟩
  rw [← hs] at HP ⊢
  clear hb3 hc3 hk3 hs
  go_wp2_with fail
  obtain ⟨q0,q1,q2⟩:=store_three (blk_of HK3.out (n:=3) rfl) (.string s) (.bool true) (.slice none 0 0)
  refine bodyPost_ret (v:=.agg #[.string s,.bool true,.slice none 0 0]) (by simp [results,Tryz.results147,go_sem,q0,q1,q2]) rfl ?_
  have hb3:=HB3.out
  rw [← HW.out] at hb3
  refine ⟨none,0,0,by rw [HP.out],?_,?_,by simp [Value.ownBlock],but_own hb3 (set_three _ _ _ _ _)⟩
  ·rw [HP.out]; exact HC3.out.own (set_three _ _ _ _ _) (by omega)
  ·rw [HP.out]; exact ⟨0,rfl,Rdk.nil 3 _⟩
 ·have HP:Hid (P = ((rdE (want (nameC c) 3 wSet)).1,⟨nameS c,false,(rdE (want (nameC c) 3 wSet)).2⟩)):=Lib.hid (by rw [hP]; unfold oneR; rw [if_neg hb])
  have hb':isB c 1 wAny = false:=by simpa using hb
  rw [hb',show take c 1 wAny = c by unfold take; rw [if_neg hb]] at HT
  have HN:=Lib.hid (fun W (hW:CurAt W B c) => name_at B c ok W hW)
  have HWA:=Lib.hid (fun W (hW:CurAt W B (nameC c)) => want_at B (nameC c) 3 wSet W hW)
  have HRD:=Lib.hid (fun W (hs:SignsIn W) (hW:CurAt W B (want (nameC c) 3 wSet)) => read_at B (want (nameC c) 3 wSet) _ W hs hW (ok.nameC.want 3 wSet) (fit_self _))
  clear hP hb hb' h hs h1 hk hs1 hw1 hsz ok
  go_enter Tryz.func147,Tryz.ntmps147
  go_wp2_with (rw [HW.out]; go_at_call 62; (with_reducible refine HT.out.mono ?_))
  rintro e x2 ⟨rfl,hc2,hb2⟩
  have HB2:=Lib.hid hb2
  have HC2:=Lib.hid hc2
  clear hb2 hc2
  go_wp2_with (go_at_call 57; (with_reducible refine (HN.out _ HC2.out).mono ?_))
  rintro e x3 ⟨rfl,hc3,hb3⟩
  have HB3:=Lib.hid (but_trans HB2.out hb3)
  have HC3:=Lib.hid hc3
  clear hb3 hc3
  go_wp2_with (go_at_call 26; (with_reducible refine (HWA.out _ HC3.out).mono ?_))
  rintro e x4 ⟨rfl,hc4,hb4⟩
  have HB4:=Lib.hid (but_trans HB3.out hb4)
  have HC4:=Lib.hid hc4
  clear hb4 hc4
  have HS4:Hid (SignsIn x4):=Lib.hid (signs_but HS.out HCU.out HB4.out)
  go_wp2_with (go_at_call 149; (with_reducible refine (HRD.out _ HS4.out HC4.out).mono ?_))
  rintro e x5 ⟨A5,n5,c5,rfl,hc5,ht5,hn5,hb5,ho5⟩
  have HB5:=Lib.hid (but_trans HB4.out hb5)
  have HO5:=Lib.hid (fun b hb => Nat.le_trans HB4.out.size (ho5 b hb))
  have HC5:=Lib.hid (And.intro hc5 ht5)
  have hk5:=grown_block HK.out HB5.out (show w.heap.size ≠ B by omega)
  have HK5:=Lib.hid hk5
  obtain ⟨c0,c1,c2⟩:=cells_3 hk5
  obtain ⟨f0,f1,f2⟩:=free_3 hk5
  obtain ⟨s,hs⟩:∃ s,s = nameS c:=⟨_,rfl⟩
  rw [← hs] at HP ⊢
  clear hb5 hc5 hk5 hs ho5 ht5 hn5
  go_wp2_with fail
  obtain ⟨q0,q1,q2⟩:=store_three (blk_of HK5.out (n:=3) rfl) (.string s) (.bool false) (.slice A5 n5 c5)
  refine bodyPost_ret (v:=.agg #[.string s,.bool false,.slice A5 n5 c5]) (by simp [results,Tryz.results147,go_sem,q0,q1,q2]) rfl ?_
  have hb5:=HB5.out
  rw [← HW.out] at hb5
  refine ⟨A5,n5,c5,by rw [HP.out],?_,?_,fun b hb => by have:=HO5.out b hb; have:=HSZ.out; omega,but_own hb5 (set_three _ _ _ _ _)⟩
  ·rw [HP.out]; exact HC5.out.1.own (set_three _ _ _ _ _) (by omega)
  ·rw [HP.out]
   refine tms_but HC5.out.2 (set_three _ _ _ _ _) fun hb => ?_
   have:=HO5.out _ hb
   have:=HSZ.out
   omega
end Go.Proofs.YtcofikjpplkjdaaGreatDoor
namespace Go.Proofs.YtcofikjpplkjdaaGreatDoor
open Go.RowKit CurSpec TermSpec EvalSpec ActSpec NamesSpec ExprSpec
set_option maxRecDepth 100000
theorem inf_act:(Tryz.prog.info? 47).map (fun i => (i.zero,i.size,i.bytes)) = some (some (.agg #[.string ByteArray.empty,.bool false,.slice none 0 0]),3,48):=by kernel_rfl
def AcsFar (B0:Nat) (w:World) (v:Value) (l:List Ac):Prop:=∃ ps:List AP,ps.map (·.a) = l ∧ Rdk 3 w v l.length (acsV ps) ∧ (∀ p ∈ ps,Tms w (.slice p.xA p.xn p.xc) p.a.x) ∧ (∀ b,v.ownBlock = some b → B0 ≤ b) ∧ ∀ p ∈ ps,0 < p.xn → ∀ b,(Value.slice p.xA p.xn p.xc).ownBlock = some b → B0 ≤ b
theorem AcsFar.acs {B0:Nat} {w:World} {v:Value} {l:List Ac} (h:AcsFar B0 w v l):Acs w v l:=by
 obtain ⟨ps,h1,h2,h3,-⟩:=h
 exact ⟨ps,h1,h2,h3⟩
theorem AcsFar.nil (B0:Nat) (w:World):AcsFar B0 w (.slice none 0 0) []:=⟨[],rfl,Rdk.nil 3 _,by simp,by simp [Value.ownBlock],by simp⟩
structure RowA (W:World) (B:Nat) (wr:World) (pv:Value) (ps:List AP):Prop where
 own:wr.ownsRow W.heap.size 47 3 pv ps.length (acsV ps)
 tms:∀ p ∈ ps,Tms wr (.slice p.xA p.xn p.xc) p.a.x
 apart:∀ p ∈ ps,0 < p.xn → ∀ b,(Value.slice p.xA p.xn p.xc).ownBlock = some b → W.heap.size ≤ b ∧ pv.ownBlock ≠ some b ∧ b < wr.heap.size
 grown:W.grownBy wr (some B)
 lt:B < W.heap.size
theorem tms_lt {w:World} {A:Option Addr} {n c:Nat} {l:List Tm} (h:Tms w (.slice A n c) l) (h0:0 < n) {b:Nat} (hb:(Value.slice A n c).ownBlock = some b):b < w.heap.size:=by
 obtain ⟨m,hm,A',c',heq,hc,hl,hA⟩:=h
 cases heq
 obtain ⟨b',off,rfl,hlt,_⟩:=hA h0
 injection hb with hb
 subst hb
 exact hlt
section
variable {W wr w':World} {B:Nat} {pv:Value} {ps:List AP}
theorem tms_row {A:Option Addr} {n c:Nat} {l:List Tm} {ob:Option Nat} (h:Tms wr (.slice A n c) l) (hb:wr.grownBy w' ob) (hne:0 < n → ∀ b,(Value.slice A n c).ownBlock = some b → ob ≠ some b):Tms w' (.slice A n c) l:=by
 obtain ⟨m,hm,A',c',heq,hc,hl,hA⟩:=h
 cases heq
 refine ⟨_,hm,A,c,rfl,hc,hl,fun h0 => ?_⟩
 obtain ⟨b,off,rfl,hlt,hcell⟩:=hA h0
 refine ⟨b,off,rfl,Nat.lt_of_lt_of_le hlt hb.size,fun j u hj => ?_⟩
 have:=hb.block b hlt (fun e => hne h0 b rfl e.symm)
 rw [← hcell j u hj]
 simp [World.cell?,this]
theorem RowA.but (h:RowA W B wr pv ps) (hb:wr.grownBy w' (some B)):RowA W B w' pv ps :=
 ⟨own_but h.own hb h.lt,fun p hp => tms_row (h.tms p hp) hb (fun h0 b e he => by have h1:=(h.apart p hp h0 b e).1; have h2:=h.lt; injection he with he; omega),fun p hp h0 b e => ⟨(h.apart p hp h0 b e).1,(h.apart p hp h0 b e).2.1,Nat.lt_of_lt_of_le (h.apart p hp h0 b e).2.2 hb.size⟩,but_trans h.grown hb,h.lt⟩
theorem RowA.keep (h:RowA W B wr pv ps) (hb:Below wr.heap.size wr w'):RowA W B w' pv ps:=h.but (but_below hb)
theorem RowA.far (h:RowA W B wr pv ps):AcsFar W.heap.size wr pv (ps.map (·.a)):=⟨ps,rfl,by rw [List.length_map]; exact Rdk.own h.own,h.tms,fun b hb => (own_block_bd h.own b hb).1,fun p hp h0 b hb => (h.apart p hp h0 b hb).1⟩
theorem RowA.acs (h:RowA W B wr pv ps):Acs wr pv (ps.map (·.a)):=⟨ps,rfl,by rw [List.length_map]; exact Rdk.own h.own,h.tms⟩
theorem RowA.add {p:AP} {pv':Value} {o:Obj} (h:RowA W B wr pv ps) (ht:Tms wr (.slice p.xA p.xn p.xc) p.a.x)
 (hap:∀ b,(Value.slice p.xA p.xn p.xc).ownBlock = some b → W.heap.size ≤ b ∧ pv.ownBlock ≠ some b)
 (hrow:w'.ownsRow W.heap.size 47 3 pv' (ps.length + 1) (acsV ps ++ acsV [p])) (hg:(wr.alloc o).grownBy w' pv.ownBlock) (hob:pv'.ownBlock = pv.ownBlock ∨ pv'.ownBlock = some (wr.alloc o).heap.size) :
 RowA W B w' pv' (ps ++ [p]):=by
 have ha:Below wr.heap.size wr (wr.alloc o):=KitC.below_one wr o
 have hbd:=fun j hj => (own_block_bd h.own j hj).1
 have hall:∀ q ∈ ps ++ [p],Tms wr (.slice q.xA q.xn q.xc) q.a.x ∧ (0 < q.xn → ∀ b,(Value.slice q.xA q.xn q.xc).ownBlock = some b → W.heap.size ≤ b ∧ pv.ownBlock ≠ some b ∧ b < wr.heap.size):=fun q hq => by
  rcases List.mem_append.1 hq with hq | hq
  ·exact ⟨h.tms q hq,h.apart q hq⟩
  ·rw [List.mem_singleton] at hq
   subst hq
   exact ⟨ht,fun h0 b hb => ⟨(hap b hb).1,(hap b hb).2,tms_lt ht h0 hb⟩⟩
 refine ⟨by rw [← acsV_append,List.length_append]; exact hrow,fun q hq => tms_row ((hall q hq).1.keep ha) hg fun h0 b hb => ((hall q hq).2 h0 b hb).2.1,fun q hq h0 b hb => ?_,?_,h.lt⟩
 ·obtain ⟨h1,h2,h3⟩:=(hall q hq).2 h0 b hb
  refine ⟨h1,?_,Nat.lt_of_lt_of_le h3 (Nat.le_trans ha.size hg.size)⟩
  rcases hob with e | e
  ·rw [e]; exact h2
  ·rw [e,World.size_alloc]; intro e; injection e with e; omega
 ·have hgw:=h.grown
  refine ⟨hg.os.trans hgw.os,hg.tape.trans hgw.tape,hg.output.trans hgw.output,Nat.le_trans hgw.size (Nat.le_trans ha.size hg.size),fun i hi hn => ?_⟩
  have hi2:i < wr.heap.size:=Nat.lt_of_lt_of_le hi hgw.size
  refine (hg.block i (Nat.lt_of_lt_of_le hi2 ha.size) fun e => ?_).trans ((ha.block i hi2).trans (hgw.block i hi hn))
  have:=hbd i e.symm
  omega
theorem RowA.one {p:AP} (hg:W.grownBy wr (some B)) (hB:B < W.heap.size) (ht:Tms wr (.slice p.xA p.xn p.xc) p.a.x) (hap:∀ b,(Value.slice p.xA p.xn p.xc).ownBlock = some b → W.heap.size ≤ b) :
 RowA W B (wr.alloc (.cells #[.string p.a.s,.bool p.a.any,.slice p.xA p.xn p.xc] 47)) (.slice (some ⟨wr.heap.size,0,none⟩) 1 1) [p]:=by
 have ha:Below wr.heap.size wr (wr.alloc (.cells #[.string p.a.s,.bool p.a.any,.slice p.xA p.xn p.xc] 47)):=KitC.below_one wr _
 refine ⟨World.ownsRow_lit wr _ 1 hg.size (by decide) rfl,fun q hq => ?_,fun q hq h0 b hb => ?_,but_trans hg (but_below ha),hB⟩
 ·rw [List.mem_singleton] at hq
  subst hq
  exact ht.keep ha
 ·rw [List.mem_singleton] at hq
  subst hq
  have:=tms_lt ht h0 hb
  refine ⟨hap b hb,fun e => ?_,Nat.lt_of_lt_of_le this ha.size⟩
  injection e with e
  simp only at e
  omega
theorem acs_lit {p:AP} {k:Nat} (hk:k = wr.heap.size):Rdk 3 (wr.alloc (.cells #[.string p.a.s,.bool p.a.any,.slice p.xA p.xn p.xc] 47)) (.slice (some ⟨k,0,none⟩) 1 1) 1 (acsV [p]):=by
 subst hk
 exact Rdk.own (base:=0) (World.ownsRow_lit wr _ 1 (Nat.zero_le _) (by decide) rfl)
end
theorem row_cur {w x y:World} {o:Obj} {B:Nat} {c:Cur} {pv:Value} {n:Nat} {xs:List Value} (hc:CurAt x B c) (hs:SignsIn x) (hrow:(x.alloc o).ownsRow w.heap.size 47 3 pv n xs) (hB:B < w.heap.size) (hg:(x.alloc o).grownBy y pv.ownBlock):CurAt y B c ∧ SignsIn y:=by
 have h1:=hc.alloc o
 have h2:=hs.alloc o
 have hbd:=fun j hj => (own_block_bd hrow j hj).1
 refine ⟨?_,h2.of (hg.block _ h2.pos fun e => ?_)⟩
 ·obtain ⟨b,off,n,cp,h,hne,hn,hT⟩:=h1
  have hlt:=(Array.getElem?_eq_some_iff.1 h).1
  refine ⟨b,off,n,cp,(hg.block _ hlt fun e => by have:=hbd B e.symm; omega).trans h,hne,hn,?_⟩
  obtain ⟨m,hm,A,c',heq,hc',hl,hA⟩:=hT
  cases heq
  refine ⟨_,hm,_,cp,rfl,hc',hl,fun h0 => ?_⟩
  obtain ⟨b',off',h3,hlt',hcell⟩:=hA h0
  cases h3
  refine ⟨b,off,rfl,Nat.lt_of_lt_of_le hlt' hg.size,fun j u hj => ?_⟩
  have:=hg.block b hlt' fun e => by have:=hbd b e.symm; omega
  rw [← hcell j u hj]
  simp [World.cell?,this]
 ·have h3:=hbd _ e.symm
  obtain ⟨T,fr,h⟩:=h2
  rcases hrow.2 with ⟨h4,_⟩ | ⟨g,cap,cur,h4,_,h5,_,_,h6,_⟩
  ·rw [h4] at e; cases e
  ·rw [h4] at e
   injection e with e
   rw [← show 2 = g from e,h] at h5
   simp only [Option.some.injEq,Obj.cells.injEq] at h5
   have h7:=congrArg Array.size h5.1
   rw [show signsV.size = 55 by decide,h6] at h7
   omega
def RetActsF (W:World) (B:Nat) (p:Cur × List Ac) (e:Ending) (w':World):Prop:=∃ A n cp,e = .returned (.slice A n cp) ∧ CurAt w' B p.1 ∧ AcsFar W.heap.size w' (.slice A n cp) p.2 ∧ W.grownBy w' (some B)
def ReadRel (W:World) (B:Nat) (F:Cur × List Ac) (gh:Nat) (pv:Value) (wr:World):Prop :=
 ∃ (c:Cur) (ps:List AP),c.L.length ≤ gh ∧ Ok c ∧ CurAt wr B c ∧ SignsIn wr ∧ RowA W B wr pv ps ∧ Few9 c (ps.map (·.a)) ∧ tailR c (ps.map (·.a)) = F
set_option maxHeartbeats 8000000 in
theorem read_actsF (B:Nat) (c:Cur) (w:World) (hs:SignsIn w) (h:CurAt w B c) (ok:Ok c) :
 Calls Tryz.prog 129 #[.pointer (some ⟨B,0,none⟩)] w (RetActsF w B (readA c)):=by
 have hB:=h.lt
 obtain ⟨i0,hi,hz0,hz1,hz2⟩:=info_parts inf_act
 have HI:=Lib.hid (And.intro hi (And.intro hz0 (And.intro hz1 hz2)))
 have H1:=Lib.hid (readOne_at B c w hs h ok)
 have HSW:=Lib.hid (And.intro hs h)
 obtain ⟨F,hF⟩:∃ F,F = allR c []:=⟨_,rfl⟩
 have HR:Hid (readA c = if F.1.bad = 0 then F else (F.1,[])):=Lib.hid (by rw [hF]; rfl)
 have HST:Hid (tailR (oneR c).1 [(oneR c).2] = F):=Lib.hid (by rw [hF,allR_step]; rfl)
 have HOK1:=Lib.hid (oneR_ok ok)
 have HBB:=Lib.hid hB
 obtain ⟨R,hR⟩:∃ R,R = readA c:=⟨_,rfl⟩
 rw [← hR] at HR ⊢
 obtain ⟨⟨c1,a1⟩,h1⟩:∃ p,p = oneR c:=⟨_,rfl⟩
 rw [← h1] at H1 HST HOK1
 clear hi hz0 hz1 hz2 hs h ok hF hR h1
 go_enter Tryz.func129,Tryz.ntmps129
 go_wp2_with (go_at_call 147; (with_reducible refine H1.out.mono ?_))
 rintro e w1 ⟨xA,xn,xc,rfl,hc1,ht1,hb1,hg1⟩
 have HST1:Hid (ReadRel w B F c1.L.length (.slice (some ⟨w1.heap.size,0,none⟩) 1 1) (w1.alloc (.cells #[.string a1.s,.bool a1.any,.slice xA xn xc] 47))):=Lib.hid
  ⟨c1,[⟨a1,xA,xn,xc⟩],Nat.le_refl _,HOK1.out,hc1.alloc _,(signs_but HSW.out.1 HSW.out.2 hg1).alloc _,RowA.one (p:=⟨a1,xA,xn,xc⟩) hg1 hB ht1 (fun b hb => by have:=hb1 b hb; omega),⟨by simp,fun h => by simp at h⟩,HST.out⟩
 clear hc1 ht1 hb1 hg1
 go_wp2_with fail
 go_loopg [3] (c1.L.length) (fun gh pv wr => ReadRel w B F gh pv wr)
 case atStart => exact HST1.out
 case round =>
  obtain ⟨d,ps,hgh,hok,hcur,hsg,hrow,hfew,htail⟩:=hrel
  have HGH:=Lib.hid hgh
  have HOK:=Lib.hid hok
  have HSG:=Lib.hid hsg
  have HROW:=Lib.hid hrow
  have HFEW:=Lib.hid hfew
  have HTAIL:=Lib.hid htail
  have HTK:=Lib.hid (take_at B d 3 wCom wr hcur)
  have HCUR:=Lib.hid hcur
  obtain ⟨pA,pc,rfl⟩:=own_shape hrow.own
  obtain ⟨n,hn⟩:∃ n,n = ps.length:=⟨_,rfl⟩
  rw [← hn]
  have HN:=Lib.hid hn
  by_cases hb:isB d 3 wCom = true
  ·have h0:=(isB_real hb (by decide))
   have HF1:=Lib.hid (few9_step hfew hb)
   have h8:ps.length ≤ 8:=by
    have h1:=hfew.1
    have h2:=hfew.2
    rw [List.length_map] at h1 h2
    rcases Nat.lt_or_ge ps.length 9 with h' | h'
    ·omega
    ·exact absurd h0.1 (h2 (by omega))
   have HLE:=Lib.hid (stepR_le (on d) (ps.map (·.a))).1
   have HLL:=Lib.hid h0.2.1
   have HOK2:=Lib.hid (stepR_ok (ps.map (·.a)) hok.on)
   have HT1:=Lib.hid (tailR_yes (out:=ps.map (·.a)) hb)
   have HNB:=Lib.hid (tailR_yes (out:=ps.map (·.a)) hb)
   rw [hb,show take d 3 wCom = on d by unfold take; rw [if_pos hb]] at HTK
   have HD:Hid ((stepR (on d) (ps.map (·.a))) = ((oneR (fullR (on d) (ps.map (·.a)))).1,ps.map (·.a) ++ [(oneR (fullR (on d) (ps.map (·.a)))).2])):=Lib.hid rfl
   have HOKD:=Lib.hid (fullR_ok (ps.map (·.a)) hok.on)
   have HFU:Hid (fullR (on d) (ps.map (·.a)) = if n = 8 then fail (on d) 8 else on d):=Lib.hid (by unfold fullR; rw [List.length_map,hn])
   obtain ⟨D,hD⟩:∃ D,D = fullR (on d) (ps.map (·.a)):=⟨_,rfl⟩
   rw [← hD] at HD HOKD HFU
   have HONE:=Lib.hid (fun W hs hc => readOne_at B D W hs hc HOKD.out)
   obtain ⟨⟨c2,a2⟩,h2⟩:∃ q,q = oneR D:=⟨_,rfl⟩
   rw [← h2] at HD HONE
   rw [HD.out] at HF1 HLE HOK2 HT1
   have HL1:Hid (n + 1 ≤ maxLen):=Lib.hid (by unfold maxLen; omega)
   have HL2:Hid ((n + 1) * 48 ≤ 140737488355328):=Lib.hid (by omega)
   clear hgh hok hfew htail hb h0 h2 hD HNB
   by_cases h8e:n = 8
   ·have g1:((n:Int) == 8) = true:=by simp; omega
    have g1':(n == 8) = true:=by simp; omega
    have HFD:Hid (D = fail (on d) 8):=Lib.hid (by rw [HFU.out,if_pos h8e])
    clear h8e h8 hn hrow hcur hsg
    go_wp2_with (go_at_call 62; (with_reducible refine HTK.out.mono ?_))
    rintro e x2 ⟨rfl,hc2,hg2⟩
    have HRW0:=Lib.hid (HROW.out.but hg2)
    have HS2:=Lib.hid (signs_but HSG.out HCUR.out hg2)
    have HFL:=Lib.hid (fail_at B (on d) 8 x2 hc2)
    have HC2:=Lib.hid hc2
    clear hc2 hg2
    go_wp2_with (go_at_call 63; (with_reducible refine HFL.out.mono ?_))
    rintro e x3 ⟨rfl,hc3,hg3⟩
    rw [← HFD.out] at hc3
    have HCD:=Lib.hid hc3
    have HSD:=Lib.hid (signs_but HS2.out HC2.out hg3)
    have HRW:=Lib.hid (HRW0.out.but hg3)
    clear hc3 hg3
    go_wp2_with (go_at_call 147; (with_reducible refine (HONE.out _ HSD.out HCD.out).mono ?_))
    rintro e x4 ⟨xA,xn,xc,rfl,hc4,ht4,hb4,hg4⟩
    have hrow4:=HRW.out.but hg4
    have hbd4:=fun j hj => (own_block_bd HRW.out.own j hj).2
    have HADD:=Lib.hid (fun (pv':Value) (w':World) hrow hg hob => hrow4.add (w':=w') (p:=⟨a2,xA,xn,xc⟩) (pv':=pv') (o:=.cells #[.string a2.s,.bool a2.any,.slice xA xn xc] 47) ht4 (fun b hb => ⟨by have:=hb4 b hb; have:=HRW.out.grown.size; have:=HBB.out; omega,fun e => by have:=hbd4 b e; have:=hb4 b hb; omega⟩) hrow hg hob)
    have HROW4:=Lib.hid (own_keep hrow4.own (KitC.below_one x4 (.cells #[.string a2.s,.bool a2.any,.slice xA xn xc] 47)))
    have HLIT:=Lib.hid (acs_lit (wr:=x4) (p:=⟨a2,xA,xn,xc⟩) rfl)
    have HSZ4:=Lib.hid hrow4.grown.size
    have HC4:=Lib.hid (And.intro hc4 (signs_but HSD.out HCD.out hg4))
    rw [← HN.out] at HROW4
    clear hc4 ht4 hb4 hg4 hrow4 hbd4
    go_wp2_with (at_builtin; refine wpList_append_rdk _ rfl (.tmp 14) (.tmp 17) _ rfl w.heap.size 47 i0 (.agg #[.string ByteArray.empty,.bool false,.slice none 0 0]) 3 48 Tryz.underlying39 HI.out.1 HI.out.2.1 HI.out.2.2.1 HI.out.2.2.2 rfl (by decide) _ _ _ rfl HROW4.out _ 1 (acsV [⟨a2,xA,xn,xc⟩]) rfl HLIT.out (acsV_one _) HL1.out HL2.out ?_ ?_; (have:=HSZ4.out; simp; omega); intro p2 w2 hrow2 hg2 hob2; have HE:Hid (w2.ownsRow w.heap.size 47 3 p2 (n + 1) (acsV ps ++ acsV [⟨a2,xA,xn,xc⟩]) ∧ (x4.alloc (.cells #[.string a2.s,.bool a2.any,.slice xA xn xc] 47)).grownBy w2 (Value.slice pA n pc).ownBlock ∧ (p2.ownBlock = (Value.slice pA n pc).ownBlock ∨ p2.ownBlock = some (x4.alloc (.cells #[.string a2.s,.bool a2.any,.slice xA xn xc] 47)).heap.size)):=Lib.hid ⟨hrow2,hg2,hob2⟩; clear hrow2 hg2 hob2)
    have hrow5:=HE.out
    rw [HN.out] at hrow5
    have HR5:=Lib.hid (HADD.out _ _ hrow5.1 hrow5.2.1 hrow5.2.2)
    have HC5:Hid (CurAt w2 B c2 ∧ SignsIn w2):=Lib.hid (row_cur HC4.out.1 HC4.out.2 HROW4.out HBB.out HE.out.2.1)
    clear hrow5
    go_roundg (c2.L.length)
    case measure => have h1:=HLE.out; have h2:=HLL.out; have h3:=HGH.out; omega
    case rel => exact ⟨c2,ps ++ [⟨a2,xA,xn,xc⟩],Nat.le_refl _,HOK2.out,HC5.out.1,HC5.out.2,HR5.out,by rw [List.map_append]; exact HF1.out,by rw [← HTAIL.out,HT1.out,List.map_append]; rfl⟩
   ·have g1:((n:Int) == 8) = false:=by simp; omega
    have g1':(n == 8) = false:=by simp; omega
    have HFD:Hid (D = on d):=Lib.hid (by rw [HFU.out,if_neg h8e])
    clear h8e h8 hn hrow hcur hsg
    go_wp2_with (go_at_call 62; (with_reducible refine HTK.out.mono ?_))
    rintro e x3 ⟨rfl,hc3,hg3⟩
    rw [← HFD.out] at hc3
    have HCD:=Lib.hid hc3
    have HSD:=Lib.hid (signs_but HSG.out HCUR.out hg3)
    have HRW:=Lib.hid (HROW.out.but hg3)
    clear hc3 hg3
    go_wp2_with (go_at_call 147; (with_reducible refine (HONE.out _ HSD.out HCD.out).mono ?_))
    rintro e x4 ⟨xA,xn,xc,rfl,hc4,ht4,hb4,hg4⟩
    have hrow4:=HRW.out.but hg4
    have hbd4:=fun j hj => (own_block_bd HRW.out.own j hj).2
    have HADD:=Lib.hid (fun (pv':Value) (w':World) hrow hg hob => hrow4.add (w':=w') (p:=⟨a2,xA,xn,xc⟩) (pv':=pv') (o:=.cells #[.string a2.s,.bool a2.any,.slice xA xn xc] 47) ht4 (fun b hb => ⟨by have:=hb4 b hb; have:=HRW.out.grown.size; have:=HBB.out; omega,fun e => by have:=hbd4 b e; have:=hb4 b hb; omega⟩) hrow hg hob)
    have HROW4:=Lib.hid (own_keep hrow4.own (KitC.below_one x4 (.cells #[.string a2.s,.bool a2.any,.slice xA xn xc] 47)))
    have HLIT:=Lib.hid (acs_lit (wr:=x4) (p:=⟨a2,xA,xn,xc⟩) rfl)
    have HSZ4:=Lib.hid hrow4.grown.size
    have HC4:=Lib.hid (And.intro hc4 (signs_but HSD.out HCD.out hg4))
    rw [← HN.out] at HROW4
    clear hc4 ht4 hb4 hg4 hrow4 hbd4
    go_wp2_with (at_builtin; refine wpList_append_rdk _ rfl (.tmp 14) (.tmp 17) _ rfl w.heap.size 47 i0 (.agg #[.string ByteArray.empty,.bool false,.slice none 0 0]) 3 48 Tryz.underlying39 HI.out.1 HI.out.2.1 HI.out.2.2.1 HI.out.2.2.2 rfl (by decide) _ _ _ rfl HROW4.out _ 1 (acsV [⟨a2,xA,xn,xc⟩]) rfl HLIT.out (acsV_one _) HL1.out HL2.out ?_ ?_; (have:=HSZ4.out; simp; omega); intro p2 w2 hrow2 hg2 hob2; have HE:Hid (w2.ownsRow w.heap.size 47 3 p2 (n + 1) (acsV ps ++ acsV [⟨a2,xA,xn,xc⟩]) ∧ (x4.alloc (.cells #[.string a2.s,.bool a2.any,.slice xA xn xc] 47)).grownBy w2 (Value.slice pA n pc).ownBlock ∧ (p2.ownBlock = (Value.slice pA n pc).ownBlock ∨ p2.ownBlock = some (x4.alloc (.cells #[.string a2.s,.bool a2.any,.slice xA xn xc] 47)).heap.size)):=Lib.hid ⟨hrow2,hg2,hob2⟩; clear hrow2 hg2 hob2)
    have hrow5:=HE.out
    rw [HN.out] at hrow5
    have HR5:=Lib.hid (HADD.out _ _ hrow5.1 hrow5.2.1 hrow5.2.2)
    have HC5:Hid (CurAt w2 B c2 ∧ SignsIn w2):=Lib.hid (row_cur HC4.out.1 HC4.out.2 HROW4.out HBB.out HE.out.2.1)
    clear hrow5
    go_roundg (c2.L.length)
    case measure => have h1:=HLE.out; have h2:=HLL.out; have h3:=HGH.out; omega
    case rel => exact ⟨c2,ps ++ [⟨a2,xA,xn,xc⟩],Nat.le_refl _,HOK2.out,HC5.out.1,HC5.out.2,HR5.out,by rw [List.map_append]; exact HF1.out,by rw [← HTAIL.out,HT1.out,List.map_append]; rfl⟩
  ·have HT1:Hid (F = (d,ps.map (·.a))):=Lib.hid (by rw [← htail,tailR_no hb])
   have hb':isB d 3 wCom = false:=by simpa using hb
   rw [hb',show take d 3 wCom = d by unfold take; rw [if_neg hb]] at HTK
   clear hgh hok hfew htail hb hb' hn
   go_wp2_with (go_at_call 62; (with_reducible refine HTK.out.mono ?_))
   rintro e x2 ⟨rfl,hc2,hg2⟩
   have HRW:=Lib.hid (HROW.out.but hg2)
   have HC2:=Lib.hid hc2
   have hgood:=fun b hb => good_any _ _ _ _ x2 (Fl.of hc2) (b:=b) hb
   have HGOOD:=Lib.hid hgood
   clear hc2 hg2 hgood hrow hcur hsg
   by_cases hd0:d.bad = 0
   ·have HG:=Lib.hid (HGOOD.out true (by simpa using hd0))
    have HR2:Hid (R = (d,ps.map (·.a))):=Lib.hid (by rw [HR.out,HT1.out,if_pos hd0])
    clear hd0
    go_wp2_with (go_at_call 61; (with_reducible refine HG.out.mono ?_))
    rintro e x3 ⟨rfl,hb3⟩
    have HE:=Lib.hid (And.intro (HC2.out.keep hb3) (HRW.out.keep hb3))
    clear hb3
    go_wp2_with fail
    go_ret
    exact ⟨_,_,_,rfl,by rw [HR2.out]; exact HE.out.1,by rw [HR2.out,HN.out]; exact HE.out.2.far,HE.out.2.grown⟩
   ·have HG:=Lib.hid (HGOOD.out false (by simpa using hd0))
    have HR2:Hid (R = (d,[])):=Lib.hid (by rw [HR.out,HT1.out,if_neg hd0])
    clear hd0
    go_wp2_with (go_at_call 61; (with_reducible refine HG.out.mono ?_))
    rintro e x3 ⟨rfl,hb3⟩
    have HE:=Lib.hid (And.intro (HC2.out.keep hb3) (HRW.out.keep hb3))
    clear hb3
    go_wp2_with fail
    go_ret
    exact ⟨none,0,0,rfl,by rw [HR2.out]; exact HE.out.1,by rw [HR2.out]; exact AcsFar.nil _ _,HE.out.2.grown⟩
end Go.Proofs.YtcofikjpplkjdaaGreatDoor