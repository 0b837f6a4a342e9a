/- ActRead, joined. -/
import Derived.Test.YtjfghaohogcfbaaGreatDoorMFormatSame16
import Derived.Deep.LoopGhost
import Derived.Deep.RegionHeld3
namespace Go.Proofs.YtjfghaohogcfbaaGreatDoor
open Go.RowKit CurSpec TermSpec EvalSpec ActSpec NamesSpec ExprSpec
set_option maxRecDepth 100000
theorem inf_act:(Tryz.prog.info? 103).map (fun i => (i.zero,i.size,i.bytes)) = some (some (.agg #[.string ByteArray.empty,.bool false,.slice none 0 0]),3,48):=by kernel_rfl
def AcsFar (B0:Nat) (w:World) (v:Value) (l:List Ac):Prop:=∃ ps:List AP,ps.map (·.a) = l ∧ Rdk 3 w v l.length (acsV ps) ∧ (∀ p ∈ ps,Tms w (.slice p.xA p.xn p.xc) p.a.x) ∧ (∀ b,v.ownBlock = some b → B0 ≤ b) ∧ ∀ p ∈ ps,0 < p.xn → ∀ b,(Value.slice p.xA p.xn p.xc).ownBlock = some b → B0 ≤ b
theorem AcsFar.acs {B0:Nat} {w:World} {v:Value} {l:List Ac} (h:AcsFar B0 w v l):Acs w v l:=by
 obtain ⟨ps,h1,h2,h3,-⟩:=h
 exact ⟨ps,h1,h2,h3⟩
theorem AcsFar.nil (B0:Nat) (w:World):AcsFar B0 w (.slice none 0 0) []:=⟨[],rfl,Rdk.nil 3 _,by simp,by simp [Value.ownBlock],by simp⟩
structure RowA (W:World) (B:Nat) (wr:World) (pv:Value) (ps:List AP):Prop where
 own:wr.ownsRow W.heap.size 103 3 pv ps.length (acsV ps)
 tms:∀ p ∈ ps,Tms wr (.slice p.xA p.xn p.xc) p.a.x
 apart:∀ p ∈ ps,0 < p.xn → ∀ b,(Value.slice p.xA p.xn p.xc).ownBlock = some b → W.heap.size ≤ b ∧ pv.ownBlock ≠ some b ∧ b < wr.heap.size
 grown:W.grownBy wr (some B)
 lt:B < W.heap.size
theorem tms_lt {w:World} {A:Option Addr} {n c:Nat} {l:List Tm} (h:Tms w (.slice A n c) l) (h0:0 < n) {b:Nat} (hb:(Value.slice A n c).ownBlock = some b):b < w.heap.size:=by
 obtain ⟨m,hm,A',c',heq,hc,hl,hA⟩:=h
 cases heq
 obtain ⟨b',off,rfl,hlt,_⟩:=hA h0
 injection hb with hb
 subst hb
 exact hlt
section
variable {W wr w':World} {B:Nat} {pv:Value} {ps:List AP}
theorem tms_row {A:Option Addr} {n c:Nat} {l:List Tm} {ob:Option Nat} (h:Tms wr (.slice A n c) l) (hb:wr.grownBy w' ob) (hne:0 < n → ∀ b,(Value.slice A n c).ownBlock = some b → ob ≠ some b):Tms w' (.slice A n c) l:=by
 obtain ⟨m,hm,A',c',heq,hc,hl,hA⟩:=h
 cases heq
 refine ⟨_,hm,A,c,rfl,hc,hl,fun h0 => ?_⟩
 obtain ⟨b,off,rfl,hlt,hcell⟩:=hA h0
 refine ⟨b,off,rfl,Nat.lt_of_lt_of_le hlt hb.size,fun j u hj => ?_⟩
 have:=hb.block b hlt (fun e => hne h0 b rfl e.symm)
 rw [← hcell j u hj]
 simp [World.cell?,this]
theorem RowA.but (h:RowA W B wr pv ps) (hb:wr.grownBy w' (some B)):RowA W B w' pv ps :=
 ⟨own_but h.own hb h.lt,fun p hp => tms_row (h.tms p hp) hb (fun h0 b e he => by have h1:=(h.apart p hp h0 b e).1; have h2:=h.lt; injection he with he; omega),fun p hp h0 b e => ⟨(h.apart p hp h0 b e).1,(h.apart p hp h0 b e).2.1,Nat.lt_of_lt_of_le (h.apart p hp h0 b e).2.2 hb.size⟩,but_trans h.grown hb,h.lt⟩
theorem RowA.keep (h:RowA W B wr pv ps) (hb:Below wr.heap.size wr w'):RowA W B w' pv ps:=h.but (but_below hb)
theorem RowA.far (h:RowA W B wr pv ps):AcsFar W.heap.size wr pv (ps.map (·.a)):=⟨ps,rfl,by rw [List.length_map]; exact Rdk.own h.own,h.tms,fun b hb => (own_block_bd h.own b hb).1,fun p hp h0 b hb => (h.apart p hp h0 b hb).1⟩
theorem RowA.acs (h:RowA W B wr pv ps):Acs wr pv (ps.map (·.a)):=⟨ps,rfl,by rw [List.length_map]; exact Rdk.own h.own,h.tms⟩
theorem RowA.add {p:AP} {pv':Value} {o:Obj} (h:RowA W B wr pv ps) (ht:Tms wr (.slice p.xA p.xn p.xc) p.a.x)
 (hap:∀ b,(Value.slice p.xA p.xn p.xc).ownBlock = some b → W.heap.size ≤ b ∧ pv.ownBlock ≠ some b)
 (hrow:w'.ownsRow W.heap.size 103 3 pv' (ps.length + 1) (acsV ps ++ acsV [p])) (hg:(wr.alloc o).grownBy w' pv.ownBlock) (hob:pv'.ownBlock = pv.ownBlock ∨ pv'.ownBlock = some (wr.alloc o).heap.size) :
 RowA W B w' pv' (ps ++ [p]):=by
 have ha:Below wr.heap.size wr (wr.alloc o):=KitC.below_one wr o
 have hbd:=fun j hj => (own_block_bd h.own j hj).1
 have hall:∀ q ∈ ps ++ [p],Tms wr (.slice q.xA q.xn q.xc) q.a.x ∧ (0 < q.xn → ∀ b,(Value.slice q.xA q.xn q.xc).ownBlock = some b → W.heap.size ≤ b ∧ pv.ownBlock ≠ some b ∧ b < wr.heap.size):=fun q hq => by
  rcases List.mem_append.1 hq with hq | hq
  ·exact ⟨h.tms q hq,h.apart q hq⟩
  ·rw [List.mem_singleton] at hq
   subst hq
   exact ⟨ht,fun h0 b hb => ⟨(hap b hb).1,(hap b hb).2,tms_lt ht h0 hb⟩⟩
 refine ⟨by rw [← acsV_append,List.length_append]; exact hrow,fun q hq => tms_row ((hall q hq).1.keep ha) hg fun h0 b hb => ((hall q hq).2 h0 b hb).2.1,fun q hq h0 b hb => ?_,?_,h.lt⟩
 ·obtain ⟨h1,h2,h3⟩:=(hall q hq).2 h0 b hb
  refine ⟨h1,?_,Nat.lt_of_lt_of_le h3 (Nat.le_trans ha.size hg.size)⟩
  rcases hob with e | e
  ·rw [e]; exact h2
  ·rw [e,World.size_alloc]; intro e; injection e with e; omega
 ·have hgw:=h.grown
  refine ⟨hg.os.trans hgw.os,hg.tape.trans hgw.tape,hg.output.trans hgw.output,Nat.le_trans hgw.size (Nat.le_trans ha.size hg.size),fun i hi hn => ?_⟩
  have hi2:i < wr.heap.size:=Nat.lt_of_lt_of_le hi hgw.size
  refine (hg.block i (Nat.lt_of_lt_of_le hi2 ha.size) fun e => ?_).trans ((ha.block i hi2).trans (hgw.block i hi hn))
  have:=hbd i e.symm
  omega
theorem RowA.one {p:AP} (hg:W.grownBy wr (some B)) (hB:B < W.heap.size) (ht:Tms wr (.slice p.xA p.xn p.xc) p.a.x) (hap:∀ b,(Value.slice p.xA p.xn p.xc).ownBlock = some b → W.heap.size ≤ b) :
 RowA W B (wr.alloc (.cells #[.string p.a.s,.bool p.a.any,.slice p.xA p.xn p.xc] 103)) (.slice (some ⟨wr.heap.size,0,none⟩) 1 1) [p]:=by
 have ha:Below wr.heap.size wr (wr.alloc (.cells #[.string p.a.s,.bool p.a.any,.slice p.xA p.xn p.xc] 103)):=KitC.below_one wr _
 refine ⟨World.ownsRow_lit wr _ 1 hg.size (by decide) rfl,fun q hq => ?_,fun q hq h0 b hb => ?_,but_trans hg (but_below ha),hB⟩
 ·rw [List.mem_singleton] at hq
  subst hq
  exact ht.keep ha
 ·rw [List.mem_singleton] at hq
  subst hq
  have:=tms_lt ht h0 hb
  refine ⟨hap b hb,fun e => ?_,Nat.lt_of_lt_of_le this ha.size⟩
  injection e with e
  simp only at e
  omega
theorem acs_lit {p:AP} {k:Nat} (hk:k = wr.heap.size):Rdk 3 (wr.alloc (.cells #[.string p.a.s,.bool p.a.any,.slice p.xA p.xn p.xc] 103)) (.slice (some ⟨k,0,none⟩) 1 1) 1 (acsV [p]):=by
 subst hk
 exact Rdk.own (base:=0) (World.ownsRow_lit wr _ 1 (Nat.zero_le _) (by decide) rfl)
end
theorem row_cur {w x y:World} {o:Obj} {B:Nat} {c:Cur} {pv:Value} {n:Nat} {xs:List Value} (hc:CurAt x B c) (hs:SignsIn x) (hrow:(x.alloc o).ownsRow w.heap.size 103 3 pv n xs) (hB:B < w.heap.size) (hg:(x.alloc o).grownBy y pv.ownBlock):CurAt y B c ∧ SignsIn y:=by
 have h1:=hc.alloc o
 have h2:=hs.alloc o
 have hbd:=fun j hj => (own_block_bd hrow j hj).1
 refine ⟨?_,h2.of (hg.block _ h2.pos fun e => ?_)⟩
 ·obtain ⟨b,off,n,cp,h,hne,hn,hT⟩:=h1
  have hlt:=(Array.getElem?_eq_some_iff.1 h).1
  refine ⟨b,off,n,cp,(hg.block _ hlt fun e => by have:=hbd B e.symm; omega).trans h,hne,hn,?_⟩
  obtain ⟨m,hm,A,c',heq,hc',hl,hA⟩:=hT
  cases heq
  refine ⟨_,hm,_,cp,rfl,hc',hl,fun h0 => ?_⟩
  obtain ⟨b',off',h3,hlt',hcell⟩:=hA h0
  cases h3
  refine ⟨b,off,rfl,Nat.lt_of_lt_of_le hlt' hg.size,fun j u hj => ?_⟩
  have:=hg.block b hlt' fun e => by have:=hbd b e.symm; omega
  rw [← hcell j u hj]
  simp [World.cell?,this]
 ·have h3:=hbd _ e.symm
  obtain ⟨T,fr,h⟩:=h2
  rcases hrow.2 with ⟨h4,_⟩ | ⟨g,cap,cur,h4,_,h5,_,_,h6,_⟩
  ·rw [h4] at e; cases e
  ·rw [h4] at e
   injection e with e
   rw [← show 2 = g from e,h] at h5
   simp only [Option.some.injEq,Obj.cells.injEq] at h5
   have h7:=congrArg Array.size h5.1
   rw [show signsV.size = 55 by decide,h6] at h7
   omega
def RetActsF (W:World) (B:Nat) (p:Cur × List Ac) (e:Ending) (w':World):Prop:=∃ A n cp,e = .returned (.slice A n cp) ∧ CurAt w' B p.1 ∧ AcsFar W.heap.size w' (.slice A n cp) p.2 ∧ W.grownBy w' (some B)
def ReadRel (W:World) (B:Nat) (F:Cur × List Ac) (gh:Nat) (pv:Value) (wr:World):Prop :=
 ∃ (c:Cur) (ps:List AP),c.L.length ≤ gh ∧ Ok c ∧ CurAt wr B c ∧ SignsIn wr ∧ RowA W B wr pv ps ∧ Few9 c (ps.map (·.a)) ∧ tailR c (ps.map (·.a)) = F
set_option maxHeartbeats 8000000 in
theorem read_actsF (B:Nat) (c:Cur) (w:World) (hs:SignsIn w) (h:CurAt w B c) (ok:Ok c) :
 Calls Tryz.prog 138 #[.pointer (some ⟨B,0,none⟩)] w (RetActsF w B (readA c)):=by
 have hB:=h.lt
 obtain ⟨i0,hi,hz0,hz1,hz2⟩:=info_parts inf_act
 have HI:=Lib.hid (And.intro hi (And.intro hz0 (And.intro hz1 hz2)))
 have H1:=Lib.hid (readOne_at B c w hs h ok)
 have HSW:=Lib.hid (And.intro hs h)
 obtain ⟨F,hF⟩:∃ F,F = allR c []:=⟨_,rfl⟩
 have HR:Hid (readA c = if F.1.bad = 0 then F else (F.1,[])):=Lib.hid (by rw [hF]; rfl)
 have HST:Hid (tailR (oneR c).1 [(oneR c).2] = F):=Lib.hid (by rw [hF,allR_step]; rfl)
 have HOK1:=Lib.hid (oneR_ok ok)
 have HBB:=Lib.hid hB
 obtain ⟨R,hR⟩:∃ R,R = readA c:=⟨_,rfl⟩
 rw [← hR] at HR ⊢
 obtain ⟨⟨c1,a1⟩,h1⟩:∃ p,p = oneR c:=⟨_,rfl⟩
 rw [← h1] at H1 HST HOK1
 clear hi hz0 hz1 hz2 hs h ok hF hR h1
 go_enter Tryz.func138,Tryz.ntmps138
 go_wp2_with (go_at_call 166; (with_reducible refine H1.out.mono ?_))
 rintro e w1 ⟨xA,xn,xc,rfl,hc1,ht1,hb1,hg1⟩
 have HST1:Hid (ReadRel w B F c1.L.length (.slice (some ⟨w1.heap.size,0,none⟩) 1 1) (w1.alloc (.cells #[.string a1.s,.bool a1.any,.slice xA xn xc] 103))):=Lib.hid
  ⟨c1,[⟨a1,xA,xn,xc⟩],Nat.le_refl _,HOK1.out,hc1.alloc _,(signs_but HSW.out.1 HSW.out.2 hg1).alloc _,RowA.one (p:=⟨a1,xA,xn,xc⟩) hg1 hB ht1 (fun b hb => by have:=hb1 b hb; omega),⟨by simp,fun h => by simp at h⟩,HST.out⟩
 clear hc1 ht1 hb1 hg1
 go_wp2_with fail
 go_loopg [3] (c1.L.length) (fun gh pv wr => ReadRel w B F gh pv wr)
 case atStart => exact HST1.out
 case round =>
  obtain ⟨d,ps,hgh,hok,hcur,hsg,hrow,hfew,htail⟩:=hrel
  have HGH:=Lib.hid hgh
  have HOK:=Lib.hid hok
  have HSG:=Lib.hid hsg
  have HROW:=Lib.hid hrow
  have HFEW:=Lib.hid hfew
  have HTAIL:=Lib.hid htail
  have HTK:=Lib.hid (take_at B d 3 wCom wr hcur)
  have HCUR:=Lib.hid hcur
  obtain ⟨pA,pc,rfl⟩:=own_shape hrow.own
  obtain ⟨n,hn⟩:∃ n,n = ps.length:=⟨_,rfl⟩
  rw [← hn]
  have HN:=Lib.hid hn
  by_cases hb:isB d 3 wCom = true
  ·have h0:=(isB_real hb (by decide))
   have HF1:=Lib.hid (few9_step hfew hb)
   have h8:ps.length ≤ 8:=by
    have h1:=hfew.1
    have h2:=hfew.2
    rw [List.length_map] at h1 h2
    rcases Nat.lt_or_ge ps.length 9 with h' | h'
    ·omega
    ·exact absurd h0.1 (h2 (by omega))
   have HLE:=Lib.hid (stepR_le (on d) (ps.map (·.a))).1
   have HLL:=Lib.hid h0.2.1
   have HOK2:=Lib.hid (stepR_ok (ps.map (·.a)) hok.on)
   have HT1:=Lib.hid (tailR_yes (out:=ps.map (·.a)) hb)
   have HNB:=Lib.hid (tailR_yes (out:=ps.map (·.a)) hb)
   rw [hb,show take d 3 wCom = on d by unfold take; rw [if_pos hb]] at HTK
   have HD:Hid ((stepR (on d) (ps.map (·.a))) = ((oneR (fullR (on d) (ps.map (·.a)))).1,ps.map (·.a) ++ [(oneR (fullR (on d) (ps.map (·.a)))).2])):=Lib.hid rfl
   have HOKD:=Lib.hid (fullR_ok (ps.map (·.a)) hok.on)
   have HFU:Hid (fullR (on d) (ps.map (·.a)) = if n = 8 then fail (on d) 8 else on d):=Lib.hid (by unfold fullR; rw [List.length_map,hn])
   obtain ⟨D,hD⟩:∃ D,D = fullR (on d) (ps.map (·.a)):=⟨_,rfl⟩
   rw [← hD] at HD HOKD HFU
   have HONE:=Lib.hid (fun W hs hc => readOne_at B D W hs hc HOKD.out)
   obtain ⟨⟨c2,a2⟩,h2⟩:∃ q,q = oneR D:=⟨_,rfl⟩
   rw [← h2] at HD HONE
   rw [HD.out] at HF1 HLE HOK2 HT1
   have HL1:Hid (n + 1 ≤ maxLen):=Lib.hid (by unfold maxLen; omega)
   have HL2:Hid ((n + 1) * 48 ≤ 140737488355328):=Lib.hid (by omega)
   clear hgh hok hfew htail hb h0 h2 hD HNB
   by_cases h8e:n = 8
   ·have g1:((n:Int) == 8) = true:=by simp; omega
    have g1':(n == 8) = true:=by simp; omega
    have HFD:Hid (D = fail (on d) 8):=Lib.hid (by rw [HFU.out,if_pos h8e])
    clear h8e h8 hn hrow hcur hsg
    go_wp2_with (go_at_call 52; (with_reducible refine HTK.out.mono ?_))
    rintro e x2 ⟨rfl,hc2,hg2⟩
    have HRW0:=Lib.hid (HROW.out.but hg2)
    have HS2:=Lib.hid (signs_but HSG.out HCUR.out hg2)
    have HFL:=Lib.hid (fail_at B (on d) 8 x2 hc2)
    have HC2:=Lib.hid hc2
    clear hc2 hg2
    go_wp2_with (go_at_call 53; (with_reducible refine HFL.out.mono ?_))
    rintro e x3 ⟨rfl,hc3,hg3⟩
    rw [← HFD.out] at hc3
    have HCD:=Lib.hid hc3
    have HSD:=Lib.hid (signs_but HS2.out HC2.out hg3)
    have HRW:=Lib.hid (HRW0.out.but hg3)
    clear hc3 hg3
    go_wp2_with (go_at_call 166; (with_reducible refine (HONE.out _ HSD.out HCD.out).mono ?_))
    rintro e x4 ⟨xA,xn,xc,rfl,hc4,ht4,hb4,hg4⟩
    have hrow4:=HRW.out.but hg4
    have hbd4:=fun j hj => (own_block_bd HRW.out.own j hj).2
    have HADD:=Lib.hid (fun (pv':Value) (w':World) hrow hg hob => hrow4.add (w':=w') (p:=⟨a2,xA,xn,xc⟩) (pv':=pv') (o:=.cells #[.string a2.s,.bool a2.any,.slice xA xn xc] 103) ht4 (fun b hb => ⟨by have:=hb4 b hb; have:=HRW.out.grown.size; have:=HBB.out; omega,fun e => by have:=hbd4 b e; have:=hb4 b hb; omega⟩) hrow hg hob)
    have HROW4:=Lib.hid (own_keep hrow4.own (KitC.below_one x4 (.cells #[.string a2.s,.bool a2.any,.slice xA xn xc] 103)))
    have HLIT:=Lib.hid (acs_lit (wr:=x4) (p:=⟨a2,xA,xn,xc⟩) rfl)
    have HSZ4:=Lib.hid hrow4.grown.size
    have HC4:=Lib.hid (And.intro hc4 (signs_but HSD.out HCD.out hg4))
    rw [← HN.out] at HROW4
    clear hc4 ht4 hb4 hg4 hrow4 hbd4
    go_wp2_with (at_builtin; refine wpList_append_rdk _ rfl (.tmp 14) (.tmp 17) _ rfl w.heap.size 103 i0 (.agg #[.string ByteArray.empty,.bool false,.slice none 0 0]) 3 48 Tryz.underlying55 HI.out.1 HI.out.2.1 HI.out.2.2.1 HI.out.2.2.2 rfl (by decide) _ _ _ rfl HROW4.out _ 1 (acsV [⟨a2,xA,xn,xc⟩]) rfl HLIT.out (acsV_one _) HL1.out HL2.out ?_ ?_; (have:=HSZ4.out; simp; omega); intro p2 w2 hrow2 hg2 hob2; have HE:Hid (w2.ownsRow w.heap.size 103 3 p2 (n + 1) (acsV ps ++ acsV [⟨a2,xA,xn,xc⟩]) ∧ (x4.alloc (.cells #[.string a2.s,.bool a2.any,.slice xA xn xc] 103)).grownBy w2 (Value.slice pA n pc).ownBlock ∧ (p2.ownBlock = (Value.slice pA n pc).ownBlock ∨ p2.ownBlock = some (x4.alloc (.cells #[.string a2.s,.bool a2.any,.slice xA xn xc] 103)).heap.size)):=Lib.hid ⟨hrow2,hg2,hob2⟩; clear hrow2 hg2 hob2)
    have hrow5:=HE.out
    rw [HN.out] at hrow5
    have HR5:=Lib.hid (HADD.out _ _ hrow5.1 hrow5.2.1 hrow5.2.2)
    have HC5:Hid (CurAt w2 B c2 ∧ SignsIn w2):=Lib.hid (row_cur HC4.out.1 HC4.out.2 HROW4.out HBB.out HE.out.2.1)
    clear hrow5
    go_roundg (c2.L.length)
    case measure => have h1:=HLE.out; have h2:=HLL.out; have h3:=HGH.out; omega
    case rel => exact ⟨c2,ps ++ [⟨a2,xA,xn,xc⟩],Nat.le_refl _,HOK2.out,HC5.out.1,HC5.out.2,HR5.out,by rw [List.map_append]; exact HF1.out,by rw [← HTAIL.out,HT1.out,List.map_append]; rfl⟩
   ·have g1:((n:Int) == 8) = false:=by simp; omega
    have g1':(n == 8) = false:=by simp; omega
    have HFD:Hid (D = on d):=Lib.hid (by rw [HFU.out,if_neg h8e])
    clear h8e h8 hn hrow hcur hsg
    go_wp2_with (go_at_call 52; (with_reducible refine HTK.out.mono ?_))
    rintro e x3 ⟨rfl,hc3,hg3⟩
    rw [← HFD.out] at hc3
    have HCD:=Lib.hid hc3
    have HSD:=Lib.hid (signs_but HSG.out HCUR.out hg3)
    have HRW:=Lib.hid (HROW.out.but hg3)
    clear hc3 hg3
    go_wp2_with (go_at_call 166; (with_reducible refine (HONE.out _ HSD.out HCD.out).mono ?_))
    rintro e x4 ⟨xA,xn,xc,rfl,hc4,ht4,hb4,hg4⟩
    have hrow4:=HRW.out.but hg4
    have hbd4:=fun j hj => (own_block_bd HRW.out.own j hj).2
    have HADD:=Lib.hid (fun (pv':Value) (w':World) hrow hg hob => hrow4.add (w':=w') (p:=⟨a2,xA,xn,xc⟩) (pv':=pv') (o:=.cells #[.string a2.s,.bool a2.any,.slice xA xn xc] 103) ht4 (fun b hb => ⟨by have:=hb4 b hb; have:=HRW.out.grown.size; have:=HBB.out; omega,fun e => by have:=hbd4 b e; have:=hb4 b hb; omega⟩) hrow hg hob)
    have HROW4:=Lib.hid (own_keep hrow4.own (KitC.below_one x4 (.cells #[.string a2.s,.bool a2.any,.slice xA xn xc] 103)))
    have HLIT:=Lib.hid (acs_lit (wr:=x4) (p:=⟨a2,xA,xn,xc⟩) rfl)
    have HSZ4:=Lib.hid hrow4.grown.size
    have HC4:=Lib.hid (And.intro hc4 (signs_but HSD.out HCD.out hg4))
    rw [← HN.out] at HROW4
    clear hc4 ht4 hb4 hg4 hrow4 hbd4
    go_wp2_with (at_builtin; refine wpList_append_rdk _ rfl (.tmp 14) (.tmp 17) _ rfl w.heap.size 103 i0 (.agg #[.string ByteArray.empty,.bool false,.slice none 0 0]) 3 48 Tryz.underlying55 HI.out.1 HI.out.2.1 HI.out.2.2.1 HI.out.2.2.2 rfl (by decide) _ _ _ rfl HROW4.out _ 1 (acsV [⟨a2,xA,xn,xc⟩]) rfl HLIT.out (acsV_one _) HL1.out HL2.out ?_ ?_; (have:=HSZ4.out; simp; omega); intro p2 w2 hrow2 hg2 hob2; have HE:Hid (w2.ownsRow w.heap.size 103 3 p2 (n + 1) (acsV ps ++ acsV [⟨a2,xA,xn,xc⟩]) ∧ (x4.alloc (.cells #[.string a2.s,.bool a2.any,.slice xA xn xc] 103)).grownBy w2 (Value.slice pA n pc).ownBlock ∧ (p2.ownBlock = (Value.slice pA n pc).ownBlock ∨ p2.ownBlock = some (x4.alloc (.cells #[.string a2.s,.bool a2.any,.slice xA xn xc] 103)).heap.size)):=Lib.hid ⟨hrow2,hg2,hob2⟩; clear hrow2 hg2 hob2)
    have hrow5:=HE.out
    rw [HN.out] at hrow5
    have HR5:=Lib.hid (HADD.out _ _ hrow5.1 hrow5.2.1 hrow5.2.2)
    have HC5:Hid (CurAt w2 B c2 ∧ SignsIn w2):=Lib.hid (row_cur HC4.out.1 HC4.out.2 HROW4.out HBB.out HE.out.2.1)
    clear hrow5
    go_roundg (c2.L.length)
    case measure => have h1:=HLE.out; have h2:=HLL.out; have h3:=HGH.out; omega
    case rel => exact ⟨c2,ps ++ [⟨a2,xA,xn,xc⟩],Nat.le_refl _,HOK2.out,HC5.out.1,HC5.out.2,HR5.out,by rw [List.map_append]; exact HF1.out,by rw [← HTAIL.out,HT1.out,List.map_append]; rfl⟩
  ·have HT1:Hid (F = (d,ps.map (·.a))):=Lib.hid (by rw [← htail,tailR_no hb])
   have hb':isB d 3 wCom = false:=by simpa using hb
   rw [hb',show take d 3 wCom = d by unfold take; rw [if_neg hb]] at HTK
   clear hgh hok hfew htail hb hb' hn
   go_wp2_with (go_at_call 52; (with_reducible refine HTK.out.mono ?_))
   rintro e x2 ⟨rfl,hc2,hg2⟩
   have HRW:=Lib.hid (HROW.out.but hg2)
   have HC2:=Lib.hid hc2
   have hgood:=fun b hb => good_any _ _ _ _ x2 (Fl.of hc2) (b:=b) hb
   have HGOOD:=Lib.hid hgood
   clear hc2 hg2 hgood hrow hcur hsg
   by_cases hd0:d.bad = 0
   ·have HG:=Lib.hid (HGOOD.out true (by simpa using hd0))
    have HR2:Hid (R = (d,ps.map (·.a))):=Lib.hid (by rw [HR.out,HT1.out,if_pos hd0])
    clear hd0
    go_wp2_with (go_at_call 51; (with_reducible refine HG.out.mono ?_))
    rintro e x3 ⟨rfl,hb3⟩
    have HE:=Lib.hid (And.intro (HC2.out.keep hb3) (HRW.out.keep hb3))
    clear hb3
    go_wp2_with fail
    go_ret
    exact ⟨_,_,_,rfl,by rw [HR2.out]; exact HE.out.1,by rw [HR2.out,HN.out]; exact HE.out.2.far,HE.out.2.grown⟩
   ·have HG:=Lib.hid (HGOOD.out false (by simpa using hd0))
    have HR2:Hid (R = (d,[])):=Lib.hid (by rw [HR.out,HT1.out,if_neg hd0])
    clear hd0
    go_wp2_with (go_at_call 51; (with_reducible refine HG.out.mono ?_))
    rintro e x3 ⟨rfl,hb3⟩
    have HE:=Lib.hid (And.intro (HC2.out.keep hb3) (HRW.out.keep hb3))
    clear hb3
    go_wp2_with fail
    go_ret
    exact ⟨none,0,0,rfl,by rw [HR2.out]; exact HE.out.1,by rw [HR2.out]; exact AcsFar.nil _ _,HE.out.2.grown⟩
end Go.Proofs.YtjfghaohogcfbaaGreatDoor