/- PrintLongW, PrintAwake, joined. -/
import Derived.Test.YtcofikjpplkjdaaGreatDoorMPrintLong36
import Derived.Test.YtcofikjpplkjdaaGreatDoorMPrintLong37
namespace Go.Proofs.YtcofikjpplkjdaaGreatDoor
open Go.RowKit Go.Sort TermSpec EvalSpec ActSpec NamesSpec ExprSpec TransSpec SynSpec PrintSpec
set_option maxRecDepth 100000
theorem sb_top (s:ByteArray) (a b:Int) (w:World):(Instr.build 42 #[(0,.string s),(1,.int .i64 a),(2,.int .i64 b)]).run Tryz.prog w = .ok (.agg #[.string s,.int .i64 a,.int .i64 b,.slice none 0 0,.slice none 0 0,.slice none 0 0]) w:=run_build w 42 _ _ (by kernel_rfl)
theorem sb_leaf (s:ByteArray) (a:Int) (w:World):(Instr.build 42 #[(0,.string s),(1,.int .i64 a)]).run Tryz.prog w = .ok (.agg #[.string s,.int .i64 a,.int .i64 0,.slice none 0 0,.slice none 0 0,.slice none 0 0]) w:=run_build w 42 _ _ (by kernel_rfl)
theorem cb_long (s:ByteArray) (A:Option Addr) (n c:Nat) (w:World):(Instr.build 26 #[(0,.string s),(3,.slice A n c)]).run Tryz.prog w = .ok (.agg #[.string s,.slice none 0 0,.slice none 0 0,.slice A n c]) w:=run_build w 26 _ _ (by kernel_rfl)
structure L1 (W:World) (S:Nat) (j:Nat) (pv:Value) (ps:List TP) (wr:World):Prop where
 row:RowB 49 4 tpV tpN W S wr pv ps
 st:wr.heap[S]? = some (stO ⟨#[97]⟩ 1 0 (.slice none 0 0) (.slice none 0 0) pv)
 ts:ps.map (·.t) = List.replicate j ttG.tr
abbrev lgT:Obj:=.cells #[.int .i64 9,.int .i64 0,.string ⟨#[]⟩] 44
abbrev lgA:Obj:=.cells #[.string ⟨#[120]⟩,.bool true,.slice none 0 0] 47
def lgP (x:Nat):TP:=⟨ttG.tr,some ⟨x,0,none⟩,1,1,some ⟨x + 1,0,none⟩,1,1⟩
theorem lg_nest {W wr:World} {S:Nat} {pv:Value} {ps:List TP} (h:RowB 49 4 tpV tpN W S wr pv ps):Dep ((wr.alloc lgT).alloc lgA) (fun b => W.heap.size ≤ b ∧ pv.ownBlock ≠ some b) (tpN (lgP wr.heap.size)):=by
 refine tr_fresh h (t:=ttG.tr) ?_ ?_ ?_
 ·exact (tms_lit (w:=wr) (l:=[⟨9,0,⟨#[]⟩⟩]) rfl rfl rfl).keep (KitC.below_one _ _)
 ·intro b hb
  cases hb
  exact Nat.le_refl _
 ·refine ⟨[⟨⟨⟨#[120]⟩,true,[]⟩,none,0,0⟩],rfl,acs_lit (wr:=wr.alloc lgT) (p:=⟨⟨⟨#[120]⟩,true,[]⟩,none,0,0⟩) (by simp),?_,?_,?_⟩
  ·intro p hp
   rw [List.mem_singleton.1 hp]
   exact tmsNil _
  ·intro b hb
   cases hb
   exact Nat.le_succ _
  ·intro p hp h0
   rw [List.mem_singleton.1 hp] at h0
   exact absurd h0 (by decide)
theorem l1_next {W wr w':World} {S j:Nat} {pv v':Value} {ps:List TP} (h:L1 W S j pv ps wr) (hr:w'.ownsRow W.heap.size 49 4 v' (ps.length + 1) (ps.flatMap tpV ++ tpV (lgP wr.heap.size)))
 (hgw:(((wr.alloc lgT).alloc lgA).alloc (.cells (tpV (lgP wr.heap.size)).toArray 49)).grownBy w' pv.ownBlock) (hob:v'.ownBlock = pv.ownBlock ∨ v'.ownBlock = some (((wr.alloc lgT).alloc lgA).alloc (.cells (tpV (lgP wr.heap.size)).toArray 49)).heap.size) :
 w'.heap[S]? = some (stO ⟨#[97]⟩ 1 0 (.slice none 0 0) (.slice none 0 0) pv) ∧ L1 W S (j + 1) v' (ps ++ [lgP wr.heap.size]) (w'.setCell ⟨S,5,none⟩ v'):=by
 have hS:=h.row.lt
 have hb2:Below wr.heap.size wr ((wr.alloc lgT).alloc lgA):=KitC.below_pair _ _ _
 have hb3:Below wr.heap.size wr (((wr.alloc lgT).alloc lgA).alloc (.cells (tpV (lgP wr.heap.size)).toArray 49)):=below_two' hb2 (KitC.below_one _ _)
 have hSl:S < wr.heap.size:=Nat.lt_of_lt_of_le hS h.row.grown.size
 have h1:w'.heap[S]? = some (stO ⟨#[97]⟩ 1 0 (.slice none 0 0) (.slice none 0 0) pv):=by
  rw [hgw.block S (Nat.lt_of_lt_of_le hSl hb3.size) fun e => by have:=(own_block_bd h.row.own S e.symm).1; omega]
  rw [hb3.block S hSl]
  exact h.st
 refine ⟨h1,⟨?_,?_,?_⟩⟩
 ·exact ((h.row.keep hb2).add (lg_nest h.row) hr hgw hob).but (but_set (but_refl _ _) _ _)
 ·exact block_setCell' h1 5 v'
 ·rw [List.map_append,h.ts]
  exact (List.replicate_succ' ..).symm
def L1Rel (W:World) (S k:Nat) (i:Value) (wr:World):Prop:=∃ (j:Nat) (pv:Value) (ps:List TP),j ≤ k ∧ i = .int .i64 j ∧ L1 W S j pv ps wr
theorem own_apart {w w2:World} {base n k:Nat} {e:TypeId} {v:Value} {xs:List Value} (h:w.ownsRow base e k v n xs) (hx:∀ g,v.ownBlock = some g → w2.heap[g]? = w.heap[g]?):w2.ownsRow base e k v n xs:=by
 refine ⟨h.1,?_⟩
 rcases h.2 with h1 | ⟨g,cap,cur,h1,h2,h3,h4⟩
 ·exact .inl h1
 ·exact .inr ⟨g,cap,cur,h1,h2,(hx g (by rw [h1]; rfl)).trans h3,h4⟩
def topP:SP:=⟨topG.sx,none,0,0,none,0,0,none,0,0⟩
def leafP (k:Nat) (A:Option Addr) (n c:Nat):SP:=⟨⟨⟨#[97]⟩,1,0,[],[],List.replicate k ttG.tr⟩,none,0,0,none,0,0,A,n,c⟩
structure L2 (w W3 X:World) (p:SP) (C S j:Nat) (pv:Value) (o:Obj) (wr:World):Prop where
 own:wr.ownsRow w.heap.size 42 6 pv (j + 1) ((topP :: List.replicate j p).flatMap spV)
 apart:∀ b,pv.ownBlock = some b → b = w.heap.size ∨ X.heap.size ≤ b
 ch:wr.heap[C]? = some (chO ⟨#[99]⟩ (.slice none 0 0) (.slice none 0 0) pv)
 st:wr.heap[S]? = some o
 old:∀ b,W3.heap.size ≤ b → b < X.heap.size → wr.heap[b]? = X.heap[b]?
 size:X.heap.size ≤ wr.heap.size
 below:Below w.heap.size w wr
theorem l2_next {w W3 X wr w':World} {p:SP} {C S j:Nat} {pv v':Value} {o:Obj} (h:L2 w W3 X p C S j pv o wr) (hC:C = w.heap.size + 1) (hS:S = w.heap.size + 1 + 1) (h3:W3.heap.size = w.heap.size + 1 + 1 + 1) (hX:W3.heap.size ≤ X.heap.size)
 (hr:w'.ownsRow w.heap.size 42 6 v' (j + 1 + 1) ((topP :: List.replicate j p).flatMap spV ++ spV p))
 (hg:(wr.alloc (.cells (spV p).toArray 42)).grownBy w' pv.ownBlock) (hob:v'.ownBlock = pv.ownBlock ∨ v'.ownBlock = some (wr.alloc (.cells (spV p).toArray 42)).heap.size) :
 w'.heap[C]? = some (chO ⟨#[99]⟩ (.slice none 0 0) (.slice none 0 0) pv) ∧ L2 w W3 X p C S (j + 1) v' o (w'.setCell ⟨C,3,none⟩ v'):=by
 have hb:=KitC.below_one wr (.cells (spV p).toArray 42)
 have hz:=h.size
 have hkeep:∀ b,b < wr.heap.size → b ≠ w.heap.size → b < X.heap.size → w'.heap[b]? = wr.heap[b]?:=fun b h1 h2 h4 => by
  rw [hg.block b (Nat.lt_of_lt_of_le h1 hb.size) fun e => by rcases h.apart b e.symm with e | e <;> omega]
  exact hb.block b h1
 have h1:w'.heap[C]? = some (chO ⟨#[99]⟩ (.slice none 0 0) (.slice none 0 0) pv):=(hkeep C (by omega) (by omega) (by omega)).trans h.ch
 have hap:∀ b,v'.ownBlock = some b → b = w.heap.size ∨ X.heap.size ≤ b:=fun b hbv => by
  rcases hob with e | e
  ·exact h.apart b (e.symm.trans hbv)
  ·rw [e] at hbv
   injection hbv with hbv
   have:=hb.size
   omega
 refine ⟨h1,⟨?_,hap,block_setCell' h1 3 v',?_,?_,?_,?_⟩⟩
 ·have e1:(topP :: List.replicate (j + 1) p).flatMap spV = (topP :: List.replicate j p).flatMap spV ++ spV p:=by
   rw [List.replicate_succ',← List.cons_append,List.flatMap_append]
   simp
  rw [e1]
  exact own_apart hr fun g hgv => Below.heap_setCell _ _ _ _ (by have:=hap g hgv; simp only; omega)
 ·rw [Below.heap_setCell _ _ _ _ (by simp only; omega)]
  exact (hkeep S (by omega) (by omega) (by omega)).trans h.st
 ·intro b h4 h5
  rw [Below.heap_setCell _ _ _ _ (by simp only; omega),hkeep b (by omega) (by omega) h5]
  exact h.old b h4 h5
 ·have k1:=hb.size
  have k2:=hg.size
  have k3:=(but_set (but_refl w' (some C)) 3 v').size
  omega
 ·have k1:=below_two' h.below hb
  have k2:=k1.grown hg k1.size fun q hq => by rcases h.apart q hq with e | e <;> omega
  exact k2.grown (but_set (but_refl w' _) 3 v':w'.grownBy _ (some C)) k2.size fun q hq => by injection hq with hq; omega
abbrev topO:Obj:=stO ⟨#[116,111,112]⟩ 2 (-1) (.slice none 0 0) (.slice none 0 0) (.slice none 0 0)
abbrev leafO:Obj:=stO ⟨#[97]⟩ 1 0 (.slice none 0 0) (.slice none 0 0) (.slice none 0 0)
abbrev longO (b:Nat):Obj:=chO ⟨#[99]⟩ (.slice none 0 0) (.slice none 0 0) (.slice (some ⟨b,0,none⟩) 1 1)
theorem l2_start {w W3 X:World} {p:SP} {S:Nat} {o:Obj} (hW3:((w.alloc topO).alloc (longO w.heap.size)).alloc leafO = W3) (hg:W3.grownBy X (some S)) (hS:S = w.heap.size + 1 + 1) (hst:X.heap[S]? = some o) :
 L2 w W3 X p (w.heap.size + 1) S 0 (.slice (some ⟨w.heap.size,0,none⟩) 1 1) o X:=by
 have hz1:(w.alloc topO).heap.size = w.heap.size + 1:=World.size_alloc _ _
 have hz2:((w.alloc topO).alloc (longO w.heap.size)).heap.size = w.heap.size + 1 + 1:=by rw [World.size_alloc,hz1]
 have hz3:W3.heap.size = w.heap.size + 1 + 1 + 1:=by rw [← hW3,World.size_alloc,hz2]
 have hb1:Below w.heap.size w (w.alloc topO):=KitC.below_one _ _
 have hb2:Below (w.alloc topO).heap.size (w.alloc topO) ((w.alloc topO).alloc (longO w.heap.size)):=KitC.below_one _ _
 have hb3:Below ((w.alloc topO).alloc (longO w.heap.size)).heap.size ((w.alloc topO).alloc (longO w.heap.size)) W3:=by rw [← hW3]; exact KitC.below_one _ _
 have hb23:=below_two' hb2 hb3
 have hb:=below_two' hb1 hb23
 have hkeep:∀ b,b < W3.heap.size → b ≠ S → X.heap[b]? = W3.heap[b]?:=fun b h1 h2 => hg.block b h1 fun e => by injection e with e; exact h2 e
 have hown:W3.ownsRow w.heap.size 42 6 (.slice (some ⟨w.heap.size,0,none⟩) 1 1) 1 (spV topP) :=
  own_keep (World.ownsRow_lit (base:=w.heap.size) (e:=42) (size:=6) w (spV topP).toArray 1 (Nat.le_refl _) (by decide) rfl) hb23
 have hch:W3.heap[w.heap.size + 1]? = some (longO w.heap.size):=by
  rw [hb3.block (w.heap.size + 1) (by omega),← hz1]
  exact heap_alloc_new _ _
 refine ⟨?_,?_,?_,hst,fun _ _ _ => rfl,Nat.le_refl _,?_⟩
 ·refine own_apart (w:=W3) (by simpa using hown) fun g hgv => ?_
  injection hgv with hgv
  simp only at hgv
  exact hkeep g (by omega) (by omega)
 ·intro b hbv
  injection hbv with hbv
  exact .inl hbv.symm
 ·rw [hkeep _ (by omega) (by omega)]
  exact hch
 ·exact hb.grown hg hb.size fun q hq => by injection hq with hq; omega
theorem l2_read {w W3 X wr:World} {C S n k:Nat} {pv:Value} {o:Obj} {A5:Option Addr} {n5 c5:Nat} (h:L2 w W3 X (leafP k A5 n5 c5) C S n pv o wr) (hd:Dep X (fun b => W3.heap.size ≤ b) (fun x => Trs x (.slice A5 n5 c5) (List.replicate k ttG.tr))) (_hX:W3.heap.size ≤ X.heap.size) :
 StsP wr pv (tcG n k).cx.sts:=by
 have ht:Trs wr (.slice A5 n5 c5) (List.replicate k ttG.tr):=hd wr h.size fun b hlt hS => h.old b hS hlt
 have hz:∀ x,Acs x (.slice none 0 0) []:=fun x => acs_nil x
 refine ⟨topP :: List.replicate n (leafP k A5 n5 c5),?_,?_,?_⟩
 ·simp [tcG,Tc.cx,topP,leafP,Ts.sx,tsG]
 ·have:=Rdk.own h.own
  rwa [List.length_cons,List.length_replicate]
 ·intro p hp
  rcases List.mem_cons.1 hp with rfl | hp
  ·exact ⟨hz _,hz _,⟨[],rfl,Rdk.nil 4 _,by simp⟩⟩
  ·rw [List.eq_of_mem_replicate hp]
   exact ⟨hz _,hz _,ht⟩
def L2Rel (w W3 X:World) (p:SP) (C S n:Nat) (o:Obj) (i:Value) (wr:World):Prop:=∃ (j:Nat) (pv:Value),j ≤ n ∧ i = .int .i64 j ∧ L2 w W3 X p C S j pv o wr
theorem tcG_few {n k:Nat} (hn:n < 60) (hk:k ≤ 16):FewC (tcG n k).cx:=by
 have h1:FewT ttG.tr:=⟨by decide,by decide,fun a ha => by
  rw [List.mem_singleton.1 ha]
  decide⟩
 refine ⟨Nat.zero_le _,Nat.zero_le _,?_,fun s hs => ?_⟩
 ·show (List.map Ts.sx (topG :: List.replicate n (tsG k))).length ≤ _
  simp
  omega
 ·obtain ⟨t,ht,rfl⟩:=List.mem_map.1 hs
  rcases List.mem_cons.1 ht with rfl | ht
  ·exact ⟨Nat.zero_le _,(fun a ha => by cases ha),Nat.zero_le _,(fun a ha => by cases ha),Nat.zero_le _,(fun a ha => by cases ha)⟩
  ·rw [List.eq_of_mem_replicate ht]
   refine ⟨Nat.zero_le _,(fun a ha => by cases ha),Nat.zero_le _,(fun a ha => by cases ha),?_,fun a ha => ?_⟩
   ·show (List.map Tt.tr (List.replicate k ttG)).length ≤ _
    simp
    omega
   ·obtain ⟨u,hu,rfl⟩:=List.mem_map.1 ha
    rw [List.eq_of_mem_replicate hu]
    exact h1
set_option maxRecDepth 100000 in
set_option maxHeartbeats 8000000 in
theorem plong_any (a b:Nat) (ha:a ≤ 255) (hb:b ≤ 255) (w:World) (hp:PairsIn w) (hg:SignsIn w)
 (haw:∀ W,Below w.heap.size w W → Calls Tryz.prog 6 #[] W (RetB W true))
 (hok:∀ (c:Tc) (eA:Option Addr) (en ec:Nat) (vA:Option Addr) (vn vc:Nat) (sA:Option Addr) (sn sc:Nat) (W:World),Below w.heap.size w W → ChIn W (.slice eA en ec) (.slice vA vn vc) (.slice sA sn sc) c.cx → c.Ok → (putC c).length ≤ 65536 → (chK c).length ≤ 4000 → Calls Tryz.prog 7 #[.agg #[.string c.s,.slice eA en ec,.slice vA vn vc,.slice sA sn sc]] W (RetPP W (bs (putC c)) 0))
 (hlong:∀ (c:Tc) (eA:Option Addr) (en ec:Nat) (vA:Option Addr) (vn vc:Nat) (sA:Option Addr) (sn sc:Nat) (W:World),Below w.heap.size w W → ChIn W (.slice eA en ec) (.slice vA vn vc) (.slice sA sn sc) c.cx → c.Ok → 4000 < (chK c).length → Calls Tryz.prog 7 #[.agg #[.string c.s,.slice eA en ec,.slice vA vn vc,.slice sA sn sc]] W (RetPP W ⟨#[]⟩ 5)) :
 Calls Tryz.prog 4 #[.int .u8 a,.int .u8 b] w fun e w' => e = .returned (.bool true) ∧ Below w.heap.size w w':=by
 have HAW:=Lib.hid haw
 have HOK:=Lib.hid hok
 have HLG:=Lib.hid hlong
 have HPG:=Lib.hid (And.intro hp hg)
 clear haw hok hlong hp hg
 have b1:=sb_top
 have b2:=sb_leaf
 have b3:=cb_long
 have b4:=tb_one''
 have b5:=rb_any
 have b6:=tb_full
 obtain ⟨i0,hi,hz0,hz1,hz2⟩:=info_parts inf_trans
 have HI:=Lib.hid (And.intro hi (And.intro hz0 (And.intro hz1 hz2)))
 clear hi hz0 hz1 hz2
 obtain ⟨i1,hi,hz0,hz1,hz2⟩:=info_parts inf_state
 have HI1:=Lib.hid (And.intro hi (And.intro hz0 (And.intro hz1 hz2)))
 clear hi hz0 hz1 hz2
 obtain ⟨n,hn⟩:∃ n:Nat,n = a % 60:=⟨_,rfl⟩
 obtain ⟨k,hk⟩:∃ k:Nat,k = b % 17:=⟨_,rfl⟩
 have hn':(a:Int) % 60 = n:=by omega
 have hk':(b:Int) % 17 = k:=by omega
 have hn60:n < 60:=by omega
 have hk16:k ≤ 16:=by omega
 clear hn hk
 go_enter Tryz.func4,Tryz.ntmps4
 go_wp2_with fail
 rw [hn',hk']
 clear hn' hk'
 obtain ⟨W3,hW3⟩:∃ W3,((w.alloc (stO ⟨#[116,111,112]⟩ 2 (-1) (.slice none 0 0) (.slice none 0 0) (.slice none 0 0))).alloc (chO ⟨#[99]⟩ (.slice none 0 0) (.slice none 0 0) (.slice (some ⟨w.heap.size,0,none⟩) 1 1))).alloc (stO ⟨#[97]⟩ 1 0 (.slice none 0 0) (.slice none 0 0) (.slice none 0 0)) = W3:=⟨_,rfl⟩
 rw [hW3]
 have hz3:W3.heap.size = w.heap.size + 1 + 1 + 1:=by rw [← hW3]; simp
 obtain ⟨S,hS⟩:∃ S,S = w.heap.size + 1 + 1:=⟨_,rfl⟩
 have h1:L1 W3 S 0 (.slice none 0 0) [] W3:=by
  refine ⟨RowB.nil (but_refl _ _) (by omega),?_,rfl⟩
  have:=heap_alloc_new ((w.alloc (stO ⟨#[116,111,112]⟩ 2 (-1) (.slice none 0 0) (.slice none 0 0) (.slice none 0 0))).alloc (chO ⟨#[99]⟩ (.slice none 0 0) (.slice none 0 0) (.slice (some ⟨w.heap.size,0,none⟩) 1 1))) (stO ⟨#[97]⟩ 1 0 (.slice none 0 0) (.slice none 0 0) (.slice none 0 0))
  rw [hW3,World.size_alloc,World.size_alloc,← hS] at this
  exact this
 rw [← hS]
 obtain ⟨C,hC⟩:∃ C,C = w.heap.size + 1:=⟨_,rfl⟩
 rw [← hC]
 have HZ:=Lib.hid (And.intro hS (And.intro hz3 hC))
 have HST:=Lib.hid (fun (X:World) (p:SP) (o:Obj) (hgx:W3.grownBy X (some S)) (hst:X.heap[S]? = some o) => (by rw [hC]; exact l2_start hW3 hgx hS hst:L2 w W3 X p C S 0 (.slice (some ⟨w.heap.size,0,none⟩) 1 1) o X))
 clear hS hz3 hC hW3
 have HL1:=Lib.hid h1
 clear h1
 go_loopw [9] (fun i wr => L1Rel W3 S k i wr) (fun i _ => k - (intOf i).toNat)
 case atStart => exact ⟨0,_,_,Nat.zero_le _,rfl,HL1.out⟩
 case round =>
  obtain ⟨j,pv,ps,hj,rfl,hl⟩:=hrel
  have HL:=Lib.hid hl
  obtain ⟨c0,c1,c2,c3,c4,c5⟩:=cells_6 hl.st
  clear hl
  by_cases hlt:j < k
  ·have hltI:(j:Int) < k:=by omega
   have hkm:k ≤ 16:=hk16
   have hlen:ps.length = j:=by have:=congrArg List.length HL.out.ts; simpa using this
   have hown:=own_keep HL.out.row.own (below_two' (KitC.below_pair wr lgT lgA) (KitC.below_one ((wr.alloc lgT).alloc lgA) (.cells (tpV (lgP wr.heap.size)).toArray 49)))
   have hrd:Rdk 4 (((wr.alloc lgT).alloc lgA).alloc (.cells (tpV (lgP wr.heap.size)).toArray 49)) (.slice (some ⟨wr.heap.size + 1 + 1,0,none⟩) 1 1) 1 (tpV (lgP wr.heap.size)):=by
    have:=rdk_whole (k:=4) (n:=1) (c:=1) (xs:=tpV (lgP wr.heap.size)) (heap_alloc_new ((wr.alloc lgT).alloc lgA) (.cells (tpV (lgP wr.heap.size)).toArray 49)) rfl rfl (Nat.le_refl _)
    rwa [World.size_alloc,World.size_alloc] at this
   have HA:=Lib.hid (And.intro hown hrd)
   have HLE:=Lib.hid hlen
   have HS3:Hid (W3.heap.size ≤ (((wr.alloc lgT).alloc lgA).alloc (.cells (tpV (lgP wr.heap.size)).toArray 49)).heap.size):=Lib.hid (Nat.le_trans HL.out.row.grown.size (below_two' (KitC.below_pair wr lgT lgA) (KitC.below_one _ _)).size)
   clear hown hrd hlen
   go_wp2_with (at_builtin; refine wpList_append_rdk _ rfl (.tmp 33) (.tmp 39) _ rfl W3.heap.size 49 i0 (.agg #[.string ByteArray.empty,.slice none 0 0,.slice none 0 0,.string ByteArray.empty]) 4 80 Tryz.underlying40 HI.out.1 HI.out.2.1 HI.out.2.2.1 HI.out.2.2.2 rfl (by decide) pv ps.length (ps.flatMap tpV) rfl HA.out.1 _ 1 (tpV (lgP wr.heap.size)) rfl HA.out.2 (tpV_one _) (by unfold maxLen; have:=HLE.out; omega) (by have:=HLE.out; omega) HS3.out ?_; intro v' w' hr hg hob; obtain ⟨A',cp',rfl⟩:=own_shape hr; have HN:=Lib.hid (l1_next HL.out hr hg hob); have f5:=(free_6 HN.out.1).2.2.2.2.2; obtain ⟨d0,d1,d2,d3,d4,d5⟩:=cells_6 HN.out.1; clear hr hg hob)
   go_roundw
   case rel => exact ⟨j + 1,_,_,hlt,by go_num,HN.out.2⟩
   case measure => simp [intOf]; omega
  ·obtain rfl:j = k:=by omega
   obtain ⟨X,hXX⟩:∃ X,X = wr:=⟨_,rfl⟩
   subst hXX
   have hkI:¬ (j:Int) < j:=by omega
   clear c0 c1 c2 c3 c4 c5
   obtain ⟨A5,c5,rfl⟩:=HL.out.row.shape
   obtain ⟨N,hN⟩:∃ N,N = ps.length:=⟨_,rfl⟩
   rw [← hN] at HL
   have HD:Hid (Dep X (fun b => W3.heap.size ≤ b) (fun x => Trs x (.slice A5 N c5) (List.replicate j ttG.tr))):=Lib.hid (HL.out.row.far.imp fun x hx => ⟨ps,HL.out.ts,hN ▸ hx.1,hx.2⟩)
   have HX:Hid (W3.heap.size ≤ X.heap.size):=Lib.hid HL.out.row.grown.size
   have H0:=Lib.hid (HST.out X (leafP j A5 N c5) _ HL.out.row.grown HL.out.st)
   clear hN HL HL1 HST
   go_wp2_with fail
   go_loopw [10] (fun i x => L2Rel w W3 X (leafP j A5 N c5) C S n (stO ⟨#[97]⟩ 1 0 (.slice none 0 0) (.slice none 0 0) (.slice A5 N c5)) i x) (fun i _ => n - (intOf i).toNat)
   case atStart => exact ⟨0,_,Nat.zero_le _,rfl,H0.out⟩
   case round =>
    obtain ⟨q,pv,hq,rfl,hl⟩:=hrel
    have HL:=Lib.hid hl
    obtain ⟨s0,s1,s2,s3,s4,s5⟩:=cells_6 hl.st
    obtain ⟨d0,d1,d2,d3⟩:=cells_4 hl.ch
    clear hl
    by_cases hlt:q < n
    ·have hltI:(q:Int) < n:=by omega
     obtain ⟨P,hP⟩:∃ P,P = leafP j A5 N c5:=⟨_,rfl⟩
     have hPV:(spV P).toArray = #[.string ⟨#[97]⟩,.int .i64 1,.int .i64 0,.slice none 0 0,.slice none 0 0,.slice A5 N c5]:=by rw [hP]; rfl
     have hy:=KitC.below_one wr (.cells (spV P).toArray 42)
     have hrd:Rdk 6 (wr.alloc (.cells (spV P).toArray 42)) (.slice (some ⟨wr.heap.size,0,none⟩) 1 1) 1 (spV P):=rdk_whole (k:=6) (n:=1) (c:=1) (xs:=spV P) (heap_alloc_new wr (.cells (spV P).toArray 42)) rfl rfl (Nat.le_refl _)
     have HA:=Lib.hid (And.intro (own_keep HL.out.own hy) (And.intro hrd (Nat.le_trans HL.out.below.size hy.size)))
     rw [hPV] at HA
     rw [← hP] at HL HA
     have HPP:=Lib.hid hP
     have HPVV:=Lib.hid hPV
     clear hrd hy hP hPV
     go_wp2_with (at_builtin; refine wpList_append_rdk _ rfl (.tmp 48) (.tmp 50) _ rfl w.heap.size 42 i1 (.agg #[.string ByteArray.empty,.int .i64 0,.int .i64 0,.slice none 0 0,.slice none 0 0,.slice none 0 0]) 6 104 Tryz.underlying24 HI1.out.1 HI1.out.2.1 HI1.out.2.2.1 HI1.out.2.2.2 rfl (by decide) pv (q + 1) ((topP :: List.replicate q P).flatMap spV) rfl HA.out.1 _ 1 (spV P) rfl HA.out.2.1 (spV_one _) (by unfold maxLen; omega) (by omega) HA.out.2.2 ?_; intro v' w' hr hg hob; obtain ⟨A',cp',rfl⟩:=own_shape hr; rw [← HPVV.out] at hg hob; have HN:=Lib.hid (l2_next HL.out HZ.out.2.2 HZ.out.1 HZ.out.2.1 HX.out hr hg hob); have f5:=(free_4 HN.out.1).2.2.2; obtain ⟨d0,d1,d2,d3⟩:=cells_4 HN.out.1; clear hr hg hob)
     go_roundw
     case rel => exact ⟨q + 1,_,hlt,by go_num,by rw [← HPP.out]; exact HN.out.2⟩
     case measure => simp [intOf]; omega
    ·obtain rfl:q = n:=by omega
     have hkI':¬ (q:Int) < q:=by omega
     obtain ⟨t,ht⟩:∃ t:Nat,t = (chK (tcG q j)).length:=⟨_,rfl⟩
     have hlen:=tcG_len (n:=q) (k:=j) hn60
     rw [← ht] at hlen
     obtain ⟨M,hM⟩:∃ M:Nat,M = (4 + 11 * j) * q:=⟨_,rfl⟩
     have hMI:(4 + 11 * (j:Int)) * q = M:=by rw [hM]; simp
     have hMb:M ≤ 180 * 59:=by rw [hM]; exact Nat.mul_le_mul (by omega) (by omega)
     have HOWN:=Lib.hid HL.out.own
     have HIN:=Lib.hid (And.intro HL.out.below (And.intro (l2_read HL.out HD.out HX.out) HL.out.ch))
     clear s0 s1 s2 s3 s4 s5 HL HD HX H0
     obtain ⟨pA,pn,pc,hpv⟩:∃ pA pn pc,pv = .slice pA pn pc:=by
      obtain ⟨A,c,h⟩:=own_shape HOWN.out
      exact ⟨A,_,c,h⟩
     subst hpv
     have hMw:IntKind.i64.wrap ((4 + 11 * (j:Int)) * (q:Int)) = (M:Int):=by rw [hMI,IntKind.wrap_i64]; omega
     have HT:Hid (if q = 0 then (if j = 0 then t = 7 else t = 7) else (if j = 0 then t = 8 + 3 * q else t = 8 + M)):=Lib.hid (by
      unfold leafG at hlen
      by_cases h1:q = 0
      ·rw [if_pos h1,hlen,if_pos h1]
       subst h1
       split <;> simp
      ·rw [if_neg h1,hlen,if_neg h1]
       by_cases h2:j = 0
       ·rw [if_pos h2,if_pos h2]; omega
       ·rw [if_neg h2,if_neg h2,hM]
        have:=Nat.mul_comm q (4 + 11 * j)
        omega)
     have HTT:=Lib.hid ht
     clear hlen ht hM
     go_upto_if 54 with fail
     go_cut [11] from 53 (fun v wx => v = .int .i64 ((if q = 0 then 7 else 8:Nat)) ∧ wx = wr)
     case first =>
      by_cases h1:q = 0
      ·have g1:((q:Int) == 0) = true:=by simp; omega
       have H1:=Lib.hid h1
       clear h1
       go_wp2_with fail
       go_meet
       case rel => exact ⟨by simp [H1.out],rfl⟩
      ·have g1:((q:Int) == 0) = false:=by simp; omega
       go_wp2_with fail
       go_meet
       case rel => exact ⟨by simp [h1],rfl⟩
     case rest =>
      obtain ⟨rfl,rfl⟩:=hcut
      go_upto_if 60 with fail
      go_cut [11] from 53 (fun v wx => v = .int .i64 t ∧ wx = wc)
      case first =>
       obtain ⟨T0,hT0⟩:∃ T0:Nat,T0 = if q = 0 then 7 else 8:=⟨_,rfl⟩
       rw [← hT0]
       have hT0b:T0 ≤ 8:=by rw [hT0]; split <;> omega
       by_cases h1:j = 0
       ·have g1:((j:Int) == 0) = true:=by simp; omega
        have ht:t = T0 + 3 * q:=by
         have:=HT.out
         rw [hT0]
         by_cases h2:q = 0
         ·simpa [h2,h1] using this
         ·simpa [h2,h1] using this
        clear hT0 hMw hMI
        have HTE:=Lib.hid ht
        clear ht h1
        go_wp2_with fail
        go_meet
        case rel => exact ⟨by rw [HTE.out]; go_num,rfl⟩
       ·have g1:((j:Int) == 0) = false:=by simp; omega
        have ht:t = T0 + M:=by
         have:=HT.out
         rw [hT0]
         by_cases h2:q = 0
         ·have hM0:M = 0:=by have:=hMI; rw [h2] at this; simp at this; omega
          rw [hM0]
          simpa [h2,h1] using this
         ·simpa [h2,h1] using this
        have HTE:=Lib.hid ht
        clear ht hT0
        go_wp2_with fail
        go_meet
        case rel => exact ⟨by rw [HTE.out]; go_num,rfl⟩
      case rest =>
       obtain ⟨rfl,rfl⟩:=hcut
       have hok:=tcG_ok (n:=q) (k:=j) hn60 hk16
       have HC:=Lib.hid (fun W (hW:Below wc.heap.size wc W) => KitC.block_on HIN.out.2.2 hW)
       have HB:=Lib.hid (fun W (hW:Below wc.heap.size wc W) => below_two' HIN.out.1 hW)
       have hch:ChIn wc (.slice none 0 0) (.slice none 0 0) (.slice pA pn pc) (tcG q j).cx:=⟨Rd.nil wc,Rdk.nil 4 wc,HIN.out.2.1⟩
       have HCH:=Lib.hid hch
       obtain ⟨c0,c1,c2,c3⟩:=cells_4 HIN.out.2.2
       by_cases h4:t ≤ 4000
       ·have g4:decide (4000 < (t:Int)) = false:=by simp; omega
        have k1:(chK (tcG q j)).length ≤ 4000:=by rw [← HTT.out]; exact h4
        have k2:=tcG_bytes hn60 hk16 k1
        have k3:=(parse_put hok k2 k1).2
        have HP:=Lib.hid (show Calls Tryz.prog 7 #[.agg #[.string ⟨#[99]⟩,.slice none 0 0,.slice none 0 0,.slice pA pn pc]] wc (RetPP wc (bs (putC (tcG q j))) 0) from HOK.out (tcG q j) _ _ _ _ _ _ _ _ _ wc HIN.out.1 hch hok k2 k1)
        have hbs:(bs (putC (tcG q j))).size ≤ 9223372036854775807:=by
         have:(bs (putC (tcG q j))).size = (putC (tcG q j)).length:=by simp [bs,ByteArray.size]
         omega
        have HPX:=Lib.hid (fun W (hW:Below wc.heap.size wc W) => parse_chart (bs (putC (tcG q j))) W (HPG.out.1.keep (HB.out _ hW)) (HPG.out.2.keep (HB.out _ hW)) hbs)
        rw [k3] at HPX
        obtain ⟨P,hP⟩:∃ P,P = bs (putC (tcG q j)):=⟨_,rfl⟩
        rw [← hP] at HP HPX
        clear hok hch k1 k2 k3 hbs hP HOK HLG
        go_wp2_with (go_at_call 7; (with_reducible refine HP.out.mono ?_))
        rintro e w4 ⟨rfl,hb4⟩
        have HB4:=Lib.hid hb4
        clear hb4 c0 c1 c2 c3
        go_wp2_with (go_at_call 10; (with_reducible refine (HPX.out _ HB4.out).mono ?_))
        rintro e w5 ⟨fA,fn,fc,uA,un,uc,rA,rn,rc,rfl,hT,hb⟩
        have HB5:=Lib.hid (below_two' HB4.out hb)
        have HT:=Lib.hid hT
        clear hb hT
        have hnm:(tcG q j).cx.s = ⟨#[99]⟩:=rfl
        simp only [hnm]
        clear hnm
        have HC2:=Lib.hid (fun W (hW:Below ((w5.alloc (chO ⟨#[99]⟩ (.slice fA fn fc) (.slice uA un uc) (.slice rA rn rc))).alloc poZ).heap.size ((w5.alloc (chO ⟨#[99]⟩ (.slice fA fn fc) (.slice uA un uc) (.slice rA rn rc))).alloc poZ) W) => KitC.pair_blocks hW)
        obtain ⟨d1,d2,d3,-⟩:=HC2.out _ (Below.refl _ _)
        have HB6:=Lib.hid (below_two' HB5.out d3)
        obtain ⟨c0,c1,c2,c3⟩:=cells_4 (HC.out _ HB6.out)
        obtain ⟨e0,e1,e2,e3⟩:=cells_4 d1
        have HSM:=Lib.hid (show Calls Tryz.prog 12 #[.agg #[.string ⟨#[99]⟩,.slice fA fn fc,.slice uA un uc,.slice rA rn rc],.agg #[.string ⟨#[99]⟩,.slice none 0 0,.slice none 0 0,.slice pA pn pc]] ((w5.alloc (chO ⟨#[99]⟩ (.slice fA fn fc) (.slice uA un uc) (.slice rA rn rc))).alloc poZ) (RetB _ true) from csame_any (tcG q j).cx (tcG q j).cx true (by simp) fA fn fc uA un uc rA rn rc none 0 0 none 0 0 pA pn pc _ (HT.out.keep d3) (HCH.out.keep HB6.out) (tcG_few hn60 hk16))
        clear d1 d2 d3
        go_wp2_with (go_at_call 12; (with_reducible refine HSM.out.mono ?_))
        rintro e w6 ⟨rfl,hb⟩
        have HB7:=Lib.hid (HB.out _ (below_two' HB6.out hb))
        clear hb c0 c1 c2 c3 e0 e1 e2 e3
        go_wp2_with (go_at_call 6; (with_reducible refine (HAW.out _ HB7.out).mono ?_))
        rintro e w7 ⟨rfl,hb⟩
        have HB8:=Lib.hid (below_two' HB7.out hb)
        clear hb
        go_wp2_with fail
        go_ret
        exact ⟨rfl,HB8.out⟩
       ·have g4:decide (4000 < (t:Int)) = true:=by simp; omega
        have HP:=Lib.hid (show Calls Tryz.prog 7 #[.agg #[.string ⟨#[99]⟩,.slice none 0 0,.slice none 0 0,.slice pA pn pc]] wc (RetPP wc ⟨#[]⟩ 5) from HLG.out (tcG q j) _ _ _ _ _ _ _ _ _ wc HIN.out.1 hch hok (by rw [← HTT.out]; omega))
        clear hok hch HOK HLG
        go_wp2_with (go_at_call 7; (with_reducible refine HP.out.mono ?_))
        rintro e w4 ⟨rfl,hb4⟩
        have HB4:=Lib.hid hb4
        clear hb4
        go_wp2_with (go_at_call 6; (with_reducible refine (HAW.out _ (HB.out _ HB4.out)).mono ?_))
        rintro e w5 ⟨rfl,hb5⟩
        have HB5:=Lib.hid (HB.out _ (below_two' HB4.out hb5))
        clear hb5
        go_wp2_with fail
        go_ret
        exact ⟨rfl,HB5.out⟩
end Go.Proofs.YtcofikjpplkjdaaGreatDoor
namespace Go.Proofs.YtcofikjpplkjdaaGreatDoor
open Go.RowKit Go.Sort TermSpec EvalSpec ActSpec NamesSpec ExprSpec TransSpec SynSpec PrintSpec
set_option maxRecDepth 100000
def awT:Tt:=⟨⟨#[103,111]⟩,none,[],⟨#[]⟩⟩
def awC:Tc:=⟨⟨#[99]⟩,[⟨#[103,111]⟩],[⟨⟨#[110]⟩,-1,3,0⟩],[topG,⟨⟨#[97]⟩,1,0,[],[],[awT]⟩]⟩
theorem aw_text:bs (putC awC) = ⟨#[99,104,97,114,116,32,99,32,123,10,32,32,101,118,101,110,116,32,103,111,59,10,32,32,118,97,114,32,110,32,45,49,32,46,46,32,51,32,61,32,48,59,10,32,32,111,114,32,116,111,112,32,123,10,32,32,32,32,108,101,97,102,32,97,32,123,10,32,32,32,32,32,32,111,110,32,103,111,59,10,32,32,32,32,125,10,32,32,125,10,125,10]⟩:=by kernel_rfl
theorem aw_len:(putC awC).length ≤ 65536 ∧ (chK awC).length ≤ 4000:=by decide +kernel
theorem awT_ok:awT.Ok:=by
 refine ⟨by decide +kernel,by decide +kernel,?_,?_,by decide⟩
 ·intro e he
  cases he
 ·intro t ht
  cases ht
theorem aw_ok:awC.Ok:=by
 refine ⟨(by decide +kernel),(by decide),(by decide),(by decide +kernel),?_,?_,?_⟩
 ·intro e he
  rw [List.mem_singleton.1 he]
  decide +kernel
 ·intro v hv
  rw [List.mem_singleton.1 hv]
  decide +kernel
 ·intro t ht
  rcases List.mem_cons.1 ht with rfl | ht
  ·exact ⟨by decide +kernel,(fun e he => by cases he),by decide,(fun e he => by cases he),by decide,(fun e he => by cases he),by decide⟩
  ·rw [List.mem_singleton.1 ht]
   refine ⟨by decide +kernel,(fun e he => by cases he),by decide,(fun e he => by cases he),by decide,?_,by decide⟩
   intro u hu
   rw [List.mem_singleton.1 hu]
   exact awT_ok
theorem vb_aw (s:ByteArray) (a b:Int) (w:World):(Instr.build 53 #[(0,.string s),(1,.int .i64 a),(2,.int .i64 b)]).run Tryz.prog w = .ok (.agg #[.string s,.int .i64 a,.int .i64 b,.int .i64 0]) w:=run_build w 53 _ _ (by kernel_rfl)
theorem tb_aw (s:ByteArray) (w:World):(Instr.build 49 #[(0,.string s)]).run Tryz.prog w = .ok (.agg #[.string s,.slice none 0 0,.slice none 0 0,.string ⟨#[]⟩]) w:=run_build w 49 _ _ (by kernel_rfl)
theorem sb_aw (s:ByteArray) (a:Int) (A:Option Addr) (n c:Nat) (w:World):(Instr.build 42 #[(0,.string s),(1,.int .i64 a),(5,.slice A n c)]).run Tryz.prog w = .ok (.agg #[.string s,.int .i64 a,.int .i64 0,.slice none 0 0,.slice none 0 0,.slice A n c]) w:=run_build w 42 _ _ (by kernel_rfl)
theorem cb_aw (s:ByteArray) (A A' B:Option Addr) (n c n' c' m d:Nat) (w:World):(Instr.build 26 #[(0,.string s),(1,.slice A n c),(2,.slice A' n' c'),(3,.slice B m d)]).run Tryz.prog w = .ok (.agg #[.string s,.slice A n c,.slice A' n' c',.slice B m d]) w:=run_build w 26 _ _ (by kernel_rfl)
abbrev awE:Obj:=.cells #[.string ⟨#[103,111]⟩] 9
abbrev awV:Obj:=.cells #[.string ⟨#[110]⟩,.int .i64 (-1),.int .i64 3,.int .i64 0] 53
abbrev awR:Obj:=.cells #[.string ⟨#[103,111]⟩,.slice none 0 0,.slice none 0 0,.string ⟨#[]⟩] 49
abbrev awS (k:Nat):Obj:=.cells #[.string ⟨#[116,111,112]⟩,.int .i64 2,.int .i64 (-1),.slice none 0 0,.slice none 0 0,.slice none 0 0,.string ⟨#[97]⟩,.int .i64 1,.int .i64 0,.slice none 0 0,.slice none 0 0,.slice (some ⟨k,0,none⟩) 1 1] 42
set_option maxRecDepth 100000 in
set_option maxHeartbeats 4000000 in
theorem pawake_any (w:World)
 (hok:∀ (c:Tc) (eA:Option Addr) (en ec:Nat) (vA:Option Addr) (vn vc:Nat) (sA:Option Addr) (sn sc:Nat) (W:World),Below w.heap.size w W → ChIn W (.slice eA en ec) (.slice vA vn vc) (.slice sA sn sc) c.cx → c.Ok → (putC c).length ≤ 65536 → (chK c).length ≤ 4000 → Calls Tryz.prog 7 #[.agg #[.string c.s,.slice eA en ec,.slice vA vn vc,.slice sA sn sc]] W (RetPP W (bs (putC c)) 0)) :
 Calls Tryz.prog 6 #[] w (RetB w true):=by
 have b1:=vb_aw
 have b2:=tb_aw
 have b3:=sb_aw
 have b4:=cb_aw
 have b5:=sb_top
 obtain ⟨W4,hW4⟩:∃ W4,(((w.alloc awE).alloc awV).alloc awR).alloc (awS (w.heap.size + 1 + 1)) = W4:=⟨_,rfl⟩
 have q1:=KitC.below_one w awE
 have q2:=KitC.below_one (w.alloc awE) awV
 have q3:=KitC.below_one ((w.alloc awE).alloc awV) awR
 have q4:=KitC.below_one (((w.alloc awE).alloc awV).alloc awR) (awS (w.heap.size + 1 + 1))
 rw [hW4] at q4
 have hb4:=below_two' q1 (below_two' q2 (below_two' q3 q4))
 have h1:=KitC.block_on (heap_alloc_new w awE) (below_two' q2 (below_two' q3 q4))
 have h2:=KitC.block_on (heap_alloc_new (w.alloc awE) awV) (below_two' q3 q4)
 have h3:=KitC.block_on (heap_alloc_new ((w.alloc awE).alloc awV) awR) q4
 have h4:=heap_alloc_new (((w.alloc awE).alloc awV).alloc awR) (awS (w.heap.size + 1 + 1))
 rw [hW4] at h4
 rw [World.size_alloc] at h2
 rw [World.size_alloc,World.size_alloc] at h3
 rw [World.size_alloc,World.size_alloc,World.size_alloc] at h4
 have hz:∀ x,Acs x (.slice none 0 0) []:=fun x => acs_nil x
 have hin:ChIn W4 (.slice (some ⟨w.heap.size,0,none⟩) 1 1) (.slice (some ⟨w.heap.size + 1,0,none⟩) 1 1) (.slice (some ⟨w.heap.size + 1 + 1 + 1,0,none⟩) 2 2) awC.cx:=by
  refine ⟨⟨_,1,1,rfl,rfl,Nat.le_refl _,fun _ => ⟨w.heap.size,0,rfl,(Array.getElem?_eq_some_iff.1 h1).1,fun j u hj => ?_⟩⟩,rdk_whole h2 rfl rfl (Nat.le_refl _),?_⟩
  ·rw [Nat.zero_add]
   exact cell_of_block' h1 (i:=j) (by rw [← Array.getElem?_toList]; exact hj)
  ·refine ⟨[topP,⟨⟨⟨#[97]⟩,1,0,[],[],[awT.tr]⟩,none,0,0,none,0,0,some ⟨w.heap.size + 1 + 1,0,none⟩,1,1⟩],rfl,rdk_whole h4 rfl rfl (Nat.le_refl _),fun p hp => ?_⟩
   rcases List.mem_cons.1 hp with rfl | hp
   ·exact ⟨hz _,hz _,⟨[],rfl,Rdk.nil 4 _,by simp⟩⟩
   ·rw [List.mem_singleton.1 hp]
    refine ⟨hz _,hz _,⟨[⟨awT.tr,none,0,0,none,0,0⟩],rfl,rdk_whole h3 rfl rfl (Nat.le_refl _),fun q hq => ?_⟩⟩
    rw [List.mem_singleton.1 hq]
    exact ⟨tmsNil _,hz _⟩
 obtain ⟨P,hP⟩:∃ P:ByteArray,P = ⟨#[99,104,97,114,116,32,99,32,123,10,32,32,101,118,101,110,116,32,103,111,59,10,32,32,118,97,114,32,110,32,45,49,32,46,46,32,51,32,61,32,48,59,10,32,32,111,114,32,116,111,112,32,123,10,32,32,32,32,108,101,97,102,32,97,32,123,10,32,32,32,32,32,32,111,110,32,103,111,59,10,32,32,32,32,125,10,32,32,125,10,125,10]⟩:=⟨_,rfl⟩
 have HP:=Lib.hid (show Calls Tryz.prog 7 #[.agg #[.string ⟨#[99]⟩,.slice (some ⟨w.heap.size,0,none⟩) 1 1,.slice (some ⟨w.heap.size + 1,0,none⟩) 1 1,.slice (some ⟨w.heap.size + 1 + 1 + 1,0,none⟩) 2 2]] W4 (RetPP W4 (bs (putC awC)) 0) from hok awC _ _ _ _ _ _ _ _ _ W4 hb4 hin aw_ok aw_len.1 aw_len.2)
 rw [aw_text,← hP] at HP
 have g1:(P.toList == [99,104,97,114,116,32,99,32,123,10,32,32,101,118,101,110,116,32,103,111,59,10,32,32,118,97,114,32,110,32,45,49,32,46,46,32,51,32,61,32,48,59,10,32,32,111,114,32,116,111,112,32,123,10,32,32,32,32,108,101,97,102,32,97,32,123,10,32,32,32,32,32,32,111,110,32,103,111,59,10,32,32,32,32,125,10,32,32,125,10,125,10]) = true:=by rw [hP]; kernel_rfl
 have HB:=Lib.hid hb4
 have HW4:=Lib.hid hW4
 clear hok hW4 q1 q2 q3 q4 hb4 h1 h2 h3 h4 hz hin hP
 go_enter Tryz.func6,Tryz.ntmps6
 go_wp2_with (rw [HW4.out]; go_at_call 7; (with_reducible refine HP.out.mono ?_))
 rintro e w5 ⟨rfl,hb⟩
 have HB5:=Lib.hid (below_two' HB.out hb)
 clear hb
 go_wp2_with fail
 go_ret
 exact ⟨rfl,HB5.out⟩
end Go.Proofs.YtcofikjpplkjdaaGreatDoor