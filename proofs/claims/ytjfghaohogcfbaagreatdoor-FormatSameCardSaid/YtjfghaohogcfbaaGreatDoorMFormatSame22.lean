/- SynParse, PrintRead, PrintTree, PrintStates, PrintScan, FormSpec, EvalOps2, EvalNone, EvalReckon, EvalCheck, EvalLight, ActLight, ShapeMem, joined. -/
import Derived.Test.YtjfghaohogcfbaaGreatDoorMFormatSame21
import Derived.Test.YtjfghaohogcfbaaGreatDoorMFormatSame15
import Derived.Test.YtjfghaohogcfbaaGreatDoorMFormatSame16
import Derived.Test.YtjfghaohogcfbaaGreatDoorMFormatSame02
import Derived.Test.YtjfghaohogcfbaaGreatDoorMFormatSame05
import Derived.BigQuiet
import Derived.Deep.QuietTactic
import Derived.Test.YtjfghaohogcfbaaGreatDoorMFormatSame11
import Derived.Test.YtjfghaohogcfbaaGreatDoorMFormatSame19
import Derived.Lib.QuietBelow
import Derived.Test.YtjfghaohogcfbaaGreatDoorRows
import Derived.Test.YtjfghaohogcfbaaGreatDoorMFormatSame06
import Derived.Test.YtjfghaohogcfbaaGreatDoorMFormatSame10
namespace Go.Proofs.YtjfghaohogcfbaaGreatDoor
open Go.RowKit CurSpec TermSpec EvalSpec ActSpec NamesSpec ExprSpec TransSpec SynSpec ScanSpec
set_option maxRecDepth 100000
structure Pc where
 x:Cx
 l:Int
 c:Int
 er:Int
def endPc (r:Cur × Cx):Pc:=if (want r.1 0 ⟨#[]⟩).bad ≠ 0 then ⟨zeroC,(want r.1 0 ⟨#[]⟩).a1,(want r.1 0 ⟨#[]⟩).a2,(want r.1 0 ⟨#[]⟩).bad⟩ else ⟨r.2,0,0,0⟩
def parseC (s:ByteArray):Pc :=
 if (scanT s.data.toList).2.2 ≠ 0 then ⟨zeroC,(pos s.data.toList (scanT s.data.toList).2.1).1,(pos s.data.toList (scanT s.data.toList).2.1).2,(scanT s.data.toList).2.2⟩ else endPc (readC (cur0 (tkAll s)))
theorem toks_at {s:ByteArray} {W w:World} {e:Ending} (h:TokPost W s e w) (h0:(scanT s.data.toList).2.2 = 0) :
 ∃ A n cp,e = .returned (.tuple #[.slice A n cp,.agg #[.int .i64 0,.int .i64 0],.int .i64 0]) ∧ Toks w (.slice A n cp) (tkAll s) ∧ n ≤ 4001 ∧ Below W.heap.size W w:=by
 obtain ⟨hb,-,hv⟩:=h
 obtain ⟨v,rfl,A,cp,rfl,hrest⟩:=hv h0
 refine ⟨A,_,cp,rfl,?_,scanT_len _,hb⟩
 exact ⟨_,by simp [tkAll],A,cp,rfl,hrest.1,by rw [show tkAll s = (scanT s.data.toList).1.map (tokOf s) from rfl,← toks_map]; exact hrest.2.1,by rw [show tkAll s = (scanT s.data.toList).1.map (tokOf s) from rfl,← toks_map]; exact hrest.2.2⟩
def RetPc (W:World) (p:Pc) (e:Ending) (w':World):Prop :=
 ∃ eA en ec vA vn vc sA sn sc,e = .returned (.tuple #[.agg #[.string p.x.s,.slice eA en ec,.slice vA vn vc,.slice sA sn sc],.agg #[.int .i64 p.l,.int .i64 p.c],.int .i64 p.er]) ∧ ChIn w' (.slice eA en ec) (.slice vA vn vc) (.slice sA sn sc) p.x ∧ Below W.heap.size W w'
abbrev chZ:Obj:=.cells #[.string ⟨#[]⟩,.slice none 0 0,.slice none 0 0,.slice none 0 0] 33
abbrev poZ:Obj:=.cells #[.int .i64 0,.int .i64 0] 24
theorem pb_zero (w:World):(Instr.build 24 #[]).run Tryz.prog w = .ok (.agg #[.int .i64 0,.int .i64 0]) w:=run_build w 24 _ _ (by kernel_rfl)
abbrev set42 (w:World) (b:Nat) (u0 u1 u2 u3 v0 v1:Value):World:=(((((w.setCell ⟨b,0,none⟩ u0).setCell ⟨b,1,none⟩ u1).setCell ⟨b,2,none⟩ u2).setCell ⟨b,3,none⟩ u3).setCell ⟨b + 1,0,none⟩ v0).setCell ⟨b + 1,1,none⟩ v1
theorem store_42 {w:World} {b:Nat} {T T2:TypeId} {z0 z1 z2 z3 y0 y1:Value} (h1:w.heap[b]? = some (.cells #[z0,z1,z2,z3] T (0,0))) (h2:w.heap[b + 1]? = some (.cells #[y0,y1] T2 (0,0))) (u0 u1 u2 u3 v0 v1:Value) :
 (set42 w b u0 u1 u2 u3 v0 v1).heap[b]? = some (.cells #[u0,u1,u2,u3] T (0,0)) ∧ (set42 w b u0 u1 u2 u3 v0 v1).heap[b + 1]? = some (.cells #[v0,v1] T2 (0,0)):=by
 have k1:=block_setCell' (block_setCell' (block_setCell' (block_setCell' h1 0 u0) 1 u1) 2 u2) 3 u3
 have k2:((((w.setCell ⟨b,0,none⟩ u0).setCell ⟨b,1,none⟩ u1).setCell ⟨b,2,none⟩ u2).setCell ⟨b,3,none⟩ u3).heap[b + 1]? = some (.cells #[y0,y1] T2 (0,0)):=by
  rw [Below.heap_setCell _ _ _ _ (by simp),Below.heap_setCell _ _ _ _ (by simp),Below.heap_setCell _ _ _ _ (by simp),Below.heap_setCell _ _ _ _ (by simp)]
  exact h2
 refine ⟨?_,block_setCell' (block_setCell' k2 0 v0) 1 v1⟩
 rw [Below.heap_setCell _ _ _ _ (by simp),Below.heap_setCell _ _ _ _ (by simp)]
 exact k1
theorem below_42 {B:Nat} {w x:World} {b:Nat} (h:Below B w x) (hb:B ≤ b) (u0 u1 u2 u3 v0 v1:Value):Below B w (set42 x b u0 u1 u2 u3 v0 v1) :=
 (below_4 h hb u0 u1 u2 u3).setCell (by simp; omega) v0 |>.setCell (by simp; omega) v1
set_option maxRecDepth 100000 in
set_option maxHeartbeats 8000000 in
theorem parse_chart_bad (s:ByteArray) (w:World) (hp:PairsIn w) (he:(scanT s.data.toList).2.2 ≠ 0):Calls Tryz.prog 10 #[.string s] w (RetPc w (parseC s)):=by
 have b1:=cb_zero
 have b2:=pb_zero
 have HT:=Lib.hid (stoks_any s ((w.alloc chZ).alloc poZ) ((hp.alloc _).alloc _))
 obtain ⟨er,her⟩:∃ er,er = (scanT s.data.toList).2.2:=⟨_,rfl⟩
 obtain ⟨l,hl⟩:∃ l,l = (pos s.data.toList (scanT s.data.toList).2.1).1:=⟨_,rfl⟩
 obtain ⟨c,hc⟩:∃ c,c = (pos s.data.toList (scanT s.data.toList).2.1).2:=⟨_,rfl⟩
 have HP:Hid (parseC s = ⟨zeroC,l,c,er⟩):=Lib.hid (by unfold parseC; rw [if_pos he,← her,← hl,← hc])
 rw [← her] at he
 have e1:(er != 0) = true:=by simpa using he
 have HX:=Lib.hid (fun e w' (h:TokPost ((w.alloc chZ).alloc poZ) s e w') => by
  have:=h.2.1 (by rw [← her]; exact he)
  rw [← her,← hl,← hc] at this
  exact And.intro this h.1)
 clear hp he her hl hc
 go_enter Tryz.func10,Tryz.ntmps10
 go_wp2_with (go_at_call 18; (with_reducible refine HT.out.mono ?_))
 intro e x1 hx1
 obtain ⟨rfl,hb1⟩:=HX.out e x1 hx1
 obtain ⟨k1,k2,hB1,hz1⟩:=pair_blocks hb1
 have HB1:=Lib.hid hB1
 have HK1:=Lib.hid (And.intro k1 k2)
 clear hx1 hb1 hB1 k1 k2
 have HA:Hid ((x1.alloc (.cells #[.int .i64 l,.int .i64 c] 24)).heap[w.heap.size]? = some chZ ∧ (x1.alloc (.cells #[.int .i64 l,.int .i64 c] 24)).heap[w.heap.size + 1]? = some poZ) :=
  Lib.hid ⟨(heap_alloc_old _ _ (by omega)).trans HK1.out.1,(heap_alloc_old _ _ (by omega)).trans HK1.out.2⟩
 obtain ⟨q0,q1,q2,q3⟩:=cells_4 HA.out.1
 obtain ⟨f0,f1,f2,f3⟩:=free_4 HA.out.1
 obtain ⟨r0,r1⟩:=cells_2 HA.out.2
 obtain ⟨g0,g1⟩:=free_2 HA.out.2
 go_wp2_with fail
 go_region
 have HS:=Lib.hid (store_42 HA.out.1 HA.out.2 (.string ⟨#[]⟩) (.slice none 0 0) (.slice none 0 0) (.slice none 0 0) (.int .i64 l) (.int .i64 c))
 go_wp2_with fail
 obtain ⟨p0,p1,p2,p3⟩:=cells_4 HS.out.1
 obtain ⟨p4,p5⟩:=cells_2 HS.out.2
 refine bodyPost_ret (v:=.tuple #[.agg #[.string ⟨#[]⟩,.slice none 0 0,.slice none 0 0,.slice none 0 0],.agg #[.int .i64 l,.int .i64 c],.int .i64 er]) (by simp [results,Tryz.results10,go_sem,p0,p1,p2,p3,p4,p5]) rfl ?_
 rw [HP.out]
 exact ⟨none,0,0,none,0,0,none,0,0,rfl,ChIn.zero _,(below_42 (HB1.out.alloc HB1.out.size _) (Nat.le_refl _) _ _ _ _ _ _).drew⟩
theorem blocks_but {w w':World} {B b:Nat} {o:Obj} (h:w.heap[b]? = some o) (hb:w.grownBy w' (some B)) (hlt:b < B):w'.heap[b]? = some o:=grown_block h hb (by omega)
set_option maxRecDepth 100000 in
set_option maxHeartbeats 8000000 in
theorem parse_chart_ok (s:ByteArray) (w:World) (hp:PairsIn w) (hs:SignsIn w) (hz:s.size ≤ 9223372036854775807) (he:(scanT s.data.toList).2.2 = 0):Calls Tryz.prog 10 #[.string s] w (RetPc w (parseC s)):=by
 have b1:=cb_zero
 have b2:=pb_zero
 have HT:=Lib.hid (stoks_any s ((w.alloc chZ).alloc poZ) ((hp.alloc _).alloc _))
 have HP:Hid (parseC s = endPc (readC (cur0 (tkAll s)))):=Lib.hid (if_neg (fun h => h he))
 have HX:=Lib.hid (fun e w' (h:TokPost ((w.alloc chZ).alloc poZ) s e w') => toks_at h he)
 have HS:=Lib.hid hs
 have HOK:=Lib.hid (tkAll_ok s hz)
 obtain ⟨P,hP⟩:∃ P,P = parseC s:=⟨_,rfl⟩
 rw [← hP] at HP ⊢
 obtain ⟨L,hL⟩:∃ L,L = tkAll s:=⟨_,rfl⟩
 rw [← hL] at HP HX HOK
 clear hp he hs hz hP hL
 go_enter Tryz.func10,Tryz.ntmps10
 go_wp2_with (go_at_call 18; (with_reducible refine HT.out.mono ?_))
 intro e x1 hx1
 obtain ⟨A,n,cp,rfl,hT,hn,hb1⟩:=HX.out e x1 hx1
 obtain ⟨k1,k2,hB1,hz1⟩:=pair_blocks hb1
 have HNEW:=Lib.hid (new_any A n cp L _ (hT.alloc (.cells #[.int .i64 0,.int .i64 0] 24)) (by omega))
 have HB1:=Lib.hid (hB1.alloc hB1.size (.cells #[.int .i64 0,.int .i64 0] 24))
 have HA:Hid ((x1.alloc (.cells #[.int .i64 0,.int .i64 0] 24)).heap[w.heap.size]? = some chZ ∧ (x1.alloc (.cells #[.int .i64 0,.int .i64 0] 24)).heap[w.heap.size + 1]? = some poZ ∧ (x1.alloc (.cells #[.int .i64 0,.int .i64 0] 24)).heap[x1.heap.size]? = some poZ) :=
  Lib.hid ⟨(heap_alloc_old _ _ (by omega)).trans k1,(heap_alloc_old _ _ (by omega)).trans k2,heap_alloc_new _ _⟩
 clear hx1 hb1 hB1 k1 k2 hT hn HX HT
 go_wp2_with (go_at_call 19; (with_reducible refine HNEW.out.mono ?_))
 rintro e x2 ⟨B,rfl,hBs,hC2,hb2⟩
 have HB2:=Lib.hid (below_two' HB1.out hb2)
 have HA2:=Lib.hid (And.intro (block_on HA.out.1 hb2) (And.intro (block_on HA.out.2.1 hb2) (block_on HA.out.2.2 hb2)))
 have hBs':x1.heap.size < B:=by rw [World.size_alloc] at hBs; omega
 have HRD:=Lib.hid (read_at_chart B (cur0 L) x2 (HS.out.keep HB2.out) hC2 HOK.out)
 obtain ⟨r,hr⟩:∃ r,r = readC (cur0 L):=⟨_,rfl⟩
 rw [← hr] at HRD HP
 have HLT:=Lib.hid hC2.lt
 clear hBs hC2 hb2 hr HA HB1 HNEW
 go_wp2_with (go_at_call 20; (with_reducible refine HRD.out.mono ?_))
 rintro e x3 ⟨eA,en,ec,vA,vn,vc,sA,sn,sc,rfl,hC3,hD3,hb3⟩
 have HA3:=Lib.hid (And.intro (blocks_but HA2.out.1 hb3 (by omega)) (And.intro (blocks_but HA2.out.2.1 hb3 (by omega)) (blocks_but HA2.out.2.2 hb3 (by omega))))
 obtain ⟨d,hdd⟩:∃ d,d = want r.1 0 ⟨#[]⟩:=⟨_,rfl⟩
 have HB3:Hid (Below w.heap.size w x3):=Lib.hid (HB2.out.trans ⟨hb3.os,hb3.tape,hb3.output,hb3.size,fun i hi => hb3.block i (Nat.lt_of_lt_of_le hi HB2.out.size) (by simp; omega)⟩)
 obtain ⟨CO,hCO⟩:∃ CO:Obj,CO = .cells #[.string r.2.s,.slice eA en ec,.slice vA vn vc,.slice sA sn sc] 33:=⟨_,rfl⟩
 have hC3':=hC3.alloc CO
 have HW:=Lib.hid (want_at B r.1 0 ⟨#[]⟩ _ hC3')
 rw [← hdd,hCO] at HW
 have HD3:=Lib.hid (hD3.alloc CO)
 rw [hCO] at HD3
 have hz3:x1.heap.size < x3.heap.size:=(Array.getElem?_eq_some_iff.1 HA3.out.2.2).1
 have hBz:=hC3.lt
 have HA4:Hid ((x3.alloc CO).heap[w.heap.size]? = some chZ ∧ (x3.alloc CO).heap[w.heap.size + 1]? = some poZ ∧ (x3.alloc CO).heap[x1.heap.size]? = some poZ ∧ (x3.alloc CO).heap[x3.heap.size]? = some CO) :=
  Lib.hid ⟨(heap_alloc_old _ _ (by omega)).trans HA3.out.1,(heap_alloc_old _ _ (by omega)).trans HA3.out.2.1,(heap_alloc_old _ _ (by omega)).trans HA3.out.2.2,heap_alloc_new _ _⟩
 have HB4:=Lib.hid (HB3.out.alloc HB3.out.size CO)
 rw [hCO] at HA4 HB4
 have HDD:=Lib.hid hdd
 clear hC3 hD3 hb3 hdd hC3' HA3 HA2 HB2 HB3 HRD hCO
 go_wp2_with (go_at_call 21; (with_reducible refine HW.out.mono ?_))
 rintro e x5 ⟨rfl,hC5,hb5⟩
 have HA5:=Lib.hid (And.intro (blocks_but HA4.out.1 hb5 (by omega)) (And.intro (blocks_but HA4.out.2.1 hb5 (by omega)) (And.intro (blocks_but HA4.out.2.2.1 hb5 (by omega)) (grown_block HA4.out.2.2.2 hb5 (by omega)))))
 have hlt2:=HLT.out
 have HD5:=Lib.hid (HD3.out.go hb5 fun b hS e => by injection e with e; omega)
 have HB5:Hid (Below w.heap.size w x5):=Lib.hid (HB4.out.trans ⟨hb5.os,hb5.tape,hb5.output,hb5.size,fun i hi => hb5.block i (Nat.lt_of_lt_of_le hi HB4.out.size) (by simp; omega)⟩)
 have HF:=Lib.hid (fault_any _ _ _ _ x5 (Fl.of hC5))
 clear hC5 hb5 HA4 HB4 HD3 HW
 by_cases h0:d.bad = 0
 ·have HQ:Hid (P = ⟨r.2,0,0,0⟩):=Lib.hid (by rw [HP.out]; unfold endPc; rw [← HDD.out,if_neg (by simpa using h0)])
  have e1:(d.bad != 0) = false:=by simpa using h0
  clear h0
  go_wp2_with (go_at_call 22; (with_reducible refine HF.out.mono ?_))
  rintro e x6 ⟨rfl,hb6⟩
  have HB6:=Lib.hid (below_two' HB5.out hb6)
  have HA6:=Lib.hid (And.intro (block_on HA5.out.1 hb6) (And.intro (block_on HA5.out.2.1 hb6) (And.intro (block_on HA5.out.2.2.1 hb6) (block_on HA5.out.2.2.2 hb6))))
  have HD6:=Lib.hid (HD5.out.keep hb6)
  clear hb6 HA5 HB5 HD5
  obtain ⟨t0,t1⟩:=cells_2 HA6.out.2.2.1
  obtain ⟨u0,u1⟩:=free_2 HA6.out.2.2.1
  obtain ⟨y,hy⟩:∃ y,y = (x6.setCell ⟨x1.heap.size,0,none⟩ (.int .i64 d.a1)).setCell ⟨x1.heap.size,1,none⟩ (.int .i64 d.a2):=⟨_,rfl⟩
  have hg:x6.grownBy y (some x1.heap.size):=by rw [hy]; exact but_set (but_set (but_refl _ _) 0 _) 1 _
  have HA7:=Lib.hid (And.intro (grown_block HA6.out.1 hg (by omega)) (And.intro (grown_block HA6.out.2.1 hg (by omega)) (grown_block HA6.out.2.2.2 hg (by omega))))
  have HB7:Hid (Below w.heap.size w y):=Lib.hid (by rw [hy]; exact (HB6.out.setCell (by simp; omega) _).setCell (by simp; omega) _)
  have HD7:=Lib.hid (HD6.out.go hg fun b hS e => by injection e with e; omega)
  rw [hy] at HA7
  obtain ⟨q0,q1,q2,q3⟩:=cells_4 HA7.out.1
  obtain ⟨f0,f1,f2,f3⟩:=free_4 HA7.out.1
  obtain ⟨r0,r1⟩:=cells_2 HA7.out.2.1
  obtain ⟨g0,g1⟩:=free_2 HA7.out.2.1
  obtain ⟨v0,v1,v2,v3⟩:=cells_4 HA7.out.2.2
  have HST:=Lib.hid (store_42 HA7.out.1 HA7.out.2.1 (.string r.2.s) (.slice eA en ec) (.slice vA vn vc) (.slice sA sn sc) (.int .i64 0) (.int .i64 0))
  have HY:=Lib.hid hy
  clear hg hy
  go_wp2_with fail
  obtain ⟨p0,p1,p2,p3⟩:=cells_4 HST.out.1
  obtain ⟨p4,p5⟩:=cells_2 HST.out.2
  refine bodyPost_ret (v:=.tuple #[.agg #[.string r.2.s,.slice eA en ec,.slice vA vn vc,.slice sA sn sc],.agg #[.int .i64 0,.int .i64 0],.int .i64 0]) (by simp [results,Tryz.results10,go_sem,p0,p1,p2,p3,p4,p5]) rfl ?_
  have hb:=below_42 HB7.out (Nat.le_refl _) (.string r.2.s) (.slice eA en ec) (.slice vA vn vc) (.slice sA sn sc) (.int .i64 0) (.int .i64 0)
  have hch:=HD7.out (set42 y w.heap.size (.string r.2.s) (.slice eA en ec) (.slice vA vn vc) (.slice sA sn sc) (.int .i64 0) (.int .i64 0)) (by simp [World.setCell]) fun b _ hS => by
   rw [Below.heap_setCell _ _ _ _ (by simp; omega),Below.heap_setCell _ _ _ _ (by simp; omega),Below.heap_setCell _ _ _ _ (by simp; omega),Below.heap_setCell _ _ _ _ (by simp; omega),Below.heap_setCell _ _ _ _ (by simp; omega),Below.heap_setCell _ _ _ _ (by simp; omega)]
  rw [HY.out] at hb hch
  rw [HQ.out]
  exact ⟨eA,en,ec,vA,vn,vc,sA,sn,sc,rfl,hch,hb⟩
 ·have HQ:Hid (P = ⟨zeroC,d.a1,d.a2,d.bad⟩):=Lib.hid (by rw [HP.out]; unfold endPc; rw [← HDD.out,if_pos h0])
  have e1:(d.bad != 0) = true:=by simpa using h0
  clear h0
  go_wp2_with (go_at_call 22; (with_reducible refine HF.out.mono ?_))
  rintro e x6 ⟨rfl,hb6⟩
  have HB6:=Lib.hid (below_two' HB5.out hb6)
  have HA6:=Lib.hid (And.intro (block_on HA5.out.1 hb6) (And.intro (block_on HA5.out.2.1 hb6) (And.intro (block_on HA5.out.2.2.1 hb6) (block_on HA5.out.2.2.2 hb6))))
  clear hb6 HA5 HB5 HD5
  obtain ⟨t0,t1⟩:=cells_2 HA6.out.2.2.1
  obtain ⟨u0,u1⟩:=free_2 HA6.out.2.2.1
  obtain ⟨y,hy⟩:∃ y,y = (x6.setCell ⟨x1.heap.size,0,none⟩ (.int .i64 d.a1)).setCell ⟨x1.heap.size,1,none⟩ (.int .i64 d.a2):=⟨_,rfl⟩
  have hg:x6.grownBy y (some x1.heap.size):=by rw [hy]; exact but_set (but_set (but_refl _ _) 0 _) 1 _
  have HA7:=Lib.hid (And.intro (grown_block HA6.out.1 hg (by omega)) (grown_block HA6.out.2.1 hg (by omega)))
  have HB7:Hid (Below w.heap.size w y):=Lib.hid (by rw [hy]; exact (HB6.out.setCell (by simp; omega) _).setCell (by simp; omega) _)
  rw [hy] at HA7
  obtain ⟨q0,q1,q2,q3⟩:=cells_4 HA7.out.1
  obtain ⟨f0,f1,f2,f3⟩:=free_4 HA7.out.1
  obtain ⟨r0,r1⟩:=cells_2 HA7.out.2
  obtain ⟨g0,g1⟩:=free_2 HA7.out.2
  have HST:=Lib.hid (store_42 HA7.out.1 HA7.out.2 (.string ⟨#[]⟩) (.slice none 0 0) (.slice none 0 0) (.slice none 0 0) (.int .i64 d.a1) (.int .i64 d.a2))
  have HY:=Lib.hid hy
  clear hg hy
  go_wp2_with fail
  go_region
  go_wp2_with fail
  obtain ⟨p0,p1,p2,p3⟩:=cells_4 HST.out.1
  obtain ⟨p4,p5⟩:=cells_2 HST.out.2
  refine bodyPost_ret (v:=.tuple #[.agg #[.string ⟨#[]⟩,.slice none 0 0,.slice none 0 0,.slice none 0 0],.agg #[.int .i64 d.a1,.int .i64 d.a2],.int .i64 d.bad]) (by simp [results,Tryz.results10,go_sem,p0,p1,p2,p3,p4,p5]) rfl ?_
  have hb:=(below_42 HB7.out (Nat.le_refl _) (.string ⟨#[]⟩) (.slice none 0 0) (.slice none 0 0) (.slice none 0 0) (.int .i64 d.a1) (.int .i64 d.a2)).drew
  rw [HY.out] at hb
  rw [HQ.out]
  exact ⟨none,0,0,none,0,0,none,0,0,rfl,ChIn.zero _,hb⟩
theorem parse_chart (s:ByteArray) (w:World) (hp:PairsIn w) (hs:SignsIn w) (hz:s.size ≤ 9223372036854775807):Calls Tryz.prog 10 #[.string s] w (RetPc w (parseC s)):=by
 by_cases he:(scanT s.data.toList).2.2 = 0
 ·exact parse_chart_ok s w hp hs hz he
 ·exact parse_chart_bad s w hp he
end Go.Proofs.YtjfghaohogcfbaaGreatDoor
namespace Go.Proofs.YtjfghaohogcfbaaGreatDoor
namespace PrintSpec
open CurSpec TermSpec EvalSpec NamesSpec ExprSpec ScanSpec ActSpec TransSpec SynSpec
open ShapeSpec (Sh up sf endOf)
end PrintSpec
end Go.Proofs.YtjfghaohogcfbaaGreatDoor
namespace Go.Proofs.YtjfghaohogcfbaaGreatDoor
namespace PrintSpec
open CurSpec TermSpec EvalSpec NamesSpec ExprSpec ScanSpec ActSpec TransSpec SynSpec
open ShapeSpec (Sh up sf endOf SU)
section
variable (sh:List Sh) (l:List Ts)
end
section
variable {sh:List Sh} {l:List Ts}
theorem upF_desc (l:List Sh):∀ i,(up l i).Pairwise (· > ·):=by
 intro i
 induction i using Nat.strongRecOn with
 | ind i ih =>
   by_cases hp:0 ≤ ShapeSpec.par l i ∧ ShapeSpec.par l i < i
   ·rw [ShapeSpec.up_sf hp.1 hp.2]
    refine List.pairwise_cons.2 ⟨fun j hj => ShapeSpec.up_lt hj,ih _ (by omega)⟩
   ·rw [ShapeSpec.up_no hp]
    exact .nil
theorem sf_desc (l:List Sh) (i:Nat):(sf l i).Pairwise (· > ·):=List.pairwise_cons.2 ⟨fun _j hj => ShapeSpec.up_lt hj,upF_desc l i⟩
theorem desc_filter {i:Nat}:∀ {a:List Nat},a.Pairwise (· > ·) → i ∈ a → a.filter (fun j => decide (i ≤ j)) = a.filter (fun j => decide (i + 1 ≤ j)) ++ [i]
 | [],_,h => by simp at h
 | x :: r,hp,h => by
   obtain ⟨h1,h2⟩:=List.pairwise_cons.1 hp
   rcases List.mem_cons.1 h with rfl | h
   ·rw [List.filter_cons_of_pos (by simp),List.filter_cons_of_neg (by simp)]
    have e:∀ k,i ≤ k → r.filter (fun j => decide (k ≤ j)) = []:=fun k hk => List.filter_eq_nil_iff.2 fun j hj => by have:=h1 j hj; simp; omega
    rw [e i (Nat.le_refl _),e (i + 1) (by omega)]
    rfl
   ·have:=h1 i h
    rw [List.filter_cons_of_pos (by simp; omega),List.filter_cons_of_pos (by simp; omega),desc_filter h2 h]
    rfl
theorem kid_first (h:SU sh sh.length) {i:Nat} (hi:i < sh.length) (he:i + 1 < endOf sh i):up sh (i + 1) = sf sh i ∧ ShapeSpec.par sh (i + 1) = i ∧ i + 1 < sh.length:=by
 have hlt:i + 1 < sh.length:=by have:=(ShapeSpec.end_bd hi).2; omega
 have hin:=ShapeSpec.sf_up ((ShapeSpec.end_iff h hi hlt).2 ⟨by omega,he⟩) (by omega)
 obtain ⟨p,hp,hpl,hup,hpin⟩:=h.parn hlt (by omega)
 rw [Nat.add_sub_cancel] at hpin
 rw [hup] at hin
 have h1:=ShapeSpec.sf_le hpin
 have h2:=ShapeSpec.sf_le hin
 obtain rfl:p = i:=by omega
 exact ⟨hup,hp,hlt⟩
theorem kid_next (h:SU sh sh.length) {i m:Nat} (hi:i < sh.length) (hm:m < endOf sh i) (hup:up sh m = sf sh i) (him:i < m) :
 m < sh.length ∧ endOf sh m ≤ endOf sh i ∧ (endOf sh m < endOf sh i → up sh (endOf sh m) = sf sh i ∧ ShapeSpec.par sh (endOf sh m) = i):=by
 have hml:m < sh.length:=by have:=(ShapeSpec.end_bd hi).2; omega
 obtain ⟨a1,a2⟩:=ShapeSpec.end_bd hml
 have hm1:m ∈ sf sh (endOf sh m - 1):=(ShapeSpec.end_iff h hml (by omega)).2 ⟨by omega,by omega⟩
 have him1:i ∈ sf sh m:=ShapeSpec.up_in (by rw [hup]; exact ShapeSpec.sf_self _ _)
 have hi1:=(ShapeSpec.end_iff h hi (k:=endOf sh m - 1) (by omega)).1 (ShapeSpec.sf_sub hm1 him1)
 refine ⟨hml,by omega,fun hlt => ?_⟩
 have hel:endOf sh m < sh.length:=by have:=(ShapeSpec.end_bd hi).2; omega
 have hie:i ∈ up sh (endOf sh m):=ShapeSpec.sf_up ((ShapeSpec.end_iff h hi hel).2 ⟨by omega,hlt⟩) (by omega)
 obtain ⟨p,hp,hpl,hup2,hpin⟩:=h.parn hel (by omega)
 have hip:i ∈ sf sh p:=by rw [← hup2]; exact hie
 have hile:=ShapeSpec.sf_le hip
 have hpm:p < m:=by
  rcases Nat.lt_or_ge p m with h' | h'
  ·exact h'
  ·exfalso
   have:m ∈ sf sh p:=ShapeSpec.sf_chain hpin hm1 h'
   have h2:m ∈ sf sh (endOf sh m):=ShapeSpec.up_in (by rw [hup2]; exact this)
   have:=(ShapeSpec.end_iff h hml hel).1 h2
   omega
 have h3:=ShapeSpec.sf_up (ShapeSpec.sf_chain hm1 hpin (by omega)) (by omega:p ≠ m)
 rw [hup] at h3
 have:=ShapeSpec.sf_le h3
 obtain rfl:p = i:=by omega
 exact ⟨hup2,hp⟩
end
end PrintSpec
end Go.Proofs.YtjfghaohogcfbaaGreatDoor
namespace Go.Proofs.YtjfghaohogcfbaaGreatDoor
namespace PrintSpec
open CurSpec TermSpec EvalSpec NamesSpec ExprSpec ScanSpec ActSpec TransSpec SynSpec
open ShapeSpec (Sh up sf endOf SU)
structure Stand (sh:List Sh) (l:List Ts):Prop where
 eq:sh = l.map fun t => ⟨t.kind,t.par⟩
 su:SU sh sh.length
 deep:∀ i,i < sh.length → (up sh i).length ≤ 11
 few:sh.length ≤ 60
 ok:∀ t ∈ l,t.Ok
section
variable {sh:List Sh} {l:List Ts}
theorem Stand.len (H:Stand sh l):sh.length = l.length:=by rw [H.eq,List.length_map]
theorem Stand.at_ (H:Stand sh l) {i:Nat} (hi:i < sh.length):∃ t,l[i]? = some t ∧ t.Ok ∧ ShapeSpec.kind sh i = t.kind ∧ ShapeSpec.par sh i = t.par ∧ 1 ≤ t.kind ∧ t.kind ≤ 3:=by
 obtain ⟨t,ht⟩:=get_some (l:=l) (k:=i) (by rw [← H.len]; exact hi)
 have hs:sh[i]? = some ⟨t.kind,t.par⟩:=by rw [H.eq,List.getElem?_map,ht]; rfl
 have hk:=ShapeSpec.kind_at hs
 have hg:=H.su i hi
 simp only [ShapeSpec.goodB,Bool.and_eq_true,decide_eq_true_eq] at hg
 rw [hk] at hg
 exact ⟨t,ht,H.ok t (List.mem_of_getElem? ht),hk,ShapeSpec.par_at hs,hg.1.1,hg.1.2⟩
theorem Stand.leaf (H:Stand sh l) {i:Nat} (hi:i < sh.length) (hk:ShapeSpec.kind sh i = 1):endOf sh i = i + 1:=by
 obtain ⟨a1,a2⟩:=ShapeSpec.end_bd hi
 by_cases he:i + 1 < endOf sh i
 ·obtain ⟨-,h1,h2⟩:=kid_first H.su hi he
  have hg:=H.su (i + 1) h2
  simp only [ShapeSpec.goodB,ShapeSpec.hangB,Bool.and_eq_true,decide_eq_true_eq] at hg
  rw [if_neg (by omega)] at hg
  simp only [Bool.and_eq_true,decide_eq_true_eq,h1] at hg
  exact absurd hk hg.2.1.2
 ·omega
end
theorem Tc.Ok.stand {c:Tc} (h:c.Ok):Stand c.sh c.sts:=by
 obtain ⟨h1,h2,h3⟩:=ShapeSpec.chk_ok h.sh
 exact ⟨rfl,ShapeSpec.chk_su h.sh,h3,h1,h.sts⟩
end PrintSpec
end Go.Proofs.YtjfghaohogcfbaaGreatDoor
namespace Go.Proofs.YtjfghaohogcfbaaGreatDoor
namespace PrintSpec
open CurSpec TermSpec EvalSpec NamesSpec ExprSpec ScanSpec ActSpec TransSpec SynSpec
open ShapeSpec (Sh up sf endOf SU)
theorem flat_le {α β:Type} (f:α → List β) (w:α → Nat) (A B:Nat):∀ {L:List α},(∀ x ∈ L,(f x).length ≤ A + B * w x) → (L.flatMap f).length ≤ A * L.length + B * (L.map w).sum
 | [],_ => by simp
 | x :: r,h => by
   have h1:=h x (by simp)
   have h2:=flat_le f w A B (L:=r) fun y hy => h y (by simp [hy])
   rw [List.flatMap_cons,List.length_append,List.length_cons,List.map_cons,List.sum_cons,Nat.mul_add,Nat.mul_add]
   omega
def wA (ts:List Ta):Nat:=(ts.map fun t => 1 + t.ac.x.length).sum
def wT (t:Tt):Nat:=1 + wA t.ts + (gFlat t.g).length
def wS (t:Ts):Nat:=wA t.en + wA t.ex + (t.tr.map wT).sum
theorem txA_w {t:Ta} (h:t.Ok):(txA t).size ≤ 30 * (1 + t.ac.x.length) ∧ (ActSpec.tkA t).length ≤ 2 + 6 * t.ac.x.length:=by
 have h1:=name_size h.1
 unfold txA ActSpec.tkA Ta.ac
 rcases ha:t.any with _ | _
 ·have h2:=tx_size (h.2 ha).1
  have h3:=tk_len (h.2 ha).1
  simp only [Bool.false_eq_true,if_false,ByteArray.size_append,List.length_cons]
  constructor
  ·show t.s.size + 4 + (tx t.e).size ≤ _
   omega
  ·omega
 ·simp only [if_true,ByteArray.size_append,List.length_cons,List.length_nil]
  constructor
  ·show 4 + t.s.size ≤ _
   omega
  ·omega
theorem putT_w:∀ {ts:List Ta},(∀ t ∈ ts,t.Ok) → (putT ts).length ≤ 32 * wA ts ∧ (tkL ts).length ≤ 6 * wA ts
 | [],_ => by simp [putT,Lib.join_nil,tkL]
 | [t],h => by
   obtain ⟨h1,h2⟩:=txA_w (h t (by simp))
   have h3:(T (txA t)).length = (txA t).size:=rfl
   rw [putT_one,h3]
   simp only [tkL,wA,List.map_cons,List.map_nil,List.sum_cons,List.sum_nil]
   omega
 | t :: u :: r,h => by
   obtain ⟨h1,h2⟩:=txA_w (h t (by simp))
   obtain ⟨k1,k2⟩:=putT_w (ts:=u :: r) (fun v hv => h v (by simp only [List.mem_cons] at hv ⊢; exact .inr hv))
   have h3:(T (txA t)).length = (txA t).size:=rfl
   rw [putT_cons]
   simp only [List.length_append,List.length_cons,List.length_nil,h3,tkL,wA,List.map_cons,List.sum_cons] at k1 k2 ⊢
   omega
theorem txT_w {x:Tt} (h:x.Ok):(T (txT x)).length ≤ 43 * wT x ∧ (tkT x).length ≤ 8 * wT x:=by
 have h1:=headB_size h
 have h4:=tgB_size h.tg
 obtain ⟨h3,h3'⟩:=putT_w h.ts
 have hg:(guardB x.g).size ≤ 3 + 30 * (gFlat x.g).length ∧ (tkG x.g).length ≤ 2 + 6 * (gFlat x.g).length:=by
  have hx:=h.g
  cases hx':x.g with
  | none => exact ⟨by show 0 ≤ _; omega,by simp [tkG]⟩
  | some e =>
    obtain ⟨a,-⟩:=hx e hx'
    have b1:=tx_size a
    have b2:=tk_len a
    constructor
    ·unfold guardB
     rw [ByteArray.size_append,ByteArray.size_append]
     show 2 + _ + 1 ≤ 3 + 30 * (flat e).length
     omega
    ·simp only [tkG,List.length_cons,List.length_append,List.length_nil]
     show _ ≤ 2 + 6 * (flat e).length
     omega
 have ha:(actsB x.ts).size ≤ 3 + 32 * wA x.ts ∧ (tkC x.ts).length ≤ 1 + 6 * wA x.ts:=by
  unfold actsB tkC
  by_cases h0:x.ts = []
  ·rw [if_pos h0,if_pos h0]
   exact ⟨by show 0 ≤ _; omega,by simp⟩
  ·rw [if_neg h0,if_neg h0,ByteArray.size_append,List.length_cons]
   have:(putB x.ts).size = (putT x.ts).length:=by rw [← putB_T]; rfl
   exact ⟨by show 3 + _ ≤ _; omega,by omega⟩
 have h5:(tkH x).length ≤ 2:=by unfold tkH; split <;> simp
 have h6:(tkD x.tg).length ≤ 2:=by unfold tkD; split <;> simp
 constructor
 ·show (txT x).size ≤ _
  unfold txT wT
  simp only [ByteArray.size_append]
  show _ + _ + _ + _ + 1 ≤ _
  omega
 ·unfold tkT wT
  simp only [List.length_append,List.length_cons,List.length_nil]
  omega
theorem inT_len (n:Nat):(inT n).length = 2 * n:=by simp [inT]
theorem lineA_w {w:List UInt8} (hw:w.length ≤ 5) {n:Nat} (hn:n ≤ 13) {ts:List Ta} (h:∀ t ∈ ts,t.Ok):(lineA w n ts).length ≤ 34 + 32 * wA ts ∧ (actK w ts).length ≤ 2 + 6 * wA ts:=by
 obtain ⟨h1,h2⟩:=putT_w h
 unfold lineA actK
 by_cases h0:ts = []
 ·rw [if_pos h0,if_pos h0]
  simp
 ·rw [if_neg h0,if_neg h0]
  simp only [List.length_append,List.length_cons,List.length_nil,inT_len]
  omega
theorem insT_w {n:Nat} (hn:n ≤ 13) {t:Ts} (h:t.Ok):(insT n t).length ≤ 68 + 70 * wS t ∧ (insK t).length ≤ 4 + 8 * wS t:=by
 obtain ⟨a1,a2⟩:=lineA_w (w:=[101,110,116,101,114]) (by decide) hn h.en
 obtain ⟨b1,b2⟩:=lineA_w (w:=[101,120,105,116]) (by decide) hn h.ex
 have c1:=flat_le (lineT n) wT 0 70 (L:=t.tr) fun x hx => by
  have:=(txT_w (h.tr x hx)).1
  have h0:1 ≤ wT x:=by unfold wT; omega
  simp only [lineT,List.length_append,List.length_cons,List.length_nil,inT_len]
  omega
 have c2:=flat_le tkT wT 0 8 (L:=t.tr) fun x hx => by
  have:=(txT_w (h.tr x hx)).2
  omega
 unfold insT insK wS
 simp only [List.length_append]
 omega
theorem word_len (k:Int):(wordT k).length ≤ 4:=by
 unfold wordT
 split
 ·simp
 ·split <;> simp
section
variable {sh:List Sh} {l:List Ts}
theorem stT_w (H:Stand sh l) {i:Nat} (hi:i < sh.length):(stT sh l i ++ closT sh l i).length ≤ 424 + 70 * (l[i]?).elim 0 wS ∧ (stK sh l i ++ closK sh l i).length ≤ 19 + 8 * (l[i]?).elim 0 wS:=by
 obtain ⟨t,ht,hok,-,-,-,-⟩:=H.at_ hi
 have hd:=H.deep i hi
 have hn:=name_size hok.nm
 have hw:=word_len t.kind
 have hT:(T t.s).length = t.s.size:=rfl
 obtain ⟨a1,a2⟩:=insT_w (n:=(up sh i).length + 2) (by omega) hok
 have c1:(closT sh l i).length ≤ 26 * (sf sh i).length:=by
  have:=flat_le (oneT sh l i) (fun _ => 0) 26 0 (L:=sf sh i) fun j hj => by
   have hj':=H.deep j (by have:=ShapeSpec.sf_le hj; omega)
   unfold oneT
   split
   ·simp only [List.length_append,List.length_cons,List.length_nil,inT_len]; omega
   ·simp
  unfold closT
  omega
 have c2:(closK sh l i).length ≤ 1 * (sf sh i).length:=by
  have:=flat_le (oneK sh l i) (fun _ => 0) 1 0 (L:=sf sh i) fun j _ => by
   unfold oneK
   split <;> simp
  unfold closK
  omega
 have hsf:(sf sh i).length = (up sh i).length + 1:=rfl
 have s1:(stT sh l i).length ≤ 112 + 70 * wS t ∧ (stK sh l i).length ≤ 7 + 8 * wS t:=by
  unfold stT stK
  rw [ht]
  simp only [Option.elim]
  split
  ·simp only [headT,headK,List.length_append,List.length_cons,List.length_nil,inT_len]
   omega
  ·simp only [headT,headK,List.length_append,List.length_cons,List.length_nil,inT_len]
   omega
 rw [ht]
 simp only [List.length_append,Option.elim]
 omega
end
theorem sep_w:∀ {l:List ByteArray},(∀ e ∈ l,isName e.data.toList = true) → (sepT l).length ≤ 14 * l.length ∧ (sepK l).length ≤ 2 * l.length
 | [],_ => by simp [sepT,Lib.join_nil,sepK]
 | [s],h => by
   have:=name_size (h s (by simp))
   have hT:(T s).length = s.size:=rfl
   unfold sepT
   rw [List.map_cons,List.map_nil,Lib.join_one]
   simp only [sepK,List.length_cons,List.length_nil]
   omega
 | s :: u :: r,h => by
   have:=name_size (h s (by simp))
   have hT:(T s).length = s.size:=rfl
   obtain ⟨h1,h2⟩:=sep_w (l:=u :: r) (fun e he => h e (by simp only [List.mem_cons] at he ⊢; exact .inr he))
   unfold sepT at h1 ⊢
   rw [List.map_cons] at h1
   rw [List.map_cons,List.map_cons,join_two]
   simp only [sepK,List.length_append,List.length_cons,List.length_nil] at h1 h2 ⊢
   omega
theorem int_len {n:Int} (h:smallV n = true):(ValSpec.text n).length ≤ 8 ∧ (intK n).length ≤ 2:=by
 have h1:=small_abs h
 have:=ValSpec.digs_len 6 n.natAbs (by omega)
 unfold ValSpec.text intK
 split
 ·simp only [List.length_append,List.length_cons,List.length_nil]; omega
 ·simp only [List.length_append,List.length_cons,List.length_nil]; omega
theorem var_w {v:Vr} (h:okV v = true):(varT v).length ≤ 70 ∧ (varK v).length ≤ 12:=by
 simp only [okV,Bool.and_eq_true] at h
 obtain ⟨h1,h2,h3,h4⟩:=h
 have a:=int_len h2
 have b:=int_len h3
 have c:=int_len h4
 have d:=name_size h1
 have hT:(T v.s).length = v.s.size:=rfl
 unfold varT varK
 simp only [List.length_append,List.length_cons,List.length_nil,inT_len]
 omega
end PrintSpec
end Go.Proofs.YtjfghaohogcfbaaGreatDoor
namespace Go.Proofs.YtjfghaohogcfbaaGreatDoor
namespace FormSpec
open CurSpec TermSpec EvalSpec NamesSpec ExprSpec ActSpec TransSpec SynSpec PrintSpec ScanSpec
structure Fo where
 t:ByteArray
 l:Int
 c:Int
 er:Int
def FoBad (s:ByteArray) (o:Fo):Prop:=(parseC s).er ≠ 0 ∧ o = ⟨⟨#[]⟩,(parseC s).l,(parseC s).c,(parseC s).er⟩
def FoOk (c:Tc) (o:Fo):Prop:=c.Ok ∧ o = if (scanT (T (bs (putC c)))).2.2 = 0 then ⟨bs (putC c),0,0,0⟩ else ⟨⟨#[]⟩,0,0,5⟩
def FoIs (s:ByteArray) (o:Fo):Prop:=FoBad s o ∨ ∃ c:Tc,parseC s = ⟨c.cx,0,0,0⟩ ∧ FoOk c o
end FormSpec
end Go.Proofs.YtjfghaohogcfbaaGreatDoor
namespace Go.Proofs.YtjfghaohogcfbaaGreatDoor
open Go.RowKit TermSpec EvalSpec ValSpec
end Go.Proofs.YtjfghaohogcfbaaGreatDoor
namespace Go.Proofs.YtjfghaohogcfbaaGreatDoor
open Go.RowKit TermSpec EvalSpec NamesSpec Go.Lib ValSpec
end Go.Proofs.YtjfghaohogcfbaaGreatDoor
namespace Go.Proofs.YtjfghaohogcfbaaGreatDoor
open Go.RowKit TermSpec EvalSpec NamesSpec Go.Lib ValSpec
end Go.Proofs.YtjfghaohogcfbaaGreatDoor
namespace Go.Proofs.YtjfghaohogcfbaaGreatDoor
open Go.RowKit TermSpec EvalSpec NamesSpec
end Go.Proofs.YtjfghaohogcfbaaGreatDoor
namespace Go.Proofs.YtjfghaohogcfbaaGreatDoor
open Go.RowKit TermSpec EvalSpec
end Go.Proofs.YtjfghaohogcfbaaGreatDoor
namespace Go.Proofs.YtjfghaohogcfbaaGreatDoor
open Go.RowKit TermSpec EvalSpec ActSpec NamesSpec
end Go.Proofs.YtjfghaohogcfbaaGreatDoor
namespace Go.Proofs.YtjfghaohogcfbaaGreatDoor
open Go.RowKit ShapeSpec
structure StC where
 s:ByteArray
 sh:Sh
 a3:Option Addr
 n3:Nat
 c3:Nat
 a4:Option Addr
 n4:Nat
 c4:Nat
 a5:Option Addr
 n5:Nat
 c5:Nat
def stV (t:StC):List Value:=[.string t.s,.int .i64 t.sh.kind,.int .i64 t.sh.par,.slice t.a3 t.n3 t.c3,.slice t.a4 t.n4 t.c4,.slice t.a5 t.n5 t.c5]
def stsV (l:List StC):List Value:=l.flatMap stV
theorem stV_length (t:StC):(stV t).length = 6:=rfl
def Sts (w:World) (v:Value) (l:List Sh):Prop:=∃ xs:List StC,l = xs.map (·.sh) ∧ Rdk 6 w v l.length (stsV xs)
theorem Sts.keep {w w':World} {v:Value} {l:List Sh} (h:Sts w v l) (hb:Below w.heap.size w w'):Sts w' v l:=by
 obtain ⟨xs,hx,h⟩:=h
 exact ⟨xs,hx,h.keep hb⟩
theorem Sts.alloc {w:World} {v:Value} {l:List Sh} (h:Sts w v l) (o:Obj):Sts (w.alloc o) v l:=h.keep ((Below.refl _ _).alloc (Nat.le_refl _) _)
theorem Sts.shape {w:World} {v:Value} {l:List Sh} (h:Sts w v l):∃ A n c,v = .slice A n c ∧ n = l.length ∧ n ≤ c:=by
 obtain ⟨xs,hx,A,c,hv,hc,_⟩:=h
 exact ⟨A,_,c,hv,rfl,hc⟩
theorem Sts.all {w:World} {A:Option Addr} {n c:Nat} {l:List Sh} {i:Nat} {t:Sh} (h:Sts w (.slice A n c) l) (hi:l[i]? = some t) :
 ∃ b off s a3 n3 c3 a4 n4 c4 a5 n5 c5,A = some ⟨b,off,none⟩ ∧ b < w.heap.size ∧ w.cell? ⟨b,off + i * 6,none⟩ = some (.string s) ∧ w.cell? ⟨b,off + i * 6 + 1,none⟩ = some (.int .i64 t.kind) ∧ w.cell? ⟨b,off + i * 6 + 2,none⟩ = some (.int .i64 t.par) ∧
   w.cell? ⟨b,off + i * 6 + 3,none⟩ = some (.slice a3 n3 c3) ∧ w.cell? ⟨b,off + i * 6 + 4,none⟩ = some (.slice a4 n4 c4) ∧ w.cell? ⟨b,off + i * 6 + 5,none⟩ = some (.slice a5 n5 c5):=by
 obtain ⟨xs,rfl,A',c',heq,hc,hl,hA⟩:=h
 cases heq
 have hlt:=get_lt hi
 rw [List.getElem?_map] at hi
 obtain ⟨x,hx,rfl⟩:=Option.map_eq_some_iff.1 hi
 obtain ⟨b,off,rfl,hb,hcell⟩:=hA (by omega)
 refine ⟨b,off,x.s,x.a3,x.n3,x.c3,x.a4,x.n4,x.c4,x.a5,x.n5,x.c5,rfl,hb,?_,?_,?_,?_,?_,?_⟩
 ·exact hcell _ _ (flat_get (j:=0) stV_length hx (by omega))
 ·rw [Nat.add_assoc]; exact hcell _ _ (flat_get (j:=1) stV_length hx (by omega))
 ·rw [Nat.add_assoc]; exact hcell _ _ (flat_get (j:=2) stV_length hx (by omega))
 ·rw [Nat.add_assoc]; exact hcell _ _ (flat_get (j:=3) stV_length hx (by omega))
 ·rw [Nat.add_assoc]; exact hcell _ _ (flat_get (j:=4) stV_length hx (by omega))
 ·rw [Nat.add_assoc]; exact hcell _ _ (flat_get (j:=5) stV_length hx (by omega))
theorem Sts.at_ {w:World} {A:Option Addr} {n c:Nat} {l:List Sh} {i:Nat} (h:Sts w (.slice A n c) l) (hi:i < n) :
 ∃ b off,A = some ⟨b,off,none⟩ ∧ b < w.heap.size ∧ w.cell? ⟨b,off + i * 6 + 1,none⟩ = some (.int .i64 (kind l i)) ∧ w.cell? ⟨b,off + i * 6 + 2,none⟩ = some (.int .i64 (par l i)):=by
 obtain ⟨_,m,_,heq,hm,_⟩:=h.shape
 cases heq
 obtain ⟨t,ht⟩:∃ t,l[i]? = some t:=get_some (by omega)
 obtain ⟨b,off,s,a3,n3,c3,a4,n4,c4,a5,n5,c5,rfl,hb,h0,h1,h2,_⟩:=h.all ht
 rw [kind_at ht,par_at ht]
 exact ⟨b,off,rfl,hb,h1,h2⟩
theorem Sts.len {w:World} {A:Option Addr} {n c:Nat} {l:List Sh} (h:Sts w (.slice A n c) l):n = l.length:=by
 obtain ⟨_,m,_,heq,hm,_⟩:=h.shape
 cases heq
 exact hm
end Go.Proofs.YtjfghaohogcfbaaGreatDoor