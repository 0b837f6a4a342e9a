/- SynParse, PrintRead, joined. -/
import Derived.Test.YtjfghaohogcfbaaGreatDoorMFormatTwice25
import Derived.Test.YtjfghaohogcfbaaGreatDoorMFormatTwice16
import Derived.Test.YtjfghaohogcfbaaGreatDoorMFormatTwice18
namespace Go.Proofs.YtjfghaohogcfbaaGreatDoor
open Go.RowKit CurSpec TermSpec EvalSpec ActSpec NamesSpec ExprSpec TransSpec SynSpec ScanSpec
set_option maxRecDepth 100000
structure Pc where
 x:Cx
 l:Int
 c:Int
 er:Int
def endPc (r:Cur × Cx):Pc:=if (want r.1 0 ⟨#[]⟩).bad ≠ 0 then ⟨zeroC,(want r.1 0 ⟨#[]⟩).a1,(want r.1 0 ⟨#[]⟩).a2,(want r.1 0 ⟨#[]⟩).bad⟩ else ⟨r.2,0,0,0⟩
def parseC (s:ByteArray):Pc :=
 if (scanT s.data.toList).2.2 ≠ 0 then ⟨zeroC,(pos s.data.toList (scanT s.data.toList).2.1).1,(pos s.data.toList (scanT s.data.toList).2.1).2,(scanT s.data.toList).2.2⟩ else endPc (readC (cur0 (tkAll s)))
theorem toks_at {s:ByteArray} {W w:World} {e:Ending} (h:TokPost W s e w) (h0:(scanT s.data.toList).2.2 = 0) :
 ∃ A n cp,e = .returned (.tuple #[.slice A n cp,.agg #[.int .i64 0,.int .i64 0],.int .i64 0]) ∧ Toks w (.slice A n cp) (tkAll s) ∧ n ≤ 4001 ∧ Below W.heap.size W w:=by
 obtain ⟨hb,-,hv⟩:=h
 obtain ⟨v,rfl,A,cp,rfl,hrest⟩:=hv h0
 refine ⟨A,_,cp,rfl,?_,scanT_len _,hb⟩
 exact ⟨_,by simp [tkAll],A,cp,rfl,hrest.1,by rw [show tkAll s = (scanT s.data.toList).1.map (tokOf s) from rfl,← toks_map]; exact hrest.2.1,by rw [show tkAll s = (scanT s.data.toList).1.map (tokOf s) from rfl,← toks_map]; exact hrest.2.2⟩
def RetPc (W:World) (p:Pc) (e:Ending) (w':World):Prop :=
 ∃ eA en ec vA vn vc sA sn sc,e = .returned (.tuple #[.agg #[.string p.x.s,.slice eA en ec,.slice vA vn vc,.slice sA sn sc],.agg #[.int .i64 p.l,.int .i64 p.c],.int .i64 p.er]) ∧ ChIn w' (.slice eA en ec) (.slice vA vn vc) (.slice sA sn sc) p.x ∧ Below W.heap.size W w'
abbrev chZ:Obj:=.cells #[.string ⟨#[]⟩,.slice none 0 0,.slice none 0 0,.slice none 0 0] 33
abbrev poZ:Obj:=.cells #[.int .i64 0,.int .i64 0] 24
theorem pb_zero (w:World):(Instr.build 24 #[]).run Tryz.prog w = .ok (.agg #[.int .i64 0,.int .i64 0]) w:=run_build w 24 _ _ (by kernel_rfl)
abbrev set42 (w:World) (b:Nat) (u0 u1 u2 u3 v0 v1:Value):World:=(((((w.setCell ⟨b,0,none⟩ u0).setCell ⟨b,1,none⟩ u1).setCell ⟨b,2,none⟩ u2).setCell ⟨b,3,none⟩ u3).setCell ⟨b + 1,0,none⟩ v0).setCell ⟨b + 1,1,none⟩ v1
theorem store_42 {w:World} {b:Nat} {T T2:TypeId} {z0 z1 z2 z3 y0 y1:Value} (h1:w.heap[b]? = some (.cells #[z0,z1,z2,z3] T (0,0))) (h2:w.heap[b + 1]? = some (.cells #[y0,y1] T2 (0,0))) (u0 u1 u2 u3 v0 v1:Value) :
 (set42 w b u0 u1 u2 u3 v0 v1).heap[b]? = some (.cells #[u0,u1,u2,u3] T (0,0)) ∧ (set42 w b u0 u1 u2 u3 v0 v1).heap[b + 1]? = some (.cells #[v0,v1] T2 (0,0)):=by
 have k1:=block_setCell' (block_setCell' (block_setCell' (block_setCell' h1 0 u0) 1 u1) 2 u2) 3 u3
 have k2:((((w.setCell ⟨b,0,none⟩ u0).setCell ⟨b,1,none⟩ u1).setCell ⟨b,2,none⟩ u2).setCell ⟨b,3,none⟩ u3).heap[b + 1]? = some (.cells #[y0,y1] T2 (0,0)):=by
  rw [Below.heap_setCell _ _ _ _ (by simp),Below.heap_setCell _ _ _ _ (by simp),Below.heap_setCell _ _ _ _ (by simp),Below.heap_setCell _ _ _ _ (by simp)]
  exact h2
 refine ⟨?_,block_setCell' (block_setCell' k2 0 v0) 1 v1⟩
 rw [Below.heap_setCell _ _ _ _ (by simp),Below.heap_setCell _ _ _ _ (by simp)]
 exact k1
theorem below_42 {B:Nat} {w x:World} {b:Nat} (h:Below B w x) (hb:B ≤ b) (u0 u1 u2 u3 v0 v1:Value):Below B w (set42 x b u0 u1 u2 u3 v0 v1) :=
 (below_4 h hb u0 u1 u2 u3).setCell (by simp; omega) v0 |>.setCell (by simp; omega) v1
set_option maxRecDepth 100000 in
set_option maxHeartbeats 8000000 in
theorem parse_chart_bad (s:ByteArray) (w:World) (hp:PairsIn w) (he:(scanT s.data.toList).2.2 ≠ 0):Calls Tryz.prog 10 #[.string s] w (RetPc w (parseC s)):=by
 have b1:=cb_zero
 have b2:=pb_zero
 have HT:=Lib.hid (stoks_any s ((w.alloc chZ).alloc poZ) ((hp.alloc _).alloc _))
 obtain ⟨er,her⟩:∃ er,er = (scanT s.data.toList).2.2:=⟨_,rfl⟩
 obtain ⟨l,hl⟩:∃ l,l = (pos s.data.toList (scanT s.data.toList).2.1).1:=⟨_,rfl⟩
 obtain ⟨c,hc⟩:∃ c,c = (pos s.data.toList (scanT s.data.toList).2.1).2:=⟨_,rfl⟩
 have HP:Hid (parseC s = ⟨zeroC,l,c,er⟩):=Lib.hid (by unfold parseC; rw [if_pos he,← her,← hl,← hc])
 rw [← her] at he
 have e1:(er != 0) = true:=by simpa using he
 have HX:=Lib.hid (fun e w' (h:TokPost ((w.alloc chZ).alloc poZ) s e w') => by
  have:=h.2.1 (by rw [← her]; exact he)
  rw [← her,← hl,← hc] at this
  exact And.intro this h.1)
 clear hp he her hl hc
 go_enter Tryz.func10,Tryz.ntmps10
 go_wp2_with (go_at_call 18; (with_reducible refine HT.out.mono ?_))
 intro e x1 hx1
 obtain ⟨rfl,hb1⟩:=HX.out e x1 hx1
 obtain ⟨k1,k2,hB1,hz1⟩:=pair_blocks hb1
 have HB1:=Lib.hid hB1
 have HK1:=Lib.hid (And.intro k1 k2)
 clear hx1 hb1 hB1 k1 k2
 have HA:Hid ((x1.alloc (.cells #[.int .i64 l,.int .i64 c] 24)).heap[w.heap.size]? = some chZ ∧ (x1.alloc (.cells #[.int .i64 l,.int .i64 c] 24)).heap[w.heap.size + 1]? = some poZ) :=
  Lib.hid ⟨(heap_alloc_old _ _ (by omega)).trans HK1.out.1,(heap_alloc_old _ _ (by omega)).trans HK1.out.2⟩
 obtain ⟨q0,q1,q2,q3⟩:=cells_4 HA.out.1
 obtain ⟨f0,f1,f2,f3⟩:=free_4 HA.out.1
 obtain ⟨r0,r1⟩:=cells_2 HA.out.2
 obtain ⟨g0,g1⟩:=free_2 HA.out.2
 go_wp2_with fail
 go_region
 have HS:=Lib.hid (store_42 HA.out.1 HA.out.2 (.string ⟨#[]⟩) (.slice none 0 0) (.slice none 0 0) (.slice none 0 0) (.int .i64 l) (.int .i64 c))
 go_wp2_with fail
 obtain ⟨p0,p1,p2,p3⟩:=cells_4 HS.out.1
 obtain ⟨p4,p5⟩:=cells_2 HS.out.2
 refine bodyPost_ret (v:=.tuple #[.agg #[.string ⟨#[]⟩,.slice none 0 0,.slice none 0 0,.slice none 0 0],.agg #[.int .i64 l,.int .i64 c],.int .i64 er]) (by simp [results,Tryz.results10,go_sem,p0,p1,p2,p3,p4,p5]) rfl ?_
 rw [HP.out]
 exact ⟨none,0,0,none,0,0,none,0,0,rfl,ChIn.zero _,(below_42 (HB1.out.alloc HB1.out.size _) (Nat.le_refl _) _ _ _ _ _ _).drew⟩
theorem blocks_but {w w':World} {B b:Nat} {o:Obj} (h:w.heap[b]? = some o) (hb:w.grownBy w' (some B)) (hlt:b < B):w'.heap[b]? = some o:=grown_block h hb (by omega)
set_option maxRecDepth 100000 in
set_option maxHeartbeats 8000000 in
theorem parse_chart_ok (s:ByteArray) (w:World) (hp:PairsIn w) (hs:SignsIn w) (hz:s.size ≤ 9223372036854775807) (he:(scanT s.data.toList).2.2 = 0):Calls Tryz.prog 10 #[.string s] w (RetPc w (parseC s)):=by
 have b1:=cb_zero
 have b2:=pb_zero
 have HT:=Lib.hid (stoks_any s ((w.alloc chZ).alloc poZ) ((hp.alloc _).alloc _))
 have HP:Hid (parseC s = endPc (readC (cur0 (tkAll s)))):=Lib.hid (if_neg (fun h => h he))
 have HX:=Lib.hid (fun e w' (h:TokPost ((w.alloc chZ).alloc poZ) s e w') => toks_at h he)
 have HS:=Lib.hid hs
 have HOK:=Lib.hid (tkAll_ok s hz)
 obtain ⟨P,hP⟩:∃ P,P = parseC s:=⟨_,rfl⟩
 rw [← hP] at HP ⊢
 obtain ⟨L,hL⟩:∃ L,L = tkAll s:=⟨_,rfl⟩
 rw [← hL] at HP HX HOK
 clear hp he hs hz hP hL
 go_enter Tryz.func10,Tryz.ntmps10
 go_wp2_with (go_at_call 18; (with_reducible refine HT.out.mono ?_))
 intro e x1 hx1
 obtain ⟨A,n,cp,rfl,hT,hn,hb1⟩:=HX.out e x1 hx1
 obtain ⟨k1,k2,hB1,hz1⟩:=pair_blocks hb1
 have HNEW:=Lib.hid (new_any A n cp L _ (hT.alloc (.cells #[.int .i64 0,.int .i64 0] 24)) (by omega))
 have HB1:=Lib.hid (hB1.alloc hB1.size (.cells #[.int .i64 0,.int .i64 0] 24))
 have HA:Hid ((x1.alloc (.cells #[.int .i64 0,.int .i64 0] 24)).heap[w.heap.size]? = some chZ ∧ (x1.alloc (.cells #[.int .i64 0,.int .i64 0] 24)).heap[w.heap.size + 1]? = some poZ ∧ (x1.alloc (.cells #[.int .i64 0,.int .i64 0] 24)).heap[x1.heap.size]? = some poZ) :=
  Lib.hid ⟨(heap_alloc_old _ _ (by omega)).trans k1,(heap_alloc_old _ _ (by omega)).trans k2,heap_alloc_new _ _⟩
 clear hx1 hb1 hB1 k1 k2 hT hn HX HT
 go_wp2_with (go_at_call 19; (with_reducible refine HNEW.out.mono ?_))
 rintro e x2 ⟨B,rfl,hBs,hC2,hb2⟩
 have HB2:=Lib.hid (below_two' HB1.out hb2)
 have HA2:=Lib.hid (And.intro (block_on HA.out.1 hb2) (And.intro (block_on HA.out.2.1 hb2) (block_on HA.out.2.2 hb2)))
 have hBs':x1.heap.size < B:=by rw [World.size_alloc] at hBs; omega
 have HRD:=Lib.hid (read_at_chart B (cur0 L) x2 (HS.out.keep HB2.out) hC2 HOK.out)
 obtain ⟨r,hr⟩:∃ r,r = readC (cur0 L):=⟨_,rfl⟩
 rw [← hr] at HRD HP
 have HLT:=Lib.hid hC2.lt
 clear hBs hC2 hb2 hr HA HB1 HNEW
 go_wp2_with (go_at_call 20; (with_reducible refine HRD.out.mono ?_))
 rintro e x3 ⟨eA,en,ec,vA,vn,vc,sA,sn,sc,rfl,hC3,hD3,hb3⟩
 have HA3:=Lib.hid (And.intro (blocks_but HA2.out.1 hb3 (by omega)) (And.intro (blocks_but HA2.out.2.1 hb3 (by omega)) (blocks_but HA2.out.2.2 hb3 (by omega))))
 obtain ⟨d,hdd⟩:∃ d,d = want r.1 0 ⟨#[]⟩:=⟨_,rfl⟩
 have HB3:Hid (Below w.heap.size w x3):=Lib.hid (HB2.out.trans ⟨hb3.os,hb3.tape,hb3.output,hb3.size,fun i hi => hb3.block i (Nat.lt_of_lt_of_le hi HB2.out.size) (by simp; omega)⟩)
 obtain ⟨CO,hCO⟩:∃ CO:Obj,CO = .cells #[.string r.2.s,.slice eA en ec,.slice vA vn vc,.slice sA sn sc] 33:=⟨_,rfl⟩
 have hC3':=hC3.alloc CO
 have HW:=Lib.hid (want_at B r.1 0 ⟨#[]⟩ _ hC3')
 rw [← hdd,hCO] at HW
 have HD3:=Lib.hid (hD3.alloc CO)
 rw [hCO] at HD3
 have hz3:x1.heap.size < x3.heap.size:=(Array.getElem?_eq_some_iff.1 HA3.out.2.2).1
 have hBz:=hC3.lt
 have HA4:Hid ((x3.alloc CO).heap[w.heap.size]? = some chZ ∧ (x3.alloc CO).heap[w.heap.size + 1]? = some poZ ∧ (x3.alloc CO).heap[x1.heap.size]? = some poZ ∧ (x3.alloc CO).heap[x3.heap.size]? = some CO) :=
  Lib.hid ⟨(heap_alloc_old _ _ (by omega)).trans HA3.out.1,(heap_alloc_old _ _ (by omega)).trans HA3.out.2.1,(heap_alloc_old _ _ (by omega)).trans HA3.out.2.2,heap_alloc_new _ _⟩
 have HB4:=Lib.hid (HB3.out.alloc HB3.out.size CO)
 rw [hCO] at HA4 HB4
 have HDD:=Lib.hid hdd
 clear hC3 hD3 hb3 hdd hC3' HA3 HA2 HB2 HB3 HRD hCO
 go_wp2_with (go_at_call 21; (with_reducible refine HW.out.mono ?_))
 rintro e x5 ⟨rfl,hC5,hb5⟩
 have HA5:=Lib.hid (And.intro (blocks_but HA4.out.1 hb5 (by omega)) (And.intro (blocks_but HA4.out.2.1 hb5 (by omega)) (And.intro (blocks_but HA4.out.2.2.1 hb5 (by omega)) (grown_block HA4.out.2.2.2 hb5 (by omega)))))
 have hlt2:=HLT.out
 have HD5:=Lib.hid (HD3.out.go hb5 fun b hS e => by injection e with e; omega)
 have HB5:Hid (Below w.heap.size w x5):=Lib.hid (HB4.out.trans ⟨hb5.os,hb5.tape,hb5.output,hb5.size,fun i hi => hb5.block i (Nat.lt_of_lt_of_le hi HB4.out.size) (by simp; omega)⟩)
 have HF:=Lib.hid (fault_any _ _ _ _ x5 (Fl.of hC5))
 clear hC5 hb5 HA4 HB4 HD3 HW
 by_cases h0:d.bad = 0
 ·have HQ:Hid (P = ⟨r.2,0,0,0⟩):=Lib.hid (by rw [HP.out]; unfold endPc; rw [← HDD.out,if_neg (by simpa using h0)])
  have e1:(d.bad != 0) = false:=by simpa using h0
  clear h0
  go_wp2_with (go_at_call 22; (with_reducible refine HF.out.mono ?_))
  rintro e x6 ⟨rfl,hb6⟩
  have HB6:=Lib.hid (below_two' HB5.out hb6)
  have HA6:=Lib.hid (And.intro (block_on HA5.out.1 hb6) (And.intro (block_on HA5.out.2.1 hb6) (And.intro (block_on HA5.out.2.2.1 hb6) (block_on HA5.out.2.2.2 hb6))))
  have HD6:=Lib.hid (HD5.out.keep hb6)
  clear hb6 HA5 HB5 HD5
  obtain ⟨t0,t1⟩:=cells_2 HA6.out.2.2.1
  obtain ⟨u0,u1⟩:=free_2 HA6.out.2.2.1
  obtain ⟨y,hy⟩:∃ y,y = (x6.setCell ⟨x1.heap.size,0,none⟩ (.int .i64 d.a1)).setCell ⟨x1.heap.size,1,none⟩ (.int .i64 d.a2):=⟨_,rfl⟩
  have hg:x6.grownBy y (some x1.heap.size):=by rw [hy]; exact but_set (but_set (but_refl _ _) 0 _) 1 _
  have HA7:=Lib.hid (And.intro (grown_block HA6.out.1 hg (by omega)) (And.intro (grown_block HA6.out.2.1 hg (by omega)) (grown_block HA6.out.2.2.2 hg (by omega))))
  have HB7:Hid (Below w.heap.size w y):=Lib.hid (by rw [hy]; exact (HB6.out.setCell (by simp; omega) _).setCell (by simp; omega) _)
  have HD7:=Lib.hid (HD6.out.go hg fun b hS e => by injection e with e; omega)
  rw [hy] at HA7
  obtain ⟨q0,q1,q2,q3⟩:=cells_4 HA7.out.1
  obtain ⟨f0,f1,f2,f3⟩:=free_4 HA7.out.1
  obtain ⟨r0,r1⟩:=cells_2 HA7.out.2.1
  obtain ⟨g0,g1⟩:=free_2 HA7.out.2.1
  obtain ⟨v0,v1,v2,v3⟩:=cells_4 HA7.out.2.2
  have HST:=Lib.hid (store_42 HA7.out.1 HA7.out.2.1 (.string r.2.s) (.slice eA en ec) (.slice vA vn vc) (.slice sA sn sc) (.int .i64 0) (.int .i64 0))
  have HY:=Lib.hid hy
  clear hg hy
  go_wp2_with fail
  obtain ⟨p0,p1,p2,p3⟩:=cells_4 HST.out.1
  obtain ⟨p4,p5⟩:=cells_2 HST.out.2
  refine bodyPost_ret (v:=.tuple #[.agg #[.string r.2.s,.slice eA en ec,.slice vA vn vc,.slice sA sn sc],.agg #[.int .i64 0,.int .i64 0],.int .i64 0]) (by simp [results,Tryz.results10,go_sem,p0,p1,p2,p3,p4,p5]) rfl ?_
  have hb:=below_42 HB7.out (Nat.le_refl _) (.string r.2.s) (.slice eA en ec) (.slice vA vn vc) (.slice sA sn sc) (.int .i64 0) (.int .i64 0)
  have hch:=HD7.out (set42 y w.heap.size (.string r.2.s) (.slice eA en ec) (.slice vA vn vc) (.slice sA sn sc) (.int .i64 0) (.int .i64 0)) (by simp [World.setCell]) fun b _ hS => by
   rw [Below.heap_setCell _ _ _ _ (by simp; omega),Below.heap_setCell _ _ _ _ (by simp; omega),Below.heap_setCell _ _ _ _ (by simp; omega),Below.heap_setCell _ _ _ _ (by simp; omega),Below.heap_setCell _ _ _ _ (by simp; omega),Below.heap_setCell _ _ _ _ (by simp; omega)]
  rw [HY.out] at hb hch
  rw [HQ.out]
  exact ⟨eA,en,ec,vA,vn,vc,sA,sn,sc,rfl,hch,hb⟩
 ·have HQ:Hid (P = ⟨zeroC,d.a1,d.a2,d.bad⟩):=Lib.hid (by rw [HP.out]; unfold endPc; rw [← HDD.out,if_pos h0])
  have e1:(d.bad != 0) = true:=by simpa using h0
  clear h0
  go_wp2_with (go_at_call 22; (with_reducible refine HF.out.mono ?_))
  rintro e x6 ⟨rfl,hb6⟩
  have HB6:=Lib.hid (below_two' HB5.out hb6)
  have HA6:=Lib.hid (And.intro (block_on HA5.out.1 hb6) (And.intro (block_on HA5.out.2.1 hb6) (And.intro (block_on HA5.out.2.2.1 hb6) (block_on HA5.out.2.2.2 hb6))))
  clear hb6 HA5 HB5 HD5
  obtain ⟨t0,t1⟩:=cells_2 HA6.out.2.2.1
  obtain ⟨u0,u1⟩:=free_2 HA6.out.2.2.1
  obtain ⟨y,hy⟩:∃ y,y = (x6.setCell ⟨x1.heap.size,0,none⟩ (.int .i64 d.a1)).setCell ⟨x1.heap.size,1,none⟩ (.int .i64 d.a2):=⟨_,rfl⟩
  have hg:x6.grownBy y (some x1.heap.size):=by rw [hy]; exact but_set (but_set (but_refl _ _) 0 _) 1 _
  have HA7:=Lib.hid (And.intro (grown_block HA6.out.1 hg (by omega)) (grown_block HA6.out.2.1 hg (by omega)))
  have HB7:Hid (Below w.heap.size w y):=Lib.hid (by rw [hy]; exact (HB6.out.setCell (by simp; omega) _).setCell (by simp; omega) _)
  rw [hy] at HA7
  obtain ⟨q0,q1,q2,q3⟩:=cells_4 HA7.out.1
  obtain ⟨f0,f1,f2,f3⟩:=free_4 HA7.out.1
  obtain ⟨r0,r1⟩:=cells_2 HA7.out.2
  obtain ⟨g0,g1⟩:=free_2 HA7.out.2
  have HST:=Lib.hid (store_42 HA7.out.1 HA7.out.2 (.string ⟨#[]⟩) (.slice none 0 0) (.slice none 0 0) (.slice none 0 0) (.int .i64 d.a1) (.int .i64 d.a2))
  have HY:=Lib.hid hy
  clear hg hy
  go_wp2_with fail
  go_region
  go_wp2_with fail
  obtain ⟨p0,p1,p2,p3⟩:=cells_4 HST.out.1
  obtain ⟨p4,p5⟩:=cells_2 HST.out.2
  refine bodyPost_ret (v:=.tuple #[.agg #[.string ⟨#[]⟩,.slice none 0 0,.slice none 0 0,.slice none 0 0],.agg #[.int .i64 d.a1,.int .i64 d.a2],.int .i64 d.bad]) (by simp [results,Tryz.results10,go_sem,p0,p1,p2,p3,p4,p5]) rfl ?_
  have hb:=(below_42 HB7.out (Nat.le_refl _) (.string ⟨#[]⟩) (.slice none 0 0) (.slice none 0 0) (.slice none 0 0) (.int .i64 d.a1) (.int .i64 d.a2)).drew
  rw [HY.out] at hb
  rw [HQ.out]
  exact ⟨none,0,0,none,0,0,none,0,0,rfl,ChIn.zero _,hb⟩
theorem parse_chart (s:ByteArray) (w:World) (hp:PairsIn w) (hs:SignsIn w) (hz:s.size ≤ 9223372036854775807):Calls Tryz.prog 10 #[.string s] w (RetPc w (parseC s)):=by
 by_cases he:(scanT s.data.toList).2.2 = 0
 ·exact parse_chart_ok s w hp hs hz he
 ·exact parse_chart_bad s w hp he
end Go.Proofs.YtjfghaohogcfbaaGreatDoor
namespace Go.Proofs.YtjfghaohogcfbaaGreatDoor
namespace PrintSpec
open CurSpec TermSpec EvalSpec NamesSpec ExprSpec ScanSpec ActSpec TransSpec SynSpec
open ShapeSpec (Sh up sf endOf)
def Goo (c:Cur) (ts:List Tx) (d:Cur):Prop:=c.bad = 0 ∧ Nx c ts ∧ d = onN ts.length c
theorem goo_nil {c d:Cur} (h:Goo c [] d):d = c:=h.2.2
theorem goo_app {c d:Cur} {a b:List Tx} (h:Goo c (a ++ b) d):∃ m,Goo c a m ∧ Goo m b d:=by
 obtain ⟨h0,h1,h2⟩:=h
 rw [nx_app] at h1
 exact ⟨_,⟨h0,h1.1,rfl⟩,bad_on h0 _,h1.2,by rw [h2,onN_app]⟩
theorem goo_cons {c d:Cur} {k:Int} {s:List UInt8} {r:List Tx} (h:Goo c ((k,s) :: r) d):Goo (on c) r d ∧ isB c k (bs s) = true ∧ (next c).k = k ∧ (next c).t = bs s:=by
 obtain ⟨h0,h1,h2⟩:=h
 exact ⟨⟨by rw [(on_bad c).1]; exact h0,h1.2.2,h2⟩,nx_isB h0 h1,h1.1,h1.2.1⟩
theorem goo_one {c d:Cur} {k:Int} {s:List UInt8} (h:Goo c [(k,s)] d):d = on c ∧ isB c k (bs s) = true:=⟨goo_nil (goo_cons h).1,(goo_cons h).2.1⟩
theorem goo_good {c d:Cur} {ts:List Tx} (h:Goo c ts d):d.bad = 0:=by rw [h.2.2]; exact bad_on h.1 _
theorem goo_want {c d:Cur} {k:Int} {s:List UInt8} (h:Goo c [(k,s)] d):want c k (bs s) = d:=by rw [(goo_one h).1]; exact want_yes (goo_one h).2
theorem goo_name {c d:Cur} {s:ByteArray} {r:List Tx} (h:Goo c ((1,T s) :: r) d) (hn:isName s.data.toList = true):nameC c = on c ∧ nameS c = s ∧ Goo (on c) r d:=by
 obtain ⟨h1,-,h3,h4⟩:=goo_cons h
 obtain ⟨a,b⟩:=name_yes h.1 h3 h4 hn
 exact ⟨a,b,h1⟩
def Nxt (c:Cur) (ws:List (List UInt8)):Prop:=∃ s ∈ ws,(next c).t = bs s
theorem nxt_no {c:Cur} {ws:List (List UInt8)} (h:Nxt c ws) {k:Int} {w:ByteArray} (hw:∀ s ∈ ws,bs s ≠ w):¬ isB c k w = true:=by
 obtain ⟨s,hs,e⟩:=h
 exact isB_ne (by rw [e]; exact hw s hs)
theorem nxt_mono {c:Cur} {ws vs:List (List UInt8)} (h:Nxt c ws) (hv:∀ s ∈ ws,s ∈ vs):Nxt c vs:=by
 obtain ⟨s,hs,e⟩:=h
 exact ⟨s,hv s hs,e⟩
theorem goo_nxt {c d:Cur} {k:Int} {s:List UInt8} {r:List Tx} (h:Goo c ((k,s) :: r) d) {ws:List (List UInt8)} (hs:s ∈ ws):Nxt c ws:=⟨s,hs,(goo_cons h).2.2.2⟩
abbrev lExit:List UInt8:=[101,120,105,116]
abbrev lOn:List UInt8:=[111,110]
abbrev lAuto:List UInt8:=[97,117,116,111]
abbrev lLeaf:List UInt8:=[108,101,97,102]
abbrev lOr:List UInt8:=[111,114]
abbrev lAnd:List UInt8:=[97,110,100]
abbrev lShut:List UInt8:=[125]
abbrev lVar:List UInt8:=[118,97,114]
theorem acX_goo {w:List UInt8} {ts:List Ta} (h:∀ t ∈ ts,t.Ok) (h8:ts.length ≤ 8) {c d:Cur} (hg:Goo c (actK w ts) d) (hno:ts = [] → ¬ isB c 1 (bs w) = true):acX c (bs w) = (d,ts.map Ta.ac):=by
 unfold actK at hg
 unfold acX
 by_cases h0:ts = []
 ·rw [if_pos h0] at hg
  rw [if_neg (hno h0),h0,goo_nil hg]
  rfl
 ·rw [if_neg h0] at hg
  obtain ⟨hg1,hb,-,-⟩:=goo_cons hg
  obtain ⟨m,hm1,hm2⟩:=goo_app hg1
  obtain ⟨-,hk,hkk,ht⟩:=goo_cons hm2
  have hR:=allR_acts (out:=[]) h0 h (by simpa using h8) hg1.1 hm1.2.1 (by rw [← hm1.2.2]; exact past_mark hkk ht (by decide)) (by rw [← hm1.2.2]; exact isB_ne (by rw [ht]; decide))
  have hRA:readA (on c) = (m,ts.map Ta.ac):=by
   unfold readA
   rw [hR,← hm1.2.2,if_pos (goo_good hm1)]
   rfl
  rw [if_pos hb,hRA]
  dsimp only
  rw [show want m 3 wEnd = d from goo_want hm2]
theorem qT_on {x:Tt} {c d:Cur} {r:List Tx} (hg:Goo c (tkT x ++ r) d):qT c = true:=by
 unfold tkT tkH at hg
 unfold qT
 rw [Bool.or_eq_true]
 by_cases hz:x.ev.size = 0
 ·rw [if_pos hz] at hg
  exact .inr (goo_cons hg).2.1
 ·rw [if_neg hz] at hg
  exact .inl (goo_cons hg).2.1
theorem qT_no {c:Cur} {ws:List (List UInt8)} (h:Nxt c ws) (hw:∀ s ∈ ws,bs s ≠ wOn ∧ bs s ≠ wAuto):¬ qT c = true:=by
 unfold qT
 rw [Bool.or_eq_true]
 rintro (h' | h')
 ·exact nxt_no h (fun s hs => (hw s hs).1) h'
 ·exact nxt_no h (fun s hs => (hw s hs).2) h'
theorem trX_goo:∀ {ts:List Tt} {c d:Cur} {out:List Tr},(∀ t ∈ ts,t.Ok) → out.length + ts.length ≤ 16 → Goo c (ts.flatMap tkT) d → ¬ qT d = true → loopT qT SynSpec.stT c out = (d,out ++ ts.map Tt.tr)
 | [],c,d,out,_,_,hg,hno => by
   rw [goo_nil hg] at hno ⊢
   rw [loopT_no hno]
   simp
 | x :: r,c,d,out,h,h16,hg,hno => by
   rw [List.flatMap_cons] at hg
   have hq:=qT_on hg
   obtain ⟨m,hm1,hm2⟩:=goo_app hg
   have hs:SynSpec.stT c out = (m,out ++ [x.tr]):=by
    unfold SynSpec.stT fullO
    rw [if_neg (by simp at h16; omega),readT_tk (h x (by simp)) hg.1 hm1.2.1,← hm1.2.2]
   rw [loopT_yes goes_T hq,hs,trX_goo (fun t ht => h t (by simp [ht])) (by simp at h16 ⊢; omega) hm2 hno]
   simp
theorem nxt_trs {ts:List Tt} {c d:Cur} {r:List Tx} {ws:List (List UInt8)} (hg:Goo c (ts.flatMap tkT ++ r) d) (h:∀ m,Goo m r d → Nxt m ws):Nxt c (lOn :: lAuto :: ws):=by
 cases ts with
 | nil => exact nxt_mono (h c hg) (fun s hs => by simp [hs])
 | cons x q =>
   rw [List.flatMap_cons] at hg
   unfold tkT tkH at hg
   by_cases hz:x.ev.size = 0
   ·rw [if_pos hz] at hg
    exact goo_nxt (s:=lAuto) hg (by simp)
   ·rw [if_neg hz] at hg
    exact goo_nxt (s:=lOn) hg (by simp)
theorem nxt_acts {w:List UInt8} {ts:List Ta} {c d:Cur} {r:List Tx} {ws:List (List UInt8)} (hg:Goo c (actK w ts ++ r) d) (h:∀ m,Goo m r d → Nxt m ws):Nxt c (w :: ws):=by
 unfold actK at hg
 by_cases h0:ts = []
 ·rw [if_pos h0] at hg
  exact nxt_mono (h c hg) (fun s hs => by simp [hs])
 ·rw [if_neg h0] at hg
  exact goo_nxt hg (by simp)
abbrev wsS:List (List UInt8):=[lLeaf,lOr,lAnd,lShut]
theorem insR_goo {t:Ts} (h:t.Ok) {c d e:Cur} {r:List Tx} (hg:Goo c ((3,[123]) :: insK t) d) (_hr:Goo d r e) (hn:Nxt d wsS):insR c = (d,t.en.map Ta.ac,t.ex.map Ta.ac,t.tr.map Tt.tr):=by
 obtain ⟨hg1,hb,-,-⟩:=goo_cons hg
 have hw:want c 3 wOpen = on c:=want_yes hb
 unfold insK at hg1
 have n3:∀ m,Goo m (t.tr.flatMap tkT) d → Nxt m (lOn :: lAuto :: wsS):=fun m hm =>
  nxt_trs (r:=[]) (d:=d) (by rw [List.append_nil]; exact hm) fun m' hm' => by rw [← goo_nil hm']; exact hn
 have n2:∀ m,Goo m (actK lExit t.ex ++ t.tr.flatMap tkT) d → Nxt m (lExit :: lOn :: lAuto :: wsS):=fun m hm => nxt_acts hm n3
 obtain ⟨m1,a1,a2⟩:=goo_app hg1
 obtain ⟨m2,b1,b2⟩:=goo_app a2
 have e1:acX (on c) wEnter = (m1,t.en.map Ta.ac):=acX_goo h.en h.enf a1 fun h0 => by
  unfold actK at a1
  rw [if_pos h0] at a1
  rw [goo_nil a1] at a2
  exact nxt_no (n2 _ a2) (by decide)
 have e2:acX m1 wExit = (m2,t.ex.map Ta.ac):=acX_goo h.ex h.exf b1 fun h0 => by
  unfold actK at b1
  rw [if_pos h0] at b1
  rw [goo_nil b1] at b2
  exact nxt_no (n3 _ b2) (by decide)
 have e3:trX m2 = (d,t.tr.map Tt.tr):=by
  unfold trX
  rw [trX_goo (out:=[]) h.tr (by simpa using h.trf) b2 (qT_no hn (by decide))]
  simp
 unfold insR
 rw [hw,e1]
 dsimp only
 rw [e2]
 dsimp only
 rw [e3]
theorem digs_get {n:Nat} (h:n ≤ 1000000):ValSpec.getE (ValSpec.digs n) = 0 ∧ ValSpec.getN (ValSpec.digs n) = n:=by
 have h1:ValSpec.text (n:Int) = ValSpec.digs n:=by unfold ValSpec.text; rw [if_neg (by omega)]; rfl
 have:=(ValSpec.get_put (n:Int)).2 ⟨by omega,by omega⟩
 rw [h1] at this
 exact ⟨this.2,this.1⟩
theorem num_goo {n:Nat} (h:n ≤ 1000) {c d:Cur} (hg:Goo c [(2,ValSpec.digs n)] d):numC c 1000 = d ∧ numN c 1000 = n:=by
 obtain ⟨h1,hb,hk,ht⟩:=goo_cons hg
 have hT:(next c).t.data.toList = ValSpec.digs n:=by rw [ht]; simp [bs]
 obtain ⟨g1,g2⟩:=digs_get (n:=n) (by omega)
 have hE:numE c 1000 = 0:=by
  unfold numE
  rw [if_pos ⟨hg.1,hk⟩,hT,if_pos g1,g2,if_neg (by omega)]
 unfold numC numN
 rw [if_pos hE,if_pos hE,hT,g2,goo_nil h1]
 exact ⟨rfl,rfl⟩
theorem int_goo {n:Int} (h:smallV n = true) {c d:Cur} (hg:Goo c (intK n) d):intR c = (d,n):=by
 simp only [smallV,Bool.and_eq_true,decide_eq_true_eq] at h
 unfold intK at hg
 unfold intR
 by_cases h0:n < 0
 ·rw [if_pos h0] at hg
  obtain ⟨h1,hb,-,-⟩:=goo_cons hg
  obtain ⟨a,b⟩:=num_goo (n:=n.natAbs) (by omega) h1
  rw [if_pos (show isB c 3 wMin = true from hb),a,b]
  congr 1
  omega
 ·rw [if_neg h0] at hg
  obtain ⟨a,b⟩:=num_goo (n:=n.natAbs) (by omega) (by simpa using hg)
  obtain ⟨-,-,hk,-⟩:=goo_cons (show Goo c ((2,ValSpec.digs n.natAbs) :: []) d by simpa using hg)
  rw [if_neg (isB_nk (by rw [hk]; decide)),a,b]
  congr 1
  omega
theorem var_goo {v:Vr} (h:okV v = true) {c d:Cur} (hg:Goo c (varK v) d):varR c = (d,v):=by
 simp only [okV,Bool.and_eq_true] at h
 obtain ⟨h1,h2,h3,h4⟩:=h
 unfold varK at hg
 obtain ⟨g1,hb,-,-⟩:=goo_cons hg
 obtain ⟨n1,n2,g2⟩:=goo_name g1 h1
 obtain ⟨m1,i1,g3⟩:=goo_app g2
 obtain ⟨g4,hb4,-,-⟩:=goo_cons g3
 obtain ⟨m2,i2,g5⟩:=goo_app g4
 obtain ⟨g6,hb6,-,-⟩:=goo_cons g5
 obtain ⟨m3,i3,g7⟩:=goo_app g6
 unfold varR
 rw [show want c 1 wVar = on c from want_yes hb,n1,n2,int_goo h2 i1]
 dsimp only
 rw [show want m1 3 wDots = on m1 from want_yes hb4,int_goo h3 i2]
 dsimp only
 rw [show want m2 3 wIs = on m2 from want_yes hb6,int_goo h4 i3]
 dsimp only
 rw [show want m3 3 wEnd = d from goo_want g7]
theorem vars_goo:∀ {vs:List Vr} {c d:Cur} {out:List Vr},(∀ v ∈ vs,okV v = true) → out.length + vs.length ≤ 4 → Goo c (vs.flatMap varK) d → ¬ isB d 1 wVar = true → loopT qV SynSpec.stV c out = (d,out ++ vs)
 | [],c,d,out,_,_,hg,hno => by
   rw [goo_nil hg] at hno ⊢
   rw [loopT_no hno]
   simp
 | v :: r,c,d,out,h,h4,hg,hno => by
   rw [List.flatMap_cons] at hg
   obtain ⟨m,hm1,hm2⟩:=goo_app hg
   have hq:qV c = true:=(goo_cons (show Goo c ((1,lVar) :: _) m from hm1)).2.1
   have hs:SynSpec.stV c out = (m,out ++ [v]):=by
    unfold SynSpec.stV fullO
    rw [if_neg (by simp at h4; omega),var_goo (h v (by simp)) hm1]
   rw [loopT_yes goes_V hq,hs,vars_goo (fun t ht => h t (by simp [ht])) (by simp at h4 ⊢; omega) hm2 hno]
   simp
theorem nxt_vars {vs:List Vr} {c d:Cur} {r:List Tx} {ws:List (List UInt8)} (hg:Goo c (vs.flatMap varK ++ r) d) (h:∀ m,Goo m r d → Nxt m ws):Nxt c (lVar :: ws):=by
 cases vs with
 | nil => exact nxt_mono (h c hg) (fun s hs => by simp [hs])
 | cons x q => rw [List.flatMap_cons] at hg; exact goo_nxt (s:=lVar) hg (by simp)
theorem sep_goo:∀ {l:List ByteArray} {c d:Cur} {out:List ByteArray} {s:ByteArray},(∀ e ∈ s :: l,isName e.data.toList = true) → out.length + l.length < 8 → Goo c (sepK (s :: l)) d → ¬ isB d 3 wCom = true → nameC c = on c ∧ nameS c = s ∧ loopT qE stE (on c) (out ++ [s]) = (d,out ++ s :: l)
 | [],c,d,out,s,h,_,hg,hno => by
   obtain ⟨n1,n2,g⟩:=goo_name (r:=[]) hg (h s (by simp))
   refine ⟨n1,n2,?_⟩
   rw [← goo_nil g,loopT_no hno]
 | u :: r,c,d,out,s,h,h8,hg,hno => by
   obtain ⟨n1,n2,g⟩:=goo_name (r:=(3,[44]) :: sepK (u :: r)) hg (h s (by simp))
   obtain ⟨g2,hb,-,-⟩:=goo_cons g
   obtain ⟨k1,k2,k3⟩:=sep_goo (out:=out ++ [s]) (fun e he => h e (List.mem_cons_of_mem _ he)) (by simp at h8 ⊢; omega) g2 hno
   refine ⟨n1,n2,?_⟩
   have hs:stE (on c) (out ++ [s]) = (on (on (on c)),(out ++ [s]) ++ [u]):=by
    unfold stE fullE
    rw [if_neg (by simp at h8 ⊢; omega),k1,k2]
   rw [loopT_yes goes_E (show qE (on c) = true from hb),hs,k3]
   simp
theorem ev_goo {l:List ByteArray} (h:∀ e ∈ l,isName e.data.toList = true) (h8:l.length ≤ 8) {c d:Cur} (hg:Goo c (evK l) d) (hno:l = [] → ¬ isB c 1 wEvent = true):evR c = (d,l):=by
 unfold evK at hg
 unfold evR
 cases l with
 | nil =>
   rw [if_pos rfl] at hg
   rw [if_neg (hno rfl),goo_nil hg]
 | cons s r =>
   rw [if_neg (by simp)] at hg
   obtain ⟨g1,hb,-,-⟩:=goo_cons hg
   obtain ⟨m,m1,m2⟩:=goo_app g1
   obtain ⟨-,-,-,ht⟩:=goo_cons m2
   obtain ⟨n1,n2,n3⟩:=sep_goo (out:=[]) h (by simp at h8 ⊢; omega) m1 (isB_ne (by rw [ht]; decide))
   rw [if_pos (show isB c 1 wEvent = true from hb),n1,n2]
   rw [List.nil_append] at n3
   rw [n3]
   dsimp only
   rw [show want m 3 wEnd = d from goo_want m2]
   rfl
theorem nxt_ev {l:List ByteArray} {c d:Cur} {r:List Tx} {ws:List (List UInt8)} (hg:Goo c (evK l ++ r) d) (h:∀ m,Goo m r d → Nxt m ws) (h0:l = []):Nxt c ws:=by
 rw [h0] at hg
 exact h c hg
theorem kd_goo {t:Ts} (hk:1 ≤ t.kind ∧ t.kind ≤ 3) {c d:Cur} {r:List Tx} (hg:Goo c ((1,wordT t.kind) :: r) d):kdR c = (on c,t.kind) ∧ qS c = true ∧ Goo (on c) r d:=by
 obtain ⟨g,hb,-,ht⟩:=goo_cons hg
 unfold wordT at hb ht
 have h3:t.kind = 1 ∨ t.kind = 2 ∨ t.kind = 3:=by omega
 rcases h3 with e | e | e
 ·rw [if_pos e] at hb
  exact ⟨by unfold kdR; rw [if_pos (show isB c 1 wLeaf = true from hb),e],by unfold qS; rw [show isB c 1 wLeaf = true from hb]; rfl,g⟩
 ·rw [if_neg (by omega),if_pos e] at hb ht
  refine ⟨by unfold kdR; rw [if_neg (isB_ne (by rw [ht]; decide)),if_pos (show isB c 1 wOr = true from hb),e],by unfold qS; rw [show isB c 1 wOr = true from hb]; simp,g⟩
 ·rw [if_neg (by omega),if_neg (by omega)] at hb ht
  refine ⟨?_,by unfold qS; rw [show isB c 1 wAnd = true from hb]; simp,g⟩
  unfold kdR
  rw [if_neg (isB_ne (by rw [ht]; decide)),if_neg (isB_ne (by rw [ht]; decide)),show want c 1 wAnd = on c from want_yes hb,e]
theorem head_goo {t:Ts} (hk:1 ≤ t.kind ∧ t.kind ≤ 3) (hn:isName t.s.data.toList = true) {c d:Cur} {r:List Tx} (hg:Goo c (headK t ++ r) d) (par:Int):headR c par = (on (on c),⟨t.s,t.kind,par,[],[],[]⟩) ∧ qS c = true ∧ Goo (on (on c)) r d:=by
 obtain ⟨h1,h2,h3⟩:=kd_goo hk (r:=(1,T t.s) :: r) hg
 obtain ⟨n1,n2,n3⟩:=goo_name h3 hn
 unfold headR
 rw [h1]
 dsimp only
 rw [n1,n2]
 exact ⟨rfl,h2,n3⟩
theorem word_in (k:Int):wordT k ∈ wsS:=by
 unfold wordT
 split
 ·simp
 ·split <;> simp
end PrintSpec
end Go.Proofs.YtjfghaohogcfbaaGreatDoor