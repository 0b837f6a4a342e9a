/- SynVar, TermNames, SynEvents, SynTrans, SynState, SynStateW, joined. -/
import Derived.Test.YtcofikjpplkjdaaGreatDoorMPrintPuts08
import Derived.Test.YtcofikjpplkjdaaGreatDoorMPrintPuts02
import Derived.Test.YtcofikjpplkjdaaGreatDoorMPrintPuts06
namespace Go.Proofs.YtcofikjpplkjdaaGreatDoor
open Go.RowKit CurSpec TermSpec EvalSpec ActSpec NamesSpec ExprSpec TransSpec SynSpec
set_option maxRecDepth 100000
structure Rd4 (T:TypeId) (z0 z1 z2 z3:Value) (W:World) (B:Nat) (wx:World) (c:Cur) (x0 x1 x2 x3:Value):Prop where
 cur:CurAt wx B c
 res:wx.heap[W.heap.size]? = some (.cells #[z0,z1,z2,z3] T (0,0))
 blk:wx.heap[W.heap.size + 1]? = some (.cells #[x0,x1,x2,x3] T (0,0))
 grown:W.grownBy wx (some B)
 lt:B < W.heap.size
section
variable {T:TypeId} {z0 z1 z2 z3:Value} {W wx wy:World} {B:Nat} {c c':Cur} {x0 x1 x2 x3:Value}
theorem Rd4.start (h:CurAt W B c):Rd4 T z0 z1 z2 z3 W B ((W.alloc (.cells #[z0,z1,z2,z3] T)).alloc (.cells #[z0,z1,z2,z3] T)) c z0 z1 z2 z3:=by
 refine ⟨(h.alloc _).alloc _,(heap_alloc_old _ _ (by simp)).trans (heap_alloc_new _ _),?_,but_below (KitC.below_pair _ _ _),h.lt⟩
 have:=heap_alloc_new (W.alloc (.cells #[z0,z1,z2,z3] T)) (.cells #[z0,z1,z2,z3] T)
 rwa [World.size_alloc] at this
theorem Rd4.but (h:Rd4 T z0 z1 z2 z3 W B wx c x0 x1 x2 x3) (hb:wx.grownBy wy (some B)) (hc:CurAt wy B c'):Rd4 T z0 z1 z2 z3 W B wy c' x0 x1 x2 x3:=by
 have h1:=h.lt
 exact ⟨hc,grown_block h.res hb (by omega),grown_block h.blk hb (by omega),but_trans h.grown hb,h.lt⟩
theorem Rd4.keep (h:Rd4 T z0 z1 z2 z3 W B wx c x0 x1 x2 x3) (hb:Below wx.heap.size wx wy):Rd4 T z0 z1 z2 z3 W B wy c x0 x1 x2 x3:=h.but (but_below hb) (h.cur.keep hb)
theorem Rd4.store (i:Nat) (u:Value):wx.grownBy (wx.setCell ⟨W.heap.size + 1,i,none⟩ u) (some (W.heap.size + 1)):=but_set (but_refl _ _) i u
theorem Rd4.set (h:Rd4 T z0 z1 z2 z3 W B wx c x0 x1 x2 x3) (i:Nat) (u:Value) {y0 y1 y2 y3:Value} (hy:(#[x0,x1,x2,x3]:Array Value).setIfInBounds i u = #[y0,y1,y2,y3]):Rd4 T z0 z1 z2 z3 W B (wx.setCell ⟨W.heap.size + 1,i,none⟩ u) c y0 y1 y2 y3:=by
 have h1:=h.lt
 have hs:=Rd4.store (W:=W) (wx:=wx) i u
 refine ⟨h.cur.own hs (by omega),grown_block h.res hs (by omega),?_,but_set_new h.grown (by omega) _ _,h.lt⟩
 rw [← hy]
 exact block_setCell' h.blk i u
theorem Rd4.size (h:Rd4 T z0 z1 z2 z3 W B wx c x0 x1 x2 x3):W.heap.size + 2 ≤ wx.heap.size:=(Array.getElem?_eq_some_iff.1 h.blk).1
theorem Rd4.done (_h:Rd4 T z0 z1 z2 z3 W B wx c x0 x1 x2 x3) (u0 u1 u2 u3:Value) :
 wx.grownBy ((((wx.setCell ⟨W.heap.size,0,none⟩ u0).setCell ⟨W.heap.size,1,none⟩ u1).setCell ⟨W.heap.size,2,none⟩ u2).setCell ⟨W.heap.size,3,none⟩ u3) (some W.heap.size) :=
 but_set (but_set (but_set (but_set (but_refl _ _) 0 _) 1 _) 2 _) 3 _
end
abbrev vrA (v:Vr):Value:=.agg #[.string v.s,.int .i64 v.lo,.int .i64 v.hi,.int .i64 v.ini]
def RetVar (W:World) (B:Nat) (p:Cur × Vr) (e:Ending) (w':World):Prop:=e = .returned (vrA p.2) ∧ CurAt w' B p.1 ∧ W.grownBy w' (some B)
set_option maxHeartbeats 4000000 in
theorem readVar_at (B:Nat) (c:Cur) (w:World) (h:CurAt w B c) (ok:Ok c):Calls Tryz.prog 98 #[.pointer (some ⟨B,0,none⟩)] w (RetVar w B (varR c)):=by
 have H0:=Lib.hid (Rd4.start (T:=53) (z0:=.string ⟨#[]⟩) (z1:=.int .i64 0) (z2:=.int .i64 0) (z3:=.int .i64 0) h)
 obtain ⟨c1,e1⟩:∃ d,d = want c 1 wVar:=⟨_,rfl⟩
 have k1:Ok c1:=e1 ▸ ok.want _ _
 obtain ⟨c2,e2⟩:∃ d,d = nameC c1:=⟨_,rfl⟩
 have k2:Ok c2:=e2 ▸ k1.nameC
 obtain ⟨s,es⟩:∃ s,s = nameS c1:=⟨_,rfl⟩
 obtain ⟨⟨c3,lo⟩,e3⟩:∃ p,p = intR c2:=⟨_,rfl⟩
 have k3:Ok c3:=by have:=(to_intR c2).ok k2; rw [← e3] at this; exact this
 obtain ⟨c4,e4⟩:∃ d,d = want c3 3 wDots:=⟨_,rfl⟩
 have k4:Ok c4:=e4 ▸ k3.want _ _
 obtain ⟨⟨c5,hi⟩,e5⟩:∃ p,p = intR c4:=⟨_,rfl⟩
 have k5:Ok c5:=by have:=(to_intR c4).ok k4; rw [← e5] at this; exact this
 obtain ⟨c6,e6⟩:∃ d,d = want c5 3 wIs:=⟨_,rfl⟩
 have k6:Ok c6:=e6 ▸ k5.want _ _
 obtain ⟨⟨c7,ini⟩,e7⟩:∃ p,p = intR c6:=⟨_,rfl⟩
 obtain ⟨c8,e8⟩:∃ d,d = want c7 3 wEnd:=⟨_,rfl⟩
 have HP:Hid (varR c = (c8,⟨s,lo,hi,ini⟩)):=Lib.hid (by unfold varR; rw [← e1,← e2,← es,← e3]; dsimp only; rw [← e4,← e5]; dsimp only; rw [← e6,← e7,← e8])
 have HW1:=Lib.hid (fun W (hW:CurAt W B c) => want_at B c 1 wVar W hW)
 have HN2:=Lib.hid (fun W (hW:CurAt W B c1) => name_at B c1 k1 W hW)
 have HI3:=Lib.hid (fun W (hW:CurAt W B c2) => readInt_at B c2 W hW k2)
 have HW4:=Lib.hid (fun W (hW:CurAt W B c3) => want_at B c3 3 wDots W hW)
 have HI5:=Lib.hid (fun W (hW:CurAt W B c4) => readInt_at B c4 W hW k4)
 have HW6:=Lib.hid (fun W (hW:CurAt W B c5) => want_at B c5 3 wIs W hW)
 have HI7:=Lib.hid (fun W (hW:CurAt W B c6) => readInt_at B c6 W hW k6)
 have HW8:=Lib.hid (fun W (hW:CurAt W B c7) => want_at B c7 3 wEnd W hW)
 rw [← e1] at HW1
 rw [← e2,← es] at HN2
 rw [← e3] at HI3
 rw [← e4] at HW4
 rw [← e5] at HI5
 rw [← e6] at HW6
 rw [← e7] at HI7
 rw [← e8] at HW8
 obtain ⟨P,hP⟩:∃ P,P = varR c:=⟨_,rfl⟩
 rw [← hP] at HP ⊢
 clear e1 e2 es e3 e4 e5 e6 e7 e8 k1 k2 k3 k4 k5 k6 hP h ok
 go_enter Tryz.func98,Tryz.ntmps98
 go_wp2_with (go_at_call 26; (with_reducible refine (HW1.out _ H0.out.cur).mono ?_))
 rintro e x1 ⟨rfl,hc,hb⟩
 have H1:=Lib.hid (H0.out.but hb hc)
 clear hc hb H0
 go_wp2_with (go_at_call 57; (with_reducible refine (HN2.out _ H1.out.cur).mono ?_))
 rintro e x2 ⟨rfl,hc,hb⟩
 have H2:=Lib.hid (H1.out.but hb hc)
 clear hc hb H1
 have H2s:=Lib.hid (H2.out.set 0 (.string s) rfl)
 obtain ⟨f0,f1,f2,f3⟩:=free_4 H2.out.blk
 obtain ⟨q0,q1,q2,q3⟩:=cells_4 H2.out.blk
 go_wp2_with (go_at_call 127; (with_reducible refine (HI3.out _ H2s.out.cur).mono ?_))
 rintro e x3 ⟨rfl,hc,hb⟩
 have H3:=Lib.hid (H2s.out.but hb hc)
 clear hc hb H2 H2s f0 f1 f2 f3 q0 q1 q2 q3
 have H3s:=Lib.hid (H3.out.set 1 (.int .i64 lo) rfl)
 obtain ⟨f0,f1,f2,f3⟩:=free_4 H3.out.blk
 obtain ⟨q0,q1,q2,q3⟩:=cells_4 H3.out.blk
 go_wp2_with (go_at_call 26; (with_reducible refine (HW4.out _ H3s.out.cur).mono ?_))
 rintro e x4 ⟨rfl,hc,hb⟩
 have H4:=Lib.hid (H3s.out.but hb hc)
 clear hc hb H3 H3s f0 f1 f2 f3 q0 q1 q2 q3
 go_wp2_with (go_at_call 127; (with_reducible refine (HI5.out _ H4.out.cur).mono ?_))
 rintro e x5 ⟨rfl,hc,hb⟩
 have H5:=Lib.hid (H4.out.but hb hc)
 clear hc hb H4
 have H5s:=Lib.hid (H5.out.set 2 (.int .i64 hi) rfl)
 obtain ⟨f0,f1,f2,f3⟩:=free_4 H5.out.blk
 obtain ⟨q0,q1,q2,q3⟩:=cells_4 H5.out.blk
 go_wp2_with (go_at_call 26; (with_reducible refine (HW6.out _ H5s.out.cur).mono ?_))
 rintro e x6 ⟨rfl,hc,hb⟩
 have H6:=Lib.hid (H5s.out.but hb hc)
 clear hc hb H5 H5s f0 f1 f2 f3 q0 q1 q2 q3
 go_wp2_with (go_at_call 127; (with_reducible refine (HI7.out _ H6.out.cur).mono ?_))
 rintro e x7 ⟨rfl,hc,hb⟩
 have H7:=Lib.hid (H6.out.but hb hc)
 clear hc hb H6
 have H7s:=Lib.hid (H7.out.set 3 (.int .i64 ini) rfl)
 obtain ⟨f0,f1,f2,f3⟩:=free_4 H7.out.blk
 obtain ⟨q0,q1,q2,q3⟩:=cells_4 H7.out.blk
 go_wp2_with (go_at_call 26; (with_reducible refine (HW8.out _ H7s.out.cur).mono ?_))
 rintro e x8 ⟨rfl,hc,hb⟩
 have HX:=Lib.hid (H7s.out.but hb hc)
 clear hc hb H7 H7s f0 f1 f2 f3 q0 q1 q2 q3
 obtain ⟨q0,q1,q2,q3⟩:=cells_4 HX.out.blk
 obtain ⟨r0,r1,r2,r3⟩:=cells_4 HX.out.res
 obtain ⟨f0,f1,f2,f3⟩:=free_4 HX.out.res
 have HD:=Lib.hid (HX.out.done (.string s) (.int .i64 lo) (.int .i64 hi) (.int .i64 ini))
 go_wp2_with fail
 obtain ⟨p0,p1,p2,p3⟩:=store_four HX.out.res (.string s) (.int .i64 lo) (.int .i64 hi) (.int .i64 ini)
 refine bodyPost_ret (v:=.agg #[.string s,.int .i64 lo,.int .i64 hi,.int .i64 ini]) (by simp [results,Tryz.results98,go_sem,p0,p1,p2,p3]) rfl ?_
 exact ⟨by rw [HP.out],by rw [HP.out]; exact HX.out.cur.own HD.out HX.out.lt,grown_new HX.out.grown HD.out⟩
theorem acs_dep {B0:Nat} {w:World} {v:Value} {l:List Ac} (h:AcsFar B0 w v l):Dep w (fun b => B0 ≤ b) (fun x => Acs x v l):=by
 intro w2 hz hx
 obtain ⟨ps,h1,h2,h3,h4,h5⟩:=h
 refine ⟨ps,h1,(rdk_dep (S:=fun b => B0 ≤ b) h2 fun _ b hb => h4 b hb) w2 hz hx,fun p hp => ?_⟩
 obtain ⟨m,hm,hr⟩:=h3 p hp
 obtain ⟨A',c',heq,-⟩:=id hr
 cases heq
 exact ⟨_,hm,(rdk_dep (S:=fun b => B0 ≤ b) hr fun h0 b hb => h5 p hp h0 b hb) w2 hz hx⟩
theorem tms_dep {B0:Nat} {w:World} {A:Option Addr} {n c:Nat} {l:List Tm} (h:Tms w (.slice A n c) l) (hf:∀ b,(Value.slice A n c).ownBlock = some b → B0 ≤ b):Dep w (fun b => B0 ≤ b) (fun x => Tms x (.slice A n c) l):=by
 intro w2 hz hx
 obtain ⟨m,hm,hr⟩:=h
 exact ⟨m,hm,(rdk_dep (S:=fun b => B0 ≤ b) hr fun _ b hb => hf b hb) w2 hz hx⟩
def RetActsD (W:World) (B:Nat) (p:Cur × List Ac) (e:Ending) (w':World):Prop:=∃ A n cp,e = .returned (.slice A n cp) ∧ CurAt w' B p.1 ∧ Dep w' (fun b => W.heap.size ≤ b) (fun x => Acs x (.slice A n cp) p.2) ∧ W.grownBy w' (some B)
theorem acs_nil (w:World):Acs w (.slice none 0 0) []:=(AcsFar.nil 0 w).acs
set_option maxHeartbeats 1000000 in
theorem readActs_at (B:Nat) (c:Cur) (s:ByteArray) (w:World) (hs:SignsIn w) (h:CurAt w B c) (ok:Ok c):Calls Tryz.prog 100 #[.pointer (some ⟨B,0,none⟩),.string s] w (RetActsD w B (acX c s)):=by
 have HT:=Lib.hid (take_at B c 1 s w h)
 have HSG:=Lib.hid (fun W (hW:w.grownBy W (some B)) => signs_but hs h hW)
 obtain ⟨P,hP⟩:∃ P,P = acX c s:=⟨_,rfl⟩
 rw [← hP]
 by_cases hb:isB c 1 s = true
 ·obtain ⟨⟨c2,l⟩,e2⟩:∃ p,p = readA (on c):=⟨_,rfl⟩
  have HP:Hid (P = (want c2 3 wEnd,l)):=Lib.hid (by rw [hP]; unfold acX; rw [if_pos hb,← e2])
  have HR:=Lib.hid (fun W (hs:SignsIn W) (hW:CurAt W B (on c)) => read_actsF B (on c) W hs hW ok.on)
  rw [← e2] at HR
  have HW:=Lib.hid (fun W (hW:CurAt W B c2) => want_at B c2 3 wEnd W hW)
  rw [hb,show take c 1 s = on c by unfold take; rw [if_pos hb]] at HT
  have HLT:=Lib.hid h.lt
  clear hP hb h ok hs e2
  go_enter Tryz.func100,Tryz.ntmps100
  go_wp2_with (go_at_call 62; (with_reducible refine HT.out.mono ?_))
  rintro e x2 ⟨rfl,hc2,hb2⟩
  have HC:=Lib.hid (And.intro hc2 hb2)
  clear hc2 hb2
  go_wp2_with (go_at_call 129; (with_reducible refine (HR.out _ (HSG.out _ HC.out.2) HC.out.1).mono ?_))
  rintro e x3 ⟨A,n,cp,rfl,hc3,hf3,hb3⟩
  have HC3:=Lib.hid (And.intro hc3 (but_trans HC.out.2 hb3))
  have HF3:=Lib.hid (acs_dep (hf3.mono HC.out.2.size))
  clear hc3 hb3 hf3
  go_wp2_with (go_at_call 26; (with_reducible refine (HW.out _ HC3.out.1).mono ?_))
  rintro e x4 ⟨rfl,hc4,hb4⟩
  have HC4:=Lib.hid (And.intro hc4 (but_trans HC3.out.2 hb4))
  have HF4:=Lib.hid (HF3.out.go hb4 fun b hS e => by injection e with e; have:=HLT.out; omega)
  clear hc4 hb4
  go_wp2_with fail
  go_ret
  exact ⟨A,n,cp,rfl,by rw [HP.out]; exact HC4.out.1,by rw [HP.out]; exact HF4.out,HC4.out.2⟩
 ·have HP:Hid (P = (c,[])):=Lib.hid (by rw [hP]; unfold acX; rw [if_neg hb])
  rw [show isB c 1 s = false by simpa using hb,show take c 1 s = c by unfold take; rw [if_neg hb]] at HT
  clear hP hb h ok hs
  go_enter Tryz.func100,Tryz.ntmps100
  go_wp2_with (go_at_call 62; (with_reducible refine HT.out.mono ?_))
  rintro e x2 ⟨rfl,hc2,hb2⟩
  have HC:=Lib.hid (And.intro hc2 hb2)
  clear hc2 hb2
  go_wp2_with fail
  go_ret
  exact ⟨none,0,0,rfl,by rw [HP.out]; exact HC.out.1,by rw [HP.out]; exact Dep.triv acs_nil,HC.out.2⟩
end Go.Proofs.YtcofikjpplkjdaaGreatDoor
namespace Go.Proofs.YtcofikjpplkjdaaGreatDoor
open Go.RowKit TermSpec
set_option maxRecDepth 100000
theorem inf_str:(Tryz.prog.info? 9).map (fun i => (i.zero,i.size,i.bytes)) = some (some (.string ByteArray.empty),1,16):=by kernel_rfl
def RowS (W wr:World) (p:Value) (xs:List ByteArray):Prop:=wr.ownsRow W.heap.size 9 1 p xs.length (strV xs) ∧ Below W.heap.size W wr
theorem RowS.nil (W wr:World) (hb:Below W.heap.size W wr):RowS W wr (.slice none 0 0) []:=⟨World.ownsRow_nil _ _ _ _,hb⟩
theorem RowS.keep {W w w':World} {p:Value} {xs:List ByteArray} (h:RowS W w p xs) (hb:Below w.heap.size w w'):RowS W w' p xs:=⟨own_keep h.1 hb,below_two' h.2 hb⟩
theorem RowS.add {W wr w2:World} {p p':Value} {xs:List ByteArray} {x:ByteArray} {o:Obj} (h:RowS W wr p xs) (hrow:w2.ownsRow W.heap.size 9 1 p' (xs.length + (strV [x]).length) (strV xs ++ strV [x])) (hg:(wr.alloc o).grownBy w2 p.ownBlock):RowS W w2 p' (xs ++ [x]):=by
 refine ⟨?_,(h.2.alloc h.2.size o).grown hg (by have:=h.2.size; simp; omega) (fun j hj => (own_block_bd h.1 j hj).1)⟩
 rw [← strV_append,List.length_append]
 exact hrow
theorem RowS.read {W wr:World} {p:Value} {xs:List ByteArray} (h:RowS W wr p xs):Rd wr p (strV xs):=Rd.own h.1
end Go.Proofs.YtcofikjpplkjdaaGreatDoor
namespace Go.Proofs.YtcofikjpplkjdaaGreatDoor
open Go.RowKit CurSpec TermSpec EvalSpec ActSpec NamesSpec ExprSpec TransSpec SynSpec
set_option maxRecDepth 100000
abbrev sC (s:ByteArray):List Value:=[.string s]
theorem sC_flat (l:List ByteArray):l.flatMap sC = strV l:=by
 induction l with
 | nil => rfl
 | cons a t ih => rw [List.flatMap_cons,ih]; rfl
theorem rd_one {w:World} {v:Value} {n:Nat} {xs:List Value} (h:Rdk 1 w v n xs):Rd w v xs:=by
 obtain ⟨A,c,rfl,hc,hl,hA⟩:=h
 exact ⟨A,n,c,rfl,by omega,hc,hA⟩
theorem inf_var:(Tryz.prog.info? 53).map (fun i => (i.zero,i.size,i.bytes)) = some (some (.agg #[.string ByteArray.empty,.int .i64 0,.int .i64 0,.int .i64 0]),4,40):=by kernel_rfl
theorem inf_trans:(Tryz.prog.info? 49).map (fun i => (i.zero,i.size,i.bytes)) = some (some (.agg #[.string ByteArray.empty,.slice none 0 0,.slice none 0 0,.string ByteArray.empty]),4,80):=by kernel_rfl
theorem vrV_one (v:Vr):∀ u ∈ vrV v,u.oneCell' = true:=by
 intro u hu
 simp only [vrV,List.mem_cons,List.not_mem_nil,or_false] at hu
 rcases hu with rfl | rfl | rfl | rfl <;> rfl
structure TP where
 t:Tr
 gA:Option Addr
 gn:Nat
 gc:Nat
 aA:Option Addr
 an:Nat
 ac:Nat
def tpV (p:TP):List Value:=[.string p.t.ev,.slice p.gA p.gn p.gc,.slice p.aA p.an p.ac,.string p.t.tg]
def tpN (p:TP) (w:World):Prop:=TrIn w p.gA p.gn p.gc p.aA p.an p.ac p.t
theorem tpV_length (p:TP):(tpV p).length = 4:=rfl
theorem tpV_one (p:TP):∀ u ∈ tpV p,u.oneCell' = true:=by
 intro u hu
 simp only [tpV,List.mem_cons,List.not_mem_nil,or_false] at hu
 rcases hu with rfl | rfl | rfl | rfl <;> rfl
def Trs (w:World) (v:Value) (l:List Tr):Prop:=∃ ps:List TP,ps.map (·.t) = l ∧ Rdk 4 w v ps.length (ps.flatMap tpV) ∧ ∀ p ∈ ps,tpN p w
theorem Trs.keep {w w':World} {v:Value} {l:List Tr} (h:Trs w v l) (hb:Below w.heap.size w w'):Trs w' v l:=by
 obtain ⟨ps,h1,h2,h3⟩:=h
 exact ⟨ps,h1,h2.keep hb,fun p hp => (h3 p hp).keep hb⟩
theorem Trs.nil (w:World):Trs w (.slice none 0 0) []:=⟨[],rfl,Rdk.nil 4 w,by simp⟩
def RetD {α:Type} (R:World → Value → List α → Prop) (W:World) (B:Nat) (p:Cur × List α) (e:Ending) (w':World):Prop:=∃ A n cp,e = .returned (.slice A n cp) ∧ CurAt w' B p.1 ∧ Dep w' (fun b => W.heap.size ≤ b) (fun x => R x (.slice A n cp) p.2) ∧ W.grownBy w' (some B)
def RdS (w:World) (v:Value) (l:List ByteArray):Prop:=Rd w v (strV l)
def RdV (w:World) (v:Value) (l:List Vr):Prop:=Rdk 4 w v l.length (vrsV l)
def EvRel (W:World) (B:Nat) (F:Cur × List ByteArray) (gh:Nat) (pv:Value) (wr:World):Prop :=
 ∃ (c:Cur) (ps:List ByteArray),left c ≤ gh ∧ Ok c ∧ CurAt wr B c ∧ RowB 9 1 sC (fun _ _ => True) W B wr pv ps ∧ Few 8 c ps ∧ loopT qE stE c ps = F
set_option maxHeartbeats 8000000 in
theorem readEvents_at (B:Nat) (c:Cur) (w:World) (h:CurAt w B c) (ok:Ok c):Calls Tryz.prog 58 #[.pointer (some ⟨B,0,none⟩)] w (RetD RdS w B (evR c)):=by
 have hB:=h.lt
 obtain ⟨i0,hi,hz0,hz1,hz2⟩:=info_parts inf_str
 have HI:=Lib.hid (And.intro hi (And.intro hz0 (And.intro hz1 hz2)))
 have HT:=Lib.hid (take_at B c 1 wEvent w h)
 obtain ⟨P,hP⟩:∃ P,P = evR c:=⟨_,rfl⟩
 rw [← hP]
 have HBB:=Lib.hid hB
 by_cases hb:isB c 1 wEvent = true
 ·obtain ⟨c1,e1⟩:∃ d,d = nameC (on c):=⟨_,rfl⟩
  obtain ⟨s,es⟩:∃ s,s = nameS (on c):=⟨_,rfl⟩
  obtain ⟨F,eF⟩:∃ F,F = loopT qE stE c1 [s]:=⟨_,rfl⟩
  have HP:Hid (P = (want F.1 3 wEnd,F.2)):=Lib.hid (by rw [hP]; unfold evR; rw [if_pos hb,← e1,← es,← eF])
  have HOK1:Hid (Ok c1):=Lib.hid (e1 ▸ ok.on.nameC)
  have HN:=Lib.hid (fun W (hW:CurAt W B (on c)) => name_at B (on c) ok.on W hW)
  rw [← e1,← es] at HN
  have HWF:=Lib.hid (fun W (hW:CurAt W B F.1) => want_at B F.1 3 wEnd W hW)
  rw [hb,show take c 1 wEvent = on c by unfold take; rw [if_pos hb]] at HT
  have HF:=Lib.hid eF.symm
  clear hP hb h ok e1 es eF hi hz0 hz1 hz2
  go_enter Tryz.func58,Tryz.ntmps58
  go_wp2_with (go_at_call 62; (with_reducible refine HT.out.mono ?_))
  rintro e x2 ⟨rfl,hc2,hb2⟩
  have HC:=Lib.hid (And.intro hc2 hb2)
  clear hc2 hb2
  go_wp2_with (go_at_call 57; (with_reducible refine (HN.out _ HC.out.1).mono ?_))
  rintro e x3 ⟨rfl,hc3,hb3⟩
  have HST:Hid (EvRel w B F (left c1) (.slice (some ⟨x3.heap.size,0,none⟩) 1 1) (x3.alloc (.cells #[.string s] 9))):=Lib.hid
   ⟨c1,[s],Nat.le_refl _,HOK1.out,hc3.alloc _,RowB.one (p:=s) (but_trans HC.out.2 hb3) hB rfl (Dep.triv fun _ => trivial),⟨by simp,fun h => by simp at h⟩,HF.out⟩
  clear hc3 hb3
  go_wp2_with fail
  go_loopg [3] (left c1) (fun gh pv wr => EvRel w B F gh pv wr)
  case atStart => exact HST.out
  case round =>
   obtain ⟨d,ps,hgh,hok,hcur,hrow,hfew,htail⟩:=hrel
   have HGH:=Lib.hid hgh
   have HROW:=Lib.hid hrow
   have HTAIL:=Lib.hid htail
   have HCUR:=Lib.hid hcur
   have HTK:=Lib.hid (take_at B d 3 wCom wr hcur)
   obtain ⟨pA,pc,rfl⟩:=hrow.shape
   obtain ⟨n,hn⟩:∃ n,n = ps.length:=⟨_,rfl⟩
   rw [← hn]
   rw [← hn] at HROW
   have HN2:=Lib.hid hn
   by_cases hb:qE d = true
   ·have HLS:=Lib.hid (left_less goes_E ps hb)
    have HFW:=Lib.hid (few_E hb hfew)
    have HT1:=Lib.hid (loopT_yes goes_E (out:=ps) hb)
    have h0:=(isB_real hb (by decide)).1
    have h0':=(isB_real hb (by decide)).2.2
    have h8:n ≤ 8:=by
     rcases Nat.lt_or_ge n 9 with h' | h'
     ·omega
     ·exact absurd h0 (hfew.2 (by have:=hfew.1; omega))
    rw [show isB d 3 wCom = true from hb,show take d 3 wCom = on d by unfold take; rw [if_pos (show isB d 3 wCom = true from hb)]] at HTK
    have HOK2:=Lib.hid ((to_stE d ps).ok hok)
    have HD:Hid (stE d ps = (nameC (fullE (on d) ps),ps ++ [nameS (fullE (on d) ps)])):=Lib.hid rfl
    have HOKD:=Lib.hid ((to_fullE (on d) ps).ok hok.on)
    have HFU:Hid (fullE (on d) ps = if n = 8 ∧ nameB (on d) = true then fail (on d) 8 else on d):=Lib.hid (by unfold fullE; rw [hn])
    obtain ⟨D,hD⟩:∃ D,D = fullE (on d) ps:=⟨_,rfl⟩
    rw [← hD] at HD HOKD HFU
    have HNM:=Lib.hid (fun W (hW:CurAt W B D) => name_at B D HOKD.out W hW)
    obtain ⟨c4,hc4⟩:∃ q,q = nameC D:=⟨_,rfl⟩
    obtain ⟨s4,hs4⟩:∃ q,q = nameS D:=⟨_,rfl⟩
    rw [← hc4,← hs4] at HD HNM
    rw [HD.out] at HLS HFW HOK2 HT1
    have HL1:Hid (ps.length + 1 ≤ maxLen):=Lib.hid (by unfold maxLen; omega)
    have HL2:Hid ((ps.length + 1) * 16 ≤ 140737488355328):=Lib.hid (by omega)
    have HNX:=Lib.hid (fun W (hW:CurAt W B (on d)) => next_at B (on d) W hW)
    have HIS:=Lib.hid (fun b W (hb:nameB (on d) = b) => isName_tk (next (on d)).k (next (on d)).t (next (on d)).l (next (on d)).c hok.on.next W (b:=b) (by rw [← hb]; simp [nameB,h0']))
    have HFA:=Lib.hid (fun W (hW:CurAt W B (on d)) => fail_at B (on d) 8 W hW)
    clear hgh hok hfew htail hb h0 h0' hD hc4 hs4
    by_cases h8e:n = 8
    ·have g1:((n:Int) == 8) = true:=by simp; omega
     have g1':(n == 8) = true:=by simp; omega
     rcases hnb:nameB (on d) with _ | _
     ·have HFD:Hid (D = on d):=Lib.hid (by rw [HFU.out,if_neg (by simp [hnb])])
      have HIS2:=Lib.hid (fun W => HIS.out false W hnb)
      clear h8e h8 hn hrow hcur hnb
      go_wp2_with (go_at_call 62; (with_reducible refine HTK.out.mono ?_))
      rintro e x3 ⟨rfl,hc3,hb3⟩
      have HC3:=Lib.hid hc3
      have HR3:=Lib.hid (HROW.out.but hb3)
      clear hc3 hb3
      go_wp2_with (go_at_call 94; (with_reducible refine (HNX.out _ HC3.out).mono ?_))
      rintro e x4 ⟨rfl,hb4⟩
      have HC4:=Lib.hid (HC3.out.keep hb4)
      have HR4:=Lib.hid (HR3.out.keep hb4)
      clear hb4
      go_wp2_with (go_at_call 96; (with_reducible refine (HIS2.out _).mono ?_))
      rintro e x5 ⟨rfl,hb5⟩
      have HCD:=Lib.hid (HC4.out.keep hb5)
      have HRW:=Lib.hid (HR4.out.keep hb5)
      rw [← HFD.out] at HCD
      clear hb5
      go_wp2_with (go_at_call 57; (with_reducible refine (HNM.out _ HCD.out).mono ?_))
      rintro e x7 ⟨rfl,hc7,hb7⟩
      have HC7:=Lib.hid hc7
      have HR7:=Lib.hid (HRW.out.but hb7)
      clear hc7 hb7
      go_wp2_with (at_builtin; refine wpList_append_rowB rfl (.tmp 22) (.tmp 25) _ rfl i0 (.string ByteArray.empty) 16 Tryz.underlying22 HI.out.1 HI.out.2.1 HI.out.2.2.1 HI.out.2.2.2 rfl (by decide) HR7.out s4 (Dep.triv fun _ => trivial) rfl rfl rfl (fun u hu => by rw [List.mem_singleton] at hu; subst hu; rfl) HL1.out HL2.out ?_; intro p2 w2 hrow2 hcur2; have HR8:=Lib.hid hrow2; have HC8:=Lib.hid (hcur2 _ HC7.out); clear hrow2 hcur2)
      go_roundg (left c4)
      case measure => have h1:=HLS.out; have h3:=HGH.out; omega
      case rel => exact ⟨c4,ps ++ [s4],Nat.le_refl _,HOK2.out,HC8.out,HR8.out,HFW.out,by rw [← HTAIL.out,HT1.out]⟩
     ·have HFD:Hid (D = fail (on d) 8):=Lib.hid (by rw [HFU.out,if_pos ⟨h8e,hnb⟩])
      have HIS2:=Lib.hid (fun W => HIS.out true W hnb)
      clear h8e h8 hn hrow hcur hnb
      go_wp2_with (go_at_call 62; (with_reducible refine HTK.out.mono ?_))
      rintro e x3 ⟨rfl,hc3,hb3⟩
      have HC3:=Lib.hid hc3
      have HR3:=Lib.hid (HROW.out.but hb3)
      clear hc3 hb3
      go_wp2_with (go_at_call 94; (with_reducible refine (HNX.out _ HC3.out).mono ?_))
      rintro e x4 ⟨rfl,hb4⟩
      have HC4:=Lib.hid (HC3.out.keep hb4)
      have HR4:=Lib.hid (HR3.out.keep hb4)
      clear hb4
      go_wp2_with (go_at_call 96; (with_reducible refine (HIS2.out _).mono ?_))
      rintro e x5 ⟨rfl,hb5⟩
      have HC5:=Lib.hid (HC4.out.keep hb5)
      have HR5:=Lib.hid (HR4.out.keep hb5)
      clear hb5
      go_wp2_with (go_at_call 63; (with_reducible refine (HFA.out _ HC5.out).mono ?_))
      rintro e x6 ⟨rfl,hc6,hb6⟩
      rw [← HFD.out] at hc6
      have HCD:=Lib.hid hc6
      have HRW:=Lib.hid (HR5.out.but hb6)
      clear hc6 hb6
      go_wp2_with (go_at_call 57; (with_reducible refine (HNM.out _ HCD.out).mono ?_))
      rintro e x7 ⟨rfl,hc7,hb7⟩
      have HC7:=Lib.hid hc7
      have HR7:=Lib.hid (HRW.out.but hb7)
      clear hc7 hb7
      go_wp2_with (at_builtin; refine wpList_append_rowB rfl (.tmp 22) (.tmp 25) _ rfl i0 (.string ByteArray.empty) 16 Tryz.underlying22 HI.out.1 HI.out.2.1 HI.out.2.2.1 HI.out.2.2.2 rfl (by decide) HR7.out s4 (Dep.triv fun _ => trivial) rfl rfl rfl (fun u hu => by rw [List.mem_singleton] at hu; subst hu; rfl) HL1.out HL2.out ?_; intro p2 w2 hrow2 hcur2; have HR8:=Lib.hid hrow2; have HC8:=Lib.hid (hcur2 _ HC7.out); clear hrow2 hcur2)
      go_roundg (left c4)
      case measure => have h1:=HLS.out; have h3:=HGH.out; omega
      case rel => exact ⟨c4,ps ++ [s4],Nat.le_refl _,HOK2.out,HC8.out,HR8.out,HFW.out,by rw [← HTAIL.out,HT1.out]⟩
    ·have g1:((n:Int) == 8) = false:=by simp; omega
     have g1':(n == 8) = false:=by simp; omega
     have HFD:Hid (D = on d):=Lib.hid (by rw [HFU.out,if_neg (fun h => h8e h.1)])
     clear h8e h8 hn hrow hcur
     go_wp2_with (go_at_call 62; (with_reducible refine HTK.out.mono ?_))
     rintro e x3 ⟨rfl,hc3,hb3⟩
     have HC3:=Lib.hid hc3
     have HR3:=Lib.hid (HROW.out.but hb3)
     clear hc3 hb3
     have HCD:=HC3
     rw [← HFD.out] at HCD
     have HRW:=HR3
     go_wp2_with (go_at_call 57; (with_reducible refine (HNM.out _ HCD.out).mono ?_))
     rintro e x7 ⟨rfl,hc7,hb7⟩
     have HC7:=Lib.hid hc7
     have HR7:=Lib.hid (HRW.out.but hb7)
     clear hc7 hb7
     go_wp2_with (at_builtin; refine wpList_append_rowB rfl (.tmp 22) (.tmp 25) _ rfl i0 (.string ByteArray.empty) 16 Tryz.underlying22 HI.out.1 HI.out.2.1 HI.out.2.2.1 HI.out.2.2.2 rfl (by decide) HR7.out s4 (Dep.triv fun _ => trivial) rfl rfl rfl (fun u hu => by rw [List.mem_singleton] at hu; subst hu; rfl) HL1.out HL2.out ?_; intro p2 w2 hrow2 hcur2; have HR8:=Lib.hid hrow2; have HC8:=Lib.hid (hcur2 _ HC7.out); clear hrow2 hcur2)
     go_roundg (left c4)
     case measure => have h1:=HLS.out; have h3:=HGH.out; omega
     case rel => exact ⟨c4,ps ++ [s4],Nat.le_refl _,HOK2.out,HC8.out,HR8.out,HFW.out,by rw [← HTAIL.out,HT1.out]⟩
   ·have HFE:Hid (F = (d,ps)):=Lib.hid (by rw [← htail,loopT_no hb])
    rw [show isB d 3 wCom = false by simpa [qE] using hb,show take d 3 wCom = d by unfold take; rw [if_neg (show ¬ isB d 3 wCom = true from hb)]] at HTK
    clear hgh hok hfew htail hb hn hrow hcur
    go_wp2_with (go_at_call 62; (with_reducible refine HTK.out.mono ?_))
    rintro e x3 ⟨rfl,hc3,hb3⟩
    have HC3:=Lib.hid hc3
    have HR3:=Lib.hid (HROW.out.but hb3)
    clear hc3 hb3
    have HC3':=HC3
    rw [show d = F.1 by rw [HFE.out]] at HC3'
    go_wp2_with (go_at_call 26; (with_reducible refine (HWF.out _ HC3'.out).mono ?_))
    rintro e x4 ⟨rfl,hc4,hb4⟩
    have HC4:=Lib.hid hc4
    have HR4:=Lib.hid (HR3.out.but hb4)
    clear hc4 hb4
    go_wp2_with fail
    go_ret
    refine ⟨pA,n,pc,rfl,by rw [HP.out]; exact HC4.out,?_,HR4.out.grown⟩
    rw [HP.out,HFE.out]
    exact HR4.out.far.imp fun x hx => by rw [sC_flat] at hx; exact rd_one hx.1
 ·have HP:Hid (P = (c,[])):=Lib.hid (by rw [hP]; unfold evR; rw [if_neg hb])
  rw [show isB c 1 wEvent = false by simpa using hb,show take c 1 wEvent = c by unfold take; rw [if_neg hb]] at HT
  clear hP hb h ok hi hz0 hz1 hz2
  go_enter Tryz.func58,Tryz.ntmps58
  go_wp2_with (go_at_call 62; (with_reducible refine HT.out.mono ?_))
  rintro e x2 ⟨rfl,hc2,hb2⟩
  have HC:=Lib.hid (And.intro hc2 hb2)
  clear hc2 hb2
  go_wp2_with fail
  go_ret
  exact ⟨none,0,0,rfl,by rw [HP.out]; exact HC.out.1,by rw [HP.out]; exact Dep.triv fun x => Rd.nil x,HC.out.2⟩
end Go.Proofs.YtcofikjpplkjdaaGreatDoor
namespace Go.Proofs.YtcofikjpplkjdaaGreatDoor
open Go.RowKit CurSpec TermSpec EvalSpec ActSpec NamesSpec ExprSpec TransSpec SynSpec
set_option maxRecDepth 100000
theorem tr_fresh {α:Type} {T:TypeId} {k:Nat} {cv:α → List Value} {nest:α → World → Prop} {W wr w':World} {B:Nat} {pv:Value} {ps:List α} {gA aA:Option Addr} {gn gc an ac:Nat} {t:Tr} (h:RowB T k cv nest W B wr pv ps)
 (ht:Tms w' (.slice gA gn gc) t.g) (hf:∀ b,(Value.slice gA gn gc).ownBlock = some b → wr.heap.size ≤ b) (ha:AcsFar wr.heap.size w' (.slice aA an ac) t.acts):Dep w' (fun b => W.heap.size ≤ b ∧ pv.ownBlock ≠ some b) (tpN ⟨t,gA,gn,gc,aA,an,ac⟩) :=
 (((tms_dep ht hf).and (acs_dep ha)).imp fun _ hx => (⟨hx.1,hx.2⟩:TrIn _ gA gn gc aA an ac t)).mono fun b _ hb => ⟨Nat.le_trans h.grown.size hb,fun e => by have:=(own_block_bd h.own b e).2; omega⟩
def TrRel (W:World) (B:Nat) (F:Cur × List Tr) (gh:Nat) (pv:Value) (wr:World):Prop :=
 ∃ (c:Cur) (ps:List TP),left c ≤ gh ∧ Ok c ∧ CurAt wr B c ∧ RowB 49 4 tpV (tpN) W B wr pv ps ∧ SynSpec.Few 16 c (ps.map (·.t)) ∧ loopT qT stT c (ps.map (·.t)) = F
set_option maxHeartbeats 8000000 in
theorem readTrans_at (B:Nat) (c:Cur) (w:World) (hs:SignsIn w) (h:CurAt w B c) (ok:Ok c):Calls Tryz.prog 101 #[.pointer (some ⟨B,0,none⟩)] w (RetD Trs w B (trX c)):=by
 have hB:=h.lt
 obtain ⟨i0,hi,hz0,hz1,hz2⟩:=info_parts inf_trans
 have HI:=Lib.hid (And.intro hi (And.intro hz0 (And.intro hz1 hz2)))
 have HSG:=Lib.hid (fun W (hW:w.grownBy W (some B)) => signs_but hs h hW)
 obtain ⟨F,hF⟩:∃ F,F = trX c:=⟨_,rfl⟩
 rw [← hF]
 have HST:Hid (TrRel w B F (left c) (.slice none 0 0) w):=Lib.hid ⟨c,[],Nat.le_refl _,ok,h,RowB.nil (but_refl _ _) hB,⟨by simp,fun h => by simp at h⟩,hF.symm⟩
 have HBB:=Lib.hid hB
 clear h ok hF hi hz0 hz1 hz2 hs
 go_enter Tryz.func101,Tryz.ntmps101
 go_wp2_with fail
 go_loopg [3] (left c) (fun gh pv wr => TrRel w B F gh pv wr)
 case atStart => exact HST.out
 case round =>
  obtain ⟨d,ps,hgh,hok,hcur,hrow,hfew,htail⟩:=hrel
  have HGH:=Lib.hid hgh
  have HROW:=Lib.hid hrow
  have HTAIL:=Lib.hid htail
  have HCUR:=Lib.hid hcur
  have HIW:=Lib.hid (fun s W b (hW:CurAt W B d) (hb:isB d 1 s = b) => isWord_at B d s W hW hb)
  obtain ⟨pA,pc,rfl⟩:=hrow.shape
  obtain ⟨n,hn⟩:∃ n,n = ps.length:=⟨_,rfl⟩
  rw [← hn]
  rw [← hn] at HROW
  by_cases hb:qT d = true
  ·have HLS:=Lib.hid (left_less goes_T (ps.map (·.t)) hb)
   have HFW:=Lib.hid (few_T hb hfew)
   have HT1:=Lib.hid (loopT_yes goes_T (out:=ps.map (·.t)) hb)
   have h0:=(goes_T.real hb).1
   have h8:n ≤ 16:=by
    have hl:(ps.map (·.t)).length = n:=by simp [hn]
    rcases Nat.lt_or_ge n (16 + 1) with h' | h'
    ·omega
    ·exact absurd h0 (hfew.2 (by have:=hfew.1; omega))
   have HOK2:=Lib.hid ((to_stT d (ps.map (·.t))).ok hok)
   have HD:Hid (stT d (ps.map (·.t)) = ((readT (fullO 16 d (ps.map (·.t)))).1,(ps.map (·.t)) ++ [(readT (fullO 16 d (ps.map (·.t)))).2])):=Lib.hid rfl
   have HOKD:=Lib.hid ((to_fullO 16 d (ps.map (·.t))).ok hok)
   have HFU:Hid (fullO 16 d (ps.map (·.t)) = if n = 16 then fail d 8 else d):=Lib.hid (by unfold fullO; rw [show (ps.map (·.t)).length = n by simp [hn]])
   obtain ⟨D,hD⟩:∃ D,D = fullO 16 d (ps.map (·.t)):=⟨_,rfl⟩
   rw [← hD] at HD HOKD HFU
   have HRV:=Lib.hid (fun W (hs:SignsIn W) (hW:CurAt W B D) => tread_atF B D W hs hW HOKD.out)
   obtain ⟨⟨c4,v4⟩,h4⟩:∃ q,q = readT D:=⟨_,rfl⟩
   rw [← h4] at HD HRV
   rw [HD.out] at HLS HFW HOK2 HT1
   have HL1:Hid (ps.length + 1 ≤ maxLen):=Lib.hid (by unfold maxLen; omega)
   have HL2:Hid ((ps.length + 1) * 80 ≤ 140737488355328):=Lib.hid (by omega)
   have HFA:=Lib.hid (fun W (hW:CurAt W B d) => fail_at B d 8 W hW)
   have HHB:=Lib.hid hb
   clear hgh hok hfew htail h0 hD h4
   rcases h1:isB d 1 wOn with _ | _
   ·have HW1:=Lib.hid h1
    have HW2:Hid (isB d 1 wAuto = true):=Lib.hid (by unfold qT at hb; rw [h1,Bool.false_or] at hb; exact hb)
    clear h1 hb
    by_cases h8e:n = 16
    ·have g1:((n:Int) == 16) = true:=by simp; omega
     have g1':(n == 16) = true:=by simp; omega
     have HFD:Hid (D = fail d 8):=Lib.hid (by rw [HFU.out,if_pos h8e])
     clear h8e h8 hn hrow hcur
     go_wp2_with (go_at_call 97; (with_reducible refine (HIW.out wOn _ false HCUR.out HW1.out).mono ?_))
     rintro e x30 ⟨rfl,hb3⟩
     have HC3:=Lib.hid (HCUR.out.keep hb3)
     have HR3:=Lib.hid (HROW.out.keep hb3)
     clear hb3
     go_wp2_with (go_at_call 97; (with_reducible refine (HIW.out wAuto _ true HC3.out HW2.out).mono ?_))
     rintro e x31 ⟨rfl,hb3⟩
     have HC3:=Lib.hid (HC3.out.keep hb3)
     have HR3:=Lib.hid (HR3.out.keep hb3)
     clear hb3
     go_wp2_with (go_at_call 63; (with_reducible refine (HFA.out _ HC3.out).mono ?_))
     rintro e x6 ⟨rfl,hc6,hb6⟩
     rw [← HFD.out] at hc6
     have HCD:=Lib.hid hc6
     have HRW:=Lib.hid (HR3.out.but hb6)
     clear hc6 hb6
     go_wp2_with (go_at_call 130; (with_reducible refine (HRV.out _ (HSG.out _ HRW.out.grown) HCD.out).mono ?_))
     rintro e x7 ⟨gA,gn,gc,aA,an,ac,rfl,hc7,ht7,hf7,ha7,hb7⟩
     have HC7:=Lib.hid hc7
     have HR7:=Lib.hid (HRW.out.but hb7)
     have HD7:Hid (Dep x7 (fun b => w.heap.size ≤ b ∧ (Value.slice pA n pc).ownBlock ≠ some b) (tpN ⟨v4,gA,gn,gc,aA,an,ac⟩)):=Lib.hid (tr_fresh HRW.out ht7 hf7 ha7)
     clear hc7 hb7 ht7 hf7 ha7
     go_wp2_with (at_builtin; refine wpList_append_rowB rfl (.tmp 15) (.tmp 18) _ rfl i0 (.agg #[.string ByteArray.empty,.slice none 0 0,.slice none 0 0,.string ByteArray.empty]) 80 Tryz.underlying40 HI.out.1 HI.out.2.1 HI.out.2.2.1 HI.out.2.2.2 rfl (by decide) HR7.out ⟨v4,gA,gn,gc,aA,an,ac⟩ HD7.out rfl rfl rfl (tpV_one _) HL1.out HL2.out ?_; intro p2 w2 hrow2 hcur2; have HR8:=Lib.hid hrow2; have HC8:=Lib.hid (hcur2 _ HC7.out); clear hrow2 hcur2)
     go_roundg (left c4)
     case measure => have h1:=HLS.out; have h3:=HGH.out; omega
     case rel => exact ⟨c4,ps ++ [⟨v4,gA,gn,gc,aA,an,ac⟩],Nat.le_refl _,HOK2.out,HC8.out,HR8.out,by rw [List.map_append]; exact HFW.out,by rw [← HTAIL.out,HT1.out,List.map_append]; rfl⟩
    ·have g1:((n:Int) == 16) = false:=by simp; omega
     have g1':(n == 16) = false:=by simp; omega
     have HFD:Hid (D = d):=Lib.hid (by rw [HFU.out,if_neg h8e])
     clear h8e h8 hn hrow hcur
     go_wp2_with (go_at_call 97; (with_reducible refine (HIW.out wOn _ false HCUR.out HW1.out).mono ?_))
     rintro e x30 ⟨rfl,hb3⟩
     have HC3:=Lib.hid (HCUR.out.keep hb3)
     have HR3:=Lib.hid (HROW.out.keep hb3)
     clear hb3
     go_wp2_with (go_at_call 97; (with_reducible refine (HIW.out wAuto _ true HC3.out HW2.out).mono ?_))
     rintro e x31 ⟨rfl,hb3⟩
     have HC3:=Lib.hid (HC3.out.keep hb3)
     have HR3:=Lib.hid (HR3.out.keep hb3)
     clear hb3
     have HCD:=HC3
     rw [← HFD.out] at HCD
     have HRW:=HR3
     go_wp2_with (go_at_call 130; (with_reducible refine (HRV.out _ (HSG.out _ HRW.out.grown) HCD.out).mono ?_))
     rintro e x7 ⟨gA,gn,gc,aA,an,ac,rfl,hc7,ht7,hf7,ha7,hb7⟩
     have HC7:=Lib.hid hc7
     have HR7:=Lib.hid (HRW.out.but hb7)
     have HD7:Hid (Dep x7 (fun b => w.heap.size ≤ b ∧ (Value.slice pA n pc).ownBlock ≠ some b) (tpN ⟨v4,gA,gn,gc,aA,an,ac⟩)):=Lib.hid (tr_fresh HRW.out ht7 hf7 ha7)
     clear hc7 hb7 ht7 hf7 ha7
     go_wp2_with (at_builtin; refine wpList_append_rowB rfl (.tmp 15) (.tmp 18) _ rfl i0 (.agg #[.string ByteArray.empty,.slice none 0 0,.slice none 0 0,.string ByteArray.empty]) 80 Tryz.underlying40 HI.out.1 HI.out.2.1 HI.out.2.2.1 HI.out.2.2.2 rfl (by decide) HR7.out ⟨v4,gA,gn,gc,aA,an,ac⟩ HD7.out rfl rfl rfl (tpV_one _) HL1.out HL2.out ?_; intro p2 w2 hrow2 hcur2; have HR8:=Lib.hid hrow2; have HC8:=Lib.hid (hcur2 _ HC7.out); clear hrow2 hcur2)
     go_roundg (left c4)
     case measure => have h1:=HLS.out; have h3:=HGH.out; omega
     case rel => exact ⟨c4,ps ++ [⟨v4,gA,gn,gc,aA,an,ac⟩],Nat.le_refl _,HOK2.out,HC8.out,HR8.out,by rw [List.map_append]; exact HFW.out,by rw [← HTAIL.out,HT1.out,List.map_append]; rfl⟩
   ·have HW1:=Lib.hid h1
    clear h1 hb
    by_cases h8e:n = 16
    ·have g1:((n:Int) == 16) = true:=by simp; omega
     have g1':(n == 16) = true:=by simp; omega
     have HFD:Hid (D = fail d 8):=Lib.hid (by rw [HFU.out,if_pos h8e])
     clear h8e h8 hn hrow hcur
     go_wp2_with (go_at_call 97; (with_reducible refine (HIW.out wOn _ true HCUR.out HW1.out).mono ?_))
     rintro e x30 ⟨rfl,hb3⟩
     have HC3:=Lib.hid (HCUR.out.keep hb3)
     have HR3:=Lib.hid (HROW.out.keep hb3)
     clear hb3
     go_wp2_with (go_at_call 63; (with_reducible refine (HFA.out _ HC3.out).mono ?_))
     rintro e x6 ⟨rfl,hc6,hb6⟩
     rw [← HFD.out] at hc6
     have HCD:=Lib.hid hc6
     have HRW:=Lib.hid (HR3.out.but hb6)
     clear hc6 hb6
     go_wp2_with (go_at_call 130; (with_reducible refine (HRV.out _ (HSG.out _ HRW.out.grown) HCD.out).mono ?_))
     rintro e x7 ⟨gA,gn,gc,aA,an,ac,rfl,hc7,ht7,hf7,ha7,hb7⟩
     have HC7:=Lib.hid hc7
     have HR7:=Lib.hid (HRW.out.but hb7)
     have HD7:Hid (Dep x7 (fun b => w.heap.size ≤ b ∧ (Value.slice pA n pc).ownBlock ≠ some b) (tpN ⟨v4,gA,gn,gc,aA,an,ac⟩)):=Lib.hid (tr_fresh HRW.out ht7 hf7 ha7)
     clear hc7 hb7 ht7 hf7 ha7
     go_wp2_with (at_builtin; refine wpList_append_rowB rfl (.tmp 15) (.tmp 18) _ rfl i0 (.agg #[.string ByteArray.empty,.slice none 0 0,.slice none 0 0,.string ByteArray.empty]) 80 Tryz.underlying40 HI.out.1 HI.out.2.1 HI.out.2.2.1 HI.out.2.2.2 rfl (by decide) HR7.out ⟨v4,gA,gn,gc,aA,an,ac⟩ HD7.out rfl rfl rfl (tpV_one _) HL1.out HL2.out ?_; intro p2 w2 hrow2 hcur2; have HR8:=Lib.hid hrow2; have HC8:=Lib.hid (hcur2 _ HC7.out); clear hrow2 hcur2)
     go_roundg (left c4)
     case measure => have h1:=HLS.out; have h3:=HGH.out; omega
     case rel => exact ⟨c4,ps ++ [⟨v4,gA,gn,gc,aA,an,ac⟩],Nat.le_refl _,HOK2.out,HC8.out,HR8.out,by rw [List.map_append]; exact HFW.out,by rw [← HTAIL.out,HT1.out,List.map_append]; rfl⟩
    ·have g1:((n:Int) == 16) = false:=by simp; omega
     have g1':(n == 16) = false:=by simp; omega
     have HFD:Hid (D = d):=Lib.hid (by rw [HFU.out,if_neg h8e])
     clear h8e h8 hn hrow hcur
     go_wp2_with (go_at_call 97; (with_reducible refine (HIW.out wOn _ true HCUR.out HW1.out).mono ?_))
     rintro e x30 ⟨rfl,hb3⟩
     have HC3:=Lib.hid (HCUR.out.keep hb3)
     have HR3:=Lib.hid (HROW.out.keep hb3)
     clear hb3
     have HCD:=HC3
     rw [← HFD.out] at HCD
     have HRW:=HR3
     go_wp2_with (go_at_call 130; (with_reducible refine (HRV.out _ (HSG.out _ HRW.out.grown) HCD.out).mono ?_))
     rintro e x7 ⟨gA,gn,gc,aA,an,ac,rfl,hc7,ht7,hf7,ha7,hb7⟩
     have HC7:=Lib.hid hc7
     have HR7:=Lib.hid (HRW.out.but hb7)
     have HD7:Hid (Dep x7 (fun b => w.heap.size ≤ b ∧ (Value.slice pA n pc).ownBlock ≠ some b) (tpN ⟨v4,gA,gn,gc,aA,an,ac⟩)):=Lib.hid (tr_fresh HRW.out ht7 hf7 ha7)
     clear hc7 hb7 ht7 hf7 ha7
     go_wp2_with (at_builtin; refine wpList_append_rowB rfl (.tmp 15) (.tmp 18) _ rfl i0 (.agg #[.string ByteArray.empty,.slice none 0 0,.slice none 0 0,.string ByteArray.empty]) 80 Tryz.underlying40 HI.out.1 HI.out.2.1 HI.out.2.2.1 HI.out.2.2.2 rfl (by decide) HR7.out ⟨v4,gA,gn,gc,aA,an,ac⟩ HD7.out rfl rfl rfl (tpV_one _) HL1.out HL2.out ?_; intro p2 w2 hrow2 hcur2; have HR8:=Lib.hid hrow2; have HC8:=Lib.hid (hcur2 _ HC7.out); clear hrow2 hcur2)
     go_roundg (left c4)
     case measure => have h1:=HLS.out; have h3:=HGH.out; omega
     case rel => exact ⟨c4,ps ++ [⟨v4,gA,gn,gc,aA,an,ac⟩],Nat.le_refl _,HOK2.out,HC8.out,HR8.out,by rw [List.map_append]; exact HFW.out,by rw [← HTAIL.out,HT1.out,List.map_append]; rfl⟩
  ·have HFE:Hid (F = (d,ps.map (·.t))):=Lib.hid (by rw [← htail,loopT_no hb])
   have HHB:=Lib.hid hb
   clear hgh hok hfew htail hn hrow hcur hb
   have HW1:Hid (isB d 1 wOn = false):=Lib.hid (by have:=HHB.out; unfold qT at this; simp at this; exact this.1)
   have HW2:Hid (isB d 1 wAuto = false):=Lib.hid (by have:=HHB.out; unfold qT at this; simp at this; exact this.2)
   go_wp2_with (go_at_call 97; (with_reducible refine (HIW.out wOn _ false HCUR.out HW1.out).mono ?_))
   rintro e x30 ⟨rfl,hb3⟩
   have HC3:=Lib.hid (HCUR.out.keep hb3)
   have HR3:=Lib.hid (HROW.out.keep hb3)
   clear hb3
   go_wp2_with (go_at_call 97; (with_reducible refine (HIW.out wAuto _ false HC3.out HW2.out).mono ?_))
   rintro e x31 ⟨rfl,hb3⟩
   have HC3:=Lib.hid (HC3.out.keep hb3)
   have HR3:=Lib.hid (HR3.out.keep hb3)
   clear hb3
   go_wp2_with fail
   go_ret
   refine ⟨pA,n,pc,rfl,by rw [HFE.out]; exact HC3.out,?_,HR3.out.grown⟩
   rw [HFE.out]
   exact HR3.out.far.imp fun x hx => ⟨ps,rfl,hx.1,hx.2⟩
end Go.Proofs.YtcofikjpplkjdaaGreatDoor
namespace Go.Proofs.YtcofikjpplkjdaaGreatDoor
open Go.RowKit CurSpec TermSpec EvalSpec ActSpec NamesSpec ExprSpec TransSpec SynSpec
set_option maxRecDepth 100000
theorem inf_state:(Tryz.prog.info? 42).map (fun i => (i.zero,i.size,i.bytes)) = some (some (.agg #[.string ByteArray.empty,.int .i64 0,.int .i64 0,.slice none 0 0,.slice none 0 0,.slice none 0 0]),6,104):=by kernel_rfl
structure SP where
 x:Sx
 a3:Option Addr
 n3:Nat
 c3:Nat
 a4:Option Addr
 n4:Nat
 c4:Nat
 a5:Option Addr
 n5:Nat
 c5:Nat
def spV (p:SP):List Value:=[.string p.x.s,.int .i64 p.x.kind,.int .i64 p.x.par,.slice p.a3 p.n3 p.c3,.slice p.a4 p.n4 p.c4,.slice p.a5 p.n5 p.c5]
def spN (p:SP) (w:World):Prop:=Acs w (.slice p.a3 p.n3 p.c3) p.x.en ∧ Acs w (.slice p.a4 p.n4 p.c4) p.x.ex ∧ Trs w (.slice p.a5 p.n5 p.c5) p.x.tr
theorem spV_length (p:SP):(spV p).length = 6:=rfl
theorem spV_one (p:SP):∀ u ∈ spV p,u.oneCell' = true:=by
 intro u hu
 simp only [spV,List.mem_cons,List.not_mem_nil,or_false] at hu
 rcases hu with rfl | rfl | rfl | rfl | rfl | rfl <;> rfl
abbrev RowP (W:World) (B:Nat) (wr:World) (pv:Value) (ps:List SP):Prop:=RowB 42 6 spV spN W B wr pv ps
def RetSts (W:World) (B:Nat) (ps:List SP) (p:Cur × List Sx) (e:Ending) (w':World):Prop :=
 ∃ A n cp qs,e = .returned (.slice A n cp) ∧ CurAt w' B p.1 ∧ qs.map (·.x) = p.2 ∧ RowP W B w' (.slice A n cp) (ps ++ qs)
def StateOk (W:World) (B k:Nat):Prop:=∀ (c:Cur) (ps:List SP) (par:Int) (pA:Option Addr) (pc:Nat) (w:World),CurAt w B c → Ok c → RowP W B w (.slice pA ps.length pc) ps → StartS ps.length c → (k = 0 → c.bad ≠ 0) →
 Calls Tryz.prog 60 #[.pointer (some ⟨B,0,none⟩),.slice pA ps.length pc,.int .i64 par,.int .i64 (13 - k)] w (RetSts W B ps (stR k ps.length par c))
theorem stR_body (k n:Nat) (par:Int) (c:Cur) (h:k = 0 → c.bad ≠ 0):stR k n par c = bodyS (kidsR (stR (k - 1)) (k - 1) n) par c:=by
 cases k with
 | zero =>
   have hd:=((to_kdR c).trans ((to_headR c par).trans (to_insR _))).bad (h rfl)
   have hk:kidsR (stR (0 - 1)) (0 - 1) n (insR (headR c par).1).1 = ((insR (headR c par).1).1,[]):=loopT_no fun h' => hd (qS_real h').1
   show bodyS (fun d => (d,[])) par c = _
   unfold bodyS
   rw [hk]
 | succ k => rfl
theorem flat_mid {α:Type} {k:Nat} {f:α → List Value} (hf:∀ a,(f a).length = k) {l r:List α} {a:α} {j:Nat} {u:Value} (hj:j < k) (hu:(f a)[j]? = some u):((l ++ a :: r).flatMap f)[l.length * k + j]? = some u:=by
 rw [flat_get hf (a:=a) (by simp) hj,hu]
theorem dep_nil {w:World} {S:Nat → Prop} (x:Sx) (h:x.en = [] ∧ x.ex = [] ∧ x.tr = []):Dep w S (spN ⟨x,none,0,0,none,0,0,none,0,0⟩):=by
 obtain ⟨s,k,p,en,ex,tr⟩:=x
 obtain ⟨rfl,rfl,rfl⟩:=h
 exact Dep.triv fun w => ⟨acs_nil w,acs_nil w,Trs.nil w⟩
theorem row_at {W wr:World} {B n:Nat} {A:Option Addr} {cp:Nat} {ps qs:List SP} {p:SP} (h:RowP W B wr (.slice A n cp) (ps ++ p :: qs)):n = (ps ++ p :: qs).length ∧ ∃ g,A = some ⟨g,0,none⟩ ∧ n ≤ cp:=by
 obtain ⟨A',c',heq⟩:=h.shape
 cases heq
 obtain ⟨g,cap,heq,hn⟩:=own_at h.own (by simp; omega)
 cases heq
 exact ⟨rfl,g,rfl,hn⟩
theorem row_cells {W wr:World} {B g n cp:Nat} {ps qs:List SP} {p:SP} (h:RowP W B wr (.slice (some ⟨g,0,none⟩) n cp) (ps ++ p :: qs)) :
 wr.cell? ⟨g,ps.length * 6 + 1,none⟩ = some (.int .i64 p.x.kind) ∧ wr.cell? ⟨g,ps.length * 6 + 3,none⟩ = some (.slice p.a3 p.n3 p.c3) ∧ wr.cell? ⟨g,ps.length * 6 + 4,none⟩ = some (.slice p.a4 p.n4 p.c4) ∧ wr.cell? ⟨g,ps.length * 6 + 5,none⟩ = some (.slice p.a5 p.n5 p.c5) ∧
  (∀ j,wr.frozen? ⟨g,j,none⟩ = false):=by
 obtain ⟨rfl,-⟩:=row_at h
 obtain ⟨⟨cur,hc,-⟩,hcell⟩:=own_cell h.own
 refine ⟨hcell _ _ (flat_mid spV_length (by omega) rfl),hcell _ _ (flat_mid spV_length (by omega) rfl),hcell _ _ (flat_mid spV_length (by omega) rfl),hcell _ _ (flat_mid spV_length (by omega) rfl),fun j => free_of_block' hc j⟩
theorem row_set {W wr:World} {B g n cp j:Nat} {ps qs:List SP} {p p':SP} {u:Value} (h:RowP W B wr (.slice (some ⟨g,0,none⟩) n cp) (ps ++ p :: qs)) (hj:j < 6) (hu:spV p' = (spV p).set j u)
 (hn:Dep wr (fun b => W.heap.size ≤ b ∧ (Value.slice (some ⟨g,0,none⟩) n cp).ownBlock ≠ some b) (spN p')):RowP W B (wr.setCell ⟨g,ps.length * 6 + j,none⟩ u) (.slice (some ⟨g,0,none⟩) n cp) (ps ++ p' :: qs):=by
 obtain ⟨rfl,-⟩:=row_at h
 have hi:(ps ++ p :: qs)[ps.length]? = some p:=by simp
 have h1:=h.set spV_length hi hj hu hn
 rw [show (ps ++ p :: qs).set ps.length p' = ps ++ p' :: qs by simp] at h1
 exact h1
theorem row_fresh {W wr w':World} {B:Nat} {pv:Value} {ps:List SP} {P:World → Prop} (h:RowP W B wr pv ps) (hp:Dep w' (fun b => wr.heap.size ≤ b) P):Dep w' (fun b => W.heap.size ≤ b ∧ pv.ownBlock ≠ some b) P :=
 hp.mono fun b _ hb => ⟨Nat.le_trans h.grown.size hb,fun e => by have:=(own_block_bd h.own b e).2; omega⟩
theorem row_mid {W wr:World} {B:Nat} {pv:Value} {ps qs:List SP} {p:SP} (h:RowP W B wr pv (ps ++ p :: qs)):Dep wr (fun b => W.heap.size ≤ b ∧ pv.ownBlock ≠ some b) (spN p):=h.dep p (by simp)
end Go.Proofs.YtcofikjpplkjdaaGreatDoor
namespace Go.Proofs.YtcofikjpplkjdaaGreatDoor
open Go.RowKit CurSpec TermSpec EvalSpec ActSpec NamesSpec ExprSpec TransSpec SynSpec
set_option maxRecDepth 100000
def StRel (W:World) (B k:Nat) (ps:List SP) (p:SP) (F:Cur × List Sx) (gh:Nat) (pv:Value) (wr:World):Prop :=
 ∃ (d:Cur) (qs:List SP),left d ≤ gh ∧ Ok d ∧ CurAt wr B d ∧ RowP W B wr pv (ps ++ p :: qs) ∧ FewS (ps.length + 1) d (qs.map (·.x)) ∧ (k = 0 → d.bad ≠ 0) ∧
   (p.x.kind = 1 → qs = [] ∧ F = (d,[])) ∧ (p.x.kind ≠ 1 → loopT qS (stS (stR (k - 1)) (k - 1) ps.length) d (qs.map (·.x)) = F)
set_option maxRecDepth 100000 in
set_option maxHeartbeats 16000000 in
theorem state_body (W0:World) (B k:Nat) (hk:k ≤ 12) (hs0:SignsIn W0) {c00:Cur} (hc00:CurAt W0 B c00) (IH:∀ k',k = k' + 1 → StateOk W0 B k'):StateOk W0 B k:=by
 intro c ps par pA pc w h ok hrow hst hdead
 obtain ⟨i0,hi,hz0,hz1,hz2⟩:=info_parts inf_state
 have HI:=Lib.hid (And.intro hi (And.intro hz0 (And.intro hz1 hz2)))
 have HSG:=Lib.hid (fun W (hW:W0.grownBy W (some B)) => signs_but hs0 hc00 hW)
 rw [stR_body k ps.length par c hdead]
 obtain ⟨n,hn⟩:∃ n,n = ps.length:=⟨_,rfl⟩
 have HN:=Lib.hid hn
 have h60:n ≤ 60:=by rw [hn]; exact hst.1
 obtain ⟨K,hK⟩:∃ K,K = kidsR (stR (k - 1)) (k - 1) ps.length:=⟨_,rfl⟩
 rw [← hK]
 have HD:=Lib.hid (readHead_at B c par w h ok)
 obtain ⟨⟨c1,x1⟩,e1⟩:∃ p,p = headR c par:=⟨_,rfl⟩
 have k1:To c c1:=by have:=(to_kdR c).trans (to_headR c par); rw [← e1] at this; exact this
 have hx1:x1.en = [] ∧ x1.ex = [] ∧ x1.tr = [] ∧ x1.par = par:=by
  have:x1 = (headR c par).2:=by rw [← e1]
  rw [this]
  exact ⟨rfl,rfl,rfl,rfl⟩
 rw [← e1] at HD
 have HT1:=Lib.hid (fun W (hW:CurAt W B c1) => take_at B c1 3 wEnd W hW)
 obtain ⟨P,hP⟩:∃ P,P = bodyS K par c:=⟨_,rfl⟩
 rw [← hP]
 have hL1:ps.length + 1 ≤ maxLen:=by unfold maxLen; omega
 have hL2:(ps.length + 1) * 104 ≤ 140737488355328:=by omega
 have HL1:=Lib.hid hL1
 have HL2:=Lib.hid hL2
 have HROW:=Lib.hid hrow
 have HX1:=Lib.hid hx1
 by_cases hb:isB c1 3 wEnd = true
 ·have HP:Hid (P = (on c1,[x1])):=Lib.hid (by rw [hP]; unfold bodyS; rw [← e1]; dsimp only; rw [if_pos hb])
  rw [hb,show take c1 3 wEnd = on c1 by unfold take; rw [if_pos hb]] at HT1
  rw [← hn]
  rw [← hn] at HROW
  clear hP hb h ok hrow hst hdead e1 k1 hx1 hK hi hz0 hz1 hz2 hL1 hL2 IH hs0 hc00 hn
  go_enter Tryz.func60,Tryz.ntmps60
  go_wp2_with (go_at_call 99; (with_reducible refine HD.out.mono ?_))
  rintro e x2 ⟨rfl,hc2,hb2⟩
  have HC2:=Lib.hid hc2
  have HR2:=Lib.hid (HROW.out.but hb2)
  clear hc2 hb2
  go_wp2_with (at_builtin; refine wpList_append_rowB rfl (.tmp 12) (.tmp 16) _ rfl i0 (.agg #[.string ByteArray.empty,.int .i64 0,.int .i64 0,.slice none 0 0,.slice none 0 0,.slice none 0 0]) 104 Tryz.underlying24 HI.out.1 HI.out.2.1 HI.out.2.2.1 HI.out.2.2.2 rfl (by decide) HR2.out ⟨x1,none,0,0,none,0,0,none,0,0⟩ (dep_nil x1 ⟨HX1.out.1,HX1.out.2.1,HX1.out.2.2.1⟩) rfl rfl rfl (spV_one _) HL1.out HL2.out ?_; intro p2 w2 hrow2 hcur2; have HR3:=Lib.hid hrow2; have HC3:=Lib.hid (hcur2 _ HC2.out); clear hrow2 hcur2)
  go_wp2_with (go_at_call 62; (with_reducible refine (HT1.out _ HC3.out).mono ?_))
  rintro e x4 ⟨rfl,hc4,hb4⟩
  have HC4:=Lib.hid hc4
  have HR4:=Lib.hid (HR3.out.but hb4)
  clear hc4 hb4
  go_wp2_with fail
  go_ret
  obtain ⟨A,cp,rfl⟩:=HR4.out.shape
  exact ⟨A,_,cp,[⟨x1,none,0,0,none,0,0,none,0,0⟩],rfl,by rw [HP.out]; exact HC4.out,by rw [HP.out]; rfl,HR4.out⟩
 ·obtain ⟨c2,e2⟩:∃ d,d = want c1 3 wOpen:=⟨_,rfl⟩
  have k2:To c c2:=e2 ▸ k1.trans (to_want _ _ _)
  obtain ⟨⟨c3,en⟩,e3⟩:∃ p,p = acX c2 wEnter:=⟨_,rfl⟩
  have k3:To c c3:=by have:=k2.trans (to_acX c2 wEnter); rw [← e3] at this; exact this
  obtain ⟨⟨c4,ex⟩,e4⟩:∃ p,p = acX c3 wExit:=⟨_,rfl⟩
  have k4:To c c4:=by have:=k3.trans (to_acX c3 wExit); rw [← e4] at this; exact this
  obtain ⟨⟨c5,tr⟩,e5⟩:∃ p,p = trX c4:=⟨_,rfl⟩
  have k5:To c c5:=by have:=k4.trans (to_trX c4); rw [← e5] at this; exact this
  have hins:insR c1 = (c5,en,ex,tr):=by unfold insR; rw [← e2,← e3]; dsimp only; rw [← e4]; dsimp only; rw [← e5]
  obtain ⟨F,hF⟩:∃ F,F = if x1.kind = 1 then (c5,[]) else K c5:=⟨_,rfl⟩
  have HP:Hid (P = (want F.1 3 wShut,⟨x1.s,x1.kind,x1.par,en,ex,tr⟩ :: F.2)):=Lib.hid (by
   rw [hP]
   unfold bodyS
   rw [← e1]
   dsimp only
   rw [if_neg hb,hins,hF]
   by_cases h1:x1.kind = 1
   ·rw [if_pos h1,if_pos h1]; rfl
   ·rw [if_neg h1,if_neg h1]; rfl)
  have HWO:=Lib.hid (fun W (hW:CurAt W B c1) => want_at B c1 3 wOpen W hW)
  have HEN:=Lib.hid (fun W (hs:SignsIn W) (hW:CurAt W B c2) => readActs_at B c2 wEnter W hs hW (k2.ok ok))
  have HEX:=Lib.hid (fun W (hs:SignsIn W) (hW:CurAt W B c3) => readActs_at B c3 wExit W hs hW (k3.ok ok))
  have HTR:=Lib.hid (fun W (hs:SignsIn W) (hW:CurAt W B c4) => readTrans_at B c4 W hs hW (k4.ok ok))
  have HWS:=Lib.hid (fun W (hW:CurAt W B F.1) => want_at B F.1 3 wShut W hW)
  rw [← e2] at HWO
  rw [← e3] at HEN
  rw [← e4] at HEX
  rw [← e5] at HTR
  rw [show isB c1 3 wEnd = false by simpa using hb,show take c1 3 wEnd = c1 by unfold take; rw [if_neg hb]] at HT1
  have HOK5:=Lib.hid (k5.ok ok)
  have HDEAD:=Lib.hid (fun h0 => k5.bad (hdead h0))
  have HFEW:=Lib.hid (hst.few.to k5)
  have HKF:Hid (x1.kind ≠ 1 → loopT qS (stS (stR (k - 1)) (k - 1) ps.length) c5 [] = F):=Lib.hid fun h1 => by rw [hF,if_neg h1,hK]; rfl
  have HKL:Hid (x1.kind = 1 → F = (c5,[])):=Lib.hid fun h1 => by rw [hF,if_pos h1]
  rw [← hn]
  rw [← hn] at HROW
  clear hP hb h ok hrow hst hdead e1 k1 hx1 hK hi hz0 hz1 hz2 hL1 hL2 hs0 hc00 hn e2 k2 e3 k3 e4 k4 e5 k5 hins hF
  go_enter Tryz.func60,Tryz.ntmps60
  go_wp2_with (go_at_call 99; (with_reducible refine HD.out.mono ?_))
  rintro e x2 ⟨rfl,hc2,hb2⟩
  have HC2:=Lib.hid hc2
  have HR2:=Lib.hid (HROW.out.but hb2)
  clear hc2 hb2
  go_wp2_with (at_builtin; refine wpList_append_rowB rfl (.tmp 12) (.tmp 16) _ rfl i0 (.agg #[.string ByteArray.empty,.int .i64 0,.int .i64 0,.slice none 0 0,.slice none 0 0,.slice none 0 0]) 104 Tryz.underlying24 HI.out.1 HI.out.2.1 HI.out.2.2.1 HI.out.2.2.2 rfl (by decide) HR2.out ⟨x1,none,0,0,none,0,0,none,0,0⟩ (dep_nil x1 ⟨HX1.out.1,HX1.out.2.1,HX1.out.2.2.1⟩) rfl rfl rfl (spV_one _) HL1.out HL2.out ?_; intro p2 w2 hrow2 hcur2; have HR3:=Lib.hid hrow2; have HC3:=Lib.hid (hcur2 _ HC2.out); clear hrow2 hcur2)
  go_wp2_with (go_at_call 62; (with_reducible refine (HT1.out _ HC3.out).mono ?_))
  rintro e x4 ⟨rfl,hc4,hb4⟩
  have HC4:=Lib.hid hc4
  have hr4:=HR3.out.but hb4
  clear hc4 hb4
  obtain ⟨A,cp,rfl⟩:=hr4.shape
  obtain ⟨hN,g,rfl,hcap⟩:=row_at hr4
  obtain ⟨N,hNN⟩:∃ N,N = (ps ++ [(⟨x1,none,0,0,none,0,0,none,0,0⟩:SP)]).length:=⟨_,rfl⟩
  rw [← hNN] at hr4 hcap ⊢
  have hNn:N = n + 1:=by rw [hNN,HN.out]; simp
  subst hNn
  have HR4:=Lib.hid hr4
  clear hr4 hN hNN
  go_wp2_with (go_at_call 26; (with_reducible refine (HWO.out _ HC4.out).mono ?_))
  rintro e x5 ⟨rfl,hc5,hb5⟩
  have HC5:=Lib.hid hc5
  have HR5:=Lib.hid (HR4.out.but hb5)
  clear hc5 hb5
  go_wp2_with (go_at_call 100; (with_reducible refine (HEN.out _ (HSG.out _ HR5.out.grown) HC5.out).mono ?_))
  rintro e x6 ⟨A3,n3,c3,rfl,hc6,hf6,hb6⟩
  have HC6:=Lib.hid hc6
  have HR6:=Lib.hid (HR5.out.but hb6)
  have HF6:=Lib.hid (row_fresh HR5.out hf6)
  clear hc6 hf6 hb6
  obtain ⟨q1,q3,q4,q5,f0⟩:=row_cells HR6.out
  rw [← HN.out] at q1 q3 q4 q5
  have HRS6:=Lib.hid (row_set (p':=⟨⟨x1.s,x1.kind,x1.par,en,x1.ex,x1.tr⟩,A3,n3,c3,none,0,0,none,0,0⟩) (u:=.slice A3 n3 c3) HR6.out (by decide:3 < 6) rfl (HF6.out.and (row_mid HR6.out) |>.imp fun _ hx => ⟨hx.1,hx.2.2.1,hx.2.2.2⟩))
  rw [← HN.out] at HRS6
  have HCS6:=Lib.hid (HR6.out.setCur (i:=n * 6 + 3) (u:=.slice A3 n3 c3) HC6.out)
  go_wp2_with (go_at_call 100; (with_reducible refine (HEX.out _ (HSG.out _ HRS6.out.grown) HCS6.out).mono ?_))
  rintro e x7 ⟨A4,n4,c4',rfl,hc7,hf7,hb7⟩
  have HC7:=Lib.hid hc7
  have HR7:=Lib.hid (HRS6.out.but hb7)
  have HF7:=Lib.hid (row_fresh HRS6.out hf7)
  clear hc7 hf7 hb7 q1 q3 q4 q5 f0 HR6 HF6 HC6 HRS6 HCS6
  obtain ⟨q1,q3,q4,q5,f0⟩:=row_cells HR7.out
  rw [← HN.out] at q1 q3 q4 q5
  have HRS7:=Lib.hid (row_set (p':=⟨⟨x1.s,x1.kind,x1.par,en,ex,x1.tr⟩,A3,n3,c3,A4,n4,c4',none,0,0⟩) (u:=.slice A4 n4 c4') HR7.out (by decide:4 < 6) rfl (HF7.out.and (row_mid HR7.out) |>.imp fun _ hx => ⟨hx.2.1,hx.1,hx.2.2.2⟩))
  rw [← HN.out] at HRS7
  have HCS7:=Lib.hid (HR7.out.setCur (i:=n * 6 + 4) (u:=.slice A4 n4 c4') HC7.out)
  go_wp2_with (go_at_call 101; (with_reducible refine (HTR.out _ (HSG.out _ HRS7.out.grown) HCS7.out).mono ?_))
  rintro e x8 ⟨A5,n5,c5',rfl,hc8,hf8,hb8⟩
  have HC8:=Lib.hid hc8
  have HR8:=Lib.hid (HRS7.out.but hb8)
  have HF8:=Lib.hid (row_fresh HRS7.out hf8)
  clear hc8 hf8 hb8 q1 q3 q4 q5 f0 HR7 HF7 HC7 HRS7 HCS7
  obtain ⟨q1,q3,q4,q5,f0⟩:=row_cells HR8.out
  rw [← HN.out] at q1 q3 q4 q5
  obtain ⟨p,hp⟩:∃ p:SP,p = ⟨⟨x1.s,x1.kind,x1.par,en,ex,tr⟩,A3,n3,c3,A4,n4,c4',A5,n5,c5'⟩:=⟨_,rfl⟩
  have hrs8:=row_set (p':=p) (u:=.slice A5 n5 c5') HR8.out (by decide:5 < 6) (by rw [hp]; rfl) (by rw [hp]; exact (HF8.out.and (row_mid HR8.out) |>.imp fun _ hx => ⟨hx.2.1,hx.2.2.1,hx.1⟩))
  have hcs8:=HR8.out.setCur (i:=ps.length * 6 + 5) (u:=.slice A5 n5 c5') HC8.out
  have HPX:Hid (p.x = ⟨x1.s,x1.kind,x1.par,en,ex,tr⟩):=Lib.hid (by rw [hp])
  have HKD:Hid (p.x.kind = x1.kind):=Lib.hid (by rw [hp])
  clear hp
  have HST:Hid (StRel W0 B k ps p F (left c5) (.slice (some ⟨g,0,none⟩) (n + 1) cp) (x8.setCell ⟨g,n * 6 + 5,none⟩ (.slice A5 n5 c5'))):=Lib.hid
   ⟨c5,[],Nat.le_refl _,HOK5.out,by rw [HN.out]; exact hcs8,by rw [HN.out]; rw [HN.out] at hrs8; exact hrs8,HFEW.out,HDEAD.out,fun h => ⟨rfl,HKL.out (HKD.out ▸ h)⟩,fun h => HKF.out (HKD.out ▸ h)⟩
  clear hrs8 hcs8
  clear HR8 HF8 HC8 HKF HKL HFEW HDEAD HOK5 HR2 HC2 HR3 HC3 HR4 HC4 HR5 HC5 HD HT1 HWO HEN HEX HTR HROW HX1 HL1 HL2
  go_wp2_with fail
  clear q1 q3 q4 q5 f0
  go_loopg [1] (left c5) (fun gh pv wr => StRel W0 B k ps p F gh pv wr)
  case atStart => exact HST.out
  case round =>
   obtain ⟨d,qs,hgh,hokd,hcur,hrow,hfew,hdead,hleaf,hgo⟩:=hrel
   obtain ⟨A,cp2,rfl⟩:=hrow.shape
   obtain ⟨hN2,g2,rfl,hcap2⟩:=row_at hrow
   obtain ⟨M,hM⟩:∃ M,M = (ps ++ p :: qs).length:=⟨_,rfl⟩
   have HM:Hid (M = n + 1 + (qs.map (·.x)).length):=Lib.hid (by rw [hM,HN.out]; simp; omega)
   rw [← hM] at hrow hcap2 ⊢
   have hnM:n < M:=by have:=HM.out; omega
   have HROWD:=Lib.hid hrow
   have HCURD:=Lib.hid hcur
   obtain ⟨q1,q3,q4,q5,f0⟩:=row_cells hrow
   rw [← HN.out] at q1
   clear q3 q4 q5 f0 hN2
   by_cases h1:p.x.kind = 1
   ·have HFE:=Lib.hid (hleaf h1)
    have g1:(p.x.kind != 1) = false:=by simp [h1]
    have HCF:Hid (CurAt wr B F.1):=Lib.hid (by rw [HFE.out.2]; exact hcur)
    clear hleaf hgo hfew hdead hokd hgh hrow hcur hM
    go_wp2_with (go_at_call 26; (with_reducible refine (HWS.out _ HCF.out).mono ?_))
    rintro e y9 ⟨rfl,hc9,hb9⟩
    have HC9:=Lib.hid hc9
    have HR9:=Lib.hid (HROWD.out.but hb9)
    clear hc9 hb9
    go_wp2_with fail
    go_ret
    refine ⟨_,_,_,[p],rfl,by rw [HP.out]; exact HC9.out,?_,?_⟩
    ·rw [HP.out,HFE.out.2,← HPX.out]; rfl
    ·have:=HR9.out
     rw [HFE.out.1] at this
     exact this
   ·have g1:(p.x.kind != 1) = true:=by simp [h1]
    have HNL:=Lib.hid h1
    have HLO:=Lib.hid (hgo h1)
    have HIS:=Lib.hid (fun b (hb:qS d = b) => isState_at B d wr hcur hb)
    clear hleaf hgo h1
    by_cases hq:qS d = true
    ·have h0:=(qS_real hq).1
     obtain ⟨k',hk'⟩:∃ k',k = k' + 1:=by
      cases k with
      | zero => exact absurd h0 (hdead rfl)
      | succ k' => exact ⟨k',rfl⟩
     have hk1:k - 1 = k':=by omega
     rw [hk1] at HLO
     have hki:(13:Int) - (k:Int) + 1 = 13 - (k':Int):=by omega
     obtain ⟨r,hr⟩:∃ r,r = SynSpec.room (M:Int) (13 - (k:Int) + 1):=⟨_,rfl⟩
     have HRM:=Lib.hid (fun W => room_any (M:Int) (13 - (k:Int) + 1) W (r:=r) hr.symm)
     have hrr:r = SynSpec.room ((ps.length + 1 + (qs.map (·.x)).length:Nat):Int) (13 - (k':Int)):=by rw [hr,hki,HM.out,HN.out]
     have HFA:=Lib.hid (fun W (hW:CurAt W B d) => fail_at B d r W hW)
     obtain ⟨D,hD⟩:∃ D,D = fail d r:=⟨_,rfl⟩
     rw [← hD] at HFA
     have hstp:stS (stR k') k' ps.length d (qs.map (·.x)) = ((stR k' M n D).1,(qs.map (·.x)) ++ (stR k' M n D).2):=by unfold stS; rw [← hrr,← hD,← HN.out,← HM.out]
     have hfw:=few_stS (k:=k') (few_stR k') hq hfew
     rw [hstp,← hrr,← hD,← HN.out,← HM.out] at hfw
     have HFW:=Lib.hid hfw.2
     have hstart:=hfw.1
     have hLS:=left_less (goes_S k' ps.length) (qs.map (·.x)) hq
     rw [hstp] at hLS
     have HT2:=Lib.hid (loopT_yes (goes_S k' ps.length) (out:=qs.map (·.x)) hq)
     rw [hstp] at HT2
     have hDd:k' = 0 → D.bad ≠ 0:=fun h0' => by
      rw [hD,hrr]
      refine fail_bad d ?_
      rw [h0']
      unfold SynSpec.room
      split <;> decide
     have hDok:Ok D:=hD ▸ hokd.fail r
     have HREC:=Lib.hid (fun W (hc:CurAt W B D) (hr:RowP W0 B W (.slice (some ⟨g2,0,none⟩) M cp2) (ps ++ p :: qs)) => by
      have:=IH k' hk' D (ps ++ p :: qs) n (some ⟨g2,0,none⟩) cp2 W hc hDok (hM ▸ hr) (hM ▸ hstart) hDd
      rw [← hM,← hki] at this
      exact this)
     have HTO:=Lib.hid (to_stR k' M n D)
     have HOKR:=Lib.hid ((to_stR k' M n D).ok hDok)
     obtain ⟨⟨c9,R⟩,hR⟩:∃ R,R = stR k' M n D:=⟨_,rfl⟩
     rw [← hR] at HREC HTO HFW HT2 hLS HOKR
     have HLS:=Lib.hid hLS
     have HGH:=Lib.hid hgh
     have HKK:=Lib.hid hk'
     have HIS2:=Lib.hid (HIS.out true hq)
     clear hgh hokd hfew hdead hrow hcur hM hk1 hki hr hrr hD hstp hfw hstart hLS hDd hDok hR hq h0 hk' HIS IH
     go_wp2_with (go_at_call 102; (with_reducible refine HIS2.out.mono ?_))
     rintro e y1 ⟨rfl,hb1⟩
     have HC1:=Lib.hid (HCURD.out.keep hb1)
     have HR1:=Lib.hid (HROWD.out.keep hb1)
     clear hb1
     go_wp2_with (go_at_call 103; (with_reducible refine (HRM.out _).mono ?_))
     rintro e y2 ⟨rfl,rfl⟩
     go_wp2_with (go_at_call 63; (with_reducible refine (HFA.out _ HC1.out).mono ?_))
     rintro e y3 ⟨rfl,hc3,hb3⟩
     have HC3:=Lib.hid hc3
     have HR3:=Lib.hid (HR1.out.but hb3)
     clear hc3 hb3
     go_wp2_with (go_at_call 60; (with_reducible refine (HREC.out _ HC3.out HR3.out).mono ?_))
     rintro e y4 ⟨A4,M4,cp4,qs4,rfl,hc4,hm4,hr4⟩
     have HC4:=Lib.hid hc4
     have HR4:=Lib.hid hr4
     have HM4:=Lib.hid hm4
     clear hc4 hr4 hm4
     go_wp2_with fail
     go_roundg (left c9)
     case measure => have h1:=HLS.out; have h3:=HGH.out; omega
     case rel =>
      refine ⟨c9,qs ++ qs4,Nat.le_refl _,HOKR.out,HC4.out,?_,?_,fun h0 => ?_,fun h1 => absurd h1 HNL.out,fun _ => ?_⟩
      ·have:=HR4.out
       rw [List.append_assoc,List.cons_append] at this
       exact this
      ·rw [List.map_append,HM4.out,← HN.out]
       exact HFW.out
      ·have:=HKK.out
       omega
      ·rw [List.map_append,HM4.out,show k - 1 = _ from (by have:=HKK.out; omega:k - 1 = k'),← HLO.out,HT2.out]
    ·have HFE:Hid (F = (d,qs.map (·.x))):=Lib.hid (by rw [← HLO.out,loopT_no hq])
     have HIS2:=Lib.hid (HIS.out false (by simpa using hq))
     clear hgh hokd hfew hdead hrow hcur hM hq HIS IH
     go_wp2_with (go_at_call 102; (with_reducible refine HIS2.out.mono ?_))
     rintro e y1 ⟨rfl,hb1⟩
     have HC1:Hid (CurAt y1 B F.1):=Lib.hid (by rw [HFE.out]; exact HCURD.out.keep hb1)
     have HR1:=Lib.hid (HROWD.out.keep hb1)
     clear hb1
     go_wp2_with (go_at_call 26; (with_reducible refine (HWS.out _ HC1.out).mono ?_))
     rintro e y9 ⟨rfl,hc9,hb9⟩
     have HC9:=Lib.hid hc9
     have HR9:=Lib.hid (HR1.out.but hb9)
     clear hc9 hb9
     go_wp2_with fail
     go_ret
     refine ⟨_,_,_,p :: qs,rfl,by rw [HP.out]; exact HC9.out,?_,HR9.out⟩
     rw [HP.out,HFE.out,← HPX.out]
     rfl
theorem readState_at (W0:World) (B:Nat) (hs0:SignsIn W0) {c00:Cur} (hc00:CurAt W0 B c00):∀ k,k ≤ 12 → StateOk W0 B k
 | 0,_ => state_body W0 B 0 (by omega) hs0 hc00 (fun k' h => by omega)
 | k + 1,hk => state_body W0 B (k + 1) hk hs0 hc00 (fun k' h => by obtain rfl:k' = k:=(by omega); exact readState_at W0 B hs0 hc00 k' (by omega))
end Go.Proofs.YtcofikjpplkjdaaGreatDoor