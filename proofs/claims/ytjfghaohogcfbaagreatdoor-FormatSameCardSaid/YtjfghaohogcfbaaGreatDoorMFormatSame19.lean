/- SynVar, TermNames, SynEvents, joined. -/
import Derived.Test.YtjfghaohogcfbaaGreatDoorMFormatSame18
import Derived.Test.YtjfghaohogcfbaaGreatDoorMFormatSame02
import Derived.Test.YtjfghaohogcfbaaGreatDoorMFormatSame16
namespace Go.Proofs.YtjfghaohogcfbaaGreatDoor
open Go.RowKit CurSpec TermSpec EvalSpec ActSpec NamesSpec ExprSpec TransSpec SynSpec
set_option maxRecDepth 100000
structure Rd4 (T:TypeId) (z0 z1 z2 z3:Value) (W:World) (B:Nat) (wx:World) (c:Cur) (x0 x1 x2 x3:Value):Prop where
 cur:CurAt wx B c
 res:wx.heap[W.heap.size]? = some (.cells #[z0,z1,z2,z3] T (0,0))
 blk:wx.heap[W.heap.size + 1]? = some (.cells #[x0,x1,x2,x3] T (0,0))
 grown:W.grownBy wx (some B)
 lt:B < W.heap.size
section
variable {T:TypeId} {z0 z1 z2 z3:Value} {W wx wy:World} {B:Nat} {c c':Cur} {x0 x1 x2 x3:Value}
theorem Rd4.start (h:CurAt W B c):Rd4 T z0 z1 z2 z3 W B ((W.alloc (.cells #[z0,z1,z2,z3] T)).alloc (.cells #[z0,z1,z2,z3] T)) c z0 z1 z2 z3:=by
 refine ⟨(h.alloc _).alloc _,(heap_alloc_old _ _ (by simp)).trans (heap_alloc_new _ _),?_,but_below (KitC.below_pair _ _ _),h.lt⟩
 have:=heap_alloc_new (W.alloc (.cells #[z0,z1,z2,z3] T)) (.cells #[z0,z1,z2,z3] T)
 rwa [World.size_alloc] at this
theorem Rd4.but (h:Rd4 T z0 z1 z2 z3 W B wx c x0 x1 x2 x3) (hb:wx.grownBy wy (some B)) (hc:CurAt wy B c'):Rd4 T z0 z1 z2 z3 W B wy c' x0 x1 x2 x3:=by
 have h1:=h.lt
 exact ⟨hc,grown_block h.res hb (by omega),grown_block h.blk hb (by omega),but_trans h.grown hb,h.lt⟩
theorem Rd4.keep (h:Rd4 T z0 z1 z2 z3 W B wx c x0 x1 x2 x3) (hb:Below wx.heap.size wx wy):Rd4 T z0 z1 z2 z3 W B wy c x0 x1 x2 x3:=h.but (but_below hb) (h.cur.keep hb)
theorem Rd4.store (i:Nat) (u:Value):wx.grownBy (wx.setCell ⟨W.heap.size + 1,i,none⟩ u) (some (W.heap.size + 1)):=but_set (but_refl _ _) i u
theorem Rd4.set (h:Rd4 T z0 z1 z2 z3 W B wx c x0 x1 x2 x3) (i:Nat) (u:Value) {y0 y1 y2 y3:Value} (hy:(#[x0,x1,x2,x3]:Array Value).setIfInBounds i u = #[y0,y1,y2,y3]):Rd4 T z0 z1 z2 z3 W B (wx.setCell ⟨W.heap.size + 1,i,none⟩ u) c y0 y1 y2 y3:=by
 have h1:=h.lt
 have hs:=Rd4.store (W:=W) (wx:=wx) i u
 refine ⟨h.cur.own hs (by omega),grown_block h.res hs (by omega),?_,but_set_new h.grown (by omega) _ _,h.lt⟩
 rw [← hy]
 exact block_setCell' h.blk i u
theorem Rd4.size (h:Rd4 T z0 z1 z2 z3 W B wx c x0 x1 x2 x3):W.heap.size + 2 ≤ wx.heap.size:=(Array.getElem?_eq_some_iff.1 h.blk).1
theorem Rd4.done (_h:Rd4 T z0 z1 z2 z3 W B wx c x0 x1 x2 x3) (u0 u1 u2 u3:Value) :
 wx.grownBy ((((wx.setCell ⟨W.heap.size,0,none⟩ u0).setCell ⟨W.heap.size,1,none⟩ u1).setCell ⟨W.heap.size,2,none⟩ u2).setCell ⟨W.heap.size,3,none⟩ u3) (some W.heap.size) :=
 but_set (but_set (but_set (but_set (but_refl _ _) 0 _) 1 _) 2 _) 3 _
end
abbrev vrA (v:Vr):Value:=.agg #[.string v.s,.int .i64 v.lo,.int .i64 v.hi,.int .i64 v.ini]
def RetVar (W:World) (B:Nat) (p:Cur × Vr) (e:Ending) (w':World):Prop:=e = .returned (vrA p.2) ∧ CurAt w' B p.1 ∧ W.grownBy w' (some B)
set_option maxHeartbeats 4000000 in
theorem readVar_at (B:Nat) (c:Cur) (w:World) (h:CurAt w B c) (ok:Ok c):Calls Tryz.prog 92 #[.pointer (some ⟨B,0,none⟩)] w (RetVar w B (varR c)):=by
 have H0:=Lib.hid (Rd4.start (T:=53) (z0:=.string ⟨#[]⟩) (z1:=.int .i64 0) (z2:=.int .i64 0) (z3:=.int .i64 0) h)
 obtain ⟨c1,e1⟩:∃ d,d = want c 1 wVar:=⟨_,rfl⟩
 have k1:Ok c1:=e1 ▸ ok.want _ _
 obtain ⟨c2,e2⟩:∃ d,d = nameC c1:=⟨_,rfl⟩
 have k2:Ok c2:=e2 ▸ k1.nameC
 obtain ⟨s,es⟩:∃ s,s = nameS c1:=⟨_,rfl⟩
 obtain ⟨⟨c3,lo⟩,e3⟩:∃ p,p = intR c2:=⟨_,rfl⟩
 have k3:Ok c3:=by have:=(to_intR c2).ok k2; rw [← e3] at this; exact this
 obtain ⟨c4,e4⟩:∃ d,d = want c3 3 wDots:=⟨_,rfl⟩
 have k4:Ok c4:=e4 ▸ k3.want _ _
 obtain ⟨⟨c5,hi⟩,e5⟩:∃ p,p = intR c4:=⟨_,rfl⟩
 have k5:Ok c5:=by have:=(to_intR c4).ok k4; rw [← e5] at this; exact this
 obtain ⟨c6,e6⟩:∃ d,d = want c5 3 wIs:=⟨_,rfl⟩
 have k6:Ok c6:=e6 ▸ k5.want _ _
 obtain ⟨⟨c7,ini⟩,e7⟩:∃ p,p = intR c6:=⟨_,rfl⟩
 obtain ⟨c8,e8⟩:∃ d,d = want c7 3 wEnd:=⟨_,rfl⟩
 have HP:Hid (varR c = (c8,⟨s,lo,hi,ini⟩)):=Lib.hid (by unfold varR; rw [← e1,← e2,← es,← e3]; dsimp only; rw [← e4,← e5]; dsimp only; rw [← e6,← e7,← e8])
 have HW1:=Lib.hid (fun W (hW:CurAt W B c) => want_at B c 1 wVar W hW)
 have HN2:=Lib.hid (fun W (hW:CurAt W B c1) => name_at B c1 k1 W hW)
 have HI3:=Lib.hid (fun W (hW:CurAt W B c2) => readInt_at B c2 W hW k2)
 have HW4:=Lib.hid (fun W (hW:CurAt W B c3) => want_at B c3 3 wDots W hW)
 have HI5:=Lib.hid (fun W (hW:CurAt W B c4) => readInt_at B c4 W hW k4)
 have HW6:=Lib.hid (fun W (hW:CurAt W B c5) => want_at B c5 3 wIs W hW)
 have HI7:=Lib.hid (fun W (hW:CurAt W B c6) => readInt_at B c6 W hW k6)
 have HW8:=Lib.hid (fun W (hW:CurAt W B c7) => want_at B c7 3 wEnd W hW)
 rw [← e1] at HW1
 rw [← e2,← es] at HN2
 rw [← e3] at HI3
 rw [← e4] at HW4
 rw [← e5] at HI5
 rw [← e6] at HW6
 rw [← e7] at HI7
 rw [← e8] at HW8
 obtain ⟨P,hP⟩:∃ P,P = varR c:=⟨_,rfl⟩
 rw [← hP] at HP ⊢
 clear e1 e2 es e3 e4 e5 e6 e7 e8 k1 k2 k3 k4 k5 k6 hP h ok
 go_enter Tryz.func92,Tryz.ntmps92
 go_wp2_with (go_at_call 21; (with_reducible refine (HW1.out _ H0.out.cur).mono ?_))
 rintro e x1 ⟨rfl,hc,hb⟩
 have H1:=Lib.hid (H0.out.but hb hc)
 clear hc hb H0
 go_wp2_with (go_at_call 47; (with_reducible refine (HN2.out _ H1.out.cur).mono ?_))
 rintro e x2 ⟨rfl,hc,hb⟩
 have H2:=Lib.hid (H1.out.but hb hc)
 clear hc hb H1
 have H2s:=Lib.hid (H2.out.set 0 (.string s) rfl)
 obtain ⟨f0,f1,f2,f3⟩:=free_4 H2.out.blk
 obtain ⟨q0,q1,q2,q3⟩:=cells_4 H2.out.blk
 go_wp2_with (go_at_call 136; (with_reducible refine (HI3.out _ H2s.out.cur).mono ?_))
 rintro e x3 ⟨rfl,hc,hb⟩
 have H3:=Lib.hid (H2s.out.but hb hc)
 clear hc hb H2 H2s f0 f1 f2 f3 q0 q1 q2 q3
 have H3s:=Lib.hid (H3.out.set 1 (.int .i64 lo) rfl)
 obtain ⟨f0,f1,f2,f3⟩:=free_4 H3.out.blk
 obtain ⟨q0,q1,q2,q3⟩:=cells_4 H3.out.blk
 go_wp2_with (go_at_call 21; (with_reducible refine (HW4.out _ H3s.out.cur).mono ?_))
 rintro e x4 ⟨rfl,hc,hb⟩
 have H4:=Lib.hid (H3s.out.but hb hc)
 clear hc hb H3 H3s f0 f1 f2 f3 q0 q1 q2 q3
 go_wp2_with (go_at_call 136; (with_reducible refine (HI5.out _ H4.out.cur).mono ?_))
 rintro e x5 ⟨rfl,hc,hb⟩
 have H5:=Lib.hid (H4.out.but hb hc)
 clear hc hb H4
 have H5s:=Lib.hid (H5.out.set 2 (.int .i64 hi) rfl)
 obtain ⟨f0,f1,f2,f3⟩:=free_4 H5.out.blk
 obtain ⟨q0,q1,q2,q3⟩:=cells_4 H5.out.blk
 go_wp2_with (go_at_call 21; (with_reducible refine (HW6.out _ H5s.out.cur).mono ?_))
 rintro e x6 ⟨rfl,hc,hb⟩
 have H6:=Lib.hid (H5s.out.but hb hc)
 clear hc hb H5 H5s f0 f1 f2 f3 q0 q1 q2 q3
 go_wp2_with (go_at_call 136; (with_reducible refine (HI7.out _ H6.out.cur).mono ?_))
 rintro e x7 ⟨rfl,hc,hb⟩
 have H7:=Lib.hid (H6.out.but hb hc)
 clear hc hb H6
 have H7s:=Lib.hid (H7.out.set 3 (.int .i64 ini) rfl)
 obtain ⟨f0,f1,f2,f3⟩:=free_4 H7.out.blk
 obtain ⟨q0,q1,q2,q3⟩:=cells_4 H7.out.blk
 go_wp2_with (go_at_call 21; (with_reducible refine (HW8.out _ H7s.out.cur).mono ?_))
 rintro e x8 ⟨rfl,hc,hb⟩
 have HX:=Lib.hid (H7s.out.but hb hc)
 clear hc hb H7 H7s f0 f1 f2 f3 q0 q1 q2 q3
 obtain ⟨q0,q1,q2,q3⟩:=cells_4 HX.out.blk
 obtain ⟨r0,r1,r2,r3⟩:=cells_4 HX.out.res
 obtain ⟨f0,f1,f2,f3⟩:=free_4 HX.out.res
 have HD:=Lib.hid (HX.out.done (.string s) (.int .i64 lo) (.int .i64 hi) (.int .i64 ini))
 go_wp2_with fail
 obtain ⟨p0,p1,p2,p3⟩:=store_four HX.out.res (.string s) (.int .i64 lo) (.int .i64 hi) (.int .i64 ini)
 refine bodyPost_ret (v:=.agg #[.string s,.int .i64 lo,.int .i64 hi,.int .i64 ini]) (by simp [results,Tryz.results92,go_sem,p0,p1,p2,p3]) rfl ?_
 exact ⟨by rw [HP.out],by rw [HP.out]; exact HX.out.cur.own HD.out HX.out.lt,grown_new HX.out.grown HD.out⟩
theorem acs_dep {B0:Nat} {w:World} {v:Value} {l:List Ac} (h:AcsFar B0 w v l):Dep w (fun b => B0 ≤ b) (fun x => Acs x v l):=by
 intro w2 hz hx
 obtain ⟨ps,h1,h2,h3,h4,h5⟩:=h
 refine ⟨ps,h1,(rdk_dep (S:=fun b => B0 ≤ b) h2 fun _ b hb => h4 b hb) w2 hz hx,fun p hp => ?_⟩
 obtain ⟨m,hm,hr⟩:=h3 p hp
 obtain ⟨A',c',heq,-⟩:=id hr
 cases heq
 exact ⟨_,hm,(rdk_dep (S:=fun b => B0 ≤ b) hr fun h0 b hb => h5 p hp h0 b hb) w2 hz hx⟩
theorem tms_dep {B0:Nat} {w:World} {A:Option Addr} {n c:Nat} {l:List Tm} (h:Tms w (.slice A n c) l) (hf:∀ b,(Value.slice A n c).ownBlock = some b → B0 ≤ b):Dep w (fun b => B0 ≤ b) (fun x => Tms x (.slice A n c) l):=by
 intro w2 hz hx
 obtain ⟨m,hm,hr⟩:=h
 exact ⟨m,hm,(rdk_dep (S:=fun b => B0 ≤ b) hr fun _ b hb => hf b hb) w2 hz hx⟩
def RetActsD (W:World) (B:Nat) (p:Cur × List Ac) (e:Ending) (w':World):Prop:=∃ A n cp,e = .returned (.slice A n cp) ∧ CurAt w' B p.1 ∧ Dep w' (fun b => W.heap.size ≤ b) (fun x => Acs x (.slice A n cp) p.2) ∧ W.grownBy w' (some B)
theorem acs_nil (w:World):Acs w (.slice none 0 0) []:=(AcsFar.nil 0 w).acs
set_option maxHeartbeats 1000000 in
theorem readActs_at (B:Nat) (c:Cur) (s:ByteArray) (w:World) (hs:SignsIn w) (h:CurAt w B c) (ok:Ok c):Calls Tryz.prog 94 #[.pointer (some ⟨B,0,none⟩),.string s] w (RetActsD w B (acX c s)):=by
 have HT:=Lib.hid (take_at B c 1 s w h)
 have HSG:=Lib.hid (fun W (hW:w.grownBy W (some B)) => signs_but hs h hW)
 obtain ⟨P,hP⟩:∃ P,P = acX c s:=⟨_,rfl⟩
 rw [← hP]
 by_cases hb:isB c 1 s = true
 ·obtain ⟨⟨c2,l⟩,e2⟩:∃ p,p = readA (on c):=⟨_,rfl⟩
  have HP:Hid (P = (want c2 3 wEnd,l)):=Lib.hid (by rw [hP]; unfold acX; rw [if_pos hb,← e2])
  have HR:=Lib.hid (fun W (hs:SignsIn W) (hW:CurAt W B (on c)) => read_actsF B (on c) W hs hW ok.on)
  rw [← e2] at HR
  have HW:=Lib.hid (fun W (hW:CurAt W B c2) => want_at B c2 3 wEnd W hW)
  rw [hb,show take c 1 s = on c by unfold take; rw [if_pos hb]] at HT
  have HLT:=Lib.hid h.lt
  clear hP hb h ok hs e2
  go_enter Tryz.func94,Tryz.ntmps94
  go_wp2_with (go_at_call 52; (with_reducible refine HT.out.mono ?_))
  rintro e x2 ⟨rfl,hc2,hb2⟩
  have HC:=Lib.hid (And.intro hc2 hb2)
  clear hc2 hb2
  go_wp2_with (go_at_call 138; (with_reducible refine (HR.out _ (HSG.out _ HC.out.2) HC.out.1).mono ?_))
  rintro e x3 ⟨A,n,cp,rfl,hc3,hf3,hb3⟩
  have HC3:=Lib.hid (And.intro hc3 (but_trans HC.out.2 hb3))
  have HF3:=Lib.hid (acs_dep (hf3.mono HC.out.2.size))
  clear hc3 hb3 hf3
  go_wp2_with (go_at_call 21; (with_reducible refine (HW.out _ HC3.out.1).mono ?_))
  rintro e x4 ⟨rfl,hc4,hb4⟩
  have HC4:=Lib.hid (And.intro hc4 (but_trans HC3.out.2 hb4))
  have HF4:=Lib.hid (HF3.out.go hb4 fun b hS e => by injection e with e; have:=HLT.out; omega)
  clear hc4 hb4
  go_wp2_with fail
  go_ret
  exact ⟨A,n,cp,rfl,by rw [HP.out]; exact HC4.out.1,by rw [HP.out]; exact HF4.out,HC4.out.2⟩
 ·have HP:Hid (P = (c,[])):=Lib.hid (by rw [hP]; unfold acX; rw [if_neg hb])
  rw [show isB c 1 s = false by simpa using hb,show take c 1 s = c by unfold take; rw [if_neg hb]] at HT
  clear hP hb h ok hs
  go_enter Tryz.func94,Tryz.ntmps94
  go_wp2_with (go_at_call 52; (with_reducible refine HT.out.mono ?_))
  rintro e x2 ⟨rfl,hc2,hb2⟩
  have HC:=Lib.hid (And.intro hc2 hb2)
  clear hc2 hb2
  go_wp2_with fail
  go_ret
  exact ⟨none,0,0,rfl,by rw [HP.out]; exact HC.out.1,by rw [HP.out]; exact Dep.triv acs_nil,HC.out.2⟩
end Go.Proofs.YtjfghaohogcfbaaGreatDoor
namespace Go.Proofs.YtjfghaohogcfbaaGreatDoor
open Go.RowKit TermSpec
set_option maxRecDepth 100000
theorem inf_str:(Tryz.prog.info? 9).map (fun i => (i.zero,i.size,i.bytes)) = some (some (.string ByteArray.empty),1,16):=by kernel_rfl
def RowS (W wr:World) (p:Value) (xs:List ByteArray):Prop:=wr.ownsRow W.heap.size 9 1 p xs.length (strV xs) ∧ Below W.heap.size W wr
theorem RowS.nil (W wr:World) (hb:Below W.heap.size W wr):RowS W wr (.slice none 0 0) []:=⟨World.ownsRow_nil _ _ _ _,hb⟩
theorem RowS.keep {W w w':World} {p:Value} {xs:List ByteArray} (h:RowS W w p xs) (hb:Below w.heap.size w w'):RowS W w' p xs:=⟨own_keep h.1 hb,below_two' h.2 hb⟩
theorem RowS.alloc {W w:World} {p:Value} {xs:List ByteArray} (h:RowS W w p xs) (o:Obj):RowS W (w.alloc o) p xs:=h.keep ((Below.refl _ _).alloc (Nat.le_refl _) _)
theorem RowS.add {W wr w2:World} {p p':Value} {xs:List ByteArray} {x:ByteArray} {o:Obj} (h:RowS W wr p xs) (hrow:w2.ownsRow W.heap.size 9 1 p' (xs.length + (strV [x]).length) (strV xs ++ strV [x])) (hg:(wr.alloc o).grownBy w2 p.ownBlock):RowS W w2 p' (xs ++ [x]):=by
 refine ⟨?_,(h.2.alloc h.2.size o).grown hg (by have:=h.2.size; simp; omega) (fun j hj => (own_block_bd h.1 j hj).1)⟩
 rw [← strV_append,List.length_append]
 exact hrow
theorem RowS.read {W wr:World} {p:Value} {xs:List ByteArray} (h:RowS W wr p xs):Rd wr p (strV xs):=Rd.own h.1
end Go.Proofs.YtjfghaohogcfbaaGreatDoor
namespace Go.Proofs.YtjfghaohogcfbaaGreatDoor
open Go.RowKit CurSpec TermSpec EvalSpec ActSpec NamesSpec ExprSpec TransSpec SynSpec
set_option maxRecDepth 100000
abbrev sC (s:ByteArray):List Value:=[.string s]
theorem sC_flat (l:List ByteArray):l.flatMap sC = strV l:=by
 induction l with
 | nil => rfl
 | cons a t ih => rw [List.flatMap_cons,ih]; rfl
theorem rd_one {w:World} {v:Value} {n:Nat} {xs:List Value} (h:Rdk 1 w v n xs):Rd w v xs:=by
 obtain ⟨A,c,rfl,hc,hl,hA⟩:=h
 exact ⟨A,n,c,rfl,by omega,hc,hA⟩
theorem inf_var:(Tryz.prog.info? 53).map (fun i => (i.zero,i.size,i.bytes)) = some (some (.agg #[.string ByteArray.empty,.int .i64 0,.int .i64 0,.int .i64 0]),4,40):=by kernel_rfl
theorem inf_trans:(Tryz.prog.info? 65).map (fun i => (i.zero,i.size,i.bytes)) = some (some (.agg #[.string ByteArray.empty,.slice none 0 0,.slice none 0 0,.string ByteArray.empty]),4,80):=by kernel_rfl
theorem vrV_one (v:Vr):∀ u ∈ vrV v,u.oneCell' = true:=by
 intro u hu
 simp only [vrV,List.mem_cons,List.not_mem_nil,or_false] at hu
 rcases hu with rfl | rfl | rfl | rfl <;> rfl
structure TP where
 t:Tr
 gA:Option Addr
 gn:Nat
 gc:Nat
 aA:Option Addr
 an:Nat
 ac:Nat
def tpV (p:TP):List Value:=[.string p.t.ev,.slice p.gA p.gn p.gc,.slice p.aA p.an p.ac,.string p.t.tg]
def tpN (p:TP) (w:World):Prop:=TrIn w p.gA p.gn p.gc p.aA p.an p.ac p.t
theorem tpV_length (p:TP):(tpV p).length = 4:=rfl
theorem tpV_one (p:TP):∀ u ∈ tpV p,u.oneCell' = true:=by
 intro u hu
 simp only [tpV,List.mem_cons,List.not_mem_nil,or_false] at hu
 rcases hu with rfl | rfl | rfl | rfl <;> rfl
def Trs (w:World) (v:Value) (l:List Tr):Prop:=∃ ps:List TP,ps.map (·.t) = l ∧ Rdk 4 w v ps.length (ps.flatMap tpV) ∧ ∀ p ∈ ps,tpN p w
theorem Trs.keep {w w':World} {v:Value} {l:List Tr} (h:Trs w v l) (hb:Below w.heap.size w w'):Trs w' v l:=by
 obtain ⟨ps,h1,h2,h3⟩:=h
 exact ⟨ps,h1,h2.keep hb,fun p hp => (h3 p hp).keep hb⟩
theorem Trs.nil (w:World):Trs w (.slice none 0 0) []:=⟨[],rfl,Rdk.nil 4 w,by simp⟩
def RetD {α:Type} (R:World → Value → List α → Prop) (W:World) (B:Nat) (p:Cur × List α) (e:Ending) (w':World):Prop:=∃ A n cp,e = .returned (.slice A n cp) ∧ CurAt w' B p.1 ∧ Dep w' (fun b => W.heap.size ≤ b) (fun x => R x (.slice A n cp) p.2) ∧ W.grownBy w' (some B)
def RdS (w:World) (v:Value) (l:List ByteArray):Prop:=Rd w v (strV l)
def RdV (w:World) (v:Value) (l:List Vr):Prop:=Rdk 4 w v l.length (vrsV l)
def EvRel (W:World) (B:Nat) (F:Cur × List ByteArray) (gh:Nat) (pv:Value) (wr:World):Prop :=
 ∃ (c:Cur) (ps:List ByteArray),left c ≤ gh ∧ Ok c ∧ CurAt wr B c ∧ RowB 9 1 sC (fun _ _ => True) W B wr pv ps ∧ Few 8 c ps ∧ loopT qE stE c ps = F
set_option maxHeartbeats 8000000 in
theorem readEvents_at (B:Nat) (c:Cur) (w:World) (h:CurAt w B c) (ok:Ok c):Calls Tryz.prog 48 #[.pointer (some ⟨B,0,none⟩)] w (RetD RdS w B (evR c)):=by
 have hB:=h.lt
 obtain ⟨i0,hi,hz0,hz1,hz2⟩:=info_parts inf_str
 have HI:=Lib.hid (And.intro hi (And.intro hz0 (And.intro hz1 hz2)))
 have HT:=Lib.hid (take_at B c 1 wEvent w h)
 obtain ⟨P,hP⟩:∃ P,P = evR c:=⟨_,rfl⟩
 rw [← hP]
 have HBB:=Lib.hid hB
 by_cases hb:isB c 1 wEvent = true
 ·obtain ⟨c1,e1⟩:∃ d,d = nameC (on c):=⟨_,rfl⟩
  obtain ⟨s,es⟩:∃ s,s = nameS (on c):=⟨_,rfl⟩
  obtain ⟨F,eF⟩:∃ F,F = loopT qE stE c1 [s]:=⟨_,rfl⟩
  have HP:Hid (P = (want F.1 3 wEnd,F.2)):=Lib.hid (by rw [hP]; unfold evR; rw [if_pos hb,← e1,← es,← eF])
  have HOK1:Hid (Ok c1):=Lib.hid (e1 ▸ ok.on.nameC)
  have HN:=Lib.hid (fun W (hW:CurAt W B (on c)) => name_at B (on c) ok.on W hW)
  rw [← e1,← es] at HN
  have HWF:=Lib.hid (fun W (hW:CurAt W B F.1) => want_at B F.1 3 wEnd W hW)
  rw [hb,show take c 1 wEvent = on c by unfold take; rw [if_pos hb]] at HT
  have HF:=Lib.hid eF.symm
  clear hP hb h ok e1 es eF hi hz0 hz1 hz2
  go_enter Tryz.func48,Tryz.ntmps48
  go_wp2_with (go_at_call 52; (with_reducible refine HT.out.mono ?_))
  rintro e x2 ⟨rfl,hc2,hb2⟩
  have HC:=Lib.hid (And.intro hc2 hb2)
  clear hc2 hb2
  go_wp2_with (go_at_call 47; (with_reducible refine (HN.out _ HC.out.1).mono ?_))
  rintro e x3 ⟨rfl,hc3,hb3⟩
  have HST:Hid (EvRel w B F (left c1) (.slice (some ⟨x3.heap.size,0,none⟩) 1 1) (x3.alloc (.cells #[.string s] 9))):=Lib.hid
   ⟨c1,[s],Nat.le_refl _,HOK1.out,hc3.alloc _,RowB.one (p:=s) (but_trans HC.out.2 hb3) hB rfl (Dep.triv fun _ => trivial),⟨by simp,fun h => by simp at h⟩,HF.out⟩
  clear hc3 hb3
  go_wp2_with fail
  go_loopg [3] (left c1) (fun gh pv wr => EvRel w B F gh pv wr)
  case atStart => exact HST.out
  case round =>
   obtain ⟨d,ps,hgh,hok,hcur,hrow,hfew,htail⟩:=hrel
   have HGH:=Lib.hid hgh
   have HROW:=Lib.hid hrow
   have HTAIL:=Lib.hid htail
   have HCUR:=Lib.hid hcur
   have HTK:=Lib.hid (take_at B d 3 wCom wr hcur)
   obtain ⟨pA,pc,rfl⟩:=hrow.shape
   obtain ⟨n,hn⟩:∃ n,n = ps.length:=⟨_,rfl⟩
   rw [← hn]
   rw [← hn] at HROW
   have HN2:=Lib.hid hn
   by_cases hb:qE d = true
   ·have HLS:=Lib.hid (left_less goes_E ps hb)
    have HFW:=Lib.hid (few_E hb hfew)
    have HT1:=Lib.hid (loopT_yes goes_E (out:=ps) hb)
    have h0:=(isB_real hb (by decide)).1
    have h0':=(isB_real hb (by decide)).2.2
    have h8:n ≤ 8:=by
     rcases Nat.lt_or_ge n 9 with h' | h'
     ·omega
     ·exact absurd h0 (hfew.2 (by have:=hfew.1; omega))
    rw [show isB d 3 wCom = true from hb,show take d 3 wCom = on d by unfold take; rw [if_pos (show isB d 3 wCom = true from hb)]] at HTK
    have HOK2:=Lib.hid ((to_stE d ps).ok hok)
    have HD:Hid (stE d ps = (nameC (fullE (on d) ps),ps ++ [nameS (fullE (on d) ps)])):=Lib.hid rfl
    have HOKD:=Lib.hid ((to_fullE (on d) ps).ok hok.on)
    have HFU:Hid (fullE (on d) ps = if n = 8 ∧ nameB (on d) = true then fail (on d) 8 else on d):=Lib.hid (by unfold fullE; rw [hn])
    obtain ⟨D,hD⟩:∃ D,D = fullE (on d) ps:=⟨_,rfl⟩
    rw [← hD] at HD HOKD HFU
    have HNM:=Lib.hid (fun W (hW:CurAt W B D) => name_at B D HOKD.out W hW)
    obtain ⟨c4,hc4⟩:∃ q,q = nameC D:=⟨_,rfl⟩
    obtain ⟨s4,hs4⟩:∃ q,q = nameS D:=⟨_,rfl⟩
    rw [← hc4,← hs4] at HD HNM
    rw [HD.out] at HLS HFW HOK2 HT1
    have HL1:Hid (ps.length + 1 ≤ maxLen):=Lib.hid (by unfold maxLen; omega)
    have HL2:Hid ((ps.length + 1) * 16 ≤ 140737488355328):=Lib.hid (by omega)
    have HNX:=Lib.hid (fun W (hW:CurAt W B (on d)) => next_at B (on d) W hW)
    have HIS:=Lib.hid (fun b W (hb:nameB (on d) = b) => isName_tk (next (on d)).k (next (on d)).t (next (on d)).l (next (on d)).c hok.on.next W (b:=b) (by rw [← hb]; simp [nameB,h0']))
    have HFA:=Lib.hid (fun W (hW:CurAt W B (on d)) => fail_at B (on d) 8 W hW)
    clear hgh hok hfew htail hb h0 h0' hD hc4 hs4
    by_cases h8e:n = 8
    ·have g1:((n:Int) == 8) = true:=by simp; omega
     have g1':(n == 8) = true:=by simp; omega
     rcases hnb:nameB (on d) with _ | _
     ·have HFD:Hid (D = on d):=Lib.hid (by rw [HFU.out,if_neg (by simp [hnb])])
      have HIS2:=Lib.hid (fun W => HIS.out false W hnb)
      clear h8e h8 hn hrow hcur hnb
      go_wp2_with (go_at_call 52; (with_reducible refine HTK.out.mono ?_))
      rintro e x3 ⟨rfl,hc3,hb3⟩
      have HC3:=Lib.hid hc3
      have HR3:=Lib.hid (HROW.out.but hb3)
      clear hc3 hb3
      go_wp2_with (go_at_call 87; (with_reducible refine (HNX.out _ HC3.out).mono ?_))
      rintro e x4 ⟨rfl,hb4⟩
      have HC4:=Lib.hid (HC3.out.keep hb4)
      have HR4:=Lib.hid (HR3.out.keep hb4)
      clear hb4
      go_wp2_with (go_at_call 90; (with_reducible refine (HIS2.out _).mono ?_))
      rintro e x5 ⟨rfl,hb5⟩
      have HCD:=Lib.hid (HC4.out.keep hb5)
      have HRW:=Lib.hid (HR4.out.keep hb5)
      rw [← HFD.out] at HCD
      clear hb5
      go_wp2_with (go_at_call 47; (with_reducible refine (HNM.out _ HCD.out).mono ?_))
      rintro e x7 ⟨rfl,hc7,hb7⟩
      have HC7:=Lib.hid hc7
      have HR7:=Lib.hid (HRW.out.but hb7)
      clear hc7 hb7
      go_wp2_with (at_builtin; refine wpList_append_rowB rfl (.tmp 22) (.tmp 25) _ rfl i0 (.string ByteArray.empty) 16 Tryz.underlying29 HI.out.1 HI.out.2.1 HI.out.2.2.1 HI.out.2.2.2 rfl (by decide) HR7.out s4 (Dep.triv fun _ => trivial) rfl rfl rfl (fun u hu => by rw [List.mem_singleton] at hu; subst hu; rfl) HL1.out HL2.out ?_; intro p2 w2 hrow2 hcur2; have HR8:=Lib.hid hrow2; have HC8:=Lib.hid (hcur2 _ HC7.out); clear hrow2 hcur2)
      go_roundg (left c4)
      case measure => have h1:=HLS.out; have h3:=HGH.out; omega
      case rel => exact ⟨c4,ps ++ [s4],Nat.le_refl _,HOK2.out,HC8.out,HR8.out,HFW.out,by rw [← HTAIL.out,HT1.out]⟩
     ·have HFD:Hid (D = fail (on d) 8):=Lib.hid (by rw [HFU.out,if_pos ⟨h8e,hnb⟩])
      have HIS2:=Lib.hid (fun W => HIS.out true W hnb)
      clear h8e h8 hn hrow hcur hnb
      go_wp2_with (go_at_call 52; (with_reducible refine HTK.out.mono ?_))
      rintro e x3 ⟨rfl,hc3,hb3⟩
      have HC3:=Lib.hid hc3
      have HR3:=Lib.hid (HROW.out.but hb3)
      clear hc3 hb3
      go_wp2_with (go_at_call 87; (with_reducible refine (HNX.out _ HC3.out).mono ?_))
      rintro e x4 ⟨rfl,hb4⟩
      have HC4:=Lib.hid (HC3.out.keep hb4)
      have HR4:=Lib.hid (HR3.out.keep hb4)
      clear hb4
      go_wp2_with (go_at_call 90; (with_reducible refine (HIS2.out _).mono ?_))
      rintro e x5 ⟨rfl,hb5⟩
      have HC5:=Lib.hid (HC4.out.keep hb5)
      have HR5:=Lib.hid (HR4.out.keep hb5)
      clear hb5
      go_wp2_with (go_at_call 53; (with_reducible refine (HFA.out _ HC5.out).mono ?_))
      rintro e x6 ⟨rfl,hc6,hb6⟩
      rw [← HFD.out] at hc6
      have HCD:=Lib.hid hc6
      have HRW:=Lib.hid (HR5.out.but hb6)
      clear hc6 hb6
      go_wp2_with (go_at_call 47; (with_reducible refine (HNM.out _ HCD.out).mono ?_))
      rintro e x7 ⟨rfl,hc7,hb7⟩
      have HC7:=Lib.hid hc7
      have HR7:=Lib.hid (HRW.out.but hb7)
      clear hc7 hb7
      go_wp2_with (at_builtin; refine wpList_append_rowB rfl (.tmp 22) (.tmp 25) _ rfl i0 (.string ByteArray.empty) 16 Tryz.underlying29 HI.out.1 HI.out.2.1 HI.out.2.2.1 HI.out.2.2.2 rfl (by decide) HR7.out s4 (Dep.triv fun _ => trivial) rfl rfl rfl (fun u hu => by rw [List.mem_singleton] at hu; subst hu; rfl) HL1.out HL2.out ?_; intro p2 w2 hrow2 hcur2; have HR8:=Lib.hid hrow2; have HC8:=Lib.hid (hcur2 _ HC7.out); clear hrow2 hcur2)
      go_roundg (left c4)
      case measure => have h1:=HLS.out; have h3:=HGH.out; omega
      case rel => exact ⟨c4,ps ++ [s4],Nat.le_refl _,HOK2.out,HC8.out,HR8.out,HFW.out,by rw [← HTAIL.out,HT1.out]⟩
    ·have g1:((n:Int) == 8) = false:=by simp; omega
     have g1':(n == 8) = false:=by simp; omega
     have HFD:Hid (D = on d):=Lib.hid (by rw [HFU.out,if_neg (fun h => h8e h.1)])
     clear h8e h8 hn hrow hcur
     go_wp2_with (go_at_call 52; (with_reducible refine HTK.out.mono ?_))
     rintro e x3 ⟨rfl,hc3,hb3⟩
     have HC3:=Lib.hid hc3
     have HR3:=Lib.hid (HROW.out.but hb3)
     clear hc3 hb3
     have HCD:=HC3
     rw [← HFD.out] at HCD
     have HRW:=HR3
     go_wp2_with (go_at_call 47; (with_reducible refine (HNM.out _ HCD.out).mono ?_))
     rintro e x7 ⟨rfl,hc7,hb7⟩
     have HC7:=Lib.hid hc7
     have HR7:=Lib.hid (HRW.out.but hb7)
     clear hc7 hb7
     go_wp2_with (at_builtin; refine wpList_append_rowB rfl (.tmp 22) (.tmp 25) _ rfl i0 (.string ByteArray.empty) 16 Tryz.underlying29 HI.out.1 HI.out.2.1 HI.out.2.2.1 HI.out.2.2.2 rfl (by decide) HR7.out s4 (Dep.triv fun _ => trivial) rfl rfl rfl (fun u hu => by rw [List.mem_singleton] at hu; subst hu; rfl) HL1.out HL2.out ?_; intro p2 w2 hrow2 hcur2; have HR8:=Lib.hid hrow2; have HC8:=Lib.hid (hcur2 _ HC7.out); clear hrow2 hcur2)
     go_roundg (left c4)
     case measure => have h1:=HLS.out; have h3:=HGH.out; omega
     case rel => exact ⟨c4,ps ++ [s4],Nat.le_refl _,HOK2.out,HC8.out,HR8.out,HFW.out,by rw [← HTAIL.out,HT1.out]⟩
   ·have HFE:Hid (F = (d,ps)):=Lib.hid (by rw [← htail,loopT_no hb])
    rw [show isB d 3 wCom = false by simpa [qE] using hb,show take d 3 wCom = d by unfold take; rw [if_neg (show ¬ isB d 3 wCom = true from hb)]] at HTK
    clear hgh hok hfew htail hb hn hrow hcur
    go_wp2_with (go_at_call 52; (with_reducible refine HTK.out.mono ?_))
    rintro e x3 ⟨rfl,hc3,hb3⟩
    have HC3:=Lib.hid hc3
    have HR3:=Lib.hid (HROW.out.but hb3)
    clear hc3 hb3
    have HC3':=HC3
    rw [show d = F.1 by rw [HFE.out]] at HC3'
    go_wp2_with (go_at_call 21; (with_reducible refine (HWF.out _ HC3'.out).mono ?_))
    rintro e x4 ⟨rfl,hc4,hb4⟩
    have HC4:=Lib.hid hc4
    have HR4:=Lib.hid (HR3.out.but hb4)
    clear hc4 hb4
    go_wp2_with fail
    go_ret
    refine ⟨pA,n,pc,rfl,by rw [HP.out]; exact HC4.out,?_,HR4.out.grown⟩
    rw [HP.out,HFE.out]
    exact HR4.out.far.imp fun x hx => by rw [sC_flat] at hx; exact rd_one hx.1
 ·have HP:Hid (P = (c,[])):=Lib.hid (by rw [hP]; unfold evR; rw [if_neg hb])
  rw [show isB c 1 wEvent = false by simpa using hb,show take c 1 wEvent = c by unfold take; rw [if_neg hb]] at HT
  clear hP hb h ok hi hz0 hz1 hz2
  go_enter Tryz.func48,Tryz.ntmps48
  go_wp2_with (go_at_call 52; (with_reducible refine HT.out.mono ?_))
  rintro e x2 ⟨rfl,hc2,hb2⟩
  have HC:=Lib.hid (And.intro hc2 hb2)
  clear hc2 hb2
  go_wp2_with fail
  go_ret
  exact ⟨none,0,0,rfl,by rw [HP.out]; exact HC.out.1,by rw [HP.out]; exact Dep.triv fun x => Rd.nil x,HC.out.2⟩
end Go.Proofs.YtjfghaohogcfbaaGreatDoor