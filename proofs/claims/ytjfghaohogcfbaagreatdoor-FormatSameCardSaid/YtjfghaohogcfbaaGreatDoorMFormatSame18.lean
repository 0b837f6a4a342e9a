/- TransRead, SynParts, joined. -/
import Derived.Test.YtjfghaohogcfbaaGreatDoorMFormatSame16
import Derived.Test.YtjfghaohogcfbaaGreatDoorMFormatSame17
import Derived.Deep.Cut
import Derived.Test.YtjfghaohogcfbaaGreatDoorMFormatSame09
namespace Go.Proofs.YtjfghaohogcfbaaGreatDoor
open Go.RowKit CurSpec TermSpec EvalSpec ActSpec NamesSpec ExprSpec TransSpec
set_option maxRecDepth 100000
theorem tb_ev (s:ByteArray) (w:World):(Instr.build 65 #[(0,.string s)]).run Tryz.prog w = .ok (.agg #[.string s,.slice none 0 0,.slice none 0 0,.string ⟨#[]⟩]) w:=run_build w 65 _ _ (by kernel_rfl)
theorem tb_zero (w:World):(Instr.build 65 #[]).run Tryz.prog w = .ok (.agg #[.string ⟨#[]⟩,.slice none 0 0,.slice none 0 0,.string ⟨#[]⟩]) w:=run_build w 65 _ _ (by kernel_rfl)
set_option maxHeartbeats 2000000 in
theorem tev_at (B:Nat) (c:Cur) (w:World) (h:CurAt w B c) (ok:Ok c) :
 Calls Tryz.prog 167 #[.pointer (some ⟨B,0,none⟩)] w (RetAtS w B (hdT c).1 (hdT c).2):=by
 have HT:=Lib.hid (take_at B c 1 wAuto w h)
 obtain ⟨P,hP⟩:∃ P,P = hdT c:=⟨_,rfl⟩
 rw [← hP]
 by_cases hb:isB c 1 wAuto = true
 ·have HP:Hid (P = (on c,⟨#[]⟩)):=Lib.hid (by rw [hP]; unfold hdT; rw [if_pos hb])
  rw [hb,show take c 1 wAuto = on c by unfold take; rw [if_pos hb]] at HT
  clear hP hb h ok
  go_enter Tryz.func167,Tryz.ntmps167
  go_wp2_with (go_at_call 52; (with_reducible refine HT.out.mono ?_))
  rintro e x2 ⟨rfl,hc2,hb2⟩
  have HC:=Lib.hid (And.intro hc2 hb2)
  clear hc2 hb2
  go_wp2_with fail
  go_ret
  exact ⟨by rw [HP.out]; rfl,by rw [HP.out]; exact HC.out.1,HC.out.2⟩
 ·have HP:Hid (P = (nameC (want c 1 wOn),nameS (want c 1 wOn))):=Lib.hid (by rw [hP]; unfold hdT; rw [if_neg hb])
  have hb':isB c 1 wAuto = false:=by simpa using hb
  rw [hb',show take c 1 wAuto = c by unfold take; rw [if_neg hb]] at HT
  have HW:=Lib.hid (fun W (hW:CurAt W B c) => want_at B c 1 wOn W hW)
  have HN:=Lib.hid (fun W (hW:CurAt W B (want c 1 wOn)) => name_at B (want c 1 wOn) (ok.want 1 wOn) W hW)
  clear hP hb hb' h ok
  go_enter Tryz.func167,Tryz.ntmps167
  go_wp2_with (go_at_call 52; (with_reducible refine HT.out.mono ?_))
  rintro e x2 ⟨rfl,hc2,hb2⟩
  have HC2:=Lib.hid (And.intro hc2 hb2)
  clear hc2 hb2
  go_wp2_with (go_at_call 21; (with_reducible refine (HW.out _ HC2.out.1).mono ?_))
  rintro e x3 ⟨rfl,hc3,hb3⟩
  have HC3:=Lib.hid (And.intro hc3 (but_trans HC2.out.2 hb3))
  clear hc3 hb3
  go_wp2_with (go_at_call 47; (with_reducible refine (HN.out _ HC3.out.1).mono ?_))
  rintro e x4 ⟨rfl,hc4,hb4⟩
  have HC4:=Lib.hid (And.intro hc4 (but_trans HC3.out.2 hb4))
  clear hc4 hb4
  go_wp2_with fail
  go_ret
  exact ⟨by rw [HP.out]; rfl,by rw [HP.out]; exact HC4.out.1,HC4.out.2⟩
theorem rdk_but {k n:Nat} {w w':World} {A:Option Addr} {m cp:Nat} {xs:List Value} {ob:Option Nat} (h:Rdk k w (.slice A m cp) n xs) (hb:w.grownBy w' ob) (hne:∀ b,(Value.slice A m cp).ownBlock = some b → ob ≠ some b):Rdk k w' (.slice A m cp) n xs:=by
 obtain ⟨A',c',heq,hc,hl,hA⟩:=h
 cases heq
 refine ⟨A,cp,rfl,hc,hl,fun h0 => ?_⟩
 obtain ⟨b,off,rfl,hlt,hcell⟩:=hA h0
 refine ⟨b,off,rfl,Nat.lt_of_lt_of_le hlt hb.size,fun j u hj => ?_⟩
 rw [← hcell j u hj]
 have:=hb.block b hlt (fun e => hne b rfl e.symm)
 simp [World.cell?,this]
theorem AcsFar.but {B0 E:Nat} {w w':World} {A:Option Addr} {n c:Nat} {l:List Ac} (h:AcsFar B0 w (.slice A n c) l) (hb:w.grownBy w' (some E)) (hE:E < B0):AcsFar B0 w' (.slice A n c) l:=by
 obtain ⟨ps,h1,h2,h3,h4,h5⟩:=h
 refine ⟨ps,h1,rdk_but h2 hb (fun b hb' e => by have:=h4 b hb'; injection e with e; omega),fun p hp => tms_row (h3 p hp) hb (fun h0 b hb' e => by have:=h5 p hp h0 b hb'; injection e with e; omega),h4,h5⟩
theorem AcsFar.mono {B0 B1:Nat} {w:World} {v:Value} {l:List Ac} (h:AcsFar B0 w v l) (hl:B1 ≤ B0):AcsFar B1 w v l:=by
 obtain ⟨ps,h1,h2,h3,h4,h5⟩:=h
 exact ⟨ps,h1,h2,h3,fun b hb => Nat.le_trans hl (h4 b hb),fun p hp h0 b hb => Nat.le_trans hl (h5 p hp h0 b hb)⟩
abbrev trZ:Obj:=.cells #[.string ⟨#[]⟩,.slice none 0 0,.slice none 0 0,.string ⟨#[]⟩] 65
structure RdT (W:World) (B T:Nat) (wx:World) (c:Cur) (gA:Option Addr) (gn gc:Nat) (aA:Option Addr) (an ac:Nat) (t:Tr):Prop where
 cur:CurAt wx B c
 res:wx.heap[W.heap.size]? = some trZ
 blk:wx.heap[T]? = some (.cells #[.string t.ev,.slice gA gn gc,.slice aA an ac,.string t.tg] 65 (0,0))
 tms:Tms wx (.slice gA gn gc) t.g
 far:∀ b,(Value.slice gA gn gc).ownBlock = some b → T < b
 acs:AcsFar (T + 1) wx (.slice aA an ac) t.acts
 grown:W.grownBy wx (some B)
 lt:B < W.heap.size ∧ W.heap.size < T
section
variable {W wx wy:World} {B T:Nat} {c c':Cur} {gA aA:Option Addr} {gn gc an ac:Nat} {t:Tr}
theorem RdT.but (h:RdT W B T wx c gA gn gc aA an ac t) (hb:wx.grownBy wy (some B)) (hc:CurAt wy B c'):RdT W B T wy c' gA gn gc aA an ac t:=by
 have h1:=h.lt
 exact ⟨hc,grown_block h.res hb (by omega),grown_block h.blk hb (by omega),tms_but h.tms hb (fun e => by have:=h.far _ e; omega),h.far,h.acs.but hb (by omega),but_trans h.grown hb,h.lt⟩
theorem RdT.size (h:RdT W B T wx c gA gn gc aA an ac t):T < wx.heap.size:=(Array.getElem?_eq_some_iff.1 h.blk).1
theorem RdT.store (_h:RdT W B T wx c gA gn gc aA an ac t) (i:Nat) (u:Value):wx.grownBy (wx.setCell ⟨T,i,none⟩ u) (some T):=but_set (but_refl _ _) i u
theorem RdT.grownT (h:RdT W B T wx c gA gn gc aA an ac t) (i:Nat) (u:Value):W.grownBy (wx.setCell ⟨T,i,none⟩ u) (some B):=but_set_new h.grown (by have:=h.lt; omega) i u
theorem RdT.setG {A:Option Addr} {n cp:Nat} {l:List Tm} (h:RdT W B T wx c gA gn gc aA an ac t) (ht:Tms wx (.slice A n cp) l) (hf:∀ b,(Value.slice A n cp).ownBlock = some b → T < b) :
 RdT W B T (wx.setCell ⟨T,1,none⟩ (.slice A n cp)) c A n cp aA an ac { t with g:=l }:=by
 have h1:=h.lt
 have hs:=h.store 1 (.slice A n cp)
 exact ⟨h.cur.own hs (by omega),grown_block h.res hs (by omega),block_setCell' h.blk 1 _,tms_but ht hs (fun e => by have:=hf _ e; omega),hf,h.acs.but hs (by omega),h.grownT _ _,h.lt⟩
theorem RdT.setA {A:Option Addr} {n cp:Nat} {l:List Ac} (h:RdT W B T wx c gA gn gc aA an ac t) (ht:AcsFar (T + 1) wx (.slice A n cp) l) :
 RdT W B T (wx.setCell ⟨T,2,none⟩ (.slice A n cp)) c gA gn gc A n cp { t with acts:=l }:=by
 have h1:=h.lt
 have hs:=h.store 2 (.slice A n cp)
 exact ⟨h.cur.own hs (by omega),grown_block h.res hs (by omega),block_setCell' h.blk 2 _,tms_but h.tms hs (fun e => by have:=h.far _ e; omega),h.far,ht.but hs (by omega),h.grownT _ _,h.lt⟩
theorem RdT.setT (s:ByteArray) (h:RdT W B T wx c gA gn gc aA an ac t) :
 RdT W B T (wx.setCell ⟨T,3,none⟩ (.string s)) c gA gn gc aA an ac { t with tg:=s }:=by
 have h1:=h.lt
 have hs:=h.store 3 (.string s)
 exact ⟨h.cur.own hs (by omega),grown_block h.res hs (by omega),block_setCell' h.blk 3 _,tms_but h.tms hs (fun e => by have:=h.far _ e; omega),h.far,h.acs.but hs (by omega),h.grownT _ _,h.lt⟩
theorem RdT.done (_h:RdT W B T wx c gA gn gc aA an ac t) (u0 u1 u2 u3:Value) :
 wx.grownBy ((((wx.setCell ⟨W.heap.size,0,none⟩ u0).setCell ⟨W.heap.size,1,none⟩ u1).setCell ⟨W.heap.size,2,none⟩ u2).setCell ⟨W.heap.size,3,none⟩ u3) (some W.heap.size) :=
 but_set (but_set (but_set (but_set (but_refl _ _) 0 _) 1 _) 2 _) 3 _
theorem grown_new {W wx wy:World} {B:Nat} (h:W.grownBy wx (some B)) (hy:wx.grownBy wy (some W.heap.size)):W.grownBy wy (some B) :=
 ⟨hy.os.trans h.os,hy.tape.trans h.tape,hy.output.trans h.output,Nat.le_trans h.size hy.size,fun i hi hn => (hy.block i (Nat.lt_of_lt_of_le hi h.size) (by simp; omega)).trans (h.block i hi hn)⟩
end
def RetTr (W:World) (B:Nat) (p:Cur × Tr) (e:Ending) (w':World):Prop :=
 ∃ gA gn gc aA an ac,e = .returned (.agg #[.string p.2.ev,.slice gA gn gc,.slice aA an ac,.string p.2.tg]) ∧ CurAt w' B p.1 ∧ TrIn w' gA gn gc aA an ac p.2 ∧ W.grownBy w' (some B)
def RetTrF (W:World) (B:Nat) (p:Cur × Tr) (e:Ending) (w':World):Prop :=
 ∃ gA gn gc aA an ac,e = .returned (.agg #[.string p.2.ev,.slice gA gn gc,.slice aA an ac,.string p.2.tg]) ∧ CurAt w' B p.1 ∧ Tms w' (.slice gA gn gc) p.2.g ∧ (∀ b,(Value.slice gA gn gc).ownBlock = some b → W.heap.size ≤ b) ∧ AcsFar W.heap.size w' (.slice aA an ac) p.2.acts ∧ W.grownBy w' (some B)
theorem RetTrF.tr {W w':World} {B:Nat} {p:Cur × Tr} {e:Ending} (h:RetTrF W B p e w'):RetTr W B p e w':=by
 obtain ⟨gA,gn,gc,aA,an,ac,h1,h2,h3,_,h5,h6⟩:=h
 exact ⟨gA,gn,gc,aA,an,ac,h1,h2,⟨h3,h5.acs⟩,h6⟩
def PartT (W:World) (B T:Nat) (c:Cur) (t:Tr) (wx:World):Prop:=∃ gA gn gc aA an ac,RdT W B T wx c gA gn gc aA an ac t
theorem RdT.part {W wx:World} {B T:Nat} {c:Cur} {gA:Option Addr} {gn gc:Nat} {aA:Option Addr} {an ac:Nat} {t:Tr} (h:RdT W B T wx c gA gn gc aA an ac t):PartT W B T c t wx:=⟨_,_,_,_,_,_,h⟩
set_option maxRecDepth 100000 in
set_option maxHeartbeats 8000000 in
theorem tread_atF (B:Nat) (c:Cur) (w:World) (hs:SignsIn w) (h:CurAt w B c) (ok:Ok c) :
 Calls Tryz.prog 139 #[.pointer (some ⟨B,0,none⟩)] w (RetTrF w B (readT c)):=by
 have hB:=h.lt
 have b1:=tb_ev
 have b2:=tb_zero
 have h1:=h.alloc trZ
 have hk:=heap_alloc_new w trZ
 obtain ⟨w1,hw1⟩:∃ w1,w.alloc trZ = w1:=⟨_,rfl⟩
 have hsz:w1.heap.size = w.heap.size + 1:=by rw [← hw1,World.size_alloc]
 have hg1:w.grownBy w1 (some B):=by rw [← hw1]; exact but_below (KitC.below_one _ _)
 rw [hw1] at h1 hk
 have HSG:=Lib.hid (fun W (hW:w.grownBy W (some B)) => signs_but hs h hW)
 have HEV:=Lib.hid (tev_at B c w1 h1 ok)
 obtain ⟨⟨c1,ev⟩,e1⟩:∃ p,p = hdT c:=⟨_,rfl⟩
 have ok1:Ok c1:=by have:=hdT_ok ok; rw [← e1] at this; exact this
 obtain ⟨⟨c2,g⟩,e2⟩:∃ p,p = guT c1:=⟨_,rfl⟩
 have ok2:Ok c2:=by have:=guT_ok ok1; rw [← e2] at this; exact this
 obtain ⟨⟨c3,acts⟩,e3⟩:∃ p,p = acT c2:=⟨_,rfl⟩
 have ok3:Ok c3:=by have:=acT_ok ok2; rw [← e3] at this; exact this
 obtain ⟨⟨c4,tg⟩,e4⟩:∃ p,p = tgT c3:=⟨_,rfl⟩
 have HR:Hid (readT c = (want c4 3 wEnd,if (want c4 3 wEnd).bad = 0 then ⟨ev,g,acts,tg⟩ else zeroT)):=Lib.hid (by
  unfold readT seqT
  rw [← e1]
  dsimp only
  rw [← e2]
  dsimp only
  rw [← e3]
  dsimp only
  rw [← e4])
 rw [← e1] at HEV
 have HG:Hid ((c2,g) = if isB c1 3 wBra = true then (want (rdE (on c1)).1 3 wKet,(rdE (on c1)).2) else (c1,[])):=Lib.hid (by rw [e2]; rfl)
 have HA:Hid ((c3,acts) = if isB c2 3 wDo = true then readA (on c2) else (c2,[])):=Lib.hid (by rw [e3]; rfl)
 have HT:Hid ((c4,tg) = if isB c3 3 wTo = true then (nameC (on c3),nameS (on c3)) else (c3,⟨#[]⟩)):=Lib.hid (by rw [e4]; rfl)
 have HTK:=Lib.hid (fun (d:Cur) (s:ByteArray) W (hW:CurAt W B d) => take_at B d 3 s W hW)
 have HWA:=Lib.hid (fun (d:Cur) (s:ByteArray) W (hW:CurAt W B d) => want_at B d 3 s W hW)
 have HRD:=Lib.hid (fun W (hs:SignsIn W) (hW:CurAt W B (on c1)) => read_at B (on c1) _ W hs hW ok1.on (fit_self _))
 have HRA:=Lib.hid (fun W (hs:SignsIn W) (hW:CurAt W B (on c2)) => read_actsF B (on c2) W hs hW ok2.on)
 have HNM:=Lib.hid (fun W (hW:CurAt W B (on c3)) => name_at B (on c3) ok3.on W hW)
 obtain ⟨P,hP⟩:∃ P,P = readT c:=⟨_,rfl⟩
 rw [← hP] at HR ⊢
 have HW:=Lib.hid hw1
 have HK:=Lib.hid hk
 have HG1:=Lib.hid hg1
 have HSZ:=Lib.hid hsz
 have HLT:=Lib.hid hB
 clear e1 e2 e3 e4 ok ok1 ok2 ok3 hP hw1 hk hg1 hsz h1 h hs
 go_enter Tryz.func139,Tryz.ntmps139
 go_wp2_with (rw [HW.out]; go_at_call 167; (with_reducible refine HEV.out.mono ?_))
 rintro e x2 ⟨rfl,hc2,hb2⟩
 have H2:Hid (RdT w B x2.heap.size (x2.alloc (.cells #[.string ev,.slice none 0 0,.slice none 0 0,.string ⟨#[]⟩] 65)) c1 none 0 0 none 0 0 ⟨ev,[],[],⟨#[]⟩⟩):=Lib.hid (by
  have hg2:=but_trans HG1.out hb2
  refine ⟨hc2.alloc _,(grown_block (grown_block HK.out hb2 (by have:=HLT.out; omega)) (but_below (B:=B) (KitC.below_one _ _)) (by have:=HLT.out; omega)),heap_alloc_new _ _,tmsNil _,by simp [Value.ownBlock],AcsFar.nil _ _,but_trans hg2 (but_below (KitC.below_one _ _)),HLT.out,?_⟩
  have:=hb2.size
  have:=HSZ.out
  omega)
 obtain ⟨T,hT⟩:∃ T,T = x2.heap.size:=⟨_,rfl⟩
 have HTT:=Lib.hid hT
 clear hc2 hb2 hT
 go_wp2_with (go_at_call 52; (with_reducible refine (HTK.out c1 wBra _ H2.out.cur).mono ?_))
 rintro e x3 ⟨rfl,hc3,hb3⟩
 have H3:=Lib.hid (H2.out.but hb3 hc3)
 rw [← HTT.out] at H3 ⊢
 clear hc3 hb3 H2
 go_upto_if 8 with fail
 go_cut [] from 4 (fun wx => PartT w B T c2 ⟨ev,g,[],⟨#[]⟩⟩ wx)
 case first =>
  rcases hq:isB c1 3 wBra with _ | _
  ·have HE:Hid (c2 = c1 ∧ g = []):=Lib.hid (by have:=HG.out; rw [hq,if_neg (by decide)] at this; cases this; exact ⟨rfl,rfl⟩)
   have HC3:Hid (take c1 3 wBra = c1):=Lib.hid (by unfold take; rw [if_neg (by rw [hq]; decide)])
   clear hq
   go_wp2_with fail
   go_meet
   case rel =>
    have:=H3.out
    rw [HC3.out] at this
    rw [HE.out.1,HE.out.2]
    exact this.part
  ·have HE:Hid (c2 = want (rdE (on c1)).1 3 wKet ∧ g = (rdE (on c1)).2):=Lib.hid (by have:=HG.out; rw [hq,if_pos rfl] at this; cases this; exact ⟨rfl,rfl⟩)
   have HC3:Hid (take c1 3 wBra = on c1):=Lib.hid (by unfold take; rw [if_pos hq])
   clear hq
   have h3:=H3.out
   rw [HC3.out] at h3
   have HX3:=Lib.hid h3
   clear h3
   go_wp2_with (go_at_call 168; (with_reducible refine (HRD.out _ (HSG.out _ HX3.out.grown) HX3.out.cur).mono ?_))
   rintro e x4 ⟨A4,n4,c4',rfl,hc4,ht4,hn4,hb4,ho4⟩
   have HX4:=Lib.hid (HX3.out.but hb4 hc4)
   have HT4:=Lib.hid (And.intro ht4 (fun b hb => Nat.lt_of_lt_of_le HX3.out.size (ho4 b hb)))
   clear hc4 ht4 hn4 hb4 ho4
   obtain ⟨q0,q1,q2,q3⟩:=cells_4 HX4.out.blk
   obtain ⟨f0,f1,f2,f3⟩:=free_4 HX4.out.blk
   have HX5:=Lib.hid (HX4.out.setG HT4.out.1 HT4.out.2)
   go_wp2_with (go_at_call 21; (with_reducible refine (HWA.out _ wKet _ HX5.out.cur).mono ?_))
   rintro e x6 ⟨rfl,hc6,hb6⟩
   have HX6:=Lib.hid (HX5.out.but hb6 hc6)
   clear hc6 hb6 q0 q1 q2 q3 f0 f1 f2 f3
   go_wp2_with fail
   go_meet
   case rel =>
    rw [HE.out.1,HE.out.2]
    exact HX6.out.part
 case rest =>
  obtain ⟨gA2,gn2,gc2,aA2,an2,ac2,h4⟩:=hcut
  have H4:=Lib.hid h4
  clear h4 H3 HG HRD
  go_wp2_with (go_at_call 52; (with_reducible refine (HTK.out c2 wDo _ H4.out.cur).mono ?_))
  rintro e y3 ⟨rfl,hc3,hb3⟩
  have H5:=Lib.hid (H4.out.but hb3 hc3)
  clear hc3 hb3 H4
  go_upto_if 15 with fail
  go_cut [] from 4 (fun wx => PartT w B T c3 ⟨ev,g,acts,⟨#[]⟩⟩ wx)
  case first =>
   rcases hq:isB c2 3 wDo with _ | _
   ·have HE:Hid (c3 = c2 ∧ acts = []):=Lib.hid (by have:=HA.out; rw [hq,if_neg (by decide)] at this; cases this; exact ⟨rfl,rfl⟩)
    have HC3:Hid (take c2 3 wDo = c2):=Lib.hid (by unfold take; rw [if_neg (by rw [hq]; decide)])
    clear hq
    go_wp2_with fail
    go_meet
    case rel =>
     have:=H5.out
     rw [HC3.out] at this
     rw [HE.out.1,HE.out.2]
     exact this.part
   ·have HE:Hid (c3 = (readA (on c2)).1 ∧ acts = (readA (on c2)).2):=Lib.hid (by have:=HA.out; rw [hq,if_pos rfl] at this; rw [← this]; exact ⟨rfl,rfl⟩)
    have HC3:Hid (take c2 3 wDo = on c2):=Lib.hid (by unfold take; rw [if_pos hq])
    clear hq
    have h3:=H5.out
    rw [HC3.out] at h3
    have HX3:=Lib.hid h3
    clear h3
    go_wp2_with (go_at_call 138; (with_reducible refine (HRA.out _ (HSG.out _ HX3.out.grown) HX3.out.cur).mono ?_))
    rintro e x4 ⟨A4,n4,c4',rfl,hc4,ht4,hb4⟩
    have HX4:=Lib.hid (HX3.out.but hb4 hc4)
    have HT4:=Lib.hid (ht4.mono (B1:=T + 1) HX3.out.size)
    clear hc4 ht4 hb4
    obtain ⟨q0,q1,q2,q3⟩:=cells_4 HX4.out.blk
    obtain ⟨f0,f1,f2,f3⟩:=free_4 HX4.out.blk
    have HX5:=Lib.hid (HX4.out.setA HT4.out)
    go_wp2_with fail
    go_meet
    case rel =>
     rw [HE.out.1,HE.out.2]
     exact HX5.out.part
  case rest =>
   obtain ⟨gA3,gn3,gc3,aA3,an3,ac3,h4⟩:=hcut
   have H6:=Lib.hid h4
   clear h4 H5 HA HRA
   go_wp2_with (go_at_call 52; (with_reducible refine (HTK.out c3 wTo _ H6.out.cur).mono ?_))
   rintro e y4 ⟨rfl,hc3,hb3⟩
   have H7:=Lib.hid (H6.out.but hb3 hc3)
   clear hc3 hb3 H6
   go_upto_if 20 with fail
   go_cut [] from 4 (fun wx => PartT w B T c4 ⟨ev,g,acts,tg⟩ wx)
   case first =>
    rcases hq:isB c3 3 wTo with _ | _
    ·have HE:Hid (c4 = c3 ∧ tg = ⟨#[]⟩):=Lib.hid (by have:=HT.out; rw [hq,if_neg (by decide)] at this; cases this; exact ⟨rfl,rfl⟩)
     have HC3:Hid (take c3 3 wTo = c3):=Lib.hid (by unfold take; rw [if_neg (by rw [hq]; decide)])
     clear hq
     go_wp2_with fail
     go_meet
     case rel =>
      have:=H7.out
      rw [HC3.out] at this
      rw [HE.out.1,HE.out.2]
      exact this.part
    ·have HE:Hid (c4 = nameC (on c3) ∧ tg = nameS (on c3)):=Lib.hid (by have:=HT.out; rw [hq,if_pos rfl] at this; cases this; exact ⟨rfl,rfl⟩)
     have HC3:Hid (take c3 3 wTo = on c3):=Lib.hid (by unfold take; rw [if_pos hq])
     clear hq
     have h3:=H7.out
     rw [HC3.out] at h3
     have HX3:=Lib.hid h3
     clear h3
     go_wp2_with (go_at_call 47; (with_reducible refine (HNM.out _ HX3.out.cur).mono ?_))
     rintro e x4 ⟨rfl,hc4,hb4⟩
     have HX4:=Lib.hid (HX3.out.but hb4 hc4)
     clear hc4 hb4
     obtain ⟨q0,q1,q2,q3⟩:=cells_4 HX4.out.blk
     obtain ⟨f0,f1,f2,f3⟩:=free_4 HX4.out.blk
     have HX5:=Lib.hid (HX4.out.setT (nameS (on c3)))
     go_wp2_with fail
     go_meet
     case rel =>
      rw [HE.out.1,HE.out.2]
      exact HX5.out.part
   case rest =>
    obtain ⟨gA4,gn4,gc4,aA4,an4,ac4,h4⟩:=hcut
    have H8:=Lib.hid h4
    clear h4 H7 HT HNM
    go_wp2_with (go_at_call 21; (with_reducible refine (HWA.out c4 wEnd _ H8.out.cur).mono ?_))
    rintro e y5 ⟨rfl,hc3,hb3⟩
    have H9:=Lib.hid (H8.out.but hb3 hc3)
    clear hc3 hb3 H8
    obtain ⟨c5,hc5⟩:∃ c5,c5 = want c4 3 wEnd:=⟨_,rfl⟩
    rw [← hc5] at H9 HR
    have HGOOD:=Lib.hid (fun b hb => good_any _ _ _ _ y5 (Fl.of H9.out.cur) (b:=b) hb)
    clear hc5
    by_cases h0:c5.bad = 0
    ·have HP:Hid (P = (c5,⟨ev,g,acts,tg⟩)):=Lib.hid (by rw [HR.out,if_pos h0])
     have HGD:=Lib.hid (HGOOD.out true (by simpa using h0))
     clear h0 HGOOD HR
     go_wp2_with (go_at_call 51; (with_reducible refine HGD.out.mono ?_))
     rintro e y6 ⟨rfl,hb6⟩
     have HX:=Lib.hid (H9.out.but (but_below hb6) (H9.out.cur.keep hb6))
     clear hb6
     obtain ⟨q0,q1,q2,q3⟩:=cells_4 HX.out.blk
     obtain ⟨r0,r1,r2,r3⟩:=cells_4 HX.out.res
     obtain ⟨f0,f1,f2,f3⟩:=free_4 HX.out.res
     have HD:=Lib.hid (HX.out.done (.string ev) (.slice gA4 gn4 gc4) (.slice aA4 an4 ac4) (.string tg))
     go_wp2_with fail
     obtain ⟨p0,p1,p2,p3⟩:=store_four HX.out.res (.string ev) (.slice gA4 gn4 gc4) (.slice aA4 an4 ac4) (.string tg)
     refine bodyPost_ret (v:=.agg #[.string ev,.slice gA4 gn4 gc4,.slice aA4 an4 ac4,.string tg]) (by simp [results,Tryz.results139,go_sem,p0,p1,p2,p3]) rfl ?_
     have hlt:=HX.out.lt
     refine ⟨gA4,gn4,gc4,aA4,an4,ac4,by rw [HP.out],by rw [HP.out]; exact HX.out.cur.own HD.out hlt.1,?_,fun b hb => by have:=HX.out.far b hb; omega,?_,grown_new HX.out.grown HD.out⟩
     ·rw [HP.out]
      exact tms_but HX.out.tms HD.out (fun e => by have:=HX.out.far _ e; omega)
     ·rw [HP.out]
      exact (HX.out.acs.but HD.out (by omega)).mono (by omega)
    ·have HP:Hid (P = (c5,zeroT)):=Lib.hid (by rw [HR.out,if_neg h0])
     have HGD:=Lib.hid (HGOOD.out false (by simpa using h0))
     clear h0 HGOOD HR
     go_wp2_with (go_at_call 51; (with_reducible refine HGD.out.mono ?_))
     rintro e y6 ⟨rfl,hb6⟩
     have HX:=Lib.hid (H9.out.but (but_below hb6) (H9.out.cur.keep hb6))
     clear hb6
     obtain ⟨r0,r1,r2,r3⟩:=cells_4 HX.out.res
     obtain ⟨f0,f1,f2,f3⟩:=free_4 HX.out.res
     have HD:=Lib.hid (HX.out.done (.string ⟨#[]⟩) (.slice none 0 0) (.slice none 0 0) (.string ⟨#[]⟩))
     go_wp2_with fail
     obtain ⟨p0,p1,p2,p3⟩:=store_four HX.out.res (.string ⟨#[]⟩) (.slice none 0 0) (.slice none 0 0) (.string ⟨#[]⟩)
     refine bodyPost_ret (v:=.agg #[.string ⟨#[]⟩,.slice none 0 0,.slice none 0 0,.string ⟨#[]⟩]) (by simp [results,Tryz.results139,go_sem,p0,p1,p2,p3]) rfl ?_
     have hlt:=HX.out.lt
     refine ⟨none,0,0,none,0,0,by rw [HP.out],by rw [HP.out]; exact HX.out.cur.own HD.out hlt.1,?_,by simp [Value.ownBlock],?_,grown_new HX.out.grown HD.out⟩
     ·rw [HP.out]
      exact tmsNil _
     ·rw [HP.out]
      exact AcsFar.nil _ _
end Go.Proofs.YtjfghaohogcfbaaGreatDoor
namespace Go.Proofs.YtjfghaohogcfbaaGreatDoor
open Go.RowKit CurSpec TermSpec EvalSpec ActSpec NamesSpec ExprSpec TransSpec SynSpec
set_option maxRecDepth 100000
set_option maxHeartbeats 1000000 in
theorem isName_tk (k:Int) (s:ByteArray) (l c:Int) (hs:s.size ≤ 9223372036854775807) (w:World) {b:Bool} (hb:(decide (k = 1) && isName s.data.toList) = b):Calls Tryz.prog 90 #[.agg #[.int .i64 k,.string s,.int .i64 l,.int .i64 c]] w (RetBool w b):=by
 by_cases h1:k = 1
 ·have g:(k == 1) = true:=by simp [h1]
  have HI:=Lib.hid (fun W => nis_say (s:=s) (b:=b) (by rw [← hb]; simp [h1]) hs W)
  clear hb h1 hs
  go_enter Tryz.func90,Tryz.ntmps90
  go_wp2_with (go_at_call 88; (with_reducible refine (HI.out _).mono ?_))
  rintro e x2 ⟨rfl,hb2⟩
  have HB:=Lib.hid (below_two' (KitC.below_one _ _) hb2)
  clear hb2
  go_wp2_with fail
  go_ret
  exact ⟨rfl,HB.out⟩
 ·have g:(k == 1) = false:=by simp [h1]
  have hb':b = false:=by rw [← hb]; simp [h1]
  subst hb'
  clear hb h1 hs
  go_enter Tryz.func90,Tryz.ntmps90
  go_wp2_with fail
  go_ret
  exact ⟨rfl,KitC.below_one _ _⟩
set_option maxHeartbeats 1000000 in
theorem isWord_at (B:Nat) (c:Cur) (s:ByteArray) (w:World) (h:CurAt w B c) {b:Bool} (hb:isB c 1 s = b):Calls Tryz.prog 91 #[.pointer (some ⟨B,0,none⟩),.string s] w (RetBool w b):=by
 have HI:=Lib.hid (is_at B c 1 s w h)
 rw [hb] at HI
 clear h hb
 go_enter Tryz.func91,Tryz.ntmps91
 go_wp2_with (go_at_call 98; (with_reducible refine HI.out.mono ?_))
 rintro e x2 ⟨rfl,hb2⟩
 have HB:=Lib.hid hb2
 clear hb2
 go_wp2_with fail
 go_ret
 exact ⟨rfl,HB.out⟩
set_option maxHeartbeats 2000000 in
theorem isState_at (B:Nat) (c:Cur) (w:World) (h:CurAt w B c) {b:Bool} (hb:qS c = b):Calls Tryz.prog 96 #[.pointer (some ⟨B,0,none⟩)] w (RetBool w b):=by
 have HI:=Lib.hid (fun s W b (hW:Below w.heap.size w W) (hb:isB c 1 s = b) => isWord_at B c s W (h.keep hW) hb)
 unfold qS at hb
 clear h
 rcases h1:isB c 1 wLeaf with _ | _
 ·have H1:=Lib.hid h1
  rw [h1] at hb
  clear h1
  rcases h2:isB c 1 wOr with _ | _
  ·have H2:=Lib.hid h2
   rw [h2] at hb
   have H3:=Lib.hid (show isB c 1 wAnd = b by simpa using hb)
   clear h2 hb
   go_enter Tryz.func96,Tryz.ntmps96
   go_wp2_with (go_at_call 91; (with_reducible refine (HI.out wLeaf _ _ (Below.refl _ _) H1.out).mono ?_))
   rintro e x2 ⟨rfl,hb2⟩
   have HB2:=Lib.hid hb2
   clear hb2
   go_wp2_with (go_at_call 91; (with_reducible refine (HI.out wOr _ _ HB2.out H2.out).mono ?_))
   rintro e x3 ⟨rfl,hb3⟩
   have HB3:=Lib.hid (below_two' HB2.out hb3)
   clear hb3
   go_wp2_with (go_at_call 91; (with_reducible refine (HI.out wAnd _ _ HB3.out H3.out).mono ?_))
   rintro e x4 ⟨rfl,hb4⟩
   have HB4:=Lib.hid (below_two' HB3.out hb4)
   clear hb4
   go_wp2_with fail
   go_ret
   exact ⟨rfl,HB4.out⟩
  ·have H2:=Lib.hid h2
   obtain rfl:true = b:=by rw [← hb,h2]; rfl
   clear h2 hb
   go_enter Tryz.func96,Tryz.ntmps96
   go_wp2_with (go_at_call 91; (with_reducible refine (HI.out wLeaf _ _ (Below.refl _ _) H1.out).mono ?_))
   rintro e x2 ⟨rfl,hb2⟩
   have HB2:=Lib.hid hb2
   clear hb2
   go_wp2_with (go_at_call 91; (with_reducible refine (HI.out wOr _ _ HB2.out H2.out).mono ?_))
   rintro e x3 ⟨rfl,hb3⟩
   have HB3:=Lib.hid (below_two' HB2.out hb3)
   clear hb3
   go_wp2_with fail
   go_ret
   exact ⟨rfl,HB3.out⟩
 ·have H1:=Lib.hid h1
  obtain rfl:true = b:=by rw [← hb,h1]; rfl
  clear h1 hb
  go_enter Tryz.func96,Tryz.ntmps96
  go_wp2_with (go_at_call 91; (with_reducible refine (HI.out wLeaf _ _ (Below.refl _ _) H1.out).mono ?_))
  rintro e x2 ⟨rfl,hb2⟩
  have HB2:=Lib.hid hb2
  clear hb2
  go_wp2_with fail
  go_ret
  exact ⟨rfl,HB2.out⟩
theorem numN_small (c:Cur):0 ≤ numN c 1000 ∧ numN c 1000 ≤ 1000:=by
 unfold numN
 split
 ·rename_i h
  unfold numE at h
  split at h
  ·split at h
   ·split at h
    ·cases h
    ·rename_i h1
     exact ⟨(ExprSpec.getN_bd _).1,by omega⟩
   ·rename_i h1
    exact absurd h h1
  ·cases h
 ·exact ⟨Int.le_refl _,by decide⟩
set_option maxHeartbeats 1000000 in
theorem readInt_at (B:Nat) (c:Cur) (w:World) (h:CurAt w B c) (ok:Ok c):Calls Tryz.prog 136 #[.pointer (some ⟨B,0,none⟩)] w (RetAtN w B (intR c).1 (intR c).2):=by
 have HT:=Lib.hid (take_at B c 3 wMin w h)
 obtain ⟨P,hP⟩:∃ P,P = intR c:=⟨_,rfl⟩
 rw [← hP]
 by_cases hb:isB c 3 wMin = true
 ·obtain ⟨n,hn⟩:∃ n,n = numN (on c) 1000:=⟨_,rfl⟩
  have hs:=numN_small (on c)
  rw [← hn] at hs
  have HP:Hid (P = (numC (on c) 1000,- n)):=Lib.hid (by rw [hP,hn]; unfold intR; rw [if_pos hb])
  have HN:=Lib.hid (fun W (hW:CurAt W B (on c)) => number_at B (on c) 1000 ok.on W hW)
  rw [← hn] at HN
  rw [hb,show take c 3 wMin = on c by unfold take; rw [if_pos hb]] at HT
  clear hP hb h ok hn
  go_enter Tryz.func136,Tryz.ntmps136
  go_wp2_with (go_at_call 52; (with_reducible refine HT.out.mono ?_))
  rintro e x2 ⟨rfl,hc2,hb2⟩
  have HC:=Lib.hid (And.intro hc2 hb2)
  clear hc2 hb2
  go_wp2_with (go_at_call 165; (with_reducible refine (HN.out _ HC.out.1).mono ?_))
  rintro e x3 ⟨rfl,hc3,hb3⟩
  have HC3:=Lib.hid (And.intro hc3 (but_trans HC.out.2 hb3))
  clear hc3 hb3
  go_wp2_with fail
  go_ret
  exact ⟨by rw [HP.out]; rfl,by rw [HP.out]; exact HC3.out.1,HC3.out.2⟩
 ·have HP:Hid (P = (numC c 1000,numN c 1000)):=Lib.hid (by rw [hP]; unfold intR; rw [if_neg hb])
  have hb':isB c 3 wMin = false:=by simpa using hb
  have HN:=Lib.hid (fun W (hW:CurAt W B c) => number_at B c 1000 ok W hW)
  rw [hb',show take c 3 wMin = c by unfold take; rw [if_neg hb]] at HT
  clear hP hb hb' h ok
  go_enter Tryz.func136,Tryz.ntmps136
  go_wp2_with (go_at_call 52; (with_reducible refine HT.out.mono ?_))
  rintro e x2 ⟨rfl,hc2,hb2⟩
  have HC:=Lib.hid (And.intro hc2 hb2)
  clear hc2 hb2
  go_wp2_with (go_at_call 165; (with_reducible refine (HN.out _ HC.out.1).mono ?_))
  rintro e x3 ⟨rfl,hc3,hb3⟩
  have HC3:=Lib.hid (And.intro hc3 (but_trans HC.out.2 hb3))
  clear hc3 hb3
  go_wp2_with fail
  go_ret
  exact ⟨by rw [HP.out]; rfl,by rw [HP.out]; exact HC3.out.1,HC3.out.2⟩
set_option maxHeartbeats 1000000 in
theorem readKind_at (B:Nat) (c:Cur) (w:World) (h:CurAt w B c):Calls Tryz.prog 137 #[.pointer (some ⟨B,0,none⟩)] w (RetAtN w B (kdR c).1 (kdR c).2):=by
 have HT:=Lib.hid (take_at B c 1 wLeaf w h)
 have HO:=Lib.hid (fun W (hW:CurAt W B c) => take_at B c 1 wOr W hW)
 have HA:=Lib.hid (fun W (hW:CurAt W B c) => want_at B c 1 wAnd W hW)
 obtain ⟨P,hP⟩:∃ P,P = kdR c:=⟨_,rfl⟩
 rw [← hP]
 clear h
 by_cases hb:isB c 1 wLeaf = true
 ·have HP:Hid (P = (on c,1)):=Lib.hid (by rw [hP]; unfold kdR; rw [if_pos hb])
  rw [hb,show take c 1 wLeaf = on c by unfold take; rw [if_pos hb]] at HT
  clear hP hb
  go_enter Tryz.func137,Tryz.ntmps137
  go_wp2_with (go_at_call 52; (with_reducible refine HT.out.mono ?_))
  rintro e x2 ⟨rfl,hc2,hb2⟩
  have HC:=Lib.hid (And.intro hc2 hb2)
  clear hc2 hb2
  go_wp2_with fail
  go_ret
  exact ⟨by rw [HP.out]; rfl,by rw [HP.out]; exact HC.out.1,HC.out.2⟩
 ·rw [show isB c 1 wLeaf = false by simpa using hb,show take c 1 wLeaf = c by unfold take; rw [if_neg hb]] at HT
  by_cases ho:isB c 1 wOr = true
  ·have HP:Hid (P = (on c,2)):=Lib.hid (by rw [hP]; unfold kdR; rw [if_neg hb,if_pos ho])
   rw [ho,show take c 1 wOr = on c by unfold take; rw [if_pos ho]] at HO
   clear hP hb ho
   go_enter Tryz.func137,Tryz.ntmps137
   go_wp2_with (go_at_call 52; (with_reducible refine HT.out.mono ?_))
   rintro e x2 ⟨rfl,hc2,hb2⟩
   have HC:=Lib.hid (And.intro hc2 hb2)
   clear hc2 hb2
   go_wp2_with (go_at_call 52; (with_reducible refine (HO.out _ HC.out.1).mono ?_))
   rintro e x3 ⟨rfl,hc3,hb3⟩
   have HC3:=Lib.hid (And.intro hc3 (but_trans HC.out.2 hb3))
   clear hc3 hb3
   go_wp2_with fail
   go_ret
   exact ⟨by rw [HP.out]; rfl,by rw [HP.out]; exact HC3.out.1,HC3.out.2⟩
  ·have HP:Hid (P = (want c 1 wAnd,3)):=Lib.hid (by rw [hP]; unfold kdR; rw [if_neg hb,if_neg ho])
   rw [show isB c 1 wOr = false by simpa using ho,show take c 1 wOr = c by unfold take; rw [if_neg ho]] at HO
   clear hP hb ho
   go_enter Tryz.func137,Tryz.ntmps137
   go_wp2_with (go_at_call 52; (with_reducible refine HT.out.mono ?_))
   rintro e x2 ⟨rfl,hc2,hb2⟩
   have HC:=Lib.hid (And.intro hc2 hb2)
   clear hc2 hb2
   go_wp2_with (go_at_call 52; (with_reducible refine (HO.out _ HC.out.1).mono ?_))
   rintro e x3 ⟨rfl,hc3,hb3⟩
   have HC3:=Lib.hid (And.intro hc3 (but_trans HC.out.2 hb3))
   clear hc3 hb3
   go_wp2_with (go_at_call 21; (with_reducible refine (HA.out _ HC3.out.1).mono ?_))
   rintro e x4 ⟨rfl,hc4,hb4⟩
   have HC4:=Lib.hid (And.intro hc4 (but_trans HC3.out.2 hb4))
   clear hc4 hb4
   go_wp2_with fail
   go_ret
   exact ⟨by rw [HP.out]; rfl,by rw [HP.out]; exact HC4.out.1,HC4.out.2⟩
set_option maxHeartbeats 1000000 in
theorem room_any (m d:Int) (w:World) {r:Int} (hr:SynSpec.room m d = r):Calls Tryz.prog 97 #[.int .i64 m,.int .i64 d] w (SameI w r):=by
 subst hr
 unfold SynSpec.room
 by_cases h1:m = 60
 ·have g:(m == 60) = true:=by simp [h1]
  rw [if_pos h1]
  clear h1
  go_enter Tryz.func97,Tryz.ntmps97
  go_wp2_with fail
  go_ret
  exact ⟨rfl,rfl⟩
 ·have g:(m == 60) = false:=by simp [h1]
  rw [if_neg h1]
  clear h1
  by_cases h2:12 < d
  ·have g2:decide (12 < d) = true:=by simp [h2]
   have g3:(d > 12) = True:=by simp; omega
   rw [if_pos h2]
   go_enter Tryz.func97,Tryz.ntmps97
   go_wp2_with fail
   go_ret
   exact ⟨rfl,rfl⟩
  ·have g2:decide (12 < d) = false:=by simp; omega
   rw [if_neg h2]
   go_enter Tryz.func97,Tryz.ntmps97
   go_wp2_with fail
   go_ret
   exact ⟨rfl,rfl⟩
def RetHeadS (W:World) (B:Nat) (p:Cur × Sx) (e:Ending) (w':World):Prop:=e = .returned (.agg #[.string p.2.s,.int .i64 p.2.kind,.int .i64 p.2.par,.slice none 0 0,.slice none 0 0,.slice none 0 0]) ∧ CurAt w' B p.1 ∧ W.grownBy w' (some B)
theorem hb_state (s:ByteArray) (k p:Int) (w:World):(Instr.build 58 #[(0,.string s),(1,.int .i64 k),(2,.int .i64 p)]).run Tryz.prog w = .ok (.agg #[.string s,.int .i64 k,.int .i64 p,.slice none 0 0,.slice none 0 0,.slice none 0 0]) w:=run_build w 58 _ _ (by kernel_rfl)
abbrev stZ:Obj:=.cells #[.string ⟨#[]⟩,.int .i64 0,.int .i64 0,.slice none 0 0,.slice none 0 0,.slice none 0 0] 58
theorem set_six (w:World) (b:Nat) (u0 u1 u2 u3 u4 u5:Value):w.grownBy ((((((w.setCell ⟨b,0,none⟩ u0).setCell ⟨b,1,none⟩ u1).setCell ⟨b,2,none⟩ u2).setCell ⟨b,3,none⟩ u3).setCell ⟨b,4,none⟩ u4).setCell ⟨b,5,none⟩ u5) (some b) :=
 but_set (but_set (but_set (but_set (but_set (but_set (but_refl _ _) 0 _) 1 _) 2 _) 3 _) 4 _) 5 _
set_option maxHeartbeats 1000000 in
theorem readHead_at (B:Nat) (c:Cur) (par:Int) (w:World) (h:CurAt w B c) (ok:Ok c):Calls Tryz.prog 93 #[.pointer (some ⟨B,0,none⟩),.int .i64 par] w (RetHeadS w B (headR c par)):=by
 have hB:=h.lt
 have b1:=hb_state
 have h1:=h.alloc stZ
 have hk:=heap_alloc_new w stZ
 obtain ⟨w1,hw1⟩:∃ w1,w.alloc stZ = w1:=⟨_,rfl⟩
 have hsz:w1.heap.size = w.heap.size + 1:=by rw [← hw1,World.size_alloc]
 rw [hw1] at h1 hk
 have HK:=Lib.hid (readKind_at B c w1 h1)
 have HN:=Lib.hid (fun W (hW:CurAt W B (kdR c).1) => name_at B (kdR c).1 ((to_kdR c).ok ok) W hW)
 obtain ⟨⟨c1,k⟩,hc1⟩:∃ p,p = kdR c:=⟨_,rfl⟩
 have HP:Hid (headR c par = (nameC c1,⟨nameS c1,k,par,[],[],[]⟩)):=Lib.hid (by unfold headR; rw [← hc1])
 obtain ⟨P,hP⟩:∃ P,P = headR c par:=⟨_,rfl⟩
 rw [← hP] at HP ⊢
 rw [← hc1] at HK HN
 have HW:=Lib.hid hw1
 have HKB:=Lib.hid hk
 have HSZ:=Lib.hid hsz
 have HLT:=Lib.hid hB
 clear hP hc1 h ok h1 hk hw1 hsz
 go_enter Tryz.func93,Tryz.ntmps93
 go_wp2_with (rw [HW.out]; go_at_call 137; (with_reducible refine HK.out.mono ?_))
 rintro e x2 ⟨rfl,hc2,hb2⟩
 have HC2:=Lib.hid (And.intro hc2 hb2)
 clear hc2 hb2
 go_wp2_with (go_at_call 47; (with_reducible refine (HN.out _ HC2.out.1).mono ?_))
 rintro e x3 ⟨rfl,hc3,hb3⟩
 have HC3:=Lib.hid (And.intro hc3 (but_trans HC2.out.2 hb3))
 clear hc3 hb3
 have HBK:=Lib.hid (grown_block HKB.out HC3.out.2 (by have:=HLT.out; omega))
 obtain ⟨f0,f1,f2,f3,f4,f5⟩:=free_6 HBK.out
 obtain ⟨q0,q1,q2,q3,q4,q5⟩:=cells_6 HBK.out
 go_wp2_with fail
 obtain ⟨p0,p1,p2,p3,p4,p5⟩:=store_six (blk_of HBK.out rfl) (.string (nameS c1)) (.int .i64 k) (.int .i64 par) (.slice none 0 0) (.slice none 0 0) (.slice none 0 0)
 refine bodyPost_ret (v:=.agg #[.string (nameS c1),.int .i64 k,.int .i64 par,.slice none 0 0,.slice none 0 0,.slice none 0 0]) (by simp [results,Tryz.results93,go_sem,p0,p1,p2,p3,p4,p5]) rfl ?_
 have hd:=set_six x3 w.heap.size (.string (nameS c1)) (.int .i64 k) (.int .i64 par) (.slice none 0 0) (.slice none 0 0) (.slice none 0 0)
 refine ⟨by rw [HP.out],by rw [HP.out]; exact HC3.out.1.own hd HLT.out,?_⟩
 have hg:=HC3.out.2
 rw [← HW.out] at hg
 exact but_own hg hd
end Go.Proofs.YtjfghaohogcfbaaGreatDoor