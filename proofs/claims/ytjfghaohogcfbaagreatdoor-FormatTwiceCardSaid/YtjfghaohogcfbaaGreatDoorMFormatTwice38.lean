/- SynStates, PrintLightC, SynChart, joined. -/
import Derived.Test.YtjfghaohogcfbaaGreatDoorMFormatTwice37
import Derived.Deep.CutRange
import Derived.BigRegion
import Derived.Test.YtjfghaohogcfbaaGreatDoorMFormatTwice28
import Derived.Lib.QuietBelow
import Derived.BigQuiet
namespace Go.Proofs.YtjfghaohogcfbaaGreatDoor
open Go.RowKit Go.Sort TermSpec EvalSpec ActSpec NamesSpec ExprSpec TransSpec SynSpec PrintSpec
set_option maxRecDepth 100000
def FewX (s:Sx):Prop:=s.en.length ≤ 4398046511104 ∧ (∀ a ∈ s.en,a.x.length ≤ 4398046511104) ∧ s.ex.length ≤ 4398046511104 ∧ (∀ a ∈ s.ex,a.x.length ≤ 4398046511104) ∧ s.tr.length ≤ 4398046511104 ∧ ∀ t ∈ s.tr,FewT t
abbrev stO (s:ByteArray) (k p:Int) (e x t:Value):Obj:=.cells #[.string s,.int .i64 k,.int .i64 p,e,x,t] 58
def StGRel (W:World) (l m:List Sx) (n:Nat) (v:Value) (w:World):Prop:=∃ k:Nat,k ≤ n ∧ v = .int .i64 k ∧ l.take k = m.take k ∧ Below W.heap.size W w
def StMid (W:World) (o o':Obj) (p q:Value) (w:World):Prop:=∃ b b',p = .pointer (some ⟨b,0,none⟩) ∧ q = .pointer (some ⟨b',0,none⟩) ∧ w.heap[b]? = some o ∧ w.heap[b']? = some o' ∧ Below W.heap.size W w
theorem two_blocks (w:World) (o o':Obj):((w.alloc o).alloc o').drew.heap[w.heap.size]? = some o ∧ ((w.alloc o).alloc o').drew.heap[w.heap.size + 1]? = some o' ∧ Below w.heap.size w ((w.alloc o).alloc o').drew:=by
 obtain ⟨h1,h2,h3,-⟩:=KitC.pair_blocks (o:=o) (p:=o') (w:=w) (Below.refl _ _)
 exact ⟨h1,h2,h3.drew⟩
theorem sx_ne {nm nm':ByteArray} {kind kind' par par':Int} {en en' ex ex':List Ac} {tr tr':List Tr} (h:¬ (nm = nm' ∧ kind = kind' ∧ par = par' ∧ en = en' ∧ ex = ex' ∧ tr = tr')):(⟨nm,kind,par,en,ex,tr⟩:Sx) ≠ ⟨nm',kind',par',en',ex',tr'⟩:=fun e => by
 cases e
 exact h ⟨rfl,rfl,rfl,rfl,rfl,rfl⟩
set_option maxRecDepth 100000 in
set_option maxHeartbeats 4000000 in
theorem states_any (A1 A2:Option Addr) (n1 n2 c1 c2:Nat) (l m:List Sx) (b:Bool) (hb:b = true ↔ l = m) (w:World) (h1:StsP w (.slice A1 n1 c1) l) (h2:StsP w (.slice A2 n2 c2) m) (hm:n1 ≤ 4398046511104) (hfew:∀ t ∈ l,FewX t) :
 Calls Tryz.prog 28 #[.slice A1 n1 c1,.slice A2 n2 c2] w (RetB w b):=by
 have hn1:=h1.len.1
 have hn2:=h2.len.1
 have hc1:=h1.len.2
 have hc2:=h2.len.2
 by_cases hnm:n1 = n2
 ·subst hnm
  have HT:=Lib.hid (And.intro h1 h2)
  have HN:=Lib.hid hn1
  have HM:=Lib.hid hn2
  have HBB:=Lib.hid hb
  have HF:=Lib.hid hfew
  clear h1 h2 hn1 hn2 hb hfew
  go_enter Tryz.func28,Tryz.ntmps28
  go_wp2_with fail
  go_loopw [5] (fun v wr => StGRel w l m n1 v wr) (fun v _ => n1 - (intOf v).toNat)
  case atStart => exact ⟨0,Nat.zero_le _,rfl,rfl,Below.refl _ _⟩
  case round =>
   obtain ⟨k,hk,rfl,htk,hbw⟩:=hrel
   by_cases hlt:k < n1
   ·obtain ⟨t,ht⟩:∃ t,l[k]? = some t:=get_some (by rw [← HN.out]; exact hlt)
    obtain ⟨u,hu⟩:∃ u,m[k]? = some u:=get_some (by rw [← HM.out]; exact hlt)
    have hx:=HF.out t (List.mem_of_getElem? ht)
    obtain ⟨b1,o1,a3,n3,m3,a4,n4,m4,a5,n5,m5,rfl,hb1,p0,p1,p2,p3,p4,p5,i3,i4,i5⟩:=(HT.out.1.keep hbw).at_ ht
    obtain ⟨b2,o2,d3,q3,r3,d4,q4,r4,d5,q5,r5,rfl,hb2,g0,g1,g2,g3,g4,g5,j3,j4,j5⟩:=(HT.out.2.keep hbw).at_ hu
    have hkI:(k:Int) ≤ 4398046511104:=by omega
    obtain ⟨nm,kind,par,ten,tex,ttr⟩:=t
    obtain ⟨nm',kind',par',ten',tex',ttr'⟩:=u
    simp only at p0 p1 p2 g0 g1 g2 i3 i4 i5 j3 j4 j5 hx
    have HW:=Lib.hid hbw
    have HTK:=Lib.hid htk
    have HTU:=Lib.hid (And.intro ht hu)
    clear ht hu hbw htk
    go_wp2_with fail
    go_cut [5,6,7] from 13 to 69 (fun i p q wx => i = .int .i64 k ∧ StMid wr (stO nm kind par (.slice a3 n3 m3) (.slice a4 n4 m4) (.slice a5 n5 m5)) (stO nm' kind' par' (.slice d3 q3 r3) (.slice d4 q4 r4) (.slice d5 q5 r5)) p q wx)
    case first =>
     go_region
     all_goals
      go_wp2_with fail
      go_meet
      first
      | exact ⟨rfl,_,_,rfl,rfl,(two_blocks _ _ _).1,(two_blocks _ _ _).2.1,(two_blocks _ _ _).2.2⟩
      | exact ⟨rfl,_,_,rfl,rfl,(two_blocks _ _ _).2.1,(two_blocks _ _ _).1,(two_blocks _ _ _).2.2⟩
    case rest =>
     obtain ⟨rfl,bb,bb',rfl,rfl,hp,hq,hbx⟩:=hcut
     obtain ⟨x0,x1,x2,x3,x4,x5⟩:=cells_6 hp
     obtain ⟨y0,y1,y2,y3,y4,y5⟩:=cells_6 hq
     have HP:=Lib.hid (fun W (hW:Below wc.heap.size wc W) => And.intro (cells_6 (KitC.block_on hp hW)) (cells_6 (KitC.block_on hq hW)))
     obtain ⟨qe,hqe⟩:=some_bool (ten = ten')
     obtain ⟨qx,hqx⟩:=some_bool (tex = tex')
     obtain ⟨qt,hqt⟩:=some_bool (ttr = ttr')
     have HC1:=Lib.hid (fun W (hW:Below wc.heap.size wc W) => rsame_dec a3 d3 n3 q3 m3 r3 ten ten' qe hqe W (i3.keep (below_two' hbx hW)) (j3.keep (below_two' hbx hW)) (by rw [i3.len.1]; exact hx.1) hx.2.1)
     have HC2:=Lib.hid (fun W (hW:Below wc.heap.size wc W) => rsame_dec a4 d4 n4 q4 m4 r4 tex tex' qx hqx W (i4.keep (below_two' hbx hW)) (j4.keep (below_two' hbx hW)) (by rw [i4.len.1]; exact hx.2.2.1) hx.2.2.2.1)
     have HC3:=Lib.hid (fun W (hW:Below wc.heap.size wc W) => trall_any a5 d5 n5 q5 m5 r5 ttr ttr' qt hqt W (i5.keep (below_two' hbx hW)) (j5.keep (below_two' hbx hW)) (by rw [i5.len.1]; exact hx.2.2.2.2.1) hx.2.2.2.2.2)
     have HNO:Hid (¬ (nm = nm' ∧ kind = kind' ∧ par = par' ∧ ten = ten' ∧ tex = tex' ∧ ttr = ttr') → b = false):=Lib.hid (fun h => by
      have:=list_ne HTU.out.1 HTU.out.2 (sx_ne h)
      cases b with
      | false => rfl
      | true => exact absurd (HBB.out.1 rfl) this)
     have HYES:Hid ((nm = nm' ∧ kind = kind' ∧ par = par' ∧ ten = ten' ∧ tex = tex' ∧ ttr = ttr') → l.take (k + 1) = m.take (k + 1)):=Lib.hid (fun ⟨e1,e2,e3,e4,e5,e6⟩ => by
      subst e1 e2 e3 e4 e5 e6
      exact take_same HTK.out HTU.out.1 HTU.out.2)
     have HW1:=Lib.hid (below_two' HW.out hbx)
     have HLT:=Lib.hid hlt
     have hl3:=i3.len.2
     clear p0 p1 p2 p3 p4 p5 g0 g1 g2 g3 g4 g5 hb1 hb2 hp hq hbx i3 i4 i5 j3 j4 j5 hx HTU HTK
     by_cases e1:nm = nm'
     case neg =>
      have HE:=Lib.hid (HNO.out (fun h => e1 h.1))
      have ge:=bne_bytes e1
      go_wp2_with fail
      go_ret
      exact ⟨ret_bool HE.out.symm,HW1.out⟩
     subst e1
     by_cases e2:kind = kind'
     case neg =>
      have HE:=Lib.hid (HNO.out (fun h => e2 h.2.1))
      have ge:(kind == kind') = false:=by simpa using e2
      go_wp2_with fail
      go_ret
      exact ⟨ret_bool HE.out.symm,HW1.out⟩
     subst e2
     by_cases e3:par = par'
     case neg =>
      have HE:=Lib.hid (HNO.out (fun h => e3 h.2.2.1))
      have ge:(par == par') = false:=by simpa using e3
      go_wp2_with fail
      go_ret
      exact ⟨ret_bool HE.out.symm,HW1.out⟩
     subst e3
     go_wp2_with (go_at_call 57; (with_reducible refine (HC1.out _ (Below.refl _ _)).mono ?_))
     rintro e w1 ⟨rfl,hb1'⟩
     have HB1:=Lib.hid hb1'
     rcases qe with _ | _
     ·have HE:=Lib.hid (HNO.out (fun h => by have:=hqe.2 h.2.2.2.1; cases this))
      clear hb1'
      go_wp2_with fail
      go_ret
      exact ⟨ret_bool HE.out.symm,below_two' HW1.out HB1.out⟩
     clear x0 x1 x2 x3 x4 x5 y0 y1 y2 y3 y4 y5
     obtain ⟨⟨x0,x1,x2,x3,x4,x5⟩,y0,y1,y2,y3,y4,y5⟩:=HP.out _ hb1'
     clear hb1'
     go_wp2_with (go_at_call 57; (with_reducible refine (HC2.out _ HB1.out).mono ?_))
     rintro e w2 ⟨rfl,hb2'⟩
     have HB2:=Lib.hid (below_two' HB1.out hb2')
     clear hb2'
     rcases qx with _ | _
     ·have HE:=Lib.hid (HNO.out (fun h => by have:=hqx.2 h.2.2.2.2.1; cases this))
      go_wp2_with fail
      go_ret
      exact ⟨ret_bool HE.out.symm,below_two' HW1.out HB2.out⟩
     clear x0 x1 x2 x3 x4 x5 y0 y1 y2 y3 y4 y5
     obtain ⟨⟨x0,x1,x2,x3,x4,x5⟩,y0,y1,y2,y3,y4,y5⟩:=HP.out _ HB2.out
     clear x0 x1 x2 x3 x4 y0 y1 y2 y3 y4 HP HC1 HC2
     have hone:∀ f:Field,([f]:List Field)[0]? = some f:=fun _ => rfl
     go_wp2_with (go_at_call 58; (with_reducible refine (HC3.out _ HB2.out).mono ?_))
     rintro e w3 ⟨rfl,hb3'⟩
     have HB3:=Lib.hid (below_two' HW1.out (below_two' HB2.out hb3'))
     clear hb3'
     rcases qt with _ | _
     ·have HE:=Lib.hid (HNO.out (fun h => by have:=hqt.2 h.2.2.2.2.2; cases this))
      go_wp2_with fail
      go_ret
      exact ⟨ret_bool HE.out.symm,HB3.out⟩
     have HX:=Lib.hid (HYES.out ⟨(by first | rfl | trivial),(by first | rfl | trivial),(by first | rfl | trivial),hqe.1 (by first | rfl | trivial),hqx.1 (by first | rfl | trivial),hqt.1 (by first | rfl | trivial)⟩)
     go_wp2_with fail
     go_roundw
     case rel => exact ⟨k + 1,HLT.out,by go_num,HX.out,HB3.out⟩
     case measure => have:=HLT.out; simp [intOf]; omega
   ·obtain rfl:k = n1:=by omega
    have HE:Hid (b = true):=Lib.hid (HBB.out.2 (by rwa [List.take_of_length_le (by rw [← HN.out]; exact Nat.le_refl _),List.take_of_length_le (by rw [← HM.out]; exact Nat.le_refl _)] at htk))
    have HW:=Lib.hid hbw
    clear htk hbw
    go_wp2_with fail
    go_ret
    exact ⟨ret_bool HE.out.symm,HW.out⟩
 ·have g:((n1:Int) != (n2:Int)) = true:=by simp; omega
  have HE:Hid (b = false):=Lib.hid (by
   cases b with
   | false => rfl
   | true => have:=hb.1 rfl; subst this; omega)
  clear h1 h2 hb hn1 hn2 hfew
  go_enter Tryz.func28,Tryz.ntmps28
  go_wp2_with fail
  go_ret
  exact ⟨ret_bool HE.out.symm,Below.refl _ _⟩
end Go.Proofs.YtjfghaohogcfbaaGreatDoor
namespace Go.Proofs.YtjfghaohogcfbaaGreatDoor
open Go.RowKit Go.Sort TermSpec EvalSpec ActSpec NamesSpec ExprSpec TransSpec SynSpec PrintSpec
set_option maxRecDepth 100000
abbrev chO (s:ByteArray) (e v t:Value):Obj:=.cells #[.string s,e,v,t] 33
end Go.Proofs.YtjfghaohogcfbaaGreatDoor
namespace Go.Proofs.YtjfghaohogcfbaaGreatDoor
open Go.RowKit Go.Sort TermSpec EvalSpec ActSpec NamesSpec ExprSpec TransSpec SynSpec PrintSpec Go.BigFrame
set_option maxRecDepth 100000
theorem eq_vyes (v:Vr) (w:World):(Op.equalIn 10000 53 (.agg #[.string v.s,.int .i64 v.lo,.int .i64 v.hi,.int .i64 v.ini]) (.agg #[.string v.s,.int .i64 v.lo,.int .i64 v.hi,.int .i64 v.ini])).run Tryz.prog w = .ok true w:=by rw [eq_var]; simp
theorem vr_ne {t u:Vr} (h:t ≠ u):t.s ≠ u.s ∨ (t.s = u.s ∧ (t.lo ≠ u.lo ∨ t.hi ≠ u.hi ∨ t.ini ≠ u.ini)):=by
 obtain ⟨a,b,c,d⟩:=t
 obtain ⟨a',b',c',d'⟩:=u
 by_cases h1:a = a'
 ·subst h1
  refine .inr ⟨rfl,?_⟩
  by_cases h2:b = b'
  ·by_cases h3:c = c'
   ·exact .inr (.inr fun h4 => h (by simp only at h4; rw [h2,h3,h4]))
   ·exact .inr (.inl h3)
  ·exact .inl h2
 ·exact .inl h1
theorem eq_vno {t u:Vr} (h:t ≠ u) (w:World):(Op.equalIn 10000 53 (.agg #[.string t.s,.int .i64 t.lo,.int .i64 t.hi,.int .i64 t.ini]) (.agg #[.string u.s,.int .i64 u.lo,.int .i64 u.hi,.int .i64 u.ini])).run Tryz.prog w = .ok false w:=by
 rw [eq_var]
 congr 1
 rcases vr_ne h with h | ⟨_,h | h | h⟩
 ·simp [bne_bytes h]
 ·simp [h]
 ·simp [h]
 ·simp [h]
def FewC (x:Cx):Prop:=x.evs.length ≤ 4398046511104 ∧ x.vars.length ≤ 4398046511104 ∧ x.sts.length ≤ 4398046511104 ∧ ∀ s ∈ x.sts,FewX s
def VGRel (W:World) (l m:List Vr) (n:Nat) (v:Value) (w:World):Prop:=∃ k:Nat,k ≤ n ∧ v = .int .i64 k ∧ l.take k = m.take k ∧ Below W.heap.size W w
set_option maxRecDepth 100000 in
set_option maxHeartbeats 4000000 in
theorem csame_any (x y:Cx) (b:Bool) (hb:b = true ↔ x = y) (eA:Option Addr) (en ec:Nat) (vA:Option Addr) (vn vc:Nat) (sA:Option Addr) (sn sc:Nat) (fA:Option Addr) (fn fc:Nat) (uA:Option Addr) (un uc:Nat) (rA:Option Addr) (rn rc:Nat) (w:World)
 (h1:ChIn w (.slice eA en ec) (.slice vA vn vc) (.slice sA sn sc) x) (h2:ChIn w (.slice fA fn fc) (.slice uA un uc) (.slice rA rn rc) y) (hfew:FewC x) :
 Calls Tryz.prog 12 #[.agg #[.string x.s,.slice eA en ec,.slice vA vn vc,.slice sA sn sc],.agg #[.string y.s,.slice fA fn fc,.slice uA un uc,.slice rA rn rc]] w (RetB w b):=by
 obtain ⟨W1,hW1⟩:∃ W1,(w.alloc (chO x.s (.slice eA en ec) (.slice vA vn vc) (.slice sA sn sc))).alloc (chO y.s (.slice fA fn fc) (.slice uA un uc) (.slice rA rn rc)) = W1:=⟨_,rfl⟩
 obtain ⟨k1,k2,hB1,-⟩:=KitC.pair_blocks (o:=chO x.s (.slice eA en ec) (.slice vA vn vc) (.slice sA sn sc)) (p:=chO y.s (.slice fA fn fc) (.slice uA un uc) (.slice rA rn rc)) (w:=w) (Below.refl _ _)
 rw [hW1] at k1 k2 hB1
 have HK:=Lib.hid (fun W (hW:Below W1.heap.size W1 W) => And.intro (cells_4 (KitC.block_on k1 hW)) (cells_4 (KitC.block_on k2 hW)))
 obtain ⟨qe,hqe⟩:=some_bool (x.evs = y.evs)
 obtain ⟨qs,hqs⟩:=some_bool (x.sts = y.sts)
 obtain ⟨hvn,hvc⟩:=RdV.len h1.vars
 obtain ⟨hun,huc⟩:=RdV.len h2.vars
 have HE1:=Lib.hid (fun W (hW:Below W1.heap.size W1 W) => texts_any _ _ x.evs y.evs W (h1.keep (below_two' hB1 hW)).evs (h2.keep (below_two' hB1 hW)).evs (Nat.le_trans hfew.1 (by decide)))
 have HS1:=Lib.hid (fun W (hW:Below W1.heap.size W1 W) => states_any sA rA sn rn sc rc x.sts y.sts qs hqs W (h1.keep (below_two' hB1 hW)).sts (h2.keep (below_two' hB1 hW)).sts (by rw [h1.sts.len.1]; exact hfew.2.2.1) hfew.2.2.2)
 have HV:=Lib.hid (fun W (hW:Below W1.heap.size W1 W) => And.intro ((RdV.vars h1.vars).keep (below_two' hB1 hW)) ((RdV.vars h2.vars).keep (below_two' hB1 hW)))
 have HB1:=Lib.hid hB1
 have HW1:=Lib.hid hW1
 have hm:vn ≤ 4398046511104:=by rw [hvn]; exact hfew.2.1
 have HNO:Hid (¬ (x.s = y.s ∧ x.evs = y.evs ∧ x.vars = y.vars ∧ x.sts = y.sts) → b = false):=Lib.hid (fun h => by
  rcases b with _ | _
  ·rfl
  ·have:=hb.1 rfl
   subst this
   exact absurd ⟨rfl,rfl,rfl,rfl⟩ h)
 have HYES:Hid (x.s = y.s → x.evs = y.evs → x.vars = y.vars → x.sts = y.sts → b = true):=Lib.hid (fun e1 e2 e3 e4 => hb.2 (by
  obtain ⟨a,b,c,d⟩:=x
  obtain ⟨a',b',c',d'⟩:=y
  simp only at e1 e2 e3 e4
  rw [e1,e2,e3,e4]))
 clear h1 h2 hb hW1 hB1 k1 k2 hfew
 obtain ⟨s,evs,vars,sts⟩:=x
 obtain ⟨s',evs',vars',sts'⟩:=y
 simp only at HK HE1 HS1 HV HNO HYES HW1 hqe hqs hvn hun ⊢
 have HN:=Lib.hid hvn
 have HM:=Lib.hid hun
 clear hvn hun
 obtain ⟨⟨x0,x1,x2,x3⟩,y0,y1,y2,y3⟩:=HK.out _ (Below.refl _ _)
 by_cases e1:s = s'
 case neg =>
  have HE:=Lib.hid (HNO.out (fun h => e1 h.1))
  have ge:=bne_bytes e1
  go_enter Tryz.func12,Tryz.ntmps12
  go_wp2_with (rw [HW1.out])
  go_ret
  exact ⟨ret_bool HE.out.symm,HB1.out⟩
 have HSS:=Lib.hid e1
 have ge:(s.toList == s'.toList) = true:=by rw [e1]; simp
 clear e1
 go_enter Tryz.func12,Tryz.ntmps12
 go_wp2_with (rw [HW1.out]; go_at_call 27; (with_reducible refine (HE1.out _ (Below.refl _ _)).mono ?_))
 rintro e w1 ⟨rfl,q,rfl⟩
 have hbq:Below W1.heap.size W1 (W1.drewN q):=below_drewN (Below.refl _ _) q
 generalize W1.drewN q = w1 at hbq ⊢
 have HBQ:=Lib.hid hbq
 clear x0 x1 x2 x3 y0 y1 y2 y3
 obtain ⟨⟨x0,x1,x2,x3⟩,y0,y1,y2,y3⟩:=HK.out _ hbq
 rcases hsv:sameS evs evs' with _ | _
 ·have HE:=Lib.hid (HNO.out (fun h => by have:=of_decide_eq_false hsv; exact this h.2.1))
  clear hsv hbq
  go_wp2_with fail
  go_ret
  exact ⟨ret_bool HE.out.symm,below_two' HB1.out HBQ.out⟩
 have HEV:=Lib.hid (of_decide_eq_true hsv)
 clear hsv hbq
 by_cases hlen:vn = un
 case neg =>
  have HE:=Lib.hid (HNO.out (fun h => hlen (by rw [HN.out,HM.out,h.2.2.1])))
  have gl:((vn:Int) == (un:Int)) = false:=by simp; omega
  have gl':((vn:Int) != (un:Int)) = true:=by simp; omega
  go_wp2_with fail
  go_ret
  exact ⟨ret_bool HE.out.symm,below_two' HB1.out HBQ.out⟩
 subst hlen
 clear HE1
 go_wp2_with fail
 go_loopw [5] (fun v wr => VGRel W1 vars vars' vn v wr) (fun v _ => vn - (intOf v).toNat)
 case atStart => exact ⟨0,Nat.zero_le _,rfl,rfl,HBQ.out⟩
 case round =>
  obtain ⟨k,hk,rfl,htk,hbw⟩:=hrel
  clear x0 x1 x2 x3 y0 y1 y2 y3
  obtain ⟨⟨x0,x1,x2,x3⟩,y0,y1,y2,y3⟩:=HK.out _ hbw
  have HW:=Lib.hid hbw
  have HTK:=Lib.hid htk
  clear htk
  by_cases hlt:k < vn
  ·obtain ⟨t,ht⟩:∃ t,vars[k]? = some t:=get_some (by rw [← HN.out]; exact hlt)
   obtain ⟨u,hu⟩:∃ u,vars'[k]? = some u:=get_some (by rw [← HM.out]; exact hlt)
   obtain ⟨b1,o1,rfl,hb1,p0,p1,p2,p3⟩:=(HV.out _ hbw).1.at_ ht
   obtain ⟨b2,o2,rfl,hb2,g0,g1,g2,g3⟩:=(HV.out _ hbw).2.at_ hu
   have hltI:(k:Int) < (vn:Int):=by omega
   clear hbw
   by_cases htu:t = u
   ·subst htu
    have HNX:=Lib.hid (take_same HTK.out ht hu)
    have heq:=eq_vyes t
    obtain ⟨nm,lo,hi,ini⟩:=t
    simp only at p0 p1 p2 p3 g0 g1 g2 g3 heq
    clear ht hu
    go_wp2_with fail
    go_big_quiet (fail)
    go_wp2_with fail
    go_roundw
    case rel => exact ⟨k + 1,hlt,by go_num,HNX.out,below_drewN HW.out _⟩
    case measure => simp [intOf]; omega
   ·have HE:=Lib.hid (HNO.out (fun h => list_ne ht hu htu h.2.2.1))
    have heq:=eq_vno htu
    obtain ⟨nm,lo,hi,ini⟩:=t
    obtain ⟨nm',lo',hi',ini'⟩:=u
    simp only at p0 p1 p2 p3 g0 g1 g2 g3 heq
    clear ht hu htu
    go_wp2_with fail
    go_big_quiet (fail)
    go_wp2_with fail
    go_ret
    exact ⟨ret_bool HE.out.symm,below_two' HB1.out (below_drewN HW.out _)⟩
  ·have HVV:Hid (vars = vars'):=Lib.hid (by
    have:=HTK.out
    rwa [List.take_of_length_le (by rw [← HN.out]; omega),List.take_of_length_le (by rw [← HM.out]; omega)] at this)
   have hltI:¬ (k:Int) < (vn:Int):=by omega
   have hone:∀ f:Field,([f]:List Field)[0]? = some f:=fun _ => rfl
   clear hbw
   go_wp2_with (go_at_call 28; (with_reducible refine (HS1.out _ HW.out).mono ?_))
   rintro e w3 ⟨rfl,hb3⟩
   have HB3:=Lib.hid (below_two' HB1.out (below_two' HW.out hb3))
   have HR:Hid (b = qs):=Lib.hid (by
    rcases qs with _ | _
    ·exact HNO.out (fun h => by have:=hqs.2 h.2.2.2; cases this)
    ·exact HYES.out HSS.out HEV.out HVV.out (hqs.1 rfl))
   clear hb3
   go_wp2_with fail
   go_ret
   exact ⟨ret_bool HR.out.symm,HB3.out⟩
end Go.Proofs.YtjfghaohogcfbaaGreatDoor