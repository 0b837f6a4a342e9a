/- TransSame, SynSame, SynStates, joined. -/
import Derived.Test.YtapnomdckglehaaGreatMAtlasTells29
import Derived.Test.YtapnomdckglehaaGreatMAtlasTells07
import Derived.Test.YtapnomdckglehaaGreatMAtlasTells13
import Derived.BigQuiet
import Derived.Deep.CutRange
import Derived.BigRegion
namespace Go.Proofs.YtapnomdckglehaaGreat
open Go.RowKit TermSpec EvalSpec ActSpec NamesSpec ExprSpec TransSpec
set_option maxRecDepth 100000
theorem tr_parts {t u:Tr} {r qg qa:Bool} (hr:r = true ↔ t = u) (hg:qg = true ↔ t.g = u.g) (ha:qa = true ↔ t.acts = u.acts):r = ((t.ev.toList == u.ev.toList) && ((t.tg.toList == u.tg.toList) && (qg && qa))):=by
 rw [Bool.eq_iff_iff,hr]
 obtain ⟨a,b,c,d⟩:=t
 obtain ⟨a',b',c',d'⟩:=u
 simp only [Bool.and_eq_true,beq_iff_eq] at hg ha ⊢
 rw [hg,ha]
 constructor
 ·rintro h
  cases h
  exact ⟨rfl,rfl,rfl,rfl⟩
 ·rintro ⟨h1,h2,h3,h4⟩
  rw [bytes_eq (x:=a) (y:=a') (by simpa using h1),bytes_eq (x:=d) (y:=d') (by simpa using h2),h3,h4]
set_option maxHeartbeats 4000000 in
theorem trsame_any (t u:Tr) (r:Bool) (hr:r = true ↔ t = u) (gA:Option Addr) (gn gc:Nat) (aA:Option Addr) (an ac:Nat) (gA':Option Addr) (gn' gc':Nat) (aA':Option Addr) (an' ac':Nat) (w:World) (h1:TrIn w gA gn gc aA an ac t) (h2:TrIn w gA' gn' gc' aA' an' ac' u) (hgl:t.g.length ≤ 4398046511104) (hal:t.acts.length ≤ 4398046511104) (hfew:∀ a ∈ t.acts,a.x.length ≤ 4398046511104) :
 Calls Tryz.prog 85 #[.agg #[.string t.ev,.slice gA gn gc,.slice aA an ac,.string t.tg],.agg #[.string u.ev,.slice gA' gn' gc',.slice aA' an' ac',.string u.tg]] w (RetB w r):=by
 obtain ⟨qg,hg⟩:=some_bool (t.g = u.g)
 obtain ⟨qa,ha⟩:=some_bool (t.acts = u.acts)
 have l1:=h1.len
 have l2:=h2.len
 have HG:=Lib.hid (fun W (hW:Below w.heap.size w W) => tmsame_dec gA gA' gn gn' gc gc' t.g u.g qg hg W (h1.g.keep hW) (h2.g.keep hW) l1.1 l2.1 (by omega))
 have HA:=Lib.hid (fun W (hW:Below w.heap.size w W) => rsame_dec aA aA' an an' ac ac' t.acts u.acts qa ha W (h1.a.keep hW) (h2.a.keep hW) (by omega) hfew)
 have HE:=Lib.hid (tr_parts hr hg ha)
 obtain ⟨ev,g,acts,tg⟩:=t
 obtain ⟨ev',g',acts',tg'⟩:=u
 simp only at HE HG HA ⊢
 clear hr hg ha h1 h2 l1 l2 hfew hgl hal
 rcases g1:(ev.toList == ev'.toList) with _ | _
 ·have HR:Hid (r = false):=Lib.hid (by rw [HE.out,g1]; rfl)
  clear HE HG HA
  go_enter Tryz.func85,Tryz.ntmps85
  go_wp2_with fail
  go_ret
  exact ⟨ret_bool HR.out.symm,KitC.below_pair _ _ _⟩
 rcases g2:(tg.toList == tg'.toList) with _ | _
 ·have HR:Hid (r = false):=Lib.hid (by rw [HE.out,g1,g2]; rfl)
  clear HE HG HA
  go_enter Tryz.func85,Tryz.ntmps85
  go_wp2_with fail
  go_ret
  exact ⟨ret_bool HR.out.symm,KitC.below_pair _ _ _⟩
 rcases qg with _ | _
 ·have HR:Hid (r = false):=Lib.hid (by rw [HE.out,g1,g2]; rfl)
  clear HE HA
  go_enter Tryz.func85,Tryz.ntmps85
  go_wp2_with (go_at_call 84; (with_reducible refine (HG.out _ (KitC.below_pair _ _ _)).mono ?_))
  rintro e w2 ⟨rfl,hb⟩
  have HB:=Lib.hid (below_two' (KitC.below_pair _ _ _) hb)
  clear hb
  go_wp2_with fail
  go_ret
  exact ⟨ret_bool HR.out.symm,HB.out⟩
 ·have HR:Hid (r = qa):=Lib.hid (by rw [HE.out,g1,g2]; rfl)
  clear HE
  go_enter Tryz.func85,Tryz.ntmps85
  go_wp2_with (go_at_call 84; (with_reducible refine (HG.out _ (KitC.below_pair _ _ _)).mono ?_))
  rintro e w2 ⟨rfl,hb⟩
  have HB:=Lib.hid (KitC.pair_blocks hb)
  obtain ⟨c0,c1,c2,c3⟩:=cells_4 HB.out.1
  obtain ⟨d0,d1,d2,d3⟩:=cells_4 HB.out.2.1
  clear hb
  go_wp2_with (go_at_call 60; (with_reducible refine (HA.out _ HB.out.2.2.1).mono ?_))
  rintro e w3 ⟨rfl,hb⟩
  have HB3:=Lib.hid (below_two' HB.out.2.2.1 hb)
  clear hb
  go_wp2_with fail
  go_ret
  exact ⟨ret_bool HR.out.symm,HB3.out⟩
end Go.Proofs.YtapnomdckglehaaGreat
namespace Go.Proofs.YtapnomdckglehaaGreat
open Go.RowKit Go.Sort TermSpec EvalSpec ActSpec NamesSpec ExprSpec TransSpec SynSpec PrintSpec
set_option maxRecDepth 100000
theorem eq_var (s t:ByteArray) (a b c d e f:Int) (w:World):(Op.equalIn 10000 68 (.agg #[.string s,.int .i64 a,.int .i64 b,.int .i64 c]) (.agg #[.string t,.int .i64 d,.int .i64 e,.int .i64 f])).run Tryz.prog w = .ok (s.toList == t.toList && (a == d && (b == e && c == f))) w:=by
 have u3:=Tryz.underlying3
 have u9:=Tryz.underlying9
 have hS:Tryz.prog.underlying 68 = some (.struct (Tryz.prog.fieldsOf 68)):=by kernel_rfl
 rw [show (10000:Nat) = 9999 + 1 from rfl,run_equalIn_agg w 9999 68 _ _ hS (by kernel_rfl)]
 simp only [Program.fieldsOf,Tryz.underlying68]
 go_simp
 by_cases h1:s.toList = t.toList <;> by_cases h2:a = d <;> by_cases h3:b = e <;> by_cases h4:c = f <;> simp [h1,h2,h3,h4]
def FewT (t:Tr):Prop:=t.g.length ≤ 4398046511104 ∧ t.acts.length ≤ 4398046511104 ∧ ∀ a ∈ t.acts,a.x.length ≤ 4398046511104
def TrGRel (W:World) (l m:List Tr) (n:Nat) (v:Value) (w:World):Prop:=∃ k:Nat,k ≤ n ∧ v = .int .i64 k ∧ l.take k = m.take k ∧ Below W.heap.size W w
set_option maxHeartbeats 2000000 in
theorem trall_any (A1 A2:Option Addr) (n1 n2 c1 c2:Nat) (l m:List Tr) (b:Bool) (hb:b = true ↔ l = m) (w:World) (h1:Trs w (.slice A1 n1 c1) l) (h2:Trs w (.slice A2 n2 c2) m) (hm:n1 ≤ 4398046511104) (hfew:∀ t ∈ l,FewT t) :
 Calls Tryz.prog 61 #[.slice A1 n1 c1,.slice A2 n2 c2] w (RetB w b):=by
 have hn1:=h1.len.1
 have hn2:=h2.len.1
 have hc1:=h1.len.2
 have hc2:=h2.len.2
 by_cases hnm:n1 = n2
 ·subst hnm
  have HT:=Lib.hid (And.intro h1 h2)
  have HN:=Lib.hid hn1
  have HM:=Lib.hid hn2
  have HBB:=Lib.hid hb
  have HF:=Lib.hid hfew
  clear h1 h2 hn1 hn2 hb hfew
  go_enter Tryz.func61,Tryz.ntmps61
  go_wp2_with fail
  go_loopw [5] (fun v wr => TrGRel w l m n1 v wr) (fun v _ => n1 - (intOf v).toNat)
  case atStart => exact ⟨0,Nat.zero_le _,rfl,rfl,Below.refl _ _⟩
  case round =>
   obtain ⟨k,hk,rfl,htk,hbw⟩:=hrel
   by_cases hlt:k < n1
   ·obtain ⟨t,ht⟩:∃ t,l[k]? = some t:=get_some (by rw [← HN.out]; exact hlt)
    obtain ⟨u,hu⟩:∃ u,m[k]? = some u:=get_some (by rw [← HM.out]; exact hlt)
    have hx:=HF.out t (List.mem_of_getElem? ht)
    obtain ⟨b1,o1,gA,gn,gc,aA,an,ac,rfl,hb1,p0,p1,p2,p3,ht1⟩:=(HT.out.1.keep hbw).at_ ht
    obtain ⟨b2,o2,gA',gn',gc',aA',an',ac',rfl,hb2,q0,q1,q2,q3,ht2⟩:=(HT.out.2.keep hbw).at_ hu
    obtain ⟨r,hr⟩:=some_bool (t = u)
    have HS:Hid (∀ d os,Calls Tryz.prog 85 #[.agg #[.string t.ev,.slice gA gn gc,.slice aA an ac,.string t.tg],.agg #[.string u.ev,.slice gA' gn' gc',.slice aA' an' ac',.string u.tg]] (grow (redrawn wr d) os) fun e w'' => e = .returned (.bool r) ∧ ∃ p:Regrown,w'' = grow (redrawn wr p.d) p.os) :=
     Lib.hid (fun d os => Calls.regrown_of (trsame_any t u r hr gA gn gc aA an ac gA' gn' gc' aA' an' ac' _ (ht1.keep (below_regrown wr d os)) (ht2.keep (below_regrown wr d os)) hx.1 hx.2.1 hx.2.2))
    have HW:=Lib.hid hbw
    have HTK:=Lib.hid htk
    have HY:Hid (r = true → l.take (k + 1) = m.take (k + 1)):=Lib.hid (fun h => by
     have e:=hr.1 h
     subst e
     exact take_same HTK.out ht hu)
    have HNO:Hid (r = false → b = false):=Lib.hid (fun h => by
     have hne:t ≠ u:=fun e => by rw [hr.2 e] at h; cases h
     have:=list_ne ht hu hne
     cases b with
     | false => rfl
     | true => exact absurd (HBB.out.1 rfl) this)
    have HLT:=Lib.hid hlt
    obtain ⟨ev,g,acts,tg⟩:=t
    obtain ⟨ev',g',acts',tg'⟩:=u
    simp only at p0 p3 q0 q3 HS
    have rp0:=cell_regrown p0
    have rp1:=cell_regrown p1
    have rp2:=cell_regrown p2
    have rp3:=cell_regrown p3
    have rq0:=cell_regrown q0
    have rq1:=cell_regrown q1
    have rq2:=cell_regrown q2
    have rq3:=cell_regrown q3
    clear ht hu hr ht1 ht2 hx hbw htk p0 p1 p2 p3 q0 q1 q2 q3
    have hkI:(k:Int) ≤ 4398046511104:=by omega
    rcases r with _ | _
    ·have HE:=Lib.hid (HNO.out rfl)
     go_wp2_with fail
     refine wp_region_quiet_below (by kernel_rfl) (by kernel_rfl) ?_
     repeat (go_big_quiet_step (exact HS.out _ _))
     refine wpQuiet_nil ?_
     intro _ hw'
     obtain ⟨⟨dq,osq⟩,hw''⟩:=hw'
     subst hw''
     simp only
     have HB5:=Lib.hid (below_two' HW.out (below_regrown wr dq osq))
     go_wp2_with fail
     go_ret
     exact ⟨ret_bool HE.out.symm,HB5.out⟩
    ·have HX:=Lib.hid (HY.out rfl)
     go_wp2_with fail
     refine wp_region_quiet_below (by kernel_rfl) (by kernel_rfl) ?_
     repeat (go_big_quiet_step (exact HS.out _ _))
     refine wpQuiet_nil ?_
     intro _ hw'
     obtain ⟨⟨dq,osq⟩,hw''⟩:=hw'
     subst hw''
     simp only
     have HB5:=Lib.hid (below_two' HW.out (below_regrown wr dq osq))
     go_wp2_with fail
     go_roundw
     case rel => exact ⟨k + 1,HLT.out,by go_num,HX.out,HB5.out⟩
     case measure => have:=HLT.out; simp [intOf]; omega
   ·obtain rfl:k = n1:=by omega
    have HE:Hid (b = true):=Lib.hid (HBB.out.2 (by rwa [List.take_of_length_le (by rw [← HN.out]; exact Nat.le_refl _),List.take_of_length_le (by rw [← HM.out]; exact Nat.le_refl _)] at htk))
    have HW:=Lib.hid hbw
    clear htk hbw
    go_wp2_with fail
    go_ret
    exact ⟨ret_bool HE.out.symm,HW.out⟩
 ·have g:((n1:Int) != (n2:Int)) = true:=by simp; omega
  have HE:Hid (b = false):=Lib.hid (by
   cases b with
   | false => rfl
   | true => have:=hb.1 rfl; subst this; omega)
  clear h1 h2 hb hn1 hn2 hfew
  go_enter Tryz.func61,Tryz.ntmps61
  go_wp2_with fail
  go_ret
  exact ⟨ret_bool HE.out.symm,Below.refl _ _⟩
end Go.Proofs.YtapnomdckglehaaGreat
namespace Go.Proofs.YtapnomdckglehaaGreat
open Go.RowKit Go.Sort TermSpec EvalSpec ActSpec NamesSpec ExprSpec TransSpec SynSpec PrintSpec
set_option maxRecDepth 100000
def FewX (s:Sx):Prop:=s.en.length ≤ 4398046511104 ∧ (∀ a ∈ s.en,a.x.length ≤ 4398046511104) ∧ s.ex.length ≤ 4398046511104 ∧ (∀ a ∈ s.ex,a.x.length ≤ 4398046511104) ∧ s.tr.length ≤ 4398046511104 ∧ ∀ t ∈ s.tr,FewT t
abbrev stO (s:ByteArray) (k p:Int) (e x t:Value):Obj:=.cells #[.string s,.int .i64 k,.int .i64 p,e,x,t] 72
def StGRel (W:World) (l m:List Sx) (n:Nat) (v:Value) (w:World):Prop:=∃ k:Nat,k ≤ n ∧ v = .int .i64 k ∧ l.take k = m.take k ∧ Below W.heap.size W w
def StMid (W:World) (o o':Obj) (p q:Value) (w:World):Prop:=∃ b b',p = .pointer (some ⟨b,0,none⟩) ∧ q = .pointer (some ⟨b',0,none⟩) ∧ w.heap[b]? = some o ∧ w.heap[b']? = some o' ∧ Below W.heap.size W w
theorem two_blocks (w:World) (o o':Obj):((w.alloc o).alloc o').drew.heap[w.heap.size]? = some o ∧ ((w.alloc o).alloc o').drew.heap[w.heap.size + 1]? = some o' ∧ Below w.heap.size w ((w.alloc o).alloc o').drew:=by
 obtain ⟨h1,h2,h3,-⟩:=KitC.pair_blocks (o:=o) (p:=o') (w:=w) (Below.refl _ _)
 exact ⟨h1,h2,h3.drew⟩
theorem sx_ne {nm nm':ByteArray} {kind kind' par par':Int} {en en' ex ex':List Ac} {tr tr':List Tr} (h:¬ (nm = nm' ∧ kind = kind' ∧ par = par' ∧ en = en' ∧ ex = ex' ∧ tr = tr')):(⟨nm,kind,par,en,ex,tr⟩:Sx) ≠ ⟨nm',kind',par',en',ex',tr'⟩:=fun e => by
 cases e
 exact h ⟨rfl,rfl,rfl,rfl,rfl,rfl⟩
set_option maxRecDepth 100000 in
set_option maxHeartbeats 4000000 in
theorem states_any (A1 A2:Option Addr) (n1 n2 c1 c2:Nat) (l m:List Sx) (b:Bool) (hb:b = true ↔ l = m) (w:World) (h1:StsP w (.slice A1 n1 c1) l) (h2:StsP w (.slice A2 n2 c2) m) (hm:n1 ≤ 4398046511104) (hfew:∀ t ∈ l,FewX t) :
 Calls Tryz.prog 34 #[.slice A1 n1 c1,.slice A2 n2 c2] w (RetB w b):=by
 have hn1:=h1.len.1
 have hn2:=h2.len.1
 have hc1:=h1.len.2
 have hc2:=h2.len.2
 by_cases hnm:n1 = n2
 ·subst hnm
  have HT:=Lib.hid (And.intro h1 h2)
  have HN:=Lib.hid hn1
  have HM:=Lib.hid hn2
  have HBB:=Lib.hid hb
  have HF:=Lib.hid hfew
  clear h1 h2 hn1 hn2 hb hfew
  go_enter Tryz.func34,Tryz.ntmps34
  go_wp2_with fail
  go_loopw [5] (fun v wr => StGRel w l m n1 v wr) (fun v _ => n1 - (intOf v).toNat)
  case atStart => exact ⟨0,Nat.zero_le _,rfl,rfl,Below.refl _ _⟩
  case round =>
   obtain ⟨k,hk,rfl,htk,hbw⟩:=hrel
   by_cases hlt:k < n1
   ·obtain ⟨t,ht⟩:∃ t,l[k]? = some t:=get_some (by rw [← HN.out]; exact hlt)
    obtain ⟨u,hu⟩:∃ u,m[k]? = some u:=get_some (by rw [← HM.out]; exact hlt)
    have hx:=HF.out t (List.mem_of_getElem? ht)
    obtain ⟨b1,o1,a3,n3,m3,a4,n4,m4,a5,n5,m5,rfl,hb1,p0,p1,p2,p3,p4,p5,i3,i4,i5⟩:=(HT.out.1.keep hbw).at_ ht
    obtain ⟨b2,o2,d3,q3,r3,d4,q4,r4,d5,q5,r5,rfl,hb2,g0,g1,g2,g3,g4,g5,j3,j4,j5⟩:=(HT.out.2.keep hbw).at_ hu
    have hkI:(k:Int) ≤ 4398046511104:=by omega
    obtain ⟨nm,kind,par,ten,tex,ttr⟩:=t
    obtain ⟨nm',kind',par',ten',tex',ttr'⟩:=u
    simp only at p0 p1 p2 g0 g1 g2 i3 i4 i5 j3 j4 j5 hx
    have HW:=Lib.hid hbw
    have HTK:=Lib.hid htk
    have HTU:=Lib.hid (And.intro ht hu)
    clear ht hu hbw htk
    go_wp2_with fail
    go_cut [5,6,7] from 13 to 69 (fun i p q wx => i = .int .i64 k ∧ StMid wr (stO nm kind par (.slice a3 n3 m3) (.slice a4 n4 m4) (.slice a5 n5 m5)) (stO nm' kind' par' (.slice d3 q3 r3) (.slice d4 q4 r4) (.slice d5 q5 r5)) p q wx)
    case first =>
     go_region
     all_goals
      go_wp2_with fail
      go_meet
      first
      | exact ⟨rfl,_,_,rfl,rfl,(two_blocks _ _ _).1,(two_blocks _ _ _).2.1,(two_blocks _ _ _).2.2⟩
      | exact ⟨rfl,_,_,rfl,rfl,(two_blocks _ _ _).2.1,(two_blocks _ _ _).1,(two_blocks _ _ _).2.2⟩
    case rest =>
     obtain ⟨rfl,bb,bb',rfl,rfl,hp,hq,hbx⟩:=hcut
     obtain ⟨x0,x1,x2,x3,x4,x5⟩:=cells_6 hp
     obtain ⟨y0,y1,y2,y3,y4,y5⟩:=cells_6 hq
     have HP:=Lib.hid (fun W (hW:Below wc.heap.size wc W) => And.intro (cells_6 (KitC.block_on hp hW)) (cells_6 (KitC.block_on hq hW)))
     obtain ⟨qe,hqe⟩:=some_bool (ten = ten')
     obtain ⟨qx,hqx⟩:=some_bool (tex = tex')
     obtain ⟨qt,hqt⟩:=some_bool (ttr = ttr')
     have HC1:=Lib.hid (fun W (hW:Below wc.heap.size wc W) => rsame_dec a3 d3 n3 q3 m3 r3 ten ten' qe hqe W (i3.keep (below_two' hbx hW)) (j3.keep (below_two' hbx hW)) (by rw [i3.len.1]; exact hx.1) hx.2.1)
     have HC2:=Lib.hid (fun W (hW:Below wc.heap.size wc W) => rsame_dec a4 d4 n4 q4 m4 r4 tex tex' qx hqx W (i4.keep (below_two' hbx hW)) (j4.keep (below_two' hbx hW)) (by rw [i4.len.1]; exact hx.2.2.1) hx.2.2.2.1)
     have HC3:=Lib.hid (fun W (hW:Below wc.heap.size wc W) => trall_any a5 d5 n5 q5 m5 r5 ttr ttr' qt hqt W (i5.keep (below_two' hbx hW)) (j5.keep (below_two' hbx hW)) (by rw [i5.len.1]; exact hx.2.2.2.2.1) hx.2.2.2.2.2)
     have HNO:Hid (¬ (nm = nm' ∧ kind = kind' ∧ par = par' ∧ ten = ten' ∧ tex = tex' ∧ ttr = ttr') → b = false):=Lib.hid (fun h => by
      have:=list_ne HTU.out.1 HTU.out.2 (sx_ne h)
      cases b with
      | false => rfl
      | true => exact absurd (HBB.out.1 rfl) this)
     have HYES:Hid ((nm = nm' ∧ kind = kind' ∧ par = par' ∧ ten = ten' ∧ tex = tex' ∧ ttr = ttr') → l.take (k + 1) = m.take (k + 1)):=Lib.hid (fun ⟨e1,e2,e3,e4,e5,e6⟩ => by
      subst e1 e2 e3 e4 e5 e6
      exact take_same HTK.out HTU.out.1 HTU.out.2)
     have HW1:=Lib.hid (below_two' HW.out hbx)
     have HLT:=Lib.hid hlt
     have hl3:=i3.len.2
     clear p0 p1 p2 p3 p4 p5 g0 g1 g2 g3 g4 g5 hb1 hb2 hp hq hbx i3 i4 i5 j3 j4 j5 hx HTU HTK
     by_cases e1:nm = nm'
     case neg =>
      have HE:=Lib.hid (HNO.out (fun h => e1 h.1))
      have ge:=bne_bytes e1
      go_wp2_with fail
      go_ret
      exact ⟨ret_bool HE.out.symm,HW1.out⟩
     subst e1
     by_cases e2:kind = kind'
     case neg =>
      have HE:=Lib.hid (HNO.out (fun h => e2 h.2.1))
      have ge:(kind == kind') = false:=by simpa using e2
      go_wp2_with fail
      go_ret
      exact ⟨ret_bool HE.out.symm,HW1.out⟩
     subst e2
     by_cases e3:par = par'
     case neg =>
      have HE:=Lib.hid (HNO.out (fun h => e3 h.2.2.1))
      have ge:(par == par') = false:=by simpa using e3
      go_wp2_with fail
      go_ret
      exact ⟨ret_bool HE.out.symm,HW1.out⟩
     subst e3
     go_wp2_with (go_at_call 60; (with_reducible refine (HC1.out _ (Below.refl _ _)).mono ?_))
     rintro e w1 ⟨rfl,hb1'⟩
     have HB1:=Lib.hid hb1'
     rcases qe with _ | _
     ·have HE:=Lib.hid (HNO.out (fun h => by have:=hqe.2 h.2.2.2.1; cases this))
      clear hb1'
      go_wp2_with fail
      go_ret
      exact ⟨ret_bool HE.out.symm,below_two' HW1.out HB1.out⟩
     clear x0 x1 x2 x3 x4 x5 y0 y1 y2 y3 y4 y5
     obtain ⟨⟨x0,x1,x2,x3,x4,x5⟩,y0,y1,y2,y3,y4,y5⟩:=HP.out _ hb1'
     clear hb1'
     go_wp2_with (go_at_call 60; (with_reducible refine (HC2.out _ HB1.out).mono ?_))
     rintro e w2 ⟨rfl,hb2'⟩
     have HB2:=Lib.hid (below_two' HB1.out hb2')
     clear hb2'
     rcases qx with _ | _
     ·have HE:=Lib.hid (HNO.out (fun h => by have:=hqx.2 h.2.2.2.2.1; cases this))
      go_wp2_with fail
      go_ret
      exact ⟨ret_bool HE.out.symm,below_two' HW1.out HB2.out⟩
     clear x0 x1 x2 x3 x4 x5 y0 y1 y2 y3 y4 y5
     obtain ⟨⟨x0,x1,x2,x3,x4,x5⟩,y0,y1,y2,y3,y4,y5⟩:=HP.out _ HB2.out
     clear x0 x1 x2 x3 x4 y0 y1 y2 y3 y4 HP HC1 HC2
     have hone:∀ f:Field,([f]:List Field)[0]? = some f:=fun _ => rfl
     go_wp2_with (go_at_call 61; (with_reducible refine (HC3.out _ HB2.out).mono ?_))
     rintro e w3 ⟨rfl,hb3'⟩
     have HB3:=Lib.hid (below_two' HW1.out (below_two' HB2.out hb3'))
     clear hb3'
     rcases qt with _ | _
     ·have HE:=Lib.hid (HNO.out (fun h => by have:=hqt.2 h.2.2.2.2.2; cases this))
      go_wp2_with fail
      go_ret
      exact ⟨ret_bool HE.out.symm,HB3.out⟩
     have HX:=Lib.hid (HYES.out ⟨(by first | rfl | trivial),(by first | rfl | trivial),(by first | rfl | trivial),hqe.1 (by first | rfl | trivial),hqx.1 (by first | rfl | trivial),hqt.1 (by first | rfl | trivial)⟩)
     go_wp2_with fail
     go_roundw
     case rel => exact ⟨k + 1,HLT.out,by go_num,HX.out,HB3.out⟩
     case measure => have:=HLT.out; simp [intOf]; omega
   ·obtain rfl:k = n1:=by omega
    have HE:Hid (b = true):=Lib.hid (HBB.out.2 (by rwa [List.take_of_length_le (by rw [← HN.out]; exact Nat.le_refl _),List.take_of_length_le (by rw [← HM.out]; exact Nat.le_refl _)] at htk))
    have HW:=Lib.hid hbw
    clear htk hbw
    go_wp2_with fail
    go_ret
    exact ⟨ret_bool HE.out.symm,HW.out⟩
 ·have g:((n1:Int) != (n2:Int)) = true:=by simp; omega
  have HE:Hid (b = false):=Lib.hid (by
   cases b with
   | false => rfl
   | true => have:=hb.1 rfl; subst this; omega)
  clear h1 h2 hb hn1 hn2 hfew
  go_enter Tryz.func34,Tryz.ntmps34
  go_wp2_with fail
  go_ret
  exact ⟨ret_bool HE.out.symm,Below.refl _ _⟩
end Go.Proofs.YtapnomdckglehaaGreat