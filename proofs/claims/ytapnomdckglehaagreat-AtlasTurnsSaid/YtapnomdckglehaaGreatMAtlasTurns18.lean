/- ShapeRefMay, ActRefCheck, TransRefCheck, PrintMay, ActCheck, TransCheck, PrintMayP, joined. -/
import Derived.Test.YtapnomdckglehaaGreatMAtlasTurns17
import Derived.Test.YtapnomdckglehaaGreatMAtlasTurns05
import Derived.Test.YtapnomdckglehaaGreatMAtlasTurns03
import Derived.Test.YtapnomdckglehaaGreatMAtlasTurns09
namespace Go.Proofs.YtapnomdckglehaaGreat
open Go.RowKit ShapeSpec
set_option maxRecDepth 100000
end Go.Proofs.YtapnomdckglehaaGreat
namespace Go.Proofs.YtapnomdckglehaaGreat
open Go.RowKit TermSpec EvalSpec ActSpec NamesSpec
set_option maxRecDepth 100000
end Go.Proofs.YtapnomdckglehaaGreat
namespace Go.Proofs.YtapnomdckglehaaGreat
open Go.RowKit TermSpec EvalSpec ActSpec NamesSpec ExprSpec TransSpec
set_option maxRecDepth 100000
end Go.Proofs.YtapnomdckglehaaGreat
namespace Go.Proofs.YtapnomdckglehaaGreat
open Go.RowKit Go.Sort CurSpec TermSpec EvalSpec ActSpec NamesSpec ExprSpec TransSpec SynSpec PrintSpec
set_option maxRecDepth 100000
structure FitM (x:Cx):Prop where
 s:x.s.size ≤ 9223372036854775807
 evs:∀ e ∈ x.evs,e.size ≤ 9223372036854775807
 vars:∀ v ∈ x.vars,v.s.size ≤ 9223372036854775807
 stl:x.sts.length ≤ 100000
 sts:∀ s ∈ x.sts,s.s.size ≤ 9223372036854775807 ∧ (∀ a ∈ s.en,SmallA a) ∧ s.en.length ≤ 100000 ∧ (∀ a ∈ s.ex,SmallA a) ∧ s.ex.length ≤ 100000 ∧ s.tr.length ≤ 100000 ∧ ∀ t ∈ s.tr,SmallT t
end Go.Proofs.YtapnomdckglehaaGreat
namespace Go.Proofs.YtapnomdckglehaaGreat
open Go.RowKit TermSpec EvalSpec ActSpec NamesSpec
set_option maxRecDepth 100000
set_option maxHeartbeats 1000000 in
theorem may_act (a:Ac) (A:Option Addr) (n c:Nat) (hs:SmallA a) (w:World) (h:Tms w (.slice A n c) a.x) :
 Calls Tryz.prog 172 #[.agg #[.string a.s,.bool a.any,.slice A n c]] w (RetI w (oneA a)):=by
 obtain ⟨A',n',c',heq,hn,hnc⟩:=h.shape
 cases heq
 have HIS:=Lib.hid (fun w => is_any a.s w hs.1)
 have HC:=Lib.hid (fun w h => check_any A n c a.x hn (by have:=hs.2.2; omega) hs.2.1 w h)
 have HT:=Lib.hid h
 obtain ⟨q,hq⟩:∃ q,q = isName a.s.data.toList:=⟨_,rfl⟩
 rw [← hq] at HIS
 obtain ⟨r,hr⟩:∃ r,r = oneA a:=⟨_,rfl⟩
 rw [← hr]
 rcases hb:q with _ | _
 ·rw [hb] at HIS hq
  have HR:=Lib.hid (hr.trans (oneA_name hq.symm))
  obtain ⟨s,any,x⟩:=a
  simp only at HIS HC HT hn ⊢
  clear hs h hq hr hb hn
  go_enter Tryz.func172,Tryz.ntmps172
  go_wp2_with (go_at_call 117; (with_reducible refine (HIS.out _).mono ?_))
  rintro e2 w2 ⟨rfl,hb2⟩
  obtain ⟨B2,hbb,_⟩:=KitC.one_block hb2
  have HB2:=Lib.hid hbb
  obtain ⟨c0,c1,c2⟩:=cells_3 B2
  clear hb2 hbb B2
  go_wp2_with fail
  go_ret
  exact ⟨ret_int HR.out.symm,HB2.out⟩
 ·rw [hb] at HIS hq
  rcases ha:a.any with _ | _
  ·have HR:=Lib.hid (hr.trans (oneA_expr hq.symm ha))
   obtain ⟨s,any,x⟩:=a
   simp only at HIS HC HT HR hn ha ⊢
   subst ha
   obtain ⟨m,hm⟩:∃ m,m = chk x:=⟨_,rfl⟩
   rw [← hm] at HR HC
   clear hs h hq hr hb hn hm
   go_enter Tryz.func172,Tryz.ntmps172
   go_wp2_with (go_at_call 117; (with_reducible refine (HIS.out _).mono ?_))
   rintro e2 w2 ⟨rfl,hb2⟩
   obtain ⟨B2,hbb,_⟩:=KitC.one_block hb2
   have HB2:=Lib.hid hbb
   obtain ⟨c0,c1,c2⟩:=cells_3 B2
   clear hb2 hbb B2
   go_wp2_with (go_at_call 178; (with_reducible refine (HC.out _ (HT.out.keep HB2.out)).mono ?_))
   rintro e2 w3 ⟨rfl,hb3⟩
   have HB3:=Lib.hid (below_two' HB2.out hb3)
   clear hb3
   go_wp2_with fail
   go_ret
   exact ⟨ret_int HR.out.symm,HB3.out⟩
  ·have HR0:=Lib.hid (hr.trans (oneA_any hq.symm ha))
   rw [← hn] at HR0
   obtain ⟨s,any,x⟩:=a
   simp only at HIS HC HT hn ha ⊢
   subst ha
   by_cases h0:n = 0
   ·have HR:Hid (r = 0):=Lib.hid (by rw [HR0.out,if_pos h0])
    have g:decide (0 < n) = false:=by simp; omega
    have g2:decide (0 < (n:Int)) = false:=by simp; omega
    clear hs h hq hr hb hn h0 HR0
    go_enter Tryz.func172,Tryz.ntmps172
    go_wp2_with (go_at_call 117; (with_reducible refine (HIS.out _).mono ?_))
    rintro e2 w2 ⟨rfl,hb2⟩
    obtain ⟨B2,hbb,_⟩:=KitC.one_block hb2
    have HB2:=Lib.hid hbb
    obtain ⟨c0,c1,c2⟩:=cells_3 B2
    clear hb2 hbb B2
    go_wp2_with fail
    go_ret
    exact ⟨ret_int HR.out.symm,HB2.out⟩
   ·have HR:Hid (r = 1):=Lib.hid (by rw [HR0.out,if_neg h0])
    have g:decide (0 < n) = true:=by simp; omega
    have g2:decide (0 < (n:Int)) = true:=by simp; omega
    clear hs h hq hr hb hn h0 HR0
    go_enter Tryz.func172,Tryz.ntmps172
    go_wp2_with (go_at_call 117; (with_reducible refine (HIS.out _).mono ?_))
    rintro e2 w2 ⟨rfl,hb2⟩
    obtain ⟨B2,hbb,_⟩:=KitC.one_block hb2
    have HB2:=Lib.hid hbb
    obtain ⟨c0,c1,c2⟩:=cells_3 B2
    clear hb2 hbb B2
    go_wp2_with fail
    go_ret
    exact ⟨ret_int HR.out.symm,HB2.out⟩
def PChkRel (W:World) (l:List Ac) (n:Nat) (i:Value) (wr:World):Prop:=∃ k:Nat,k ≤ n ∧ i = .int .i64 k ∧ firstA (l.take k) = 0 ∧ Below W.heap.size W wr
abbrev acO (a:Ac) (xA:Option Addr) (xn xc:Nat):Obj:=.cells #[.string a.s,.bool a.any,.slice xA xn xc] 92
set_option maxHeartbeats 1000000 in
theorem check_acts (A:Option Addr) (n c:Nat) (l:List Ac) (hs:∀ a ∈ l,SmallA a) (hl:l.length ≤ 9223372036854775807) (w:World) (h:Acs w (.slice A n c) l) :
 Calls Tryz.prog 151 #[.slice A n c] w (RetI w (chkA l)):=by
 have hn:=h.len.1
 have hcap:=h.len.2
 have HN:=Lib.hid hn
 have HT:=Lib.hid h
 have HS:=Lib.hid hs
 obtain ⟨r,hr⟩:∃ r,r = chkA l:=⟨_,rfl⟩
 rw [← hr]
 by_cases h8:8 < n
 ·have HR:Hid (r = 8):=Lib.hid (by rw [hr]; unfold chkA; rw [if_pos (by omega)])
  have g:decide (8 < n) = true:=by simp; omega
  have h8':8 < (n:Int):=by omega
  clear hn h hs hr hl
  go_enter Tryz.func151,Tryz.ntmps151
  go_wp2_with fail
  go_ret
  exact ⟨ret_int HR.out.symm,Below.refl _ _⟩
 ·have HR:Hid (r = firstA l):=Lib.hid (by rw [hr]; unfold chkA; rw [if_neg (by omega)])
  have h8':¬ 8 < (n:Int):=by omega
  clear hn h hs hr hl
  go_enter Tryz.func151,Tryz.ntmps151
  go_wp2_with fail
  go_loopw [11] (fun i wr => PChkRel w l n i wr) (fun i _ => n - (intOf i).toNat)
  case atStart => exact ⟨0,Nat.zero_le _,rfl,rfl,Below.refl _ _⟩
  case round =>
   obtain ⟨k,hk,rfl,hall,hbw⟩:=hrel
   have HA:=Lib.hid hall
   have HB:=Lib.hid hbw
   clear hall hbw
   by_cases hlt:k < n
   ·obtain ⟨a,ha⟩:∃ a,l[k]? = some a:=get_some (by rw [← HN.out]; exact hlt)
    obtain ⟨b,off,xA,xn,xc,rfl,hb,htm,c0,c1,c2⟩:=(HT.out.keep HB.out).at_ ha
    have HC:Hid (Calls Tryz.prog 172 #[.agg #[.string a.s,.bool a.any,.slice xA xn xc]] (wr.alloc (acO a xA xn xc)) (RetI (wr.alloc (acO a xA xn xc)) (oneA a))):=Lib.hid (may_act a xA xn xc (HS.out a (List.mem_of_getElem? ha)) _ (htm.keep (KitC.below_one _ _)))
    have HNX:=Lib.hid (fun h1 => firstA_next ha HA.out h1)
    have HST:=Lib.hid (fun h1 => firstA_stop ha HA.out h1)
    obtain ⟨q,hq⟩:∃ q,q = oneA a:=⟨_,rfl⟩
    rw [← hq] at HC HNX HST
    have hkI:(k:Int) < n:=by omega
    clear ha hq htm
    obtain ⟨s,any,x⟩:=a
    simp only at c0 c1 c2 HC
    by_cases hq0:q = 0
    ·have HNX':=Lib.hid (HNX.out hq0)
     have g:(q != 0) = false:=by simp [hq0]
     clear HNX HST hq0
     go_wp2_with (go_at_call 172; (with_reducible refine HC.out.mono ?_))
     rintro e2 w2 ⟨rfl,hb2⟩
     have HB2:=Lib.hid (below_two' HB.out (below_two' (KitC.below_one _ _) hb2))
     clear hb2
     go_wp2_with fail
     go_roundw
     case rel => exact ⟨k + 1,by omega,by go_num,HNX'.out,HB2.out⟩
     case measure => simp [intOf]; omega
    ·have HST':=Lib.hid (HST.out hq0)
     have g:(q != 0) = true:=by simp [hq0]
     clear HNX HST hq0
     go_wp2_with (go_at_call 172; (with_reducible refine HC.out.mono ?_))
     rintro e2 w2 ⟨rfl,hb2⟩
     have HB2:=Lib.hid (below_two' HB.out (below_two' (KitC.below_one _ _) hb2))
     clear hb2
     go_wp2_with fail
     go_ret
     exact ⟨ret_int (by rw [HR.out,HST'.out]),HB2.out⟩
   ·have HE:Hid (firstA l = 0):=Lib.hid (by
     have h1:=HN.out
     have h2:=HA.out
     rwa [List.take_of_length_le (by omega)] at h2)
    go_wp2_with fail
    go_ret
    exact ⟨ret_int (by rw [HR.out,HE.out]),HB.out⟩
end Go.Proofs.YtapnomdckglehaaGreat
namespace Go.Proofs.YtapnomdckglehaaGreat
open Go.RowKit TermSpec EvalSpec ActSpec NamesSpec ExprSpec TransSpec
set_option maxRecDepth 100000
set_option maxHeartbeats 1000000 in
theorem tmay_any (s:ByteArray) (w:World) (hs:s.size ≤ 9223372036854775807):Calls Tryz.prog 179 #[.string s] w (RetB w (okN s)):=by
 rcases Nat.eq_zero_or_pos s.size with h0 | h0
 ·have HE:=Lib.hid (okN_nil h0)
  have hnil:=str_nil' h0
  clear h0 hs
  go_enter Tryz.func179,Tryz.ntmps179
  go_wp2_with fail
  go_ret
  exact ⟨ret_bool HE.out.symm,Below.refl _ _⟩
 ·have hne:=str_ne' h0
  have HE:=Lib.hid (okN_pos h0)
  have HI:=Lib.hid (is_any s w hs)
  clear h0 hs
  go_enter Tryz.func179,Tryz.ntmps179
  go_wp2_with (go_at_call 117; (with_reducible refine HI.out.mono ?_))
  rintro e w2 ⟨rfl,hb⟩
  have HB:=Lib.hid hb
  clear hb
  go_wp2_with fail
  go_ret
  exact ⟨ret_bool HE.out.symm,HB.out⟩
set_option maxHeartbeats 4000000 in
theorem tcheck_any (t:Tr) (gA:Option Addr) (gn gc:Nat) (aA:Option Addr) (an ac:Nat) (w:World) (hs:SmallT t) (h:TrIn w gA gn gc aA an ac t) :
 Calls Tryz.prog 173 #[.agg #[.string t.ev,.slice gA gn gc,.slice aA an ac,.string t.tg]] w (RetI w (chkT t)):=by
 have hgn:=h.len.1
 have hcap:=h.cap.1
 have H1:=Lib.hid (fun W => tmay_any t.ev W hs.ev)
 have H2:=Lib.hid (fun W => tmay_any t.tg W hs.tg)
 have H3:=Lib.hid (fun W (hW:Below w.heap.size w W) => check_any gA gn gc t.g hgn (by have:=hs.glen; omega) hs.g W (h.g.keep hW))
 have H4:=Lib.hid (fun W (hW:Below w.heap.size w W) => check_acts aA an ac t.acts hs.acts hs.alen W (h.a.keep hW))
 have HN:=Lib.hid (fun h' => chkT_name (t:=t) h')
 have HO:=Lib.hid (fun a b c => chkT_nog (t:=t) a b c)
 have HX:=Lib.hid (fun a b c d => chkT_bad (t:=t) a b c d)
 have HG:=Lib.hid (fun a b c => chkT_good (t:=t) a b c)
 have HL:=Lib.hid hgn
 have hn62:(gn:Int) ≤ 4398046511104:=by have:=hs.glen; omega
 obtain ⟨r,hr⟩:∃ r,r = chkT t:=⟨_,rfl⟩
 rw [← hr] at HN HO HX HG ⊢
 obtain ⟨b1,hb1⟩:∃ b,b = okN t.ev:=⟨_,rfl⟩
 obtain ⟨b2,hb2⟩:∃ b,b = okN t.tg:=⟨_,rfl⟩
 obtain ⟨k,hk⟩:∃ b,b = chk t.g:=⟨_,rfl⟩
 obtain ⟨m,hm⟩:∃ b,b = chkA t.acts:=⟨_,rfl⟩
 rw [← hb1] at H1 HN HO HX HG
 rw [← hb2] at H2 HN HO HX HG
 rw [← hk] at H3 HX HG
 rw [← hm] at H4 HO HG
 obtain ⟨ev,g,acts,tg⟩:=t
 simp only at H1 H2 H3 H4 HL HO HX HG ⊢
 clear hr hb1 hb2 hk hm hgn hs h
 rcases b1 with _ | _
 ·have HR:=Lib.hid (HN.out (.inl rfl))
  clear HN HO HX HG HL
  go_enter Tryz.func173,Tryz.ntmps173
  go_wp2_with (go_at_call 179; (with_reducible refine (H1.out _).mono ?_))
  rintro e w2 ⟨rfl,hb2⟩
  have HB2:=Lib.hid (below_two' (KitC.below_one _ _) hb2)
  clear hb2
  go_wp2_with fail
  go_ret
  exact ⟨ret_int HR.out.symm,HB2.out⟩
 ·rcases b2 with _ | _
  ·have HR:=Lib.hid (HN.out (.inr rfl))
   clear HN HO HX HG HL
   go_enter Tryz.func173,Tryz.ntmps173
   go_wp2_with (go_at_call 179; (with_reducible refine (H1.out _).mono ?_))
   rintro e w2 ⟨rfl,hb2⟩
   have HB2:=Lib.hid (KitC.one_block hb2)
   obtain ⟨c0,c1,c2,c3⟩:=cells_4 HB2.out.1
   clear hb2
   go_wp2_with (go_at_call 179; (with_reducible refine (H2.out _).mono ?_))
   rintro e w3 ⟨rfl,hb3⟩
   have HB3:=Lib.hid (below_two' HB2.out.2.1 hb3)
   clear hb3
   go_wp2_with fail
   go_ret
   exact ⟨ret_int HR.out.symm,HB3.out⟩
  ·by_cases h0:gn = 0
   ·have HR:=Lib.hid (HO.out rfl rfl (by rw [← HL.out,h0]))
    subst h0
    clear HN HO HX HG HL
    go_enter Tryz.func173,Tryz.ntmps173
    go_wp2_with (go_at_call 179; (with_reducible refine (H1.out _).mono ?_))
    rintro e w2 ⟨rfl,hb2⟩
    have HB2:=Lib.hid (KitC.one_block hb2)
    obtain ⟨c0,c1,c2,c3⟩:=cells_4 HB2.out.1
    clear hb2
    go_wp2_with (go_at_call 179; (with_reducible refine (H2.out _).mono ?_))
    rintro e w3 ⟨rfl,hb3⟩
    have HB3:=Lib.hid (And.intro (KitC.block_on HB2.out.1 hb3) (below_two' HB2.out.2.1 hb3))
    clear hb3 c0 c1 c2 c3
    obtain ⟨c0,c1,c2,c3⟩:=cells_4 HB3.out.1
    go_wp2_with (go_at_call 151; (with_reducible refine (H4.out _ HB3.out.2).mono ?_))
    rintro e w4 ⟨rfl,hb4⟩
    have HB4:=Lib.hid (below_two' HB3.out.2 hb4)
    clear hb4
    go_wp2_with fail
    go_ret
    exact ⟨ret_int HR.out.symm,HB4.out⟩
   ·have g0:decide (0 < gn) = true:=by simp; omega
    by_cases hk0:k = 0
    ·have HR:=Lib.hid (HG.out rfl rfl hk0)
     subst hk0
     clear HN HO HX HG HL h0
     go_enter Tryz.func173,Tryz.ntmps173
     go_wp2_with (go_at_call 179; (with_reducible refine (H1.out _).mono ?_))
     rintro e w2 ⟨rfl,hb2⟩
     have HB2:=Lib.hid (KitC.one_block hb2)
     obtain ⟨c0,c1,c2,c3⟩:=cells_4 HB2.out.1
     clear hb2
     go_wp2_with (go_at_call 179; (with_reducible refine (H2.out _).mono ?_))
     rintro e w3 ⟨rfl,hb3⟩
     have HB3:=Lib.hid (And.intro (KitC.block_on HB2.out.1 hb3) (below_two' HB2.out.2.1 hb3))
     clear hb3 c0 c1 c2 c3
     obtain ⟨c0,c1,c2,c3⟩:=cells_4 HB3.out.1
     go_wp2_with (go_at_call 178; (with_reducible refine (H3.out _ HB3.out.2).mono ?_))
     rintro e w4 ⟨rfl,hb4⟩
     have HB4:=Lib.hid (And.intro (KitC.block_on HB3.out.1 hb4) (below_two' HB3.out.2 hb4))
     clear hb4 c0 c1 c2 c3
     obtain ⟨c0,c1,c2,c3⟩:=cells_4 HB4.out.1
     go_wp2_with (go_at_call 151; (with_reducible refine (H4.out _ HB4.out.2).mono ?_))
     rintro e w5 ⟨rfl,hb5⟩
     have HB5:=Lib.hid (below_two' HB4.out.2 hb5)
     clear hb5
     go_wp2_with fail
     go_ret
     exact ⟨ret_int HR.out.symm,HB5.out⟩
    ·have HR:=Lib.hid (HX.out rfl rfl (by rw [← HL.out]; exact h0) hk0)
     have e1:(k != 0) = true:=by simpa using hk0
     clear HN HO HX HG HL h0 hk0
     go_enter Tryz.func173,Tryz.ntmps173
     go_wp2_with (go_at_call 179; (with_reducible refine (H1.out _).mono ?_))
     rintro e w2 ⟨rfl,hb2⟩
     have HB2:=Lib.hid (KitC.one_block hb2)
     obtain ⟨c0,c1,c2,c3⟩:=cells_4 HB2.out.1
     clear hb2
     go_wp2_with (go_at_call 179; (with_reducible refine (H2.out _).mono ?_))
     rintro e w3 ⟨rfl,hb3⟩
     have HB3:=Lib.hid (And.intro (KitC.block_on HB2.out.1 hb3) (below_two' HB2.out.2.1 hb3))
     clear hb3 c0 c1 c2 c3
     obtain ⟨c0,c1,c2,c3⟩:=cells_4 HB3.out.1
     go_wp2_with (go_at_call 178; (with_reducible refine (H3.out _ HB3.out.2).mono ?_))
     rintro e w4 ⟨rfl,hb4⟩
     have HB4:=Lib.hid (below_two' HB3.out.2 hb4)
     clear hb4
     go_wp2_with fail
     go_ret
     exact ⟨ret_int HR.out.symm,HB4.out⟩
end Go.Proofs.YtapnomdckglehaaGreat
namespace Go.Proofs.YtapnomdckglehaaGreat
open Go.RowKit Go.Sort CurSpec TermSpec EvalSpec ActSpec NamesSpec ExprSpec TransSpec SynSpec PrintSpec
set_option maxRecDepth 100000
theorem pis_say {s:ByteArray} (hs:s.size ≤ 9223372036854775807) {b:Bool} (hb:isName s.data.toList = b) (W:World):Calls Tryz.prog 117 #[.string s] W (RetB W b):=by
 subst hb
 exact is_any s W hs
theorem mayInt_any (n:Int) (w:World):Calls Tryz.prog 150 #[.int .i64 n] w (SameB w (smallV n)):=by
 by_cases h1:-1000 ≤ n
 ·by_cases h2:n ≤ 1000
  ·have HE:Hid (smallV n = true):=Lib.hid (by unfold smallV; rw [decide_eq_true h1,decide_eq_true h2]; rfl)
   have g1:decide (-1000 ≤ n) = true:=decide_eq_true h1
   have g2:decide (n ≤ 1000) = true:=decide_eq_true h2
   go_enter Tryz.func150,Tryz.ntmps150
   go_wp2_with fail
   go_ret
   exact ⟨ret_bool HE.out.symm,rfl⟩
  ·have HE:Hid (smallV n = false):=Lib.hid (by unfold smallV; rw [decide_eq_false h2,Bool.and_false])
   have g1:decide (-1000 ≤ n) = true:=decide_eq_true h1
   have g2:decide (n ≤ 1000) = false:=decide_eq_false h2
   go_enter Tryz.func150,Tryz.ntmps150
   go_wp2_with fail
   go_ret
   exact ⟨ret_bool HE.out.symm,rfl⟩
 ·have HE:Hid (smallV n = false):=Lib.hid (by unfold smallV; rw [decide_eq_false h1]; rfl)
  have g1:decide (-1000 ≤ n) = false:=decide_eq_false h1
  go_enter Tryz.func150,Tryz.ntmps150
  go_wp2_with fail
  go_ret
  exact ⟨ret_bool HE.out.symm,rfl⟩
theorem mayInt_say {n:Int} {b:Bool} (hb:smallV n = b) (W:World):Calls Tryz.prog 150 #[.int .i64 n] W (SameB W b):=by
 subst hb
 exact mayInt_any n W
set_option maxHeartbeats 2000000 in
theorem mayVar_any (v:Vr) (hs:v.s.size ≤ 9223372036854775807) (w:World):Calls Tryz.prog 120 #[.agg #[.string v.s,.int .i64 v.lo,.int .i64 v.hi,.int .i64 v.ini]] w (RetB w (okV v)):=by
 obtain ⟨nm,lo,hi,ini⟩:=v
 simp only at hs
 have HOV:Hid (okV ⟨nm,lo,hi,ini⟩ = (isName nm.data.toList && (smallV lo && (smallV hi && smallV ini)))):=Lib.hid rfl
 obtain ⟨OV,hOV⟩:∃ OV:Obj,OV = .cells #[.string nm,.int .i64 lo,.int .i64 hi,.int .i64 ini] 68:=⟨_,rfl⟩
 have hkv:=heap_alloc_new w OV
 have HKV:=Lib.hid (fun W (hW:Below (w.alloc OV).heap.size (w.alloc OV) W) => cells_4 (KitC.block_on (by rw [← hOV]; exact hkv) hW))
 rw [hOV] at HKV
 have c0:(w.alloc (.cells #[.string nm,.int .i64 lo,.int .i64 hi,.int .i64 ini] 68)).cell? ⟨w.heap.size,0,none⟩ = some (.string nm):=(HKV.out _ (Below.refl _ _)).1
 rw [HOV.out]
 clear hkv hOV OV HOV
 obtain ⟨r,hr⟩:∃ r,r = (isName nm.data.toList && (smallV lo && (smallV hi && smallV ini))):=⟨_,rfl⟩
 rw [← hr]
 rcases h0:isName nm.data.toList with _ | _
 ·have HR:Hid (r = false):=Lib.hid (by rw [hr,h0]; rfl)
  have HN:=Lib.hid (fun W => pis_say hs h0 W)
  clear hr h0 hs
  go_enter Tryz.func120,Tryz.ntmps120
  go_wp2_with (go_at_call 117; (with_reducible refine (HN.out _).mono ?_))
  rintro e w2 ⟨rfl,hb2⟩
  have HB2:=Lib.hid (below_two' (KitC.below_one _ _) hb2)
  clear c0
  obtain ⟨c0,c1,c2,c3⟩:=HKV.out _ hb2
  clear hb2
  go_wp2_with fail
  go_ret
  exact ⟨ret_bool HR.out.symm,HB2.out⟩
 ·rcases h1:smallV lo with _ | _
  ·have HR:Hid (r = false):=Lib.hid (by rw [hr,h0,h1]; rfl)
   have HN:=Lib.hid (fun W => pis_say hs h0 W)
   have H1:=Lib.hid (fun W => mayInt_say h1 W)
   clear hr h0 h1 hs
   go_enter Tryz.func120,Tryz.ntmps120
   go_wp2_with (go_at_call 117; (with_reducible refine (HN.out _).mono ?_))
   rintro e w2 ⟨rfl,hb2⟩
   have HB2:=Lib.hid (below_two' (KitC.below_one _ _) hb2)
   clear c0
   obtain ⟨c0,c1,c2,c3⟩:=HKV.out _ hb2
   clear hb2
   go_wp2_with (go_at_call 150; (with_reducible refine (H1.out _).mono ?_))
   rintro e w' ⟨rfl,rfl⟩
   go_wp2_with fail
   go_ret
   exact ⟨ret_bool HR.out.symm,HB2.out⟩
  ·rcases h2:smallV hi with _ | _
   ·have HR:Hid (r = false):=Lib.hid (by rw [hr,h0,h1,h2]; rfl)
    have HN:=Lib.hid (fun W => pis_say hs h0 W)
    have H1:=Lib.hid (fun W => mayInt_say h1 W)
    have H2:=Lib.hid (fun W => mayInt_say h2 W)
    clear hr h0 h1 h2 hs
    go_enter Tryz.func120,Tryz.ntmps120
    go_wp2_with (go_at_call 117; (with_reducible refine (HN.out _).mono ?_))
    rintro e w2 ⟨rfl,hb2⟩
    have HB2:=Lib.hid (below_two' (KitC.below_one _ _) hb2)
    clear c0
    obtain ⟨c0,c1,c2,c3⟩:=HKV.out _ hb2
    clear hb2
    go_wp2_with (go_at_call 150; (with_reducible refine (H1.out _).mono ?_))
    rintro e w' ⟨rfl,rfl⟩
    go_wp2_with (go_at_call 150; (with_reducible refine (H2.out _).mono ?_))
    rintro e w' ⟨rfl,rfl⟩
    go_wp2_with fail
    go_ret
    exact ⟨ret_bool HR.out.symm,HB2.out⟩
   ·rcases h3:smallV ini with _ | _
    ·have HR:Hid (r = false):=Lib.hid (by rw [hr,h0,h1,h2,h3]; rfl)
     have HN:=Lib.hid (fun W => pis_say hs h0 W)
     have H1:=Lib.hid (fun W => mayInt_say h1 W)
     have H2:=Lib.hid (fun W => mayInt_say h2 W)
     have H3:=Lib.hid (fun W => mayInt_say h3 W)
     clear hr h0 h1 h2 h3 hs
     go_enter Tryz.func120,Tryz.ntmps120
     go_wp2_with (go_at_call 117; (with_reducible refine (HN.out _).mono ?_))
     rintro e w2 ⟨rfl,hb2⟩
     have HB2:=Lib.hid (below_two' (KitC.below_one _ _) hb2)
     clear c0
     obtain ⟨c0,c1,c2,c3⟩:=HKV.out _ hb2
     clear hb2
     go_wp2_with (go_at_call 150; (with_reducible refine (H1.out _).mono ?_))
     rintro e w' ⟨rfl,rfl⟩
     go_wp2_with (go_at_call 150; (with_reducible refine (H2.out _).mono ?_))
     rintro e w' ⟨rfl,rfl⟩
     go_wp2_with (go_at_call 150; (with_reducible refine (H3.out _).mono ?_))
     rintro e w' ⟨rfl,rfl⟩
     go_wp2_with fail
     go_ret
     exact ⟨ret_bool HR.out.symm,HB2.out⟩
    ·have HR:Hid (r = true):=Lib.hid (by rw [hr,h0,h1,h2,h3]; rfl)
     have HN:=Lib.hid (fun W => pis_say hs h0 W)
     have H1:=Lib.hid (fun W => mayInt_say h1 W)
     have H2:=Lib.hid (fun W => mayInt_say h2 W)
     have H3:=Lib.hid (fun W => mayInt_say h3 W)
     clear hr h0 h1 h2 h3 hs
     go_enter Tryz.func120,Tryz.ntmps120
     go_wp2_with (go_at_call 117; (with_reducible refine (HN.out _).mono ?_))
     rintro e w2 ⟨rfl,hb2⟩
     have HB2:=Lib.hid (below_two' (KitC.below_one _ _) hb2)
     clear c0
     obtain ⟨c0,c1,c2,c3⟩:=HKV.out _ hb2
     clear hb2
     go_wp2_with (go_at_call 150; (with_reducible refine (H1.out _).mono ?_))
     rintro e w' ⟨rfl,rfl⟩
     go_wp2_with (go_at_call 150; (with_reducible refine (H2.out _).mono ?_))
     rintro e w' ⟨rfl,rfl⟩
     go_wp2_with (go_at_call 150; (with_reducible refine (H3.out _).mono ?_))
     rintro e w' ⟨rfl,rfl⟩
     go_wp2_with fail
     go_ret
     exact ⟨ret_bool HR.out.symm,HB2.out⟩
def AllStrRel (W:World) (l:List ByteArray) (n:Nat) (i:Value) (wr:World):Prop:=∃ k:Nat,k ≤ n ∧ i = .int .i64 k ∧ (l.take k).all (fun e:ByteArray => isName e.data.toList) = true ∧ Below W.heap.size W wr
set_option maxHeartbeats 2000000 in
theorem allStr_any (A:Option Addr) (n c:Nat) (l:List ByteArray) (w:World) (h:Rd w (.slice A n c) (strV l)) (hf:∀ x ∈ l,x.size ≤ 9223372036854775807) (hm:n ≤ 9223372036854775807) :
 Calls Tryz.prog 118 #[.slice A n c,.func (.func 117) #[] #[]] w (RetB w (l.all (fun e:ByteArray => isName e.data.toList))):=by
 have HT:=Lib.hid h
 have hn:n = l.length:=by obtain ⟨_,_,_,heq,hn,_⟩:=h.strs; cases heq; exact hn.symm
 have HN:=Lib.hid hn
 have HF:=Lib.hid hf
 obtain ⟨r,hr⟩:∃ r,r = l.all (fun e:ByteArray => isName e.data.toList):=⟨_,rfl⟩
 rw [← hr]
 have HR:=Lib.hid hr
 clear h hn hf hr
 go_enter Tryz.func118,Tryz.ntmps118
 go_wp2_with fail
 go_loopw [6,9] (fun _ i wr => AllStrRel w l n i wr) (fun _ i _ => n - (intOf i).toNat)
 case atStart => exact ⟨0,Nat.zero_le _,rfl,rfl,Below.refl _ _⟩
 case round =>
  obtain ⟨k,hk,rfl,hall,hbw⟩:=hrel
  have HA:=Lib.hid hall
  have HB:=Lib.hid hbw
  clear hall hbw
  by_cases hlt:k < n
  ·obtain ⟨x,hx⟩:∃ x,l[k]? = some x:=get_some (by rw [← HN.out]; exact hlt)
   obtain ⟨A',n',c',heq,-,hnc,hcl⟩:=(HT.out.keep HB.out).strs
   cases heq
   obtain ⟨b,off,rfl,hb,hcell⟩:=hcl (by omega)
   have hck:=hcell k x hx
   have HBAD:=Lib.hid (fun h1 => (show r = false by rw [HR.out]; exact all_bad (f:=fun e:ByteArray => isName e.data.toList) hx h1))
   have HAT:=Lib.hid (fun h1 => all_take (f:=fun e:ByteArray => isName e.data.toList) hx HA.out h1)
   have HX:=Lib.hid (HF.out x (List.mem_of_getElem? hx))
   have HC:=Lib.hid (fun W => pis_say HX.out rfl W)
   obtain ⟨q,hq⟩:∃ q,q = (isName x.data.toList):=⟨_,rfl⟩
   have HC2:Hid (∀ W,Calls Tryz.prog 117 #[.string x] W (RetB W q)):=Lib.hid (by rw [hq]; exact HC.out)
   rw [← hq] at HBAD HAT
   clear hcell hcl
   clear hx hq HC
   rcases q with _ | _
   ·have HE:=Lib.hid (HBAD.out rfl)
    go_wp2_with (go_at_call 117; (with_reducible refine (HC2.out _).mono ?_))
    rintro e w4 ⟨rfl,hb4⟩
    have HB4:=Lib.hid (below_two' HB.out hb4)
    clear hb4
    go_wp2_with fail
    go_ret
    exact ⟨ret_bool HE.out.symm,HB4.out⟩
   ·have HE:=Lib.hid (HAT.out rfl)
    go_wp2_with (go_at_call 117; (with_reducible refine (HC2.out _).mono ?_))
    rintro e w4 ⟨rfl,hb4⟩
    have HB4:=Lib.hid (below_two' HB.out hb4)
    clear hb4
    go_wp2_with fail
    go_roundw
    case rel => exact ⟨k + 1,by omega,by go_num,HE.out,HB4.out⟩
    case measure => simp [intOf]; omega
  ·have HE:Hid (r = true):=Lib.hid (by
    have:=HA.out
    rw [List.take_of_length_le (by rw [← HN.out]; omega)] at this
    rw [HR.out,this])
   go_wp2_with fail
   go_ret
   exact ⟨ret_bool HE.out.symm,HB.out⟩
def AllVarRel (W:World) (l:List Vr) (n:Nat) (i:Value) (wr:World):Prop:=∃ k:Nat,k ≤ n ∧ i = .int .i64 k ∧ (l.take k).all (okV) = true ∧ Below W.heap.size W wr
set_option maxHeartbeats 2000000 in
theorem allVar_any (A:Option Addr) (n c:Nat) (l:List Vr) (w:World) (h:RdV w (.slice A n c) l) (hf:∀ x ∈ l,x.s.size ≤ 9223372036854775807) (hm:n ≤ 9223372036854775807) :
 Calls Tryz.prog 119 #[.slice A n c,.func (.func 120) #[] #[]] w (RetB w (l.all (okV))):=by
 have HT:=Lib.hid h
 have hn:=(RdV.len h).1
 have hnc:=(RdV.len h).2
 have HN:=Lib.hid hn
 have HF:=Lib.hid hf
 obtain ⟨r,hr⟩:∃ r,r = l.all (okV):=⟨_,rfl⟩
 rw [← hr]
 have HR:=Lib.hid hr
 clear h hn hf hr
 go_enter Tryz.func119,Tryz.ntmps119
 go_wp2_with fail
 go_loopw [6,9] (fun _ i wr => AllVarRel w l n i wr) (fun _ i _ => n - (intOf i).toNat)
 case atStart => exact ⟨0,Nat.zero_le _,rfl,rfl,Below.refl _ _⟩
 case round =>
  obtain ⟨k,hk,rfl,hall,hbw⟩:=hrel
  have HA:=Lib.hid hall
  have HB:=Lib.hid hbw
  clear hall hbw
  by_cases hlt:k < n
  ·obtain ⟨x,hx⟩:∃ x,l[k]? = some x:=get_some (by rw [← HN.out]; exact hlt)
   obtain ⟨b,off,rfl,hb,d0,d1,d2,d3⟩:=(RdV.vars (Rdk.keep HT.out HB.out)).at_ hx
   have HBAD:=Lib.hid (fun h1 => (show r = false by rw [HR.out]; exact all_bad (f:=okV) hx h1))
   have HAT:=Lib.hid (fun h1 => all_take (f:=okV) hx HA.out h1)
   have HX:=Lib.hid (HF.out x (List.mem_of_getElem? hx))
   have HC:=Lib.hid (fun W => mayVar_any x HX.out W)
   obtain ⟨q,hq⟩:∃ q,q = (okV x):=⟨_,rfl⟩
   have HC2:Hid (∀ W,Calls Tryz.prog 120 #[.agg #[.string x.s,.int .i64 x.lo,.int .i64 x.hi,.int .i64 x.ini]] W (RetB W q)):=Lib.hid (by rw [hq]; exact HC.out)
   rw [← hq] at HBAD HAT
   obtain ⟨nm,lo,hi,ini⟩:=x
   simp only at d0 d1 d2 d3 HC2
   clear hx hq HC
   rcases q with _ | _
   ·have HE:=Lib.hid (HBAD.out rfl)
    go_wp2_with (go_at_call 120; (with_reducible refine (HC2.out _).mono ?_))
    rintro e w4 ⟨rfl,hb4⟩
    have HB4:=Lib.hid (below_two' HB.out (below_two' (KitC.below_one _ _) hb4))
    clear hb4
    go_wp2_with fail
    go_ret
    exact ⟨ret_bool HE.out.symm,HB4.out⟩
   ·have HE:=Lib.hid (HAT.out rfl)
    go_wp2_with (go_at_call 120; (with_reducible refine (HC2.out _).mono ?_))
    rintro e w4 ⟨rfl,hb4⟩
    have HB4:=Lib.hid (below_two' HB.out (below_two' (KitC.below_one _ _) hb4))
    clear hb4
    go_wp2_with fail
    go_roundw
    case rel => exact ⟨k + 1,by omega,by go_num,HE.out,HB4.out⟩
    case measure => simp [intOf]; omega
  ·have HE:Hid (r = true):=Lib.hid (by
    have:=HA.out
    rw [List.take_of_length_le (by rw [← HN.out]; omega)] at this
    rw [HR.out,this])
   go_wp2_with fail
   go_ret
   exact ⟨ret_bool HE.out.symm,HB.out⟩
set_option maxHeartbeats 2000000 in
theorem mayTrans_any (t:Tr) (gA:Option Addr) (gn gc:Nat) (aA:Option Addr) (an ac:Nat) (w:World) (hs:SmallT t) (h:TrIn w gA gn gc aA an ac t) :
 Calls Tryz.prog 153 #[.agg #[.string t.ev,.slice gA gn gc,.slice aA an ac,.string t.tg]] w (RetB w (decide (chkT t = 0))):=by
 have HC:Hid (Calls Tryz.prog 173 #[.agg #[.string t.ev,.slice gA gn gc,.slice aA an ac,.string t.tg]] (w.alloc (.cells #[.string t.ev,.slice gA gn gc,.slice aA an ac,.string t.tg] 76)) (RetI (w.alloc (.cells #[.string t.ev,.slice gA gn gc,.slice aA an ac,.string t.tg] 76)) (chkT t))):=Lib.hid (tcheck_any t gA gn gc aA an ac _ hs (h.alloc _))
 obtain ⟨q,hq⟩:∃ q,q = chkT t:=⟨_,rfl⟩
 rw [← hq] at HC ⊢
 have HE:Hid ((q == 0) = decide (q = 0)):=Lib.hid (by by_cases h:q = 0 <;> simp [h])
 obtain ⟨ev,g,acts,tg⟩:=t
 simp only at HC
 clear hs h hq
 go_enter Tryz.func153,Tryz.ntmps153
 go_wp2_with (go_at_call 173; (with_reducible refine HC.out.mono ?_))
 rintro e w2 ⟨rfl,hb2⟩
 have HB2:=Lib.hid (below_two' (KitC.below_one _ _) hb2)
 clear hb2
 go_wp2_with fail
 go_ret
 exact ⟨ret_bool HE.out,HB2.out⟩
def AllTransRel (W:World) (l:List Tr) (n:Nat) (i:Value) (wr:World):Prop:=∃ k:Nat,k ≤ n ∧ i = .int .i64 k ∧ (l.take k).all (fun t:Tr => decide (chkT t = 0)) = true ∧ Below W.heap.size W wr
set_option maxHeartbeats 2000000 in
theorem allTrans_any (A:Option Addr) (n c:Nat) (l:List Tr) (w:World) (h:Trs w (.slice A n c) l) (hf:∀ x ∈ l,SmallT x) (hm:n ≤ 9223372036854775807) :
 Calls Tryz.prog 152 #[.slice A n c,.func (.func 153) #[] #[]] w (RetB w (l.all (fun t:Tr => decide (chkT t = 0)))):=by
 have HT:=Lib.hid h
 have hn:=h.len.1
 have hnc:=h.len.2
 have HN:=Lib.hid hn
 have HF:=Lib.hid hf
 obtain ⟨r,hr⟩:∃ r,r = l.all (fun t:Tr => decide (chkT t = 0)):=⟨_,rfl⟩
 rw [← hr]
 have HR:=Lib.hid hr
 clear h hn hf hr
 go_enter Tryz.func152,Tryz.ntmps152
 go_wp2_with fail
 go_loopw [6,9] (fun _ i wr => AllTransRel w l n i wr) (fun _ i _ => n - (intOf i).toNat)
 case atStart => exact ⟨0,Nat.zero_le _,rfl,rfl,Below.refl _ _⟩
 case round =>
  obtain ⟨k,hk,rfl,hall,hbw⟩:=hrel
  have HA:=Lib.hid hall
  have HB:=Lib.hid hbw
  clear hall hbw
  by_cases hlt:k < n
  ·obtain ⟨x,hx⟩:∃ x,l[k]? = some x:=get_some (by rw [← HN.out]; exact hlt)
   obtain ⟨b,off,gA,gn,gc,aA,an,ac,rfl,hb,d0,d1,d2,d3,htr⟩:=(HT.out.keep HB.out).at_ hx
   have HBAD:=Lib.hid (fun h1 => (show r = false by rw [HR.out]; exact all_bad (f:=fun t:Tr => decide (chkT t = 0)) hx h1))
   have HAT:=Lib.hid (fun h1 => all_take (f:=fun t:Tr => decide (chkT t = 0)) hx HA.out h1)
   have HX:=Lib.hid (HF.out x (List.mem_of_getElem? hx))
   have HC:=Lib.hid (fun W (hW:Below wr.heap.size wr W) => mayTrans_any x gA gn gc aA an ac W HX.out (htr.keep hW))
   obtain ⟨q,hq⟩:∃ q,q = (decide (chkT x = 0)):=⟨_,rfl⟩
   have HC2:Hid (∀ W,Below wr.heap.size wr W → Calls Tryz.prog 153 #[.agg #[.string x.ev,.slice gA gn gc,.slice aA an ac,.string x.tg]] W (RetB W q)):=Lib.hid (by rw [hq]; exact HC.out)
   rw [← hq] at HBAD HAT
   obtain ⟨ev,g,acts,tg⟩:=x
   simp only at d0 d1 d2 d3 HC2
   clear htr
   clear hx hq HC
   rcases q with _ | _
   ·have HE:=Lib.hid (HBAD.out rfl)
    go_wp2_with (go_at_call 153; (with_reducible refine (HC2.out _ (KitC.below_one _ _)).mono ?_))
    rintro e w4 ⟨rfl,hb4⟩
    have HB4:=Lib.hid (below_two' HB.out (below_two' (KitC.below_one _ _) hb4))
    clear hb4
    go_wp2_with fail
    go_ret
    exact ⟨ret_bool HE.out.symm,HB4.out⟩
   ·have HE:=Lib.hid (HAT.out rfl)
    go_wp2_with (go_at_call 153; (with_reducible refine (HC2.out _ (KitC.below_one _ _)).mono ?_))
    rintro e w4 ⟨rfl,hb4⟩
    have HB4:=Lib.hid (below_two' HB.out (below_two' (KitC.below_one _ _) hb4))
    clear hb4
    go_wp2_with fail
    go_roundw
    case rel => exact ⟨k + 1,by omega,by go_num,HE.out,HB4.out⟩
    case measure => simp [intOf]; omega
  ·have HE:Hid (r = true):=Lib.hid (by
    have:=HA.out
    rw [List.take_of_length_le (by rw [← HN.out]; omega)] at this
    rw [HR.out,this])
   go_wp2_with fail
   go_ret
   exact ⟨ret_bool HE.out.symm,HB.out⟩
end Go.Proofs.YtapnomdckglehaaGreat