/- TermSameG, ActSameG, TransEqual, TransSame, SynSame, joined. -/
import Derived.Test.YtjfghaohogcfbaaGreatDoorMFormatSame05
import Derived.Test.YtjfghaohogcfbaaGreatDoorMFormatSame16
import Derived.Lib.QuietBelow
import Derived.Test.YtjfghaohogcfbaaGreatDoorMFormatSame09
import Derived.Test.YtjfghaohogcfbaaGreatDoorMFormatSame07
import Derived.Test.YtjfghaohogcfbaaGreatDoorMFormatSame23
import Derived.BigQuiet
namespace Go.Proofs.YtjfghaohogcfbaaGreatDoor
open Go.RowKit TermSpec Go.BigFrame
set_option maxRecDepth 100000
def TmGRel (W:World) (l m:List Tm) (n:Nat) (v:Value) (w:World):Prop:=∃ k:Nat,k ≤ n ∧ v = .int .i64 k ∧ l.take k = m.take k ∧ Below W.heap.size W w
theorem tm_ne {t u:Tm} (h:t ≠ u):t.op ≠ u.op ∨ (t.op = u.op ∧ t.n ≠ u.n) ∨ (t.op = u.op ∧ t.n = u.n ∧ t.s ≠ u.s):=by
 obtain ⟨a,b,c⟩:=t
 obtain ⟨d,e,f⟩:=u
 simp only
 by_cases h1:a = d
 ·by_cases h2:b = e
  ·exact .inr (.inr ⟨h1,h2,fun h3 => h (by rw [h1,h2,h3])⟩)
  ·exact .inr (.inl ⟨h1,h2⟩)
 ·exact .inl h1
theorem list_ne {α:Type} {l m:List α} {k:Nat} {t u:α} (h1:l[k]? = some t) (h2:m[k]? = some u) (h:t ≠ u):l ≠ m:=fun e => h (by rw [e,h2] at h1; cases h1; rfl)
theorem take_same {α:Type} {l m:List α} {k:Nat} {t:α} (h:l.take k = m.take k) (h1:l[k]? = some t) (h2:m[k]? = some t):l.take (k + 1) = m.take (k + 1):=by rw [take_next h1,take_next h2,h]
theorem bne_bytes {x y:ByteArray} (h:x ≠ y):(x.toList == y.toList) = false:=(Lib.bytes_beq_false_iff x y).2 h
set_option maxHeartbeats 2000000 in
theorem tmsame_dec (A1 A2:Option Addr) (n1 n2 c1 c2:Nat) (l m:List Tm) (b:Bool) (hb:b = true ↔ l = m) (w:World) (h1:Tms w (.slice A1 n1 c1) l) (h2:Tms w (.slice A2 n2 c2) m) (hn1:n1 = l.length) (hn2:n2 = m.length) (hm:n1 ≤ 9223372036854775806) :
 Calls Tryz.prog 102 #[.slice A1 n1 c1,.slice A2 n2 c2] w (RetB w b):=by
 by_cases hnm:n1 = n2
 ·subst hnm
  have HT:=Lib.hid (And.intro h1 h2)
  have HN:=Lib.hid hn1
  have HM:=Lib.hid hn2
  have HBB:=Lib.hid hb
  clear h1 h2 hn1 hn2 hb
  go_enter Tryz.func102,Tryz.ntmps102
  go_wp2_with fail
  go_loopw [5] (fun v wr => TmGRel w l m n1 v wr) (fun v _ => n1 - (intOf v).toNat)
  case atStart => exact ⟨0,Nat.zero_le _,rfl,rfl,Below.refl _ _⟩
  case round =>
   obtain ⟨k,hk,rfl,htk,hbw⟩:=hrel
   by_cases hlt:k < n1
   ·obtain ⟨t,ht⟩:∃ t,l[k]? = some t:=get_some (by rw [← HN.out]; exact hlt)
    obtain ⟨u,hu⟩:∃ u,m[k]? = some u:=get_some (by rw [← HM.out]; exact hlt)
    obtain ⟨b1,off1,rfl,hb1,x0,x1,x2⟩:=(HT.out.1.keep hbw).at_ ht
    obtain ⟨b2,off2,rfl,hb2,y0,y1,y2⟩:=(HT.out.2.keep hbw).at_ hu
    have hltI:(k:Int) < (n1:Int):=by omega
    have HW:=Lib.hid hbw
    have HTK:=Lib.hid htk
    clear hbw htk
    by_cases htu:t = u
    ·subst htu
     have HNX:=Lib.hid (take_same HTK.out ht hu)
     obtain ⟨o,nn,s⟩:=t
     simp only at x0 x1 x2 y0 y1 y2
     clear ht hu
     go_wp2_with fail
     go_big_quiet (fail)
     go_wp2_with fail
     go_roundw
     case rel => exact ⟨k + 1,hlt,by simp,HNX.out,below_drewN HW.out _⟩
     case measure => simp [intOf]; omega
    ·have HST:Hid (b = false):=Lib.hid (by
      have:=list_ne ht hu htu
      rcases b with _ | _
      ·rfl
      ·exact absurd (HBB.out.1 rfl) this)
     have hne:=tm_ne htu
     obtain ⟨o,nn,s⟩:=t
     obtain ⟨o',nn',s'⟩:=u
     simp only at x0 x1 x2 y0 y1 y2 hne
     clear ht hu htu
     rcases hne with hne | ⟨rfl,hne⟩ | ⟨rfl,rfl,hne⟩
     ·have g:(o == o') = false:=by simpa using hne
      clear hne
      go_wp2_with fail
      go_big_quiet (fail)
      go_wp2_with fail
      go_ret
      exact ⟨ret_bool HST.out.symm,below_drewN HW.out _⟩
     ·have g:(nn == nn') = false:=by simpa using hne
      clear hne
      go_wp2_with fail
      go_big_quiet (fail)
      go_wp2_with fail
      go_ret
      exact ⟨ret_bool HST.out.symm,below_drewN HW.out _⟩
     ·have g:=bne_bytes hne
      clear hne
      go_wp2_with fail
      go_big_quiet (fail)
      go_wp2_with fail
      go_ret
      exact ⟨ret_bool HST.out.symm,below_drewN HW.out _⟩
   ·have HE:Hid (b = true):=Lib.hid (HBB.out.2 (by
     have h1:=HN.out
     have h2:=HM.out
     rwa [List.take_of_length_le (by omega),List.take_of_length_le (by omega)] at htk))
    have hltI:¬ (k:Int) < (n1:Int):=by omega
    go_wp2_with fail
    go_ret
    exact ⟨ret_bool HE.out.symm,hbw⟩
 ·have HE:Hid (b = false):=Lib.hid (by
   rcases b with _ | _
   ·rfl
   ·exact absurd (by rw [hn1,hn2,hb.1 rfl]) hnm)
  have g:((n1:Int) != (n2:Int)) = true:=by simp; omega
  have g':((n1:Int) == (n2:Int)) = false:=by simp; omega
  clear h1 h2 hn1 hn2 hb
  go_enter Tryz.func102,Tryz.ntmps102
  go_wp2_with fail
  go_ret
  exact ⟨ret_bool HE.out.symm,Below.refl _ _⟩
end Go.Proofs.YtjfghaohogcfbaaGreatDoor
namespace Go.Proofs.YtjfghaohogcfbaaGreatDoor
open Go.RowKit Go.Sort TermSpec EvalSpec ActSpec NamesSpec Go.BigFrame
set_option maxRecDepth 100000
def AcGRel (W:World) (l m:List Ac) (n:Nat) (v:Value) (w:World):Prop:=∃ k:Nat,k ≤ n ∧ v = .int .i64 k ∧ l.take k = m.take k ∧ Below W.heap.size W w
theorem ac_ne {t u:Ac} (h:t ≠ u):t.s ≠ u.s ∨ (t.s = u.s ∧ t.any ≠ u.any) ∨ (t.s = u.s ∧ t.any = u.any ∧ t.x ≠ u.x):=by
 obtain ⟨a,b,c⟩:=t
 obtain ⟨d,e,f⟩:=u
 simp only
 by_cases h1:a = d
 ·by_cases h2:b = e
  ·exact .inr (.inr ⟨h1,h2,fun h3 => h (by rw [h1,h2,h3])⟩)
  ·exact .inr (.inl ⟨h1,h2⟩)
 ·exact .inl h1
set_option maxHeartbeats 2000000 in
theorem rsame_dec (A1 A2:Option Addr) (n1 n2 c1 c2:Nat) (l m:List Ac) (b:Bool) (hb:b = true ↔ l = m) (w:World) (h1:Acs w (.slice A1 n1 c1) l) (h2:Acs w (.slice A2 n2 c2) m) (hm:n1 ≤ 4398046511104) (hfew:∀ a ∈ l,a.x.length ≤ 4398046511104) :
 Calls Tryz.prog 57 #[.slice A1 n1 c1,.slice A2 n2 c2] w (RetB w b):=by
 have hn1:=h1.len.1
 have hn2:=h2.len.1
 have hc1:=h1.len.2
 have hc2:=h2.len.2
 by_cases hnm:n1 = n2
 ·subst hnm
  have HT:=Lib.hid (And.intro h1 h2)
  have HN:=Lib.hid hn1
  have HM:=Lib.hid hn2
  have HBB:=Lib.hid hb
  have HF:=Lib.hid hfew
  clear h1 h2 hn1 hn2 hb hfew
  go_enter Tryz.func57,Tryz.ntmps57
  go_wp2_with fail
  go_loopw [5] (fun v wr => AcGRel w l m n1 v wr) (fun v _ => n1 - (intOf v).toNat)
  case atStart => exact ⟨0,Nat.zero_le _,rfl,rfl,Below.refl _ _⟩
  case round =>
   obtain ⟨k,hk,rfl,htk,hbw⟩:=hrel
   by_cases hlt:k < n1
   ·obtain ⟨t,ht⟩:∃ t,l[k]? = some t:=get_some (by rw [← HN.out]; exact hlt)
    obtain ⟨u,hu⟩:∃ u,m[k]? = some u:=get_some (by rw [← HM.out]; exact hlt)
    have hx:=HF.out t (List.mem_of_getElem? ht)
    obtain ⟨b1,o1,xA,xn,xc,rfl,hb1,ht1,p0,p1,p2⟩:=(HT.out.1.keep hbw).at_ ht
    obtain ⟨b2,o2,yA,yn,yc,rfl,hb2,ht2,q0,q1,q2⟩:=(HT.out.2.keep hbw).at_ hu
    obtain ⟨_,_,_,heq,hxn,_⟩:=ht1.shape
    cases heq
    obtain ⟨_,_,_,heq,hyn,_⟩:=ht2.shape
    cases heq
    obtain ⟨r,hr⟩:∃ r:Bool,r = true ↔ t.x = u.x:=by
     by_cases h:t.x = u.x
     ·exact ⟨true,by simp [h]⟩
     ·exact ⟨false,by simp [h]⟩
    have HS:Hid (∀ d os,Calls Tryz.prog 102 #[.slice xA xn xc,.slice yA yn yc] (grow (redrawn wr d) os) fun e w'' => e = .returned (.bool r) ∧ ∃ p:Regrown,w'' = grow (redrawn wr p.d) p.os):=Lib.hid (fun d os => Calls.regrown_of (tmsame_dec xA yA xn yn xc yc t.x u.x r hr (grow (redrawn wr d) os) (ht1.keep (below_regrown wr d os)) (ht2.keep (below_regrown wr d os)) hxn hyn (by omega)))
    have hltI:(k:Int) < (n1:Int):=by omega
    have hkI:(k:Int) ≤ 4398046511104:=by omega
    have HW:=Lib.hid hbw
    have HTK:=Lib.hid htk
    clear hbw htk ht1 ht2 hxn hyn hx
    by_cases htu:t = u
    ·subst htu
     have HNX:=Lib.hid (take_same HTK.out ht hu)
     obtain rfl:r = true:=hr.2 rfl
     obtain ⟨s,any,x⟩:=t
     simp only at p0 p1 q0 q1 HS
     have rp0:=cell_regrown p0
     have rp1:=cell_regrown p1
     have rp2:=cell_regrown p2
     have rq0:=cell_regrown q0
     have rq1:=cell_regrown q1
     have rq2:=cell_regrown q2
     clear ht hu p0 p1 p2 q0 q1 q2 hr
     go_wp2_with fail
     refine wp_region_quiet_below (by kernel_rfl) (by kernel_rfl) ?_
     repeat (go_big_quiet_step (exact HS.out _ _))
     refine wpQuiet_nil ?_
     intro _ hw'
     obtain ⟨⟨dq,osq⟩,hw''⟩:=hw'
     subst hw''
     simp only
     have HBQ:=Lib.hid (below_two' HW.out (below_regrown wr dq osq))
     clear rp0 rp1 rp2 rq0 rq1 rq2
     go_wp2_with fail
     go_roundw
     case rel => exact ⟨k + 1,hlt,by go_num,HNX.out,HBQ.out⟩
     case measure => simp [intOf]; omega
    ·have HST:Hid (b = false):=Lib.hid (by
      have:=list_ne ht hu htu
      rcases b with _ | _
      ·rfl
      ·exact absurd (HBB.out.1 rfl) this)
     have hne:=ac_ne htu
     have rp0:=cell_regrown p0
     have rp1:=cell_regrown p1
     have rp2:=cell_regrown p2
     have rq0:=cell_regrown q0
     have rq1:=cell_regrown q1
     have rq2:=cell_regrown q2
     obtain ⟨s,any,x⟩:=t
     obtain ⟨s',any',x'⟩:=u
     simp only at rp0 rp1 rq0 rq1 hne hr
     clear ht hu htu p0 p1 p2 q0 q1 q2
     rcases hne with hne | ⟨rfl,hne⟩ | ⟨rfl,rfl,hne⟩
     ·have g:=bne_bytes hne
      clear hne hr
      go_wp2_with fail
      refine wp_region_quiet_below (by kernel_rfl) (by kernel_rfl) ?_
      repeat (go_big_quiet_step (exact HS.out _ _))
      refine wpQuiet_nil ?_
      intro _ hw'
      obtain ⟨⟨dq,osq⟩,hw''⟩:=hw'
      subst hw''
      simp only
      have HBQ:=Lib.hid (below_two' HW.out (below_regrown wr dq osq))
      clear rp0 rp1 rp2 rq0 rq1 rq2
      go_wp2_with fail
      go_ret
      exact ⟨ret_bool HST.out.symm,HBQ.out⟩
     ·have g:(any == any') = false:=by simpa using hne
      clear hne hr
      go_wp2_with fail
      refine wp_region_quiet_below (by kernel_rfl) (by kernel_rfl) ?_
      repeat (go_big_quiet_step (exact HS.out _ _))
      refine wpQuiet_nil ?_
      intro _ hw'
      obtain ⟨⟨dq,osq⟩,hw''⟩:=hw'
      subst hw''
      simp only
      have HBQ:=Lib.hid (below_two' HW.out (below_regrown wr dq osq))
      clear rp0 rp1 rp2 rq0 rq1 rq2
      go_wp2_with fail
      go_ret
      exact ⟨ret_bool HST.out.symm,HBQ.out⟩
     ·obtain rfl:r = false:=by
       rcases r with _ | _
       ·rfl
       ·exact absurd (hr.1 rfl) hne
      clear hne hr
      go_wp2_with fail
      refine wp_region_quiet_below (by kernel_rfl) (by kernel_rfl) ?_
      repeat (go_big_quiet_step (exact HS.out _ _))
      refine wpQuiet_nil ?_
      intro _ hw'
      obtain ⟨⟨dq,osq⟩,hw''⟩:=hw'
      subst hw''
      simp only
      have HBQ:=Lib.hid (below_two' HW.out (below_regrown wr dq osq))
      clear rp0 rp1 rp2 rq0 rq1 rq2
      go_wp2_with fail
      go_ret
      exact ⟨ret_bool HST.out.symm,HBQ.out⟩
   ·have HE:Hid (b = true):=Lib.hid (HBB.out.2 (by
     have h1:=HN.out
     have h2:=HM.out
     rwa [List.take_of_length_le (by omega),List.take_of_length_le (by omega)] at htk))
    have hltI:¬ (k:Int) < (n1:Int):=by omega
    go_wp2_with fail
    go_ret
    exact ⟨ret_bool HE.out.symm,hbw⟩
 ·have HE:Hid (b = false):=Lib.hid (by
   rcases b with _ | _
   ·rfl
   ·exact absurd (by rw [hn1,hn2,hb.1 rfl]) hnm)
  have g:((n1:Int) != (n2:Int)) = true:=by simp; omega
  have g':((n1:Int) == (n2:Int)) = false:=by simp; omega
  clear h1 h2 hn1 hn2 hb hfew
  go_enter Tryz.func57,Tryz.ntmps57
  go_wp2_with fail
  go_ret
  exact ⟨ret_bool HE.out.symm,Below.refl _ _⟩
end Go.Proofs.YtjfghaohogcfbaaGreatDoor
namespace Go.Proofs.YtjfghaohogcfbaaGreatDoor
open Go.RowKit Go.Sort TermSpec EvalSpec ActSpec NamesSpec Go.BigFrame
set_option maxRecDepth 100000
theorem eq_yes (t:Tm) (w:World):(Op.equalIn 10000 105 (.agg #[.int .i64 t.op,.int .i64 t.n,.string t.s]) (.agg #[.int .i64 t.op,.int .i64 t.n,.string t.s])).run Tryz.prog w = .ok true w:=by rw [eq_term]; simp
theorem eq_no {t u:Tm} (h:t ≠ u) (w:World):(Op.equalIn 10000 105 (.agg #[.int .i64 t.op,.int .i64 t.n,.string t.s]) (.agg #[.int .i64 u.op,.int .i64 u.n,.string u.s])).run Tryz.prog w = .ok false w:=by
 rw [eq_term]
 congr 1
 rcases tm_ne h with h | ⟨_,h⟩ | ⟨_,_,h⟩
 ·simp [h]
 ·simp [h]
 ·simp [bne_bytes h]
set_option maxHeartbeats 2000000 in
theorem teq_any (A1 A2:Option Addr) (n1 n2 c1 c2:Nat) (l m:List Tm) (b:Bool) (hb:b = true ↔ l = m) (w:World) (h1:Tms w (.slice A1 n1 c1) l) (h2:Tms w (.slice A2 n2 c2) m) (hn1:n1 = l.length) (hn2:n2 = m.length) (hm:n1 ≤ 9223372036854775806) :
 Calls Tryz.prog 99 #[.slice A1 n1 c1,.slice A2 n2 c2] w (RetB w b):=by
 by_cases hnm:n1 = n2
 ·subst hnm
  have HT:=Lib.hid (And.intro h1 h2)
  have HN:=Lib.hid hn1
  have HM:=Lib.hid hn2
  have HBB:=Lib.hid hb
  clear h1 h2 hn1 hn2 hb
  go_enter Tryz.func99,Tryz.ntmps99
  go_wp2_with fail
  go_loopw [13] (fun v wr => TmGRel w l m n1 v wr) (fun v _ => n1 - (intOf v).toNat)
  case atStart => exact ⟨0,Nat.zero_le _,rfl,rfl,Below.refl _ _⟩
  case round =>
   obtain ⟨k,hk,rfl,htk,hbw⟩:=hrel
   by_cases hlt:k < n1
   ·obtain ⟨t,ht⟩:∃ t,l[k]? = some t:=get_some (by rw [← HN.out]; exact hlt)
    obtain ⟨u,hu⟩:∃ u,m[k]? = some u:=get_some (by rw [← HM.out]; exact hlt)
    obtain ⟨b1,off1,rfl,hb1,x0,x1,x2⟩:=(HT.out.1.keep hbw).at_ ht
    obtain ⟨b2,off2,rfl,hb2,y0,y1,y2⟩:=(HT.out.2.keep hbw).at_ hu
    have hltI:(k:Int) < (n1:Int):=by omega
    have HW:=Lib.hid hbw
    have HTK:=Lib.hid htk
    clear hbw htk
    by_cases htu:t = u
    ·subst htu
     have HNX:=Lib.hid (take_same HTK.out ht hu)
     have heq:=eq_yes t
     obtain ⟨o,nn,s⟩:=t
     simp only at x0 x1 x2 y0 y1 y2 heq
     clear ht hu
     go_wp2_with fail
     go_big_quiet (fail)
     go_wp2_with fail
     go_roundw
     case rel => exact ⟨k + 1,hlt,by go_num,HNX.out,below_drewN HW.out _⟩
     case measure => simp [intOf]; omega
    ·have HST:Hid (b = false):=Lib.hid (by
      have:=list_ne ht hu htu
      rcases b with _ | _
      ·rfl
      ·exact absurd (HBB.out.1 rfl) this)
     have heq:=eq_no htu
     obtain ⟨o,nn,s⟩:=t
     obtain ⟨o',nn',s'⟩:=u
     simp only at x0 x1 x2 y0 y1 y2 heq
     clear ht hu htu
     go_wp2_with fail
     go_big_quiet (fail)
     go_wp2_with fail
     go_ret
     exact ⟨ret_bool HST.out.symm,below_drewN HW.out _⟩
   ·have HE:Hid (b = true):=Lib.hid (HBB.out.2 (by
     have h1:=HN.out
     have h2:=HM.out
     rwa [List.take_of_length_le (by omega),List.take_of_length_le (by omega)] at htk))
    have hltI:¬ (k:Int) < (n1:Int):=by omega
    go_wp2_with fail
    go_ret
    exact ⟨ret_bool HE.out.symm,hbw⟩
 ·have HE:Hid (b = false):=Lib.hid (by
   rcases b with _ | _
   ·rfl
   ·exact absurd (by rw [hn1,hn2,hb.1 rfl]) hnm)
  have g:((n1:Int) != (n2:Int)) = true:=by simp; omega
  have g':((n1:Int) == (n2:Int)) = false:=by simp; omega
  clear h1 h2 hn1 hn2 hb
  go_enter Tryz.func99,Tryz.ntmps99
  go_wp2_with fail
  go_ret
  exact ⟨ret_bool HE.out.symm,Below.refl _ _⟩
theorem ac_parts {t u:Ac} {r q:Bool} (hr:r = true ↔ t = u) (hq:q = true ↔ t.x = u.x):r = ((t.s.toList == u.s.toList) && ((t.any == u.any) && q)):=by
 rw [Bool.eq_iff_iff,hr]
 obtain ⟨a,b,c⟩:=t
 obtain ⟨d,e,f⟩:=u
 simp only [Bool.and_eq_true,beq_iff_eq] at hq ⊢
 rw [hq]
 constructor
 ·rintro h
  cases h
  exact ⟨rfl,rfl,rfl⟩
 ·rintro ⟨h1,h2,h3⟩
  rw [bytes_eq (x:=a) (y:=d) (by simpa using h1),h2,h3]
theorem some_bool (p:Prop):∃ q:Bool,q = true ↔ p:=by
 by_cases h:p
 ·exact ⟨true,by simp [h]⟩
 ·exact ⟨false,by simp [h]⟩
set_option maxHeartbeats 2000000 in
theorem sameAct_any (t u:Ac) (r:Bool) (hr:r = true ↔ t = u) (A1 A2:Option Addr) (n1 n2 c1 c2:Nat) (w:World) (h1:Tms w (.slice A1 n1 c1) t.x) (h2:Tms w (.slice A2 n2 c2) u.x) (hm:n1 ≤ 4398046511104) :
 Calls Tryz.prog 101 #[.agg #[.string t.s,.bool t.any,.slice A1 n1 c1],.agg #[.string u.s,.bool u.any,.slice A2 n2 c2]] w (RetB w r):=by
 obtain ⟨A',n',c',heq,hn1,-⟩:=h1.shape
 cases heq
 obtain ⟨A',n',c',heq,hn2,-⟩:=h2.shape
 cases heq
 obtain ⟨q,hq⟩:=some_bool (t.x = u.x)
 have HQ:=Lib.hid (fun W (hW:Below w.heap.size w W) => teq_any A1 A2 n1 n2 c1 c2 t.x u.x q hq W (h1.keep hW) (h2.keep hW) hn1 hn2 (by omega))
 have HE:=Lib.hid (ac_parts hr hq)
 obtain ⟨s,any,x⟩:=t
 obtain ⟨s',any',x'⟩:=u
 simp only at HE HQ ⊢
 clear hr hq h1 h2 hn1 hn2
 rcases g1:(s.toList == s'.toList) with _ | _
 ·have HR:Hid (r = false):=Lib.hid (by rw [HE.out,g1]; rfl)
  clear HE HQ
  go_enter Tryz.func101,Tryz.ntmps101
  go_wp2_with fail
  go_ret
  exact ⟨ret_bool HR.out.symm,KitC.below_pair _ _ _⟩
 ·rcases g2:(any == any') with _ | _
  ·have HR:Hid (r = false):=Lib.hid (by rw [HE.out,g1,g2]; rfl)
   clear HE HQ
   go_enter Tryz.func101,Tryz.ntmps101
   go_wp2_with fail
   go_ret
   exact ⟨ret_bool HR.out.symm,KitC.below_pair _ _ _⟩
  ·have HR:Hid (r = q):=Lib.hid (by rw [HE.out,g1,g2]; rfl)
   clear HE
   go_enter Tryz.func101,Tryz.ntmps101
   go_wp2_with (go_at_call 99; (with_reducible refine (HQ.out _ (KitC.below_pair _ _ _)).mono ?_))
   rintro e w2 ⟨rfl,hb⟩
   have HB:=Lib.hid (below_two' (KitC.below_pair _ _ _) hb)
   clear hb
   go_wp2_with fail
   go_ret
   exact ⟨ret_bool HR.out.symm,HB.out⟩
set_option maxHeartbeats 2000000 in
theorem aeqf_any (A1 A2:Option Addr) (n1 n2 c1 c2:Nat) (l m:List Ac) (b:Bool) (hb:b = true ↔ l = m) (w:World) (h1:Acs w (.slice A1 n1 c1) l) (h2:Acs w (.slice A2 n2 c2) m) (hm:n1 ≤ 4398046511104) (hfew:∀ a ∈ l,a.x.length ≤ 4398046511104) :
 Calls Tryz.prog 100 #[.slice A1 n1 c1,.slice A2 n2 c2,.func (.func 101) #[] #[]] w (RetB w b):=by
 have hn1:=h1.len.1
 have hn2:=h2.len.1
 have hc1:=h1.len.2
 have hc2:=h2.len.2
 by_cases hnm:n1 = n2
 ·subst hnm
  have HT:=Lib.hid (And.intro h1 h2)
  have HN:=Lib.hid hn1
  have HM:=Lib.hid hn2
  have HBB:=Lib.hid hb
  have HF:=Lib.hid hfew
  clear h1 h2 hn1 hn2 hb hfew
  go_enter Tryz.func100,Tryz.ntmps100
  go_wp2_with fail
  go_loopw [17] (fun v wr => AcGRel w l m n1 v wr) (fun v _ => n1 - (intOf v).toNat)
  case atStart => exact ⟨0,Nat.zero_le _,rfl,rfl,Below.refl _ _⟩
  case round =>
   obtain ⟨k,hk,rfl,htk,hbw⟩:=hrel
   by_cases hlt:k < n1
   ·obtain ⟨t,ht⟩:∃ t,l[k]? = some t:=get_some (by rw [← HN.out]; exact hlt)
    obtain ⟨u,hu⟩:∃ u,m[k]? = some u:=get_some (by rw [← HM.out]; exact hlt)
    have hx:=HF.out t (List.mem_of_getElem? ht)
    obtain ⟨b1,o1,xA,xn,xc,rfl,hb1,ht1,p0,p1,p2⟩:=(HT.out.1.keep hbw).at_ ht
    obtain ⟨b2,o2,yA,yn,yc,rfl,hb2,ht2,q0,q1,q2⟩:=(HT.out.2.keep hbw).at_ hu
    obtain ⟨_,_,_,heq,hxn,_⟩:=ht1.shape
    cases heq
    obtain ⟨r,hr⟩:=some_bool (t = u)
    have HS:=Lib.hid (fun W (hW:Below wr.heap.size wr W) => sameAct_any t u r hr xA yA xn yn xc yc W (ht1.keep hW) (ht2.keep hW) (by omega))
    have HIF:=Lib.hid hr
    have hltI:(k:Int) < (n1:Int):=by omega
    have hkI:(k:Int) ≤ 4398046511104:=by omega
    have HW:=Lib.hid hbw
    have HTK:=Lib.hid htk
    have HTU:=Lib.hid (And.intro ht hu)
    clear hbw htk ht1 ht2 hxn hx ht hu hr
    have HNX:Hid (r = true → l.take (k + 1) = m.take (k + 1)):=Lib.hid (fun h => take_same HTK.out HTU.out.1 (by rw [HIF.out.1 h]; exact HTU.out.2))
    have HST:Hid (r = false → b = false):=Lib.hid (fun h => by
     have:=list_ne HTU.out.1 HTU.out.2 (fun e => by rw [HIF.out.2 e] at h; cases h)
     rcases b with _ | _
     ·rfl
     ·exact absurd (HBB.out.1 rfl) this)
    obtain ⟨s,any,x⟩:=t
    obtain ⟨s',any',x'⟩:=u
    simp only at p0 p1 p2 q0 q1 q2 HS
    rcases r with _ | _
    ·have HST':=Lib.hid (HST.out rfl)
     clear HNX HST HIF HTU
     go_wp2_with (go_at_call 101; (with_reducible refine (HS.out _ (KitC.below_pair _ _ _)).mono ?_))
     rintro e w2 ⟨rfl,hb⟩
     have HB:=Lib.hid (below_two' HW.out (below_two' (KitC.below_pair _ _ _) hb))
     clear hb
     go_wp2_with fail
     go_ret
     exact ⟨ret_bool HST'.out.symm,HB.out⟩
    ·have HNX':=Lib.hid (HNX.out rfl)
     clear HNX HST HIF HTU
     go_wp2_with (go_at_call 101; (with_reducible refine (HS.out _ (KitC.below_pair _ _ _)).mono ?_))
     rintro e w2 ⟨rfl,hb⟩
     have HB:=Lib.hid (below_two' HW.out (below_two' (KitC.below_pair _ _ _) hb))
     clear hb
     go_wp2_with fail
     go_roundw
     case rel => exact ⟨k + 1,hlt,by go_num,HNX'.out,HB.out⟩
     case measure => simp [intOf]; omega
   ·have HE:Hid (b = true):=Lib.hid (HBB.out.2 (by
     have h1:=HN.out
     have h2:=HM.out
     rwa [List.take_of_length_le (by omega),List.take_of_length_le (by omega)] at htk))
    have hltI:¬ (k:Int) < (n1:Int):=by omega
    go_wp2_with fail
    go_ret
    exact ⟨ret_bool HE.out.symm,hbw⟩
 ·have HE:Hid (b = false):=Lib.hid (by
   rcases b with _ | _
   ·rfl
   ·exact absurd (by rw [hn1,hn2,hb.1 rfl]) hnm)
  have g:((n1:Int) != (n2:Int)) = true:=by simp; omega
  have g':((n1:Int) == (n2:Int)) = false:=by simp; omega
  clear h1 h2 hn1 hn2 hb hfew
  go_enter Tryz.func100,Tryz.ntmps100
  go_wp2_with fail
  go_ret
  exact ⟨ret_bool HE.out.symm,Below.refl _ _⟩
end Go.Proofs.YtjfghaohogcfbaaGreatDoor
namespace Go.Proofs.YtjfghaohogcfbaaGreatDoor
open Go.RowKit TermSpec EvalSpec ActSpec NamesSpec ExprSpec TransSpec
set_option maxRecDepth 100000
theorem tr_parts {t u:Tr} {r qg qa:Bool} (hr:r = true ↔ t = u) (hg:qg = true ↔ t.g = u.g) (ha:qa = true ↔ t.acts = u.acts):r = ((t.ev.toList == u.ev.toList) && ((t.tg.toList == u.tg.toList) && (qg && qa))):=by
 rw [Bool.eq_iff_iff,hr]
 obtain ⟨a,b,c,d⟩:=t
 obtain ⟨a',b',c',d'⟩:=u
 simp only [Bool.and_eq_true,beq_iff_eq] at hg ha ⊢
 rw [hg,ha]
 constructor
 ·rintro h
  cases h
  exact ⟨rfl,rfl,rfl,rfl⟩
 ·rintro ⟨h1,h2,h3,h4⟩
  rw [bytes_eq (x:=a) (y:=a') (by simpa using h1),bytes_eq (x:=d) (y:=d') (by simpa using h2),h3,h4]
set_option maxHeartbeats 4000000 in
theorem tsame_any (t u:Tr) (r:Bool) (hr:r = true ↔ t = u) (gA:Option Addr) (gn gc:Nat) (aA:Option Addr) (an ac:Nat) (gA':Option Addr) (gn' gc':Nat) (aA':Option Addr) (an' ac':Nat) (w:World) (h1:TrIn w gA gn gc aA an ac t) (h2:TrIn w gA' gn' gc' aA' an' ac' u) (hgl:t.g.length ≤ 4398046511104) (hal:t.acts.length ≤ 4398046511104) (hfew:∀ a ∈ t.acts,a.x.length ≤ 4398046511104) :
 Calls Tryz.prog 56 #[.agg #[.string t.ev,.slice gA gn gc,.slice aA an ac,.string t.tg],.agg #[.string u.ev,.slice gA' gn' gc',.slice aA' an' ac',.string u.tg]] w (RetB w r):=by
 obtain ⟨qg,hg⟩:=some_bool (t.g = u.g)
 obtain ⟨qa,ha⟩:=some_bool (t.acts = u.acts)
 have l1:=h1.len
 have l2:=h2.len
 have HG:=Lib.hid (fun W (hW:Below w.heap.size w W) => teq_any gA gA' gn gn' gc gc' t.g u.g qg hg W (h1.g.keep hW) (h2.g.keep hW) l1.1 l2.1 (by omega))
 have HA:=Lib.hid (fun W (hW:Below w.heap.size w W) => aeqf_any aA aA' an an' ac ac' t.acts u.acts qa ha W (h1.a.keep hW) (h2.a.keep hW) (by omega) hfew)
 have HE:=Lib.hid (tr_parts hr hg ha)
 obtain ⟨ev,g,acts,tg⟩:=t
 obtain ⟨ev',g',acts',tg'⟩:=u
 simp only at HE HG HA ⊢
 clear hr hg ha h1 h2 l1 l2 hfew hgl hal
 rcases g1:(ev.toList == ev'.toList) with _ | _
 ·have HR:Hid (r = false):=Lib.hid (by rw [HE.out,g1]; rfl)
  clear HE HG HA
  go_enter Tryz.func56,Tryz.ntmps56
  go_wp2_with fail
  go_ret
  exact ⟨ret_bool HR.out.symm,KitC.below_pair _ _ _⟩
 rcases g2:(tg.toList == tg'.toList) with _ | _
 ·have HR:Hid (r = false):=Lib.hid (by rw [HE.out,g1,g2]; rfl)
  clear HE HG HA
  go_enter Tryz.func56,Tryz.ntmps56
  go_wp2_with fail
  go_ret
  exact ⟨ret_bool HR.out.symm,KitC.below_pair _ _ _⟩
 rcases qg with _ | _
 ·have HR:Hid (r = false):=Lib.hid (by rw [HE.out,g1,g2]; rfl)
  clear HE HA
  go_enter Tryz.func56,Tryz.ntmps56
  go_wp2_with (go_at_call 99; (with_reducible refine (HG.out _ (KitC.below_pair _ _ _)).mono ?_))
  rintro e w2 ⟨rfl,hb⟩
  have HB:=Lib.hid (below_two' (KitC.below_pair _ _ _) hb)
  clear hb
  go_wp2_with fail
  go_ret
  exact ⟨ret_bool HR.out.symm,HB.out⟩
 ·have HR:Hid (r = qa):=Lib.hid (by rw [HE.out,g1,g2]; rfl)
  clear HE
  go_enter Tryz.func56,Tryz.ntmps56
  go_wp2_with (go_at_call 99; (with_reducible refine (HG.out _ (KitC.below_pair _ _ _)).mono ?_))
  rintro e w2 ⟨rfl,hb⟩
  have HB:=Lib.hid (KitC.pair_blocks hb)
  obtain ⟨c0,c1,c2,c3⟩:=cells_4 HB.out.1
  obtain ⟨d0,d1,d2,d3⟩:=cells_4 HB.out.2.1
  clear hb
  go_wp2_with (go_at_call 100; (with_reducible refine (HA.out _ HB.out.2.2.1).mono ?_))
  rintro e w3 ⟨rfl,hb⟩
  have HB3:=Lib.hid (below_two' HB.out.2.2.1 hb)
  clear hb
  go_wp2_with fail
  go_ret
  exact ⟨ret_bool HR.out.symm,HB3.out⟩
set_option maxHeartbeats 4000000 in
theorem trsame_any (t u:Tr) (r:Bool) (hr:r = true ↔ t = u) (gA:Option Addr) (gn gc:Nat) (aA:Option Addr) (an ac:Nat) (gA':Option Addr) (gn' gc':Nat) (aA':Option Addr) (an' ac':Nat) (w:World) (h1:TrIn w gA gn gc aA an ac t) (h2:TrIn w gA' gn' gc' aA' an' ac' u) (hgl:t.g.length ≤ 4398046511104) (hal:t.acts.length ≤ 4398046511104) (hfew:∀ a ∈ t.acts,a.x.length ≤ 4398046511104) :
 Calls Tryz.prog 103 #[.agg #[.string t.ev,.slice gA gn gc,.slice aA an ac,.string t.tg],.agg #[.string u.ev,.slice gA' gn' gc',.slice aA' an' ac',.string u.tg]] w (RetB w r):=by
 obtain ⟨qg,hg⟩:=some_bool (t.g = u.g)
 obtain ⟨qa,ha⟩:=some_bool (t.acts = u.acts)
 have l1:=h1.len
 have l2:=h2.len
 have HG:=Lib.hid (fun W (hW:Below w.heap.size w W) => tmsame_dec gA gA' gn gn' gc gc' t.g u.g qg hg W (h1.g.keep hW) (h2.g.keep hW) l1.1 l2.1 (by omega))
 have HA:=Lib.hid (fun W (hW:Below w.heap.size w W) => rsame_dec aA aA' an an' ac ac' t.acts u.acts qa ha W (h1.a.keep hW) (h2.a.keep hW) (by omega) hfew)
 have HE:=Lib.hid (tr_parts hr hg ha)
 obtain ⟨ev,g,acts,tg⟩:=t
 obtain ⟨ev',g',acts',tg'⟩:=u
 simp only at HE HG HA ⊢
 clear hr hg ha h1 h2 l1 l2 hfew hgl hal
 rcases g1:(ev.toList == ev'.toList) with _ | _
 ·have HR:Hid (r = false):=Lib.hid (by rw [HE.out,g1]; rfl)
  clear HE HG HA
  go_enter Tryz.func103,Tryz.ntmps103
  go_wp2_with fail
  go_ret
  exact ⟨ret_bool HR.out.symm,KitC.below_pair _ _ _⟩
 rcases g2:(tg.toList == tg'.toList) with _ | _
 ·have HR:Hid (r = false):=Lib.hid (by rw [HE.out,g1,g2]; rfl)
  clear HE HG HA
  go_enter Tryz.func103,Tryz.ntmps103
  go_wp2_with fail
  go_ret
  exact ⟨ret_bool HR.out.symm,KitC.below_pair _ _ _⟩
 rcases qg with _ | _
 ·have HR:Hid (r = false):=Lib.hid (by rw [HE.out,g1,g2]; rfl)
  clear HE HA
  go_enter Tryz.func103,Tryz.ntmps103
  go_wp2_with (go_at_call 102; (with_reducible refine (HG.out _ (KitC.below_pair _ _ _)).mono ?_))
  rintro e w2 ⟨rfl,hb⟩
  have HB:=Lib.hid (below_two' (KitC.below_pair _ _ _) hb)
  clear hb
  go_wp2_with fail
  go_ret
  exact ⟨ret_bool HR.out.symm,HB.out⟩
 ·have HR:Hid (r = qa):=Lib.hid (by rw [HE.out,g1,g2]; rfl)
  clear HE
  go_enter Tryz.func103,Tryz.ntmps103
  go_wp2_with (go_at_call 102; (with_reducible refine (HG.out _ (KitC.below_pair _ _ _)).mono ?_))
  rintro e w2 ⟨rfl,hb⟩
  have HB:=Lib.hid (KitC.pair_blocks hb)
  obtain ⟨c0,c1,c2,c3⟩:=cells_4 HB.out.1
  obtain ⟨d0,d1,d2,d3⟩:=cells_4 HB.out.2.1
  clear hb
  go_wp2_with (go_at_call 57; (with_reducible refine (HA.out _ HB.out.2.2.1).mono ?_))
  rintro e w3 ⟨rfl,hb⟩
  have HB3:=Lib.hid (below_two' HB.out.2.2.1 hb)
  clear hb
  go_wp2_with fail
  go_ret
  exact ⟨ret_bool HR.out.symm,HB3.out⟩
end Go.Proofs.YtjfghaohogcfbaaGreatDoor
namespace Go.Proofs.YtjfghaohogcfbaaGreatDoor
open Go.RowKit Go.Sort TermSpec EvalSpec ActSpec NamesSpec ExprSpec TransSpec SynSpec PrintSpec
set_option maxRecDepth 100000
theorem eq_var (s t:ByteArray) (a b c d e f:Int) (w:World):(Op.equalIn 10000 53 (.agg #[.string s,.int .i64 a,.int .i64 b,.int .i64 c]) (.agg #[.string t,.int .i64 d,.int .i64 e,.int .i64 f])).run Tryz.prog w = .ok (s.toList == t.toList && (a == d && (b == e && c == f))) w:=by
 have u3:=Tryz.underlying3
 have u9:=Tryz.underlying9
 have hS:Tryz.prog.underlying 53 = some (.struct (Tryz.prog.fieldsOf 53)):=by kernel_rfl
 rw [show (10000:Nat) = 9999 + 1 from rfl,run_equalIn_agg w 9999 53 _ _ hS (by kernel_rfl)]
 simp only [Program.fieldsOf,Tryz.underlying53]
 go_simp
 by_cases h1:s.toList = t.toList <;> by_cases h2:a = d <;> by_cases h3:b = e <;> by_cases h4:c = f <;> simp [h1,h2,h3,h4]
def FewT (t:Tr):Prop:=t.g.length ≤ 4398046511104 ∧ t.acts.length ≤ 4398046511104 ∧ ∀ a ∈ t.acts,a.x.length ≤ 4398046511104
def TrGRel (W:World) (l m:List Tr) (n:Nat) (v:Value) (w:World):Prop:=∃ k:Nat,k ≤ n ∧ v = .int .i64 k ∧ l.take k = m.take k ∧ Below W.heap.size W w
set_option maxHeartbeats 2000000 in
theorem trall_any (A1 A2:Option Addr) (n1 n2 c1 c2:Nat) (l m:List Tr) (b:Bool) (hb:b = true ↔ l = m) (w:World) (h1:Trs w (.slice A1 n1 c1) l) (h2:Trs w (.slice A2 n2 c2) m) (hm:n1 ≤ 4398046511104) (hfew:∀ t ∈ l,FewT t) :
 Calls Tryz.prog 58 #[.slice A1 n1 c1,.slice A2 n2 c2] w (RetB w b):=by
 have hn1:=h1.len.1
 have hn2:=h2.len.1
 have hc1:=h1.len.2
 have hc2:=h2.len.2
 by_cases hnm:n1 = n2
 ·subst hnm
  have HT:=Lib.hid (And.intro h1 h2)
  have HN:=Lib.hid hn1
  have HM:=Lib.hid hn2
  have HBB:=Lib.hid hb
  have HF:=Lib.hid hfew
  clear h1 h2 hn1 hn2 hb hfew
  go_enter Tryz.func58,Tryz.ntmps58
  go_wp2_with fail
  go_loopw [5] (fun v wr => TrGRel w l m n1 v wr) (fun v _ => n1 - (intOf v).toNat)
  case atStart => exact ⟨0,Nat.zero_le _,rfl,rfl,Below.refl _ _⟩
  case round =>
   obtain ⟨k,hk,rfl,htk,hbw⟩:=hrel
   by_cases hlt:k < n1
   ·obtain ⟨t,ht⟩:∃ t,l[k]? = some t:=get_some (by rw [← HN.out]; exact hlt)
    obtain ⟨u,hu⟩:∃ u,m[k]? = some u:=get_some (by rw [← HM.out]; exact hlt)
    have hx:=HF.out t (List.mem_of_getElem? ht)
    obtain ⟨b1,o1,gA,gn,gc,aA,an,ac,rfl,hb1,p0,p1,p2,p3,ht1⟩:=(HT.out.1.keep hbw).at_ ht
    obtain ⟨b2,o2,gA',gn',gc',aA',an',ac',rfl,hb2,q0,q1,q2,q3,ht2⟩:=(HT.out.2.keep hbw).at_ hu
    obtain ⟨r,hr⟩:=some_bool (t = u)
    have HS:Hid (∀ d os,Calls Tryz.prog 103 #[.agg #[.string t.ev,.slice gA gn gc,.slice aA an ac,.string t.tg],.agg #[.string u.ev,.slice gA' gn' gc',.slice aA' an' ac',.string u.tg]] (grow (redrawn wr d) os) fun e w'' => e = .returned (.bool r) ∧ ∃ p:Regrown,w'' = grow (redrawn wr p.d) p.os) :=
     Lib.hid (fun d os => Calls.regrown_of (trsame_any t u r hr gA gn gc aA an ac gA' gn' gc' aA' an' ac' _ (ht1.keep (below_regrown wr d os)) (ht2.keep (below_regrown wr d os)) hx.1 hx.2.1 hx.2.2))
    have HW:=Lib.hid hbw
    have HTK:=Lib.hid htk
    have HY:Hid (r = true → l.take (k + 1) = m.take (k + 1)):=Lib.hid (fun h => by
     have e:=hr.1 h
     subst e
     exact take_same HTK.out ht hu)
    have HNO:Hid (r = false → b = false):=Lib.hid (fun h => by
     have hne:t ≠ u:=fun e => by rw [hr.2 e] at h; cases h
     have:=list_ne ht hu hne
     cases b with
     | false => rfl
     | true => exact absurd (HBB.out.1 rfl) this)
    have HLT:=Lib.hid hlt
    obtain ⟨ev,g,acts,tg⟩:=t
    obtain ⟨ev',g',acts',tg'⟩:=u
    simp only at p0 p3 q0 q3 HS
    have rp0:=cell_regrown p0
    have rp1:=cell_regrown p1
    have rp2:=cell_regrown p2
    have rp3:=cell_regrown p3
    have rq0:=cell_regrown q0
    have rq1:=cell_regrown q1
    have rq2:=cell_regrown q2
    have rq3:=cell_regrown q3
    clear ht hu hr ht1 ht2 hx hbw htk p0 p1 p2 p3 q0 q1 q2 q3
    have hkI:(k:Int) ≤ 4398046511104:=by omega
    rcases r with _ | _
    ·have HE:=Lib.hid (HNO.out rfl)
     go_wp2_with fail
     refine wp_region_quiet_below (by kernel_rfl) (by kernel_rfl) ?_
     repeat (go_big_quiet_step (exact HS.out _ _))
     refine wpQuiet_nil ?_
     intro _ hw'
     obtain ⟨⟨dq,osq⟩,hw''⟩:=hw'
     subst hw''
     simp only
     have HB5:=Lib.hid (below_two' HW.out (below_regrown wr dq osq))
     go_wp2_with fail
     go_ret
     exact ⟨ret_bool HE.out.symm,HB5.out⟩
    ·have HX:=Lib.hid (HY.out rfl)
     go_wp2_with fail
     refine wp_region_quiet_below (by kernel_rfl) (by kernel_rfl) ?_
     repeat (go_big_quiet_step (exact HS.out _ _))
     refine wpQuiet_nil ?_
     intro _ hw'
     obtain ⟨⟨dq,osq⟩,hw''⟩:=hw'
     subst hw''
     simp only
     have HB5:=Lib.hid (below_two' HW.out (below_regrown wr dq osq))
     go_wp2_with fail
     go_roundw
     case rel => exact ⟨k + 1,HLT.out,by go_num,HX.out,HB5.out⟩
     case measure => have:=HLT.out; simp [intOf]; omega
   ·obtain rfl:k = n1:=by omega
    have HE:Hid (b = true):=Lib.hid (HBB.out.2 (by rwa [List.take_of_length_le (by rw [← HN.out]; exact Nat.le_refl _),List.take_of_length_le (by rw [← HM.out]; exact Nat.le_refl _)] at htk))
    have HW:=Lib.hid hbw
    clear htk hbw
    go_wp2_with fail
    go_ret
    exact ⟨ret_bool HE.out.symm,HW.out⟩
 ·have g:((n1:Int) != (n2:Int)) = true:=by simp; omega
  have HE:Hid (b = false):=Lib.hid (by
   cases b with
   | false => rfl
   | true => have:=hb.1 rfl; subst this; omega)
  clear h1 h2 hb hn1 hn2 hfew
  go_enter Tryz.func58,Tryz.ntmps58
  go_wp2_with fail
  go_ret
  exact ⟨ret_bool HE.out.symm,Below.refl _ _⟩
end Go.Proofs.YtjfghaohogcfbaaGreatDoor