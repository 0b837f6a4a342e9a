/- TermCheck, ActIn, TransMem, ExprPart, ExprRead, ExprRef, ExprRefLev, ActReadOne, ActRead, TransRead, SynParts, joined. -/
import Derived.Test.YtckojimeglkobaaGreatDoorMConfFills09
import Derived.Test.YtckojimeglkobaaGreatDoorMConfFills07
import Derived.Test.YtckojimeglkobaaGreatDoorMConfFills01
import Derived.Test.YtckojimeglkobaaGreatDoorMConfFills08
import Derived.Deep.LoopGhost
import Derived.Test.YtckojimeglkobaaGreatDoorMConfFills00
import Derived.Test.YtckojimeglkobaaGreatDoorMConfFills06
import Derived.Laws.Tables
import Derived.Deep.RegionHeld3
import Derived.Deep.Cut
namespace Go.Proofs.YtckojimeglkobaaGreatDoor
open Go.RowKit TermSpec
set_option maxRecDepth 100000
theorem whole_yes {l:List Tm} {n:Nat} (hn:n = l.length) (h40:n ≤ 40) (h:endA l 0 = n):wholeB l = true:=by
 refine wholeB_iff.2 ⟨by omega,?_⟩
 obtain ⟨k,m,hk,hc,he,hm,hl⟩:=endA_nn (l:=l) (a:=0) (by omega)
 obtain rfl:k = 0:=by omega
 rw [List.drop_zero] at hc
 rw [hc]
 congr 1
 omega
theorem whole_no {l:List Tm} {n:Nat} (hn:n = l.length) (h:¬ (n ≤ 40 ∧ endA l 0 = n)):wholeB l = false:=by
 rw [Bool.eq_false_iff]
 intro hw
 obtain ⟨h1,h2⟩:=wholeB_iff.1 hw
 refine h ⟨by omega,?_⟩
 have:=endA_some (l:=l) (a:=0) (m:=l.length) (by simpa using h2)
 rw [show (0:Int) = ((0:Nat):Int) from rfl,this]
 omega
theorem tell_no {f:Int → List Int → Int} {l:List Tm} (h:wholeB l = false):tell f l = 0:=by unfold tell; rw [h]; rfl
theorem tell_yes {f:Int → List Int → Int} {l:List Tm} (h:wholeB l = true):tell f l = come f l:=by unfold tell; rw [h]; rfl
theorem comeDep_zero (A:Option Addr) (n c:Nat) (l:List Tm) (hn:n = l.length) (hn62:n ≤ 70368744177664) (w:World) (h:Tms w (.slice A n c) l) (he:0 ≤ endA l 0) :
 Calls Tryz.prog 197 #[.slice A n c,.int .i64 0,.func (.func 195) #[] #[]] w (RetI w (come depF l)):=by
 have:=comeDep_any A n c l hn hn62 0 w h he
 rwa [List.drop_zero] at this
set_option maxHeartbeats 1000000 in
theorem wholeDep_any (A:Option Addr) (n c:Nat) (l:List Tm) (hn:n = l.length) (hn62:n ≤ 70368744177664) (w:World) (h:Tms w (.slice A n c) l) :
 Calls Tryz.prog 179 #[.slice A n c,.func (.func 195) #[] #[]] w (RetI w (tell depF l)):=by
 by_cases h40:40 < n
 ·have HE:=Lib.hid (tell_no (f:=depF) (whole_no hn (by omega)))
  clear hn h
  go_enter Tryz.func179,Tryz.ntmps179
  go_wp2_with fail
  go_ret
  exact ⟨ret_int HE.out.symm,Below.refl _ _⟩
 ·have hE:=end_any A n c l 0 w h hn (by omega)
  have HY:Hid (endA l 0 = n → Calls Tryz.prog 197 #[.slice A n c,.int .i64 0,.func (.func 195) #[] #[]] w (RetI w (come depF l)) ∧ tell depF l = come depF l):=Lib.hid (fun h0 => ⟨comeDep_zero A n c l hn hn62 w h (by omega),tell_yes (whole_yes hn (by omega) h0)⟩)
  have HN:Hid (endA l 0 ≠ n → tell depF l = 0):=Lib.hid (fun h0 => tell_no (whole_no hn (fun h => h0 h.2)))
  obtain ⟨r,hr⟩:∃ r,r = endA l 0:=⟨_,rfl⟩
  rw [← hr] at hE HY HN
  have HE:=Lib.hid hE
  clear hr hE hn h
  by_cases hrn:r = n
  ·have g:(r != (n:Int)) = false:=by simp [hrn]
   have HC:=Lib.hid (HY.out hrn).1
   have HV:=Lib.hid (HY.out hrn).2
   clear hrn HN HY
   go_enter Tryz.func179,Tryz.ntmps179
   go_wp2_with (first
    | (go_at_call 196; (with_reducible refine HE.out.mono ?_); rintro e w' ⟨rfl,rfl⟩)
    | (go_at_call 197; (with_reducible refine HC.out.mono ?_)))
   rintro e w1 ⟨rfl,hb1⟩
   go_wp2_with fail
   go_ret
   exact ⟨ret_int HV.out.symm,hb1⟩
  ·have g:(r != (n:Int)) = true:=by simp [hrn]
   have HV:=Lib.hid (HN.out hrn)
   clear hrn HN HY
   go_enter Tryz.func179,Tryz.ntmps179
   go_wp2_with (go_at_call 196; (with_reducible refine HE.out.mono ?_); rintro e w' ⟨rfl,rfl⟩)
   go_ret
   exact ⟨ret_int HV.out.symm,Below.refl _ _⟩
theorem depth_any (A:Option Addr) (n c:Nat) (l:List Tm) (hn:n = l.length) (hn62:n ≤ 70368744177664) (w:World) (h:Tms w (.slice A n c) l) :
 Calls Tryz.prog 177 #[.slice A n c] w (RetI w (depth l)):=by
 have HC:=Lib.hid (wholeDep_any A n c l hn hn62 w h)
 obtain ⟨r,hr⟩:∃ r,r = tell depF l:=⟨_,rfl⟩
 have HR:Hid (depth l = r):=Lib.hid hr.symm
 rw [← hr] at HC
 clear hr hn h
 go_enter Tryz.func177,Tryz.ntmps177
 go_wp2_with (go_at_call 179; (with_reducible refine HC.out.mono ?_))
 rintro e w1 ⟨rfl,hb1⟩
 go_wp2_with fail
 go_ret
 exact ⟨ret_int HR.out.symm,hb1⟩
theorem comeTyp_zero (A:Option Addr) (n c:Nat) (l:List Tm) (hn:n = l.length) (hn62:n ≤ 70368744177664) (w:World) (h:Tms w (.slice A n c) l) (he:0 ≤ endA l 0) :
 Calls Tryz.prog 197 #[.slice A n c,.int .i64 0,.func (.func 180) #[] #[]] w (RetI w (come typF l)):=by
 have:=comeTyp_any A n c l hn hn62 0 w h he
 rwa [List.drop_zero] at this
set_option maxHeartbeats 1000000 in
theorem wholeTyp_any (A:Option Addr) (n c:Nat) (l:List Tm) (hn:n = l.length) (hn62:n ≤ 70368744177664) (w:World) (h:Tms w (.slice A n c) l) :
 Calls Tryz.prog 179 #[.slice A n c,.func (.func 180) #[] #[]] w (RetI w (tell typF l)):=by
 by_cases h40:40 < n
 ·have HE:=Lib.hid (tell_no (f:=typF) (whole_no hn (by omega)))
  clear hn h
  go_enter Tryz.func179,Tryz.ntmps179
  go_wp2_with fail
  go_ret
  exact ⟨ret_int HE.out.symm,Below.refl _ _⟩
 ·have hE:=end_any A n c l 0 w h hn (by omega)
  have HY:Hid (endA l 0 = n → Calls Tryz.prog 197 #[.slice A n c,.int .i64 0,.func (.func 180) #[] #[]] w (RetI w (come typF l)) ∧ tell typF l = come typF l):=Lib.hid (fun h0 => ⟨comeTyp_zero A n c l hn hn62 w h (by omega),tell_yes (whole_yes hn (by omega) h0)⟩)
  have HN:Hid (endA l 0 ≠ n → tell typF l = 0):=Lib.hid (fun h0 => tell_no (whole_no hn (fun h => h0 h.2)))
  obtain ⟨r,hr⟩:∃ r,r = endA l 0:=⟨_,rfl⟩
  rw [← hr] at hE HY HN
  have HE:=Lib.hid hE
  clear hr hE hn h
  by_cases hrn:r = n
  ·have g:(r != (n:Int)) = false:=by simp [hrn]
   have HC:=Lib.hid (HY.out hrn).1
   have HV:=Lib.hid (HY.out hrn).2
   clear hrn HN HY
   go_enter Tryz.func179,Tryz.ntmps179
   go_wp2_with (first
    | (go_at_call 196; (with_reducible refine HE.out.mono ?_); rintro e w' ⟨rfl,rfl⟩)
    | (go_at_call 197; (with_reducible refine HC.out.mono ?_)))
   rintro e w1 ⟨rfl,hb1⟩
   go_wp2_with fail
   go_ret
   exact ⟨ret_int HV.out.symm,hb1⟩
  ·have g:(r != (n:Int)) = true:=by simp [hrn]
   have HV:=Lib.hid (HN.out hrn)
   clear hrn HN HY
   go_enter Tryz.func179,Tryz.ntmps179
   go_wp2_with (go_at_call 196; (with_reducible refine HE.out.mono ?_); rintro e w' ⟨rfl,rfl⟩)
   go_ret
   exact ⟨ret_int HV.out.symm,Below.refl _ _⟩
theorem typ_any (A:Option Addr) (n c:Nat) (l:List Tm) (hn:n = l.length) (hn62:n ≤ 70368744177664) (w:World) (h:Tms w (.slice A n c) l) :
 Calls Tryz.prog 155 #[.slice A n c] w (RetI w (typ l)):=by
 have HC:=Lib.hid (wholeTyp_any A n c l hn hn62 w h)
 obtain ⟨r,hr⟩:∃ r,r = tell typF l:=⟨_,rfl⟩
 have HR:Hid (typ l = r):=Lib.hid hr.symm
 rw [← hr] at HC
 clear hr hn h
 go_enter Tryz.func155,Tryz.ntmps155
 go_wp2_with (go_at_call 179; (with_reducible refine HC.out.mono ?_))
 rintro e w1 ⟨rfl,hb1⟩
 go_wp2_with fail
 go_ret
 exact ⟨ret_int HR.out.symm,hb1⟩
theorem rwhole_any (A:Option Addr) (n c:Nat) (l:List Tm) (hn:n = l.length) (hn62:n ≤ 70368744177664) (w:World) (h:Tms w (.slice A n c) l) :
 Calls Tryz.prog 96 #[.slice A n c] w (RetB w (wholeB l)):=by
 by_cases h40:40 < n
 ·have HE:=Lib.hid (whole_no hn (by omega))
  have g:¬ (n:Int) ≤ 40:=by omega
  clear hn h
  go_enter Tryz.func96,Tryz.ntmps96
  go_wp2_with fail
  go_ret
  exact ⟨ret_bool HE.out.symm,Below.refl _ _⟩
 ·have hE:=rend_any A n c l 0 w h hn (by omega)
  have h40':(n:Int) ≤ 40:=by omega
  have HV:Hid (wholeB l = (endA l 0 == (n:Int))):=Lib.hid (by
   by_cases h0:endA l 0 = n
   ·rw [whole_yes hn (by omega) h0,h0]; simp
   ·rw [whole_no hn (fun h => h0 h.2)]; symm; simpa using h0)
  obtain ⟨r,hr⟩:∃ r,r = endA l 0:=⟨_,rfl⟩
  rw [← hr] at hE HV
  have HE:=Lib.hid hE
  clear hr hE hn h
  go_enter Tryz.func96,Tryz.ntmps96
  go_wp2_with (go_at_call 112; (with_reducible refine HE.out.mono ?_))
  rintro e w1 ⟨rfl,hb1⟩
  go_wp2_with fail
  go_ret
  exact ⟨ret_bool HV.out.symm,hb1⟩
def AllMay (W:World) (l:List Tm) (n:Nat) (i:Value) (wr:World):Prop:=∃ k:Nat,k ≤ n ∧ i = .int .i64 k ∧ (l.take k).all mayB = true ∧ Below W.heap.size W wr
theorem may_stop {l:List Tm} {k:Nat} {t:Tm} (ht:l[k]? = some t) (h:mayB t = false):l.all mayB = false:=by
 rw [List.all_eq_false]
 exact ⟨t,List.mem_of_getElem? ht,by simp [h]⟩
theorem may_next {l:List Tm} {k:Nat} {t:Tm} (ht:l[k]? = some t) (h0:(l.take k).all mayB = true) (h:mayB t = true):(l.take (k + 1)).all mayB = true:=by
 rw [take_next ht,List.all_append,h0]; simpa using h
theorem chk_full {l:List Tm} (h:40 < l.length):chk l = 8:=by unfold chk; rw [if_pos h]
theorem chk_none {l:List Tm} (h:¬ 40 < l.length) (h1:wholeB l = false):chk l = 1:=by unfold chk; rw [if_neg h,if_pos h1]
theorem chk_may {l:List Tm} (h:¬ 40 < l.length) (h1:wholeB l = true) (h2:l.all mayB = false):chk l = 1:=by unfold chk; rw [if_neg h,if_neg (by simp [h1]),if_pos h2]
theorem chk_last {l:List Tm} (h:¬ 40 < l.length) (h1:wholeB l = true) (h2:l.all mayB = true):chk l = if 12 < depth l then 6 else 0:=by unfold chk; rw [if_neg h,if_neg (by simp [h1]),if_neg (by simp [h2])]
set_option maxHeartbeats 2000000 in
theorem check_any (A:Option Addr) (n c:Nat) (l:List Tm) (hn:n = l.length) (hn62:n ≤ 70368744177664) (hs:Small l) (w:World) (h:Tms w (.slice A n c) l) :
 Calls Tryz.prog 153 #[.slice A n c] w (RetI w (chk l)):=by
 by_cases h40:40 < n
 ·have HE:=Lib.hid (chk_full (l:=l) (by omega))
  clear hn h
  go_enter Tryz.func153,Tryz.ntmps153
  go_wp2_with fail
  go_ret
  exact ⟨ret_int HE.out.symm,Below.refl _ _⟩
 have HD:=Lib.hid (depth_any A n c l hn hn62 w h)
 have h40':¬ 40 < l.length:=by omega
 cases hw:wholeB l with
 | false =>
   have hd:depth l = 0:=depth_zero.2 hw
   rw [hd] at HD
   have HE:=Lib.hid (chk_none h40' hw)
   clear hn h hw hd h40'
   go_enter Tryz.func153,Tryz.ntmps153
   go_wp2_with (go_at_call 177; (with_reducible refine HD.out.mono ?_))
   rintro e w1 ⟨rfl,hb1⟩
   go_wp2_with fail
   go_ret
   exact ⟨ret_int HE.out.symm,hb1⟩
 | true =>
   have hd0:1 ≤ depth l:=by unfold depth; rw [tell_yes hw]; exact (come_depth (wholeB_iff.1 hw).2).1
   have HL:=Lib.hid (fun h2 => chk_last h40' hw h2)
   have HM:=Lib.hid (fun h2 => chk_may h40' hw h2)
   obtain ⟨d,hd⟩:∃ d,d = depth l:=⟨_,rfl⟩
   rw [← hd] at HD HL hd0
   have gd:(d == 0) = false:=by simp; omega
   have HT:=Lib.hid h
   have HN:=Lib.hid hn
   have HS:=Lib.hid hs
   clear hn h hw hd h40' hs
   go_enter Tryz.func153,Tryz.ntmps153
   go_wp2_with (go_at_call 177; (with_reducible refine HD.out.mono ?_))
   rintro e w1 ⟨rfl,hb1⟩
   have HB1:=Lib.hid hb1
   clear hb1
   go_wp2_with fail
   go_loopw [5,15] (fun _ i wr => AllMay w l n i wr) (fun _ i _ => n - (intOf i).toNat)
   case atStart => exact ⟨0,Nat.zero_le _,rfl,rfl,HB1.out⟩
   case round =>
    obtain ⟨k,hk,rfl,hall,hbw⟩:=hrel
    have HA:=Lib.hid hall
    have HB:=Lib.hid hbw
    clear hall hbw
    by_cases hlt:k < n
    ·obtain ⟨t,ht⟩:∃ t,l[k]? = some t:=get_some (by rw [← HN.out]; exact hlt)
     obtain ⟨b,off,rfl,hb,c0,c1,c2⟩:=(HT.out.keep HB.out).at_ ht
     have HC:Hid (∀ w,Calls Tryz.prog 178 #[.agg #[.int .i64 t.op,.int .i64 t.n,.string t.s]] w (RetB w (mayB t))):=Lib.hid (fun w => may_any t w (HS.out t (List.mem_of_getElem? ht)))
     have HX:=Lib.hid ht
     obtain ⟨q,hq⟩:∃ q,q = mayB t:=⟨_,rfl⟩
     rw [← hq] at HC
     have HQ:=Lib.hid hq.symm
     clear ht hq
     cases q with
     | true =>
       go_wp2_with (go_at_call 178; (with_reducible refine (HC.out _).mono ?_))
       rintro e w2 ⟨rfl,hb2⟩
       have HB2:=Lib.hid (below_two' (HB.out.alloc HB.out.size _) hb2)
       clear hb2 c0 c1 c2
       go_wp2_with fail
       go_roundw
       case rel => exact ⟨k + 1,hlt,by simp,may_next HX.out HA.out HQ.out,HB2.out⟩
       case measure => simp [intOf]; omega
     | false =>
       go_wp2_with (go_at_call 178; (with_reducible refine (HC.out _).mono ?_))
       rintro e w2 ⟨rfl,hb2⟩
       have HB2:=Lib.hid (below_two' (HB.out.alloc HB.out.size _) hb2)
       clear hb2 c0 c1 c2
       go_wp2_with fail
       go_ret
       exact ⟨ret_int (HM.out (may_stop HX.out HQ.out)).symm,HB2.out⟩
    ·have HE:Hid (chk l = if 12 < d then 6 else 0):=Lib.hid (HL.out (by have:=HA.out; rwa [List.take_of_length_le (by rw [← HN.out]; omega)] at this))
     by_cases h12:12 < d
     all_goals
      go_wp2_with fail
      go_ret
      exact ⟨ret_int (by rw [HE.out]; first | rw [if_pos h12] | rw [if_neg (by omega)]),HB.out⟩
theorem rdep_zero (A:Option Addr) (n c:Nat) (l:List Tm) (hn:n = l.length) (hn62:n ≤ 70368744177664) (w:World) (h:Tms w (.slice A n c) l) (hw:wholeB l = true) :
 Calls Tryz.prog 98 #[.slice A n c,.int .i64 0] w (RetI w (depth l)):=by
 have h2:=(wholeB_iff.1 hw).2
 have:=rdep_any A n c l hn hn62 0 w h (by rw [endA_some (m:=l.length) (by simpa using h2)]; omega)
 rw [List.drop_zero] at this
 unfold depth
 rwa [tell_yes hw]
theorem rtyp_zero (A:Option Addr) (n c:Nat) (l:List Tm) (hn:n = l.length) (hn62:n ≤ 70368744177664) (w:World) (h:Tms w (.slice A n c) l) (hw:wholeB l = true) :
 Calls Tryz.prog 99 #[.slice A n c,.int .i64 0] w (RetI w (typ l)):=by
 have h2:=(wholeB_iff.1 hw).2
 have:=rtyp_any A n c l hn hn62 0 w h (by rw [endA_some (m:=l.length) (by simpa using h2)]; omega)
 rw [List.drop_zero] at this
 unfold typ
 rwa [tell_yes hw]
set_option maxHeartbeats 2000000 in
theorem rcheck_any (A:Option Addr) (n c:Nat) (l:List Tm) (hn:n = l.length) (hn62:n ≤ 70368744177664) (hs:Small l) (w:World) (h:Tms w (.slice A n c) l) :
 Calls Tryz.prog 75 #[.slice A n c] w (RetI w (chk l)):=by
 by_cases h40:40 < n
 ·have HE:=Lib.hid (chk_full (l:=l) (by omega))
  clear hn h
  go_enter Tryz.func75,Tryz.ntmps75
  go_wp2_with fail
  go_ret
  exact ⟨ret_int HE.out.symm,Below.refl _ _⟩
 have HD:=Lib.hid (rwhole_any A n c l hn hn62 w h)
 have h40':¬ 40 < l.length:=by omega
 cases hw:wholeB l with
 | false =>
   rw [hw] at HD
   have HE:=Lib.hid (chk_none h40' hw)
   clear hn h hw h40'
   go_enter Tryz.func75,Tryz.ntmps75
   go_wp2_with (go_at_call 96; (with_reducible refine HD.out.mono ?_))
   rintro e w1 ⟨rfl,hb1⟩
   go_wp2_with fail
   go_ret
   exact ⟨ret_int HE.out.symm,hb1⟩
 | true =>
   rw [hw] at HD
   have HL:=Lib.hid (fun h2 => chk_last h40' hw h2)
   have HM:=Lib.hid (fun h2 => chk_may h40' hw h2)
   have HDD:=Lib.hid (fun w h => rdep_zero A n c l hn hn62 w h hw)
   have HVAL:Hid (∀ t ∈ l,0 ≤ ar t.op):=Lib.hid (by have:=cnt_valid (wholeB_iff.1 hw).2; rwa [List.take_of_length_le (Nat.le_refl _)] at this)
   obtain ⟨d,hd⟩:∃ d,d = depth l:=⟨_,rfl⟩
   rw [← hd] at HL HDD
   have HT:=Lib.hid h
   have HN:=Lib.hid hn
   have HS:=Lib.hid hs
   clear hn h hw hd h40' hs
   go_enter Tryz.func75,Tryz.ntmps75
   go_wp2_with (go_at_call 96; (with_reducible refine HD.out.mono ?_))
   rintro e w1 ⟨rfl,hb1⟩
   have HB1:=Lib.hid hb1
   clear hb1
   go_wp2_with fail
   go_loopw [3] (fun i wr => AllMay w l n i wr) (fun i _ => n - (intOf i).toNat)
   case atStart => exact ⟨0,Nat.zero_le _,rfl,rfl,HB1.out⟩
   case round =>
    obtain ⟨k,hk,rfl,hall,hbw⟩:=hrel
    have HA:=Lib.hid hall
    have HB:=Lib.hid hbw
    clear hall hbw
    by_cases hlt:k < n
    ·obtain ⟨t,ht⟩:∃ t,l[k]? = some t:=get_some (by rw [← HN.out]; exact hlt)
     obtain ⟨b,off,rfl,hb,c0,c1,c2⟩:=(HT.out.keep HB.out).at_ ht
     have HC:Hid (∀ w,Calls Tryz.prog 97 #[.agg #[.int .i64 t.op,.int .i64 t.n,.string t.s]] w (RetB w (mayB t))):=Lib.hid (fun w => rmay_any t w (HS.out t (List.mem_of_getElem? ht)) (HVAL.out t (List.mem_of_getElem? ht)))
     have HX:=Lib.hid ht
     obtain ⟨q,hq⟩:∃ q,q = mayB t:=⟨_,rfl⟩
     rw [← hq] at HC
     have HQ:=Lib.hid hq.symm
     clear ht hq
     cases q with
     | true =>
       go_wp2_with (go_at_call 97; (with_reducible refine (HC.out _).mono ?_))
       rintro e w2 ⟨rfl,hb2⟩
       have HB2:=Lib.hid (below_two' HB.out hb2)
       clear hb2 c0 c1 c2
       go_wp2_with fail
       go_roundw
       case rel => exact ⟨k + 1,hlt,by simp,may_next HX.out HA.out HQ.out,HB2.out⟩
       case measure => simp [intOf]; omega
     | false =>
       go_wp2_with (go_at_call 97; (with_reducible refine (HC.out _).mono ?_))
       rintro e w2 ⟨rfl,hb2⟩
       have HB2:=Lib.hid (below_two' HB.out hb2)
       clear hb2 c0 c1 c2
       go_wp2_with fail
       go_ret
       exact ⟨ret_int (HM.out (may_stop HX.out HQ.out)).symm,HB2.out⟩
    ·have HE:Hid (chk l = if 12 < d then 6 else 0):=Lib.hid (HL.out (by have:=HA.out; rwa [List.take_of_length_le (by rw [← HN.out]; omega)] at this))
     have HDW:=Lib.hid (HDD.out wr (HT.out.keep HB.out))
     by_cases h12:12 < d
     all_goals
      go_wp2_with (go_at_call 98; (with_reducible refine HDW.out.mono ?_))
      rintro e w2 ⟨rfl,hb2⟩
      go_wp2_with fail
      go_ret
      exact ⟨ret_int (by rw [HE.out]; first | rw [if_pos h12] | rw [if_neg (by omega)]),below_two' HB.out hb2⟩
end Go.Proofs.YtckojimeglkobaaGreatDoor
namespace Go.Proofs.YtckojimeglkobaaGreatDoor
open Go.RowKit TermSpec EvalSpec ActSpec NamesSpec
set_option maxRecDepth 100000
structure AP where
 a:Ac
 xA:Option Addr
 xn:Nat
 xc:Nat
def acV (p:AP):List Value:=[.string p.a.s,.bool p.a.any,.slice p.xA p.xn p.xc]
def acsV (l:List AP):List Value:=l.flatMap acV
theorem acV_length (p:AP):(acV p).length = 3:=rfl
theorem acV_one (p:AP):∀ u ∈ acV p,u.oneCell' = true:=by simp [acV,Value.oneCell']
theorem acsV_one (l:List AP):∀ u ∈ acsV l,u.oneCell' = true:=by
 intro u hu
 obtain ⟨t,_,h⟩:=List.mem_flatMap.1 hu
 exact acV_one t u h
theorem acsV_append (a b:List AP):acsV a ++ acsV b = acsV (a ++ b):=by unfold acsV; rw [List.flatMap_append]
theorem acsV_get {l:List AP} {i:Nat} {p:AP} (h:l[i]? = some p):(acsV l)[i * 3]? = some (.string p.a.s) ∧ (acsV l)[i * 3 + 1]? = some (.bool p.a.any) ∧ (acsV l)[i * 3 + 2]? = some (.slice p.xA p.xn p.xc) :=
 ⟨flat_get (j:=0) acV_length h (by omega),flat_get (j:=1) acV_length h (by omega),flat_get (j:=2) acV_length h (by omega)⟩
def Acs (w:World) (v:Value) (l:List Ac):Prop:=∃ ps:List AP,ps.map (·.a) = l ∧ Rdk 3 w v l.length (acsV ps) ∧ ∀ p ∈ ps,Tms w (.slice p.xA p.xn p.xc) p.a.x
theorem Acs.keep {w w':World} {v:Value} {l:List Ac} (h:Acs w v l) (hb:Below w.heap.size w w'):Acs w' v l:=by
 obtain ⟨ps,hm,hr,hx⟩:=h
 exact ⟨ps,hm,hr.keep hb,fun p hp => (hx p hp).keep hb⟩
theorem Acs.shape {w:World} {v:Value} {l:List Ac} (h:Acs w v l):∃ A n c,v = .slice A n c ∧ n = l.length ∧ n ≤ c:=by
 obtain ⟨ps,hm,⟨A,c,hv,hc,_⟩,_⟩:=h
 exact ⟨A,_,c,hv,rfl,hc⟩
theorem Acs.len {w:World} {A:Option Addr} {n c:Nat} {l:List Ac} (h:Acs w (.slice A n c) l):n = l.length ∧ n ≤ c:=by
 obtain ⟨A',n',c',heq,hn,hc⟩:=h.shape
 cases heq
 exact ⟨hn,hc⟩
theorem Acs.at_ {w:World} {A:Option Addr} {n c:Nat} {l:List Ac} {i:Nat} {a:Ac} (h:Acs w (.slice A n c) l) (hi:l[i]? = some a) :
 ∃ b off xA xn xc,A = some ⟨b,off,none⟩ ∧ b < w.heap.size ∧ Tms w (.slice xA xn xc) a.x ∧ w.cell? ⟨b,off + i * 3,none⟩ = some (.string a.s) ∧ w.cell? ⟨b,off + i * 3 + 1,none⟩ = some (.bool a.any) ∧ w.cell? ⟨b,off + i * 3 + 2,none⟩ = some (.slice xA xn xc):=by
 obtain ⟨ps,hm,⟨A',c',heq,hc,hl,hA⟩,hx⟩:=h
 cases heq
 subst hm
 have:=get_lt hi
 obtain ⟨b,off,rfl,hb,hcell⟩:=hA (by omega)
 rw [List.getElem?_map] at hi
 cases hp:ps[i]? with
 | none => rw [hp] at hi; cases hi
 | some p =>
   rw [hp] at hi
   cases hi
   obtain ⟨g0,g1,g2⟩:=acsV_get hp
   exact ⟨b,off,p.xA,p.xn,p.xc,rfl,hb,hx p (List.mem_of_getElem? hp),hcell _ _ g0,by rw [Nat.add_assoc]; exact hcell _ _ g1,by rw [Nat.add_assoc]; exact hcell _ _ g2⟩
def SmallA (a:Ac):Prop:=a.s.size ≤ 9223372036854775807 ∧ Small a.x ∧ a.x.length ≤ 4398046511104
theorem oneA_name {a:Ac} (h:isName a.s.data.toList = false):oneA a = 1:=by unfold oneA; rw [if_pos h]
theorem oneA_expr {a:Ac} (h:isName a.s.data.toList = true) (h2:a.any = false):oneA a = chk a.x:=by unfold oneA; rw [if_neg (by simp [h]),if_pos h2]
theorem oneA_any {a:Ac} (h:isName a.s.data.toList = true) (h2:a.any = true):oneA a = if a.x.length = 0 then 0 else 1:=by unfold oneA; rw [if_neg (by simp [h]),if_neg (by simp [h2])]
set_option maxHeartbeats 1000000 in
theorem rone_act (a:Ac) (A:Option Addr) (n c:Nat) (hs:SmallA a) (w:World) (h:Tms w (.slice A n c) a.x) :
 Calls Tryz.prog 74 #[.agg #[.string a.s,.bool a.any,.slice A n c]] w (RetI w (oneA a)):=by
 obtain ⟨A',n',c',heq,hn,hnc⟩:=h.shape
 cases heq
 have HIS:=Lib.hid (fun w => ris_any a.s w hs.1)
 have HC:=Lib.hid (fun w h => rcheck_any A n c a.x hn (by have:=hs.2.2; omega) hs.2.1 w h)
 have HT:=Lib.hid h
 obtain ⟨q,hq⟩:∃ q,q = isName a.s.data.toList:=⟨_,rfl⟩
 rw [← hq] at HIS
 obtain ⟨r,hr⟩:∃ r,r = oneA a:=⟨_,rfl⟩
 rw [← hr]
 rcases hb:q with _ | _
 ·rw [hb] at HIS hq
  have HR:=Lib.hid (hr.trans (oneA_name hq.symm))
  obtain ⟨s,any,x⟩:=a
  simp only at HIS HC HT hn ⊢
  clear hs h hq hr hb hn
  go_enter Tryz.func74,Tryz.ntmps74
  go_wp2_with (go_at_call 51; (with_reducible refine (HIS.out _).mono ?_))
  rintro e2 w2 ⟨rfl,hb2⟩
  have HB2:=Lib.hid (below_two' (KitC.below_one _ _) hb2)
  clear hb2
  go_wp2_with fail
  go_ret
  exact ⟨ret_int HR.out.symm,HB2.out⟩
 ·rw [hb] at HIS hq
  rcases ha:a.any with _ | _
  ·have HR:=Lib.hid (hr.trans (oneA_expr hq.symm ha))
   obtain ⟨s,any,x⟩:=a
   simp only at HIS HC HT HR hn ha ⊢
   subst ha
   obtain ⟨m,hm⟩:∃ m,m = chk x:=⟨_,rfl⟩
   rw [← hm] at HR HC
   clear hs h hq hr hb hn hm
   go_enter Tryz.func74,Tryz.ntmps74
   go_wp2_with (go_at_call 51; (with_reducible refine (HIS.out _).mono ?_))
   rintro e2 w2 ⟨rfl,hb2⟩
   obtain ⟨B2,hbb,_⟩:=KitC.one_block hb2
   have HB2:=Lib.hid hbb
   obtain ⟨c0,c1,c2⟩:=cells_3 B2
   clear hb2 hbb B2
   go_wp2_with (go_at_call 75; (with_reducible refine (HC.out _ (HT.out.keep HB2.out)).mono ?_))
   rintro e2 w3 ⟨rfl,hb3⟩
   have HB3:=Lib.hid (below_two' HB2.out hb3)
   clear hb3
   go_wp2_with fail
   go_ret
   exact ⟨ret_int HR.out.symm,HB3.out⟩
  ·have HR0:=Lib.hid (hr.trans (oneA_any hq.symm ha))
   rw [← hn] at HR0
   obtain ⟨s,any,x⟩:=a
   simp only at HIS HC HT hn ha ⊢
   subst ha
   by_cases h0:n = 0
   ·have HR:Hid (r = 0):=Lib.hid (by rw [HR0.out,if_pos h0])
    have g:decide (0 < n) = false:=by simp; omega
    clear hs h hq hr hb hn h0 HR0
    go_enter Tryz.func74,Tryz.ntmps74
    go_wp2_with (go_at_call 51; (with_reducible refine (HIS.out _).mono ?_))
    rintro e2 w2 ⟨rfl,hb2⟩
    obtain ⟨B2,hbb,_⟩:=KitC.one_block hb2
    have HB2:=Lib.hid hbb
    obtain ⟨c0,c1,c2⟩:=cells_3 B2
    clear hb2 hbb B2
    go_wp2_with fail
    go_ret
    exact ⟨ret_int HR.out.symm,HB2.out⟩
   ·have HR:Hid (r = 1):=Lib.hid (by rw [HR0.out,if_neg h0])
    have g:decide (0 < n) = true:=by simp; omega
    clear hs h hq hr hb hn h0 HR0
    go_enter Tryz.func74,Tryz.ntmps74
    go_wp2_with (go_at_call 51; (with_reducible refine (HIS.out _).mono ?_))
    rintro e2 w2 ⟨rfl,hb2⟩
    obtain ⟨B2,hbb,_⟩:=KitC.one_block hb2
    have HB2:=Lib.hid hbb
    obtain ⟨c0,c1,c2⟩:=cells_3 B2
    clear hb2 hbb B2
    go_wp2_with fail
    go_ret
    exact ⟨ret_int HR.out.symm,HB2.out⟩
end Go.Proofs.YtckojimeglkobaaGreatDoor
namespace Go.Proofs.YtckojimeglkobaaGreatDoor
open Go.RowKit TermSpec EvalSpec ActSpec NamesSpec ExprSpec TransSpec
structure SmallT (t:Tr):Prop where
 ev:t.ev.size ≤ 9223372036854775807
 tg:t.tg.size ≤ 9223372036854775807
 g:Small t.g
 glen:t.g.length ≤ 4398046511104
 acts:∀ a ∈ t.acts,SmallA a
 alen:t.acts.length ≤ 9223372036854775807
structure TrIn (W:World) (gA:Option Addr) (gn gc:Nat) (aA:Option Addr) (an ac:Nat) (t:Tr):Prop where
 g:Tms W (.slice gA gn gc) t.g
 a:Acs W (.slice aA an ac) t.acts
section
variable {W W':World} {gA aA:Option Addr} {gn gc an ac:Nat} {t:Tr}
theorem TrIn.keep (h:TrIn W gA gn gc aA an ac t) (hb:Below W.heap.size W W'):TrIn W' gA gn gc aA an ac t:=⟨h.g.keep hb,h.a.keep hb⟩
theorem TrIn.alloc (h:TrIn W gA gn gc aA an ac t) (o:Obj):TrIn (W.alloc o) gA gn gc aA an ac t:=h.keep (KitC.below_one W o)
theorem TrIn.len (h:TrIn W gA gn gc aA an ac t):gn = t.g.length ∧ an = t.acts.length:=by
 obtain ⟨A',n',c',heq,hn,-⟩:=h.g.shape
 cases heq
 exact ⟨hn,h.a.len.1⟩
theorem TrIn.cap (h:TrIn W gA gn gc aA an ac t):gn ≤ gc ∧ an ≤ ac:=by
 obtain ⟨A',n',c',heq,-,hc⟩:=h.g.shape
 cases heq
 exact ⟨hc,h.a.len.2⟩
end
theorem okN_nil {s:ByteArray} (h:s.size = 0):okN s = true:=by unfold okN; simp [h]
theorem okN_pos {s:ByteArray} (h:0 < s.size):okN s = isName s.data.toList:=by
 unfold okN
 rw [decide_eq_false (show ¬ s.size = 0 by omega)]
 rfl
theorem chkT_name {t:Tr} (h:okN t.ev = false ∨ okN t.tg = false):chkT t = 1:=by unfold chkT; rw [if_pos h]
theorem chkT_nog {t:Tr} (h1:okN t.ev = true) (h2:okN t.tg = true) (h:t.g.length = 0):chkT t = chkA t.acts:=by unfold chkT; rw [if_neg (by rw [h1,h2]; simp),if_neg (fun h' => h'.1 h)]
theorem chkT_bad {t:Tr} (h1:okN t.ev = true) (h2:okN t.tg = true) (h:t.g.length ≠ 0) (hk:chk t.g ≠ 0):chkT t = chk t.g:=by unfold chkT; rw [if_neg (by rw [h1,h2]; simp),if_pos ⟨h,hk⟩]
theorem chkT_good {t:Tr} (h1:okN t.ev = true) (h2:okN t.tg = true) (hk:chk t.g = 0):chkT t = chkA t.acts:=by unfold chkT; rw [if_neg (by rw [h1,h2]; simp),if_neg (fun h' => h'.2 hk)]
end Go.Proofs.YtckojimeglkobaaGreatDoor
namespace Go.Proofs.YtckojimeglkobaaGreatDoor
open Go.RowKit CurSpec TermSpec ExprSpec NamesSpec
end Go.Proofs.YtckojimeglkobaaGreatDoor
namespace Go.Proofs.YtckojimeglkobaaGreatDoor
open Go.RowKit CurSpec TermSpec ExprSpec NamesSpec
end Go.Proofs.YtckojimeglkobaaGreatDoor
namespace Go.Proofs.YtckojimeglkobaaGreatDoor
open Go.RowKit CurSpec TermSpec ExprSpec NamesSpec
theorem Tms.own {w:World} {base n:Nat} {v:Value} {l:List Tm} (hn:n = l.length) (h:w.ownsRow base 100 3 v n (tmsV l)):Tms w v l:=⟨n,hn,Rdk.own h⟩
end Go.Proofs.YtckojimeglkobaaGreatDoor
namespace Go.Proofs.YtckojimeglkobaaGreatDoor
open Go.RowKit CurSpec TermSpec ExprSpec NamesSpec
end Go.Proofs.YtckojimeglkobaaGreatDoor
namespace Go.Proofs.YtckojimeglkobaaGreatDoor
open Go.RowKit CurSpec TermSpec EvalSpec ActSpec NamesSpec ExprSpec
set_option maxRecDepth 100000
theorem store_three {w:World} {b:Nat} (h:Blk w b 3) (u0 u1 u2:Value) :
 (w.setCell ⟨b,0,none⟩ u0).cell? ⟨b,0,none⟩ = some u0 ∧ ((w.setCell ⟨b,0,none⟩ u0).setCell ⟨b,1,none⟩ u1).cell? ⟨b,1,none⟩ = some u1 ∧
 (((w.setCell ⟨b,0,none⟩ u0).setCell ⟨b,1,none⟩ u1).setCell ⟨b,2,none⟩ u2).cell? ⟨b,2,none⟩ = some u2 :=
 ⟨h.read 0 (by omega) _,(h.set _ _).read 1 (by omega) _,((h.set _ _).set _ _).read 2 (by omega) _⟩
theorem set_three (w:World) (b:Nat) (u0 u1 u2:Value):w.grownBy (((w.setCell ⟨b,0,none⟩ u0).setCell ⟨b,1,none⟩ u1).setCell ⟨b,2,none⟩ u2) (some b):=but_set (but_set (but_set (but_refl _ _) 0 _) 1 _) 2 _
end Go.Proofs.YtckojimeglkobaaGreatDoor
namespace Go.Proofs.YtckojimeglkobaaGreatDoor
open Go.RowKit CurSpec TermSpec EvalSpec ActSpec NamesSpec ExprSpec
set_option maxRecDepth 100000
def AcsFar (B0:Nat) (w:World) (v:Value) (l:List Ac):Prop:=∃ ps:List AP,ps.map (·.a) = l ∧ Rdk 3 w v l.length (acsV ps) ∧ (∀ p ∈ ps,Tms w (.slice p.xA p.xn p.xc) p.a.x) ∧ (∀ b,v.ownBlock = some b → B0 ≤ b) ∧ ∀ p ∈ ps,0 < p.xn → ∀ b,(Value.slice p.xA p.xn p.xc).ownBlock = some b → B0 ≤ b
theorem AcsFar.acs {B0:Nat} {w:World} {v:Value} {l:List Ac} (h:AcsFar B0 w v l):Acs w v l:=by
 obtain ⟨ps,h1,h2,h3,-⟩:=h
 exact ⟨ps,h1,h2,h3⟩
theorem AcsFar.nil (B0:Nat) (w:World):AcsFar B0 w (.slice none 0 0) []:=⟨[],rfl,Rdk.nil 3 _,by simp,by simp [Value.ownBlock],by simp⟩
structure RowA (W:World) (B:Nat) (wr:World) (pv:Value) (ps:List AP):Prop where
 own:wr.ownsRow W.heap.size 98 3 pv ps.length (acsV ps)
 tms:∀ p ∈ ps,Tms wr (.slice p.xA p.xn p.xc) p.a.x
 apart:∀ p ∈ ps,0 < p.xn → ∀ b,(Value.slice p.xA p.xn p.xc).ownBlock = some b → W.heap.size ≤ b ∧ pv.ownBlock ≠ some b ∧ b < wr.heap.size
 grown:W.grownBy wr (some B)
 lt:B < W.heap.size
theorem tms_lt {w:World} {A:Option Addr} {n c:Nat} {l:List Tm} (h:Tms w (.slice A n c) l) (h0:0 < n) {b:Nat} (hb:(Value.slice A n c).ownBlock = some b):b < w.heap.size:=by
 obtain ⟨m,hm,A',c',heq,hc,hl,hA⟩:=h
 cases heq
 obtain ⟨b',off,rfl,hlt,_⟩:=hA h0
 injection hb with hb
 subst hb
 exact hlt
section
variable {W wr w':World} {B:Nat} {pv:Value} {ps:List AP}
theorem tms_row {A:Option Addr} {n c:Nat} {l:List Tm} {ob:Option Nat} (h:Tms wr (.slice A n c) l) (hb:wr.grownBy w' ob) (hne:0 < n → ∀ b,(Value.slice A n c).ownBlock = some b → ob ≠ some b):Tms w' (.slice A n c) l:=by
 obtain ⟨m,hm,A',c',heq,hc,hl,hA⟩:=h
 cases heq
 refine ⟨_,hm,A,c,rfl,hc,hl,fun h0 => ?_⟩
 obtain ⟨b,off,rfl,hlt,hcell⟩:=hA h0
 refine ⟨b,off,rfl,Nat.lt_of_lt_of_le hlt hb.size,fun j u hj => ?_⟩
 have:=hb.block b hlt (fun e => hne h0 b rfl e.symm)
 rw [← hcell j u hj]
 simp [World.cell?,this]
theorem RowA.but (h:RowA W B wr pv ps) (hb:wr.grownBy w' (some B)):RowA W B w' pv ps :=
 ⟨own_but h.own hb h.lt,fun p hp => tms_row (h.tms p hp) hb (fun h0 b e he => by have h1:=(h.apart p hp h0 b e).1; have h2:=h.lt; injection he with he; omega),fun p hp h0 b e => ⟨(h.apart p hp h0 b e).1,(h.apart p hp h0 b e).2.1,Nat.lt_of_lt_of_le (h.apart p hp h0 b e).2.2 hb.size⟩,but_trans h.grown hb,h.lt⟩
theorem RowA.keep (h:RowA W B wr pv ps) (hb:Below wr.heap.size wr w'):RowA W B w' pv ps:=h.but (but_below hb)
theorem RowA.far (h:RowA W B wr pv ps):AcsFar W.heap.size wr pv (ps.map (·.a)):=⟨ps,rfl,by rw [List.length_map]; exact Rdk.own h.own,h.tms,fun b hb => (own_block_bd h.own b hb).1,fun p hp h0 b hb => (h.apart p hp h0 b hb).1⟩
theorem RowA.acs (h:RowA W B wr pv ps):Acs wr pv (ps.map (·.a)):=⟨ps,rfl,by rw [List.length_map]; exact Rdk.own h.own,h.tms⟩
theorem RowA.add {p:AP} {pv':Value} {o:Obj} (h:RowA W B wr pv ps) (ht:Tms wr (.slice p.xA p.xn p.xc) p.a.x)
 (hap:∀ b,(Value.slice p.xA p.xn p.xc).ownBlock = some b → W.heap.size ≤ b ∧ pv.ownBlock ≠ some b)
 (hrow:w'.ownsRow W.heap.size 98 3 pv' (ps.length + 1) (acsV ps ++ acsV [p])) (hg:(wr.alloc o).grownBy w' pv.ownBlock) (hob:pv'.ownBlock = pv.ownBlock ∨ pv'.ownBlock = some (wr.alloc o).heap.size) :
 RowA W B w' pv' (ps ++ [p]):=by
 have ha:Below wr.heap.size wr (wr.alloc o):=KitC.below_one wr o
 have hbd:=fun j hj => (own_block_bd h.own j hj).1
 have hall:∀ q ∈ ps ++ [p],Tms wr (.slice q.xA q.xn q.xc) q.a.x ∧ (0 < q.xn → ∀ b,(Value.slice q.xA q.xn q.xc).ownBlock = some b → W.heap.size ≤ b ∧ pv.ownBlock ≠ some b ∧ b < wr.heap.size):=fun q hq => by
  rcases List.mem_append.1 hq with hq | hq
  ·exact ⟨h.tms q hq,h.apart q hq⟩
  ·rw [List.mem_singleton] at hq
   subst hq
   exact ⟨ht,fun h0 b hb => ⟨(hap b hb).1,(hap b hb).2,tms_lt ht h0 hb⟩⟩
 refine ⟨by rw [← acsV_append,List.length_append]; exact hrow,fun q hq => tms_row ((hall q hq).1.keep ha) hg fun h0 b hb => ((hall q hq).2 h0 b hb).2.1,fun q hq h0 b hb => ?_,?_,h.lt⟩
 ·obtain ⟨h1,h2,h3⟩:=(hall q hq).2 h0 b hb
  refine ⟨h1,?_,Nat.lt_of_lt_of_le h3 (Nat.le_trans ha.size hg.size)⟩
  rcases hob with e | e
  ·rw [e]; exact h2
  ·rw [e,World.size_alloc]; intro e; injection e with e; omega
 ·have hgw:=h.grown
  refine ⟨hg.os.trans hgw.os,hg.tape.trans hgw.tape,hg.output.trans hgw.output,Nat.le_trans hgw.size (Nat.le_trans ha.size hg.size),fun i hi hn => ?_⟩
  have hi2:i < wr.heap.size:=Nat.lt_of_lt_of_le hi hgw.size
  refine (hg.block i (Nat.lt_of_lt_of_le hi2 ha.size) fun e => ?_).trans ((ha.block i hi2).trans (hgw.block i hi hn))
  have:=hbd i e.symm
  omega
theorem RowA.one {p:AP} (hg:W.grownBy wr (some B)) (hB:B < W.heap.size) (ht:Tms wr (.slice p.xA p.xn p.xc) p.a.x) (hap:∀ b,(Value.slice p.xA p.xn p.xc).ownBlock = some b → W.heap.size ≤ b) :
 RowA W B (wr.alloc (.cells #[.string p.a.s,.bool p.a.any,.slice p.xA p.xn p.xc] 98)) (.slice (some ⟨wr.heap.size,0,none⟩) 1 1) [p]:=by
 have ha:Below wr.heap.size wr (wr.alloc (.cells #[.string p.a.s,.bool p.a.any,.slice p.xA p.xn p.xc] 98)):=KitC.below_one wr _
 refine ⟨World.ownsRow_lit wr _ 1 hg.size (by decide) rfl,fun q hq => ?_,fun q hq h0 b hb => ?_,but_trans hg (but_below ha),hB⟩
 ·rw [List.mem_singleton] at hq
  subst hq
  exact ht.keep ha
 ·rw [List.mem_singleton] at hq
  subst hq
  have:=tms_lt ht h0 hb
  refine ⟨hap b hb,fun e => ?_,Nat.lt_of_lt_of_le this ha.size⟩
  injection e with e
  simp only at e
  omega
end
end Go.Proofs.YtckojimeglkobaaGreatDoor
namespace Go.Proofs.YtckojimeglkobaaGreatDoor
open Go.RowKit CurSpec TermSpec EvalSpec ActSpec NamesSpec ExprSpec TransSpec
set_option maxRecDepth 100000
theorem rdk_but {k n:Nat} {w w':World} {A:Option Addr} {m cp:Nat} {xs:List Value} {ob:Option Nat} (h:Rdk k w (.slice A m cp) n xs) (hb:w.grownBy w' ob) (hne:∀ b,(Value.slice A m cp).ownBlock = some b → ob ≠ some b):Rdk k w' (.slice A m cp) n xs:=by
 obtain ⟨A',c',heq,hc,hl,hA⟩:=h
 cases heq
 refine ⟨A,cp,rfl,hc,hl,fun h0 => ?_⟩
 obtain ⟨b,off,rfl,hlt,hcell⟩:=hA h0
 refine ⟨b,off,rfl,Nat.lt_of_lt_of_le hlt hb.size,fun j u hj => ?_⟩
 rw [← hcell j u hj]
 have:=hb.block b hlt (fun e => hne b rfl e.symm)
 simp [World.cell?,this]
theorem AcsFar.but {B0 E:Nat} {w w':World} {A:Option Addr} {n c:Nat} {l:List Ac} (h:AcsFar B0 w (.slice A n c) l) (hb:w.grownBy w' (some E)) (hE:E < B0):AcsFar B0 w' (.slice A n c) l:=by
 obtain ⟨ps,h1,h2,h3,h4,h5⟩:=h
 refine ⟨ps,h1,rdk_but h2 hb (fun b hb' e => by have:=h4 b hb'; injection e with e; omega),fun p hp => tms_row (h3 p hp) hb (fun h0 b hb' e => by have:=h5 p hp h0 b hb'; injection e with e; omega),h4,h5⟩
theorem AcsFar.mono {B0 B1:Nat} {w:World} {v:Value} {l:List Ac} (h:AcsFar B0 w v l) (hl:B1 ≤ B0):AcsFar B1 w v l:=by
 obtain ⟨ps,h1,h2,h3,h4,h5⟩:=h
 exact ⟨ps,h1,h2,h3,fun b hb => Nat.le_trans hl (h4 b hb),fun p hp h0 b hb => Nat.le_trans hl (h5 p hp h0 b hb)⟩
section
variable {W wx wy:World} {B T:Nat} {c c':Cur} {gA aA:Option Addr} {gn gc an ac:Nat} {t:Tr}
end
end Go.Proofs.YtckojimeglkobaaGreatDoor
namespace Go.Proofs.YtckojimeglkobaaGreatDoor
open Go.RowKit CurSpec TermSpec EvalSpec ActSpec NamesSpec ExprSpec TransSpec SynSpec
set_option maxRecDepth 100000
end Go.Proofs.YtckojimeglkobaaGreatDoor