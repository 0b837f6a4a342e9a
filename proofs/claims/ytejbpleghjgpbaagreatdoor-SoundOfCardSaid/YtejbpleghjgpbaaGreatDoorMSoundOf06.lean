/- TermCheck, ExprRead, CurNew, ScanSpec, ScanRef, ScanRefOne, ScanRefToks, ScanProgSpec, ScanFirst, ScanMark, ScanNext, ScanRead, ScanToks, ExprParse, ExprScan, ActScan, TransScan, PrintSpec, RulesSpec, SoundSpec, joined. -/
import Derived.Test.YtejbpleghjgpbaaGreatDoorMSoundOf05
import Derived.Test.YtejbpleghjgpbaaGreatDoorMSoundOf03
import Derived.Test.YtejbpleghjgpbaaGreatDoorMSoundOf04
import Derived.Test.YtejbpleghjgpbaaGreatDoorMSoundOf02
import Derived.Deep.AppendLies
import Derived.Laws.MakeOwn
import Derived.OwnWalk
import Derived.Test.YtejbpleghjgpbaaGreatDoorMSoundOf00
import Derived.Test.YtejbpleghjgpbaaGreatDoorRows
import Derived.Test.YtejbpleghjgpbaaGreatDoorMSoundOf01
import Derived.BigQuiet
import Derived.Deep.QuietTactic
import Derived.IntWalk
import Derived.Deep.RegionHeld3
import Derived.Lib.Bytealg
import Derived.Lib.Strings
import Derived.RegionTactic
import Derived.ChangeAlike
import Derived.Deep.LoopGhost
namespace Go.Proofs.YtejbpleghjgpbaaGreatDoor
open Go.RowKit TermSpec
set_option maxRecDepth 100000
theorem whole_yes {l:List Tm} {n:Nat} (hn:n = l.length) (h40:n ≤ 40) (h:endA l 0 = n):wholeB l = true:=by
 refine wholeB_iff.2 ⟨by omega,?_⟩
 obtain ⟨k,m,hk,hc,he,hm,hl⟩:=endA_nn (l:=l) (a:=0) (by omega)
 obtain rfl:k = 0:=by omega
 rw [List.drop_zero] at hc
 rw [hc]
 congr 1
 omega
theorem whole_no {l:List Tm} {n:Nat} (hn:n = l.length) (h:¬ (n ≤ 40 ∧ endA l 0 = n)):wholeB l = false:=by
 rw [Bool.eq_false_iff]
 intro hw
 obtain ⟨h1,h2⟩:=wholeB_iff.1 hw
 refine h ⟨by omega,?_⟩
 have:=endA_some (l:=l) (a:=0) (m:=l.length) (by simpa using h2)
 rw [show (0:Int) = ((0:Nat):Int) from rfl,this]
 omega
theorem tell_no {f:Int → List Int → Int} {l:List Tm} (h:wholeB l = false):tell f l = 0:=by unfold tell; rw [h]; rfl
theorem tell_yes {f:Int → List Int → Int} {l:List Tm} (h:wholeB l = true):tell f l = come f l:=by unfold tell; rw [h]; rfl
theorem comeDep_zero (A:Option Addr) (n c:Nat) (l:List Tm) (hn:n = l.length) (hn62:n ≤ 70368744177664) (w:World) (h:Tms w (.slice A n c) l) (he:0 ≤ endA l 0) :
 Calls Tryz.prog 101 #[.slice A n c,.int .i64 0,.func (.func 99) #[] #[]] w (RetI w (come depF l)):=by
 have:=comeDep_any A n c l hn hn62 0 w h he
 rwa [List.drop_zero] at this
set_option maxHeartbeats 1000000 in
theorem wholeDep_any (A:Option Addr) (n c:Nat) (l:List Tm) (hn:n = l.length) (hn62:n ≤ 70368744177664) (w:World) (h:Tms w (.slice A n c) l) :
 Calls Tryz.prog 96 #[.slice A n c,.func (.func 99) #[] #[]] w (RetI w (tell depF l)):=by
 by_cases h40:40 < n
 ·have HE:=Lib.hid (tell_no (f:=depF) (whole_no hn (by omega)))
  clear hn h
  go_enter Tryz.func96,Tryz.ntmps96
  go_wp2_with fail
  go_ret
  exact ⟨ret_int HE.out.symm,Below.refl _ _⟩
 ·have hE:=end_any A n c l 0 w h hn (by omega)
  have HY:Hid (endA l 0 = n → Calls Tryz.prog 101 #[.slice A n c,.int .i64 0,.func (.func 99) #[] #[]] w (RetI w (come depF l)) ∧ tell depF l = come depF l):=Lib.hid (fun h0 => ⟨comeDep_zero A n c l hn hn62 w h (by omega),tell_yes (whole_yes hn (by omega) h0)⟩)
  have HN:Hid (endA l 0 ≠ n → tell depF l = 0):=Lib.hid (fun h0 => tell_no (whole_no hn (fun h => h0 h.2)))
  obtain ⟨r,hr⟩:∃ r,r = endA l 0:=⟨_,rfl⟩
  rw [← hr] at hE HY HN
  have HE:=Lib.hid hE
  clear hr hE hn h
  by_cases hrn:r = n
  ·have g:(r != (n:Int)) = false:=by simp [hrn]
   have HC:=Lib.hid (HY.out hrn).1
   have HV:=Lib.hid (HY.out hrn).2
   clear hrn HN HY
   go_enter Tryz.func96,Tryz.ntmps96
   go_wp2_with (first
    | (go_at_call 100; (with_reducible refine HE.out.mono ?_); rintro e w' ⟨rfl,rfl⟩)
    | (go_at_call 101; (with_reducible refine HC.out.mono ?_)))
   rintro e w1 ⟨rfl,hb1⟩
   go_wp2_with fail
   go_ret
   exact ⟨ret_int HV.out.symm,hb1⟩
  ·have g:(r != (n:Int)) = true:=by simp [hrn]
   have HV:=Lib.hid (HN.out hrn)
   clear hrn HN HY
   go_enter Tryz.func96,Tryz.ntmps96
   go_wp2_with (go_at_call 100; (with_reducible refine HE.out.mono ?_); rintro e w' ⟨rfl,rfl⟩)
   go_ret
   exact ⟨ret_int HV.out.symm,Below.refl _ _⟩
theorem depth_any (A:Option Addr) (n c:Nat) (l:List Tm) (hn:n = l.length) (hn62:n ≤ 70368744177664) (w:World) (h:Tms w (.slice A n c) l) :
 Calls Tryz.prog 94 #[.slice A n c] w (RetI w (depth l)):=by
 have HC:=Lib.hid (wholeDep_any A n c l hn hn62 w h)
 obtain ⟨r,hr⟩:∃ r,r = tell depF l:=⟨_,rfl⟩
 have HR:Hid (depth l = r):=Lib.hid hr.symm
 rw [← hr] at HC
 clear hr hn h
 go_enter Tryz.func94,Tryz.ntmps94
 go_wp2_with (go_at_call 96; (with_reducible refine HC.out.mono ?_))
 rintro e w1 ⟨rfl,hb1⟩
 go_wp2_with fail
 go_ret
 exact ⟨ret_int HR.out.symm,hb1⟩
theorem comeTyp_zero (A:Option Addr) (n c:Nat) (l:List Tm) (hn:n = l.length) (hn62:n ≤ 70368744177664) (w:World) (h:Tms w (.slice A n c) l) (he:0 ≤ endA l 0) :
 Calls Tryz.prog 101 #[.slice A n c,.int .i64 0,.func (.func 97) #[] #[]] w (RetI w (come typF l)):=by
 have:=comeTyp_any A n c l hn hn62 0 w h he
 rwa [List.drop_zero] at this
set_option maxHeartbeats 1000000 in
theorem wholeTyp_any (A:Option Addr) (n c:Nat) (l:List Tm) (hn:n = l.length) (hn62:n ≤ 70368744177664) (w:World) (h:Tms w (.slice A n c) l) :
 Calls Tryz.prog 96 #[.slice A n c,.func (.func 97) #[] #[]] w (RetI w (tell typF l)):=by
 by_cases h40:40 < n
 ·have HE:=Lib.hid (tell_no (f:=typF) (whole_no hn (by omega)))
  clear hn h
  go_enter Tryz.func96,Tryz.ntmps96
  go_wp2_with fail
  go_ret
  exact ⟨ret_int HE.out.symm,Below.refl _ _⟩
 ·have hE:=end_any A n c l 0 w h hn (by omega)
  have HY:Hid (endA l 0 = n → Calls Tryz.prog 101 #[.slice A n c,.int .i64 0,.func (.func 97) #[] #[]] w (RetI w (come typF l)) ∧ tell typF l = come typF l):=Lib.hid (fun h0 => ⟨comeTyp_zero A n c l hn hn62 w h (by omega),tell_yes (whole_yes hn (by omega) h0)⟩)
  have HN:Hid (endA l 0 ≠ n → tell typF l = 0):=Lib.hid (fun h0 => tell_no (whole_no hn (fun h => h0 h.2)))
  obtain ⟨r,hr⟩:∃ r,r = endA l 0:=⟨_,rfl⟩
  rw [← hr] at hE HY HN
  have HE:=Lib.hid hE
  clear hr hE hn h
  by_cases hrn:r = n
  ·have g:(r != (n:Int)) = false:=by simp [hrn]
   have HC:=Lib.hid (HY.out hrn).1
   have HV:=Lib.hid (HY.out hrn).2
   clear hrn HN HY
   go_enter Tryz.func96,Tryz.ntmps96
   go_wp2_with (first
    | (go_at_call 100; (with_reducible refine HE.out.mono ?_); rintro e w' ⟨rfl,rfl⟩)
    | (go_at_call 101; (with_reducible refine HC.out.mono ?_)))
   rintro e w1 ⟨rfl,hb1⟩
   go_wp2_with fail
   go_ret
   exact ⟨ret_int HV.out.symm,hb1⟩
  ·have g:(r != (n:Int)) = true:=by simp [hrn]
   have HV:=Lib.hid (HN.out hrn)
   clear hrn HN HY
   go_enter Tryz.func96,Tryz.ntmps96
   go_wp2_with (go_at_call 100; (with_reducible refine HE.out.mono ?_); rintro e w' ⟨rfl,rfl⟩)
   go_ret
   exact ⟨ret_int HV.out.symm,Below.refl _ _⟩
theorem typ_any (A:Option Addr) (n c:Nat) (l:List Tm) (hn:n = l.length) (hn62:n ≤ 70368744177664) (w:World) (h:Tms w (.slice A n c) l) :
 Calls Tryz.prog 91 #[.slice A n c] w (RetI w (typ l)):=by
 have HC:=Lib.hid (wholeTyp_any A n c l hn hn62 w h)
 obtain ⟨r,hr⟩:∃ r,r = tell typF l:=⟨_,rfl⟩
 have HR:Hid (typ l = r):=Lib.hid hr.symm
 rw [← hr] at HC
 clear hr hn h
 go_enter Tryz.func91,Tryz.ntmps91
 go_wp2_with (go_at_call 96; (with_reducible refine HC.out.mono ?_))
 rintro e w1 ⟨rfl,hb1⟩
 go_wp2_with fail
 go_ret
 exact ⟨ret_int HR.out.symm,hb1⟩
theorem rwhole_any (A:Option Addr) (n c:Nat) (l:List Tm) (hn:n = l.length) (hn62:n ≤ 70368744177664) (w:World) (h:Tms w (.slice A n c) l) :
 Calls Tryz.prog 62 #[.slice A n c] w (RetB w (wholeB l)):=by
 by_cases h40:40 < n
 ·have HE:=Lib.hid (whole_no hn (by omega))
  have g:¬ (n:Int) ≤ 40:=by omega
  clear hn h
  go_enter Tryz.func62,Tryz.ntmps62
  go_wp2_with fail
  go_ret
  exact ⟨ret_bool HE.out.symm,Below.refl _ _⟩
 ·have hE:=rend_any A n c l 0 w h hn (by omega)
  have h40':(n:Int) ≤ 40:=by omega
  have HV:Hid (wholeB l = (endA l 0 == (n:Int))):=Lib.hid (by
   by_cases h0:endA l 0 = n
   ·rw [whole_yes hn (by omega) h0,h0]; simp
   ·rw [whole_no hn (fun h => h0 h.2)]; symm; simpa using h0)
  obtain ⟨r,hr⟩:∃ r,r = endA l 0:=⟨_,rfl⟩
  rw [← hr] at hE HV
  have HE:=Lib.hid hE
  clear hr hE hn h
  go_enter Tryz.func62,Tryz.ntmps62
  go_wp2_with (go_at_call 80; (with_reducible refine HE.out.mono ?_))
  rintro e w1 ⟨rfl,hb1⟩
  go_wp2_with fail
  go_ret
  exact ⟨ret_bool HV.out.symm,hb1⟩
def AllMay (W:World) (l:List Tm) (n:Nat) (i:Value) (wr:World):Prop:=∃ k:Nat,k ≤ n ∧ i = .int .i64 k ∧ (l.take k).all mayB = true ∧ Below W.heap.size W wr
theorem may_stop {l:List Tm} {k:Nat} {t:Tm} (ht:l[k]? = some t) (h:mayB t = false):l.all mayB = false:=by
 rw [List.all_eq_false]
 exact ⟨t,List.mem_of_getElem? ht,by simp [h]⟩
theorem may_next {l:List Tm} {k:Nat} {t:Tm} (ht:l[k]? = some t) (h0:(l.take k).all mayB = true) (h:mayB t = true):(l.take (k + 1)).all mayB = true:=by
 rw [take_next ht,List.all_append,h0]; simpa using h
theorem chk_full {l:List Tm} (h:40 < l.length):chk l = 8:=by unfold chk; rw [if_pos h]
theorem chk_none {l:List Tm} (h:¬ 40 < l.length) (h1:wholeB l = false):chk l = 1:=by unfold chk; rw [if_neg h,if_pos h1]
theorem chk_may {l:List Tm} (h:¬ 40 < l.length) (h1:wholeB l = true) (h2:l.all mayB = false):chk l = 1:=by unfold chk; rw [if_neg h,if_neg (by simp [h1]),if_pos h2]
theorem chk_last {l:List Tm} (h:¬ 40 < l.length) (h1:wholeB l = true) (h2:l.all mayB = true):chk l = if 12 < depth l then 6 else 0:=by unfold chk; rw [if_neg h,if_neg (by simp [h1]),if_neg (by simp [h2])]
set_option maxHeartbeats 2000000 in
theorem check_any (A:Option Addr) (n c:Nat) (l:List Tm) (hn:n = l.length) (hn62:n ≤ 70368744177664) (hs:Small l) (w:World) (h:Tms w (.slice A n c) l) :
 Calls Tryz.prog 89 #[.slice A n c] w (RetI w (chk l)):=by
 by_cases h40:40 < n
 ·have HE:=Lib.hid (chk_full (l:=l) (by omega))
  clear hn h
  go_enter Tryz.func89,Tryz.ntmps89
  go_wp2_with fail
  go_ret
  exact ⟨ret_int HE.out.symm,Below.refl _ _⟩
 have HD:=Lib.hid (depth_any A n c l hn hn62 w h)
 have h40':¬ 40 < l.length:=by omega
 cases hw:wholeB l with
 | false =>
   have hd:depth l = 0:=depth_zero.2 hw
   rw [hd] at HD
   have HE:=Lib.hid (chk_none h40' hw)
   clear hn h hw hd h40'
   go_enter Tryz.func89,Tryz.ntmps89
   go_wp2_with (go_at_call 94; (with_reducible refine HD.out.mono ?_))
   rintro e w1 ⟨rfl,hb1⟩
   go_wp2_with fail
   go_ret
   exact ⟨ret_int HE.out.symm,hb1⟩
 | true =>
   have hd0:1 ≤ depth l:=by unfold depth; rw [tell_yes hw]; exact (come_depth (wholeB_iff.1 hw).2).1
   have HL:=Lib.hid (fun h2 => chk_last h40' hw h2)
   have HM:=Lib.hid (fun h2 => chk_may h40' hw h2)
   obtain ⟨d,hd⟩:∃ d,d = depth l:=⟨_,rfl⟩
   rw [← hd] at HD HL hd0
   have gd:(d == 0) = false:=by simp; omega
   have HT:=Lib.hid h
   have HN:=Lib.hid hn
   have HS:=Lib.hid hs
   clear hn h hw hd h40' hs
   go_enter Tryz.func89,Tryz.ntmps89
   go_wp2_with (go_at_call 94; (with_reducible refine HD.out.mono ?_))
   rintro e w1 ⟨rfl,hb1⟩
   have HB1:=Lib.hid hb1
   clear hb1
   go_wp2_with fail
   go_loopw [5,15] (fun _ i wr => AllMay w l n i wr) (fun _ i _ => n - (intOf i).toNat)
   case atStart => exact ⟨0,Nat.zero_le _,rfl,rfl,HB1.out⟩
   case round =>
    obtain ⟨k,hk,rfl,hall,hbw⟩:=hrel
    have HA:=Lib.hid hall
    have HB:=Lib.hid hbw
    clear hall hbw
    by_cases hlt:k < n
    ·obtain ⟨t,ht⟩:∃ t,l[k]? = some t:=get_some (by rw [← HN.out]; exact hlt)
     obtain ⟨b,off,rfl,hb,c0,c1,c2⟩:=(HT.out.keep HB.out).at_ ht
     have HC:Hid (∀ w,Calls Tryz.prog 95 #[.agg #[.int .i64 t.op,.int .i64 t.n,.string t.s]] w (RetB w (mayB t))):=Lib.hid (fun w => may_any t w (HS.out t (List.mem_of_getElem? ht)))
     have HX:=Lib.hid ht
     obtain ⟨q,hq⟩:∃ q,q = mayB t:=⟨_,rfl⟩
     rw [← hq] at HC
     have HQ:=Lib.hid hq.symm
     clear ht hq
     cases q with
     | true =>
       go_wp2_with (go_at_call 95; (with_reducible refine (HC.out _).mono ?_))
       rintro e w2 ⟨rfl,hb2⟩
       have HB2:=Lib.hid (below_two' (HB.out.alloc HB.out.size _) hb2)
       clear hb2 c0 c1 c2
       go_wp2_with fail
       go_roundw
       case rel => exact ⟨k + 1,hlt,by simp,may_next HX.out HA.out HQ.out,HB2.out⟩
       case measure => simp [intOf]; omega
     | false =>
       go_wp2_with (go_at_call 95; (with_reducible refine (HC.out _).mono ?_))
       rintro e w2 ⟨rfl,hb2⟩
       have HB2:=Lib.hid (below_two' (HB.out.alloc HB.out.size _) hb2)
       clear hb2 c0 c1 c2
       go_wp2_with fail
       go_ret
       exact ⟨ret_int (HM.out (may_stop HX.out HQ.out)).symm,HB2.out⟩
    ·have HE:Hid (chk l = if 12 < d then 6 else 0):=Lib.hid (HL.out (by have:=HA.out; rwa [List.take_of_length_le (by rw [← HN.out]; omega)] at this))
     by_cases h12:12 < d
     all_goals
      go_wp2_with fail
      go_ret
      exact ⟨ret_int (by rw [HE.out]; first | rw [if_pos h12] | rw [if_neg (by omega)]),HB.out⟩
theorem rdep_zero (A:Option Addr) (n c:Nat) (l:List Tm) (hn:n = l.length) (hn62:n ≤ 70368744177664) (w:World) (h:Tms w (.slice A n c) l) (hw:wholeB l = true) :
 Calls Tryz.prog 64 #[.slice A n c,.int .i64 0] w (RetI w (depth l)):=by
 have h2:=(wholeB_iff.1 hw).2
 have:=rdep_any A n c l hn hn62 0 w h (by rw [endA_some (m:=l.length) (by simpa using h2)]; omega)
 rw [List.drop_zero] at this
 unfold depth
 rwa [tell_yes hw]
theorem rtyp_zero (A:Option Addr) (n c:Nat) (l:List Tm) (hn:n = l.length) (hn62:n ≤ 70368744177664) (w:World) (h:Tms w (.slice A n c) l) (hw:wholeB l = true) :
 Calls Tryz.prog 79 #[.slice A n c,.int .i64 0] w (RetI w (typ l)):=by
 have h2:=(wholeB_iff.1 hw).2
 have:=rtyp_any A n c l hn hn62 0 w h (by rw [endA_some (m:=l.length) (by simpa using h2)]; omega)
 rw [List.drop_zero] at this
 unfold typ
 rwa [tell_yes hw]
set_option maxHeartbeats 2000000 in
theorem rcheck_any (A:Option Addr) (n c:Nat) (l:List Tm) (hn:n = l.length) (hn62:n ≤ 70368744177664) (hs:Small l) (w:World) (h:Tms w (.slice A n c) l) :
 Calls Tryz.prog 43 #[.slice A n c] w (RetI w (chk l)):=by
 by_cases h40:40 < n
 ·have HE:=Lib.hid (chk_full (l:=l) (by omega))
  clear hn h
  go_enter Tryz.func43,Tryz.ntmps43
  go_wp2_with fail
  go_ret
  exact ⟨ret_int HE.out.symm,Below.refl _ _⟩
 have HD:=Lib.hid (rwhole_any A n c l hn hn62 w h)
 have h40':¬ 40 < l.length:=by omega
 cases hw:wholeB l with
 | false =>
   rw [hw] at HD
   have HE:=Lib.hid (chk_none h40' hw)
   clear hn h hw h40'
   go_enter Tryz.func43,Tryz.ntmps43
   go_wp2_with (go_at_call 62; (with_reducible refine HD.out.mono ?_))
   rintro e w1 ⟨rfl,hb1⟩
   go_wp2_with fail
   go_ret
   exact ⟨ret_int HE.out.symm,hb1⟩
 | true =>
   rw [hw] at HD
   have HL:=Lib.hid (fun h2 => chk_last h40' hw h2)
   have HM:=Lib.hid (fun h2 => chk_may h40' hw h2)
   have HDD:=Lib.hid (fun w h => rdep_zero A n c l hn hn62 w h hw)
   have HVAL:Hid (∀ t ∈ l,0 ≤ ar t.op):=Lib.hid (by have:=cnt_valid (wholeB_iff.1 hw).2; rwa [List.take_of_length_le (Nat.le_refl _)] at this)
   obtain ⟨d,hd⟩:∃ d,d = depth l:=⟨_,rfl⟩
   rw [← hd] at HL HDD
   have HT:=Lib.hid h
   have HN:=Lib.hid hn
   have HS:=Lib.hid hs
   clear hn h hw hd h40' hs
   go_enter Tryz.func43,Tryz.ntmps43
   go_wp2_with (go_at_call 62; (with_reducible refine HD.out.mono ?_))
   rintro e w1 ⟨rfl,hb1⟩
   have HB1:=Lib.hid hb1
   clear hb1
   go_wp2_with fail
   go_loopw [3] (fun i wr => AllMay w l n i wr) (fun i _ => n - (intOf i).toNat)
   case atStart => exact ⟨0,Nat.zero_le _,rfl,rfl,HB1.out⟩
   case round =>
    obtain ⟨k,hk,rfl,hall,hbw⟩:=hrel
    have HA:=Lib.hid hall
    have HB:=Lib.hid hbw
    clear hall hbw
    by_cases hlt:k < n
    ·obtain ⟨t,ht⟩:∃ t,l[k]? = some t:=get_some (by rw [← HN.out]; exact hlt)
     obtain ⟨b,off,rfl,hb,c0,c1,c2⟩:=(HT.out.keep HB.out).at_ ht
     have HC:Hid (∀ w,Calls Tryz.prog 63 #[.agg #[.int .i64 t.op,.int .i64 t.n,.string t.s]] w (RetB w (mayB t))):=Lib.hid (fun w => rmay_any t w (HS.out t (List.mem_of_getElem? ht)) (HVAL.out t (List.mem_of_getElem? ht)))
     have HX:=Lib.hid ht
     obtain ⟨q,hq⟩:∃ q,q = mayB t:=⟨_,rfl⟩
     rw [← hq] at HC
     have HQ:=Lib.hid hq.symm
     clear ht hq
     cases q with
     | true =>
       go_wp2_with (go_at_call 63; (with_reducible refine (HC.out _).mono ?_))
       rintro e w2 ⟨rfl,hb2⟩
       have HB2:=Lib.hid (below_two' HB.out hb2)
       clear hb2 c0 c1 c2
       go_wp2_with fail
       go_roundw
       case rel => exact ⟨k + 1,hlt,by simp,may_next HX.out HA.out HQ.out,HB2.out⟩
       case measure => simp [intOf]; omega
     | false =>
       go_wp2_with (go_at_call 63; (with_reducible refine (HC.out _).mono ?_))
       rintro e w2 ⟨rfl,hb2⟩
       have HB2:=Lib.hid (below_two' HB.out hb2)
       clear hb2 c0 c1 c2
       go_wp2_with fail
       go_ret
       exact ⟨ret_int (HM.out (may_stop HX.out HQ.out)).symm,HB2.out⟩
    ·have HE:Hid (chk l = if 12 < d then 6 else 0):=Lib.hid (HL.out (by have:=HA.out; rwa [List.take_of_length_le (by rw [← HN.out]; omega)] at this))
     have HDW:=Lib.hid (HDD.out wr (HT.out.keep HB.out))
     by_cases h12:12 < d
     all_goals
      go_wp2_with (go_at_call 64; (with_reducible refine HDW.out.mono ?_))
      rintro e w2 ⟨rfl,hb2⟩
      go_wp2_with fail
      go_ret
      exact ⟨ret_int (by rw [HE.out]; first | rw [if_pos h12] | rw [if_neg (by omega)]),below_two' HB.out hb2⟩
end Go.Proofs.YtejbpleghjgpbaaGreatDoor
namespace Go.Proofs.YtejbpleghjgpbaaGreatDoor
open Go.RowKit CurSpec TermSpec ExprSpec NamesSpec
end Go.Proofs.YtejbpleghjgpbaaGreatDoor
namespace Go.Proofs.YtejbpleghjgpbaaGreatDoor
open Go.RowKit CurSpec
end Go.Proofs.YtejbpleghjgpbaaGreatDoor
namespace Go.Proofs.YtejbpleghjgpbaaGreatDoor
namespace ScanSpec
def isLow (c:UInt8):Bool:=decide (97 ≤ (c.toNat:Int)) && decide ((c.toNat:Int) ≤ 122)
def isDig (c:UInt8):Bool:=decide (48 ≤ (c.toNat:Int)) && decide ((c.toNat:Int) ≤ 57)
def isBlank (c:UInt8):Bool:=(c.toNat == 32 || c.toNat == 9) || c.toNat == 10 || c.toNat == 13
def clsB (c:UInt8):Int:=if isLow c then 1 else if isDig c then 2 else if c.toNat = 95 then 3 else if isBlank c then 4 else if c.toNat = 35 then 5 else 0
def cls (l:List UInt8) (i:Nat):Int:=match l[i]? with | some c => clsB c | none => 0
def run (p:UInt8 → Bool):List UInt8 → Nat
 | [] => 0
 | c :: t => if p c then run p t + 1 else 0
def isWord (c:UInt8):Bool:=decide (1 ≤ clsB c) && decide (clsB c ≤ 3)
def isNum (c:UInt8):Bool:=decide (clsB c = 2)
def marks:List (List UInt8):=[[45,62],[58,61],[60,61],[62,61],[33,61],[61,61],[46,46],[123],[125],[91],[93],[40],[41],[44],[59],[61],[60],[62],[43],[45],[42],[47]]
def markLen (d:List UInt8):Nat:=match marks.find? fun m => m.isPrefixOf d with | some m => m.length | none => 0
def one (d:List UInt8):Int × Nat × Int :=
 if cls d 0 = 1 then (if 12 < run isWord d then (0,0,5) else (1,run isWord d,0))
 else if cls d 0 = 2 then (if cls d (run isNum d) = 1 ∨ cls d (run isNum d) = 3 then (0,0,2) else if 9 < run isNum d then (0,0,5) else (2,run isNum d,0))
 else if markLen d = 0 then (0,0,2) else (3,markLen d,0)
def posGo:List UInt8 → Int × Int → Int × Int
 | [],p => p
 | c :: t,p => posGo t (if c.toNat = 10 then (p.1 + 1,1) else (p.1,p.2 + 1))
def pos (l:List UInt8) (i:Nat):Int × Int:=posGo (l.take i) (1,1)
end ScanSpec
end Go.Proofs.YtejbpleghjgpbaaGreatDoor
namespace Go.Proofs.YtejbpleghjgpbaaGreatDoor
open Go.RowKit ScanSpec
end Go.Proofs.YtejbpleghjgpbaaGreatDoor
namespace Go.Proofs.YtejbpleghjgpbaaGreatDoor
open Go.RowKit ScanSpec Go.BigFrame
end Go.Proofs.YtejbpleghjgpbaaGreatDoor
namespace Go.Proofs.YtejbpleghjgpbaaGreatDoor
open Go.RowKit ScanSpec
end Go.Proofs.YtejbpleghjgpbaaGreatDoor
namespace Go.Proofs.YtejbpleghjgpbaaGreatDoor
open Go.RowKit ScanSpec
end Go.Proofs.YtejbpleghjgpbaaGreatDoor
namespace Go.Proofs.YtejbpleghjgpbaaGreatDoor
open Go.RowKit ScanSpec
end Go.Proofs.YtejbpleghjgpbaaGreatDoor
namespace Go.Proofs.YtejbpleghjgpbaaGreatDoor
open Go.RowKit ScanSpec
set_option maxRecDepth 100000
end Go.Proofs.YtejbpleghjgpbaaGreatDoor
namespace Go.Proofs.YtejbpleghjgpbaaGreatDoor
open Go.RowKit ScanSpec
end Go.Proofs.YtejbpleghjgpbaaGreatDoor
namespace Go.Proofs.YtejbpleghjgpbaaGreatDoor
open Go.RowKit ScanSpec
end Go.Proofs.YtejbpleghjgpbaaGreatDoor
namespace Go.Proofs.YtejbpleghjgpbaaGreatDoor
open Go.RowKit ScanSpec
end Go.Proofs.YtejbpleghjgpbaaGreatDoor
namespace Go.Proofs.YtejbpleghjgpbaaGreatDoor
open Go.RowKit CurSpec TermSpec ExprSpec NamesSpec ScanSpec
theorem Tms.but {w w':World} {A:Option Addr} {n cp B:Nat} {l:List Tm} (h:Tms w (.slice A n cp) l) (hb:w.grownBy w' (some B)) (hne:(Value.slice A n cp).ownBlock ≠ some B):Tms w' (.slice A n cp) l:=by
 obtain ⟨m,hm,A',c',heq,hc,hl,hA⟩:=h
 cases heq
 refine ⟨n,hm,A,cp,rfl,hc,hl,fun h0 => ?_⟩
 obtain ⟨b,off,rfl,hlt,hcell⟩:=hA h0
 refine ⟨b,off,rfl,Nat.lt_of_lt_of_le hlt hb.size,fun j u hj => ?_⟩
 rw [← hcell j u hj]
 have:=hb.block b hlt (fun e => hne (by rw [← e]; rfl))
 simp [World.cell?,this]
end Go.Proofs.YtejbpleghjgpbaaGreatDoor
namespace Go.Proofs.YtejbpleghjgpbaaGreatDoor
namespace ExprSpec
open CurSpec TermSpec ScanSpec
abbrev T (s:ByteArray):List UInt8:=s.data.toList
end ExprSpec
end Go.Proofs.YtejbpleghjgpbaaGreatDoor
namespace Go.Proofs.YtejbpleghjgpbaaGreatDoor
namespace ActSpec
open CurSpec TermSpec EvalSpec NamesSpec ExprSpec ScanSpec
end ActSpec
end Go.Proofs.YtejbpleghjgpbaaGreatDoor
namespace Go.Proofs.YtejbpleghjgpbaaGreatDoor
namespace TransSpec
open CurSpec TermSpec EvalSpec NamesSpec ExprSpec ScanSpec ActSpec
def Behind (c:Cur) (ws:List ByteArray):Prop:=(next c).k = 3 ∧ (next c).t ∈ ws
end TransSpec
end Go.Proofs.YtejbpleghjgpbaaGreatDoor
namespace Go.Proofs.YtejbpleghjgpbaaGreatDoor
namespace PrintSpec
open CurSpec TermSpec EvalSpec NamesSpec ExprSpec ScanSpec ActSpec TransSpec SynSpec
open ShapeSpec (Sh up sf endOf)
def shOf (s:Sx):Sh:=⟨s.kind,s.par⟩
def smallV (n:Int):Bool:=decide (-1000 ≤ n) && decide (n ≤ 1000)
def okV (v:Vr):Bool:=isName v.s.data.toList && (smallV v.lo && (smallV v.hi && smallV v.ini))
def okS (s:Sx):Bool:=isName s.s.data.toList && (decide (chkA s.en = 0) && (decide (chkA s.ex = 0) && (decide (s.tr.length ≤ 16) && s.tr.all fun t => decide (chkT t = 0))))
def mayC (x:Cx):Bool :=
 isName x.s.data.toList && (decide (x.evs.length ≤ 8) && (decide (x.vars.length ≤ 4) && (decide (ShapeSpec.chk (x.sts.map shOf) = 0) && ((x.evs.all fun e => isName e.data.toList) && (x.vars.all okV && x.sts.all okS)))))
structure Ts where
 s:ByteArray
 kind:Int
 par:Int
 en:List Ta
 ex:List Ta
 tr:List Tt
structure Ts.Ok (t:Ts):Prop where
 nm:isName t.s.data.toList = true
 en:∀ a ∈ t.en,a.Ok
 enf:t.en.length ≤ 8
 ex:∀ a ∈ t.ex,a.Ok
 exf:t.ex.length ≤ 8
 tr:∀ a ∈ t.tr,a.Ok
 trf:t.tr.length ≤ 16
structure Tc where
 s:ByteArray
 evs:List ByteArray
 vars:List Vr
 sts:List Ts
def Tc.sh (c:Tc):List Sh:=c.sts.map fun t => ⟨t.kind,t.par⟩
structure Tc.Ok (c:Tc):Prop where
 nm:isName c.s.data.toList = true
 evf:c.evs.length ≤ 8
 vaf:c.vars.length ≤ 4
 sh:ShapeSpec.chk c.sh = 0
 evs:∀ e ∈ c.evs,isName e.data.toList = true
 vars:∀ v ∈ c.vars,okV v = true
 sts:∀ t ∈ c.sts,t.Ok
section
variable (sh:List Sh)
end
section
variable (sh:List Sh)
end
end PrintSpec
end Go.Proofs.YtejbpleghjgpbaaGreatDoor
namespace Go.Proofs.YtejbpleghjgpbaaGreatDoor
namespace RulesSpec
open CurSpec TermSpec EvalSpec NamesSpec ActSpec TransSpec SynSpec PrintSpec
open ShapeSpec (Sh kids)
structure Fw where
 r:Int
 i:Int
 p:Int
def oneF (b:Bool) (f:Fw):List Fw:=if b then [f] else []
def itemsF (r:Int) (l:List Int):List Fw:=l.map fun i => ⟨r,i,0⟩
def plTo (f:Nat → Bool):Nat → List Int
 | 0 => []
 | k + 1 => plTo f k ++ if f k then [(k:Int)] else []
theorem plTo_yes {f:Nat → Bool} {k:Nat} (h:f k = true):plTo f (k + 1) = plTo f k ++ [(k:Int)]:=by show plTo f k ++ _ = _; rw [if_pos h]
theorem plTo_no {f:Nat → Bool} {k:Nat} (h:f k = false):plTo f (k + 1) = plTo f k:=by show plTo f k ++ _ = _; rw [if_neg (by simp [h]),List.append_nil]
theorem plTo_length (f:Nat → Bool) (k:Nat):(plTo f k).length ≤ k:=by
 induction k with
 | zero => exact Nat.le_refl _
 | succ k ih =>
   cases h:f k with
   | true => rw [plTo_yes h,List.length_append]; simp; exact ih
   | false => rw [plTo_no h]; omega
theorem plTo_twins (l:List ByteArray) (k:Nat):plTo (fun i => hasS (l.take i) (l.getD i ByteArray.empty)) k = twinsTo l k:=by
 induction k with
 | zero => rfl
 | succ k ih =>
   unfold twinsTo at ih ⊢
   rw [List.range_succ,List.filter_append,List.map_append,← ih,List.filter_cons]
   show plTo _ k ++ _ = _
   dsimp only
   by_cases h:hasS (l.take k) (l.getD k ByteArray.empty) = true
   ·rw [if_pos h,if_pos h]; rfl
   ·rw [if_neg h,if_neg h]; rfl
theorem itemsF_append (r:Int) (a b:List Int):itemsF r (a ++ b) = itemsF r a ++ itemsF r b:=List.map_append ..
theorem itemsF_length (r:Int) (l:List Int):(itemsF r l).length = l.length:=List.length_map _
def vnC (x:Cx):List ByteArray:=x.vars.map (·.s)
def snC (x:Cx):List ByteArray:=x.sts.map (·.s)
def termR (vs ss:List ByteArray) (t:Tm):Bool:=(!decide (t.op = 2) || hasS vs t.s) && (!decide (t.op = 11) || hasS ss t.s)
def exprR (vs ss:List ByteArray) (l:List Tm) (ty:Int):Bool:=l.all (termR vs ss) && decide (typ l = ty)
def allIn (l all:List ByteArray):Bool:=l.all (hasS all)
theorem names_in (vs ss:List ByteArray) (l:List Tm):l.all (termR vs ss) = (allIn (namesOf l 2) vs && allIn (namesOf l 11) ss):=by
 induction l with
 | nil => rfl
 | cons t r ih =>
   have e:∀ (o:Int) (q:List ByteArray),allIn (namesOf (t :: r) o) q = ((!decide (t.op = o) || hasS q t.s) && allIn (namesOf r o) q):=by
    intro o q
    unfold allIn namesOf
    rw [List.filter_cons]
    by_cases h:t.op = o <;> simp [h]
   rw [List.all_cons,ih,e,e]
   unfold termR
   cases (!decide (t.op = 2) || hasS vs t.s) <;> cases (!decide (t.op = 11) || hasS ss t.s) <;> cases allIn (namesOf r 2) vs <;> cases allIn (namesOf r 11) ss <;> rfl
theorem exprR_is (vs ss:List ByteArray) (l:List Tm) (ty:Int):exprR vs ss l ty = (decide (typ l = ty) && (allIn (namesOf l 2) vs && allIn (namesOf l 11) ss)):=by
 unfold exprR
 rw [names_in,Bool.and_comm]
def actR (vs ss:List ByteArray) (any:Bool) (a:Ac):Bool:=hasS vs a.s && (if a.any then any else exprR vs ss a.x 1)
def actsR (vs ss:List ByteArray) (any:Bool) (l:List Ac):Bool:=l.all (actR vs ss any)
def noneAny (l:List Ac):Bool:=l.all fun a => !a.any
theorem edge_is (vs ss:List ByteArray) (l:List Ac):actsR vs ss false l = (noneAny l && actsR vs ss true l):=by
 induction l with
 | nil => rfl
 | cons a r ih =>
   unfold actsR noneAny at ih ⊢
   rw [List.all_cons,List.all_cons,List.all_cons,ih]
   unfold actR
   cases a.any <;> cases hasS vs a.s <;> cases exprR vs ss a.x 1 <;> cases (r.all fun a => !a.any) <;> simp
def rangeR (v:Vr):Bool:=decide (v.lo ≤ v.ini) && (decide (v.ini ≤ v.hi) && decide (v.hi - v.lo < 64))
def illB (l:List Vr) (i:Nat):Bool:=(l[i]?).any fun v => !rangeR v
theorem illB_at {l:List Vr} {i:Nat} {v:Vr} (h:l[i]? = some v):illB l i = !rangeR v:=by unfold illB; rw [h]; rfl
def mustK (k:Int):Int:=if k = 2 then 1 else if k = 3 then 2 else 0
def loneB (l:List Sh) (i:Nat):Bool:=decide (((kids l i).length:Int) < mustK (ShapeSpec.kind l i))
def brT (es vs ss:List ByteArray) (rule:Int) (t:Tr):Bool :=
 if rule = 6 then !decide (t.ev.size = 0) && !hasS es t.ev else if rule = 7 then !decide (t.tg.size = 0) && !hasS ss t.tg else
 if rule = 8 then !decide (t.g.length = 0) && !exprR vs ss t.g 2 else if rule = 9 then !actsR vs ss true t.acts else false
def brS (es vs ss:List ByteArray) (rule:Int) (s:Sx):List Bool :=
 if rule = 10 then [!actsR vs ss false s.en,!actsR vs ss false s.ex] else s.tr.map (brT es vs ss rule)
def flTo (rule:Int) (i:Nat) (bs:List Bool):Nat → List Fw
 | 0 => []
 | k + 1 => flTo rule i bs k ++ oneF ((bs[k]?).getD false) ⟨rule,i,k⟩
theorem flTo_yes {rule:Int} {i k:Nat} {bs:List Bool} (h:bs[k]? = some true):flTo rule i bs (k + 1) = flTo rule i bs k ++ [⟨rule,i,k⟩]:=by show flTo rule i bs k ++ _ = _; rw [h]; rfl
theorem flTo_no {rule:Int} {i k:Nat} {bs:List Bool} (h:bs[k]? = some false):flTo rule i bs (k + 1) = flTo rule i bs k:=by show flTo rule i bs k ++ _ = _; rw [h]; exact List.append_nil _
theorem flTo_length (rule:Int) (i:Nat) (bs:List Bool) (k:Nat):(flTo rule i bs k).length ≤ k:=by
 induction k with
 | zero => exact Nat.le_refl _
 | succ k ih =>
   have:flTo rule i bs (k + 1) = flTo rule i bs k ++ oneF ((bs[k]?).getD false) ⟨rule,i,k⟩:=rfl
   rw [this,List.length_append]
   have:(oneF ((bs[k]?).getD false) (⟨rule,i,k⟩:Fw)).length ≤ 1:=by unfold oneF; split <;> simp
   omega
def ptTo (es vs ss:List ByteArray) (rule:Int) (l:List Sx):Nat → List Fw
 | 0 => []
 | n + 1 => ptTo es vs ss rule l n ++ (l[n]?).elim [] fun s => flTo rule n (brS es vs ss rule s) (brS es vs ss rule s).length
theorem ptTo_next {es vs ss:List ByteArray} {rule:Int} {l:List Sx} {n:Nat} {s:Sx} (h:l[n]? = some s) :
 ptTo es vs ss rule l (n + 1) = ptTo es vs ss rule l n ++ flTo rule n (brS es vs ss rule s) (brS es vs ss rule s).length:=by
 show ptTo es vs ss rule l n ++ _ = _
 rw [h]
 rfl
theorem ptTo_length {es vs ss:List ByteArray} {rule:Int} {l:List Sx} (hl:∀ s ∈ l,s.tr.length ≤ 100) (n:Nat):(ptTo es vs ss rule l n).length ≤ n * 100:=by
 induction n with
 | zero => exact Nat.le_refl _
 | succ n ih =>
   cases h:l[n]? with
   | none =>
     show (ptTo es vs ss rule l n ++ (l[n]?).elim _ _).length ≤ _
     rw [h]
     simp
     omega
   | some s =>
     rw [ptTo_next h,List.length_append]
     have h1:=flTo_length rule n (brS es vs ss rule s) (brS es vs ss rule s).length
     have h2:(brS es vs ss rule s).length ≤ 100:=by
      unfold brS
      split
      ·simp
      ·rw [List.length_map]; exact hl s (List.mem_of_getElem? h)
     omega
def brk (x:Cx) (rule:Int):List Fw :=
 if rule = 1 then itemsF 1 (twins x.evs) else if rule = 2 then itemsF 2 (twins (vnC x)) else if rule = 3 then itemsF 3 (plTo (illB x.vars) x.vars.length) else
 if rule = 4 then itemsF 4 (twins (snC x)) else if rule = 5 then itemsF 5 (plTo (loneB (x.sts.map shOf)) x.sts.length) else ptTo x.evs (vnC x) (snC x) rule x.sts x.sts.length
end RulesSpec
end Go.Proofs.YtejbpleghjgpbaaGreatDoor
namespace Go.Proofs.YtejbpleghjgpbaaGreatDoor
namespace SoundSpec
open NamesSpec SynSpec RulesSpec PrintSpec
def allTo (x:Cx):Nat → List Fw
 | 0 => []
 | k + 1 => allTo x k ++ brk x ((k:Int) + 1)
def flawsC (x:Cx):List Fw:=allTo x 10
theorem allTo_next (x:Cx) (k:Nat):allTo x (k + 1) = allTo x k ++ brk x ((k:Int) + 1):=rfl
theorem allTo_length {x:Cx} {n:Nat} (h:∀ r,(brk x r).length ≤ n) (k:Nat):(allTo x k).length ≤ k * n:=by
 induction k with
 | zero => exact Nat.zero_le _
 | succ k ih =>
   rw [allTo_next,List.length_append,Nat.succ_mul]
   have:=h ((k:Int) + 1)
   omega
theorem allTo_none {x:Cx} {k:Nat}:allTo x k = [] ↔ ∀ r:Int,1 ≤ r → r ≤ k → brk x r = []:=by
 induction k with
 | zero =>
   constructor
   ·intro _ r h1 h2
    omega
   ·intro _
    rfl
 | succ k ih =>
   rw [allTo_next,List.append_eq_nil_iff,ih]
   constructor
   ·rintro ⟨h1,h2⟩ r h3 h4
    by_cases e:r = (k:Int) + 1
    ·rw [e]; exact h2
    ·exact h1 r h3 (by omega)
   ·intro h
    exact ⟨fun r h1 h2 => h r h1 (by omega),h _ (by omega) (by omega)⟩
def soundC (x:Cx):Bool:=mayC x && decide ((flawsC x).length = 0)
def keptFrom (x:Cx):Nat → Bool
 | 0 => true
 | k + 1 => decide ((brk x (10 - (k:Int))).length = 0) && keptFrom x k
theorem keptFrom_iff {x:Cx} {k:Nat} (hk:k ≤ 10):keptFrom x k = true ↔ ∀ r:Int,10 - (k:Int) < r → r ≤ 10 → brk x r = []:=by
 induction k with
 | zero =>
   constructor
   ·intro _ r h1 h2
    omega
   ·intro _
    rfl
 | succ k ih =>
   show (_ && _) = true ↔ _
   rw [Bool.and_eq_true,decide_eq_true_eq,List.length_eq_zero_iff,ih (by omega)]
   constructor
   ·rintro ⟨h1,h2⟩ r h3 h4
    by_cases e:r = 10 - (k:Int)
    ·rw [e]; exact h1
    ·exact h2 r (by omega) h4
   ·intro h
    exact ⟨h _ (by omega) (by omega),fun r h1 h2 => h r (by omega) h2⟩
theorem kept_all (x:Cx):keptFrom x 10 = decide ((flawsC x).length = 0):=by
 rw [Bool.eq_iff_iff,keptFrom_iff (by omega),decide_eq_true_eq,List.length_eq_zero_iff]
 unfold flawsC
 rw [allTo_none]
 constructor
 ·intro h r h1 h2
  exact h r (by omega) (by omega)
 ·intro h r h1 h2
  exact h r (by omega) (by omega)
def wordsR:List ByteArray:=[⟨#[]⟩,⟨#[101,118,101,110,116]⟩,⟨#[118,97,114]⟩,⟨#[114,97,110,103,101]⟩,⟨#[110,97,109,101]⟩,⟨#[107,105,100,115]⟩,⟨#[111,110]⟩,⟨#[116,97,114,103,101,116]⟩,⟨#[103,117,97,114,100]⟩,⟨#[97,99,116,115]⟩,⟨#[101,100,103,101]⟩]
def wordR (r:Int):ByteArray:=if 1 ≤ r ∧ r ≤ 10 then wordsR.getD r.toNat ⟨#[]⟩ else ⟨#[]⟩
def lineR (r:Int):ByteArray:=if 1 ≤ r ∧ r ≤ 10 then wordR r else ⟨#[63]⟩
def lineF (f:Fw):ByteArray:=lineR f.r ++ ⟨#[32]⟩ ++ ⟨(ValSpec.text f.i).toArray⟩ ++ ⟨#[32]⟩ ++ ⟨(ValSpec.text f.p).toArray⟩
theorem ptext_len (n:Int) (h1:-9223372036854775808 ≤ n) (h2:n ≤ 9223372036854775807):(ValSpec.text n).length ≤ 20:=by
 have h:=ValSpec.digs_len 18 n.natAbs (by omega)
 unfold ValSpec.text
 split <;> simp <;> omega
theorem ptext_size (n:Int) (h1:-9223372036854775808 ≤ n) (h2:n ≤ 9223372036854775807):(⟨(ValSpec.text n).toArray⟩:ByteArray).size ≤ 20:=by
 rw [show (⟨(ValSpec.text n).toArray⟩:ByteArray).size = (ValSpec.text n).length from rfl]
 exact ptext_len n h1 h2
theorem lineR_size (r:Int):(lineR r).size ≤ 6:=by
 by_cases h:1 ≤ r ∧ r ≤ 10
 ·rcases (show r = 1 ∨ r = 2 ∨ r = 3 ∨ r = 4 ∨ r = 5 ∨ r = 6 ∨ r = 7 ∨ r = 8 ∨ r = 9 ∨ r = 10 by omega) with rfl | rfl | rfl | rfl | rfl | rfl | rfl | rfl | rfl | rfl <;> decide
 ·unfold lineR
  rw [if_neg h]
  decide
end SoundSpec
end Go.Proofs.YtejbpleghjgpbaaGreatDoor