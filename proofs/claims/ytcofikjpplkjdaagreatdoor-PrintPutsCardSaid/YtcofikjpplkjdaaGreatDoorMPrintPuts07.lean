/- TermRefDeep, TermCheck, ActIn, TransMem, ExprPart, ExprRead, ExprRef, ExprRefLev, ActReadOne, joined. -/
import Derived.Test.YtcofikjpplkjdaaGreatDoorMPrintPuts06
import Derived.Test.YtcofikjpplkjdaaGreatDoorMPrintPuts03
import Derived.Test.YtcofikjpplkjdaaGreatDoorMPrintPuts00
import Derived.Test.YtcofikjpplkjdaaGreatDoorMPrintPuts05
import Derived.Deep.LoopGhost
import Derived.Test.YtcofikjpplkjdaaGreatDoorMPrintPuts04
import Derived.Test.YtcofikjpplkjdaaGreatDoorMPrintPuts01
import Derived.Test.YtcofikjpplkjdaaGreatDoorMPrintPuts02
import Derived.Laws.Tables
namespace Go.Proofs.YtcofikjpplkjdaaGreatDoor
open Go.RowKit TermSpec
set_option maxRecDepth 100000
def RDeepRel (W:World) (l:List Tm) (a q:Nat) (v i:Value) (wr:World):Prop :=
 ∃ k:Nat,k ≤ q ∧ i = .int .i64 k ∧ v = .int .i64 (deepest ((stack depF (l.drop (a + 1))).take k)) ∧ Below W.heap.size W wr
def RDIH (A:Option Addr) (n c:Nat) (l:List Tm) (K:Nat):Prop:=∀ (a:Nat) (w:World),n ≤ a + K → Tms w (.slice A n c) l → 0 ≤ endA l a → Calls Tryz.prog 84 #[.slice A n c,.int .i64 a] w (RetI w (come depF (l.drop a)))
set_option maxHeartbeats 2000000 in
theorem rdep_step (A:Option Addr) (n c:Nat) (l:List Tm) (K:Nat) (hn:n = l.length) (hn62:n ≤ 70368744177664) (ih:RDIH A n c l K) (a:Nat) (w:World) (hK:n ≤ a + (K + 1)) (h:Tms w (.slice A n c) l) (he:0 ≤ endA l a) :
 Calls Tryz.prog 84 #[.slice A n c,.int .i64 a] w (RetI w (come depF (l.drop a))):=by
 obtain ⟨k0,m0,hk0,hc0,_,_,_⟩:=endA_nn he
 obtain rfl:k0 = a:=by omega
 obtain ⟨t,m,ht,h0,_,hm⟩:=first_of hc0
 have han:=get_lt ht
 have HT:=Lib.hid h
 have HM:=Lib.hid hm
 have HIH:=Lib.hid ih
 have HBL:=Lib.hid (rbelow_any A n c l k0 w h hn hn62 t ht he)
 have HCM:=Lib.hid (come_at (f:=depF) ht)
 have hq:=(ar_bd t.op).2
 have e0:=arN_of h0
 have HDB:Hid (∀ k,0 ≤ deepest ((stack depF (l.drop (k0 + 1))).take k) ∧ deepest ((stack depF (l.drop (k0 + 1))).take k) ≤ 4611686018427387903):=Lib.hid (fun k => deepest_bd (by omega) _ (fun b hb => by
  have h1:=(stack_depth _ b (List.mem_of_mem_take hb)).2
  rw [List.length_drop] at h1
  omega))
 obtain ⟨q,hqe⟩:∃ q,q = arN t.op:=⟨_,rfl⟩
 rw [← hqe] at HBL HCM e0 HM
 have hq2:q ≤ 2:=by omega
 have hal:k0 < n:=by omega
 have HLEN:=Lib.hid hn
 clear ht hqe hn h hc0 hk0 hm he h0 e0 han hq ih
 go_enter Tryz.func84,Tryz.ntmps84
 go_wp2_with (go_at_call 124; (with_reducible refine HBL.out.mono ?_))
 rintro e w1 ⟨v2,rfl,hr2,hb1⟩
 obtain ⟨A2,n2,c2,rfl,hn2,hc2,hA2⟩:=hr2.ints
 rw [belows_length] at hn2
 obtain rfl:q = n2:=hn2
 have HA2:=Lib.hid hA2
 have HB1:=Lib.hid hb1
 clear hr2 hc2 hA2 hb1
 go_wp2_with fail
 go_loopw [5,7,8] (fun v i _ wr => RDeepRel w1 l k0 q v i wr) (fun _ i _ _ => 3 - (intOf i).toNat)
 case atStart => exact ⟨0,Nat.zero_le _,rfl,rfl,Below.refl _ _⟩
 case round =>
  obtain ⟨k,hk,rfl,rfl,hbw⟩:=hrel
  have HBW:=Lib.hid hbw
  obtain ⟨g0,g1⟩:=HDB.out k
  clear hbw
  by_cases hlt:k < q
  ·obtain ⟨b2,off2,rfl,hb2,hcell⟩:=HA2.out (by omega)
   obtain ⟨x,hx,hex,hbx,hst⟩:=below_place HM.out hlt
   have hck:=(HBW.out.cell (p:=⟨b2,off2 + k,none⟩) (by exact hb2)).trans (hcell k _ hx)
   have HS:Hid (deepest ((stack depF (l.drop (k0 + 1))).take (k + 1)) = if deepest ((stack depF (l.drop (k0 + 1))).take k) < come depF (l.drop (k0 + 1 + x)) then come depF (l.drop (k0 + 1 + x)) else deepest ((stack depF (l.drop (k0 + 1))).take k)):=Lib.hid (by rw [hst depF,deepest_snoc])
   rw [← HLEN.out] at hbx
   have HCI:=Lib.hid (HIH.out (k0 + 1 + x) wr (by omega) (HT.out.keep (below_two' HB1.out HBW.out)) hex)
   obtain ⟨y,hy⟩:∃ y,y = come depF (l.drop (k0 + 1 + x)):=⟨_,rfl⟩
   rw [← hy] at HS HCI
   obtain ⟨d,hd⟩:∃ d,d = deepest ((stack depF (l.drop (k0 + 1))).take k):=⟨_,rfl⟩
   rw [← hd] at HS g0 g1 ⊢
   obtain ⟨p,hp⟩:∃ p,p = k0 + 1 + x:=⟨_,rfl⟩
   rw [← hp] at HCI hck
   clear hx hex hbx hst hcell hy hp hd
   by_cases hyd:d < y
   all_goals
    go_wp2_with (go_at_call 84; (with_reducible refine HCI.out.mono ?_))
    rintro e w3 ⟨rfl,hb3⟩
    have HB3:=Lib.hid (below_two' HBW.out hb3)
    clear hb3 hck
    go_wp2_with fail
    go_roundw
    case rel => exact ⟨k + 1,hlt,by simp,by rw [HS.out]; first | rw [if_pos hyd] | rw [if_neg (by omega)],HB3.out⟩
    case measure => simp [intOf]; omega
  ·obtain rfl:k = q:=by omega
   go_wp2_with fail
   go_ret
   exact ⟨ret_int HCM.out.symm,below_two' HB1.out HBW.out⟩
theorem rdep_all (A:Option Addr) (n c:Nat) (l:List Tm) (hn:n = l.length) (hn62:n ≤ 70368744177664) (K:Nat):RDIH A n c l K:=by
 induction K with
 | zero =>
   intro a w hK _ he
   obtain ⟨k,m,hk,_,h1,h2,h3⟩:=endA_nn he
   omega
 | succ K ih => exact fun a w hK h he => rdep_step A n c l K hn hn62 ih a w hK h he
theorem rdep_any (A:Option Addr) (n c:Nat) (l:List Tm) (hn:n = l.length) (hn62:n ≤ 70368744177664) (a:Nat) (w:World) (h:Tms w (.slice A n c) l) (he:0 ≤ endA l a) :
 Calls Tryz.prog 84 #[.slice A n c,.int .i64 a] w (RetI w (come depF (l.drop a))):=rdep_all A n c l hn hn62 n a w (by omega) h he
end Go.Proofs.YtcofikjpplkjdaaGreatDoor
namespace Go.Proofs.YtcofikjpplkjdaaGreatDoor
open Go.RowKit TermSpec
set_option maxRecDepth 100000
theorem whole_yes {l:List Tm} {n:Nat} (hn:n = l.length) (h40:n ≤ 40) (h:endA l 0 = n):wholeB l = true:=by
 refine wholeB_iff.2 ⟨by omega,?_⟩
 obtain ⟨k,m,hk,hc,he,hm,hl⟩:=endA_nn (l:=l) (a:=0) (by omega)
 obtain rfl:k = 0:=by omega
 rw [List.drop_zero] at hc
 rw [hc]
 congr 1
 omega
theorem whole_no {l:List Tm} {n:Nat} (hn:n = l.length) (h:¬ (n ≤ 40 ∧ endA l 0 = n)):wholeB l = false:=by
 rw [Bool.eq_false_iff]
 intro hw
 obtain ⟨h1,h2⟩:=wholeB_iff.1 hw
 refine h ⟨by omega,?_⟩
 have:=endA_some (l:=l) (a:=0) (m:=l.length) (by simpa using h2)
 rw [show (0:Int) = ((0:Nat):Int) from rfl,this]
 omega
theorem tell_no {f:Int → List Int → Int} {l:List Tm} (h:wholeB l = false):tell f l = 0:=by unfold tell; rw [h]; rfl
theorem tell_yes {f:Int → List Int → Int} {l:List Tm} (h:wholeB l = true):tell f l = come f l:=by unfold tell; rw [h]; rfl
theorem comeDep_zero (A:Option Addr) (n c:Nat) (l:List Tm) (hn:n = l.length) (hn62:n ≤ 70368744177664) (w:World) (h:Tms w (.slice A n c) l) (he:0 ≤ endA l 0) :
 Calls Tryz.prog 167 #[.slice A n c,.int .i64 0,.func (.func 157) #[] #[]] w (RetI w (come depF l)):=by
 have:=comeDep_any A n c l hn hn62 0 w h he
 rwa [List.drop_zero] at this
set_option maxHeartbeats 1000000 in
theorem wholeDep_any (A:Option Addr) (n c:Nat) (l:List Tm) (hn:n = l.length) (hn62:n ≤ 70368744177664) (w:World) (h:Tms w (.slice A n c) l) :
 Calls Tryz.prog 156 #[.slice A n c,.func (.func 157) #[] #[]] w (RetI w (tell depF l)):=by
 by_cases h40:40 < n
 ·have HE:=Lib.hid (tell_no (f:=depF) (whole_no hn (by omega)))
  clear hn h
  go_enter Tryz.func156,Tryz.ntmps156
  go_wp2_with fail
  go_ret
  exact ⟨ret_int HE.out.symm,Below.refl _ _⟩
 ·have hE:=end_any A n c l 0 w h hn (by omega)
  have HY:Hid (endA l 0 = n → Calls Tryz.prog 167 #[.slice A n c,.int .i64 0,.func (.func 157) #[] #[]] w (RetI w (come depF l)) ∧ tell depF l = come depF l):=Lib.hid (fun h0 => ⟨comeDep_zero A n c l hn hn62 w h (by omega),tell_yes (whole_yes hn (by omega) h0)⟩)
  have HN:Hid (endA l 0 ≠ n → tell depF l = 0):=Lib.hid (fun h0 => tell_no (whole_no hn (fun h => h0 h.2)))
  obtain ⟨r,hr⟩:∃ r,r = endA l 0:=⟨_,rfl⟩
  rw [← hr] at hE HY HN
  have HE:=Lib.hid hE
  clear hr hE hn h
  by_cases hrn:r = n
  ·have g:(r != (n:Int)) = false:=by simp [hrn]
   have HC:=Lib.hid (HY.out hrn).1
   have HV:=Lib.hid (HY.out hrn).2
   clear hrn HN HY
   go_enter Tryz.func156,Tryz.ntmps156
   go_wp2_with (first
    | (go_at_call 166; (with_reducible refine HE.out.mono ?_); rintro e w' ⟨rfl,rfl⟩)
    | (go_at_call 167; (with_reducible refine HC.out.mono ?_)))
   rintro e w1 ⟨rfl,hb1⟩
   go_wp2_with fail
   go_ret
   exact ⟨ret_int HV.out.symm,hb1⟩
  ·have g:(r != (n:Int)) = true:=by simp [hrn]
   have HV:=Lib.hid (HN.out hrn)
   clear hrn HN HY
   go_enter Tryz.func156,Tryz.ntmps156
   go_wp2_with (go_at_call 166; (with_reducible refine HE.out.mono ?_); rintro e w' ⟨rfl,rfl⟩)
   go_ret
   exact ⟨ret_int HV.out.symm,Below.refl _ _⟩
theorem depth_any (A:Option Addr) (n c:Nat) (l:List Tm) (hn:n = l.length) (hn62:n ≤ 70368744177664) (w:World) (h:Tms w (.slice A n c) l) :
 Calls Tryz.prog 150 #[.slice A n c] w (RetI w (depth l)):=by
 have HC:=Lib.hid (wholeDep_any A n c l hn hn62 w h)
 obtain ⟨r,hr⟩:∃ r,r = tell depF l:=⟨_,rfl⟩
 have HR:Hid (depth l = r):=Lib.hid hr.symm
 rw [← hr] at HC
 clear hr hn h
 go_enter Tryz.func150,Tryz.ntmps150
 go_wp2_with (go_at_call 156; (with_reducible refine HC.out.mono ?_))
 rintro e w1 ⟨rfl,hb1⟩
 go_wp2_with fail
 go_ret
 exact ⟨ret_int HR.out.symm,hb1⟩
theorem rwhole_any (A:Option Addr) (n c:Nat) (l:List Tm) (hn:n = l.length) (hn62:n ≤ 70368744177664) (w:World) (h:Tms w (.slice A n c) l) :
 Calls Tryz.prog 82 #[.slice A n c] w (RetB w (wholeB l)):=by
 by_cases h40:40 < n
 ·have HE:=Lib.hid (whole_no hn (by omega))
  have g:¬ (n:Int) ≤ 40:=by omega
  clear hn h
  go_enter Tryz.func82,Tryz.ntmps82
  go_wp2_with fail
  go_ret
  exact ⟨ret_bool HE.out.symm,Below.refl _ _⟩
 ·have hE:=rend_any A n c l 0 w h hn (by omega)
  have h40':(n:Int) ≤ 40:=by omega
  have HV:Hid (wholeB l = (endA l 0 == (n:Int))):=Lib.hid (by
   by_cases h0:endA l 0 = n
   ·rw [whole_yes hn (by omega) h0,h0]; simp
   ·rw [whole_no hn (fun h => h0 h.2)]; symm; simpa using h0)
  obtain ⟨r,hr⟩:∃ r,r = endA l 0:=⟨_,rfl⟩
  rw [← hr] at hE HV
  have HE:=Lib.hid hE
  clear hr hE hn h
  go_enter Tryz.func82,Tryz.ntmps82
  go_wp2_with (go_at_call 123; (with_reducible refine HE.out.mono ?_))
  rintro e w1 ⟨rfl,hb1⟩
  go_wp2_with fail
  go_ret
  exact ⟨ret_bool HV.out.symm,hb1⟩
def AllMay (W:World) (l:List Tm) (n:Nat) (i:Value) (wr:World):Prop:=∃ k:Nat,k ≤ n ∧ i = .int .i64 k ∧ (l.take k).all mayB = true ∧ Below W.heap.size W wr
theorem may_stop {l:List Tm} {k:Nat} {t:Tm} (ht:l[k]? = some t) (h:mayB t = false):l.all mayB = false:=by
 rw [List.all_eq_false]
 exact ⟨t,List.mem_of_getElem? ht,by simp [h]⟩
theorem may_next {l:List Tm} {k:Nat} {t:Tm} (ht:l[k]? = some t) (h0:(l.take k).all mayB = true) (h:mayB t = true):(l.take (k + 1)).all mayB = true:=by
 rw [take_next ht,List.all_append,h0]; simpa using h
theorem chk_full {l:List Tm} (h:40 < l.length):chk l = 8:=by unfold chk; rw [if_pos h]
theorem chk_none {l:List Tm} (h:¬ 40 < l.length) (h1:wholeB l = false):chk l = 1:=by unfold chk; rw [if_neg h,if_pos h1]
theorem chk_may {l:List Tm} (h:¬ 40 < l.length) (h1:wholeB l = true) (h2:l.all mayB = false):chk l = 1:=by unfold chk; rw [if_neg h,if_neg (by simp [h1]),if_pos h2]
theorem chk_last {l:List Tm} (h:¬ 40 < l.length) (h1:wholeB l = true) (h2:l.all mayB = true):chk l = if 12 < depth l then 6 else 0:=by unfold chk; rw [if_neg h,if_neg (by simp [h1]),if_neg (by simp [h2])]
set_option maxHeartbeats 2000000 in
theorem check_any (A:Option Addr) (n c:Nat) (l:List Tm) (hn:n = l.length) (hn62:n ≤ 70368744177664) (hs:Small l) (w:World) (h:Tms w (.slice A n c) l) :
 Calls Tryz.prog 140 #[.slice A n c] w (RetI w (chk l)):=by
 by_cases h40:40 < n
 ·have HE:=Lib.hid (chk_full (l:=l) (by omega))
  clear hn h
  go_enter Tryz.func140,Tryz.ntmps140
  go_wp2_with fail
  go_ret
  exact ⟨ret_int HE.out.symm,Below.refl _ _⟩
 have HD:=Lib.hid (depth_any A n c l hn hn62 w h)
 have h40':¬ 40 < l.length:=by omega
 cases hw:wholeB l with
 | false =>
   have hd:depth l = 0:=depth_zero.2 hw
   rw [hd] at HD
   have HE:=Lib.hid (chk_none h40' hw)
   clear hn h hw hd h40'
   go_enter Tryz.func140,Tryz.ntmps140
   go_wp2_with (go_at_call 150; (with_reducible refine HD.out.mono ?_))
   rintro e w1 ⟨rfl,hb1⟩
   go_wp2_with fail
   go_ret
   exact ⟨ret_int HE.out.symm,hb1⟩
 | true =>
   have hd0:1 ≤ depth l:=by unfold depth; rw [tell_yes hw]; exact (come_depth (wholeB_iff.1 hw).2).1
   have HL:=Lib.hid (fun h2 => chk_last h40' hw h2)
   have HM:=Lib.hid (fun h2 => chk_may h40' hw h2)
   obtain ⟨d,hd⟩:∃ d,d = depth l:=⟨_,rfl⟩
   rw [← hd] at HD HL hd0
   have gd:(d == 0) = false:=by simp; omega
   have HT:=Lib.hid h
   have HN:=Lib.hid hn
   have HS:=Lib.hid hs
   clear hn h hw hd h40' hs
   go_enter Tryz.func140,Tryz.ntmps140
   go_wp2_with (go_at_call 150; (with_reducible refine HD.out.mono ?_))
   rintro e w1 ⟨rfl,hb1⟩
   have HB1:=Lib.hid hb1
   clear hb1
   go_wp2_with fail
   go_loopw [5,15] (fun _ i wr => AllMay w l n i wr) (fun _ i _ => n - (intOf i).toNat)
   case atStart => exact ⟨0,Nat.zero_le _,rfl,rfl,HB1.out⟩
   case round =>
    obtain ⟨k,hk,rfl,hall,hbw⟩:=hrel
    have HA:=Lib.hid hall
    have HB:=Lib.hid hbw
    clear hall hbw
    by_cases hlt:k < n
    ·obtain ⟨t,ht⟩:∃ t,l[k]? = some t:=get_some (by rw [← HN.out]; exact hlt)
     obtain ⟨b,off,rfl,hb,c0,c1,c2⟩:=(HT.out.keep HB.out).at_ ht
     have HC:Hid (∀ w,Calls Tryz.prog 151 #[.agg #[.int .i64 t.op,.int .i64 t.n,.string t.s]] w (RetB w (mayB t))):=Lib.hid (fun w => may_any t w (HS.out t (List.mem_of_getElem? ht)))
     have HX:=Lib.hid ht
     obtain ⟨q,hq⟩:∃ q,q = mayB t:=⟨_,rfl⟩
     rw [← hq] at HC
     have HQ:=Lib.hid hq.symm
     clear ht hq
     cases q with
     | true =>
       go_wp2_with (go_at_call 151; (with_reducible refine (HC.out _).mono ?_))
       rintro e w2 ⟨rfl,hb2⟩
       have HB2:=Lib.hid (below_two' (HB.out.alloc HB.out.size _) hb2)
       clear hb2 c0 c1 c2
       go_wp2_with fail
       go_roundw
       case rel => exact ⟨k + 1,hlt,by simp,may_next HX.out HA.out HQ.out,HB2.out⟩
       case measure => simp [intOf]; omega
     | false =>
       go_wp2_with (go_at_call 151; (with_reducible refine (HC.out _).mono ?_))
       rintro e w2 ⟨rfl,hb2⟩
       have HB2:=Lib.hid (below_two' (HB.out.alloc HB.out.size _) hb2)
       clear hb2 c0 c1 c2
       go_wp2_with fail
       go_ret
       exact ⟨ret_int (HM.out (may_stop HX.out HQ.out)).symm,HB2.out⟩
    ·have HE:Hid (chk l = if 12 < d then 6 else 0):=Lib.hid (HL.out (by have:=HA.out; rwa [List.take_of_length_le (by rw [← HN.out]; omega)] at this))
     by_cases h12:12 < d
     all_goals
      go_wp2_with fail
      go_ret
      exact ⟨ret_int (by rw [HE.out]; first | rw [if_pos h12] | rw [if_neg (by omega)]),HB.out⟩
theorem rdep_zero (A:Option Addr) (n c:Nat) (l:List Tm) (hn:n = l.length) (hn62:n ≤ 70368744177664) (w:World) (h:Tms w (.slice A n c) l) (hw:wholeB l = true) :
 Calls Tryz.prog 84 #[.slice A n c,.int .i64 0] w (RetI w (depth l)):=by
 have h2:=(wholeB_iff.1 hw).2
 have:=rdep_any A n c l hn hn62 0 w h (by rw [endA_some (m:=l.length) (by simpa using h2)]; omega)
 rw [List.drop_zero] at this
 unfold depth
 rwa [tell_yes hw]
set_option maxHeartbeats 2000000 in
theorem rcheck_any (A:Option Addr) (n c:Nat) (l:List Tm) (hn:n = l.length) (hn62:n ≤ 70368744177664) (hs:Small l) (w:World) (h:Tms w (.slice A n c) l) :
 Calls Tryz.prog 49 #[.slice A n c] w (RetI w (chk l)):=by
 by_cases h40:40 < n
 ·have HE:=Lib.hid (chk_full (l:=l) (by omega))
  clear hn h
  go_enter Tryz.func49,Tryz.ntmps49
  go_wp2_with fail
  go_ret
  exact ⟨ret_int HE.out.symm,Below.refl _ _⟩
 have HD:=Lib.hid (rwhole_any A n c l hn hn62 w h)
 have h40':¬ 40 < l.length:=by omega
 cases hw:wholeB l with
 | false =>
   rw [hw] at HD
   have HE:=Lib.hid (chk_none h40' hw)
   clear hn h hw h40'
   go_enter Tryz.func49,Tryz.ntmps49
   go_wp2_with (go_at_call 82; (with_reducible refine HD.out.mono ?_))
   rintro e w1 ⟨rfl,hb1⟩
   go_wp2_with fail
   go_ret
   exact ⟨ret_int HE.out.symm,hb1⟩
 | true =>
   rw [hw] at HD
   have HL:=Lib.hid (fun h2 => chk_last h40' hw h2)
   have HM:=Lib.hid (fun h2 => chk_may h40' hw h2)
   have HDD:=Lib.hid (fun w h => rdep_zero A n c l hn hn62 w h hw)
   have HVAL:Hid (∀ t ∈ l,0 ≤ ar t.op):=Lib.hid (by have:=cnt_valid (wholeB_iff.1 hw).2; rwa [List.take_of_length_le (Nat.le_refl _)] at this)
   obtain ⟨d,hd⟩:∃ d,d = depth l:=⟨_,rfl⟩
   rw [← hd] at HL HDD
   have HT:=Lib.hid h
   have HN:=Lib.hid hn
   have HS:=Lib.hid hs
   clear hn h hw hd h40' hs
   go_enter Tryz.func49,Tryz.ntmps49
   go_wp2_with (go_at_call 82; (with_reducible refine HD.out.mono ?_))
   rintro e w1 ⟨rfl,hb1⟩
   have HB1:=Lib.hid hb1
   clear hb1
   go_wp2_with fail
   go_loopw [3] (fun i wr => AllMay w l n i wr) (fun i _ => n - (intOf i).toNat)
   case atStart => exact ⟨0,Nat.zero_le _,rfl,rfl,HB1.out⟩
   case round =>
    obtain ⟨k,hk,rfl,hall,hbw⟩:=hrel
    have HA:=Lib.hid hall
    have HB:=Lib.hid hbw
    clear hall hbw
    by_cases hlt:k < n
    ·obtain ⟨t,ht⟩:∃ t,l[k]? = some t:=get_some (by rw [← HN.out]; exact hlt)
     obtain ⟨b,off,rfl,hb,c0,c1,c2⟩:=(HT.out.keep HB.out).at_ ht
     have HC:Hid (∀ w,Calls Tryz.prog 83 #[.agg #[.int .i64 t.op,.int .i64 t.n,.string t.s]] w (RetB w (mayB t))):=Lib.hid (fun w => rmay_any t w (HS.out t (List.mem_of_getElem? ht)) (HVAL.out t (List.mem_of_getElem? ht)))
     have HX:=Lib.hid ht
     obtain ⟨q,hq⟩:∃ q,q = mayB t:=⟨_,rfl⟩
     rw [← hq] at HC
     have HQ:=Lib.hid hq.symm
     clear ht hq
     cases q with
     | true =>
       go_wp2_with (go_at_call 83; (with_reducible refine (HC.out _).mono ?_))
       rintro e w2 ⟨rfl,hb2⟩
       have HB2:=Lib.hid (below_two' HB.out hb2)
       clear hb2 c0 c1 c2
       go_wp2_with fail
       go_roundw
       case rel => exact ⟨k + 1,hlt,by simp,may_next HX.out HA.out HQ.out,HB2.out⟩
       case measure => simp [intOf]; omega
     | false =>
       go_wp2_with (go_at_call 83; (with_reducible refine (HC.out _).mono ?_))
       rintro e w2 ⟨rfl,hb2⟩
       have HB2:=Lib.hid (below_two' HB.out hb2)
       clear hb2 c0 c1 c2
       go_wp2_with fail
       go_ret
       exact ⟨ret_int (HM.out (may_stop HX.out HQ.out)).symm,HB2.out⟩
    ·have HE:Hid (chk l = if 12 < d then 6 else 0):=Lib.hid (HL.out (by have:=HA.out; rwa [List.take_of_length_le (by rw [← HN.out]; omega)] at this))
     have HDW:=Lib.hid (HDD.out wr (HT.out.keep HB.out))
     by_cases h12:12 < d
     all_goals
      go_wp2_with (go_at_call 84; (with_reducible refine HDW.out.mono ?_))
      rintro e w2 ⟨rfl,hb2⟩
      go_wp2_with fail
      go_ret
      exact ⟨ret_int (by rw [HE.out]; first | rw [if_pos h12] | rw [if_neg (by omega)]),below_two' HB.out hb2⟩
end Go.Proofs.YtcofikjpplkjdaaGreatDoor
namespace Go.Proofs.YtcofikjpplkjdaaGreatDoor
open Go.RowKit TermSpec EvalSpec ActSpec NamesSpec
set_option maxRecDepth 100000
structure AP where
 a:Ac
 xA:Option Addr
 xn:Nat
 xc:Nat
def acV (p:AP):List Value:=[.string p.a.s,.bool p.a.any,.slice p.xA p.xn p.xc]
def acsV (l:List AP):List Value:=l.flatMap acV
theorem acV_length (p:AP):(acV p).length = 3:=rfl
theorem acV_one (p:AP):∀ u ∈ acV p,u.oneCell' = true:=by simp [acV,Value.oneCell']
theorem acsV_one (l:List AP):∀ u ∈ acsV l,u.oneCell' = true:=by
 intro u hu
 obtain ⟨t,_,h⟩:=List.mem_flatMap.1 hu
 exact acV_one t u h
theorem acsV_append (a b:List AP):acsV a ++ acsV b = acsV (a ++ b):=by unfold acsV; rw [List.flatMap_append]
theorem acsV_get {l:List AP} {i:Nat} {p:AP} (h:l[i]? = some p):(acsV l)[i * 3]? = some (.string p.a.s) ∧ (acsV l)[i * 3 + 1]? = some (.bool p.a.any) ∧ (acsV l)[i * 3 + 2]? = some (.slice p.xA p.xn p.xc) :=
 ⟨flat_get (j:=0) acV_length h (by omega),flat_get (j:=1) acV_length h (by omega),flat_get (j:=2) acV_length h (by omega)⟩
def Acs (w:World) (v:Value) (l:List Ac):Prop:=∃ ps:List AP,ps.map (·.a) = l ∧ Rdk 3 w v l.length (acsV ps) ∧ ∀ p ∈ ps,Tms w (.slice p.xA p.xn p.xc) p.a.x
theorem Acs.keep {w w':World} {v:Value} {l:List Ac} (h:Acs w v l) (hb:Below w.heap.size w w'):Acs w' v l:=by
 obtain ⟨ps,hm,hr,hx⟩:=h
 exact ⟨ps,hm,hr.keep hb,fun p hp => (hx p hp).keep hb⟩
theorem Acs.shape {w:World} {v:Value} {l:List Ac} (h:Acs w v l):∃ A n c,v = .slice A n c ∧ n = l.length ∧ n ≤ c:=by
 obtain ⟨ps,hm,⟨A,c,hv,hc,_⟩,_⟩:=h
 exact ⟨A,_,c,hv,rfl,hc⟩
theorem Acs.len {w:World} {A:Option Addr} {n c:Nat} {l:List Ac} (h:Acs w (.slice A n c) l):n = l.length ∧ n ≤ c:=by
 obtain ⟨A',n',c',heq,hn,hc⟩:=h.shape
 cases heq
 exact ⟨hn,hc⟩
theorem Acs.at_ {w:World} {A:Option Addr} {n c:Nat} {l:List Ac} {i:Nat} {a:Ac} (h:Acs w (.slice A n c) l) (hi:l[i]? = some a) :
 ∃ b off xA xn xc,A = some ⟨b,off,none⟩ ∧ b < w.heap.size ∧ Tms w (.slice xA xn xc) a.x ∧ w.cell? ⟨b,off + i * 3,none⟩ = some (.string a.s) ∧ w.cell? ⟨b,off + i * 3 + 1,none⟩ = some (.bool a.any) ∧ w.cell? ⟨b,off + i * 3 + 2,none⟩ = some (.slice xA xn xc):=by
 obtain ⟨ps,hm,⟨A',c',heq,hc,hl,hA⟩,hx⟩:=h
 cases heq
 subst hm
 have:=get_lt hi
 obtain ⟨b,off,rfl,hb,hcell⟩:=hA (by omega)
 rw [List.getElem?_map] at hi
 cases hp:ps[i]? with
 | none => rw [hp] at hi; cases hi
 | some p =>
   rw [hp] at hi
   cases hi
   obtain ⟨g0,g1,g2⟩:=acsV_get hp
   exact ⟨b,off,p.xA,p.xn,p.xc,rfl,hb,hx p (List.mem_of_getElem? hp),hcell _ _ g0,by rw [Nat.add_assoc]; exact hcell _ _ g1,by rw [Nat.add_assoc]; exact hcell _ _ g2⟩
def SmallA (a:Ac):Prop:=a.s.size ≤ 9223372036854775807 ∧ Small a.x ∧ a.x.length ≤ 4398046511104
theorem oneA_name {a:Ac} (h:isName a.s.data.toList = false):oneA a = 1:=by unfold oneA; rw [if_pos h]
theorem oneA_expr {a:Ac} (h:isName a.s.data.toList = true) (h2:a.any = false):oneA a = chk a.x:=by unfold oneA; rw [if_neg (by simp [h]),if_pos h2]
theorem oneA_any {a:Ac} (h:isName a.s.data.toList = true) (h2:a.any = true):oneA a = if a.x.length = 0 then 0 else 1:=by unfold oneA; rw [if_neg (by simp [h]),if_neg (by simp [h2])]
set_option maxHeartbeats 1000000 in
theorem rone_act (a:Ac) (A:Option Addr) (n c:Nat) (hs:SmallA a) (w:World) (h:Tms w (.slice A n c) a.x) :
 Calls Tryz.prog 48 #[.agg #[.string a.s,.bool a.any,.slice A n c]] w (RetI w (oneA a)):=by
 obtain ⟨A',n',c',heq,hn,hnc⟩:=h.shape
 cases heq
 have HIS:=Lib.hid (fun w => ris_any a.s w hs.1)
 have HC:=Lib.hid (fun w h => rcheck_any A n c a.x hn (by have:=hs.2.2; omega) hs.2.1 w h)
 have HT:=Lib.hid h
 obtain ⟨q,hq⟩:∃ q,q = isName a.s.data.toList:=⟨_,rfl⟩
 rw [← hq] at HIS
 obtain ⟨r,hr⟩:∃ r,r = oneA a:=⟨_,rfl⟩
 rw [← hr]
 rcases hb:q with _ | _
 ·rw [hb] at HIS hq
  have HR:=Lib.hid (hr.trans (oneA_name hq.symm))
  obtain ⟨s,any,x⟩:=a
  simp only at HIS HC HT hn ⊢
  clear hs h hq hr hb hn
  go_enter Tryz.func48,Tryz.ntmps48
  go_wp2_with (go_at_call 18; (with_reducible refine (HIS.out _).mono ?_))
  rintro e2 w2 ⟨rfl,hb2⟩
  have HB2:=Lib.hid (below_two' (KitC.below_one _ _) hb2)
  clear hb2
  go_wp2_with fail
  go_ret
  exact ⟨ret_int HR.out.symm,HB2.out⟩
 ·rw [hb] at HIS hq
  rcases ha:a.any with _ | _
  ·have HR:=Lib.hid (hr.trans (oneA_expr hq.symm ha))
   obtain ⟨s,any,x⟩:=a
   simp only at HIS HC HT HR hn ha ⊢
   subst ha
   obtain ⟨m,hm⟩:∃ m,m = chk x:=⟨_,rfl⟩
   rw [← hm] at HR HC
   clear hs h hq hr hb hn hm
   go_enter Tryz.func48,Tryz.ntmps48
   go_wp2_with (go_at_call 18; (with_reducible refine (HIS.out _).mono ?_))
   rintro e2 w2 ⟨rfl,hb2⟩
   obtain ⟨B2,hbb,_⟩:=KitC.one_block hb2
   have HB2:=Lib.hid hbb
   obtain ⟨c0,c1,c2⟩:=cells_3 B2
   clear hb2 hbb B2
   go_wp2_with (go_at_call 49; (with_reducible refine (HC.out _ (HT.out.keep HB2.out)).mono ?_))
   rintro e2 w3 ⟨rfl,hb3⟩
   have HB3:=Lib.hid (below_two' HB2.out hb3)
   clear hb3
   go_wp2_with fail
   go_ret
   exact ⟨ret_int HR.out.symm,HB3.out⟩
  ·have HR0:=Lib.hid (hr.trans (oneA_any hq.symm ha))
   rw [← hn] at HR0
   obtain ⟨s,any,x⟩:=a
   simp only at HIS HC HT hn ha ⊢
   subst ha
   by_cases h0:n = 0
   ·have HR:Hid (r = 0):=Lib.hid (by rw [HR0.out,if_pos h0])
    have g:decide (0 < n) = false:=by simp; omega
    clear hs h hq hr hb hn h0 HR0
    go_enter Tryz.func48,Tryz.ntmps48
    go_wp2_with (go_at_call 18; (with_reducible refine (HIS.out _).mono ?_))
    rintro e2 w2 ⟨rfl,hb2⟩
    obtain ⟨B2,hbb,_⟩:=KitC.one_block hb2
    have HB2:=Lib.hid hbb
    obtain ⟨c0,c1,c2⟩:=cells_3 B2
    clear hb2 hbb B2
    go_wp2_with fail
    go_ret
    exact ⟨ret_int HR.out.symm,HB2.out⟩
   ·have HR:Hid (r = 1):=Lib.hid (by rw [HR0.out,if_neg h0])
    have g:decide (0 < n) = true:=by simp; omega
    clear hs h hq hr hb hn h0 HR0
    go_enter Tryz.func48,Tryz.ntmps48
    go_wp2_with (go_at_call 18; (with_reducible refine (HIS.out _).mono ?_))
    rintro e2 w2 ⟨rfl,hb2⟩
    obtain ⟨B2,hbb,_⟩:=KitC.one_block hb2
    have HB2:=Lib.hid hbb
    obtain ⟨c0,c1,c2⟩:=cells_3 B2
    clear hb2 hbb B2
    go_wp2_with fail
    go_ret
    exact ⟨ret_int HR.out.symm,HB2.out⟩
end Go.Proofs.YtcofikjpplkjdaaGreatDoor
namespace Go.Proofs.YtcofikjpplkjdaaGreatDoor
open Go.RowKit TermSpec EvalSpec ActSpec NamesSpec ExprSpec TransSpec
structure SmallT (t:Tr):Prop where
 ev:t.ev.size ≤ 9223372036854775807
 tg:t.tg.size ≤ 9223372036854775807
 g:Small t.g
 glen:t.g.length ≤ 4398046511104
 acts:∀ a ∈ t.acts,SmallA a
 alen:t.acts.length ≤ 9223372036854775807
structure TrIn (W:World) (gA:Option Addr) (gn gc:Nat) (aA:Option Addr) (an ac:Nat) (t:Tr):Prop where
 g:Tms W (.slice gA gn gc) t.g
 a:Acs W (.slice aA an ac) t.acts
section
variable {W W':World} {gA aA:Option Addr} {gn gc an ac:Nat} {t:Tr}
theorem TrIn.keep (h:TrIn W gA gn gc aA an ac t) (hb:Below W.heap.size W W'):TrIn W' gA gn gc aA an ac t:=⟨h.g.keep hb,h.a.keep hb⟩
theorem TrIn.alloc (h:TrIn W gA gn gc aA an ac t) (o:Obj):TrIn (W.alloc o) gA gn gc aA an ac t:=h.keep (KitC.below_one W o)
theorem TrIn.len (h:TrIn W gA gn gc aA an ac t):gn = t.g.length ∧ an = t.acts.length:=by
 obtain ⟨A',n',c',heq,hn,-⟩:=h.g.shape
 cases heq
 exact ⟨hn,h.a.len.1⟩
theorem TrIn.cap (h:TrIn W gA gn gc aA an ac t):gn ≤ gc ∧ an ≤ ac:=by
 obtain ⟨A',n',c',heq,-,hc⟩:=h.g.shape
 cases heq
 exact ⟨hc,h.a.len.2⟩
end
abbrev trO (ev:ByteArray) (gA:Option Addr) (gn gc:Nat) (aA:Option Addr) (an ac:Nat) (tg:ByteArray):Obj:=.cells #[.string ev,.slice gA gn gc,.slice aA an ac,.string tg] 49
theorem okN_nil {s:ByteArray} (h:s.size = 0):okN s = true:=by unfold okN; simp [h]
theorem okN_pos {s:ByteArray} (h:0 < s.size):okN s = isName s.data.toList:=by
 unfold okN
 rw [decide_eq_false (show ¬ s.size = 0 by omega)]
 rfl
theorem chkT_name {t:Tr} (h:okN t.ev = false ∨ okN t.tg = false):chkT t = 1:=by unfold chkT; rw [if_pos h]
theorem chkT_nog {t:Tr} (h1:okN t.ev = true) (h2:okN t.tg = true) (h:t.g.length = 0):chkT t = chkA t.acts:=by unfold chkT; rw [if_neg (by rw [h1,h2]; simp),if_neg (fun h' => h'.1 h)]
theorem chkT_bad {t:Tr} (h1:okN t.ev = true) (h2:okN t.tg = true) (h:t.g.length ≠ 0) (hk:chk t.g ≠ 0):chkT t = chk t.g:=by unfold chkT; rw [if_neg (by rw [h1,h2]; simp),if_pos ⟨h,hk⟩]
theorem chkT_good {t:Tr} (h1:okN t.ev = true) (h2:okN t.tg = true) (hk:chk t.g = 0):chkT t = chkA t.acts:=by unfold chkT; rw [if_neg (by rw [h1,h2]; simp),if_neg (fun h' => h'.2 hk)]
end Go.Proofs.YtcofikjpplkjdaaGreatDoor
namespace Go.Proofs.YtcofikjpplkjdaaGreatDoor
open Go.RowKit CurSpec TermSpec ExprSpec NamesSpec
set_option maxRecDepth 100000
theorem atom_good {rec:Cur → Int → Pa} {c:Cur} (h:(atom rec c).1.bad = 0):c.bad = 0:=by
 by_cases h0:c.bad = 0
 ·exact h0
 ·have e:atom rec c = (nameC c,[⟨2,0,nameS c⟩]):=by
   unfold atom
   rw [if_neg (by rw [next_dead h0]; decide),if_neg (by rw [isB_dead _ _ h0]; decide),if_neg (by rw [isB_dead _ _ h0]; decide),if_neg (by rw [isB_dead _ _ h0]; decide),if_neg (by rw [isB_dead _ _ h0]; decide),if_neg (by rw [isB_dead _ _ h0]; decide),if_neg (by rw [isB_dead _ _ h0]; decide)]
  rw [e] at h
  have:=(nameC_good h).1
  rw [nameB_dead h0] at this
  cases this
theorem last_mid {f:Nat} {c:Cur} (hP:c.bad = 0 → PartOk f) (ok:Ok c) (hf:Fit (f + 1) c) {W:World} {R B:Nat} {v:Value} {pre:List Tm} {x:List Tm} {v1:Value} {l1:List Tm} {w:World} (h:Mid W R B v pre c x v1 l1 w) :
 Calls Tryz.prog 172 #[.pointer (some ⟨R,0,none⟩)] w fun e w' => ∃ v2 l2,e = .returned (.tuple #[]) ∧ Mid W R B v pre (atom (S f) c).1 (x ++ (atom (S f) c).2) v2 l2 w':=by
 refine (last_step f c hP ok hf R B v1 l1 w h.sig h.rd).mono ?_
 rintro e w' ⟨v2,l2,rfl,hr,hc,hh⟩
 exact ⟨v2,l2,rfl,h.part atom_good hr hc hh⟩
set_option maxHeartbeats 4000000 in
theorem head_step (f:Nat) (c:Cur) (hP:c.bad = 0 → PartOk f) (ok:Ok c) (hf:Fit (f + 1) c) (R B:Nat) (v:Value) (l:List Tm) (k:Int) (w:World) (hs:SignsIn w) (h:RdAt w R B v c l) :
 Calls Tryz.prog 163 #[.pointer (some ⟨R,0,none⟩),.int .i64 k] w (RetHead w R B v l (hd (S f) c k)):=by
 have HP:=Lib.hid hP
 have H0:=Lib.hid (Mid.start hs h)
 have r0:=H0.out.cell
 have HOK:=Lib.hid ok
 have HF:=Lib.hid hf
 have HFO:Hid (∀ {k:Int} {s:ByteArray},isB c k s = true → k ≠ 0 → Fit f (on c)):=Lib.hid (fun hb hk _ => by
  have:=isB_real hb hk
  have:=hf this.1
  omega)
 clear hs h ok hf hP
 by_cases hn:k ≤ 3 ∧ isB c 1 tNot = true
 ·have HE:Hid (hd (S f) c k = (((S f (on c) 3).1,opT 12 :: (S f (on c) 3).2),3)):=Lib.hid (if_pos hn)
  have HPG:=Lib.hid (HP.out (isB_next hn.2).1)
  have HFG:=Lib.hid (HFO.out hn.2 (by decide))
  have HB:=Lib.hid hn.2
  have hk:=hn.1
  clear hn
  go_enter Tryz.func163,Tryz.ntmps163
  go_wp2_with (go_at_call 62; (with_reducible refine (take_yes H0.out (k:=1) (s:=tNot) HB.out).mono ?_))
  rintro e w1 ⟨rfl,M1⟩
  have H1:=Lib.hid M1
  clear M1 r0
  go_wp2_with (go_at_call 171; (with_reducible refine (add_mid H1.out 12 0 ⟨#[]⟩ (by decide)).mono ?_))
  rintro e w2 ⟨v2,l2,rfl,M2⟩
  have H2:=Lib.hid M2
  clear M2
  go_wp2_with (go_at_call 155; (with_reducible refine (part_mid HPG.out H2.out 3 HOK.out.on HFG.out).mono ?_))
  rintro e w3 ⟨v3,l3,rfl,M3⟩
  have H3:=Lib.hid M3
  clear M3
  go_wp2_with fail
  go_ret
  exact H3.out.head HE.out
 ·have hX:∃ X:Prop,X:=⟨True,trivial⟩
  by_cases hk:k ≤ 3
  ·have hnb:isB c 1 tNot = false:=by simpa using fun h => hn ⟨hk,h⟩
   have HNB:=Lib.hid hnb
   by_cases hg:isB c 3 tNeg = true
   ·have HE:Hid (hd (S f) c k = (((S f (on c) 7).1,opT 3 :: (S f (on c) 7).2),7)):=Lib.hid (by unfold hd; rw [if_neg hn,if_pos hg])
    have HPG:=Lib.hid (HP.out (isB_next hg).1)
    have HFG:=Lib.hid (HFO.out hg (by decide))
    have HB:=Lib.hid hg
    clear hn hnb hg hX
    go_enter Tryz.func163,Tryz.ntmps163
    go_wp2_with (go_at_call 62; (with_reducible refine (take_no H0.out (k:=1) (s:=tNot) HNB.out).mono ?_))
    rintro e w1 ⟨rfl,M1⟩
    have H1:=Lib.hid M1
    have r1:=M1.cell
    clear M1 r0
    go_wp2_with (go_at_call 62; (with_reducible refine (take_yes H1.out (k:=3) (s:=tNeg) HB.out).mono ?_))
    rintro e w2 ⟨rfl,M2⟩
    have H2:=Lib.hid M2
    clear M2 r1
    go_wp2_with (go_at_call 171; (with_reducible refine (add_mid H2.out 3 0 ⟨#[]⟩ (by decide)).mono ?_))
    rintro e w3 ⟨v3,l3,rfl,M3⟩
    have H3:=Lib.hid M3
    clear M3
    go_wp2_with (go_at_call 155; (with_reducible refine (part_mid HPG.out H3.out 7 HOK.out.on HFG.out).mono ?_))
    rintro e w4 ⟨v4,l4,rfl,M4⟩
    have H4:=Lib.hid M4
    clear M4
    go_wp2_with fail
    go_ret
    exact H4.out.head HE.out
   ·have HE:Hid (hd (S f) c k = (atom (S f) c,8)):=Lib.hid (by unfold hd; rw [if_neg hn,if_neg hg])
    have hgb:isB c 3 tNeg = false:=by simpa using hg
    have HGB:=Lib.hid hgb
    clear hn hnb hg hgb hX
    go_enter Tryz.func163,Tryz.ntmps163
    go_wp2_with (go_at_call 62; (with_reducible refine (take_no H0.out (k:=1) (s:=tNot) HNB.out).mono ?_))
    rintro e w1 ⟨rfl,M1⟩
    have H1:=Lib.hid M1
    have r1:=M1.cell
    clear M1 r0
    go_wp2_with (go_at_call 62; (with_reducible refine (take_no H1.out (k:=3) (s:=tNeg) HGB.out).mono ?_))
    rintro e w2 ⟨rfl,M2⟩
    have H2:=Lib.hid M2
    clear M2 r1
    go_wp2_with (go_at_call 172; (with_reducible refine (last_mid HP.out HOK.out HF.out H2.out).mono ?_))
    rintro e w3 ⟨v3,l3,rfl,M3⟩
    have H3:=Lib.hid M3
    clear M3
    go_wp2_with fail
    go_ret
    exact H3.out.head HE.out
  ·have hkf:decide (k ≤ 3) = false:=decide_eq_false hk
   by_cases hg:isB c 3 tNeg = true
   ·have HE:Hid (hd (S f) c k = (((S f (on c) 7).1,opT 3 :: (S f (on c) 7).2),7)):=Lib.hid (by unfold hd; rw [if_neg hn,if_pos hg])
    have HPG:=Lib.hid (HP.out (isB_next hg).1)
    have HFG:=Lib.hid (HFO.out hg (by decide))
    have HB:=Lib.hid hg
    clear hn hg hX
    go_enter Tryz.func163,Tryz.ntmps163
    go_wp2_with (go_at_call 62; (with_reducible refine (take_yes H0.out (k:=3) (s:=tNeg) HB.out).mono ?_))
    (first | rintro e w2 rfl M2 | rintro e w2 ⟨rfl,M2⟩)
    have H2:=Lib.hid M2
    clear M2 r0
    go_wp2_with (go_at_call 171; (with_reducible refine (add_mid H2.out 3 0 ⟨#[]⟩ (by decide)).mono ?_))
    rintro e w3 ⟨v3,l3,rfl,M3⟩
    have H3:=Lib.hid M3
    clear M3
    go_wp2_with (go_at_call 155; (with_reducible refine (part_mid HPG.out H3.out 7 HOK.out.on HFG.out).mono ?_))
    rintro e w4 ⟨v4,l4,rfl,M4⟩
    have H4:=Lib.hid M4
    clear M4
    go_wp2_with fail
    go_ret
    exact H4.out.head HE.out
   ·have HE:Hid (hd (S f) c k = (atom (S f) c,8)):=Lib.hid (by unfold hd; rw [if_neg hn,if_neg hg])
    have hgb:isB c 3 tNeg = false:=by simpa using hg
    have HGB:=Lib.hid hgb
    clear hn hg hgb hX
    go_enter Tryz.func163,Tryz.ntmps163
    go_wp2_with (go_at_call 62; (with_reducible refine (take_no H0.out (k:=3) (s:=tNeg) HGB.out).mono ?_))
    (first | rintro e w2 rfl M2 | rintro e w2 ⟨rfl,M2⟩)
    have H2:=Lib.hid M2
    clear M2 r0
    go_wp2_with (go_at_call 172; (with_reducible refine (last_mid HP.out HOK.out HF.out H2.out).mono ?_))
    rintro e w3 ⟨v3,l3,rfl,M3⟩
    have H3:=Lib.hid M3
    clear M3
    go_wp2_with fail
    go_ret
    exact H3.out.head HE.out
def PtRel (W:World) (R B:Nat) (v:Value) (pre:List Tm) (q:Int) (f:Nat) (G:Prop) (P:Pa) (g:Nat) (i:Value) (wr:World):Prop :=
 ∃ lev c x v1 l1 k,i = .int .i64 lev ∧ Mid W R B v pre c x v1 l1 wr ∧ Ok c ∧ Fit k c ∧ k ≤ f ∧ (c.bad = 0 → G) ∧ C k lev q c x = P ∧ k = g
theorem hd_good {rec:Cur → Int → Pa} {c:Cur} {q:Int} (hb:(hd rec c q).1.1.bad = 0):c.bad = 0:=by
 by_cases h0:c.bad = 0
 ·exact h0
 ·have e:hd rec c q = (atom rec c,8):=by
   unfold hd
   rw [if_neg (by rw [isB_dead _ _ h0]; simp),if_neg (by rw [isB_dead _ _ h0]; decide)]
  rw [e] at hb
  exact atom_good hb
theorem sg_hold {w w':World} {R B:Nat} {v v':Value} {i:Nat} {o:Obj} (h:w.heap[i]? = some o) (hne:i ≠ B ∧ i ≠ R ∧ v.ownBlock ≠ some i) (hh:Hold R B v v' w w'):w'.heap[i]? = some o ∧ i ≠ B ∧ i ≠ R ∧ v'.ownBlock ≠ some i:=by
 have hi:=(Array.getElem?_eq_some_iff.1 h).1
 exact ⟨(hh.block i hi hne.1 hne.2.1 hne.2.2).trans h,hne.1,hne.2.1,hh.apart hi hne.2.2⟩
set_option maxHeartbeats 8000000 in
theorem part_walk (f:Nat) (c:Cur) (hP:c.bad = 0 → ∀ g,g ≤ f → PartOk g) (ok:Ok c) (hf:Fit (f + 1) c) (R B:Nat) (v:Value) (l:List Tm) (q:Int) (w:World) (hs:SignsIn w) (h:RdAt w R B v c l) :
 Calls Tryz.prog 155 #[.pointer (some ⟨R,0,none⟩),.int .i64 q] w (RetPart w R B v l (C f (hd (S f) c q).2 q (hd (S f) c q).1.1 (hd (S f) c q).1.2)):=by
 obtain ⟨A,cp,rfl⟩:=own_shape h.own
 obtain ⟨r0,r1⟩:=cells_2 h.blk
 obtain ⟨n,hn⟩:∃ n,n = l.length:=⟨_,rfl⟩
 have HH:=Lib.hid (head_step f c (fun h0 => hP h0 f (Nat.le_refl _)) ok hf R B _ l q w hs h)
 have HD:Hid (Ok (hd (S f) c q).1.1 ∧ Fit f (hd (S f) c q).1.1 ∧ ((hd (S f) c q).1.1.bad = 0 → c.bad = 0)):=Lib.hid (by
  refine ⟨inv_ok.hd (fun c k h => ok_S f k h) ok q,fun hb => ?_,hd_good⟩
  exact (hf.fitHd (hd_good hb) q) hb)
 obtain ⟨D,hD⟩:∃ D,D = hd (S f) c q:=⟨_,rfl⟩
 rw [← hD] at HH HD ⊢
 obtain ⟨P,hPp⟩:∃ P,P = C f D.2 q D.1.1 D.1.2:=⟨_,rfl⟩
 have HPP:=Lib.hid hPp
 rw [← hPp]
 have HN:=Lib.hid hn
 rw [← hn] at HH r1
 have HP:=Lib.hid hP
 have HS:=Lib.hid hs
 have HR:=Lib.hid h
 clear hn hD hPp hP ok hf hs h
 go_enter Tryz.func155,Tryz.ntmps155
 go_wp2_with (go_at_call 163; (with_reducible refine HH.out.mono ?_))
 rintro e w1 ⟨v1,l1,rfl,hr1,hc1,hh1⟩
 have H1:Hid (Mid w R B (.slice A n cp) l D.1.1 D.1.2 v1 l1 w1):=Lib.hid ⟨hr1,hc1,hh1,HS.out.hold (by rw [HN.out]; exact HR.out) hh1⟩
 clear hr1 hc1 hh1 r0 r1
 go_wp2_with fail
 go_loopg [5] f (fun g i wr => PtRel w R B (.slice A n cp) l q f (c.bad = 0) P g i wr)
 case atStart => exact ⟨D.2,D.1.1,D.1.2,v1,l1,f,rfl,H1.out,HD.out.1,HD.out.2.1,Nat.le_refl _,HD.out.2.2,HPP.out.symm,rfl⟩
 case round =>
  obtain ⟨lev,d,x,v2,l2,k,rfl,M2,okd,fd,hle,hG,hC,hk⟩:=hrel
  have HK:=Lib.hid hk
  clear hk
  have HB:=Lib.hid (between_at R B v2 d l2 lev q wr M2.sig M2.rd)
  have H2:=Lib.hid M2
  have HOK:=Lib.hid okd
  have HC:=Lib.hid hC
  cases hs:sgn d lev q with
  | none =>
    rw [hs] at HB
    have HE:=Lib.hid (C_stop k x hs)
    clear M2 okd fd hle hC hs hG
    go_wp2_with (go_at_call 164; (with_reducible refine HB.out.mono ?_))
    rintro e x3 ⟨s,b,y,rfl,⟨rfl,rfl,rfl⟩,hr3,hb3⟩
    have H3:=Lib.hid (H2.out.cur hr3.cur hb3 id)
    clear hr3 hb3
    go_wp2_with fail
    go_end0
    have hnl:=HN.out
    subst hnl
    exact (H3.out.alloc _).ret (HC.out.symm.trans HE.out)
  | some s =>
    rw [hs] at HB
    have hd0:=sgn_good hs
    cases k with
    | zero => exact absurd hd0 fd.zero
    | succ g =>
      have HE:=Lib.hid (C_step g x hs)
      have HFO:=Lib.hid (fd.fitOn hs)
      have HFS:=Lib.hid (fd.fitStep hs s.right)
      have HG:=Lib.hid (hG hd0)
      have HPG:=Lib.hid (HP.out (hG hd0) g (by omega))
      have HLE:=Lib.hid hle
      clear M2 okd fd hle hC hs hG hd0
      go_wp2_with (go_at_call 164; (with_reducible refine HB.out.mono ?_))
      rintro e x3 ⟨s',b,y,rfl,⟨rfl,rfl,rfl⟩,hr3,hb3⟩
      have H3:=Lib.hid (H2.out.cur hr3.cur hb3 (fun h => by rw [(on_bad d).1] at h; exact h))
      have HAP:=Lib.hid (H3.out.rd.apart (Nat.le_refl _))
      obtain ⟨s0,s1,s2,s3,s4⟩:=cells_5 (heap_alloc_new x3 (sgO s'))
      have HINS:Hid (Calls Tryz.prog 165 #[.pointer (some ⟨R,0,none⟩),.int .i64 n,.agg #[.int .i64 s'.op,.int .i64 0,.string ⟨#[]⟩]] (x3.alloc (sgO s')) (RetRd (x3.alloc (sgO s')) R B v2 (on d) (ins l2 l.length (opT s'.op)))):=Lib.hid (by
       rw [HN.out]
       exact insert_at R B v2 (on d) l2 l.length (opT s'.op) _ (H3.out.alloc _).rd H3.out.cap.1 (show (⟨#[]⟩:ByteArray).size ≤ 9223372036854775807 by decide))
      clear hr3 hb3
      go_wp2_with (go_at_call 165; (with_reducible refine HINS.out.mono ?_))
      rintro e x4 ⟨v4,rfl,hr4,hh4⟩
      have H4:=Lib.hid ((H3.out.alloc (sgO s')).ins (opT s'.op) hr4 hh4)
      have HK4:=Lib.hid (sg_hold (heap_alloc_new x3 (sgO s')) HAP.out hh4)
      obtain ⟨t0,t1,t2,t3,t4⟩:=cells_5 HK4.out.1
      have HPT:=Lib.hid (HPG.out R B v4 (on d) (ins l2 l.length (opT s'.op)) s'.right x4 H4.out.sig H4.out.rd HOK.out.on HFO.out)
      clear hr4 hh4 s0 s1 s2 s3 s4
      go_wp2_with (go_at_call 155; (with_reducible refine HPT.out.mono ?_))
      rintro e x5 ⟨v5,l5,rfl,hr5,hc5,hh5⟩
      have H5:=Lib.hid (H4.out.part (S_less g (on d) s'.right).2 hr5 hc5 hh5)
      obtain ⟨u0,u1,u2,u3,u4⟩:=cells_5 (sg_hold HK4.out.1 HK4.out.2 hh5).1
      clear hr5 hc5 hh5 t0 t1 t2 t3 t4
      go_wp2_with fail
      go_roundg g
      case rel => exact ⟨s'.lev,_,_,v5,l5,g,rfl,H5.out,ok_S g _ HOK.out.on,HFS.out,by have:=HLE.out; omega,fun _ => HG.out,by rw [← HC.out,HE.out]; rfl,rfl⟩
      case measure => have:=HK.out; omega
theorem part_ok:∀ f,PartOk f:=by
 intro f
 induction f using Nat.strongRecOn with
 | ind f ih =>
   intro R B v c l q w hs h ok hf
   by_cases h0:c.bad = 0
   ·cases f with
    | zero => exact absurd h0 hf.zero
    | succ f =>
      rw [S_good f q h0]
      exact part_walk f c (fun _ g hg => ih g (by omega)) ok hf R B v l q w hs h
   ·rw [S_dead f q h0]
    refine (part_walk 0 c (fun h => absurd h h0) ok (fun h => absurd h h0) R B v l q w hs h).mono ?_
    rintro e w' ⟨v',l',rfl,hr,hc,hh⟩
    have e1:(C 0 (hd (S 0) c q).2 q (hd (S 0) c q).1.1 (hd (S 0) c q).1.2).1 = c:=by
     show (hd (S 0) c q).1.1 = c
     have e:hd (S 0) c q = (atom (S 0) c,8):=by
      unfold hd
      rw [if_neg (by rw [isB_dead _ _ h0]; simp),if_neg (by rw [isB_dead _ _ h0]; decide)]
     rw [e]
     show (atom (S 0) c).1 = c
     unfold atom
     rw [if_neg (by rw [next_dead h0]; decide),if_neg (by rw [isB_dead _ _ h0]; decide),if_neg (by rw [isB_dead _ _ h0]; decide),if_neg (by rw [isB_dead _ _ h0]; decide),if_neg (by rw [isB_dead _ _ h0]; decide),if_neg (by rw [isB_dead _ _ h0]; decide),if_neg (by rw [isB_dead _ _ h0]; decide)]
     show nameC c = c
     unfold nameC
     rw [if_neg (by rw [nameB_dead h0]; decide)]
     exact fail_dead _ h0
    rw [e1] at hr hc
    exact ⟨v',l',rfl,hr,hc.dead h0,hh⟩
end Go.Proofs.YtcofikjpplkjdaaGreatDoor
namespace Go.Proofs.YtcofikjpplkjdaaGreatDoor
open Go.RowKit CurSpec TermSpec ExprSpec NamesSpec
set_option maxRecDepth 100000
def RetRead (W:World) (B:Nat) (p:Pa) (e:Ending) (w':World):Prop:=∃ A n cp,e = .returned (.slice A n cp) ∧ CurAt w' B p.1 ∧ Tms w' (.slice A n cp) p.2 ∧ n = p.2.length ∧ W.grownBy w' (some B) ∧ ∀ b,(Value.slice A n cp).ownBlock = some b → W.heap.size ≤ b
theorem cap_chk {c:Cur} {x l:List Tm} (h:CapD c [] x l) (h0:c.bad = 0):chk l = chk x ∧ (chk x = 0 → l = x):=by
 have h2:=h.2 h0
 split at h2
 ·rw [List.nil_append] at h2
  rw [h2]
  exact ⟨rfl,fun _ => rfl⟩
 ·rename_i h3
  simp only [List.length_nil,Nat.zero_add] at h3
  have e1:chk l = 8:=chk_full (by omega)
  have e2:chk x = 8:=chk_full (by omega)
  rw [e1,e2]
  exact ⟨rfl,fun h => absurd h (by decide)⟩
theorem readP_cur {f:Nat} {c:Cur} {l:List Tm} (h:CapD (S f c 1).1 [] (S f c 1).2 l):fail (S f c 1).1 (chk l) = (readP f c).1:=by
 unfold readP
 by_cases h0:(S f c 1).1.bad = 0
 ·rw [if_pos h0,(cap_chk h h0).1]
 ·rw [if_neg h0,fail_dead _ h0]
theorem fail_good {c:Cur} {e:Int} (h:(fail c e).bad = 0):c.bad = 0 ∧ e = 0:=by
 by_cases h0:c.bad = 0
 ·by_cases he:e = 0
  ·exact ⟨h0,he⟩
  ·rw [fail_yes h0 he] at h; exact absurd h he
 ·rw [fail_dead e h0] at h; exact absurd h h0
theorem readP_list {f:Nat} {c:Cur} {l:List Tm} (h:CapD (S f c 1).1 [] (S f c 1).2 l) :
 ((fail (S f c 1).1 (chk l)).bad = 0 → (readP f c).2 = l) ∧ ((fail (S f c 1).1 (chk l)).bad ≠ 0 → (readP f c).2 = []):=by
 refine ⟨fun hb => ?_,fun hb => ?_⟩
 ·obtain ⟨h0,he⟩:=fail_good hb
  have h2:=cap_chk h h0
  unfold readP
  rw [if_pos h0,if_pos (by rw [← h2.1]; exact he),h2.2 (by rw [← h2.1]; exact he)]
 ·unfold readP
  by_cases h0:(S f c 1).1.bad = 0
  ·rw [if_pos h0]
   have h2:=cap_chk h h0
   refine if_neg (fun he => hb ?_)
   rw [h2.1,he,fail_zero]
   exact h0
  ·rw [if_neg h0]
theorem tms_nil (w:World):Tms w (.slice none 0 0) []:=⟨0,rfl,Rdk.nil 3 w⟩
theorem rd_tms {w:World} {R B:Nat} {A:Option Addr} {n cp:Nat} {c:Cur} {l:List Tm} (h:RdAt w R B (.slice A n cp) c l):Tms w (.slice A n cp) l ∧ n = l.length:=by
 have:=Rdk.own h.own
 obtain ⟨A',c',heq,_⟩:=this
 cases heq
 exact ⟨⟨_,rfl,Rdk.own h.own⟩,rfl⟩
theorem hold_new {w x:World} {o:Obj} {B:Nat} {v':Value} (h:Hold w.heap.size B (.slice none 0 0) v' (w.alloc o) x):w.grownBy x (some B):=by
 have hz:=h.size
 rw [World.size_alloc] at hz
 exact ⟨h.os,h.tape,h.output,by omega,fun i hi hn => (h.block i (by rw [World.size_alloc]; omega) (by simpa using hn) (by omega) (by simp [Value.ownBlock])).trans (heap_alloc_old _ _ hi)⟩
set_option maxHeartbeats 4000000 in
theorem read_at (B:Nat) (c:Cur) (f:Nat) (w:World) (hs:SignsIn w) (h:CurAt w B c) (ok:Ok c) (hf:Fit f c) :
 Calls Tryz.prog 149 #[.pointer (some ⟨B,0,none⟩)] w (RetRead w B (readP f c)):=by
 have hB:=h.lt
 have h0:RdAt (w.alloc (.cells #[.pointer (some ⟨B,0,none⟩),.slice none 0 0] 186)) w.heap.size B (.slice none 0 0) c [] :=
  ⟨h.alloc _,heap_alloc_new _ _,⟨rfl,.inl ⟨rfl,rfl⟩⟩,hB,by simp,by intro t ht; cases ht⟩
 have HPT:=Lib.hid (part_ok f w.heap.size B (.slice none 0 0) c [] 1 _ (hs.alloc _) h0 ok hf)
 have HRL:=Lib.hid (fun (l:List Tm) (hc:CapD (S f c 1).1 [] (S f c 1).2 l) => And.intro (readP_cur hc) (readP_list hc))
 obtain ⟨D,hD⟩:∃ D,D = S f c 1:=⟨_,rfl⟩
 obtain ⟨P,hP⟩:∃ P,P = readP f c:=⟨_,rfl⟩
 rw [← hD] at HPT HRL
 rw [← hP] at HRL ⊢
 clear hD hP hs h ok hf h0 hB
 go_enter Tryz.func149,Tryz.ntmps149
 go_wp2_with (go_at_call 155; (with_reducible refine HPT.out.mono ?_))
 rintro e x1 ⟨v,l,rfl,hr,hc,hh⟩
 obtain ⟨A,cp,rfl⟩:=own_shape hr.own
 obtain ⟨n,hn⟩:∃ n,n = l.length:=⟨_,rfl⟩
 rw [← hn] at hr hh
 have ht:=rd_tms hr
 have HC:=Lib.hid (check_any A n cp l hn (by have:=hr.few; omega) hr.small x1.drew ht.1)
 have HN:=Lib.hid hn
 have HH:=Lib.hid hh
 have HR:=Lib.hid hr
 have HT:=Lib.hid ht.1
 have HL:=Lib.hid (HRL.out l hc)
 obtain ⟨r0,r1⟩:=cells_2 hr.blk
 obtain ⟨ck,hck⟩:∃ ck,ck = chk l:=⟨_,rfl⟩
 rw [← hck] at HC HL
 have HFL:Hid (∀ W,Below x1.drew.heap.size x1.drew W → Calls Tryz.prog 63 #[.pointer (some ⟨B,0,none⟩),.int .i64 ck] W (RetAt W B (fail D.1 ck))):=Lib.hid (fun W hW => fail_at B D.1 ck W (hr.drew.cur.keep hW))
 have HCL:Hid (∀ W,Below x1.drew.heap.size x1.drew W → RdAt W w.heap.size B (.slice A n cp) D.1 l):=Lib.hid (fun W hW => hr.drew.keep hW)
 clear hr hc hh hn ht hck
 go_wp2_with fail
 go_region_law (first
  | (go_simp; go_at_call 140; (with_reducible refine HC.out.mono ?_); rintro e x2 ⟨rfl,hb2⟩; have HB2:=Lib.hid hb2; clear hb2; obtain ⟨s0,s1⟩:=cells_2 (HCL.out _ HB2.out).blk)
  | (go_simp; go_at_call 63; (with_reducible refine (HFL.out _ HB2.out).mono ?_); rintro e x3 ⟨rfl,hc3,hb3⟩; have HE3:=Lib.hid (And.intro hc3 hb3); clear hc3 hb3; obtain ⟨t0,t1⟩:=cells_2 ((HCL.out _ HB2.out).but HE3.out.2 HE3.out.1).blk))
 all_goals
  have HR3:=Lib.hid ((HCL.out _ HB2.out).but HE3.out.2 HE3.out.1)
  have HO3:=Lib.hid (((HH.out.trans (Hold.of_below _ (((Below.refl _ _).drew).trans (HB2.out.mono (Nat.le_refl _))))).trans (Hold.of_but _ HE3.out.2)))
  cases hg:(fail D.1 ck).bad == 0 with
  | true =>
    have HG:=Lib.hid (fun W hW => good_any _ _ _ _ W ((Fl.of HE3.out.1).keep hW) (b:=true) hg)
    have HX:=Lib.hid (HL.out.2.1 (by simpa using hg))
    clear hg
    go_wp2_with (go_at_call 61; (with_reducible refine (HG.out _ (Below.refl _ _)).mono ?_))
    rintro e x4 ⟨rfl,hb4⟩
    have HR4:=Lib.hid (HR3.out.keep hb4)
    have HO4:=Lib.hid (HO3.out.trans (Hold.of_below _ hb4))
    obtain ⟨u0,u1⟩:=cells_2 HR4.out.blk
    clear hb4
    go_wp2_with fail
    go_ret
    refine ⟨A,n,cp,rfl,?_,?_,?_,hold_new HO4.out,fun b e => by have:=(own_block_bd HR4.out.own b e).1; omega⟩
    ·rw [← HL.out.1]; exact HR4.out.cur
    ·rw [HX.out]; have hnl:=HN.out; subst hnl; exact (rd_tms HR4.out).1
    ·rw [HX.out]; exact HN.out
  | false =>
    have HG:=Lib.hid (fun W hW => good_any _ _ _ _ W ((Fl.of HE3.out.1).keep hW) (b:=false) hg)
    have HX:=Lib.hid (HL.out.2.2 (by simpa using hg))
    clear hg
    go_wp2_with (go_at_call 61; (with_reducible refine (HG.out _ (Below.refl _ _)).mono ?_))
    rintro e x4 ⟨rfl,hb4⟩
    have HR4:=Lib.hid (HR3.out.keep hb4)
    have HO4:=Lib.hid (HO3.out.trans (Hold.of_below _ hb4))
    clear hb4
    go_wp2_with fail
    go_ret
    refine ⟨none,0,0,rfl,?_,?_,?_,hold_new HO4.out,by simp [Value.ownBlock]⟩
    ·rw [← HL.out.1]; exact HR4.out.cur
    ·rw [HX.out]; exact tms_nil _
    ·rw [HX.out]; rfl
end Go.Proofs.YtcofikjpplkjdaaGreatDoor
namespace Go.Proofs.YtcofikjpplkjdaaGreatDoor
open Go.RowKit CurSpec TermSpec ExprSpec NamesSpec
set_option maxRecDepth 100000
def lvl (k:Int):List Sg:=sgs.filter fun s => decide (s.lev = k)
def sigT (k:Int):List ByteArray:=(lvl k).map (·.t)
def sigO (k:Int):List Int:=(lvl k).map (·.op)
theorem lvl_none {k:Int} (h:k ≠ 1 ∧ k ≠ 2 ∧ k ≠ 4 ∧ k ≠ 5 ∧ k ≠ 6):lvl k = []:=by
 unfold lvl
 rw [List.filter_eq_nil_iff]
 intro s hs
 have:=(sgs_all s hs).2.2.1
 simp only [decide_eq_true_eq]
 omega
def RetSigns (W:World) (k:Int) (e:Ending) (w':World):Prop:=∃ v1 v2,e = .returned (.tuple #[v1,v2]) ∧ Rd w' v1 (strV (sigT k)) ∧ Rd w' v2 (intV (sigO k)) ∧ (∀ b,v1.ownBlock = some b → W.heap.size ≤ b) ∧ (∀ b,v2.ownBlock = some b → W.heap.size ≤ b) ∧ Below W.heap.size W w'
theorem two_lits {w:World} {cs ds:Array Value} {T U:TypeId} {xs ys:List Value} {n m:Nat} (h1:cs.toList = xs) (h2:ds.toList = ys) (hn:n = xs.length) (hm:m = ys.length) :
 Rd ((w.alloc (.cells cs T)).alloc (.cells ds U)) (.slice (some ⟨w.heap.size,0,none⟩) n n) xs ∧ Rd ((w.alloc (.cells cs T)).alloc (.cells ds U)) (.slice (some ⟨w.heap.size + 1,0,none⟩) m m) ys ∧ (∀ b,(Value.slice (some ⟨w.heap.size,0,none⟩) n n).ownBlock = some b → w.heap.size ≤ b) ∧ (∀ b,(Value.slice (some ⟨w.heap.size + 1,0,none⟩) m m).ownBlock = some b → w.heap.size ≤ b) ∧ Below w.heap.size w ((w.alloc (.cells cs T)).alloc (.cells ds U)) :=
 ⟨(lit_here rfl hn h1).alloc _,lit_here (by simp) hm h2,fun b hb => by cases hb; exact Nat.le_refl _,fun b hb => by cases hb; exact Nat.le_succ _,((Below.refl _ _).alloc (Nat.le_refl _) _).alloc (by simp) _⟩
theorem two_rets {W w':World} {k:Int} {v1 v2:Value} {xs ys:List Value} (hx:strV (sigT k) = xs) (hy:intV (sigO k) = ys) (h:Rd w' v1 xs ∧ Rd w' v2 ys ∧ (∀ b,v1.ownBlock = some b → W.heap.size ≤ b) ∧ (∀ b,v2.ownBlock = some b → W.heap.size ≤ b) ∧ Below W.heap.size W w'):RetSigns W k (.returned (.tuple #[v1,v2])) w' :=
 ⟨v1,v2,rfl,by rw [hx]; exact h.1,by rw [hy]; exact h.2.1,h.2.2⟩
set_option maxHeartbeats 2000000 in
theorem signs_say (k:Int) (w:World):Calls Tryz.prog 132 #[.int .i64 k] w (RetSigns w k):=by
 by_cases h1:k = 1
 ·subst h1
  go_enter Tryz.func132,Tryz.ntmps132
  go_wp2_with fail
  go_ret2
  exact two_rets rfl rfl (two_lits rfl rfl rfl rfl)
 by_cases h2:k = 2
 ·subst h2
  go_enter Tryz.func132,Tryz.ntmps132
  go_wp2_with fail
  go_ret2
  exact two_rets rfl rfl (two_lits rfl rfl rfl rfl)
 by_cases h4:k = 4
 ·subst h4
  go_enter Tryz.func132,Tryz.ntmps132
  go_wp2_with fail
  go_ret2
  exact two_rets rfl rfl (two_lits rfl rfl rfl rfl)
 by_cases h5:k = 5
 ·subst h5
  go_enter Tryz.func132,Tryz.ntmps132
  go_wp2_with fail
  go_ret2
  exact two_rets rfl rfl (two_lits rfl rfl rfl rfl)
 by_cases h6:k = 6
 ·subst h6
  go_enter Tryz.func132,Tryz.ntmps132
  go_wp2_with fail
  go_ret2
  exact two_rets rfl rfl (two_lits rfl rfl rfl rfl)
 have HE:Hid (lvl k = []):=Lib.hid (lvl_none ⟨h1,h2,h4,h5,h6⟩)
 have e1:(k == 1) = false:=by simpa using h1
 have e2:(k == 2) = false:=by simpa using h2
 have e4:(k == 4) = false:=by simpa using h4
 have e5:(k == 5) = false:=by simpa using h5
 have e6:(k == 6) = false:=by simpa using h6
 clear h1 h2 h4 h5 h6
 go_enter Tryz.func132,Tryz.ntmps132
 go_wp2_with fail
 go_ret2
 refine two_rets (xs:=[]) (ys:=[]) (by unfold sigT; rw [HE.out]; rfl) (by unfold sigO; rw [HE.out]; rfl) ⟨Rd.nil _,Rd.nil _,(fun b hb => by cases hb),(fun b hb => by cases hb),Below.refl _ _⟩
end Go.Proofs.YtcofikjpplkjdaaGreatDoor
namespace Go.Proofs.YtcofikjpplkjdaaGreatDoor
open Go.RowKit CurSpec TermSpec ExprSpec NamesSpec
theorem tms_but {w w':World} {A:Option Addr} {n cp B:Nat} {l:List Tm} (h:Tms w (.slice A n cp) l) (hb:w.grownBy w' (some B)) (hne:(Value.slice A n cp).ownBlock ≠ some B):Tms w' (.slice A n cp) l:=by
 obtain ⟨m,hm,A',c',heq,hc,hl,hA⟩:=h
 cases heq
 refine ⟨n,hm,A,cp,rfl,hc,hl,fun h0 => ?_⟩
 obtain ⟨b,off,rfl,hlt,hcell⟩:=hA h0
 refine ⟨b,off,rfl,Nat.lt_of_lt_of_le hlt hb.size,fun j u hj => ?_⟩
 rw [← hcell j u hj]
 have:=hb.block b hlt (fun e => hne (by rw [← e]; rfl))
 simp [World.cell?,this]
theorem tmsNil (w:World):Tms w (.slice none 0 0) []:=⟨0,rfl,Rdk.nil 3 w⟩
end Go.Proofs.YtcofikjpplkjdaaGreatDoor
namespace Go.Proofs.YtcofikjpplkjdaaGreatDoor
open Go.RowKit CurSpec TermSpec EvalSpec ActSpec NamesSpec ExprSpec
set_option maxRecDepth 100000
def RetOne (W:World) (B:Nat) (p:Cur × Ac) (e:Ending) (w':World):Prop :=
 ∃ A n cp,e = .returned (.agg #[.string p.2.s,.bool p.2.any,.slice A n cp]) ∧ CurAt w' B p.1 ∧ Tms w' (.slice A n cp) p.2.x ∧ (∀ b,(Value.slice A n cp).ownBlock = some b → W.heap.size ≤ b) ∧ W.grownBy w' (some B)
theorem rb_any (s:ByteArray) (w:World):(Instr.build 47 #[(0,.string s),(1,.bool true)]).run Tryz.prog w = .ok (.agg #[.string s,.bool true,.slice none 0 0]) w:=run_build w 47 _ _ (by kernel_rfl)
theorem rb_set (s:ByteArray) (A:Option Addr) (n c:Nat) (w:World):(Instr.build 47 #[(0,.string s),(2,.slice A n c)]).run Tryz.prog w = .ok (.agg #[.string s,.bool false,.slice A n c]) w:=run_build w 47 _ _ (by kernel_rfl)
theorem store_three {w:World} {b:Nat} (h:Blk w b 3) (u0 u1 u2:Value) :
 (w.setCell ⟨b,0,none⟩ u0).cell? ⟨b,0,none⟩ = some u0 ∧ ((w.setCell ⟨b,0,none⟩ u0).setCell ⟨b,1,none⟩ u1).cell? ⟨b,1,none⟩ = some u1 ∧
 (((w.setCell ⟨b,0,none⟩ u0).setCell ⟨b,1,none⟩ u1).setCell ⟨b,2,none⟩ u2).cell? ⟨b,2,none⟩ = some u2 :=
 ⟨h.read 0 (by omega) _,(h.set _ _).read 1 (by omega) _,((h.set _ _).set _ _).read 2 (by omega) _⟩
theorem set_three (w:World) (b:Nat) (u0 u1 u2:Value):w.grownBy (((w.setCell ⟨b,0,none⟩ u0).setCell ⟨b,1,none⟩ u1).setCell ⟨b,2,none⟩ u2) (some b):=but_set (but_set (but_set (but_refl _ _) 0 _) 1 _) 2 _
theorem but_own {w x y:World} {B:Nat} {o:Obj} (h:(w.alloc o).grownBy x (some B)) (hy:x.grownBy y (some w.heap.size)):w.grownBy y (some B):=by
 have hz:=h.size
 rw [World.size_alloc] at hz
 exact ⟨hy.os.trans h.os,hy.tape.trans h.tape,hy.output.trans h.output,Nat.le_trans (by omega) hy.size,fun i hi hn => (hy.block i (by omega) (by simp; omega)).trans ((h.block i (by rw [World.size_alloc]; omega) hn).trans (heap_alloc_old _ _ hi))⟩
theorem CurAt.own {x y:World} {B k:Nat} {c:Cur} (h:CurAt x B c) (hy:x.grownBy y (some k)) (hlt:B < k):CurAt y B c:=h.but hy hlt
theorem grown_block {x y:World} {b B:Nat} {o:Obj} (h:x.heap[b]? = some o) (hb:x.grownBy y (some B)) (hne:b ≠ B):y.heap[b]? = some o:=(hb.block b (Array.getElem?_eq_some_iff.1 h).1 (by simpa using hne)).trans h
theorem signs_but {w w':World} {B:Nat} {c:Cur} (h:SignsIn w) (hc:CurAt w B c) (hb:w.grownBy w' (some B)):SignsIn w':=by
 refine h.of (hb.block _ h.pos fun e => ?_)
 obtain ⟨T,fr,h⟩:=h
 obtain ⟨b,off,n,cp,hB,_⟩:=hc
 injection e with e
 rw [← e,h] at hB
 simp only [Option.some.injEq,Obj.cells.injEq] at hB
 exact absurd ((congrArg Array.size hB.1).symm.trans rfl) (show ¬ _ = signsV.size by rw [show signsV.size = 55 by decide]; simp)
set_option maxHeartbeats 4000000 in
theorem readOne_at (B:Nat) (c:Cur) (w:World) (hs:SignsIn w) (h:CurAt w B c) (ok:Ok c) :
 Calls Tryz.prog 147 #[.pointer (some ⟨B,0,none⟩)] w (RetOne w B (oneR c)):=by
 have hB:=h.lt
 have b1:=rb_any
 have b2:=rb_set
 have h1:=h.alloc (.cells #[.string ⟨#[]⟩,.bool false,.slice none 0 0] 47)
 have hk:=heap_alloc_new w (.cells #[.string ⟨#[]⟩,.bool false,.slice none 0 0] 47)
 have hs1:=hs.alloc (.cells #[.string ⟨#[]⟩,.bool false,.slice none 0 0] 47)
 obtain ⟨w1,hw1⟩:∃ w1,w.alloc (.cells #[.string ⟨#[]⟩,.bool false,.slice none 0 0] 47) = w1:=⟨_,rfl⟩
 have hsz:w1.heap.size = w.heap.size + 1:=by rw [← hw1,World.size_alloc]
 rw [hw1] at h1 hk hs1
 have HK:=Lib.hid hk
 have HS:=Lib.hid hs1
 have HT:=Lib.hid (take_at B c 1 wAny w1 h1)
 have HCU:=Lib.hid h1
 have HW:=Lib.hid hw1
 have HSZ:=Lib.hid hsz
 obtain ⟨P,hP⟩:∃ P,P = oneR c:=⟨_,rfl⟩
 rw [← hP]
 by_cases hb:isB c 1 wAny = true
 ·have HP:Hid (P = (nameC (on c),⟨nameS (on c),true,[]⟩)):=Lib.hid (by rw [hP]; unfold oneR; rw [if_pos hb])
  rw [hb,show take c 1 wAny = on c by unfold take; rw [if_pos hb]] at HT
  have HN:=Lib.hid (fun W (hW:CurAt W B (on c)) => name_at B (on c) ok.on W hW)
  clear hP hb h hs h1 hk hs1 hw1 hsz ok
  go_enter Tryz.func147,Tryz.ntmps147
  go_wp2_with (rw [HW.out]; go_at_call 62; (with_reducible refine HT.out.mono ?_))
  rintro e x2 ⟨rfl,hc2,hb2⟩
  have HB2:=Lib.hid hb2
  have HC2:=Lib.hid hc2
  clear hb2 hc2
  go_wp2_with (go_at_call 57; (with_reducible refine (HN.out _ HC2.out).mono ?_))
  rintro e x3 ⟨rfl,hc3,hb3⟩
  have HB3:=Lib.hid (but_trans HB2.out hb3)
  have HC3:=Lib.hid hc3
  have hk3:=grown_block HK.out HB3.out (show w.heap.size ≠ B by omega)
  have HK3:=Lib.hid hk3
  obtain ⟨c0,c1,c2⟩:=cells_3 hk3
  obtain ⟨f0,f1,f2⟩:=free_3 hk3
  obtain ⟨s,hs⟩:∃ s,s = nameS (on c):=⟨_,rfl⟩
  rw [← hs] at HP ⊢
  clear hb3 hc3 hk3 hs
  go_wp2_with fail
  obtain ⟨q0,q1,q2⟩:=store_three (blk_of HK3.out (n:=3) rfl) (.string s) (.bool true) (.slice none 0 0)
  refine bodyPost_ret (v:=.agg #[.string s,.bool true,.slice none 0 0]) (by simp [results,Tryz.results147,go_sem,q0,q1,q2]) rfl ?_
  have hb3:=HB3.out
  rw [← HW.out] at hb3
  refine ⟨none,0,0,by rw [HP.out],?_,?_,by simp [Value.ownBlock],but_own hb3 (set_three _ _ _ _ _)⟩
  ·rw [HP.out]; exact HC3.out.own (set_three _ _ _ _ _) (by omega)
  ·rw [HP.out]; exact ⟨0,rfl,Rdk.nil 3 _⟩
 ·have HP:Hid (P = ((rdE (want (nameC c) 3 wSet)).1,⟨nameS c,false,(rdE (want (nameC c) 3 wSet)).2⟩)):=Lib.hid (by rw [hP]; unfold oneR; rw [if_neg hb])
  have hb':isB c 1 wAny = false:=by simpa using hb
  rw [hb',show take c 1 wAny = c by unfold take; rw [if_neg hb]] at HT
  have HN:=Lib.hid (fun W (hW:CurAt W B c) => name_at B c ok W hW)
  have HWA:=Lib.hid (fun W (hW:CurAt W B (nameC c)) => want_at B (nameC c) 3 wSet W hW)
  have HRD:=Lib.hid (fun W (hs:SignsIn W) (hW:CurAt W B (want (nameC c) 3 wSet)) => read_at B (want (nameC c) 3 wSet) _ W hs hW (ok.nameC.want 3 wSet) (fit_self _))
  clear hP hb hb' h hs h1 hk hs1 hw1 hsz ok
  go_enter Tryz.func147,Tryz.ntmps147
  go_wp2_with (rw [HW.out]; go_at_call 62; (with_reducible refine HT.out.mono ?_))
  rintro e x2 ⟨rfl,hc2,hb2⟩
  have HB2:=Lib.hid hb2
  have HC2:=Lib.hid hc2
  clear hb2 hc2
  go_wp2_with (go_at_call 57; (with_reducible refine (HN.out _ HC2.out).mono ?_))
  rintro e x3 ⟨rfl,hc3,hb3⟩
  have HB3:=Lib.hid (but_trans HB2.out hb3)
  have HC3:=Lib.hid hc3
  clear hb3 hc3
  go_wp2_with (go_at_call 26; (with_reducible refine (HWA.out _ HC3.out).mono ?_))
  rintro e x4 ⟨rfl,hc4,hb4⟩
  have HB4:=Lib.hid (but_trans HB3.out hb4)
  have HC4:=Lib.hid hc4
  clear hb4 hc4
  have HS4:Hid (SignsIn x4):=Lib.hid (signs_but HS.out HCU.out HB4.out)
  go_wp2_with (go_at_call 149; (with_reducible refine (HRD.out _ HS4.out HC4.out).mono ?_))
  rintro e x5 ⟨A5,n5,c5,rfl,hc5,ht5,hn5,hb5,ho5⟩
  have HB5:=Lib.hid (but_trans HB4.out hb5)
  have HO5:=Lib.hid (fun b hb => Nat.le_trans HB4.out.size (ho5 b hb))
  have HC5:=Lib.hid (And.intro hc5 ht5)
  have hk5:=grown_block HK.out HB5.out (show w.heap.size ≠ B by omega)
  have HK5:=Lib.hid hk5
  obtain ⟨c0,c1,c2⟩:=cells_3 hk5
  obtain ⟨f0,f1,f2⟩:=free_3 hk5
  obtain ⟨s,hs⟩:∃ s,s = nameS c:=⟨_,rfl⟩
  rw [← hs] at HP ⊢
  clear hb5 hc5 hk5 hs ho5 ht5 hn5
  go_wp2_with fail
  obtain ⟨q0,q1,q2⟩:=store_three (blk_of HK5.out (n:=3) rfl) (.string s) (.bool false) (.slice A5 n5 c5)
  refine bodyPost_ret (v:=.agg #[.string s,.bool false,.slice A5 n5 c5]) (by simp [results,Tryz.results147,go_sem,q0,q1,q2]) rfl ?_
  have hb5:=HB5.out
  rw [← HW.out] at hb5
  refine ⟨A5,n5,c5,by rw [HP.out],?_,?_,fun b hb => by have:=HO5.out b hb; have:=HSZ.out; omega,but_own hb5 (set_three _ _ _ _ _)⟩
  ·rw [HP.out]; exact HC5.out.1.own (set_three _ _ _ _ _) (by omega)
  ·rw [HP.out]
   refine tms_but HC5.out.2 (set_three _ _ _ _ _) fun hb => ?_
   have:=HO5.out _ hb
   have:=HSZ.out
   omega
end Go.Proofs.YtcofikjpplkjdaaGreatDoor