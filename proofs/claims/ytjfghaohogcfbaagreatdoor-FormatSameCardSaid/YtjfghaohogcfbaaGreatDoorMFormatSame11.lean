/- TermCheck, ExprRead, CurNew, ScanSpec, ScanRef, joined. -/
import Derived.Test.YtjfghaohogcfbaaGreatDoorMFormatSame10
import Derived.Test.YtjfghaohogcfbaaGreatDoorMFormatSame05
import Derived.Test.YtjfghaohogcfbaaGreatDoorMFormatSame04
import Derived.Deep.AppendLies
import Derived.Laws.MakeOwn
import Derived.OwnWalk
import Derived.Test.YtjfghaohogcfbaaGreatDoorMFormatSame00
import Derived.Test.YtjfghaohogcfbaaGreatDoorRows
import Derived.Test.YtjfghaohogcfbaaGreatDoorMFormatSame02
namespace Go.Proofs.YtjfghaohogcfbaaGreatDoor
open Go.RowKit TermSpec
set_option maxRecDepth 100000
theorem whole_yes {l:List Tm} {n:Nat} (hn:n = l.length) (h40:n ≤ 40) (h:endA l 0 = n):wholeB l = true:=by
 refine wholeB_iff.2 ⟨by omega,?_⟩
 obtain ⟨k,m,hk,hc,he,hm,hl⟩:=endA_nn (l:=l) (a:=0) (by omega)
 obtain rfl:k = 0:=by omega
 rw [List.drop_zero] at hc
 rw [hc]
 congr 1
 omega
theorem whole_no {l:List Tm} {n:Nat} (hn:n = l.length) (h:¬ (n ≤ 40 ∧ endA l 0 = n)):wholeB l = false:=by
 rw [Bool.eq_false_iff]
 intro hw
 obtain ⟨h1,h2⟩:=wholeB_iff.1 hw
 refine h ⟨by omega,?_⟩
 have:=endA_some (l:=l) (a:=0) (m:=l.length) (by simpa using h2)
 rw [show (0:Int) = ((0:Nat):Int) from rfl,this]
 omega
theorem tell_no {f:Int → List Int → Int} {l:List Tm} (h:wholeB l = false):tell f l = 0:=by unfold tell; rw [h]; rfl
theorem tell_yes {f:Int → List Int → Int} {l:List Tm} (h:wholeB l = true):tell f l = come f l:=by unfold tell; rw [h]; rfl
theorem comeDep_zero (A:Option Addr) (n c:Nat) (l:List Tm) (hn:n = l.length) (hn62:n ≤ 70368744177664) (w:World) (h:Tms w (.slice A n c) l) (he:0 ≤ endA l 0) :
 Calls Tryz.prog 208 #[.slice A n c,.int .i64 0,.func (.func 199) #[] #[]] w (RetI w (come depF l)):=by
 have:=comeDep_any A n c l hn hn62 0 w h he
 rwa [List.drop_zero] at this
set_option maxHeartbeats 1000000 in
theorem wholeDep_any (A:Option Addr) (n c:Nat) (l:List Tm) (hn:n = l.length) (hn62:n ≤ 70368744177664) (w:World) (h:Tms w (.slice A n c) l) :
 Calls Tryz.prog 198 #[.slice A n c,.func (.func 199) #[] #[]] w (RetI w (tell depF l)):=by
 by_cases h40:40 < n
 ·have HE:=Lib.hid (tell_no (f:=depF) (whole_no hn (by omega)))
  clear hn h
  go_enter Tryz.func198,Tryz.ntmps198
  go_wp2_with fail
  go_ret
  exact ⟨ret_int HE.out.symm,Below.refl _ _⟩
 ·have hE:=end_any A n c l 0 w h hn (by omega)
  have HY:Hid (endA l 0 = n → Calls Tryz.prog 208 #[.slice A n c,.int .i64 0,.func (.func 199) #[] #[]] w (RetI w (come depF l)) ∧ tell depF l = come depF l):=Lib.hid (fun h0 => ⟨comeDep_zero A n c l hn hn62 w h (by omega),tell_yes (whole_yes hn (by omega) h0)⟩)
  have HN:Hid (endA l 0 ≠ n → tell depF l = 0):=Lib.hid (fun h0 => tell_no (whole_no hn (fun h => h0 h.2)))
  obtain ⟨r,hr⟩:∃ r,r = endA l 0:=⟨_,rfl⟩
  rw [← hr] at hE HY HN
  have HE:=Lib.hid hE
  clear hr hE hn h
  by_cases hrn:r = n
  ·have g:(r != (n:Int)) = false:=by simp [hrn]
   have HC:=Lib.hid (HY.out hrn).1
   have HV:=Lib.hid (HY.out hrn).2
   clear hrn HN HY
   go_enter Tryz.func198,Tryz.ntmps198
   go_wp2_with (first
    | (go_at_call 207; (with_reducible refine HE.out.mono ?_); rintro e w' ⟨rfl,rfl⟩)
    | (go_at_call 208; (with_reducible refine HC.out.mono ?_)))
   rintro e w1 ⟨rfl,hb1⟩
   go_wp2_with fail
   go_ret
   exact ⟨ret_int HV.out.symm,hb1⟩
  ·have g:(r != (n:Int)) = true:=by simp [hrn]
   have HV:=Lib.hid (HN.out hrn)
   clear hrn HN HY
   go_enter Tryz.func198,Tryz.ntmps198
   go_wp2_with (go_at_call 207; (with_reducible refine HE.out.mono ?_); rintro e w' ⟨rfl,rfl⟩)
   go_ret
   exact ⟨ret_int HV.out.symm,Below.refl _ _⟩
theorem depth_any (A:Option Addr) (n c:Nat) (l:List Tm) (hn:n = l.length) (hn62:n ≤ 70368744177664) (w:World) (h:Tms w (.slice A n c) l) :
 Calls Tryz.prog 188 #[.slice A n c] w (RetI w (depth l)):=by
 have HC:=Lib.hid (wholeDep_any A n c l hn hn62 w h)
 obtain ⟨r,hr⟩:∃ r,r = tell depF l:=⟨_,rfl⟩
 have HR:Hid (depth l = r):=Lib.hid hr.symm
 rw [← hr] at HC
 clear hr hn h
 go_enter Tryz.func188,Tryz.ntmps188
 go_wp2_with (go_at_call 198; (with_reducible refine HC.out.mono ?_))
 rintro e w1 ⟨rfl,hb1⟩
 go_wp2_with fail
 go_ret
 exact ⟨ret_int HR.out.symm,hb1⟩
def AllMay (W:World) (l:List Tm) (n:Nat) (i:Value) (wr:World):Prop:=∃ k:Nat,k ≤ n ∧ i = .int .i64 k ∧ (l.take k).all mayB = true ∧ Below W.heap.size W wr
theorem may_stop {l:List Tm} {k:Nat} {t:Tm} (ht:l[k]? = some t) (h:mayB t = false):l.all mayB = false:=by
 rw [List.all_eq_false]
 exact ⟨t,List.mem_of_getElem? ht,by simp [h]⟩
theorem may_next {l:List Tm} {k:Nat} {t:Tm} (ht:l[k]? = some t) (h0:(l.take k).all mayB = true) (h:mayB t = true):(l.take (k + 1)).all mayB = true:=by
 rw [take_next ht,List.all_append,h0]; simpa using h
theorem chk_full {l:List Tm} (h:40 < l.length):chk l = 8:=by unfold chk; rw [if_pos h]
theorem chk_none {l:List Tm} (h:¬ 40 < l.length) (h1:wholeB l = false):chk l = 1:=by unfold chk; rw [if_neg h,if_pos h1]
theorem chk_may {l:List Tm} (h:¬ 40 < l.length) (h1:wholeB l = true) (h2:l.all mayB = false):chk l = 1:=by unfold chk; rw [if_neg h,if_neg (by simp [h1]),if_pos h2]
theorem chk_last {l:List Tm} (h:¬ 40 < l.length) (h1:wholeB l = true) (h2:l.all mayB = true):chk l = if 12 < depth l then 6 else 0:=by unfold chk; rw [if_neg h,if_neg (by simp [h1]),if_neg (by simp [h2])]
set_option maxHeartbeats 2000000 in
theorem check_any (A:Option Addr) (n c:Nat) (l:List Tm) (hn:n = l.length) (hn62:n ≤ 70368744177664) (hs:Small l) (w:World) (h:Tms w (.slice A n c) l) :
 Calls Tryz.prog 178 #[.slice A n c] w (RetI w (chk l)):=by
 by_cases h40:40 < n
 ·have HE:=Lib.hid (chk_full (l:=l) (by omega))
  clear hn h
  go_enter Tryz.func178,Tryz.ntmps178
  go_wp2_with fail
  go_ret
  exact ⟨ret_int HE.out.symm,Below.refl _ _⟩
 have HD:=Lib.hid (depth_any A n c l hn hn62 w h)
 have h40':¬ 40 < l.length:=by omega
 cases hw:wholeB l with
 | false =>
   have hd:depth l = 0:=depth_zero.2 hw
   rw [hd] at HD
   have HE:=Lib.hid (chk_none h40' hw)
   clear hn h hw hd h40'
   go_enter Tryz.func178,Tryz.ntmps178
   go_wp2_with (go_at_call 188; (with_reducible refine HD.out.mono ?_))
   rintro e w1 ⟨rfl,hb1⟩
   go_wp2_with fail
   go_ret
   exact ⟨ret_int HE.out.symm,hb1⟩
 | true =>
   have hd0:1 ≤ depth l:=by unfold depth; rw [tell_yes hw]; exact (come_depth (wholeB_iff.1 hw).2).1
   have HL:=Lib.hid (fun h2 => chk_last h40' hw h2)
   have HM:=Lib.hid (fun h2 => chk_may h40' hw h2)
   obtain ⟨d,hd⟩:∃ d,d = depth l:=⟨_,rfl⟩
   rw [← hd] at HD HL hd0
   have gd:(d == 0) = false:=by simp; omega
   have HT:=Lib.hid h
   have HN:=Lib.hid hn
   have HS:=Lib.hid hs
   clear hn h hw hd h40' hs
   go_enter Tryz.func178,Tryz.ntmps178
   go_wp2_with (go_at_call 188; (with_reducible refine HD.out.mono ?_))
   rintro e w1 ⟨rfl,hb1⟩
   have HB1:=Lib.hid hb1
   clear hb1
   go_wp2_with fail
   go_loopw [5,15] (fun _ i wr => AllMay w l n i wr) (fun _ i _ => n - (intOf i).toNat)
   case atStart => exact ⟨0,Nat.zero_le _,rfl,rfl,HB1.out⟩
   case round =>
    obtain ⟨k,hk,rfl,hall,hbw⟩:=hrel
    have HA:=Lib.hid hall
    have HB:=Lib.hid hbw
    clear hall hbw
    by_cases hlt:k < n
    ·obtain ⟨t,ht⟩:∃ t,l[k]? = some t:=get_some (by rw [← HN.out]; exact hlt)
     obtain ⟨b,off,rfl,hb,c0,c1,c2⟩:=(HT.out.keep HB.out).at_ ht
     have HC:Hid (∀ w,Calls Tryz.prog 189 #[.agg #[.int .i64 t.op,.int .i64 t.n,.string t.s]] w (RetB w (mayB t))):=Lib.hid (fun w => may_any t w (HS.out t (List.mem_of_getElem? ht)))
     have HX:=Lib.hid ht
     obtain ⟨q,hq⟩:∃ q,q = mayB t:=⟨_,rfl⟩
     rw [← hq] at HC
     have HQ:=Lib.hid hq.symm
     clear ht hq
     cases q with
     | true =>
       go_wp2_with (go_at_call 189; (with_reducible refine (HC.out _).mono ?_))
       rintro e w2 ⟨rfl,hb2⟩
       have HB2:=Lib.hid (below_two' (HB.out.alloc HB.out.size _) hb2)
       clear hb2 c0 c1 c2
       go_wp2_with fail
       go_roundw
       case rel => exact ⟨k + 1,hlt,by simp,may_next HX.out HA.out HQ.out,HB2.out⟩
       case measure => simp [intOf]; omega
     | false =>
       go_wp2_with (go_at_call 189; (with_reducible refine (HC.out _).mono ?_))
       rintro e w2 ⟨rfl,hb2⟩
       have HB2:=Lib.hid (below_two' (HB.out.alloc HB.out.size _) hb2)
       clear hb2 c0 c1 c2
       go_wp2_with fail
       go_ret
       exact ⟨ret_int (HM.out (may_stop HX.out HQ.out)).symm,HB2.out⟩
    ·have HE:Hid (chk l = if 12 < d then 6 else 0):=Lib.hid (HL.out (by have:=HA.out; rwa [List.take_of_length_le (by rw [← HN.out]; omega)] at this))
     by_cases h12:12 < d
     all_goals
      go_wp2_with fail
      go_ret
      exact ⟨ret_int (by rw [HE.out]; first | rw [if_pos h12] | rw [if_neg (by omega)]),HB.out⟩
end Go.Proofs.YtjfghaohogcfbaaGreatDoor
namespace Go.Proofs.YtjfghaohogcfbaaGreatDoor
open Go.RowKit CurSpec TermSpec ExprSpec NamesSpec
set_option maxRecDepth 100000
def RetRead (W:World) (B:Nat) (p:Pa) (e:Ending) (w':World):Prop:=∃ A n cp,e = .returned (.slice A n cp) ∧ CurAt w' B p.1 ∧ Tms w' (.slice A n cp) p.2 ∧ n = p.2.length ∧ W.grownBy w' (some B) ∧ ∀ b,(Value.slice A n cp).ownBlock = some b → W.heap.size ≤ b
theorem cap_chk {c:Cur} {x l:List Tm} (h:CapD c [] x l) (h0:c.bad = 0):chk l = chk x ∧ (chk x = 0 → l = x):=by
 have h2:=h.2 h0
 split at h2
 ·rw [List.nil_append] at h2
  rw [h2]
  exact ⟨rfl,fun _ => rfl⟩
 ·rename_i h3
  simp only [List.length_nil,Nat.zero_add] at h3
  have e1:chk l = 8:=chk_full (by omega)
  have e2:chk x = 8:=chk_full (by omega)
  rw [e1,e2]
  exact ⟨rfl,fun h => absurd h (by decide)⟩
theorem readP_cur {f:Nat} {c:Cur} {l:List Tm} (h:CapD (S f c 1).1 [] (S f c 1).2 l):fail (S f c 1).1 (chk l) = (readP f c).1:=by
 unfold readP
 by_cases h0:(S f c 1).1.bad = 0
 ·rw [if_pos h0,(cap_chk h h0).1]
 ·rw [if_neg h0,fail_dead _ h0]
theorem fail_good {c:Cur} {e:Int} (h:(fail c e).bad = 0):c.bad = 0 ∧ e = 0:=by
 by_cases h0:c.bad = 0
 ·by_cases he:e = 0
  ·exact ⟨h0,he⟩
  ·rw [fail_yes h0 he] at h; exact absurd h he
 ·rw [fail_dead e h0] at h; exact absurd h h0
theorem readP_list {f:Nat} {c:Cur} {l:List Tm} (h:CapD (S f c 1).1 [] (S f c 1).2 l) :
 ((fail (S f c 1).1 (chk l)).bad = 0 → (readP f c).2 = l) ∧ ((fail (S f c 1).1 (chk l)).bad ≠ 0 → (readP f c).2 = []):=by
 refine ⟨fun hb => ?_,fun hb => ?_⟩
 ·obtain ⟨h0,he⟩:=fail_good hb
  have h2:=cap_chk h h0
  unfold readP
  rw [if_pos h0,if_pos (by rw [← h2.1]; exact he),h2.2 (by rw [← h2.1]; exact he)]
 ·unfold readP
  by_cases h0:(S f c 1).1.bad = 0
  ·rw [if_pos h0]
   have h2:=cap_chk h h0
   refine if_neg (fun he => hb ?_)
   rw [h2.1,he,fail_zero]
   exact h0
  ·rw [if_neg h0]
theorem tms_nil (w:World):Tms w (.slice none 0 0) []:=⟨0,rfl,Rdk.nil 3 w⟩
theorem rd_tms {w:World} {R B:Nat} {A:Option Addr} {n cp:Nat} {c:Cur} {l:List Tm} (h:RdAt w R B (.slice A n cp) c l):Tms w (.slice A n cp) l ∧ n = l.length:=by
 have:=Rdk.own h.own
 obtain ⟨A',c',heq,_⟩:=this
 cases heq
 exact ⟨⟨_,rfl,Rdk.own h.own⟩,rfl⟩
theorem hold_new {w x:World} {o:Obj} {B:Nat} {v':Value} (h:Hold w.heap.size B (.slice none 0 0) v' (w.alloc o) x):w.grownBy x (some B):=by
 have hz:=h.size
 rw [World.size_alloc] at hz
 exact ⟨h.os,h.tape,h.output,by omega,fun i hi hn => (h.block i (by rw [World.size_alloc]; omega) (by simpa using hn) (by omega) (by simp [Value.ownBlock])).trans (heap_alloc_old _ _ hi)⟩
set_option maxHeartbeats 4000000 in
theorem read_at (B:Nat) (c:Cur) (f:Nat) (w:World) (hs:SignsIn w) (h:CurAt w B c) (ok:Ok c) (hf:Fit f c) :
 Calls Tryz.prog 168 #[.pointer (some ⟨B,0,none⟩)] w (RetRead w B (readP f c)):=by
 have hB:=h.lt
 have h0:RdAt (w.alloc (.cells #[.pointer (some ⟨B,0,none⟩),.slice none 0 0] 227)) w.heap.size B (.slice none 0 0) c [] :=
  ⟨h.alloc _,heap_alloc_new _ _,⟨rfl,.inl ⟨rfl,rfl⟩⟩,hB,by simp,by intro t ht; cases ht⟩
 have HPT:=Lib.hid (part_ok f w.heap.size B (.slice none 0 0) c [] 1 _ (hs.alloc _) h0 ok hf)
 have HRL:=Lib.hid (fun (l:List Tm) (hc:CapD (S f c 1).1 [] (S f c 1).2 l) => And.intro (readP_cur hc) (readP_list hc))
 obtain ⟨D,hD⟩:∃ D,D = S f c 1:=⟨_,rfl⟩
 obtain ⟨P,hP⟩:∃ P,P = readP f c:=⟨_,rfl⟩
 rw [← hD] at HPT HRL
 rw [← hP] at HRL ⊢
 clear hD hP hs h ok hf h0 hB
 go_enter Tryz.func168,Tryz.ntmps168
 go_wp2_with (go_at_call 187; (with_reducible refine HPT.out.mono ?_))
 rintro e x1 ⟨v,l,rfl,hr,hc,hh⟩
 obtain ⟨A,cp,rfl⟩:=own_shape hr.own
 obtain ⟨n,hn⟩:∃ n,n = l.length:=⟨_,rfl⟩
 rw [← hn] at hr hh
 have ht:=rd_tms hr
 have HC:=Lib.hid (check_any A n cp l hn (by have:=hr.few; omega) hr.small x1.drew ht.1)
 have HN:=Lib.hid hn
 have HH:=Lib.hid hh
 have HR:=Lib.hid hr
 have HT:=Lib.hid ht.1
 have HL:=Lib.hid (HRL.out l hc)
 obtain ⟨r0,r1⟩:=cells_2 hr.blk
 obtain ⟨ck,hck⟩:∃ ck,ck = chk l:=⟨_,rfl⟩
 rw [← hck] at HC HL
 have HFL:Hid (∀ W,Below x1.drew.heap.size x1.drew W → Calls Tryz.prog 53 #[.pointer (some ⟨B,0,none⟩),.int .i64 ck] W (RetAt W B (fail D.1 ck))):=Lib.hid (fun W hW => fail_at B D.1 ck W (hr.drew.cur.keep hW))
 have HCL:Hid (∀ W,Below x1.drew.heap.size x1.drew W → RdAt W w.heap.size B (.slice A n cp) D.1 l):=Lib.hid (fun W hW => hr.drew.keep hW)
 clear hr hc hh hn ht hck
 go_wp2_with fail
 go_region_law (first
  | (go_simp; go_at_call 178; (with_reducible refine HC.out.mono ?_); rintro e x2 ⟨rfl,hb2⟩; have HB2:=Lib.hid hb2; clear hb2; obtain ⟨s0,s1⟩:=cells_2 (HCL.out _ HB2.out).blk)
  | (go_simp; go_at_call 53; (with_reducible refine (HFL.out _ HB2.out).mono ?_); rintro e x3 ⟨rfl,hc3,hb3⟩; have HE3:=Lib.hid (And.intro hc3 hb3); clear hc3 hb3; obtain ⟨t0,t1⟩:=cells_2 ((HCL.out _ HB2.out).but HE3.out.2 HE3.out.1).blk))
 all_goals
  have HR3:=Lib.hid ((HCL.out _ HB2.out).but HE3.out.2 HE3.out.1)
  have HO3:=Lib.hid (((HH.out.trans (Hold.of_below _ (((Below.refl _ _).drew).trans (HB2.out.mono (Nat.le_refl _))))).trans (Hold.of_but _ HE3.out.2)))
  cases hg:(fail D.1 ck).bad == 0 with
  | true =>
    have HG:=Lib.hid (fun W hW => good_any _ _ _ _ W ((Fl.of HE3.out.1).keep hW) (b:=true) hg)
    have HX:=Lib.hid (HL.out.2.1 (by simpa using hg))
    clear hg
    go_wp2_with (go_at_call 51; (with_reducible refine (HG.out _ (Below.refl _ _)).mono ?_))
    rintro e x4 ⟨rfl,hb4⟩
    have HR4:=Lib.hid (HR3.out.keep hb4)
    have HO4:=Lib.hid (HO3.out.trans (Hold.of_below _ hb4))
    obtain ⟨u0,u1⟩:=cells_2 HR4.out.blk
    clear hb4
    go_wp2_with fail
    go_ret
    refine ⟨A,n,cp,rfl,?_,?_,?_,hold_new HO4.out,fun b e => by have:=(own_block_bd HR4.out.own b e).1; omega⟩
    ·rw [← HL.out.1]; exact HR4.out.cur
    ·rw [HX.out]; have hnl:=HN.out; subst hnl; exact (rd_tms HR4.out).1
    ·rw [HX.out]; exact HN.out
  | false =>
    have HG:=Lib.hid (fun W hW => good_any _ _ _ _ W ((Fl.of HE3.out.1).keep hW) (b:=false) hg)
    have HX:=Lib.hid (HL.out.2.2 (by simpa using hg))
    clear hg
    go_wp2_with (go_at_call 51; (with_reducible refine (HG.out _ (Below.refl _ _)).mono ?_))
    rintro e x4 ⟨rfl,hb4⟩
    have HR4:=Lib.hid (HR3.out.keep hb4)
    have HO4:=Lib.hid (HO3.out.trans (Hold.of_below _ hb4))
    clear hb4
    go_wp2_with fail
    go_ret
    refine ⟨none,0,0,rfl,?_,?_,?_,hold_new HO4.out,by simp [Value.ownBlock]⟩
    ·rw [← HL.out.1]; exact HR4.out.cur
    ·rw [HX.out]; exact tms_nil _
    ·rw [HX.out]; rfl
end Go.Proofs.YtjfghaohogcfbaaGreatDoor
namespace Go.Proofs.YtjfghaohogcfbaaGreatDoor
open Go.RowKit CurSpec
set_option maxRecDepth 100000
theorem info_tk:(Tryz.prog.info? 84).map (fun i => (i.zero,i.size,i.bytes)) = some (some (.agg #[.int .i64 0,.string ByteArray.empty,.int .i64 0,.int .i64 0]),4,40):=by kernel_rfl
def lastP (L:List Tk):Int × Int:=match L.getLast? with | none => (0,0) | some t => (t.l,t.c)
theorem full_snoc:∀ (L:List Tk) (a b:Int),full L a b = L ++ [⟨0,⟨#[]⟩,(match L.getLast? with | none => (a,b) | some t => (t.l,t.c)).1,(match L.getLast? with | none => (a,b) | some t => (t.l,t.c)).2⟩]
 | [],a,b => rfl
 | t :: r,a,b => by
   rw [full,full_snoc r t.l t.c]
   cases r with
   | nil => rfl
   | cons u q =>
     rw [List.getLast?_cons_cons]
     obtain ⟨x,hx⟩:∃ x,(u :: q).getLast? = some x:=⟨_,List.getLast?_eq_some_getLast (by simp)⟩
     rw [hx]
     rfl
theorem full_zero (L:List Tk):full L 0 0 = L ++ [⟨0,⟨#[]⟩,(lastP L).1,(lastP L).2⟩]:=full_snoc L 0 0
def NewPost (W:World) (l:List Tk) (e:Ending) (w':World):Prop :=
 ∃ B,e = .returned (.pointer (some ⟨B,0,none⟩)) ∧ W.heap.size ≤ B ∧ CurAt w' B ⟨l,0,0,0,0,0⟩ ∧ Below W.heap.size W w'
theorem last_cells {w:World} {b off m:Nat} {l:List Tk} (hl:m + 1 = l.length) (hcell:∀ j u,(tksV l)[j]? = some u → w.cell? ⟨b,off + j,none⟩ = some u) :
 w.cell? ⟨b,off + m * 4 + 2,none⟩ = some (.int .i64 (lastP l).1) ∧ w.cell? ⟨b,off + m * 4 + 3,none⟩ = some (.int .i64 (lastP l).2):=by
 obtain ⟨t,ht⟩:∃ t,l[m]? = some t:=get_some (by omega)
 have hlast:l.getLast? = some t:=by rw [List.getLast?_eq_getElem?,← hl]; exact ht
 obtain ⟨_,_,g2,g3⟩:=tksV_get ht
 unfold lastP
 rw [hlast]
 exact ⟨hcell _ _ g2,hcell _ _ g3⟩
theorem lastP_nil {l:List Tk} (h:l.length = 0):lastP l = (0,0):=by rw [List.eq_nil_of_length_eq_zero h]; rfl
theorem new_fin {W w2:World} {l:List Tk} {n g cap:Nat} {p1 p2:Int} (hn:n = l.length) (hp:lastP l = (p1,p2)) (hb:Below W.heap.size W w2) (hg:g < w2.heap.size)
 (hown:w2.ownsRow (W.heap.size + 1) 84 4 (.slice (some ⟨g,0,none⟩) (n + 1) cap) (n + 1) (tksV l ++ [.int .i64 0,.string ⟨#[]⟩,.int .i64 p1,.int .i64 p2])) :
 NewPost W l (.returned (.pointer (some ⟨w2.heap.size,0,none⟩))) (w2.alloc (.cells #[.slice (some ⟨g,0,none⟩) (n + 1) cap,.int .i64 0,.int .i64 0,.int .i64 0] 90)):=by
 refine ⟨_,rfl,hb.size,⟨g,0,n,cap,heap_alloc_new _ _,by omega,hn,Toks.alloc ⟨n + 1,by rw [full_length,hn],?_⟩ _⟩,hb.alloc hb.size _⟩
 have e:tksV (full l 0 0) = tksV l ++ [.int .i64 0,.string ⟨#[]⟩,.int .i64 p1,.int .i64 p2]:=by
  rw [full_zero,hp]
  simp [tksV,tkV]
 show Rdk 4 w2 _ (n + 1) (tksV (full l 0 0))
 rw [e]
 exact Rdk.own hown
theorem made_at {W:World} {base cap H:Nat} {cur:Array Value} (hH:W.heap.size = H) (hb:base ≤ W.heap.size) (hm:cap ≤ maxLen) (hs:cur.size = cap * 4) :
 (W.alloc (.cells cur 84)).ownsRow base 84 4 (.slice (some ⟨H,0,none⟩) 0 cap) 0 []:=by
 subst hH
 exact World.ownsRow_made W cur cap hb hm hs
structure NewMid (W:World) (l:List Tk) (n:Nat) (p1 p2:Int) (v:Value) (w1:World):Prop where
 tok:w1.heap[W.heap.size]? = some (.cells #[.int .i64 0,.string ⟨#[]⟩,.int .i64 p1,.int .i64 p2] 84 (0,0))
 own:w1.ownsRow (W.heap.size + 1) 84 4 v n (tksV l)
 below:Below W.heap.size W w1
theorem new_mid {W w1:World} {l:List Tk} {n cap:Nat} {p1 p2:Int} {v:Value} {mk:Array Value}
 (hown:w1.ownsRow (W.heap.size + 1) 84 4 v n (tksV l))
 (hg:((W.alloc (.cells #[.int .i64 0,.string ⟨#[]⟩,.int .i64 p1,.int .i64 p2] 84)).alloc (.cells mk 84)).grownBy w1 (Value.ownBlock (.slice (some ⟨W.heap.size + 1,0,none⟩) 0 cap))) :
 NewMid W l n p1 p2 v w1:=by
 have hz:=hg.size
 simp only [World.size_alloc] at hz
 refine ⟨?_,hown,⟨hg.os,hg.tape,hg.output,by omega,fun i hi => ?_⟩⟩
 ·exact (hg.block _ (by simp; omega) (by simp [Value.ownBlock])).trans ((heap_alloc_old _ _ (by simp)).trans (heap_alloc_new _ _))
 ·exact (hg.block i (by simp; omega) (by simp [Value.ownBlock]; omega)).trans ((heap_alloc_old _ _ (by simp; omega)).trans (heap_alloc_old _ _ hi))
theorem new_below {W w1 w2:World} {l:List Tk} {n:Nat} {p1 p2:Int} {v:Value} {o:Obj} (h:NewMid W l n p1 p2 v w1) (hg:(w1.alloc o).grownBy w2 v.ownBlock):Below W.heap.size W w2:=by
 have hb:=own_block_bd h.own
 have hz:=hg.size
 have hz1:=h.below.size
 simp only [World.size_alloc] at hz
 refine h.below.trans ⟨hg.os,hg.tape,hg.output,by omega,fun i hi => ?_⟩
 exact (hg.block i (by simp; omega) (fun e => by have:=(hb i e.symm).1; omega)).trans (heap_alloc_old _ _ (by omega))
set_option maxHeartbeats 2000000 in
theorem new_any (A:Option Addr) (n cp:Nat) (l:List Tk) (w:World) (h:Toks w (.slice A n cp) l) (hl:n ≤ 1000000):Calls Tryz.prog 19 #[.slice A n cp] w (NewPost w l):=by
 obtain ⟨i0,hi,hz0,hz1,hz2⟩:=info_parts info_tk
 obtain ⟨n',hn',hR⟩:=h
 obtain rfl:n = n':=by obtain ⟨A',c',heq,_⟩:=hR; cases heq; rfl
 have hmk:∀ W,(Instr.makeSlice 41 (.int .i64 0) (.int .i64 ((n:Int) + 1))).run Tryz.prog W = .ok (.slice (some ⟨W.heap.size,0,none⟩) 0 (n + 1)) (W.alloc (.cells (madeCells (Value.agg #[.int .i64 0,.string ByteArray.empty,.int .i64 0,.int .i64 0]).cells ((n + 1) * 4)) 84)):=fun W => by
  have h:=run_make (P:=Tryz.prog) W 41 84 i0 _ Tryz.underlying41 hi hz0 .i64 .i64 0 ((n:Int) + 1) (by omega) (by omega) (by rw [hz2]; omega) (by omega)
  rw [hz1] at h
  exact h
 have hms:=size_madeCells (Value.agg #[.int .i64 0,.string ByteArray.empty,.int .i64 0,.int .i64 0]).cells ((n + 1) * 4)
 generalize madeCells (Value.agg #[.int .i64 0,.string ByteArray.empty,.int .i64 0,.int .i64 0]).cells ((n + 1) * 4) = mk at hmk hms
 have HM:=Lib.hid hms
 have HR:=Lib.hid hR
 have HN:=Lib.hid hn'
 clear hms hR hn'
 rcases Nat.eq_zero_or_pos n with h0 | h0
 ·have hp:lastP l = (0,0):=lastP_nil (by rw [← HN.out]; exact h0)
  have HP:=Lib.hid hp
  have hn0:n ≤ 0:=by omega
  have hd:decide (0 < (n:Int)) = false:=decide_eq_false (by omega)
  clear hp h0
  go_enter Tryz.func19,Tryz.ntmps19
  go_wp2_with (at_builtin; refine wpList_append_rdk _ rfl (.tmp 21) (.tmp 22) 41 rfl (w.heap.size + 1) 84 i0 _ 4 40 Tryz.underlying41 hi hz0 hz1 hz2 rfl (by decide) _ 0 [] rfl (made_at (by simp) (by simp) (by unfold maxLen; omega) HM.out) _ n (tksV l) rfl ((HR.out.alloc _).alloc _) (tksV_one l) (by unfold maxLen; omega) (by omega) (by simp) ?_)
  intro v1 w1 hown1 hgrow1 _
  have HMid:=Lib.hid (new_mid hown1 hgrow1)
  clear hown1 hgrow1 hmk
  obtain ⟨t0,t1,t2,t3⟩:=cells_4 HMid.out.tok
  go_wp2_with (at_builtin; refine wpList_append_lies _ rfl (.tmp 24) (.tmp 26) 41 rfl (w.heap.size + 1) 84 i0 _ 4 40 Tryz.underlying41 hi hz0 hz1 hz2 rfl (by decide) v1 n (tksV l) rfl (HMid.out.own.alloc _) ⟨w1.heap.size,0,none⟩ 1 1 [.int .i64 0,.string ⟨#[]⟩,.int .i64 0,.int .i64 0] rfl rfl (World.news_of_block (cs:=#[.int .i64 0,.string ⟨#[]⟩,.int .i64 0,.int .i64 0]) (heap_alloc_new w1 _)) (by simp [Value.oneCell']) (by decide) (by unfold maxLen; omega) (by omega) (by have:=HMid.out.below.size; have:=HMid.out.own.2; have:=(Array.getElem?_eq_some_iff.1 HMid.out.tok).1; simp; omega) (w1.heap.size + 1) (by simp) ?_)
  intro g cap w2 hown2 hgrow2 _ hlt2
  have HE:=Lib.hid (new_fin HN.out HP.out (new_below HMid.out hgrow2) hlt2 hown2)
  clear hown2 hgrow2 t0 t1 t2 t3
  go_wp2_with fail
  go_ret
  exact HE.out
 ·obtain ⟨m,rfl⟩:∃ m,n = m + 1:=⟨n - 1,by omega⟩
  have hR:=HR.out
  obtain ⟨A',c',heq,_,_,hA⟩:=hR
  cases heq
  obtain ⟨b,off,rfl,hlt,hcell⟩:=hA (by omega)
  obtain ⟨c2,c3⟩:=last_cells HN.out hcell
  obtain ⟨p1,p2,hp⟩:∃ p1 p2,lastP l = (p1,p2):=⟨_,_,rfl⟩
  rw [hp] at c2 c3
  simp only at c2 c3
  have HP:=Lib.hid hp
  rw [show ((m + 1:Nat):Int) = (m:Int) + 1 by omega] at hmk
  clear hp hcell hA h0
  go_enter Tryz.func19,Tryz.ntmps19
  go_wp2_with (at_builtin; refine wpList_append_rdk _ rfl (.tmp 21) (.tmp 22) 41 rfl (w.heap.size + 1) 84 i0 _ 4 40 Tryz.underlying41 hi hz0 hz1 hz2 rfl (by decide) _ 0 [] rfl (made_at (by simp) (by simp) (by unfold maxLen; omega) HM.out) _ (m + 1) (tksV l) rfl ((HR.out.alloc _).alloc _) (tksV_one l) (by unfold maxLen; omega) (by omega) (by simp) ?_)
  intro v1 w1 hown1 hgrow1 _
  have HMid:=Lib.hid (new_mid hown1 hgrow1)
  clear hown1 hgrow1 hmk c2 c3
  obtain ⟨t0,t1,t2,t3⟩:=cells_4 HMid.out.tok
  go_wp2_with (at_builtin; refine wpList_append_lies _ rfl (.tmp 24) (.tmp 26) 41 rfl (w.heap.size + 1) 84 i0 _ 4 40 Tryz.underlying41 hi hz0 hz1 hz2 rfl (by decide) v1 (m + 1) (tksV l) rfl (HMid.out.own.alloc _) ⟨w1.heap.size,0,none⟩ 1 1 [.int .i64 0,.string ⟨#[]⟩,.int .i64 p1,.int .i64 p2] rfl rfl (World.news_of_block (cs:=#[.int .i64 0,.string ⟨#[]⟩,.int .i64 p1,.int .i64 p2]) (heap_alloc_new w1 _)) (by simp [Value.oneCell']) (by decide) (by unfold maxLen; omega) (by omega) (by have:=HMid.out.below.size; have:=HMid.out.own.2; have:=(Array.getElem?_eq_some_iff.1 HMid.out.tok).1; simp; omega) (w1.heap.size + 1) (by simp) ?_)
  intro g cap w2 hown2 hgrow2 _ hlt2
  have HE:=Lib.hid (new_fin HN.out HP.out (new_below HMid.out hgrow2) hlt2 hown2)
  clear hown2 hgrow2 t0 t1 t2 t3
  go_wp2_with fail
  go_ret
  exact HE.out
end Go.Proofs.YtjfghaohogcfbaaGreatDoor
namespace Go.Proofs.YtjfghaohogcfbaaGreatDoor
namespace ScanSpec
def isLow (c:UInt8):Bool:=decide (97 ≤ (c.toNat:Int)) && decide ((c.toNat:Int) ≤ 122)
def isDig (c:UInt8):Bool:=decide (48 ≤ (c.toNat:Int)) && decide ((c.toNat:Int) ≤ 57)
def isBlank (c:UInt8):Bool:=(c.toNat == 32 || c.toNat == 9) || c.toNat == 10 || c.toNat == 13
def clsB (c:UInt8):Int:=if isLow c then 1 else if isDig c then 2 else if c.toNat = 95 then 3 else if isBlank c then 4 else if c.toNat = 35 then 5 else 0
def cls (l:List UInt8) (i:Nat):Int:=match l[i]? with | some c => clsB c | none => 0
def gapRun:Bool → List UInt8 → Nat
 | _,[] => 0
 | false,c :: t => if clsB c = 4 then gapRun false t + 1 else if clsB c = 5 then gapRun true t + 1 else 0
 | true,c :: t => if c.toNat = 10 then gapRun false t + 1 else gapRun true t + 1
def gap (l:List UInt8) (i:Nat):Nat:=i + gapRun false (l.drop i)
def run (p:UInt8 → Bool):List UInt8 → Nat
 | [] => 0
 | c :: t => if p c then run p t + 1 else 0
def isWord (c:UInt8):Bool:=decide (1 ≤ clsB c) && decide (clsB c ≤ 3)
def isNum (c:UInt8):Bool:=decide (clsB c = 2)
def marks:List (List UInt8):=[[45,62],[58,61],[60,61],[62,61],[33,61],[61,61],[46,46],[123],[125],[91],[93],[40],[41],[44],[59],[61],[60],[62],[43],[45],[42],[47]]
def markLen (d:List UInt8):Nat:=match marks.find? fun m => m.isPrefixOf d with | some m => m.length | none => 0
def one (d:List UInt8):Int × Nat × Int :=
 if cls d 0 = 1 then (if 12 < run isWord d then (0,0,5) else (1,run isWord d,0))
 else if cls d 0 = 2 then (if cls d (run isNum d) = 1 ∨ cls d (run isNum d) = 3 then (0,0,2) else if 9 < run isNum d then (0,0,5) else (2,run isNum d,0))
 else if markLen d = 0 then (0,0,2) else (3,markLen d,0)
def posGo:List UInt8 → Int × Int → Int × Int
 | [],p => p
 | c :: t,p => posGo t (if c.toNat = 10 then (p.1 + 1,1) else (p.1,p.2 + 1))
def pos (l:List UInt8) (i:Nat):Int × Int:=posGo (l.take i) (1,1)
theorem posGo_snoc (l:List UInt8) (c:UInt8) (p:Int × Int):posGo (l ++ [c]) p = (if c.toNat = 10 then ((posGo l p).1 + 1,1) else ((posGo l p).1,(posGo l p).2 + 1)):=by
 induction l generalizing p with
 | nil => rfl
 | cons a t ih => simp only [List.cons_append,posGo,ih]
theorem pos_next {l:List UInt8} {i:Nat} {c:UInt8} (h:l[i]? = some c):pos l (i + 1) = (if c.toNat = 10 then ((pos l i).1 + 1,1) else ((pos l i).1,(pos l i).2 + 1)):=by
 unfold pos; rw [take_next h,posGo_snoc]
theorem posGo_bd (l:List UInt8) (p:Int × Int) (h1:1 ≤ p.1) (h2:1 ≤ p.2):1 ≤ (posGo l p).1 ∧ (posGo l p).1 ≤ p.1 + l.length ∧ 1 ≤ (posGo l p).2 ∧ (posGo l p).2 ≤ p.2 + l.length:=by
 induction l generalizing p with
 | nil => simp [posGo]; omega
 | cons a t ih =>
   simp only [posGo,List.length_cons]
   split
   ·have:=ih (p.1 + 1,1) (by simp; omega) (by simp)
    simp at this ⊢; omega
   ·have:=ih (p.1,p.2 + 1) (by simp; omega) (by simp; omega)
    simp at this ⊢; omega
theorem pos_bd (l:List UInt8) (i:Nat):1 ≤ (pos l i).1 ∧ (pos l i).1 ≤ 1 + i ∧ 1 ≤ (pos l i).2 ∧ (pos l i).2 ≤ 1 + i:=by
 have:=posGo_bd (l.take i) (1,1) (by simp) (by simp)
 have h:=List.length_take_le i l
 unfold pos
 simp at this
 omega
theorem cls_some {l:List UInt8} {i:Nat} {c:UInt8} (h:l[i]? = some c):cls l i = clsB c:=by unfold cls; rw [h]
theorem cls_none {l:List UInt8} {i:Nat} (h:l.length ≤ i):cls l i = 0:=by unfold cls; rw [List.getElem?_eq_none_iff.2 h]
theorem cls_drop (l:List UInt8) (i j:Nat):cls (l.drop i) j = cls l (i + j):=by unfold cls; rw [List.getElem?_drop]
theorem drop_next {l:List UInt8} {i:Nat} {c:UInt8} (h:l[i]? = some c):l.drop i = c :: l.drop (i + 1):=by
 have hi:=get_lt h
 rw [List.drop_eq_getElem_cons hi]
 congr 1
 rw [List.getElem?_eq_getElem hi] at h
 injection h
theorem drop_end {l:List UInt8} {i:Nat} (h:l.length ≤ i):l.drop i = []:=List.drop_eq_nil_of_le h
theorem clsB_35 {c:UInt8} (h:clsB c = 5):c.toNat = 35:=by
 unfold clsB at h
 split at h
 ·simp at h
 ·split at h
  ·simp at h
  ·split at h
   ·simp at h
   ·split at h
    ·simp at h
    ·split at h
     ·assumption
     ·simp at h
theorem clsB_10 {c:UInt8} (h:c.toNat = 10):clsB c = 4:=by
 unfold clsB isLow isDig isBlank
 rw [h]; rfl
theorem gap_blank {l:List UInt8} {i:Nat} (h:cls l i = 4):gap l (i + 1) = gap l i:=by
 unfold cls at h
 split at h
 ·rename_i c hc
  unfold gap
  rw [drop_next hc,gapRun,if_pos h]; omega
 ·simp at h
def rem (l:List UInt8) (i:Nat):Nat:=i + gapRun true (l.drop i)
theorem gap_remark {l:List UInt8} {i:Nat} (h:cls l i = 5):rem l i = gap l i:=by
 unfold cls at h
 split at h
 ·rename_i c hc
  unfold gap rem
  rw [drop_next hc,gapRun,gapRun,if_neg (by rw [clsB_35 h]; decide),if_neg (by rw [h]; decide),if_pos h]
 ·simp at h
theorem rem_next {l:List UInt8} {i:Nat} {c:UInt8} (hc:l[i]? = some c) (h:¬ c.toNat = 10):rem l (i + 1) = rem l i:=by
 unfold rem
 rw [drop_next hc,gapRun,if_neg h]; omega
theorem rem_line {l:List UInt8} {i:Nat} {c:UInt8} (hc:l[i]? = some c) (h:c.toNat = 10):rem l i = gap l i:=by
 unfold rem gap
 rw [drop_next hc,gapRun,gapRun,if_pos h,if_pos (clsB_10 h)]
theorem rem_end {l:List UInt8} {i:Nat} (h:l.length ≤ i):rem l i = gap l i:=by
 unfold rem gap
 rw [drop_end h]; rfl
theorem gap_stop {l:List UInt8} {i:Nat} (h4:¬ cls l i = 4) (h5:¬ cls l i = 5):gap l i = i:=by
 unfold gap
 rcases hc:l[i]? with _ | c
 ·rw [drop_end (List.getElem?_eq_none_iff.1 hc)]; rfl
 ·rw [cls_some hc] at h4 h5
  rw [drop_next hc,gapRun,if_neg h4,if_neg h5]; rfl
theorem gapRun_le (b:Bool) (l:List UInt8):gapRun b l ≤ l.length:=by
 induction l generalizing b with
 | nil => cases b <;> simp [gapRun]
 | cons c t ih =>
   have h1:=ih false
   have h2:=ih true
   cases b <;> simp only [gapRun,List.length_cons] <;> repeat' split
   all_goals omega
theorem gap_bd {l:List UInt8} {i:Nat} (h:i ≤ l.length):i ≤ gap l i ∧ gap l i ≤ l.length:=by
 have:=gapRun_le false (l.drop i)
 rw [List.length_drop] at this
 unfold gap; omega
theorem run_next {p:UInt8 → Bool} {l:List UInt8} {i:Nat} {c:UInt8} (hc:l[i]? = some c) (h:p c = true):i + 1 + run p (l.drop (i + 1)) = i + run p (l.drop i):=by
 rw [drop_next hc,run,if_pos h]; omega
theorem run_stop {p:UInt8 → Bool} {l:List UInt8} {i:Nat} (h:∀ c,l[i]? = some c → p c = false):run p (l.drop i) = 0:=by
 rcases hc:l[i]? with _ | c
 ·rw [drop_end (List.getElem?_eq_none_iff.1 hc)]; rfl
 ·rw [drop_next hc,run,if_neg (by rw [h c hc]; simp)]
theorem run_le (p:UInt8 → Bool) (l:List UInt8):run p l ≤ l.length:=by
 induction l with
 | nil => simp [run]
 | cons c t ih => simp only [run,List.length_cons]; split <;> omega
theorem run_pos {p:UInt8 → Bool} {l:List UInt8} {i:Nat} {c:UInt8} (hc:l[i]? = some c) (h:p c = true):0 < run p (l.drop i):=by
 rw [drop_next hc,run,if_pos h]; omega
theorem isWord_cls {l:List UInt8} {i:Nat} (h1:1 ≤ cls l i) (h3:cls l i ≤ 3):∃ c,l[i]? = some c ∧ isWord c = true:=by
 unfold cls at h1 h3
 split at h1
 ·rename_i c hc
  refine ⟨c,hc,?_⟩
  rw [hc] at h3
  simp [isWord,h1,h3]
 ·omega
structure Tok where
 kind:Int
 at_:Nat
 len:Nat
def scanGo (l:List UInt8):Nat → Nat → List Tok → List Tok × Nat × Int
 | 0,i,acc => (acc ++ [⟨0,i,0⟩],0,0)
 | f + 1,i,acc =>
   if l.length ≤ i then (acc ++ [⟨0,i,0⟩],0,0)
   else
    let t:=one (l.drop i)
    if t.2.2 ≠ 0 then ([],i,t.2.2)
    else if acc.length = 4000 then ([],i,8)
    else scanGo l f (gap l (i + t.2.1)) (acc ++ [⟨t.1,i,t.2.1⟩])
def scan (l:List UInt8):List Tok × Nat × Int:=scanGo l l.length (gap l 0) []
end ScanSpec
end Go.Proofs.YtjfghaohogcfbaaGreatDoor
namespace Go.Proofs.YtjfghaohogcfbaaGreatDoor
open Go.RowKit ScanSpec
set_option maxRecDepth 100000
theorem byte_at' (s:ByteArray) (i:Nat) (h:i < s.size):s.data.toList[i]? = some s[i]:=by
 rw [List.getElem?_eq_getElem (by simpa using h)]; rfl
theorem size_list' (s:ByteArray):s.data.toList.length = s.size:=rfl
theorem clsB_val (c:UInt8) (n:Int) (hn:n = (c.toNat:Int)):(97 ≤ n ∧ n ≤ 122 ∧ clsB c = 1) ∨ (48 ≤ n ∧ n ≤ 57 ∧ clsB c = 2) ∨ (n = 95 ∧ clsB c = 3) ∨ ((n = 32 ∨ n = 9 ∨ n = 10 ∨ n = 13) ∧ clsB c = 4) ∨ (n = 35 ∧ clsB c = 5) ∨
 ((n < 48 ∨ (57 < n ∧ n < 97) ∨ 122 < n) ∧ n ≠ 95 ∧ n ≠ 32 ∧ n ≠ 9 ∧ n ≠ 10 ∧ n ≠ 13 ∧ n ≠ 35 ∧ clsB c = 0):=by
 unfold clsB isLow isDig isBlank
 simp only [← hn,Bool.and_eq_true,Bool.or_eq_true,decide_eq_true_eq,beq_iff_eq]
 by_cases h1:97 ≤ n ∧ n ≤ 122
 ·exact .inl ⟨h1.1,h1.2,by rw [if_pos h1]⟩
 ·rw [if_neg h1]
  by_cases h2:48 ≤ n ∧ n ≤ 57
  ·exact .inr (.inl ⟨h2.1,h2.2,by rw [if_pos h2]⟩)
  ·rw [if_neg h2]
   by_cases h3:c.toNat = 95
   ·exact .inr (.inr (.inl ⟨by omega,by rw [if_pos h3]⟩))
   ·rw [if_neg h3]
    by_cases h4:((c.toNat = 32 ∨ c.toNat = 9) ∨ c.toNat = 10) ∨ c.toNat = 13
    ·exact .inr (.inr (.inr (.inl ⟨by omega,by rw [if_pos h4]⟩)))
    ·rw [if_neg h4]
     by_cases h5:c.toNat = 35
     ·exact .inr (.inr (.inr (.inr (.inl ⟨by omega,by rw [if_pos h5]⟩))))
     ·exact .inr (.inr (.inr (.inr (.inr ⟨by omega,by omega,by omega,by omega,by omega,by omega,by omega,by rw [if_neg h5]⟩))))
end Go.Proofs.YtjfghaohogcfbaaGreatDoor