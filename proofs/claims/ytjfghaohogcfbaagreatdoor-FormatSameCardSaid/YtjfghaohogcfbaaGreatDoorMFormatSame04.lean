/- CurLive, CurRefTake, NamesWords, NamesRefIs, CurRefName, ValCalls, ValGet, CurRefNum, joined. -/
import Derived.Test.YtjfghaohogcfbaaGreatDoorMFormatSame03
import Derived.Test.YtjfghaohogcfbaaGreatDoorMFormatSame02
import Derived.Lib.OthersKept
import Derived.Deep.RegionHeld3
import Derived.Test.YtjfghaohogcfbaaGreatDoorRows
import Derived.Test.YtjfghaohogcfbaaGreatDoorMFormatSame00
import Derived.WalkKit
import Derived.WalkSpells
import Derived.Lib.Hide
namespace Go.Proofs.YtjfghaohogcfbaaGreatDoor
open Go.RowKit CurSpec
set_option maxRecDepth 100000
theorem full_next {c:Cur} (h:c.bad = 0):∃ r,full c.L c.w1 c.w2 = next c :: r ∧ (0 < c.L.length → r = full (on c).L (on c).w1 (on c).w2):=by
 obtain ⟨L,w1,w2,a1,a2,bad⟩:=c
 obtain rfl:bad = 0:=h
 cases L with
 | nil => exact ⟨[],rfl,fun h => absurd h (by simp)⟩
 | cons t r => exact ⟨_,rfl,fun _ => rfl⟩
theorem CurAt.open {w:World} {B:Nat} {c:Cur} (h:CurAt w B c) (h0:c.bad = 0) :
 ∃ b off n cp,w.heap[B]? = some (.cells #[.slice (some ⟨b,off,none⟩) (n + 1) cp,.int .i64 c.a1,.int .i64 c.a2,.int .i64 c.bad] 90 (0,0)) ∧ b ≠ B ∧ n = c.L.length ∧ n + 1 ≤ cp ∧ b < w.heap.size ∧
   w.cell? ⟨b,off,none⟩ = some (.int .i64 (next c).k) ∧ w.cell? ⟨b,off + 1,none⟩ = some (.string (next c).t) ∧ w.cell? ⟨b,off + 2,none⟩ = some (.int .i64 (next c).l) ∧ w.cell? ⟨b,off + 3,none⟩ = some (.int .i64 (next c).c):=by
 obtain ⟨b,off,n,cp,hB,hne,hn,hT⟩:=h
 obtain ⟨r,hr,_⟩:=full_next h0
 rw [hr] at hT
 obtain ⟨b',off',m,hA,hm,hc,hlt,c0,c1,c2,c3,_⟩:=hT.cons'
 cases hA; cases hm
 exact ⟨b,off,n,cp,hB,Nat.ne_of_lt hne,hn,hc,hlt,c0,c1,c2,c3⟩
set_option maxHeartbeats 1000000 in
theorem next_live (B:Nat) (c:Cur) (w:World) (h:CurAt w B c) (h0:c.bad = 0):Calls Tryz.prog 87 #[.pointer (some ⟨B,0,none⟩)] w (RetTk w (next c).k (next c).t (next c).l (next c).c):=by
 have HG:=Lib.hid (fun W hW => good_any _ _ _ _ W ((Fl.of h).keep hW) (b:=true) (by simpa using h0))
 obtain ⟨t,ht⟩:∃ t,t = next c:=⟨_,rfl⟩
 have HC:=Lib.hid (fun W hW => (CurAt.keep (w':=W) h hW).open h0)
 rw [← ht] at HC ⊢
 clear h h0 ht
 go_enter Tryz.func87,Tryz.ntmps87
 go_wp2_with (go_at_call 51; (with_reducible refine (HG.out _ ((Below.refl _ _).alloc (Nat.le_refl _) _)).mono ?_))
 rintro e x2 ⟨rfl,hb2⟩
 obtain ⟨k1,hB,hz⟩:=one_block hb2
 obtain ⟨b,off,n,cp,hBl,hne,hn,hcp,hlt,t0,t1,t2,t3⟩:=HC.out x2 hB
 obtain ⟨c0,c1,c2,c3⟩:=cells_4 hBl
 obtain ⟨d0,d1,d2,d3⟩:=cells_4 k1
 obtain ⟨f0,f1,f2,f3⟩:=free_4 k1
 have HK:=Lib.hid (blk_of k1 (n:=4) rfl)
 have HB:=Lib.hid hB
 have hnI:0 ≤ (n:Int):=by omega
 clear hb2 hB k1 hBl hne hn hcp
 go_wp2_with fail
 obtain ⟨q0,q1,q2,q3⟩:=store_4 HK.out (.int .i64 t.k) (.string t.t) (.int .i64 t.l) (.int .i64 t.c)
 refine bodyPost_ret (v:=.agg #[.int .i64 t.k,.string t.t,.int .i64 t.l,.int .i64 t.c]) (by simp [results,Tryz.results87,go_sem,q0,q1,q2,q3]) rfl ⟨rfl,below_4 HB.out (Nat.le_refl _) _ _ _ _⟩
theorem next_at (B:Nat) (c:Cur) (w:World) (h:CurAt w B c):Calls Tryz.prog 87 #[.pointer (some ⟨B,0,none⟩)] w (RetTk w (next c).k (next c).t (next c).l (next c).c):=by
 by_cases h0:c.bad = 0
 ·exact next_live B c w h h0
 ·rw [next_dead h0]
  exact next_dead' _ _ _ _ h0 w (Fl.of h)
set_option maxHeartbeats 1000000 in
theorem is_at (B:Nat) (c:Cur) (k:Int) (s:ByteArray) (w:World) (h:CurAt w B c):Calls Tryz.prog 98 #[.pointer (some ⟨B,0,none⟩),.int .i64 k,.string s] w (RetBool w (isB c k s)):=by
 by_cases h0:c.bad = 0
 ·have HG:=Lib.hid (good_any _ _ _ _ w (Fl.of h) (b:=true) (by simpa using h0))
  have HN:=Lib.hid (fun W hW => next_at B c W (h.keep hW))
  obtain ⟨t,ht⟩:∃ t,t = next c:=⟨_,rfl⟩
  obtain ⟨b,hb⟩:∃ b,b = isB c k s:=⟨_,rfl⟩
  rw [← ht] at HN
  rw [← hb]
  clear h
  by_cases h1:t.k = k
  ·have e1:(t.k == k) = true:=by simpa using h1
   by_cases h2:t.t = s
   ·have e2:(t.t.toList == s.toList) = true:=by rw [h2]; simp
    have HV:Hid (b = true):=Lib.hid (hb.trans (isB_yes h0 (by rw [← ht]; exact h1) (by rw [← ht]; exact h2)))
    clear hb ht h0 h1 h2
    go_enter Tryz.func98,Tryz.ntmps98
    go_wp2_with (go_at_call 51; (with_reducible refine HG.out.mono ?_))
    rintro e x2 ⟨rfl,hb2⟩
    have HB:=Lib.hid hb2
    clear hb2
    go_wp2_with (go_at_call 87; (with_reducible refine (HN.out _ HB.out).mono ?_))
    rintro e x3 ⟨rfl,hb3⟩
    have HB3:=Lib.hid (below_two' HB.out hb3)
    clear hb3
    go_wp2_with fail
    go_ret
    exact ⟨ret_bool HV.out.symm,HB3.out.alloc HB3.out.size _⟩
   ·have e2:(t.t.toList == s.toList) = false:=(Lib.bytes_beq_false_iff _ _).2 h2
    have HV:Hid (b = false):=Lib.hid (hb.trans (isB_no2 (by rw [← ht]; exact h2)))
    clear hb ht h0 h1 h2
    go_enter Tryz.func98,Tryz.ntmps98
    go_wp2_with (go_at_call 51; (with_reducible refine HG.out.mono ?_))
    rintro e x2 ⟨rfl,hb2⟩
    have HB:=Lib.hid hb2
    clear hb2
    go_wp2_with (go_at_call 87; (with_reducible refine (HN.out _ HB.out).mono ?_))
    rintro e x3 ⟨rfl,hb3⟩
    have HB3:=Lib.hid (below_two' HB.out hb3)
    clear hb3
    go_wp2_with fail
    go_ret
    exact ⟨ret_bool HV.out.symm,HB3.out.alloc HB3.out.size _⟩
  ·have e1:(t.k == k) = false:=by simpa using h1
   have HV:Hid (b = false):=Lib.hid (hb.trans (isB_no1 (by rw [← ht]; exact h1)))
   clear hb ht h0 h1
   go_enter Tryz.func98,Tryz.ntmps98
   go_wp2_with (go_at_call 51; (with_reducible refine HG.out.mono ?_))
   rintro e x2 ⟨rfl,hb2⟩
   have HB:=Lib.hid hb2
   clear hb2
   go_wp2_with (go_at_call 87; (with_reducible refine (HN.out _ HB.out).mono ?_))
   rintro e x3 ⟨rfl,hb3⟩
   have HB3:=Lib.hid (below_two' HB.out hb3)
   clear hb3
   go_wp2_with fail
   go_ret
   exact ⟨ret_bool HV.out.symm,HB3.out.alloc HB3.out.size _⟩
 ·rw [isB_dead k s h0]
  exact is_dead _ _ _ _ h0 w (Fl.of h) k s
def RetAt (W:World) (B:Nat) (c:Cur) (e:Ending) (w':World):Prop:=e = .returned (.tuple #[]) ∧ CurAt w' B c ∧ W.grownBy w' (some B)
theorem but_below {w w':World} {B:Nat} (h:Below w.heap.size w w'):w.grownBy w' (some B):=⟨h.os,h.tape,h.output,h.size,fun i hi _ => h.block i hi⟩
set_option maxHeartbeats 1000000 in
theorem pass_at (B:Nat) (c:Cur) (w:World) (h:CurAt w B c):Calls Tryz.prog 89 #[.pointer (some ⟨B,0,none⟩)] w (RetAt w B (on c)):=by
 have HC:=Lib.hid h
 obtain ⟨b,off,n,cp,hBl,hne,hn,hT⟩:=h
 rcases Nat.eq_zero_or_pos n with hz | hp
 ·obtain rfl:n = 0:=hz
  have HO:Hid (on c = c):=Lib.hid (on_nil hn.symm)
  obtain ⟨c0,c1,c2,c3⟩:=cells_4 hBl
  clear hBl hne hn hT
  go_enter Tryz.func89,Tryz.ntmps89
  go_wp2_with fail
  go_end0
  exact ⟨rfl,by rw [HO.out]; exact HC.out,but_refl _ _⟩
 ·obtain ⟨m,rfl⟩:∃ m,n = m + 1:=⟨n - 1,by omega⟩
  have hf:full c.L c.w1 c.w2 = (full c.L c.w1 c.w2).headD tz :: full (on c).L (on c).w1 (on c).w2:=on_full (by omega)
  rw [hf] at hT
  obtain ⟨b',off',m',hA,hm,hcp,hlt,_,_,_,_,hr⟩:=hT.cons'
  cases hA; cases hm
  rw [if_neg (by omega)] at hr
  obtain ⟨c0,c1,c2,c3⟩:=cells_4 hBl
  obtain ⟨f0,f1,f2,f3⟩:=free_4 hBl
  have hcI:1 < cp:=by omega
  have hb:=on_bad c
  have HR:Hid (CurAt (w.setCell ⟨B,0,none⟩ (.slice (some ⟨b,off + 4,none⟩) (m + 1) (cp - 1))) B (on c)):=Lib.hid (by
   refine ⟨b,off + 4,m,cp - 1,?_,hne,by rw [on_len]; omega,hr.but (but_set (but_refl _ _) 0 _) (Nat.ne_of_lt hne)⟩
   have:=block_setCell' hBl 0 (.slice (some ⟨b,off + 4,none⟩) (m + 1) (cp - 1))
   rw [hb.1,hb.2.1,hb.2.2]
   exact this)
  have hnI:0 ≤ (m:Int):=by omega
  clear hBl hne hn hT hr hf hb hlt
  go_enter Tryz.func89,Tryz.ntmps89
  go_wp2_with fail
  go_end0
  exact ⟨rfl,HR.out,but_set (but_refl _ _) 0 _⟩
theorem CurAt.fault {w:World} {B:Nat} {c:Cur} (h:CurAt w B c) (l cc er:Int) :
 CurAt (((w.setCell ⟨B,1,none⟩ (.int .i64 l)).setCell ⟨B,2,none⟩ (.int .i64 cc)).setCell ⟨B,3,none⟩ (.int .i64 er)) B ⟨c.L,c.w1,c.w2,l,cc,er⟩:=by
 obtain ⟨b,off,n,cp,hBl,hne,hn,hT⟩:=h
 refine ⟨b,off,n,cp,?_,hne,hn,hT.but (but_set (but_set (but_set (but_refl _ _) 1 _) 2 _) 3 _) (Nat.ne_of_lt hne)⟩
 exact block_setCell' (block_setCell' (block_setCell' hBl 1 (.int .i64 l)) 2 (.int .i64 cc)) 3 (.int .i64 er)
set_option maxHeartbeats 1000000 in
theorem fail_at (B:Nat) (c:Cur) (er:Int) (w:World) (h:CurAt w B c):Calls Tryz.prog 53 #[.pointer (some ⟨B,0,none⟩),.int .i64 er] w (RetAt w B (fail c er)):=by
 by_cases h0:c.bad = 0
 ·have HG:=Lib.hid (good_any _ _ _ _ w (Fl.of h) (b:=true) (by simpa using h0))
  have HC:=Lib.hid h
  by_cases he:er = 0
  ·have e1:(er != 0) = false:=by simpa using he
   have HF:Hid (fail c er = c):=Lib.hid (by rw [he]; exact fail_zero c)
   clear h he h0
   go_enter Tryz.func53,Tryz.ntmps53
   go_wp2_with (go_at_call 51; (with_reducible refine HG.out.mono ?_))
   rintro e x2 ⟨rfl,hb2⟩
   have HB:=Lib.hid hb2
   clear hb2
   go_wp2_with fail
   go_end0
   exact ⟨rfl,by rw [HF.out]; exact HC.out.keep HB.out,but_below HB.out⟩
  ·have e1:(er != 0) = true:=by simpa using he
   obtain ⟨t,ht⟩:∃ t,t = next c:=⟨_,rfl⟩
   have HF:Hid (fail c er = ⟨c.L,c.w1,c.w2,t.l,t.c,er⟩):=Lib.hid (by rw [fail_yes h0 he,ht])
   have HO:=Lib.hid (fun W hW => (CurAt.keep (w':=W) h hW).open h0)
   rw [← ht] at HO
   clear h he h0 ht
   go_enter Tryz.func53,Tryz.ntmps53
   go_wp2_with (go_at_call 51; (with_reducible refine HG.out.mono ?_))
   rintro e x2 ⟨rfl,hb2⟩
   have HB:=Lib.hid hb2
   obtain ⟨b,off,n,cp,hBl,hne,hn,hcp,hlt,t0,t1,t2,t3⟩:=HO.out x2 hb2
   obtain ⟨c0,c1,c2,c3⟩:=cells_4 hBl
   obtain ⟨f0,f1,f2,f3⟩:=free_4 hBl
   have hnI:0 ≤ (n:Int):=by omega
   clear hb2 hBl hn hcp
   go_wp2_with fail
   go_end0
   refine ⟨rfl,?_,but_set (but_set (but_set (but_below HB.out) 1 _) 2 _) 3 _⟩
   rw [HF.out]
   exact (HC.out.keep HB.out).fault t.l t.c er
 ·rw [fail_dead er h0]
  refine (fail_dead' _ _ _ _ h0 w (Fl.of h) er).mono ?_
  rintro e w' ⟨he,hb⟩
  exact ⟨he,h.keep hb,but_below hb⟩
end Go.Proofs.YtjfghaohogcfbaaGreatDoor
namespace Go.Proofs.YtjfghaohogcfbaaGreatDoor
open Go.RowKit CurSpec
set_option maxRecDepth 100000
end Go.Proofs.YtjfghaohogcfbaaGreatDoor
namespace Go.Proofs.YtjfghaohogcfbaaGreatDoor
open Go.RowKit NamesSpec Go.Lib
set_option maxRecDepth 100000
theorem toList_of (s:ByteArray):s.toList = s.data.toList:=ByteArray.toList_eq s
theorem kw_yes {s:ByteArray} {x:List UInt8} (h:(s.toList == x) = true) (hx:isKw x = true):isKw s.data.toList = true:=by
 rw [← toList_of,eq_of_beq h]; exact hx
theorem kw_no {s:ByteArray} (h:∀ x ∈ kw,(s.toList == x) = false):isKw s.data.toList = false:=by
 rw [← toList_of]
 unfold isKw
 rw [Bool.eq_false_iff]
 intro hc
 have hm:=List.contains_iff_mem.1 hc
 have:=h _ hm
 simp at this
set_option maxHeartbeats 800000 in
theorem keyword_any (s:ByteArray) (w:World):Calls Tryz.prog 133 #[.string s] w fun e w' => e = .returned (.bool (isKw s.data.toList)) ∧ w = w':=by
 rcases h0:(s.toList == [99,104,97,114,116]) with _ | _
 case true =>
  go_enter Tryz.func133,Tryz.ntmps133
  go_wp2
  go_ret
  exact ⟨ret_bool (kw_yes h0 (by decide)).symm,rfl⟩
 rcases h1:(s.toList == [101,118,101,110,116]) with _ | _
 case true =>
  go_enter Tryz.func133,Tryz.ntmps133
  go_wp2
  go_ret
  exact ⟨ret_bool (kw_yes h1 (by decide)).symm,rfl⟩
 rcases h2:(s.toList == [118,97,114]) with _ | _
 case true =>
  go_enter Tryz.func133,Tryz.ntmps133
  go_wp2
  go_ret
  exact ⟨ret_bool (kw_yes h2 (by decide)).symm,rfl⟩
 rcases h3:(s.toList == [108,101,97,102]) with _ | _
 case true =>
  go_enter Tryz.func133,Tryz.ntmps133
  go_wp2
  go_ret
  exact ⟨ret_bool (kw_yes h3 (by decide)).symm,rfl⟩
 rcases h4:(s.toList == [111,114]) with _ | _
 case true =>
  go_enter Tryz.func133,Tryz.ntmps133
  go_wp2
  go_ret
  exact ⟨ret_bool (kw_yes h4 (by decide)).symm,rfl⟩
 rcases h5:(s.toList == [97,110,100]) with _ | _
 case true =>
  go_enter Tryz.func133,Tryz.ntmps133
  go_wp2
  go_ret
  exact ⟨ret_bool (kw_yes h5 (by decide)).symm,rfl⟩
 rcases h6:(s.toList == [101,110,116,101,114]) with _ | _
 case true =>
  go_enter Tryz.func133,Tryz.ntmps133
  go_wp2
  go_ret
  exact ⟨ret_bool (kw_yes h6 (by decide)).symm,rfl⟩
 rcases h7:(s.toList == [101,120,105,116]) with _ | _
 case true =>
  go_enter Tryz.func133,Tryz.ntmps133
  go_wp2
  go_ret
  exact ⟨ret_bool (kw_yes h7 (by decide)).symm,rfl⟩
 rcases h8:(s.toList == [111,110]) with _ | _
 case true =>
  go_enter Tryz.func133,Tryz.ntmps133
  go_wp2
  go_ret
  exact ⟨ret_bool (kw_yes h8 (by decide)).symm,rfl⟩
 rcases h9:(s.toList == [97,117,116,111]) with _ | _
 case true =>
  go_enter Tryz.func133,Tryz.ntmps133
  go_wp2
  go_ret
  exact ⟨ret_bool (kw_yes h9 (by decide)).symm,rfl⟩
 rcases h10:(s.toList == [97,110,121]) with _ | _
 case true =>
  go_enter Tryz.func133,Tryz.ntmps133
  go_wp2
  go_ret
  exact ⟨ret_bool (kw_yes h10 (by decide)).symm,rfl⟩
 rcases h11:(s.toList == [105,110]) with _ | _
 case true =>
  go_enter Tryz.func133,Tryz.ntmps133
  go_wp2
  go_ret
  exact ⟨ret_bool (kw_yes h11 (by decide)).symm,rfl⟩
 rcases h12:(s.toList == [109,105,110]) with _ | _
 case true =>
  go_enter Tryz.func133,Tryz.ntmps133
  go_wp2
  go_ret
  exact ⟨ret_bool (kw_yes h12 (by decide)).symm,rfl⟩
 rcases h13:(s.toList == [109,97,120]) with _ | _
 case true =>
  go_enter Tryz.func133,Tryz.ntmps133
  go_wp2
  go_ret
  exact ⟨ret_bool (kw_yes h13 (by decide)).symm,rfl⟩
 rcases h14:(s.toList == [110,111,116]) with _ | _
 case true =>
  go_enter Tryz.func133,Tryz.ntmps133
  go_wp2
  go_ret
  exact ⟨ret_bool (kw_yes h14 (by decide)).symm,rfl⟩
 rcases h15:(s.toList == [116,114,117,101]) with _ | _
 case true =>
  go_enter Tryz.func133,Tryz.ntmps133
  go_wp2
  go_ret
  exact ⟨ret_bool (kw_yes h15 (by decide)).symm,rfl⟩
 rcases h16:(s.toList == [102,97,108,115,101]) with _ | _
 case true =>
  go_enter Tryz.func133,Tryz.ntmps133
  go_wp2
  go_ret
  exact ⟨ret_bool (kw_yes h16 (by decide)).symm,rfl⟩
 have HK:Hid (isKw s.data.toList = false):=Lib.hid (kw_no (by
  intro x hx
  simp only [kw,List.mem_cons,List.not_mem_nil,or_false] at hx
  rcases hx with rfl | rfl | rfl | rfl | rfl | rfl | rfl | rfl | rfl | rfl | rfl | rfl | rfl | rfl | rfl | rfl | rfl <;> assumption))
 go_enter Tryz.func133,Tryz.ntmps133
 go_wp2
 go_ret
 exact ⟨ret_bool HK.out.symm,rfl⟩
def begB (r:Int):Bool:=decide (97 ≤ r) && decide (r ≤ 122)
def goB (r:Int):Bool:=begB r || decide (48 ≤ r) && decide (r ≤ 57) || decide (r = 95)
theorem begins_any (r:Int) (w:World):Calls Tryz.prog 134 #[.int .i32 r] w fun e w' => e = .returned (.bool (begB r)) ∧ w = w':=by
 by_cases h1:97 ≤ r <;> by_cases h2:r ≤ 122
 all_goals
  go_enter Tryz.func134,Tryz.ntmps134
  go_wp2
  go_ret
  exact ⟨ret_bool (by unfold begB; simp [h1,h2]),rfl⟩
theorem begins_is {r:Int} {b:Bool} (h:begB r = b) (w:World):Calls Tryz.prog 134 #[.int .i32 r] w fun e w' => e = .returned (.bool b) ∧ w = w':=by
 subst h; exact begins_any r w
theorem goesOn_any (r:Int) (w:World):Calls Tryz.prog 135 #[.int .i32 r] w fun e w' => e = .returned (.bool (goB r)) ∧ w = w':=by
 rcases hb:begB r with _ | _
 all_goals
  have HB:=Lib.hid hb
  clear hb
  by_cases h1:48 ≤ r <;> by_cases h2:r ≤ 57 <;> by_cases h3:r = 95
  all_goals first
   | (exfalso; omega)
   | (try subst h3
      go_enter Tryz.func135,Tryz.ntmps135
      go_wp2_with (go_at_call 134; refine (begins_is HB.out _).mono ?_; rintro e w' ⟨rfl,rfl⟩)
      go_ret
      exact ⟨ret_bool (by unfold goB; rw [HB.out,Bool.eq_iff_iff]; simp; try omega),rfl⟩)
theorem goesOn_is {r:Int} {b:Bool} (h:goB r = b) (w:World):Calls Tryz.prog 135 #[.int .i32 r] w fun e w' => e = .returned (.bool b) ∧ w = w':=by
 subst h; exact goesOn_any r w
theorem get_bang (s:ByteArray) (i:Nat) (h:i < s.size):s.get! i = s[i]:=by
 simp [ByteArray.get!,getElem!_pos,h]; rfl
theorem dec_big (s:ByteArray) (i:Nat) (h:i < s.size) (hb:128 ≤ s[i].toNat):128 ≤ (Utf8.decode s i).1:=by
 unfold Utf8.decode
 simp only [Nat.add_zero,get_bang s i h]
 rw [if_neg (by omega)]
 repeat' split
 all_goals (try simp only [Utf8.runeError]) <;> (try simp only [Bool.and_eq_true,decide_eq_true_eq,ge_iff_le] at *) <;> omega
theorem goB_of (c:UInt8):goB (c.toNat:Int) = later c:=by
 rw [Bool.eq_iff_iff]
 simp [goB,begB,later,letter,UInt8.le_iff_toNat_le,← UInt8.toNat_inj]
 omega
theorem begB_of (c:UInt8):begB (c.toNat:Int) = letter c:=by
 rw [Bool.eq_iff_iff]
 simp [begB,letter,UInt8.le_iff_toNat_le]
 omega
theorem later_small {c:UInt8} (h:later c = true):c.toNat < 128:=by
 simp [later,letter,UInt8.le_iff_toNat_le,← UInt8.toNat_inj] at h
 omega
theorem dec_later (s:ByteArray) (i:Nat) (h:i < s.size):goB ((Utf8.decode s i).1:Int) = later s[i]:=by
 by_cases hb:s[i].toNat < 128
 ·rw [decode_ascii s i h hb]; exact goB_of _
 ·have h1:=dec_big s i h (by omega)
  have h2:later s[i] = false:=by
   rw [← Bool.not_eq_true]; intro hc; exact hb (later_small hc)
  rw [h2,← Bool.not_eq_true]
  simp [goB,begB]
  omega
theorem dec_letter (s:ByteArray) (i:Nat) (h:i < s.size):begB ((Utf8.decode s i).1:Int) = letter s[i]:=by
 by_cases hb:s[i].toNat < 128
 ·rw [decode_ascii s i h hb]; exact begB_of _
 ·have h1:=dec_big s i h (by omega)
  have h2:letter s[i] = false:=by
   rw [← Bool.not_eq_true]; intro hc; exact hb (later_small (letter_later hc))
  rw [h2,← Bool.not_eq_true]
  simp [begB]
  omega
theorem dec_one (s:ByteArray) (i:Nat) (h:i < s.size) (hl:later s[i] = true):(Utf8.decode s i).2 = 1:=by rw [decode_ascii s i h (later_small hl)]
theorem byte_at (s:ByteArray) (i:Nat) (h:i < s.size):s.data.toList[i]? = some s[i]:=by
 rw [List.getElem?_eq_getElem (by simpa using h)]; rfl
theorem str_nil' {s:ByteArray} (h:s.size = 0):s.toList = []:=by
 rw [ByteArray.toList_eq,← List.length_eq_zero_iff]; exact h
theorem str_ne' {s:ByteArray} (h:0 < s.size):s.toList.isEmpty = false:=by
 have e:s.toList.length = s.size:=by rw [ByteArray.toList_eq]; rfl
 cases h':s.toList with
 | nil => rw [h'] at e; simp at e; omega
 | cons a l => rfl
theorem size_list (s:ByteArray):s.data.toList.length = s.size:=rfl
def IsRel (W:World) (s:ByteArray) (wr:World):Prop:=∃ pos,pos ≤ s.size ∧ wr.heap[W.heap.size]? = some (.stringIter s pos) ∧ Below W.heap.size W wr ∧ (s.data.toList.take pos).all later = true ∧ (0 < pos → ∀ c,s.data.toList[0]? = some c → letter c = true)
theorem isRel_next {W wr:World} {s:ByteArray} {pos:Nat} (hp:pos < s.size) (hit:wr.heap[W.heap.size]? = some (.stringIter s pos)) (hb:Below W.heap.size W wr) (ha:(s.data.toList.take pos).all later = true)
 (h0:0 < pos → ∀ c,s.data.toList[0]? = some c → letter c = true) (hl:later s[pos] = true) (hz:pos = 0 → letter s[pos] = true):IsRel W s (wr.iterAt W.heap.size s (pos + 1)):=by
 refine ⟨pos + 1,by omega,iterAt_heap _ _ _ _ _ hit,below_iterAt hb (Nat.le_refl _) _ _,?_,fun _ c hc => ?_⟩
 ·rw [take_next (byte_at s pos hp),List.all_append,ha]; simpa using hl
 ·rcases Nat.eq_zero_or_pos pos with h | h
  ·subst h
   rw [byte_at s 0 hp] at hc
   injection hc with hc
   exact hc ▸ hz rfl
  ·exact h0 h c hc
set_option maxHeartbeats 1600000 in
theorem is_any (s:ByteArray) (w:World) (hs:s.size ≤ 9223372036854775807):Calls Tryz.prog 88 #[.string s] w fun e w' => e = .returned (.bool (isName s.data.toList)) ∧ Below w.heap.size w w':=by
 rcases Nat.eq_zero_or_pos s.size with h0 | h0
 ·have HE:Hid (isName s.data.toList = false):=Lib.hid (isName_size (.inl h0))
  have hnil:=str_nil' h0
  clear h0 hs
  go_enter Tryz.func88,Tryz.ntmps88
  go_wp2
  go_ret
  exact ⟨ret_bool HE.out.symm,Below.refl _ _⟩
 ·have hne:=str_ne' h0
  by_cases h12:12 < s.size
  ·have HE:Hid (isName s.data.toList = false):=Lib.hid (isName_size (.inr h12))
   go_enter Tryz.func88,Tryz.ntmps88
   go_wp2
   go_ret
   exact ⟨ret_bool HE.out.symm,Below.refl _ _⟩
  ·rcases hk:isKw s.data.toList with _ | _
   case true =>
    have HE:Hid (isName s.data.toList = false):=Lib.hid (isName_kw hk)
    have HC:=Lib.hid (hk ▸ keyword_any s w)
    clear hk
    go_enter Tryz.func88,Tryz.ntmps88
    go_wp2_with (go_at_call 133; refine HC.out.mono ?_; rintro e w' ⟨rfl,rfl⟩)
    go_ret
    exact ⟨ret_bool HE.out.symm,Below.refl _ _⟩
   have HC:=Lib.hid (hk ▸ keyword_any s w)
   have HK:=Lib.hid hk
   clear hk
   go_enter Tryz.func88,Tryz.ntmps88
   go_wp2_with (go_at_call 133; refine HC.out.mono ?_; rintro e w' ⟨rfl,rfl⟩)
   go_loopw [] (fun wr => IsRel w s wr) (fun wr => s.size - wr.iterPos w.heap.size)
   case atStart => exact ⟨0,Nat.zero_le _,World.iter_heap w s 0,(Below.refl _ w).alloc (Nat.le_refl _) _,rfl,fun h => absurd h (by omega)⟩
   case round =>
    obtain ⟨pos,hps,hit,hbw,hall,hhead⟩:=hrel
    by_cases hp:pos < s.size
    ·have hnx:∀ ty,(Instr.next (.pointer (some ⟨w.heap.size,0,none⟩)) true ty).run Tryz.prog wr = _:=fun ty => Lib.run_next_any_at wr w.heap.size s pos ty hit hp
     have hgo:=dec_later s pos hp
     have hbe:=dec_letter s pos hp
     have hw1:=dec_one s pos hp
     have hat:=byte_at s pos hp
     have hrel:=isRel_next hp hit hbw hall hhead
     have HM:Hid (s.size - (wr.iterAt w.heap.size s (pos + 1)).iterPos w.heap.size < s.size - wr.iterPos w.heap.size):=Lib.hid (by
      simp only [World.iterPos,iterAt_heap _ _ _ _ _ hit,hit]; omega)
     obtain ⟨c,hc⟩:∃ c,c = s[pos]:=⟨_,rfl⟩
     rw [← hc] at hgo hbe hw1 hat hrel
     clear hc
     obtain ⟨r,hr⟩:∃ r,r = (Utf8.decode s pos).1:=⟨_,rfl⟩
     obtain ⟨wd,hwd⟩:∃ wd,wd = (Utf8.decode s pos).2:=⟨_,rfl⟩
     rw [← hr] at hgo hbe hnx
     rw [← hwd] at hw1 hnx
     clear hr hwd hall hhead
     have HB:=Lib.hid hbw
     have HA:=Lib.hid hat
     clear hat hit hbw
     rcases Nat.eq_zero_or_pos pos with hz | hz
     ·subst hz
      rcases hl:letter c with _ | _
      ·have HE:Hid (isName s.data.toList = false):=Lib.hid (isName_head HA.out hl)
       have HBc:=Lib.hid (begins_is (hbe.trans hl))
       clear hl hbe hgo hw1 hrel HM
       go_wp2_with (go_at_call 134; refine (HBc.out _).mono ?_; rintro e w' ⟨rfl,rfl⟩)
       go_ret
       exact ⟨ret_bool HE.out.symm,below_iterAt HB.out (Nat.le_refl _) _ _⟩
      ·have HBc:=Lib.hid (begins_is (hbe.trans hl))
       have HGc:=Lib.hid (goesOn_is (hgo.trans (letter_later hl)))
       have HR:=Lib.hid (hrel (letter_later hl) (fun _ => hl))
       obtain rfl:wd = 1:=hw1 (letter_later hl)
       clear hl hbe hgo hrel hw1
       go_wp2_with (first | (go_at_call 134; refine (HBc.out _).mono ?_; rintro e w' ⟨rfl,rfl⟩) | (go_at_call 135; refine (HGc.out _).mono ?_; rintro e w' ⟨rfl,rfl⟩))
       go_roundw
       case rel => exact HR.out
       case measure => exact HM.out
     ·have hz':((pos:Int) == 0) = false:=by simp; omega
      rcases hl:later c with _ | _
      ·have HE:Hid (isName s.data.toList = false):=Lib.hid (isName_later HA.out hl)
       have HGc:=Lib.hid (goesOn_is (hgo.trans hl))
       clear hl hbe hgo hw1 hrel HM
       go_wp2_with (go_at_call 135; refine (HGc.out _).mono ?_; rintro e w' ⟨rfl,rfl⟩)
       go_ret
       exact ⟨ret_bool HE.out.symm,below_iterAt HB.out (Nat.le_refl _) _ _⟩
      ·have HGc:=Lib.hid (goesOn_is (hgo.trans hl))
       have HR:=Lib.hid (hrel hl (fun h => absurd h (by omega)))
       obtain rfl:wd = 1:=hw1 hl
       clear hl hbe hgo hrel hw1
       go_wp2_with (go_at_call 135; refine (HGc.out _).mono ?_; rintro e w' ⟨rfl,rfl⟩)
       go_roundw
       case rel => exact HR.out
       case measure => exact HM.out
    ·have hnx:∀ ty,(Instr.next (.pointer (some ⟨w.heap.size,0,none⟩)) true ty).run Tryz.prog wr = _:=fun ty => Lib.run_next_end_at wr w.heap.size s pos ty hit hp
     have hall':s.data.toList.all later = true:=by rw [List.take_of_length_le (by rw [size_list]; omega)] at hall; exact hall
     have HE:Hid (isName s.data.toList = true):=Lib.hid (isName_yes (by rw [size_list]; omega) (by rw [size_list]; omega) HK.out hall' (hhead (by omega)))
     clear hall hall' hhead
     go_wp2
     go_ret
     exact ⟨ret_bool HE.out.symm,hbw⟩
end Go.Proofs.YtjfghaohogcfbaaGreatDoor
namespace Go.Proofs.YtjfghaohogcfbaaGreatDoor
open Go.RowKit NamesSpec Go.Lib
set_option maxRecDepth 100000
end Go.Proofs.YtjfghaohogcfbaaGreatDoor
namespace Go.Proofs.YtjfghaohogcfbaaGreatDoor
open Go.RowKit CurSpec NamesSpec
set_option maxRecDepth 100000
theorem nameB_yes {c:Cur} (h0:c.bad = 0) (h1:(next c).k = 1) (h2:isName (next c).t.data.toList = true):nameB c = true:=by simp [nameB,h0,h1,h2]
theorem nameB_no1 {c:Cur} (h1:(next c).k ≠ 1):nameB c = false:=by simp [nameB,h1]
theorem nameB_no2 {c:Cur} (h1:isName (next c).t.data.toList = false):nameB c = false:=by simp [nameB,h1]
end Go.Proofs.YtjfghaohogcfbaaGreatDoor
namespace Go.Proofs.YtjfghaohogcfbaaGreatDoor
open Go.RowKit ValSpec
end Go.Proofs.YtjfghaohogcfbaaGreatDoor
namespace Go.Proofs.YtjfghaohogcfbaaGreatDoor
open Go.RowKit ValSpec
set_option maxRecDepth 100000
theorem str_nil {s:ByteArray} (h:s.size = 0):s.toList = []:=by
 rw [ByteArray.toList_eq,← List.length_eq_zero_iff]; exact h
theorem str_ne {s:ByteArray} (h:0 < s.size):s.toList.isEmpty = false:=by
 have e:s.toList.length = s.size:=by rw [ByteArray.toList_eq]; rfl
 cases h':s.toList with
 | nil => rw [h'] at e; simp at e; omega
 | cons a l => rfl
theorem val_bool {a b:Bool} (h:a = b):Ending.returned (.bool a) = .returned (.bool b):=by rw [h]
theorem val_pair {a b c d:Int} (h:a = b) (h':c = d):Ending.returned (.tuple #[.int .i64 a,.int .i64 c]) = .returned (.tuple #[.int .i64 b,.int .i64 d]):=by rw [h,h']
theorem take_snoc (s:ByteArray) (k:Nat) (h:k < s.size):s.data.toList.take (k + 1) = s.data.toList.take k ++ [s[k]]:=by
 rw [List.take_succ_eq_append_getElem (by simpa using h)]; rfl
theorem take_all (s:ByteArray):s.data.toList.take s.size = s.data.toList:=by rw [List.take_of_length_le (by simp)]
theorem cons_of {s:ByteArray} (h:0 < s.size):∃ tl,s.data.toList = s[0] :: tl ∧ tl.length + 1 = s.size:=by
 have e:s.data.toList.length = s.size:=rfl
 cases h':s.data.toList with
 | nil => rw [h'] at e; simp at e; omega
 | cons a l =>
   rw [h'] at e
   refine ⟨l,?_,by simpa using e⟩
   have:s.data.toList[0]'(by rw [h']; simp) = s[0]:=rfl
   rw [← this]
   simp [h']
theorem num_zero {s:ByteArray} (h:0 < s.size) (h0:(s[0].toNat:Int) = 48) (h1:1 < s.size):isNum s.data.toList = false:=by
 obtain ⟨tl,e,hl⟩:=cons_of h
 have e0:s[0] = 48:=UInt8.toNat_inj.mp (by show _ = 48; omega)
 rw [e,e0]
 have:1 ≤ tl.length:=by omega
 simp [isNum]
 intro h2; subst h2; simp at this
theorem num_else {s:ByteArray} (h:0 < s.size) (h0:¬ (s[0].toNat:Int) = 48 ∨ s.size ≤ 1):isNum s.data.toList = s.data.toList.all isDig:=by
 obtain ⟨tl,e,hl⟩:=cons_of h
 rw [e]
 unfold isNum
 have e1:(!(s[0] :: tl).isEmpty) = true:=rfl
 rw [e1]
 rcases h0 with h0 | h0
 ·have:((s[0] :: tl).head? == some 48) = false:=by
   rw [beq_eq_false_iff_ne]; intro h2; simp at h2; exact h0 (by rw [h2]; rfl)
  rw [this]; simp
 ·have:tl = []:=by rw [← List.length_eq_zero_iff]; omega
  subst this; simp
theorem all_take_no {s:ByteArray} {k:Nat} (h:k < s.size) (hc:isDig s[k] = false):s.data.toList.all isDig = false:=by
 rw [List.all_eq_false]
 exact ⟨s[k],by rw [← Array.mem_def]; exact Array.getElem_mem _,by simp [hc]⟩
set_option maxHeartbeats 400000 in
theorem numeral_loop (s:ByteArray) (w:World) (hs:s.size ≤ 9223372036854775807) (hp:0 < s.size) (h0:¬ (s[0].toNat:Int) = 48 ∨ s.size ≤ 1) :
 Calls Tryz.prog 203 #[.string s] w fun e w' => e = .returned (.bool (isNum s.data.toList)) ∧ w = w':=by
 have he:=str_ne hp
 have HN:=Lib.hid (num_else hp h0)
 have hz:¬ ((s[0].toNat:Int) = 48 ∧ 1 < (s.size:Int)):=by omega
 by_cases hs0:(s[0].toNat:Int) = 48
 all_goals
  (first | (have h1:(s.size:Int) ≤ 1:=by omega) | skip)
  clear h0 hz
  go_enter Tryz.func203,Tryz.ntmps203
  go_wp2_with fail
  go_loop [18] (fun i => ∃ k:Nat,k ≤ s.size ∧ i = .int .i64 k ∧ (s.data.toList.take k).all isDig = true) (fun i => s.size - (intOf i).toNat)
  case atStart => exact ⟨0,Nat.zero_le _,rfl,rfl⟩
  case round =>
   obtain ⟨k,hk,rfl,hall⟩:=hrel
   have HA:=Lib.hid hall
   clear hall
   by_cases hlt:k < s.size
   ·by_cases hc1:(s[k].toNat:Int) < 48
    ·go_wp2_with fail
     go_ret
     exact ⟨val_bool (by rw [HN.out,all_take_no hlt (not_dig_lo hc1)]),rfl⟩
    ·by_cases hc2:57 < (s[k].toNat:Int)
     ·go_wp2_with fail
      go_ret
      exact ⟨val_bool (by rw [HN.out,all_take_no hlt (not_dig_hi hc2)]),rfl⟩
     ·go_wp2_with fail
      go_round
      case rel => exact ⟨k + 1,by omega,by go_num,by rw [take_snoc s k hlt,List.all_append,HA.out]; simp [dig_mk (c:=s[k]) (by omega) (by omega)]⟩
      case measure => simp [intOf]; omega
   ·go_wp2_with fail
    go_ret
    exact ⟨val_bool (by have:k = s.size:=by omega
                        rw [HN.out,← take_all s,← this,HA.out]),rfl⟩
theorem numeral_any (s:ByteArray) (w:World) (hs:s.size ≤ maxLen) :
 Calls Tryz.prog 203 #[.string s] w fun e w' => e = .returned (.bool (isNum s.data.toList)) ∧ w = w':=by
 unfold maxLen at hs
 by_cases h0:s.size = 0
 ·have he:=str_nil h0
  have:s.data.toList = []:=by rw [← ByteArray.toList_eq]; exact he
  have HE:=Lib.hid this
  clear this
  go_enter Tryz.func203,Tryz.ntmps203
  go_wp2_with fail
  go_ret
  exact ⟨val_bool (by rw [HE.out]; rfl),rfl⟩
 ·have hp:0 < s.size:=by omega
  by_cases h1:(s[0].toNat:Int) = 48 ∧ 1 < s.size
  ·obtain ⟨h1,h2⟩:=h1
   have he:=str_ne hp
   have HZ:=Lib.hid (num_zero hp h1 h2)
   go_enter Tryz.func203,Tryz.ntmps203
   go_wp2_with fail
   go_ret
   exact ⟨val_bool HZ.out.symm,rfl⟩
  ·exact numeral_loop s w hs hp (by omega)
theorem all_at {s:ByteArray} {k:Nat} (h:k < s.size) (ha:s.data.toList.all isDig = true):isDig s[k] = true:=by
 rw [List.all_eq_true] at ha
 exact ha _ (by rw [← Array.mem_def]; exact Array.getElem_mem _)
set_option maxHeartbeats 400000 in
theorem get_any (s:ByteArray) (w:World) (hs:s.size ≤ maxLen) :
 Calls Tryz.prog 194 #[.string s] w fun e w' => e = .returned (.tuple #[.int .i64 (getN s.data.toList),.int .i64 (getE s.data.toList)]) ∧ w = w':=by
 have hs':s.size ≤ 9223372036854775807:=hs
 by_cases hn:isNum s.data.toList = true
 ·have ha:=isNum_all hn
  have HAll:=Lib.hid ha
  have HNum:=Lib.hid hn
  go_enter Tryz.func194,Tryz.ntmps194
  go_wp2_with (go_at_call 203; refine (numeral_any _ _ hs).mono ?_; rintro e w' ⟨rfl,rfl⟩)
  clear hn ha
  go_loop [4,11] (fun n i => ∃ k:Nat,k ≤ s.size ∧ i = .int .i64 k ∧ n = .int .i64 (says (s.data.toList.take k)) ∧ says (s.data.toList.take k) ≤ 1000000) (fun _ i => s.size - (intOf i).toNat)
  case atStart => exact ⟨0,Nat.zero_le _,rfl,rfl,by show (0:Int) ≤ 1000000; omega⟩
  case round =>
   obtain ⟨k,hk,rfl,rfl,hbig⟩:=hrel
   have hlo:=says_nonneg _ (all_take k HAll.out)
   by_cases hlt:k < s.size
   ·obtain ⟨b1,b2⟩:=dig_bd (all_at hlt HAll.out)
    have hsn:says (s.data.toList.take (k + 1)) = 10 * says (s.data.toList.take k) + ((s[k].toNat:Int) - 48):=by rw [take_snoc s k hlt,says_snoc]
    have HS:=Lib.hid hsn
    have hle:=says_take_le s.data.toList (k + 1) HAll.out
    rw [hsn] at hle
    have HL:=Lib.hid hle
    clear hsn hle
    by_cases hb:1000000 < 10 * says (s.data.toList.take k) + ((s[k].toNat:Int) - 48)
    ·go_wp2_with fail
     go_ret2
     exact ⟨val_pair (by unfold getN; rw [if_pos HNum.out,if_pos (by have:=HL.out; omega)]) (by unfold getE; rw [if_pos HNum.out,if_pos (by have:=HL.out; omega)]),rfl⟩
    ·go_wp2_with fail
     go_round
     case rel => exact ⟨k + 1,by omega,by go_num,by rw [HS.out],by rw [HS.out]; omega⟩
     case measure => simp [intOf]; omega
   ·have hks:k = s.size:=by omega
    have hsa:says (s.data.toList.take k) = says s.data.toList:=by rw [hks,take_all]
    have HE:=Lib.hid hsa
    clear hsa hks
    go_wp2_with fail
    go_ret2
    exact ⟨val_pair (by rw [HE.out]; unfold getN; rw [if_pos HNum.out,if_neg (by rw [← HE.out]; omega)]) (by unfold getE; rw [if_pos HNum.out,if_neg (by rw [← HE.out]; omega)]),rfl⟩
 ·have hf:isNum s.data.toList = false:=by simpa using hn
  clear hn
  have HF:=Lib.hid hf
  go_enter Tryz.func194,Tryz.ntmps194
  go_wp2_with (go_at_call 203; refine (numeral_any _ _ hs).mono ?_; rintro e w' ⟨rfl,rfl⟩)
  go_ret2
  exact ⟨val_pair (by unfold getN; rw [HF.out]; rfl) (by unfold getE; rw [HF.out]; rfl),rfl⟩
end Go.Proofs.YtjfghaohogcfbaaGreatDoor
namespace Go.Proofs.YtjfghaohogcfbaaGreatDoor
open Go.RowKit CurSpec ValSpec
set_option maxRecDepth 100000
def RetGet (W:World) (n er:Int) (e:Ending) (w':World):Prop:=e = .returned (.tuple #[.int .i64 n,.int .i64 er]) ∧ W = w'
theorem num_fail {c:Cur} {m er:Int} (h:numE c m = er) (hne:er ≠ 0):numC c m = fail c er ∧ numN c m = 0:=by
 subst h
 unfold numC numN
 rw [if_neg hne,if_neg hne]
 exact ⟨rfl,rfl⟩
theorem numE_kind {c:Cur} {m:Int} (h:(next c).k ≠ 2):numE c m = 2:=if_neg (fun h' => h h'.2)
theorem numE_get {c:Cur} {m:Int} (h0:c.bad = 0) (h:(next c).k = 2) (hE:getE (next c).t.data.toList ≠ 0):numE c m = getE (next c).t.data.toList:=by
 unfold numE
 rw [if_pos ⟨h0,h⟩,if_neg hE]
theorem numE_most {c:Cur} {m:Int} (h0:c.bad = 0) (h:(next c).k = 2) (hE:getE (next c).t.data.toList = 0) (hm:m < getN (next c).t.data.toList):numE c m = 3:=by
 unfold numE
 rw [if_pos ⟨h0,h⟩,if_pos hE,if_pos hm]
theorem numE_good {c:Cur} {m:Int} (h0:c.bad = 0) (h:(next c).k = 2) (hE:getE (next c).t.data.toList = 0) (hm:¬ m < getN (next c).t.data.toList):numE c m = 0:=by
 unfold numE
 rw [if_pos ⟨h0,h⟩,if_pos hE,if_neg hm]
end Go.Proofs.YtjfghaohogcfbaaGreatDoor