/- CurCalls, TermArity, TermMay, ExprRdr, joined. -/
import Derived.Test.YtjfghaohogcfbaaGreatDoorMFormatSame04
import Derived.Test.YtjfghaohogcfbaaGreatDoorMFormatSame02
import Derived.Laws.StructEq
import Derived.Test.YtjfghaohogcfbaaGreatDoorMFormatSame03
import Derived.Test.YtjfghaohogcfbaaGreatDoorMFormatSame01
namespace Go.Proofs.YtjfghaohogcfbaaGreatDoor
open Go.RowKit CurSpec NamesSpec ValSpec
set_option maxRecDepth 100000
def RetAtB (W:World) (B:Nat) (c:Cur) (b:Bool) (e:Ending) (w':World):Prop:=e = .returned (.bool b) ∧ CurAt w' B c ∧ W.grownBy w' (some B)
def RetAtS (W:World) (B:Nat) (c:Cur) (s:ByteArray) (e:Ending) (w':World):Prop:=e = .returned (.string s) ∧ CurAt w' B c ∧ W.grownBy w' (some B)
def RetAtN (W:World) (B:Nat) (c:Cur) (n:Int) (e:Ending) (w':World):Prop:=e = .returned (.int .i64 n) ∧ CurAt w' B c ∧ W.grownBy w' (some B)
set_option maxHeartbeats 1000000 in
theorem take_at (B:Nat) (c:Cur) (k:Int) (s:ByteArray) (w:World) (h:CurAt w B c):Calls Tryz.prog 52 #[.pointer (some ⟨B,0,none⟩),.int .i64 k,.string s] w (RetAtB w B (take c k s) (isB c k s)):=by
 have HI:=Lib.hid (is_at B c k s w h)
 have HC:=Lib.hid h
 clear h
 by_cases hb:isB c k s = true
 ·have HT:Hid (take c k s = on c):=Lib.hid (by unfold take; rw [if_pos hb])
  rw [hb] at HI ⊢
  clear hb
  go_enter Tryz.func52,Tryz.ntmps52
  go_wp2_with (go_at_call 98; (with_reducible refine HI.out.mono ?_))
  rintro e x2 ⟨rfl,hb2⟩
  have HB:=Lib.hid hb2
  clear hb2
  go_wp2_with (go_at_call 89; (with_reducible refine (pass_at _ _ _ (HC.out.keep HB.out)).mono ?_))
  rintro e x3 ⟨rfl,hC3,hb3⟩
  have HE:=Lib.hid (And.intro hC3 (but_trans (but_below HB.out) hb3))
  clear hC3 hb3
  go_wp2_with fail
  go_ret
  exact ⟨rfl,by rw [HT.out]; exact HE.out.1,HE.out.2⟩
 ·have HT:Hid (take c k s = c):=Lib.hid (by unfold take; rw [if_neg hb])
  have hb':isB c k s = false:=by simpa using hb
  rw [hb'] at HI ⊢
  clear hb hb'
  go_enter Tryz.func52,Tryz.ntmps52
  go_wp2_with (go_at_call 98; (with_reducible refine HI.out.mono ?_))
  rintro e x2 ⟨rfl,hb2⟩
  have HB:=Lib.hid hb2
  clear hb2
  go_wp2_with fail
  go_ret
  exact ⟨rfl,by rw [HT.out]; exact HC.out.keep HB.out,but_below HB.out⟩
set_option maxHeartbeats 1000000 in
theorem want_at (B:Nat) (c:Cur) (k:Int) (s:ByteArray) (w:World) (h:CurAt w B c):Calls Tryz.prog 21 #[.pointer (some ⟨B,0,none⟩),.int .i64 k,.string s] w (RetAt w B (want c k s)):=by
 have HI:=Lib.hid (take_at B c k s w h)
 clear h
 by_cases hb:isB c k s = true
 ·have HT:Hid (want c k s = take c k s):=Lib.hid (by unfold want take; rw [if_pos hb,if_pos hb])
  rw [hb] at HI
  clear hb
  go_enter Tryz.func21,Tryz.ntmps21
  go_wp2_with (go_at_call 52; (with_reducible refine HI.out.mono ?_))
  rintro e x2 ⟨rfl,hC2,hb2⟩
  have HE:=Lib.hid (And.intro hC2 hb2)
  clear hC2 hb2
  go_wp2_with fail
  go_end0
  exact ⟨rfl,by rw [HT.out]; exact HE.out.1,HE.out.2⟩
 ·have HT:Hid (want c k s = fail (take c k s) 2):=Lib.hid (by unfold want take; rw [if_neg hb,if_neg hb])
  have hb':isB c k s = false:=by simpa using hb
  rw [hb'] at HI
  clear hb hb'
  go_enter Tryz.func21,Tryz.ntmps21
  go_wp2_with (go_at_call 52; (with_reducible refine HI.out.mono ?_))
  rintro e x2 ⟨rfl,hC2,hb2⟩
  have HE:=Lib.hid (And.intro hC2 hb2)
  clear hC2 hb2
  go_wp2_with (go_at_call 53; (with_reducible refine (fail_at _ _ _ _ HE.out.1).mono ?_))
  rintro e x3 ⟨rfl,hC3,hb3⟩
  have HE3:=Lib.hid (And.intro hC3 (but_trans HE.out.2 hb3))
  clear hC3 hb3
  go_wp2_with fail
  go_end0
  exact ⟨rfl,by rw [HT.out]; exact HE3.out.1,HE3.out.2⟩
theorem bad_of_kind {c:Cur} {k:Int} (h:(next c).k = k) (hk:k ≠ 0):c.bad = 0:=by
 rcases Decidable.em (c.bad = 0) with h0 | h0
 ·exact h0
 ·rw [next_dead h0] at h
  exact absurd h.symm hk
theorem nis_say {s:ByteArray} {b:Bool} (hb:isName s.data.toList = b) (hs:s.size ≤ 9223372036854775807) (w:World):Calls Tryz.prog 88 #[.string s] w (RetBool w b):=by
 subst hb
 exact is_any s w hs
set_option maxHeartbeats 1000000 in
theorem name_at (B:Nat) (c:Cur) (ok:Ok c) (w:World) (h:CurAt w B c):Calls Tryz.prog 47 #[.pointer (some ⟨B,0,none⟩)] w (RetAtS w B (nameC c) (nameS c)):=by
 have HN:=Lib.hid (next_at B c w h)
 have HC:=Lib.hid h
 clear h
 obtain ⟨t,ht⟩:∃ t,t = next c:=⟨_,rfl⟩
 have HI:=Lib.hid (fun b hb W => nis_say (s:=(next c).t) (b:=b) hb ok.next W)
 rw [← ht] at HN HI
 by_cases h1:t.k = 1
 ·have e1:(t.k != 1) = false:=by simpa using h1
  by_cases h2:isName t.t.data.toList = true
  ·have hB:nameB c = true:=nameB_yes (bad_of_kind (k:=1) (by rw [← ht]; exact h1) (by decide)) (by rw [← ht]; exact h1) (by rw [← ht]; exact h2)
   have HS:Hid (nameC c = on c ∧ nameS c = t.t):=Lib.hid (by unfold nameC nameS; rw [if_pos hB,if_pos hB,ht]; exact ⟨rfl,rfl⟩)
   have HI2:=Lib.hid (HI.out true h2)
   clear HI hB ht h1 h2
   go_enter Tryz.func47,Tryz.ntmps47
   go_wp2_with (go_at_call 87; (with_reducible refine HN.out.mono ?_))
   rintro e x2 ⟨rfl,hb2⟩
   have HB:=Lib.hid hb2
   clear hb2
   go_wp2_with (go_at_call 88; (with_reducible refine (HI2.out _).mono ?_))
   rintro e x3 ⟨rfl,hb3⟩
   obtain ⟨k3,hB3,hz3⟩:=one_block hb3
   have HB3:=Lib.hid (below_two' HB.out hB3)
   have HK3:=Lib.hid k3
   obtain ⟨t0,t1,t2,t3⟩:=cells_4 k3
   clear hb3 hB3 k3
   go_wp2_with (go_at_call 89; (with_reducible refine (pass_at _ _ _ (HC.out.keep HB3.out)).mono ?_))
   rintro e x4 ⟨rfl,hC4,hb4⟩
   have k4:=(hb4.block _ (Array.getElem?_eq_some_iff.1 HK3.out).1 (by have:=HC.out.lt; have:=HB.out.size; simp; omega)).trans HK3.out
   clear t0 t1 t2 t3
   obtain ⟨t0,t1,t2,t3⟩:=cells_4 k4
   have HE:=Lib.hid (And.intro hC4 (but_trans (but_below HB3.out) hb4))
   clear hC4 hb4 k4
   go_wp2_with fail
   go_ret
   exact ⟨by rw [HS.out.2]; rfl,by rw [HS.out.1]; exact HE.out.1,HE.out.2⟩
  ·have h2':isName t.t.data.toList = false:=by simpa using h2
   have hB:nameB c = false:=nameB_no2 (by rw [← ht]; exact h2')
   have HS:Hid (nameC c = fail c 2 ∧ nameS c = ⟨#[]⟩):=Lib.hid (by unfold nameC nameS; rw [hB]; exact ⟨rfl,rfl⟩)
   have HI2:=Lib.hid (HI.out false h2')
   clear HI hB ht h1 h2 h2'
   go_enter Tryz.func47,Tryz.ntmps47
   go_wp2_with (go_at_call 87; (with_reducible refine HN.out.mono ?_))
   rintro e x2 ⟨rfl,hb2⟩
   have HB:=Lib.hid hb2
   clear hb2
   go_wp2_with (go_at_call 88; (with_reducible refine (HI2.out _).mono ?_))
   rintro e x3 ⟨rfl,hb3⟩
   obtain ⟨k3,hB3,hz3⟩:=one_block hb3
   have HB3:=Lib.hid (below_two' HB.out hB3)
   clear hb3 hB3 k3
   go_wp2_with (go_at_call 53; (with_reducible refine (fail_at _ _ _ _ (HC.out.keep HB3.out)).mono ?_))
   rintro e x4 ⟨rfl,hC4,hb4⟩
   have HE:=Lib.hid (And.intro hC4 (but_trans (but_below HB3.out) hb4))
   clear hC4 hb4
   go_wp2_with fail
   go_ret
   exact ⟨by rw [HS.out.2]; rfl,by rw [HS.out.1]; exact HE.out.1,HE.out.2⟩
 ·have e1:(t.k != 1) = true:=by simpa using h1
  have hB:nameB c = false:=nameB_no1 (by rw [← ht]; exact h1)
  have HS:Hid (nameC c = fail c 2 ∧ nameS c = ⟨#[]⟩):=Lib.hid (by unfold nameC nameS; rw [hB]; exact ⟨rfl,rfl⟩)
  clear HI hB ht h1
  go_enter Tryz.func47,Tryz.ntmps47
  go_wp2_with (go_at_call 87; (with_reducible refine HN.out.mono ?_))
  rintro e x2 ⟨rfl,hb2⟩
  have HB:=Lib.hid hb2
  clear hb2
  go_wp2_with (go_at_call 53; (with_reducible refine (fail_at _ _ _ _ ((HC.out.keep HB.out).alloc _)).mono ?_))
  rintro e x4 ⟨rfl,hC4,hb4⟩
  have HE:=Lib.hid (And.intro hC4 (but_trans (but_below (HB.out.alloc HB.out.size _)) hb4))
  clear hC4 hb4
  go_wp2_with fail
  go_ret
  exact ⟨by rw [HS.out.2]; rfl,by rw [HS.out.1]; exact HE.out.1,HE.out.2⟩
def numR (k:Int) (l:List UInt8) (m:Int):Int × Int:=if k = 2 then (if getE l = 0 ∧ m < getN l then (0,3) else (getN l,getE l)) else (0,2)
def RetPair (W:World) (r:Int × Int) (e:Ending) (w':World):Prop:=e = .returned (.tuple #[.int .i64 r.1,.int .i64 r.2]) ∧ Below W.heap.size W w'
theorem get_say {s:ByteArray} {n er:Int} (hn:getN s.data.toList = n) (he:getE s.data.toList = er) (hs:s.size ≤ 9223372036854775807) (w:World):Calls Tryz.prog 194 #[.string s] w (RetGet w n er):=by
 subst hn he
 exact get_any s w hs
set_option maxHeartbeats 1000000 in
theorem pnum_any (k:Int) (s:ByteArray) (l c m:Int) (w:World) (hs:s.size ≤ 9223372036854775807):Calls Tryz.prog 186 #[.agg #[.int .i64 k,.string s,.int .i64 l,.int .i64 c],.int .i64 m] w (RetPair w (numR k s.data.toList m)):=by
 by_cases hk:k = 2
 ·have e1:(k != 2) = false:=by simpa using hk
  obtain ⟨N,hN⟩:∃ N,N = getN s.data.toList:=⟨_,rfl⟩
  obtain ⟨E,hE⟩:∃ E,E = getE s.data.toList:=⟨_,rfl⟩
  have HG:=Lib.hid (fun W => get_say hN.symm hE.symm hs W)
  by_cases h2:E = 0
  ·by_cases h3:m < N
   ·have HV:Hid (numR k s.data.toList m = (0,3)):=Lib.hid (by unfold numR; rw [if_pos hk,← hN,← hE,if_pos ⟨h2,h3⟩])
    have e2:(E == 0) = true:=by simpa using h2
    clear hN hE hk h2
    go_enter Tryz.func186,Tryz.ntmps186
    go_wp2_with (go_at_call 194; (with_reducible refine (HG.out _).mono ?_))
    rintro e w' ⟨rfl,rfl⟩
    go_wp2_with fail
    go_ret2
    exact ⟨by rw [HV.out]; rfl,(Below.refl _ _).alloc (Nat.le_refl _) _⟩
   ·have HV:Hid (numR k s.data.toList m = (N,E)):=Lib.hid (by unfold numR; rw [if_pos hk,← hN,← hE,if_neg (fun h => h3 h.2)])
    have e2:(E == 0) = true:=by simpa using h2
    have e3:decide (m < N) = false:=by simpa using h3
    clear hN hE hk h2 h3
    go_enter Tryz.func186,Tryz.ntmps186
    go_wp2_with (go_at_call 194; (with_reducible refine (HG.out _).mono ?_))
    rintro e w' ⟨rfl,rfl⟩
    go_wp2_with fail
    go_ret2
    exact ⟨by rw [HV.out]; rfl,(Below.refl _ _).alloc (Nat.le_refl _) _⟩
  ·have HV:Hid (numR k s.data.toList m = (N,E)):=Lib.hid (by unfold numR; rw [if_pos hk,← hN,← hE,if_neg (fun h => h2 h.1)])
   have e2:(E == 0) = false:=by simpa using h2
   clear hN hE hk h2
   go_enter Tryz.func186,Tryz.ntmps186
   go_wp2_with (go_at_call 194; (with_reducible refine (HG.out _).mono ?_))
   rintro e w' ⟨rfl,rfl⟩
   go_wp2_with fail
   go_ret2
   exact ⟨by rw [HV.out]; rfl,(Below.refl _ _).alloc (Nat.le_refl _) _⟩
 ·have e1:(k != 2) = true:=by simpa using hk
  have HV:Hid (numR k s.data.toList m = (0,2)):=Lib.hid (by unfold numR; rw [if_neg hk])
  clear hk
  go_enter Tryz.func186,Tryz.ntmps186
  go_wp2_with fail
  go_ret2
  exact ⟨by rw [HV.out]; rfl,(Below.refl _ _).alloc (Nat.le_refl _) _⟩
theorem numR_is (c:Cur) (m:Int):(numR (next c).k (next c).t.data.toList m).2 = numE c m ∧ (numE c m = 0 → (numR (next c).k (next c).t.data.toList m).1 = numN c m):=by
 by_cases hk:(next c).k = 2
 ·have h0:=bad_of_kind hk (by decide)
  by_cases hE:getE (next c).t.data.toList = 0
  ·by_cases hm:m < getN (next c).t.data.toList
   ·have e1:numR (next c).k (next c).t.data.toList m = (0,3):=by unfold numR; rw [if_pos hk,if_pos ⟨hE,hm⟩]
    rw [e1,numE_most h0 hk hE hm]
    exact ⟨rfl,fun h => absurd h (by decide)⟩
   ·have e1:numR (next c).k (next c).t.data.toList m = (getN (next c).t.data.toList,getE (next c).t.data.toList):=by unfold numR; rw [if_pos hk,if_neg (fun h => hm h.2)]
    have e2:=numE_good h0 hk hE hm
    rw [e1,e2]
    exact ⟨hE,fun _ => by unfold numN; rw [if_pos e2]⟩
  ·have e1:numR (next c).k (next c).t.data.toList m = (getN (next c).t.data.toList,getE (next c).t.data.toList):=by unfold numR; rw [if_pos hk,if_neg (fun h => hE h.1)]
   rw [e1,numE_get h0 hk hE]
   exact ⟨rfl,fun h => absurd h hE⟩
 ·have e1:numR (next c).k (next c).t.data.toList m = (0,2):=if_neg hk
  rw [e1,numE_kind hk]
  exact ⟨rfl,fun h => absurd h (by decide)⟩
set_option maxHeartbeats 1000000 in
theorem number_at (B:Nat) (c:Cur) (m:Int) (ok:Ok c) (w:World) (h:CurAt w B c):Calls Tryz.prog 165 #[.pointer (some ⟨B,0,none⟩),.int .i64 m] w (RetAtN w B (numC c m) (numN c m)):=by
 have HN:=Lib.hid (next_at B c w h)
 have HC:=Lib.hid h
 clear h
 obtain ⟨v1,v2⟩:=numR_is c m
 have HP:=Lib.hid (fun W => pnum_any (next c).k (next c).t (next c).l (next c).c m W ok.next)
 obtain ⟨t,ht⟩:∃ t,t = next c:=⟨_,rfl⟩
 rw [← ht] at HN HP v1 v2
 obtain ⟨N,E,hr⟩:∃ N E,numR t.k t.t.data.toList m = (N,E):=⟨_,_,rfl⟩
 rw [hr] at HP v1 v2
 simp only at v1 v2
 clear hr ht
 by_cases hE:E = 0
 ·have e1:(E != 0) = false:=by simpa using hE
  have HS:Hid (numC c m = on c ∧ N = numN c m):=Lib.hid ⟨by unfold numC; rw [if_pos (by rw [← v1]; exact hE)],v2 (by rw [← v1]; exact hE)⟩
  clear v1 v2 hE
  go_enter Tryz.func165,Tryz.ntmps165
  go_wp2_with (go_at_call 87; (with_reducible refine HN.out.mono ?_))
  rintro e x2 ⟨rfl,hb2⟩
  have HB:=Lib.hid hb2
  clear hb2
  go_wp2_with (go_at_call 186; (with_reducible refine (HP.out _).mono ?_))
  rintro e x3 ⟨rfl,hb3⟩
  have HB3:=Lib.hid (below_two' HB.out hb3)
  clear hb3
  go_wp2_with (go_at_call 89; (with_reducible refine (pass_at _ _ _ (HC.out.keep HB3.out)).mono ?_))
  rintro e x4 ⟨rfl,hC4,hb4⟩
  have HE:=Lib.hid (And.intro hC4 (but_trans (but_below HB3.out) hb4))
  clear hC4 hb4
  go_wp2_with fail
  go_ret
  exact ⟨ret_int HS.out.2,by rw [HS.out.1]; exact HE.out.1,HE.out.2⟩
 ·have e1:(E != 0) = true:=by simpa using hE
  have HS:Hid (numC c m = fail c E ∧ (0:Int) = numN c m):=Lib.hid (by
   obtain ⟨q1,q2⟩:=num_fail (m:=m) v1.symm hE
   exact ⟨q1,q2.symm⟩)
  clear v1 v2 hE
  go_enter Tryz.func165,Tryz.ntmps165
  go_wp2_with (go_at_call 87; (with_reducible refine HN.out.mono ?_))
  rintro e x2 ⟨rfl,hb2⟩
  have HB:=Lib.hid hb2
  clear hb2
  go_wp2_with (go_at_call 186; (with_reducible refine (HP.out _).mono ?_))
  rintro e x3 ⟨rfl,hb3⟩
  have HB3:=Lib.hid (below_two' HB.out hb3)
  clear hb3
  go_wp2_with (go_at_call 53; (with_reducible refine (fail_at _ _ _ _ (HC.out.keep HB3.out)).mono ?_))
  rintro e x4 ⟨rfl,hC4,hb4⟩
  have HE:=Lib.hid (And.intro hC4 (but_trans (but_below HB3.out) hb4))
  clear hC4 hb4
  go_wp2_with fail
  go_ret
  exact ⟨ret_int HS.out.2,by rw [HS.out.1]; exact HE.out.1,HE.out.2⟩
end Go.Proofs.YtjfghaohogcfbaaGreatDoor
namespace Go.Proofs.YtjfghaohogcfbaaGreatDoor
open Go.RowKit TermSpec
set_option maxRecDepth 100000
set_option maxHeartbeats 1600000 in
theorem arity_any (o:Int) (w:World):Calls Tryz.prog 209 #[.int .i64 o] w (SameI w (ar o)):=by
 go_enter Tryz.func209,Tryz.ntmps209
 go_wp2_with fail
 all_goals
  go_ret
  exact ⟨ret_int (by simp_all [ar]),rfl⟩
end Go.Proofs.YtjfghaohogcfbaaGreatDoor
namespace Go.Proofs.YtjfghaohogcfbaaGreatDoor
open Go.RowKit TermSpec NamesSpec
set_option maxRecDepth 100000
theorem cells_3 {w:World} {b:Nat} {T:TypeId} {x0 x1 x2:Value} (h:w.heap[b]? = some (.cells #[x0,x1,x2] T (0,0))):w.cell? ⟨b,0,none⟩ = some x0 ∧ w.cell? ⟨b,1,none⟩ = some x1 ∧ w.cell? ⟨b,2,none⟩ = some x2 :=
 ⟨cell_of_block' h (i:=0) rfl,cell_of_block' h (i:=1) rfl,cell_of_block' h (i:=2) rfl⟩
theorem free_3 {w:World} {b:Nat} {T:TypeId} {cs:Array Value} (h:w.heap[b]? = some (.cells cs T (0,0))):w.frozen? ⟨b,0,none⟩ = false ∧ w.frozen? ⟨b,1,none⟩ = false ∧ w.frozen? ⟨b,2,none⟩ = false :=
 ⟨free_of_block' h 0,free_of_block' h 1,free_of_block' h 2⟩
theorem eq_term (a b c d:Int) (s u:ByteArray) (w:World):(Op.equalIn 10000 105 (.agg #[.int .i64 a,.int .i64 b,.string s]) (.agg #[.int .i64 c,.int .i64 d,.string u])).run Tryz.prog w = .ok (a == c && (b == d && s.toList == u.toList)) w:=by
 have u3:=Tryz.underlying3
 have u9:=Tryz.underlying9
 have hS:Tryz.prog.underlying 105 = some (.struct (Tryz.prog.fieldsOf 105)):=by kernel_rfl
 rw [show (10000:Nat) = 9999 + 1 from rfl,run_equalIn_agg w 9999 105 _ _ hS (by kernel_rfl)]
 simp only [Program.fieldsOf,Tryz.underlying105]
 go_simp
 by_cases h1:a = c <;> by_cases h2:b = d <;> by_cases h3:s.toList = u.toList <;> simp [h1,h2,h3]
theorem build_term (a:Int) (w:World):(Instr.build 105 #[(0,.int .i64 a)]).run Tryz.prog w = .ok (.agg #[.int .i64 a,.int .i64 0,.string ⟨#[]⟩]) w:=run_build w 105 _ _ (by kernel_rfl)
theorem may_one {o n:Int} {s:ByteArray} (h1:o = 1):mayB ⟨o,n,s⟩ = (decide (0 ≤ n) && decide (n ≤ 1000000) && decide (s.size = 0)):=by
 unfold mayB
 rw [if_pos h1,if_neg (by show ¬ (o = 2 ∨ o = 11); omega)]
theorem may_name {o n:Int} {s:ByteArray} (h1:o = 2 ∨ o = 11):mayB ⟨o,n,s⟩ = (decide (n = 0) && isName s.data.toList):=by
 unfold mayB
 rw [if_neg (by show ¬ o = 1; omega),if_pos h1]
theorem may_else {o n:Int} {s:ByteArray} (h1:¬ o = 1) (h2:¬ (o = 2 ∨ o = 11)):mayB ⟨o,n,s⟩ = (decide (n = 0) && decide (s.size = 0)):=by
 unfold mayB
 rw [if_neg h1,if_neg h2]
theorem int0_dec (n:Int):(n == 0) = decide (n = 0):=by rw [Bool.eq_iff_iff]; simp
theorem nil_iff (s:ByteArray):(s.toList == []) = decide (s.size = 0):=by
 rw [Bool.eq_iff_iff,decide_eq_true_iff,beq_iff_eq,toList_of]
 exact List.length_eq_zero_iff.symm
set_option maxHeartbeats 1600000 in
theorem may_any1 (o n:Int) (s:ByteArray) (w:World) (h1:o = 1):Calls Tryz.prog 189 #[.agg #[.int .i64 o,.int .i64 n,.string s]] w (RetB w (mayB ⟨o,n,s⟩)):=by
 have HE:=Lib.hid (may_one (n:=n) (s:=s) h1)
 have heq:=eq_term
 have hbd:=build_term
 subst h1
 by_cases hn:n < 0
 ·go_enter Tryz.func189,Tryz.ntmps189
  go_wp2_with fail
  go_ret
  exact ⟨ret_bool (by rw [HE.out,decide_eq_false (show ¬ 0 ≤ n by omega)]; rfl),(Below.refl _ _).alloc (Nat.le_refl _) _⟩
 by_cases hn2:1000000 < n
 ·go_enter Tryz.func189,Tryz.ntmps189
  go_wp2_with fail
  go_ret
  exact ⟨ret_bool (by rw [HE.out,decide_eq_false (show ¬ n ≤ 1000000 by omega)]; simp),(Below.refl _ _).alloc (Nat.le_refl _) _⟩
 ·have HS:=Lib.hid (nil_iff s)
  go_enter Tryz.func189,Tryz.ntmps189
  go_wp2_with fail
  go_ret
  exact ⟨ret_bool (by rw [HE.out,decide_eq_true (show 0 ≤ n by omega),decide_eq_true (show n ≤ 1000000 by omega),← HS.out]; simp),((Below.refl _ _).alloc (Nat.le_refl _) _)⟩
set_option maxHeartbeats 1600000 in
theorem may_any0 (o n:Int) (s:ByteArray) (w:World) (h1:¬ o = 1) (h2:¬ (o = 2 ∨ o = 11)):Calls Tryz.prog 189 #[.agg #[.int .i64 o,.int .i64 n,.string s]] w (RetB w (mayB ⟨o,n,s⟩)):=by
 have HE:=Lib.hid (may_else (n:=n) (s:=s) h1 h2)
 have heq:=eq_term
 have hbd:=build_term
 have g1:(o == 1) = false:=by simp [h1]
 have g2:(o == 2) = false:=by simp; omega
 have g3:(o == 11) = false:=by simp; omega
 have HS:=Lib.hid (nil_iff s)
 clear h1 h2
 go_enter Tryz.func189,Tryz.ntmps189
 go_wp2_with fail
 go_ret
 exact ⟨ret_bool (by rw [HE.out,← HS.out,← int0_dec]; simp),((Below.refl _ _).alloc (Nat.le_refl _) _)⟩
set_option maxHeartbeats 1600000 in
theorem may_any2 (o n:Int) (s:ByteArray) (w:World) (hs:s.size ≤ 9223372036854775807) (h2:o = 2 ∨ o = 11):Calls Tryz.prog 189 #[.agg #[.int .i64 o,.int .i64 n,.string s]] w (RetB w (mayB ⟨o,n,s⟩)):=by
 have HE:=Lib.hid (may_name (n:=n) (s:=s) h2)
 have heq:=eq_term
 have hbd:=build_term
 have HC:Hid (∀ w,Calls Tryz.prog 88 #[.string s] w (RetB w (isName s.data.toList))):=Lib.hid (fun w => is_any s w hs)
 obtain ⟨q,hq⟩:∃ q,q = isName s.data.toList:=⟨_,rfl⟩
 rw [← hq] at HC HE
 clear hq
 have g1:(o == 1) = false:=by simp; omega
 cases q with
 | false =>
   rcases h2 with rfl | rfl
   all_goals
    go_enter Tryz.func189,Tryz.ntmps189
    go_wp2_with (go_at_call 88; (with_reducible refine (HC.out _).mono ?_))
    rintro e w1 ⟨rfl,hb1⟩
    go_wp2_with fail
    go_ret
    exact ⟨ret_bool (by rw [HE.out]; simp),below_two' ((Below.refl _ _).alloc (Nat.le_refl _) _) (hb1.mono (by simp))⟩
 | true =>
   rcases h2 with rfl | rfl
   all_goals
    go_enter Tryz.func189,Tryz.ntmps189
    go_wp2_with (go_at_call 88; (with_reducible refine (HC.out _).mono ?_))
    rintro e w1 ⟨rfl,hb1⟩
    have hbl:=(hb1.block w.heap.size (by simp)).trans (heap_alloc_new w _)
    obtain ⟨c0,c1,c2⟩:=cells_3 hbl
    obtain ⟨f0,f1,f2⟩:=free_3 hbl
    have HB:Hid (Below w.heap.size w w1):=Lib.hid (((Below.refl _ _).alloc (Nat.le_refl _) _).trans (hb1.mono (by simp)))
    have HBL:=Lib.hid hbl
    clear hb1 hbl
    go_wp2_with fail
    go_ret
    exact ⟨ret_bool (by rw [HE.out,← int0_dec]; simp),HB.out.setCell (Nat.le_refl _) _⟩
theorem may_any (t:Tm) (w:World) (hs:t.s.size ≤ 9223372036854775807):Calls Tryz.prog 189 #[.agg #[.int .i64 t.op,.int .i64 t.n,.string t.s]] w (RetB w (mayB t)):=by
 by_cases h1:t.op = 1
 ·exact may_any1 t.op t.n t.s w h1
 ·by_cases h2:t.op = 2 ∨ t.op = 11
  ·exact may_any2 t.op t.n t.s w hs h2
  ·exact may_any0 t.op t.n t.s w h1 h2
end Go.Proofs.YtjfghaohogcfbaaGreatDoor
namespace Go.Proofs.YtjfghaohogcfbaaGreatDoor
open Go.RowKit CurSpec TermSpec ExprSpec
set_option maxRecDepth 100000
theorem CurAt.upto {w w':World} {B:Nat} {c:Cur} (h:CurAt w B c) (hs:w.heap.size ≤ w'.heap.size) (hk:∀ i,i ≤ B → w'.heap[i]? = w.heap[i]?):CurAt w' B c:=by
 obtain ⟨b,off,n,cp,h,hlt,hn,m,hm,A,c',heq,hc,hl,hA⟩:=h
 refine ⟨b,off,n,cp,(hk B (Nat.le_refl _)).trans h,hlt,hn,m,hm,A,c',heq,hc,hl,fun h0 => ?_⟩
 obtain ⟨b',off',h1,hlt',hcell⟩:=hA h0
 subst h1
 cases heq
 refine ⟨b,off,rfl,by omega,fun j u hj => ?_⟩
 rw [← hcell j u hj]
 simp [World.cell?,hk b (by omega)]
structure RdAt (w:World) (R B:Nat) (v:Value) (c:Cur) (l:List Tm):Prop where
 cur:CurAt w B c
 blk:w.heap[R]? = some (.cells #[.pointer (some ⟨B,0,none⟩),v] 227 (0,0))
 own:w.ownsRow (R + 1) 105 3 v l.length (tmsV l)
 lt:B < R
 few:l.length ≤ 41
 small:Small l
structure Hold (R B:Nat) (v v':Value) (w w':World):Prop where
 os:w'.os = w.os
 tape:w'.tape = w.tape
 output:w'.output = w.output
 size:w.heap.size ≤ w'.heap.size
 block:∀ i,i < w.heap.size → i ≠ B → i ≠ R → v.ownBlock ≠ some i → w'.heap[i]? = w.heap[i]?
 row:v'.ownBlock = v.ownBlock ∨ ∀ j,v'.ownBlock = some j → w.heap.size ≤ j
theorem Hold.refl (R B:Nat) (v:Value) (w:World):Hold R B v v w w:=⟨rfl,rfl,rfl,Nat.le_refl _,fun _ _ _ _ _ => rfl,.inl rfl⟩
theorem Hold.trans {R B:Nat} {v v' v2:Value} {w w' w2:World} (h:Hold R B v v' w w') (k:Hold R B v' v2 w' w2):Hold R B v v2 w w2:=by
 refine ⟨k.os.trans h.os,k.tape.trans h.tape,k.output.trans h.output,Nat.le_trans h.size k.size,fun i hi h1 h2 h3 => ?_,?_⟩
 ·refine (k.block i (Nat.lt_of_lt_of_le hi h.size) h1 h2 ?_).trans (h.block i hi h1 h2 h3)
  rcases h.row with hr | hr
  ·rw [hr]; exact h3
  ·intro e; have:=hr i e; omega
 ·rcases k.row with hk | hk
  ·rcases h.row with hr | hr
   ·exact .inl (hk.trans hr)
   ·exact .inr (fun j hj => hr j (by rw [← hk]; exact hj))
  ·exact .inr (fun j hj => Nat.le_trans h.size (hk j hj))
theorem Hold.of_but {R B:Nat} {w w':World} (v:Value) (h:w.grownBy w' (some B)):Hold R B v v w w' :=
 ⟨h.os,h.tape,h.output,h.size,fun i hi h1 _ _ => h.block i hi (by simpa using h1),.inl rfl⟩
theorem Hold.of_below {R B:Nat} {w w':World} (v:Value) (h:Below w.heap.size w w'):Hold R B v v w w':=Hold.of_but v (but_below h)
theorem Hold.apart {R B:Nat} {v v':Value} {w w':World} (h:Hold R B v v' w w') {i:Nat} (hi:i < w.heap.size) (hne:v.ownBlock ≠ some i):v'.ownBlock ≠ some i:=by
 rcases h.row with hr | hr
 ·rw [hr]; exact hne
 ·intro e; have:=hr i e; omega
theorem RdAt.lt' {w:World} {R B:Nat} {v:Value} {c:Cur} {l:List Tm} (h:RdAt w R B v c l):R < w.heap.size:=(Array.getElem?_eq_some_iff.1 h.blk).1
theorem RdAt.apart {w:World} {R B:Nat} {v:Value} {c:Cur} {l:List Tm} (h:RdAt w R B v c l) {i:Nat} (hi:w.heap.size ≤ i):i ≠ B ∧ i ≠ R ∧ v.ownBlock ≠ some i:=by
 have h1:=h.lt'
 have h2:=h.lt
 refine ⟨by omega,by omega,fun e => ?_⟩
 have:=(own_block_bd h.own i e).2
 omega
theorem RdAt.keep {w w':World} {R B:Nat} {v:Value} {c:Cur} {l:List Tm} (h:RdAt w R B v c l) (hb:Below w.heap.size w w'):RdAt w' R B v c l :=
 ⟨h.cur.keep hb,block_on h.blk hb,own_keep h.own hb,h.lt,h.few,h.small⟩
theorem RdAt.but {w w':World} {R B:Nat} {v:Value} {c c':Cur} {l:List Tm} (h:RdAt w R B v c l) (hb:w.grownBy w' (some B)) (hc:CurAt w' B c'):RdAt w' R B v c' l :=
 ⟨hc,(hb.block R h.lt' (by have:=h.lt; simp; omega)).trans h.blk,own_but h.own hb (by have:=h.lt; omega),h.lt,h.few,h.small⟩
theorem RdAt.alloc {w:World} {R B:Nat} {v:Value} {c:Cur} {l:List Tm} (h:RdAt w R B v c l) (o:Obj):RdAt (w.alloc o) R B v c l:=h.keep ((Below.refl _ _).alloc (Nat.le_refl _) _)
theorem RdAt.drew {w:World} {R B:Nat} {v:Value} {c:Cur} {l:List Tm} (h:RdAt w R B v c l):RdAt w.drew R B v c l:=⟨h.cur.drew,h.blk,h.own,h.lt,h.few,h.small⟩
def RetRd (W:World) (R B:Nat) (v:Value) (c:Cur) (l:List Tm) (e:Ending) (w':World):Prop:=∃ v',e = .returned (.tuple #[]) ∧ RdAt w' R B v' c l ∧ Hold R B v v' W w'
def ins (l:List Tm) (i:Nat) (t:Tm):List Tm:=if l.length ≤ 40 then l.take i ++ t :: l.drop i else l
theorem hold_ins {w w1 x:World} {R B:Nat} {v v':Value} {c:Cur} {l:List Tm} {i:Nat} {t:Tm} {n:Nat} (h:RdAt w R B v c l) (hn:n = l.length) (h40:n ≤ 40) (ht:t.s.size ≤ 9223372036854775807) (hb:Below w.heap.size w w1)
 (hown:x.ownsRow (R + 1) 105 3 v' (n + 1) (tmsV (l.take i ++ t :: l.drop i))) (hg:w1.grownBy x v.ownBlock) (hr:v'.ownBlock = v.ownBlock ∨ v'.ownBlock = some w1.heap.size) :
 RdAt (x.setCell ⟨R,1,none⟩ v') R B v' c (ins l i t) ∧ Hold R B v v' w (x.setCell ⟨R,1,none⟩ v') ∧ x.heap[R]? = some (.cells #[.pointer (some ⟨B,0,none⟩),v] 227 (0,0)):=by
 have hRlt:=h.lt'
 have hBR:=h.lt
 have hz1:=hb.size
 have hz2:=hg.size
 have hap:∀ j,j ≤ R → v.ownBlock ≠ some j:=fun j hj e => by have:=(own_block_bd h.own j e).1; omega
 have hold:∀ j,j < w.heap.size → v.ownBlock ≠ some j → x.heap[j]? = w.heap[j]?:=fun j hj hne => (hg.block j (by omega) (fun e => hne e.symm)).trans (hb.block j hj)
 have hxR:=(hold R hRlt (hap R (Nat.le_refl _))).trans h.blk
 have hlen:(l.take i ++ t :: l.drop i).length = n + 1:=by
  simp only [List.length_append,List.length_take,List.length_cons,List.length_drop]; omega
 have hins:ins l i t = l.take i ++ t :: l.drop i:=if_pos (by omega)
 have hset:∀ j,j ≠ R → (x.setCell ⟨R,1,none⟩ v').heap[j]? = x.heap[j]?:=fun j hj => Below.heap_setCell _ _ _ _ hj
 have hown':(x.setCell ⟨R,1,none⟩ v').ownsRow (R + 1) 105 3 v' (n + 1) (tmsV (l.take i ++ t :: l.drop i)) :=
  own_but hown (B:=R) (but_set (but_refl _ _) 1 _) (by omega)
 refine ⟨⟨?_,block_setCell' hxR 1 v',by rw [hins,hlen]; exact hown',h.lt,by rw [hins,hlen]; omega,?_⟩,⟨?_,?_,?_,?_,fun j hj h1 h2 h3 => (hset j h2).trans (hold j hj h3),?_⟩,hxR⟩
 rotate_left
 ·rw [hins]
  intro u hu
  rcases List.mem_append.1 hu with hu | hu
  ·exact h.small u (List.mem_of_mem_take hu)
  ·rcases List.mem_cons.1 hu with rfl | hu
   ·exact ht
   ·exact h.small u (List.mem_of_mem_drop hu)
 rotate_right
 ·refine h.cur.upto (by simp [World.setCell]; omega) (fun j hj => (hset j (by omega)).trans (hold j (by omega) (hap j (by omega))))
 ·exact hg.os.trans hb.os
 ·exact hg.tape.trans hb.tape
 ·exact hg.output.trans hb.output
 ·simp [World.setCell]; omega
 ·rcases hr with hr | hr
  ·exact .inl hr
  ·exact .inr (fun j hj => by rw [hr] at hj; cases hj; omega)
abbrev tmO (t:Tm):Obj:=.cells #[.int .i64 t.op,.int .i64 t.n,.string t.s] 105
set_option maxHeartbeats 4000000 in
theorem insert_at (R B:Nat) (v:Value) (c:Cur) (l:List Tm) (i:Nat) (t:Tm) (w:World) (h:RdAt w R B v c l) (hi:i ≤ l.length) (ht:t.s.size ≤ 9223372036854775807) :
 Calls Tryz.prog 197 #[.pointer (some ⟨R,0,none⟩),.int .i64 i,.agg #[.int .i64 t.op,.int .i64 t.n,.string t.s]] w (RetRd w R B v c (ins l i t)):=by
 obtain ⟨A,cp,rfl⟩:=own_shape h.own
 obtain ⟨n,hn⟩:∃ n,n = l.length:=⟨_,rfl⟩
 have HR:=Lib.hid (h.alloc (tmO t)).blk
 obtain ⟨r0,r1⟩:=cells_2 HR.out
 obtain ⟨_,r2⟩:=cells_2 ((h.alloc (tmO t)).alloc (tmO t)).blk
 rw [← hn] at r1 r2 hi ⊢
 obtain ⟨b0,b1,b2⟩:=cells_3 (heap_alloc_new w (tmO t))
 by_cases h40:n ≤ 40
 ·have hI:(n:Int) ≤ 40:=by omega
  have h41:n < 41:=by omega
  have HINS:Hid (Calls Tryz.prog 206 #[.slice A n cp,.int .i64 i,.slice (some ⟨w.heap.size + 1,0,none⟩) 1 1] (((w.alloc (tmO t)).alloc (tmO t)).drew) (InsPost (((w.alloc (tmO t)).alloc (tmO t)).drew) (R + 1) (.slice A n cp) (n + 1) (l.take i ++ t :: l.drop i))):=Lib.hid (by
   have h2:=((h.alloc (tmO t)).alloc (tmO t)).drew
   have ho:=h2.own
   rw [← hn] at ho
   refine insert_any (R + 1) _ n i l t (w.heap.size + 1) _ hn (by omega) hi ho (by have:=h2.lt'; omega) ?_ ?_
   ·have:=heap_alloc_new (w.alloc (tmO t)) (tmO t)
    rwa [World.size_alloc] at this
   ·have:=(h.apart (i:=w.heap.size + 1) (by omega)).2.2
    rw [← hn] at this
    exact this)
  have HH:=Lib.hid h
  have HTS:=Lib.hid ht
  have HN:=Lib.hid hn
  have HB:Hid (Below w.heap.size w (((w.alloc (tmO t)).alloc (tmO t)).drew)):=Lib.hid (((Below.refl _ _).alloc (Nat.le_refl _) _).alloc (by simp) _).drew
  clear h hn ht
  go_enter Tryz.func197,Tryz.ntmps197
  go_wp2_with fail
  go_region_law (go_simp; go_at_call 206; (with_reducible refine HINS.out.mono ?_); rintro e x ⟨v',he,hown',hgr',hrow'⟩; obtain ⟨A2,cp2,rfl⟩:=own_shape hown'; subst he; (have HE:=Lib.hid (hold_ins HH.out HN.out h40 HTS.out HB.out hown' (by rw [← HN.out]; exact hgr') (by rw [← HN.out]; exact hrow'))); clear hown' hgr' hrow'; obtain ⟨s0,s1⟩:=cells_2 HE.out.2.2; obtain ⟨f0,f1⟩:=free_2 HE.out.2.2)
  all_goals
   go_wp2_with fail
   go_end0
   have hnl:=HN.out
   subst hnl
   exact ⟨_,rfl,HE.out.1,HE.out.2.1⟩
 ·have hI:¬ (n:Int) ≤ 40:=by omega
  have HF:Hid (ins l i t = l):=Lib.hid (if_neg (by omega))
  have HH:=Lib.hid h
  have HN:=Lib.hid hn
  clear h hn ht
  go_enter Tryz.func197,Tryz.ntmps197
  go_wp2_with fail
  go_end0
  have hnl:=HN.out
  subst hnl
  rw [HF.out]
  exact ⟨_,rfl,HH.out.alloc _,Hold.of_below _ ((Below.refl _ _).alloc (Nat.le_refl _) _)⟩
end Go.Proofs.YtjfghaohogcfbaaGreatDoor