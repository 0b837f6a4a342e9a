/- CurCalls, TermArity, TermMay, ExprRdr, ExprSigns, TermEnd, TermRefEnd, RowI, joined. -/
import Derived.Test.YtbdalbpackfejaaGreatDoorMFormatOf03
set_option maxHeartbeats 16000000
set_option maxRecDepth 100000
namespace Go.Proofs.YtbdalbpackfejaaGreatDoor
section
open Go.RowKit CurSpec NamesSpec ValSpec
set_option maxRecDepth 100000
def RetAtB (W:World) (B:Nat) (c:Cur) (b:Bool) (e:Ending) (w':World):Prop:=e = .returned (.bool b)/\CurAt w' B c/\W.grownBy w' (some B)
def RetAtS (W:World) (B:Nat) (c:Cur) (s:ByteArray) (e:Ending) (w':World):Prop:=e = .returned (.string s)/\CurAt w' B c/\W.grownBy w' (some B)
def RetAtN (W:World) (B:Nat) (c:Cur) (n:Int) (e:Ending) (w':World):Prop:=e = .returned (.int .i64 n)/\CurAt w' B c/\W.grownBy w' (some B)
theorem take_at (B:Nat) (c:Cur) (k:Int) (s:ByteArray) (w:World) (h:CurAt w B c):Calls Tryz.prog 46 #[.pointer (some ⟨B,0,none⟩),.int .i64 k,.string s] w (RetAtB w B (take c k s) (isB c k s)):=by
 have HI:=qh (is_at B c k s w h);have HC:=qh h;clear h
 by_cases hb:isB c k s=true
 ·have HT:Hid (take c k s = on c):=qh (by unfold take; rw [if_pos hb])
  rw [hb] at HI ⊢;clear hb;go_enter Tryz.func46,Tryz.ntmps46;go_wp2_with (go_at_call 89; go_fit HI.o);rintro e x2 ⟨rfl,hb2⟩;have HB:=qh hb2;clear hb2;go_wp2_with (go_at_call 80; go_fit (Qgb _ _ _ (HC.o.keep HB.o)));rintro e x3 ⟨rfl,hC3,hb3⟩;have HE:=qh (And.intro hC3 (Qt (QH HB.o) hb3));clear hC3 hb3;go_wp2_with fail;go_ret;exact ⟨rfl,by rw [HT.o]; exact HE.o.1,HE.o.2⟩
 ·have HT:Hid (take c k s = c):=qh (by unfold take; rw [if_neg hb])
  have hb':isB c k s=false:=by simpa using hb
  rw [hb'] at HI ⊢;clear hb hb';go_enter Tryz.func46,Tryz.ntmps46;go_wp2_with (go_at_call 89; go_fit HI.o);rintro e x2 ⟨rfl,hb2⟩;have HB:=qh hb2;clear hb2;go_wp2_with fail;go_ret;exact ⟨rfl,by rw [HT.o]; exact HC.o.keep HB.o,QH HB.o⟩
theorem Jl (B:Nat) (c:Cur) (k:Int) (s:ByteArray) (w:World) (h:CurAt w B c):Calls Tryz.prog 21 #[.pointer (some ⟨B,0,none⟩),.int .i64 k,.string s] w (RetAt w B (want c k s)):=by
 have HI:=qh (take_at B c k s w h);clear h
 by_cases hb:isB c k s=true
 ·have HT:Hid (want c k s = take c k s):=qh (by unfold want take; rw [if_pos hb,if_pos hb])
  rw [hb] at HI;clear hb;go_enter Tryz.func21,Tryz.ntmps21;go_wp2_with (go_at_call 46; go_fit HI.o);rintro e x2 ⟨rfl,hC2,hb2⟩;have HE:=qh (And.intro hC2 hb2);clear hC2 hb2;go_wp2_with fail
  go_end0
  exact ⟨rfl,by rw [HT.o]; exact HE.o.1,HE.o.2⟩
 ·have HT:Hid (want c k s = fail (take c k s) 2):=qh (by unfold want take; rw [if_neg hb,if_neg hb])
  have hb':isB c k s=false:=by simpa using hb
  rw [hb'] at HI;clear hb hb';go_enter Tryz.func21,Tryz.ntmps21;go_wp2_with (go_at_call 46; go_fit HI.o);rintro e x2 ⟨rfl,hC2,hb2⟩;have HE:=qh (And.intro hC2 hb2);clear hC2 hb2;go_wp2_with (go_at_call 47; go_fit (Zg _ _ _ _ HE.o.1));rintro e x3 ⟨rfl,hC3,hb3⟩;have HE3:=qh (And.intro hC3 (Qt HE.o.2 hb3));clear hC3 hb3;go_wp2_with fail
  go_end0
  exact ⟨rfl,by rw [HT.o]; exact HE3.o.1,HE3.o.2⟩
theorem Qdm {c:Cur} {k:Int} (h:(next c).k = k) (hk:k ≠ 0):c.bad = 0:=by
 rcases Decidable.em (c.bad=0) with h0 | h0
 ·exact h0
 ·rw [J8 h0] at h
  exact absurd h.symm hk
theorem nis_say {s:ByteArray} {b:Bool} (hb:isName s.data.toList = b) (hs:s.size <= 9223372036854775807) (w:World):Calls Tryz.prog 79 #[.string s] w (RetBool w b):=by
 subst hb;exact QeH s w hs
theorem Zj (B:Nat) (c:Cur) (ok:Ok c) (w:World) (h:CurAt w B c):Calls Tryz.prog 41 #[.pointer (some ⟨B,0,none⟩)] w (RetAtS w B (nameC c) (nameS c)):=by
 have HN:=qh (Qbu B c w h);have HC:=qh h;clear h;obtain ⟨t,ht⟩:∃ t,t=next c:=⟨_,rfl⟩;have HI:=qh (fun b hb W=>nis_say (s:=(next c).t) (b:=b) hb ok.next W);rw [<- ht] at HN HI
 by_cases h1:t.k=1
 ·have e1:(t.k != 1) = false:=by simpa using h1
  by_cases h2:isName t.t.data.toList=true
  ·have hB:nameB c = true:=QcN (Qdm (k:=1) (by rw [<- ht]; exact h1) (by decide)) (by rw [<- ht]; exact h1) (by rw [<- ht]; exact h2)
   have HS:Hid (nameC c=on c/\nameS c=t.t):=qh (by unfold nameC nameS; rw [if_pos hB,if_pos hB,ht]; exact ⟨rfl,rfl⟩);have HI2:=qh (HI.o true h2);clear HI hB ht h1 h2;go_enter Tryz.func41,Tryz.ntmps41;go_wp2_with (go_at_call 78; go_fit HN.o);rintro e x2 ⟨rfl,hb2⟩;have HB:=qh hb2;clear hb2;go_wp2_with (go_at_call 79; go_fit (HI2.o _));rintro e x3 ⟨rfl,hb3⟩;obtain ⟨k3,hB3,hz3⟩:=Qy hb3;have HB3:=qh (Qa HB.o hB3);have HK3:=qh k3;obtain ⟨t0,t1,t2,t3⟩:=Qi k3;clear hb3 hB3 k3;go_wp2_with (go_at_call 80; go_fit (Qgb _ _ _ (HC.o.keep HB3.o)));rintro e x4 ⟨rfl,hC4,hb4⟩;have k4:=(hb4.block _ (Array.getElem?_eq_some_iff.1 HK3.o).1 (by have:=HC.o.lt; have:=HB.o.size; simp; omega)).trans HK3.o;clear t0 t1 t2 t3;obtain ⟨t0,t1,t2,t3⟩:=Qi k4;have HE:=qh (And.intro hC4 (Qt (QH HB3.o) hb4));clear hC4 hb4 k4;go_wp2_with fail;go_ret;exact ⟨by rw [HS.o.2]; rfl,by rw [HS.o.1]; exact HE.o.1,HE.o.2⟩
  ·have h2':isName t.t.data.toList = false:=by simpa using h2
   have hB:nameB c=false:=Qcy (by rw [<- ht]; exact h2');have HS:Hid (nameC c=fail c 2/\nameS c=⟨#[]⟩):=qh (by unfold nameC nameS; rw [hB]; exact ⟨rfl,rfl⟩);have HI2:=qh (HI.o false h2');clear HI hB ht h1 h2 h2';go_enter Tryz.func41,Tryz.ntmps41;go_wp2_with (go_at_call 78; go_fit HN.o);rintro e x2 ⟨rfl,hb2⟩;have HB:=qh hb2;clear hb2;go_wp2_with (go_at_call 79; go_fit (HI2.o _));rintro e x3 ⟨rfl,hb3⟩;obtain ⟨k3,hB3,hz3⟩:=Qy hb3;have HB3:=qh (Qa HB.o hB3);clear hb3 hB3 k3;go_wp2_with (go_at_call 47; go_fit (Zg _ _ _ _ (HC.o.keep HB3.o)));rintro e x4 ⟨rfl,hC4,hb4⟩;have HE:=qh (And.intro hC4 (Qt (QH HB3.o) hb4));clear hC4 hb4;go_wp2_with fail;go_ret;exact ⟨by rw [HS.o.2]; rfl,by rw [HS.o.1]; exact HE.o.1,HE.o.2⟩
 ·have e1:(t.k != 1) = true:=by simpa using h1
  have hB:nameB c=false:=Qcu (by rw [<- ht]; exact h1);have HS:Hid (nameC c=fail c 2/\nameS c=⟨#[]⟩):=qh (by unfold nameC nameS; rw [hB]; exact ⟨rfl,rfl⟩);clear HI hB ht h1;go_enter Tryz.func41,Tryz.ntmps41;go_wp2_with (go_at_call 78; go_fit HN.o);rintro e x2 ⟨rfl,hb2⟩;have HB:=qh hb2;clear hb2;go_wp2_with (go_at_call 47; go_fit (Zg _ _ _ _ ((HC.o.keep HB.o).alloc _)));rintro e x4 ⟨rfl,hC4,hb4⟩;have HE:=qh (And.intro hC4 (Qt (QH (HB.o.alloc HB.o.size _)) hb4));clear hC4 hb4;go_wp2_with fail;go_ret;exact ⟨by rw [HS.o.2]; rfl,by rw [HS.o.1]; exact HE.o.1,HE.o.2⟩
def numR (k:Int) (l:List UInt8) (m:Int):Int × Int:=if k=2 then (if getE l=0/\m<getN l then (0,3) else (getN l,getE l)) else (0,2)
def RetPair (W:World) (r:Int × Int) (e:Ending) (w':World):Prop:=e = .returned (.tuple #[.int .i64 r.1,.int .i64 r.2])/\Below W.heap.size W w'
theorem get_say {s:ByteArray} {n er:Int} (hn:getN s.data.toList = n) (he:getE s.data.toList = er) (hs:s.size <= 9223372036854775807) (w:World):Calls Tryz.prog 181 #[.string s] w (RetGet w n er):=by
 subst hn he;exact get_any s w hs
theorem pnum_any (k:Int) (s:ByteArray) (l c m:Int) (w:World) (hs:s.size <= 9223372036854775807):Calls Tryz.prog 173 #[.agg #[.int .i64 k,.string s,.int .i64 l,.int .i64 c],.int .i64 m] w (RetPair w (numR k s.data.toList m)):=by
 by_cases hk:k=2
 ·have e1:(k != 2) = false:=by simpa using hk
  obtain ⟨N,hN⟩:∃ N,N=getN s.data.toList:=⟨_,rfl⟩;obtain ⟨E,hE⟩:∃ E,E=getE s.data.toList:=⟨_,rfl⟩;have HG:=qh (fun W=>get_say hN.symm hE.symm hs W)
  by_cases h2:E=0
  ·by_cases h3:m < N
   ·have HV:Hid (numR k s.data.toList m = (0,3)):=qh (by unfold numR; rw [if_pos hk,<- hN,<- hE,if_pos ⟨h2,h3⟩])
    have e2:(E==0)=true:=by simpa using h2
    clear hN hE hk h2;go_enter Tryz.func173,Tryz.ntmps173;go_wp2_with (go_at_call 181; go_fit (HG.o _));rintro e w' ⟨rfl,rfl⟩;go_wp2_with fail
    go_ret2
    exact ⟨by rw [HV.o]; rfl,(Below.refl _ _).alloc (Nat.le_refl _) _⟩
   ·have HV:Hid (numR k s.data.toList m = (N,E)):=qh (by unfold numR; rw [if_pos hk,<- hN,<- hE,if_neg (fun h => h3 h.2)])
    have e2:(E==0)=true:=by simpa using h2
    have e3:decide (m<N)=false:=by simpa using h3
    clear hN hE hk h2 h3;go_enter Tryz.func173,Tryz.ntmps173;go_wp2_with (go_at_call 181; go_fit (HG.o _));rintro e w' ⟨rfl,rfl⟩;go_wp2_with fail
    go_ret2
    exact ⟨by rw [HV.o]; rfl,(Below.refl _ _).alloc (Nat.le_refl _) _⟩
  ·have HV:Hid (numR k s.data.toList m = (N,E)):=qh (by unfold numR; rw [if_pos hk,<- hN,<- hE,if_neg (fun h => h2 h.1)])
   have e2:(E==0)=false:=by simpa using h2
   clear hN hE hk h2;go_enter Tryz.func173,Tryz.ntmps173;go_wp2_with (go_at_call 181; go_fit (HG.o _));rintro e w' ⟨rfl,rfl⟩;go_wp2_with fail
   go_ret2
   exact ⟨by rw [HV.o]; rfl,(Below.refl _ _).alloc (Nat.le_refl _) _⟩
 ·have e1:(k != 2) = true:=by simpa using hk
  have HV:Hid (numR k s.data.toList m=(0,2)):=qh (by unfold numR; rw [if_neg hk]);clear hk;go_enter Tryz.func173,Tryz.ntmps173;go_wp2_with fail
  go_ret2
  exact ⟨by rw [HV.o]; rfl,(Below.refl _ _).alloc (Nat.le_refl _) _⟩
theorem numR_is (c:Cur) (m:Int):(numR (next c).k (next c).t.data.toList m).2 = numE c m /\ (numE c m = 0 -> (numR (next c).k (next c).t.data.toList m).1 = numN c m):=by
 by_cases hk:(next c).k=2
 ·have h0:=Qdm hk (by decide)
  by_cases hE:getE (next c).t.data.toList=0
  ·by_cases hm:m < getN (next c).t.data.toList
   ·have e1:numR (next c).k (next c).t.data.toList m = (0,3):=by unfold numR; rw [if_pos hk,if_pos ⟨hE,hm⟩]
    rw [e1,QfQ h0 hk hE hm];exact ⟨rfl,fun h=>absurd h (by decide)⟩
   ·have e1:numR (next c).k (next c).t.data.toList m = (getN (next c).t.data.toList,getE (next c).t.data.toList):=by unfold numR; rw [if_pos hk,if_neg (fun h => hm h.2)]
    have e2:=Qe5 h0 hk hE hm;rw [e1,e2];exact ⟨hE,fun _=>by unfold numN; rw [if_pos e2]⟩
  ·have e1:numR (next c).k (next c).t.data.toList m = (getN (next c).t.data.toList,getE (next c).t.data.toList):=by unfold numR; rw [if_pos hk,if_neg (fun h => hE h.1)]
   rw [e1,QhU h0 hk hE];exact ⟨rfl,fun h=>absurd h hE⟩
 ·have e1:numR (next c).k (next c).t.data.toList m = (0,2):=if_neg hk
  rw [e1,Qfw hk];exact ⟨rfl,fun h=>absurd h (by decide)⟩
theorem QcI (B:Nat) (c:Cur) (m:Int) (ok:Ok c) (w:World) (h:CurAt w B c):Calls Tryz.prog 152 #[.pointer (some ⟨B,0,none⟩),.int .i64 m] w (RetAtN w B (numC c m) (numN c m)):=by
 have HN:=qh (Qbu B c w h);have HC:=qh h;clear h;obtain ⟨v1,v2⟩:=numR_is c m;have HP:=qh (fun W=>pnum_any (next c).k (next c).t (next c).l (next c).c m W ok.next);obtain ⟨t,ht⟩:∃ t,t=next c:=⟨_,rfl⟩;rw [<- ht] at HN HP v1 v2;obtain ⟨N,E,hr⟩:∃ N E,numR t.k t.t.data.toList m=(N,E):=⟨_,_,rfl⟩;rw [hr] at HP v1 v2;simp only at v1 v2;clear hr ht
 by_cases hE:E=0
 ·have e1:(E != 0) = false:=by simpa using hE
  have HS:Hid (numC c m=on c/\N=numN c m):=qh ⟨by unfold numC; rw [if_pos (by rw [<- v1]; exact hE)],v2 (by rw [<- v1]; exact hE)⟩;clear v1 v2 hE;go_enter Tryz.func152,Tryz.ntmps152;go_wp2_with (go_at_call 78; go_fit HN.o);rintro e x2 ⟨rfl,hb2⟩;have HB:=qh hb2;clear hb2;go_wp2_with (go_at_call 173; go_fit (HP.o _));rintro e x3 ⟨rfl,hb3⟩;have HB3:=qh (Qa HB.o hb3);clear hb3;go_wp2_with (go_at_call 80; go_fit (Qgb _ _ _ (HC.o.keep HB3.o)));rintro e x4 ⟨rfl,hC4,hb4⟩;have HE:=qh (And.intro hC4 (Qt (QH HB3.o) hb4));clear hC4 hb4;go_wp2_with fail;go_ret;exact ⟨Qo HS.o.2,by rw [HS.o.1]; exact HE.o.1,HE.o.2⟩
 ·have e1:(E != 0) = true:=by simpa using hE
  have HS:Hid (numC c m = fail c E /\ (0:Int) = numN c m):=qh (by
   obtain ⟨q1,q2⟩:=QaY (m:=m) v1.symm hE;exact ⟨q1,q2.symm⟩)
  clear v1 v2 hE;go_enter Tryz.func152,Tryz.ntmps152;go_wp2_with (go_at_call 78; go_fit HN.o);rintro e x2 ⟨rfl,hb2⟩;have HB:=qh hb2;clear hb2;go_wp2_with (go_at_call 173; go_fit (HP.o _));rintro e x3 ⟨rfl,hb3⟩;have HB3:=qh (Qa HB.o hb3);clear hb3;go_wp2_with (go_at_call 47; go_fit (Zg _ _ _ _ (HC.o.keep HB3.o)));rintro e x4 ⟨rfl,hC4,hb4⟩;have HE:=qh (And.intro hC4 (Qt (QH HB3.o) hb4));clear hC4 hb4;go_wp2_with fail;go_ret;exact ⟨Qo HS.o.2,by rw [HS.o.1]; exact HE.o.1,HE.o.2⟩
end
section
open Go.RowKit TermSpec
set_option maxRecDepth 100000
theorem QfY (o:Int) (w:World):Calls Tryz.prog 196 #[.int .i64 o] w (SameI w (ar o)):=by
 go_enter Tryz.func196,Tryz.ntmps196;go_wp2_with fail
 all_goals
  go_ret;exact ⟨Qo (by simp_all [ar]),rfl⟩
theorem Qji (o:Int) (h:o < 1 \/ 20 < o) (w:World):Calls Tryz.prog 170 #[.int .i64 o] w (RetI w (ar o)):=by
 have HE:=qh (ar_out h)
 by_cases h1:o<1
 ·clear h
  go_enter Tryz.func170,Tryz.ntmps170;go_wp2_with fail;go_ret;exact ⟨Qo HE.o.symm,Below.refl _ _⟩
 ·have h2:20 < o:=by omega
  clear h;go_enter Tryz.func170,Tryz.ntmps170;go_wp2_with fail;go_ret;exact ⟨Qo HE.o.symm,Below.refl _ _⟩
theorem arl_at (n:Nat) (h1:1 <= n) (h:n < 21):([Value.int .i64 0,Value.int .i64 0,Value.int .i64 0,Value.int .i64 1,Value.int .i64 2,Value.int .i64 2,Value.int .i64 2,Value.int .i64 2,Value.int .i64 2,Value.int .i64 0,Value.int .i64 0,Value.int .i64 0,Value.int .i64 1,Value.int .i64 2,Value.int .i64 2,Value.int .i64 2,Value.int .i64 2,Value.int .i64 2,Value.int .i64 2,Value.int .i64 2,Value.int .i64 2])[n] = .int .i64 (ar n):=by
 have:n=1\/n=2\/n=3\/n=4\/n=5\/n=6\/n=7\/n=8\/n=9\/n=10\/n=11\/n=12\/n=13\/n=14\/n=15\/n=16\/n=17\/n=18\/n=19\/n=20:=by omega
 rcases this with rfl | rfl | rfl | rfl | rfl | rfl | rfl | rfl | rfl | rfl | rfl | rfl | rfl | rfl | rfl | rfl | rfl | rfl | rfl | rfl<;>rfl
theorem rarity_in (n:Nat) (h1:1 <= n) (h:n <= 20) (w:World):Calls Tryz.prog 170 #[.int .i64 n] w (RetI w (ar n)):=by
 have h21:n<21:=by omega
 have h21':(n:Int)<21:=by omega
 have h20:¬ 20<(n:Int):=by omega
 have HE:=qh (arl_at n h1 h21);go_enter Tryz.func170,Tryz.ntmps170;go_wp2_with fail;go_ret;exact ⟨congrArg Ending.returned HE.o,(Below.refl _ _).alloc (Nat.le_refl _) _⟩
theorem Qek (o:Int) (w:World):Calls Tryz.prog 170 #[.int .i64 o] w (RetI w (ar o)):=by
 by_cases h:o<1\/20<o
 ·exact Qji o h w
 ·obtain ⟨n,rfl⟩:=Int.eq_ofNat_of_zero_le (show 0 <= o by omega)
  exact rarity_in n (by omega) (by omega) w
end
section
open Go.RowKit TermSpec NamesSpec
set_option maxRecDepth 100000
theorem Qj {w:World} {b:Nat} {T:TypeId} {x0 x1 x2:Value} (h:w.heap[b]? = some (.cells #[x0,x1,x2] T (0,0))):w.cell? ⟨b,0,none⟩ = some x0 /\ w.cell? ⟨b,1,none⟩ = some x1 /\ w.cell? ⟨b,2,none⟩ = some x2 :=
 ⟨Qb h (i:=0) rfl,Qb h (i:=1) rfl,Qb h (i:=2) rfl⟩
theorem JW {w:World} {b:Nat} {T:TypeId} {cs:Array Value} (h:w.heap[b]? = some (.cells cs T (0,0))):w.frozen? ⟨b,0,none⟩ = false /\ w.frozen? ⟨b,1,none⟩ = false /\ w.frozen? ⟨b,2,none⟩ = false :=
 ⟨Qf h 0,Qf h 1,Qf h 2⟩
theorem Qci (a b c d:Int) (s u:ByteArray) (w:World):(Op.equalIn 10000 123 (.agg #[.int .i64 a,.int .i64 b,.string s]) (.agg #[.int .i64 c,.int .i64 d,.string u])).run Tryz.prog w = .ok (a == c && (b == d && s.toList == u.toList)) w:=by
 have u3:=Tryz.underlying3;have u9:=Tryz.underlying9;have hS:Tryz.prog.underlying 123=some (.struct (Tryz.prog.fieldsOf 123)):=by kernel_rfl
 rw [show (10000:Nat)=9999+1 from rfl,run_equalIn_agg w 9999 123 _ _ hS (by kernel_rfl)];simp only [Program.fieldsOf,Tryz.underlying123]
 go_simp
 by_cases h1:a=c<;>by_cases h2:b=d<;>by_cases h3:s.toList=u.toList<;>simp [h1,h2,h3]
theorem QbN (a:Int) (w:World):(Instr.build 123 #[(0,.int .i64 a)]).run Tryz.prog w = .ok (.agg #[.int .i64 a,.int .i64 0,.string ⟨#[]⟩]) w:=run_build w 123 _ _ (by kernel_rfl)
theorem may_one {o n:Int} {s:ByteArray} (h1:o = 1):mayB ⟨o,n,s⟩ = (decide (0 <= n) && decide (n <= 1000000) && decide (s.size = 0)):=by
 unfold mayB;rw [if_pos h1,if_neg (by show ¬ (o=2\/o=11); omega)]
theorem JS {o n:Int} {s:ByteArray} (h1:o = 2 \/ o = 11):mayB ⟨o,n,s⟩ = (decide (n = 0) && isName s.data.toList):=by
 unfold mayB;rw [if_neg (by show ¬ o=1; omega),if_pos h1]
theorem may_else {o n:Int} {s:ByteArray} (h1:¬ o = 1) (h2:¬ (o = 2 \/ o = 11)):mayB ⟨o,n,s⟩ = (decide (n = 0) && decide (s.size = 0)):=by
 unfold mayB;rw [if_neg h1,if_neg h2]
theorem Qia (n:Int):(n==0)=decide (n=0):=by rw [Bool.eq_iff_iff]; simp
theorem nil_iff (s:ByteArray):(s.toList == []) = decide (s.size = 0):=by
 rw [Bool.eq_iff_iff,decide_eq_true_iff,beq_iff_eq,QcK];exact List.length_eq_zero_iff.symm
theorem may_any1 (o n:Int) (s:ByteArray) (w:World) (h1:o = 1):Calls Tryz.prog 176 #[.agg #[.int .i64 o,.int .i64 n,.string s]] w (RetB w (mayB ⟨o,n,s⟩)):=by
 have HE:=qh (may_one (n:=n) (s:=s) h1);have heq:=Qci;have hbd:=QbN;subst h1
 by_cases hn:n<0
 ·go_enter Tryz.func176,Tryz.ntmps176
  go_wp2_with fail;go_ret;exact ⟨Qg (by rw [HE.o,decide_eq_false (show ¬ 0<=n by omega)]; rfl),(Below.refl _ _).alloc (Nat.le_refl _) _⟩
 by_cases hn2:1000000<n
 ·go_enter Tryz.func176,Tryz.ntmps176
  go_wp2_with fail;go_ret;exact ⟨Qg (by rw [HE.o,decide_eq_false (show ¬ n<=1000000 by omega)]; simp),(Below.refl _ _).alloc (Nat.le_refl _) _⟩
 ·have HS:=qh (nil_iff s)
  go_enter Tryz.func176,Tryz.ntmps176;go_wp2_with fail;go_ret;exact ⟨Qg (by rw [HE.o,decide_eq_true (show 0<=n by omega),decide_eq_true (show n<=1000000 by omega),<- HS.o]; simp),((Below.refl _ _).alloc (Nat.le_refl _) _)⟩
theorem may_any0 (o n:Int) (s:ByteArray) (w:World) (h1:¬ o = 1) (h2:¬ (o = 2 \/ o = 11)):Calls Tryz.prog 176 #[.agg #[.int .i64 o,.int .i64 n,.string s]] w (RetB w (mayB ⟨o,n,s⟩)):=by
 have HE:=qh (may_else (n:=n) (s:=s) h1 h2);have heq:=Qci;have hbd:=QbN;have g1:(o==1)=false:=by simp [h1]
 have g2:(o==2)=false:=by simp; omega
 have g3:(o==11)=false:=by simp; omega
 have HS:=qh (nil_iff s);clear h1 h2;go_enter Tryz.func176,Tryz.ntmps176;go_wp2_with fail;go_ret;exact ⟨Qg (by rw [HE.o,<- HS.o,<- Qia]; simp),((Below.refl _ _).alloc (Nat.le_refl _) _)⟩
theorem may_any2 (o n:Int) (s:ByteArray) (w:World) (hs:s.size <= 9223372036854775807) (h2:o = 2 \/ o = 11):Calls Tryz.prog 176 #[.agg #[.int .i64 o,.int .i64 n,.string s]] w (RetB w (mayB ⟨o,n,s⟩)):=by
 have HE:=qh (JS (n:=n) (s:=s) h2);have heq:=Qci;have hbd:=QbN;have HC:Hid (∀ w,Calls Tryz.prog 79 #[.string s] w (RetB w (isName s.data.toList))):=qh (fun w=>QeH s w hs);obtain ⟨q,hq⟩:∃ q,q=isName s.data.toList:=⟨_,rfl⟩;rw [<- hq] at HC HE;clear hq;have g1:(o==1)=false:=by simp; omega
 cases q with
 | false =>
   rcases h2 with rfl | rfl
   all_goals
    go_enter Tryz.func176,Tryz.ntmps176;go_wp2_with (go_at_call 79; go_fit (HC.o _));rintro e w1 ⟨rfl,hb1⟩;go_wp2_with fail;go_ret;exact ⟨Qg (by rw [HE.o]; simp),Qa ((Below.refl _ _).alloc (Nat.le_refl _) _) (hb1.mono (by simp))⟩
 | true =>
   rcases h2 with rfl | rfl
   all_goals
    go_enter Tryz.func176,Tryz.ntmps176;go_wp2_with (go_at_call 79; go_fit (HC.o _));rintro e w1 ⟨rfl,hb1⟩;have hbl:=(hb1.block w.heap.size (by simp)).trans (heap_alloc_new w _);obtain ⟨c0,c1,c2⟩:=Qj hbl;obtain ⟨f0,f1,f2⟩:=JW hbl;have HB:Hid (Below w.heap.size w w1):=qh (((Below.refl _ _).alloc (Nat.le_refl _) _).trans (hb1.mono (by simp)));have HBL:=qh hbl;clear hb1 hbl;go_wp2_with fail;go_ret;exact ⟨Qg (by rw [HE.o,<- Qia]; simp),HB.o.setCell (Nat.le_refl _) _⟩
theorem may_any (t:Tm) (w:World) (hs:t.s.size <= 9223372036854775807):Calls Tryz.prog 176 #[.agg #[.int .i64 t.op,.int .i64 t.n,.string t.s]] w (RetB w (mayB t)):=by
 by_cases h1:t.op=1
 ·exact may_any1 t.op t.n t.s w h1
 ·by_cases h2:t.op = 2 \/ t.op = 11
  ·exact may_any2 t.op t.n t.s w hs h2
  ·exact may_any0 t.op t.n t.s w h1 h2
end
section
open Go.RowKit CurSpec TermSpec ExprSpec
set_option maxRecDepth 100000
theorem CurAt.upto {w w':World} {B:Nat} {c:Cur} (h:CurAt w B c) (hs:w.heap.size <= w'.heap.size) (hk:∀ i,i <= B -> w'.heap[i]? = w.heap[i]?):CurAt w' B c:=by
 obtain ⟨b,off,n,cp,h,hlt,hn,m,hm,A,c',heq,hc,hl,hA⟩:=h;refine ⟨b,off,n,cp,(hk B (Nat.le_refl _)).trans h,hlt,hn,m,hm,A,c',heq,hc,hl,fun h0=>?_⟩;obtain ⟨b',off',h1,hlt',hcell⟩:=hA h0;subst h1
 cases heq
 refine ⟨b,off,rfl,by omega,fun j u hj=>?_⟩;rw [<- hcell j u hj];simp [World.cell?,hk b (by omega)]
structure RdAt (w:World) (R B:Nat) (v:Value) (c:Cur) (l:List Tm):Prop where
 cur:CurAt w B c
 blk:w.heap[R]?=some (.cells #[.pointer (some ⟨B,0,none⟩),v] 222 (0,0))
 own:w.ownsRow (R+1) 123 3 v l.length (tmsV l)
 lt:B<R
 few:l.length<=41
 small:Small l
structure Hold (R B:Nat) (v v':Value) (w w':World):Prop where
 os:w'.os=w.os
 tape:w'.tape=w.tape
 output:w'.output=w.output
 size:w.heap.size<=w'.heap.size
 block:∀ i,i<w.heap.size->i≠B->i≠R->v.ownBlock≠some i->w'.heap[i]?=w.heap[i]?
 row:v'.ownBlock=v.ownBlock\/∀ j,v'.ownBlock=some j->w.heap.size<=j
theorem Hold.refl (R B:Nat) (v:Value) (w:World):Hold R B v v w w:=⟨rfl,rfl,rfl,Nat.le_refl _,fun _ _ _ _ _=>rfl,.inl rfl⟩
theorem Hold.trans {R B:Nat} {v v' v2:Value} {w w' w2:World} (h:Hold R B v v' w w') (k:Hold R B v' v2 w' w2):Hold R B v v2 w w2:=by
 refine ⟨k.os.trans h.os,k.tape.trans h.tape,k.output.trans h.output,Nat.le_trans h.size k.size,fun i hi h1 h2 h3=>?_,?_⟩
 ·refine (k.block i (Nat.lt_of_lt_of_le hi h.size) h1 h2 ?_).trans (h.block i hi h1 h2 h3)
  rcases h.row with hr | hr
  ·rw [hr]; exact h3
  ·intro e; have:=hr i e; omega
 ·rcases k.row with hk | hk
  ·rcases h.row with hr | hr
   ·exact .inl (hk.trans hr)
   ·exact .inr (fun j hj=>hr j (by rw [<- hk]; exact hj))
  ·exact .inr (fun j hj=>Nat.le_trans h.size (hk j hj))
theorem Hold.of_but {R B:Nat} {w w':World} (v:Value) (h:w.grownBy w' (some B)):Hold R B v v w w' :=
 ⟨h.os,h.tape,h.output,h.size,fun i hi h1 _ _=>h.block i hi (by simpa using h1),.inl rfl⟩
theorem Hold.of_below {R B:Nat} {w w':World} (v:Value) (h:Below w.heap.size w w'):Hold R B v v w w':=Hold.of_but v (QH h)
theorem Hold.apart {R B:Nat} {v v':Value} {w w':World} (h:Hold R B v v' w w') {i:Nat} (hi:i < w.heap.size) (hne:v.ownBlock ≠ some i):v'.ownBlock ≠ some i:=by
 rcases h.row with hr | hr
 ·rw [hr]; exact hne
 ·intro e; have:=hr i e; omega
theorem RdAt.lt' {w:World} {R B:Nat} {v:Value} {c:Cur} {l:List Tm} (h:RdAt w R B v c l):R<w.heap.size:=(Array.getElem?_eq_some_iff.1 h.blk).1
theorem RdAt.apart {w:World} {R B:Nat} {v:Value} {c:Cur} {l:List Tm} (h:RdAt w R B v c l) {i:Nat} (hi:w.heap.size <= i):i ≠ B /\ i ≠ R /\ v.ownBlock ≠ some i:=by
 have h1:=h.lt';have h2:=h.lt;refine ⟨by omega,by omega,fun e=>?_⟩;have:=(Qs h.own i e).2;omega
theorem RdAt.keep {w w':World} {R B:Nat} {v:Value} {c:Cur} {l:List Tm} (h:RdAt w R B v c l) (hb:Below w.heap.size w w'):RdAt w' R B v c l :=
 ⟨h.cur.keep hb,Qe h.blk hb,Q9 h.own hb,h.lt,h.few,h.small⟩
theorem RdAt.but {w w':World} {R B:Nat} {v:Value} {c c':Cur} {l:List Tm} (h:RdAt w R B v c l) (hb:w.grownBy w' (some B)) (hc:CurAt w' B c'):RdAt w' R B v c' l :=
 ⟨hc,(hb.block R h.lt' (by have:=h.lt; simp; omega)).trans h.blk,QaI h.own hb (by have:=h.lt; omega),h.lt,h.few,h.small⟩
theorem RdAt.alloc {w:World} {R B:Nat} {v:Value} {c:Cur} {l:List Tm} (h:RdAt w R B v c l) (o:Obj):RdAt (w.alloc o) R B v c l:=h.keep ((Below.refl _ _).alloc (Nat.le_refl _) _)
theorem RdAt.drew {w:World} {R B:Nat} {v:Value} {c:Cur} {l:List Tm} (h:RdAt w R B v c l):RdAt w.drew R B v c l:=⟨h.cur.drew,h.blk,h.own,h.lt,h.few,h.small⟩
def RetRd (W:World) (R B:Nat) (v:Value) (c:Cur) (l:List Tm) (e:Ending) (w':World):Prop:=∃ v',e = .returned (.tuple #[])/\RdAt w' R B v' c l/\Hold R B v v' W w'
def ins (l:List Tm) (i:Nat) (t:Tm):List Tm:=if l.length<=40 then l.take i++t::l.drop i else l
theorem hold_ins {w w1 x:World} {R B:Nat} {v v':Value} {c:Cur} {l:List Tm} {i:Nat} {t:Tm} {n:Nat} (h:RdAt w R B v c l) (hn:n = l.length) (h40:n <= 40) (ht:t.s.size <= 9223372036854775807) (hb:Below w.heap.size w w1)
 (hown:x.ownsRow (R+1) 123 3 v' (n+1) (tmsV (l.take i++t::l.drop i))) (hg:w1.grownBy x v.ownBlock) (hr:v'.ownBlock=v.ownBlock\/v'.ownBlock=some w1.heap.size) :
 RdAt (x.setCell ⟨R,1,none⟩ v') R B v' c (ins l i t)/\Hold R B v v' w (x.setCell ⟨R,1,none⟩ v')/\x.heap[R]?=some (.cells #[.pointer (some ⟨B,0,none⟩),v] 222 (0,0)):=by
 have hRlt:=h.lt';have hBR:=h.lt;have hz1:=hb.size;have hz2:=hg.size;have hap:∀ j,j<=R->v.ownBlock≠some j:=fun j hj e=>by have:=(Qs h.own j e).1; omega
 have hold:∀ j,j<w.heap.size->v.ownBlock≠some j->x.heap[j]?=w.heap[j]?:=fun j hj hne=>(hg.block j (by omega) (fun e=>hne e.symm)).trans (hb.block j hj)
 have hxR:=(hold R hRlt (hap R (Nat.le_refl _))).trans h.blk
 have hlen:(l.take i ++ t :: l.drop i).length = n + 1:=by
  simp only [List.length_append,List.length_take,List.length_cons,List.length_drop]; omega
 have hins:ins l i t=l.take i++t::l.drop i:=if_pos (by omega);have hset:∀ j,j≠R->(x.setCell ⟨R,1,none⟩ v').heap[j]?=x.heap[j]?:=fun j hj=>Below.heap_setCell _ _ _ _ hj
 have hown':(x.setCell ⟨R,1,none⟩ v').ownsRow (R + 1) 123 3 v' (n + 1) (tmsV (l.take i ++ t :: l.drop i)) :=
  QaI hown (B:=R) (Ql (Qx _ _) 1 _) (by omega)
 refine ⟨⟨?_,Qd hxR 1 v',by rw [hins,hlen]; exact hown',h.lt,by rw [hins,hlen]; omega,?_⟩,⟨?_,?_,?_,?_,fun j hj h1 h2 h3=>(hset j h2).trans (hold j hj h3),?_⟩,hxR⟩
 rotate_left
 ·rw [hins]
  intro u hu
  rcases List.mem_append.1 hu with hu | hu
  ·exact h.small u (List.mem_of_mem_take hu)
  ·rcases List.mem_cons.1 hu with rfl | hu
   ·exact ht
   ·exact h.small u (List.mem_of_mem_drop hu)
 rotate_right
 ·refine h.cur.upto (by simp [World.setCell]; omega) (fun j hj=>(hset j (by omega)).trans (hold j (by omega) (hap j (by omega))))
 ·exact hg.os.trans hb.os
 ·exact hg.tape.trans hb.tape
 ·exact hg.output.trans hb.output
 ·simp [World.setCell]; omega
 ·rcases hr with hr | hr
  ·exact .inl hr
  ·exact .inr (fun j hj=>by rw [hr] at hj; cases hj; omega)
abbrev tmO (t:Tm):Obj:=.cells #[.int .i64 t.op,.int .i64 t.n,.string t.s] 123
theorem QfV (R B:Nat) (v:Value) (c:Cur) (l:List Tm) (i:Nat) (t:Tm) (w:World) (h:RdAt w R B v c l) (hi:i <= l.length) (ht:t.s.size <= 9223372036854775807) :
 Calls Tryz.prog 184 #[.pointer (some ⟨R,0,none⟩),.int .i64 i,.agg #[.int .i64 t.op,.int .i64 t.n,.string t.s]] w (RetRd w R B v c (ins l i t)):=by
 obtain ⟨A,cp,rfl⟩:=QR h.own;obtain ⟨n,hn⟩:∃ n,n=l.length:=⟨_,rfl⟩;have HR:=qh (h.alloc (tmO t)).blk;obtain ⟨r0,r1⟩:=QC HR.o;obtain ⟨_,r2⟩:=QC ((h.alloc (tmO t)).alloc (tmO t)).blk;rw [<- hn] at r1 r2 hi ⊢;obtain ⟨b0,b1,b2⟩:=Qj (heap_alloc_new w (tmO t))
 by_cases h40:n<=40
 ·have hI:(n:Int) <= 40:=by omega
  have h41:n<41:=by omega
  have HINS:Hid (Calls Tryz.prog 193 #[.slice A n cp,.int .i64 i,.slice (some ⟨w.heap.size + 1,0,none⟩) 1 1] (((w.alloc (tmO t)).alloc (tmO t)).drew) (InsPost (((w.alloc (tmO t)).alloc (tmO t)).drew) (R + 1) (.slice A n cp) (n + 1) (l.take i ++ t :: l.drop i))):=qh (by
   have h2:=((h.alloc (tmO t)).alloc (tmO t)).drew;have ho:=h2.own;rw [<- hn] at ho;refine Qjl (R+1) _ n i l t (w.heap.size+1) _ hn (by omega) hi ho (by have:=h2.lt'; omega) ?_ ?_
   ·have:=heap_alloc_new (w.alloc (tmO t)) (tmO t)
    rwa [World.size_alloc] at this
   ·have:=(h.apart (i:=w.heap.size + 1) (by omega)).2.2
    rw [<- hn] at this;exact this)
  have HH:=qh h;have HTS:=qh ht;have HN:=qh hn;have HB:Hid (Below w.heap.size w (((w.alloc (tmO t)).alloc (tmO t)).drew)):=qh (((Below.refl _ _).alloc (Nat.le_refl _) _).alloc (by simp) _).drew;clear h hn ht;go_enter Tryz.func184,Tryz.ntmps184;go_wp2_with fail;go_region_law (go_simp; go_at_call 193; go_fit HINS.o; rintro e x ⟨v',he,hown',hgr',hrow'⟩; obtain ⟨A2,cp2,rfl⟩:=QR hown'; subst he; (have HE:=qh (hold_ins HH.o HN.o h40 HTS.o HB.o hown' (by rw [<- HN.o]; exact hgr') (by rw [<- HN.o]; exact hrow'))); clear hown' hgr' hrow'; obtain ⟨s0,s1⟩:=QC HE.o.2.2; obtain ⟨f0,f1⟩:=Zu HE.o.2.2)
  all_goals
   go_wp2_with fail
   go_end0
   have hnl:=HN.o;subst hnl;exact ⟨_,rfl,HE.o.1,HE.o.2.1⟩
 ·have hI:¬ (n:Int) <= 40:=by omega
  have HF:Hid (ins l i t=l):=qh (if_neg (by omega));have HH:=qh h;have HN:=qh hn;clear h hn ht;go_enter Tryz.func184,Tryz.ntmps184;go_wp2_with fail
  go_end0
  have hnl:=HN.o;subst hnl;rw [HF.o];exact ⟨_,rfl,HH.o.alloc _,Hold.of_below _ ((Below.refl _ _).alloc (Nat.le_refl _) _)⟩
end
section
open Go.RowKit CurSpec TermSpec ExprSpec
set_option maxRecDepth 100000
def sgC (s:Sg):List Value:=[.string s.t,.int .i64 s.op,.int .i64 s.lev,.int .i64 s.left,.int .i64 s.right]
abbrev sgA (s:Sg):Value:=.agg #[.string s.t,.int .i64 s.op,.int .i64 s.lev,.int .i64 s.left,.int .i64 s.right]
def sgZ:Sg:=⟨⟨#[]⟩,0,0,0,0⟩
def signsV:Array Value:=(sgs.flatMap sgC).toArray
def SignsIn (w:World):Prop:=∃ T fr,w.heap[2]?=some (.cells signsV T fr)
theorem SignsIn.pos {w:World} (h:SignsIn w):2 < w.heap.size:=by
 obtain ⟨T,fr,h⟩:=h;exact (Array.getElem?_eq_some_iff.1 h).1
theorem SignsIn.of {w w':World} (h:SignsIn w) (hb:w'.heap[2]? = w.heap[2]?):SignsIn w':=by
 obtain ⟨T,fr,h⟩:=h;exact ⟨T,fr,hb.trans h⟩
theorem SignsIn.keep {w w':World} (h:SignsIn w) (hb:Below w.heap.size w w'):SignsIn w':=h.of (hb.block _ h.pos)
theorem SignsIn.alloc {w:World} (h:SignsIn w) (o:Obj):SignsIn (w.alloc o):=h.keep ((Below.refl _ _).alloc (Nat.le_refl _) _)
theorem Qd3:(Tryz.prog.info? 237).map (·.size)=some signsV.size:=by kernel_rfl
theorem Qdi:∀ (j:Nat) (s:Sg),sgs[j]? = some s -> ∀ w,(Instr.index 237 (.agg signsV) (.int .i64 j)).run Tryz.prog w = .ok (sgA s) w
 | 0,s,h,w => by cases h; kernel_rfl
 | 1,s,h,w => by cases h; kernel_rfl
 | 2,s,h,w => by cases h; kernel_rfl
 | 3,s,h,w => by cases h; kernel_rfl
 | 4,s,h,w => by cases h; kernel_rfl
 | 5,s,h,w => by cases h; kernel_rfl
 | 6,s,h,w => by cases h; kernel_rfl
 | 7,s,h,w => by cases h; kernel_rfl
 | 8,s,h,w => by cases h; kernel_rfl
 | 9,s,h,w => by cases h; kernel_rfl
 | 10,s,h,w => by cases h; kernel_rfl
 | j + 11,s,h,w => by cases h
theorem QgJ:sgs.length=11:=rfl
theorem JP {w:World} {b:Nat} {T:TypeId} {x0 x1 x2 x3 x4:Value} (h:w.heap[b]? = some (.cells #[x0,x1,x2,x3,x4] T (0,0))):w.cell? ⟨b,0,none⟩ = some x0 /\ w.cell? ⟨b,1,none⟩ = some x1 /\ w.cell? ⟨b,2,none⟩ = some x2 /\ w.cell? ⟨b,3,none⟩ = some x3 /\ w.cell? ⟨b,4,none⟩ = some x4 :=
 ⟨Qb h (i:=0) rfl,Qb h (i:=1) rfl,Qb h (i:=2) rfl,Qb h (i:=3) rfl,Qb h (i:=4) rfl⟩
theorem Qex {w:World} {b:Nat} {T:TypeId} {cs:Array Value} (h:w.heap[b]? = some (.cells cs T (0,0))):w.frozen? ⟨b,0,none⟩ = false /\ w.frozen? ⟨b,1,none⟩ = false /\ w.frozen? ⟨b,2,none⟩ = false /\ w.frozen? ⟨b,3,none⟩ = false /\ w.frozen? ⟨b,4,none⟩ = false :=
 ⟨Qf h 0,Qf h 1,Qf h 2,Qf h 3,Qf h 4⟩
theorem ZO {w:World} {b:Nat} (h:Blk w b 5) (u0 u1 u2 u3 u4:Value) :
 (w.setCell ⟨b,0,none⟩ u0).cell? ⟨b,0,none⟩=some u0/\((w.setCell ⟨b,0,none⟩ u0).setCell ⟨b,1,none⟩ u1).cell? ⟨b,1,none⟩=some u1 /\
 (((w.setCell ⟨b,0,none⟩ u0).setCell ⟨b,1,none⟩ u1).setCell ⟨b,2,none⟩ u2).cell? ⟨b,2,none⟩=some u2 /\
 ((((w.setCell ⟨b,0,none⟩ u0).setCell ⟨b,1,none⟩ u1).setCell ⟨b,2,none⟩ u2).setCell ⟨b,3,none⟩ u3).cell? ⟨b,3,none⟩=some u3 /\
 (((((w.setCell ⟨b,0,none⟩ u0).setCell ⟨b,1,none⟩ u1).setCell ⟨b,2,none⟩ u2).setCell ⟨b,3,none⟩ u3).setCell ⟨b,4,none⟩ u4).cell? ⟨b,4,none⟩=some u4 :=
 ⟨h.read 0 (by omega) _,(h.set _ _).read 1 (by omega) _,((h.set _ _).set _ _).read 2 (by omega) _,(((h.set _ _).set _ _).set _ _).read 3 (by omega) _,((((h.set _ _).set _ _).set _ _).set _ _).read 4 (by omega) _⟩
theorem below_5 {B:Nat} {w x:World} {b:Nat} (h:Below B w x) (hb:B <= b) (u0 u1 u2 u3 u4:Value) :
 Below B w (((((x.setCell ⟨b,0,none⟩ u0).setCell ⟨b,1,none⟩ u1).setCell ⟨b,2,none⟩ u2).setCell ⟨b,3,none⟩ u3).setCell ⟨b,4,none⟩ u4) :=
 ((((h.setCell hb _).setCell hb _).setCell hb _).setCell hb _).setCell hb _
def SgRel (W:World) (o:Int) (i:Value) (wr:World):Prop:=∃ j:Nat,j<=11/\i = .int .i64 j/\(∀ y∈sgs.take j,y.op≠o)/\Below W.heap.size W wr
def opSg (o:Int):Sg:=(sgs.find? fun s=>decide (s.op=o)).getD sgZ
theorem opSg_hit {o:Int} {j:Nat} {s:Sg} (hs:sgs[j]? = some s) (h:∀ y ∈ sgs.take j,y.op ≠ o) (he:s.op = o):opSg o = s:=by
 have hl:=(List.getElem?_eq_some_iff.1 hs).1
 have e:sgs = sgs.take j ++ s :: sgs.drop (j + 1):=by
  have h2:sgs.drop j=s::sgs.drop (j+1):=by rw [List.drop_eq_getElem_cons hl]; congr 1; exact (List.getElem?_eq_some_iff.1 hs).2
  rw [<- h2,List.take_append_drop]
 unfold opSg;rw [e,List.find?_append]
 have:(sgs.take j).find? (fun s => decide (s.op = o)) = none:=by
  rw [List.find?_eq_none];intro y hy
  simpa using h y hy
 rw [this];simp [he]
theorem opSg_none {o:Int} (h:∀ y ∈ sgs.take 11,y.op ≠ o):opSg o = sgZ:=by
 unfold opSg
 have:sgs.find? (fun s => decide (s.op = o)) = none:=by
  rw [List.find?_eq_none];intro y hy;have:sgs.take 11=sgs:=rfl;rw [this] at h
  simpa using h y hy
 rw [this]
 rfl
def RetSign (W:World) (s:Sg) (e:Ending) (w':World):Prop:=e = .returned (sgA s)/\Below W.heap.size W w'
abbrev sgO (s:Sg):Obj:=.cells #[.string s.t,.int .i64 s.op,.int .i64 s.lev,.int .i64 s.left,.int .i64 s.right] 229
theorem Qcv {w wr:World} {o:Obj} (h:Below (w.alloc o).heap.size (w.alloc o) wr):Below w.heap.size w wr :=
 ((Below.refl _ _).alloc (Nat.le_refl _) _).trans (h.mono (by simp))
theorem sg_below {w wr:World} {o:Obj} (h:Below (w.alloc o).heap.size (w.alloc o) wr) (p:Obj):Below w.heap.size w (wr.alloc p) :=
 (Qcv h).alloc (Qcv h).size _
theorem sg_next {o:Int} {j:Nat} {s:Sg} (h:∀ y ∈ sgs.take j,y.op ≠ o) (hs:sgs[j]? = some s) (hne:s.op ≠ o):∀ y ∈ sgs.take (j + 1),y.op ≠ o:=by
 intro y hy;rw [QA hs,List.mem_append,List.mem_singleton] at hy
 rcases hy with hy | rfl
 ·exact h y hy
 ·exact hne
theorem Qd4 (o:Int) (w:World) (hs:SignsIn w):Calls Tryz.prog 189 #[.int .i64 o] w (RetSign w (opSg o)):=by
 have hi:=Qd3;have hix:=Qdi;obtain ⟨SV,hSV⟩:∃ SV,SV=signsV:=⟨_,rfl⟩;unfold SignsIn at hs;rw [<- hSV] at hi hix hs;obtain ⟨T,fr,hg0⟩:=hs;have hg:=(heap_alloc_old w (.cells #[.string ⟨#[]⟩,.int .i64 0,.int .i64 0,.int .i64 0,.int .i64 0] 229) (Array.getElem?_eq_some_iff.1 hg0).1).trans hg0;have HIX:=qh hix;clear hix hSV hg0;have k0:=heap_alloc_new w (.cells #[.string ⟨#[]⟩,.int .i64 0,.int .i64 0,.int .i64 0,.int .i64 0] 229);have HK0:=qh k0;clear k0;go_enter Tryz.func189,Tryz.ntmps189;go_wp2_with (refine wpList_load_row rfl 237 _ rfl 2 rfl T SV fr _ hg Tryz.underlying237 rfl hi ?_);clear hg hi
 go_loopw [4,6] (fun _ i wr=>SgRel (w.alloc (.cells #[.string ⟨#[]⟩,.int .i64 0,.int .i64 0,.int .i64 0,.int .i64 0] 229)) o i wr) (fun _ i _=>11-(intOf i).toNat)
 case atStart=>exact ⟨0,by omega,rfl,by simp,Below.refl _ _⟩
 case round =>
  obtain ⟨j,hj,rfl,hno,hbw⟩:=hrel;have HN:=qh hno;have HB:=qh hbw;have hz:=hbw.size;rw [World.size_alloc] at hz;have hlt0:w.heap.size<wr.heap.size:=by omega
  have k0:=Qe HK0.o hbw;have HK:=qh k0;have HZ:=qh hlt0;clear hno hbw k0 hz
  by_cases hlt:j<11
  ·obtain ⟨s,hs⟩:∃ s,sgs[j]? = some s:=Qp (by rw [QgJ]; exact hlt)
   have hx:=HIX.o j s hs;have HS:=qh hs;have k1:=(heap_alloc_old wr (sgO s) hlt0).trans HK.o;have HK1:=qh (QD k1 (n:=5) rfl);clear hs hlt0
   by_cases ho:s.op=o
   ·have e1:(s.op == o) = true:=by simpa using ho
    have HO:=qh (opSg_hit HS.o HN.o ho);obtain ⟨f0,f1,f2,f3,f4⟩:=Qex k1;obtain ⟨d0,d1,d2,d3,d4⟩:=JP k1;clear ho k1;go_wp2_with fail;obtain ⟨q0,q1,q2,q3,q4⟩:=ZO HK1.o (.string s.t) (.int .i64 s.op) (.int .i64 s.lev) (.int .i64 s.left) (.int .i64 s.right);refine bodyPost_ret (v:=sgA s) (by simp [results,Tryz.results189,go_sem,q0,q1,q2,q3,q4]) rfl ?_;rw [HO.o];exact ⟨rfl,below_5 (sg_below HB.o (sgO s)) (Nat.le_refl _) _ _ _ _ _⟩
   ·have e1:(s.op == o) = false:=by simpa using ho
    have HO:=qh ho;clear ho k1;go_wp2_with fail
    go_roundw
    case rel=>exact ⟨j+1,hlt,by simp,sg_next HN.o HS.o HO.o,HB.o.alloc HB.o.size _⟩
    case measure=>simp [intOf]; omega
  ·obtain rfl:j = 11:=by omega
   have HO:=qh (opSg_none HN.o);obtain ⟨f0,f1,f2,f3,f4⟩:=Qex HK.o;obtain ⟨d0,d1,d2,d3,d4⟩:=JP HK.o;have HK1:=qh (QD HK.o (n:=5) rfl);go_wp2_with fail;obtain ⟨q0,q1,q2,q3,q4⟩:=ZO HK1.o (.string ⟨#[]⟩) (.int .i64 0) (.int .i64 0) (.int .i64 0) (.int .i64 0);refine bodyPost_ret (v:=sgA sgZ) (by simp [results,Tryz.results189,go_sem,q0,q1,q2,q3,q4,sgZ]) rfl ?_;rw [HO.o];exact ⟨rfl,below_5 (Qcv HB.o) (Nat.le_refl _) _ _ _ _ _⟩
end
section
open Go.RowKit TermSpec
set_option maxRecDepth 100000
def EndRel (l:List Tm) (n:Nat) (r:Int) (a o:Value):Prop:=∃ (j k:Nat),j<=n/\a = .int .i64 j/\o = .int .i64 k/\k<=j+1/\fin k (l.drop j) j=r
theorem Qg2 {l:List Tm} {n j k:Nat} {r:Int} {t:Tm} (hj:j < n) (ht:l[j]? = some t) (h0:0 <= ar t.op) (hk:k + 1 <= j + 1) (h:fin (k + 1) (l.drop j) j = r) (o:Int) (ho:o = (k + 1:Nat) + (ar t.op - 1)):EndRel l n r (.int .i64 ((j:Int) + 1)) (.int .i64 o):=by
 have h2:=(Qdp t.op).2;have e:=QaU h0;refine ⟨j+1,k+arN t.op,by omega,by simp,?_,by omega,?_⟩
 ·congr 1; omega
 ·rw [Qbd ht,Qat,if_neg (by omega)] at h
  exact h
theorem fin_stop {l:List Tm} {j k:Nat} {r:Int} {t:Tm} (ht:l[j]? = some t) (h0:ar t.op < 0) (h:fin (k + 1) (l.drop j) j = r):-1 = r:=by
 rw [Qbd ht,Qat,if_pos h0] at h;exact h
theorem fin_out {l:List Tm} {j k:Nat} {r:Int} (hj:l.length <= j) (h:fin (k + 1) (l.drop j) j = r):-1 = r:=by
 rw [List.drop_eq_nil_of_le hj] at h;exact h
theorem end_nat (A:Option Addr) (n c:Nat) (l:List Tm) (a:Nat) (w:World) (h:Tms w (.slice A n c) l) (hn:n = l.length) (hn62:n <= 4611686018427387903) (ha:a <= n) :
 Calls Tryz.prog 194 #[.slice A n c,.int .i64 a] w (SameI w (endA l a)):=by
 have HT:=qh h;have HN:=qh hn;have HA:=qh (QaZ l a);obtain ⟨r,hr⟩:∃ r,r=endA l a:=⟨_,rfl⟩;rw [<- hr] at HA ⊢;clear h hn hr;go_enter Tryz.func194,Tryz.ntmps194;go_wp2_with fail
 go_loop [1,5] (fun a o=>EndRel l n r a o) (fun a _=>n-(intOf a).toNat)
 case atStart=>exact ⟨a,1,ha,rfl,rfl,by omega,HA.o.symm⟩
 case round =>
  obtain ⟨j,k,hj,rfl,rfl,hk,hf⟩:=hrel;have HF:=qh hf;clear hf
  rcases Nat.eq_zero_or_pos k with hk0 | hk0
  ·subst hk0
   go_wp2_with fail;go_ret;exact ⟨Qo (by rw [<- HF.o,Qhr]),rfl⟩
  ·obtain ⟨k,rfl⟩:∃ k',k = k' + 1:=⟨k - 1,by omega⟩
   have hk1:(0:Int)<((k+1:Nat):Int):=by omega
   by_cases hlt:j<n
   ·obtain ⟨t,ht⟩:∃ t,l[j]? = some t:=Qp (by rw [<- HN.o]; exact hlt)
    obtain ⟨b,off,rfl,hb,c0,-,-⟩:=HT.o.at_ ht;have hltI:(j:Int)<(n:Int):=by omega
    have HX:=qh ht;have HC:=qh (QfY t.op);obtain ⟨h1,h2⟩:=Qdp t.op;have HR:=qh (fun h0=>Qg2 (n:=n) (r:=r) hlt ht h0 hk HF.o);have HS:=qh (fun h0=>fin_stop ht h0 HF.o);obtain ⟨o,ho⟩:∃ o,o=t.op:=⟨_,rfl⟩;rw [<- ho] at HC h1 h2 c0 HR HS;obtain ⟨q,hq⟩:∃ q,q=ar o:=⟨_,rfl⟩;rw [<- hq] at HC h1 h2 HR HS;clear ht ho hq
    by_cases h0:q<0
    ·go_wp2_with (go_at_call 196; go_fit (HC.o _); rintro e w' ⟨rfl,rfl⟩)
     go_ret;exact ⟨Qo (HS.o h0),rfl⟩
    ·have h0':0 <= q:=by omega
     go_wp2_with (go_at_call 196; go_fit (HC.o _); rintro e w' ⟨rfl,rfl⟩)
     go_round
     case rel=>exact HR.o h0' _ (by simp)
     case measure=>simp [intOf]; omega
   ·go_wp2_with fail
    go_ret;exact ⟨Qo (fin_out (by rw [<- HN.o]; omega) HF.o),rfl⟩
theorem end_far (A:Option Addr) (n c:Nat) (l:List Tm) (a:Int) (w:World) (hn:n = l.length) (ha:(n:Int) < a) :
 Calls Tryz.prog 194 #[.slice A n c,.int .i64 a] w (SameI w (endA l a)):=by
 have HE:=qh (Qh6 (l:=l) (a:=a) (by omega));have h0:¬ a<0:=by omega
 have h1:(n:Int)<=a:=by omega
 clear hn;go_enter Tryz.func194,Tryz.ntmps194;go_wp2_with fail
 go_loop [1,5] (fun v o=>v = .int .i64 a/\o = .int .i64 1) (fun _ _=>0)
 case atStart=>exact ⟨rfl,rfl⟩
 case round =>
  obtain ⟨rfl,rfl⟩:=hrel;go_wp2_with fail;go_ret;exact ⟨Qo HE.o.symm,rfl⟩
theorem end_any (A:Option Addr) (n c:Nat) (l:List Tm) (a:Int) (w:World) (h:Tms w (.slice A n c) l) (hn:n = l.length) (hn62:n <= 4611686018427387903) :
 Calls Tryz.prog 194 #[.slice A n c,.int .i64 a] w (SameI w (endA l a)):=by
 by_cases h0:a<0
 ·have HE:=qh (QeX (l:=l) h0)
  clear hn h;go_enter Tryz.func194,Tryz.ntmps194;go_wp2_with fail;go_ret;exact ⟨Qo HE.o.symm,rfl⟩
 ·by_cases h1:(n:Int) < a
  ·exact end_far A n c l a w hn h1
  ·obtain ⟨k,rfl⟩:=Int.eq_ofNat_of_zero_le (Int.not_lt.1 h0)
   exact end_nat A n c l k w h hn hn62 (by omega)
end
section
open Go.RowKit TermSpec
set_option maxRecDepth 100000
theorem QeQ (A:Option Addr) (n c:Nat) (l:List Tm) (a:Int) (w:World) (hn:n = l.length) (ha:a < 0 \/ (n:Int) <= a) :
 Calls Tryz.prog 171 #[.slice A n c,.int .i64 a] w (RetI w (endA l a)):=by
 have HE:Hid (endA l a = -1):=qh (by rcases ha with h | h; exact QeX h; exact Qh6 (by omega));clear hn
 by_cases h0:a<0
 ·clear ha
  go_enter Tryz.func171,Tryz.ntmps171;go_wp2_with fail;go_ret;exact ⟨Qo HE.o.symm,Below.refl _ _⟩
 ·have h1:(n:Int) <= a:=by omega
  clear ha;go_enter Tryz.func171,Tryz.ntmps171;go_wp2_with fail;go_ret;exact ⟨Qo HE.o.symm,Below.refl _ _⟩
def REndRel (W:World) (l:List Tm) (a:Nat) (q:Int) (v i:Value) (wr:World):Prop :=
 ∃ (k x:Nat),(k:Int)<=q/\i = .int .i64 k/\v = .int .i64 (a+1+x:Nat)/\cnt k (l.drop (a+1))=some x/\Below W.heap.size W wr
theorem rend_next {l:List Tm} {a k x:Nat} (hx:cnt k (l.drop (a + 1)) = some x) (h:0 <= endA l ((a + 1 + x:Nat):Int)):∃ x',endA l ((a + 1 + x:Nat):Int) = (a + 1 + x':Nat) /\ cnt (k + 1) (l.drop (a + 1)) = some x':=by
 obtain ⟨p,m,hp,hc,he,hm,hl⟩:=ZY h;obtain rfl:p=a+1+x:=by omega
 refine ⟨x+m,by rw [he]; omega,Qhg hx (by rw [List.drop_drop]; exact hc)⟩
theorem rend_bad {l:List Tm} {a k x:Nat} {t:Tm} (ht:l[a]? = some t) (h0:0 <= ar t.op) (hk:(k:Int) < ar t.op) (hx:cnt k (l.drop (a + 1)) = some x) (h:endA l ((a + 1 + x:Nat):Int) < 0):endA l a = -1:=by
 have hc:cnt 1 ((l.drop (a + 1)).drop x) = none:=by
  rw [List.drop_drop]
  cases hc:cnt 1 (l.drop (a+1+x)) with
  | none => rfl
  | some m => rw [Zb hc] at h; omega
 have e:=QaU h0;have:=cnt_none (cnt_stop hx hc) (arN t.op-(k+1));rw [show k+1+(arN t.op-(k+1))=arN t.op by omega] at this;rw [endA_at ht h0,Qej this]
theorem rend_done {l:List Tm} {a k x:Nat} {t:Tm} (ht:l[a]? = some t) (h0:0 <= ar t.op) (hk:(k:Int) = ar t.op) (hx:cnt k (l.drop (a + 1)) = some x):endA l a = (a + 1 + x:Nat):=by
 have e:=QaU h0;obtain rfl:k=arN t.op:=by omega
 rw [endA_at ht h0,QdO hx]
def RIH (A:Option Addr) (n c:Nat) (l:List Tm) (K:Nat):Prop:=∀ (a:Nat) (w:World),n<=a+K->Tms w (.slice A n c) l->Calls Tryz.prog 171 #[.slice A n c,.int .i64 a] w (RetI w (endA l a))
theorem rend_step (A:Option Addr) (n c:Nat) (l:List Tm) (K:Nat) (hn:n = l.length) (hn62:n <= 4611686018427387903) (ih:RIH A n c l K) (a:Nat) (w:World) (hK:n <= a + (K + 1)) (ha:a < n) (h:Tms w (.slice A n c) l) :
 Calls Tryz.prog 171 #[.slice A n c,.int .i64 a] w (RetI w (endA l a)):=by
 obtain ⟨t,ht⟩:∃ t,l[a]?=some t:=Qp (by omega);have HT:=qh h;have HN:=qh hn;have HIH:=qh ih;have HX:=qh ht;have haI:(a:Int)<(n:Int):=by omega
 obtain ⟨b,off,rfl,hb,c0,-,-⟩:=h.at_ ht;have HCELL:=qh c0;have HC:=qh (Qek t.op);obtain ⟨h1,h2⟩:=Qdp t.op;have HE:Hid (ar t.op<0->endA l a = -1):=qh (endA_bad ht);have HB:Hid (∀ k x:Nat,0<=ar t.op->(k:Int)<ar t.op->cnt k (l.drop (a+1))=some x->endA l ((a+1+x:Nat):Int)<0->endA l a = -1):=qh (fun k x h0 hk hx h=>rend_bad ht h0 hk hx h);have HD:Hid (∀ k x:Nat,0<=ar t.op->(k:Int)=ar t.op->cnt k (l.drop (a+1))=some x->endA l a=(a+1+x:Nat)):=qh (fun k x h0 hk hx=>rend_done ht h0 hk hx);obtain ⟨o,ho⟩:∃ o,o=t.op:=⟨_,rfl⟩;rw [<- ho] at HC h1 h2 c0 HCELL HE HB HD;obtain ⟨q,hq⟩:∃ q,q=ar o:=⟨_,rfl⟩;rw [<- hq] at HC h1 h2 HE HB HD;obtain ⟨r,hr⟩:∃ r,r=endA l a:=⟨_,rfl⟩;rw [<- hr] at HE HB HD ⊢;clear ht ho hq hn ih h HX hr
 by_cases h0:q<0
 ·go_enter Tryz.func171,Tryz.ntmps171
  go_wp2_with (go_at_call 170; go_fit (HC.o _));rintro e w1 ⟨rfl,hb1⟩;go_wp2_with fail;go_ret;exact ⟨Qo (HE.o h0).symm,hb1⟩
 ·have h0':0 <= q:=by omega
  clear HE;have d1:decide ((a:Int)<0)=false:=decide_eq_false (by omega);have d2:decide (n<=a)=false:=decide_eq_false (by omega);have d3:decide (q<0)=false:=decide_eq_false h0;go_enter Tryz.func171,Tryz.ntmps171;go_wp2_with (go_at_call 170; go_fit (HC.o _));rintro e w1 ⟨rfl,hb1⟩;have HB1:=qh hb1;clear c0 hb1;go_wp2_with fail
  go_loopw [5,6] (fun v i wr=>REndRel w l a q v i wr) (fun _ i _=>3-(intOf i).toNat)
  case atStart=>exact ⟨0,0,by simpa using h0',rfl,by simp,Jq _,HB1.o⟩
  case round =>
   obtain ⟨k,x,hk,rfl,rfl,hx,hbw⟩:=hrel;have HXc:=qh hx;have HBW:=qh hbw;have hle:=(QdQ hx).1;rw [List.length_drop,<- HN.o] at hle;have c0:wr.cell? ⟨b,off+a*3,none⟩=some (.int .i64 o):=(hbw.cell (by exact hb)).trans HCELL.o;clear hx hbw;go_wp2_with (go_at_call 170; go_fit (HC.o _));rintro e w2 ⟨rfl,hb2⟩;have HB2:=qh (Qa HBW.o hb2);clear hb2 c0
   by_cases hlt:(k:Int)<q
   ·have HI:=qh (HIH.o (a + 1 + x) w2 (by omega) (HT.o.keep HB2.o))
    obtain ⟨z,hz⟩:∃ z,z=endA l ((a+1+x:Nat):Int):=⟨_,rfl⟩;have HZ:=qh hz;rw [<- hz] at HI;obtain ⟨p,hp⟩:∃ p:Nat,p=a+1+x:=⟨_,rfl⟩;rw [<- hp] at HI;have HP:=qh hp;obtain ⟨v,hv⟩:∃ v,v=Value.int .i64 ((a+1+x:Nat):Int):=⟨_,rfl⟩;clear hz;rw [<- HP.o] at hv ⊢;clear hp hv;go_wp2_with (go_at_call 171; go_fit (HI.o));rintro e w3 ⟨rfl,hb3⟩
    by_cases hz0:z<0
    ·go_wp2_with fail
     go_ret;exact ⟨Qo (HB.o k x h0' hlt HXc.o (by rw [<- HZ.o]; exact hz0)).symm,Qa HB2.o hb3⟩
    ·go_wp2_with fail
     go_roundw
     case rel =>
      obtain ⟨x',hx',hc'⟩:=rend_next HXc.o (by rw [<- HZ.o]; omega);exact ⟨k+1,x',by omega,by simp,by rw [HZ.o,hx'],hc',Qa HB2.o hb3⟩
     case measure=>simp [intOf]; omega
   ·go_wp2_with fail
    go_ret;exact ⟨Qo (HD.o k x h0' (by omega) HXc.o).symm,HB2.o⟩
theorem rend_all (A:Option Addr) (n c:Nat) (l:List Tm) (hn:n = l.length) (hn62:n <= 4611686018427387903) (K:Nat):RIH A n c l K:=by
 induction K with
 | zero => exact fun a w h _ => QeQ A n c l a w hn (.inr (by omega))
 | succ K ih =>
   intro a w hK h
   by_cases ha:a<n
   ·exact rend_step A n c l K hn hn62 ih a w hK ha h
   ·exact QeQ A n c l a w hn (.inr (by omega))
theorem rend_any (A:Option Addr) (n c:Nat) (l:List Tm) (a:Int) (w:World) (h:Tms w (.slice A n c) l) (hn:n = l.length) (hn62:n <= 4611686018427387903) :
 Calls Tryz.prog 171 #[.slice A n c,.int .i64 a] w (RetI w (endA l a)):=by
 by_cases h0:a<0
 ·exact QeQ A n c l a w hn (.inl h0)
 ·obtain ⟨k,rfl⟩:=Int.eq_ofNat_of_zero_le (Int.not_lt.1 h0)
  exact rend_all A n c l hn hn62 n k w (by omega) h
end
section
open Go.RowKit NamesSpec
set_option maxRecDepth 100000
theorem QaK:(Tryz.prog.info? 3).map (fun i=>(i.zero,i.size,i.bytes))=some (some (.int .i64 0),1,8):=by kernel_rfl
def RowI (W wr:World) (p:Value) (xs:List Int):Prop:=wr.ownsRow W.heap.size 3 1 p xs.length (intV xs)/\Below W.heap.size W wr
theorem RowI.nil (W wr:World) (hb:Below W.heap.size W wr):RowI W wr (.slice none 0 0) []:=⟨World.ownsRow_nil _ _ _ _,hb⟩
theorem RowI.keep {W w w':World} {p:Value} {xs:List Int} (h:RowI W w p xs) (hb:Below w.heap.size w w'):RowI W w' p xs:=⟨Q9 h.1 hb,Qa h.2 hb⟩
theorem RowI.addL {W wr w2:World} {p p':Value} {xs ys:List Int} {o:Obj} (h:RowI W wr p xs) (hrow:w2.ownsRow W.heap.size 3 1 p' (xs.length + (intV ys).length) (intV xs ++ intV ys)) (hg:(wr.alloc o).grownBy w2 p.ownBlock):RowI W w2 p' (xs ++ ys):=by
 refine ⟨?_,(h.2.alloc h.2.size o).grown hg (by have:=h.2.size; simp; omega) (fun j hj=>(Qs h.1 j hj).1)⟩;rw [<- Qdt,List.length_append,<- intV_length ys];exact hrow
theorem RowI.add {W wr w2:World} {p p':Value} {xs:List Int} {x:Int} {o:Obj} (h:RowI W wr p xs) (hrow:w2.ownsRow W.heap.size 3 1 p' (xs.length+(intV [x]).length) (intV xs++intV [x])) (hg:(wr.alloc o).grownBy w2 p.ownBlock):RowI W w2 p' (xs++[x]):=h.addL hrow hg
theorem RowI.addB {W wr w2:World} {p p':Value} {xs ys:List Int} (h:RowI W wr p xs) (hrow:w2.ownsRow W.heap.size 3 1 p' (xs.length + (intV ys).length) (intV xs ++ intV ys)) (hg:wr.grownBy w2 p.ownBlock):RowI W w2 p' (xs ++ ys):=by
 refine ⟨?_,h.2.grown hg h.2.size (fun j hj=>(Qs h.1 j hj).1)⟩;rw [<- Qdt,List.length_append,<- intV_length ys];exact hrow
theorem RowI.read {W wr:World} {p:Value} {xs:List Int} (h:RowI W wr p xs):Rd wr p (intV xs):=Rd.own h.1
theorem RowI.ret {W wr:World} {p:Value} {xs:List Int} (h:RowI W wr p xs):RetInts W xs (.returned p) wr:=⟨p,rfl,h.read,h.2⟩
def RetInts' (W:World) (l:List Int) (e:Ending) (w':World):Prop:=∃ A c,e = .returned (.slice A l.length c)/\Rd w' (.slice A l.length c) (intV l)/\Below W.heap.size W w'
theorem Zi {W w':World} {l:List Int} {e:Ending} (h:RetInts W l e w'):RetInts' W l e w':=by
 obtain ⟨v,rfl,hr,hb⟩:=h;obtain ⟨A,n,c,rfl,hn,hc,_⟩:=hr.ints;subst hn;exact ⟨A,c,rfl,hr,hb⟩
end
end Go.Proofs.YtbdalbpackfejaaGreatDoor
