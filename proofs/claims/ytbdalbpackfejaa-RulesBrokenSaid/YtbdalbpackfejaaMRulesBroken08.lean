/- PrintLight, PrintMem, RulesItems, joined. -/
import Derived.Test.YtbdalbpackfejaaMRulesBroken07
import Derived.Test.YtbdalbpackfejaaMRulesBroken05
import Derived.Test.YtbdalbpackfejaaMRulesBroken06
import Derived.Deep.DeepFit
namespace Go.Proofs.Ytbdalbpackfejaa
open Go.RowKit TermSpec EvalSpec ActSpec NamesSpec ExprSpec TransSpec SynSpec PrintSpec
set_option maxRecDepth 100000
def termsW (l:List Tm):Nat:=if 45 < l.length then 1000 else if l.any (fun t => decide (100 < t.s.size)) then 1000 else l.length
def actW (a:Ac):Nat:=1 + termsW a.x + if 100 < a.s.size then 1000 else 0
def weighA (l:List Ac):Nat:=(l.map actW).sum
theorem termsW_le (l:List Tm):termsW l ≤ 1000:=by
 unfold termsW
 split
 ·omega
 ·split <;> omega
theorem termsW_many {l:List Tm} (h:45 < l.length):termsW l = 1000:=if_pos h
theorem termsW_hit {l:List Tm} {k:Nat} {t:Tm} (h:¬ 45 < l.length) (hk:l[k]? = some t) (ht:100 < t.s.size):termsW l = 1000:=by
 unfold termsW
 rw [if_neg h,if_pos]
 rw [List.any_eq_true]
 exact ⟨t,List.mem_of_getElem? hk,by simpa using ht⟩
theorem termsW_none {l:List Tm} (h:¬ 45 < l.length) (ha:l.any (fun t => decide (100 < t.s.size)) = false):termsW l = l.length:=by
 unfold termsW
 rw [if_neg h,ha]
 rfl
theorem any_next {α:Type} {f:α → Bool} {l:List α} {k:Nat} {x:α} (hx:l[k]? = some x) (h:(l.take k).any f = false) (hf:f x = false):(l.take (k + 1)).any f = false:=by
 rw [take_next hx,List.any_append,h]
 simp [hf]
set_option maxHeartbeats 1000000 in
theorem terms_any (A:Option Addr) (n c:Nat) (l:List Tm) (w:World) (h:Tms w (.slice A n c) l) (hs:Small l):Calls Try.prog 14 #[.slice A n c] w (SameI w (termsW l)):=by
 obtain ⟨A',n',c',heq,hn,hc⟩:=h.shape
 cases heq
 have HT:=Lib.hid h
 have HS:=Lib.hid hs
 have HN:=Lib.hid hn
 by_cases h45:45 < n
 ·have g:decide (45 < (n:Int)) = true:=by simp; omega
  have HE:=Lib.hid (termsW_many (l:=l) (by omega))
  clear h hs hn
  go_enter Try.func14,Try.ntmps14
  go_wp2_with fail
  go_ret
  exact ⟨by rw [HE.out]; rfl,rfl⟩
 ·have g:decide (45 < (n:Int)) = false:=by simp; omega
  have HK:Hid (∀ (k:Nat) (t:Tm),l[k]? = some t → 100 < t.s.size → termsW l = 1000):=Lib.hid fun k t hk ht => termsW_hit (by omega) hk ht
  have HZ:Hid (l.any (fun t => decide (100 < t.s.size)) = false → termsW l = n):=Lib.hid fun ha => by rw [termsW_none (by omega) ha,hn]
  obtain ⟨r,hr⟩:∃ r,r = termsW l:=⟨_,rfl⟩
  rw [← hr] at HK HZ ⊢
  clear h hs hn hr
  go_enter Try.func14,Try.ntmps14
  go_wp2_with fail
  go_loop [3] (fun i => ∃ k:Nat,k ≤ n ∧ i = .int .i64 k ∧ Hid ((l.take k).any (fun t => decide (100 < t.s.size)) = false)) (fun i => n - (intOf i).toNat)
  case atStart => exact ⟨0,Nat.zero_le _,rfl,Lib.hid rfl⟩
  case round =>
   obtain ⟨k,hk,rfl,HA⟩:=hrel
   by_cases hlt:k < n
   ·obtain ⟨t,ht⟩:∃ t,l[k]? = some t:=get_some (by rw [← HN.out]; exact hlt)
    obtain ⟨b,off,rfl,hb,c0,c1,c2⟩:=HT.out.at_ ht
    have hsz:=HS.out t (List.mem_of_getElem? ht)
    by_cases h1:100 < t.s.size
    ·have HE:=Lib.hid (HK.out k t ht h1)
     have g1:decide (100 < (t.s.size:Int)) = true:=by simp; omega
     clear ht
     go_wp2_with fail
     go_ret
     exact ⟨by rw [HE.out]; rfl,rfl⟩
    ·have HX:=Lib.hid (any_next ht HA.out (f:=fun t => decide (100 < t.s.size)) (by simpa using h1))
     have g1:decide (100 < (t.s.size:Int)) = false:=by simp; omega
     clear ht
     go_wp2_with fail
     go_round
     case rel => exact ⟨k + 1,by omega,by go_num,HX⟩
     case measure => simp [intOf]; omega
   ·have HE:Hid (r = n):=Lib.hid (by
     refine HZ.out ?_
     have:=HA.out
     rwa [List.take_of_length_le (by rw [← HN.out]; omega)] at this)
    go_wp2_with fail
    go_ret
    exact ⟨by rw [HE.out]; rfl,rfl⟩
theorem weigh_next {l:List Ac} {k:Nat} {a:Ac} (h:l[k]? = some a):weighA (l.take (k + 1)) = weighA (l.take k) + (1 + termsW a.x + if 100 < a.s.size then 1000 else 0):=by
 rw [take_next h]
 simp [weighA,actW]
theorem weigh_le (l:List Ac):weighA l ≤ 2001 * l.length:=by
 induction l with
 | nil => simp [weighA]
 | cons a r ih =>
   have:=termsW_le a.x
   unfold weighA at ih ⊢
   rw [List.map_cons,List.sum_cons,List.length_cons]
   have:actW a ≤ 2001:=by unfold actW; split <;> omega
   omega
def WeighRel (l:List Ac) (n:Nat) (s i:Value):Prop:=∃ k:Nat,k ≤ n ∧ i = .int .i64 k ∧ s = .int .i64 (weighA (l.take k))
set_option maxHeartbeats 1000000 in
theorem weigh_any (A:Option Addr) (n c:Nat) (l:List Ac) (w:World) (h:Acs w (.slice A n c) l) (hs:∀ a ∈ l,a.s.size ≤ 9223372036854775807 ∧ Small a.x) (h10:n ≤ 1000):Calls Try.prog 13 #[.slice A n c] w (SameI w (weighA l)):=by
 have hn:=h.len.1
 have hcap:=h.len.2
 have HN:=Lib.hid hn
 have HT:=Lib.hid h
 have HS:=Lib.hid hs
 clear hn h hs
 go_enter Try.func13,Try.ntmps13
 go_wp2_with fail
 go_loop [3,4] (fun s i => WeighRel l n s i) (fun _ i => n - (intOf i).toNat)
 case atStart => exact ⟨0,Nat.zero_le _,rfl,rfl⟩
 case round =>
  obtain ⟨k,hk,rfl,rfl⟩:=hrel
  by_cases hlt:k < n
  ·obtain ⟨a,ha⟩:∃ a,l[k]? = some a:=get_some (by rw [← HN.out]; exact hlt)
   obtain ⟨b,off,xA,xn,xc,rfl,hb,htm,c0,c1,c2⟩:=HT.out.at_ ha
   have hsz:=HS.out a (List.mem_of_getElem? ha)
   have HC:=Lib.hid (terms_any xA xn xc a.x w htm hsz.2)
   have hx:=termsW_le a.x
   have HX:=Lib.hid (weigh_next ha)
   have hle:=weigh_le (l.take k)
   rw [List.length_take] at hle
   obtain ⟨s,hsum⟩:∃ s,s = weighA (l.take k):=⟨_,rfl⟩
   rw [← hsum] at HX hle ⊢
   have hle':s ≤ 2001000:=by omega
   obtain ⟨q,hq⟩:∃ q,q = termsW a.x:=⟨_,rfl⟩
   rw [← hq] at HC HX hx
   have hs1:=hsz.1
   obtain ⟨nm,any,x⟩:=a
   simp only at c0 c1 c2 HX hs1
   clear ha htm hsz hle hsum hq
   by_cases h1:100 < nm.size
   ·have g1:decide (100 < (nm.size:Int)) = true:=by simp; omega
    go_wp2_with (go_at_call 14; (with_reducible refine HC.out.mono ?_))
    rintro e2 w2 ⟨rfl,rfl⟩
    go_wp2_with fail
    go_round
    case rel => exact ⟨k + 1,by omega,by go_num,by rw [HX.out,if_pos h1]; simp; omega⟩
    case measure => simp [intOf]; omega
   ·have g1:decide (100 < (nm.size:Int)) = false:=by simp; omega
    go_wp2_with (go_at_call 14; (with_reducible refine HC.out.mono ?_))
    rintro e2 w2 ⟨rfl,rfl⟩
    go_wp2_with fail
    go_round
    case rel => exact ⟨k + 1,by omega,by go_num,by rw [HX.out,if_neg h1]; simp; omega⟩
    case measure => simp [intOf]; omega
  ·obtain rfl:k = n:=by omega
   have HE:Hid (weighA (l.take k) = weighA l):=Lib.hid (by rw [List.take_of_length_le (by have:=HN.out; omega)])
   go_wp2_with fail
   go_ret
   exact ⟨by rw [← HE.out]; rfl,rfl⟩
def manyB (l:List ByteArray):Bool:=decide (30 < l.length) || longB l 100
theorem many_hit {l:List ByteArray} {k:Nat} {s:ByteArray} (h:l[k]? = some s) (hs:100 < (s.size:Int)):manyB l = true:=by
 unfold manyB longB
 rw [Bool.or_eq_true]
 exact .inr (List.any_eq_true.2 ⟨s,List.mem_of_getElem? h,decide_eq_true hs⟩)
set_option maxHeartbeats 1000000 in
theorem many_any (A:Option Addr) (n c:Nat) (l:List ByteArray) (w:World) (h:RdS w (.slice A n c) l) (hm:l.length ≤ 9223372036854775807) (hs:∀ s ∈ l,s.size ≤ 9223372036854775807) :
 Calls Try.prog 12 #[.slice A n c] w (SameB w (manyB l)):=by
 obtain ⟨A',n',c',heq,hn,hc,hA⟩:=Rd.strs h
 cases heq
 have HA:=Lib.hid hA
 have HN:=Lib.hid hn
 have HS:=Lib.hid hs
 have HP:=Lib.hid (rplace_any (.slice A n c) l ⟨#[]⟩ w h hm)
 have HB:=Lib.hid (place_bd l ⟨#[]⟩)
 have hm':n ≤ 9223372036854775807:=by omega
 obtain ⟨r,hr⟩:∃ r,r = manyB l:=⟨_,rfl⟩
 rw [← hr]
 have HR:=Lib.hid hr
 clear hA hn h hm hs hr
 go_enter Try.func12,Try.ntmps12
 go_wp2
 go_loop [3] (fun i => ∃ k:Nat,k ≤ n ∧ k ≤ 100 ∧ i = .int .i64 k ∧ longB (l.take k) 100 = false) (fun i => n - (intOf i).toNat)
 case atStart => exact ⟨0,Nat.zero_le _,Nat.zero_le _,rfl,rfl⟩
 case round =>
  obtain ⟨k,hk,hk100,rfl,hno⟩:=hrel
  have HO:=Lib.hid hno
  clear hno
  by_cases hgo:k < n ∧ k < 100
  ·have g1:decide ((k:Int) < n) = true:=by simp; omega
   have g2:decide ((k:Int) < 100) = true:=by simp; omega
   obtain ⟨b,off,rfl,hb,hcell⟩:=HA.out (by omega)
   obtain ⟨x,hx⟩:∃ x,l[k]? = some x:=get_some (by have:=HN.out; omega)
   have hck:=hcell k x hx
   have HX:=Lib.hid hx
   have hsz:=HS.out x (List.mem_of_getElem? hx)
   clear hcell hx
   by_cases hxs:100 < (x.size:Int)
   ·have HE:Hid (r = true):=Lib.hid (by rw [HR.out]; exact many_hit HX.out hxs)
    have g3:decide (100 < (x.size:Int)) = true:=by simpa using hxs
    go_wp2
    go_ret
    exact ⟨ret_bool HE.out.symm,rfl⟩
   ·have g3:decide (100 < (x.size:Int)) = false:=by simpa using hxs
    go_wp2
    go_round
    case rel =>
     refine ⟨k + 1,by omega,by omega,by go_num,?_⟩
     have:=HO.out
     unfold longB at this ⊢
     rw [take_next HX.out,List.any_append,this]
     simpa using hxs
    case measure => simp [intOf]; omega
  ·have g0:(decide ((k:Int) < n) && decide ((k:Int) < 100)) = false:=by simp; omega
   by_cases h30:30 < n
   ·have HE:Hid (r = true):=Lib.hid (by rw [HR.out]; unfold manyB; rw [Bool.or_eq_true]; exact .inl (by simp; have:=HN.out; omega))
    have g3:decide (30 < (n:Int)) = true:=by simp; omega
    by_cases hkn:k < n
    ·have g1:decide ((k:Int) < n) = true:=by simp; omega
     have g2:decide ((k:Int) < 100) = false:=by simp; omega
     go_wp2
     go_ret
     exact ⟨ret_bool HE.out.symm,rfl⟩
    ·have g1:decide ((k:Int) < n) = false:=by simp; omega
     go_wp2
     go_ret
     exact ⟨ret_bool HE.out.symm,rfl⟩
   ·have hkn:k = n:=by omega
    subst hkn
    have HE:Hid (r = false):=Lib.hid (by
     rw [HR.out]
     unfold manyB
     have h1:=HO.out
     have h2:=HN.out
     rw [List.take_of_length_le (by omega)] at h1
     rw [h1]
     simp
     omega)
    have g1:decide ((k:Int) < k) = false:=by simp
    have g3:decide (30 < (k:Int)) = false:=by simp; omega
    have hb:=HB.out
    have hn2:=HN.out
    obtain ⟨q,hq⟩:∃ q,q = Lib.idxOfS l ⟨#[]⟩:=⟨_,rfl⟩
    rw [← hq] at HP hb
    have g4:decide (1000 < q) = false:=by simp; omega
    clear hq
    go_wp2_with (go_at_call 32; (with_reducible refine HP.out.mono ?_); rintro e2 w2 ⟨rfl,rfl⟩)
    go_ret
    exact ⟨ret_bool HE.out.symm,rfl⟩
end Go.Proofs.Ytbdalbpackfejaa
namespace Go.Proofs.Ytbdalbpackfejaa
open Go.RowKit TermSpec EvalSpec ActSpec NamesSpec ExprSpec TransSpec SynSpec PrintSpec
theorem StsP.len {w:World} {A:Option Addr} {n c:Nat} {l:List Sx} (h:StsP w (.slice A n c) l):n = l.length ∧ n ≤ c:=by
 obtain ⟨ps,rfl,⟨A',c',heq,hc,-⟩,-⟩:=h
 cases heq
 exact ⟨(List.length_map _).symm,hc⟩
theorem StsP.at_ {w:World} {A:Option Addr} {n c:Nat} {l:List Sx} {i:Nat} {s:Sx} (h:StsP w (.slice A n c) l) (hi:l[i]? = some s) :
 ∃ b off a3 n3 c3 a4 n4 c4 a5 n5 c5,A = some ⟨b,off,none⟩ ∧ b < w.heap.size ∧ w.cell? ⟨b,off + i * 6,none⟩ = some (.string s.s) ∧ w.cell? ⟨b,off + i * 6 + 1,none⟩ = some (.int .i64 s.kind) ∧ w.cell? ⟨b,off + i * 6 + 2,none⟩ = some (.int .i64 s.par) ∧
   w.cell? ⟨b,off + i * 6 + 3,none⟩ = some (.slice a3 n3 c3) ∧ w.cell? ⟨b,off + i * 6 + 4,none⟩ = some (.slice a4 n4 c4) ∧ w.cell? ⟨b,off + i * 6 + 5,none⟩ = some (.slice a5 n5 c5) ∧
   Acs w (.slice a3 n3 c3) s.en ∧ Acs w (.slice a4 n4 c4) s.ex ∧ Trs w (.slice a5 n5 c5) s.tr:=by
 obtain ⟨ps,rfl,⟨A',c',heq,hc,hl,hA⟩,hn⟩:=h
 cases heq
 have hlt:=get_lt hi
 rw [List.getElem?_map] at hi
 obtain ⟨p,hp,rfl⟩:=Option.map_eq_some_iff.1 hi
 obtain ⟨b,off,rfl,hb,hcell⟩:=hA (by rw [List.length_map] at hlt; omega)
 obtain ⟨k1,k2,k3⟩:=hn p (List.mem_of_getElem? hp)
 refine ⟨b,off,p.a3,p.n3,p.c3,p.a4,p.n4,p.c4,p.a5,p.n5,p.c5,rfl,hb,?_,?_,?_,?_,?_,?_,k1,k2,k3⟩
 ·exact hcell _ _ (flat_get (j:=0) spV_length hp (by omega))
 ·rw [Nat.add_assoc]; exact hcell _ _ (flat_get (j:=1) spV_length hp (by omega))
 ·rw [Nat.add_assoc]; exact hcell _ _ (flat_get (j:=2) spV_length hp (by omega))
 ·rw [Nat.add_assoc]; exact hcell _ _ (flat_get (j:=3) spV_length hp (by omega))
 ·rw [Nat.add_assoc]; exact hcell _ _ (flat_get (j:=4) spV_length hp (by omega))
 ·rw [Nat.add_assoc]; exact hcell _ _ (flat_get (j:=5) spV_length hp (by omega))
theorem Trs.len {w:World} {A:Option Addr} {n c:Nat} {l:List Tr} (h:Trs w (.slice A n c) l):n = l.length ∧ n ≤ c:=by
 obtain ⟨ps,rfl,⟨A',c',heq,hc,-⟩,-⟩:=h
 cases heq
 exact ⟨(List.length_map _).symm,hc⟩
theorem Trs.at_ {w:World} {A:Option Addr} {n c:Nat} {l:List Tr} {i:Nat} {t:Tr} (h:Trs w (.slice A n c) l) (hi:l[i]? = some t) :
 ∃ b off gA gn gc aA an ac,A = some ⟨b,off,none⟩ ∧ b < w.heap.size ∧ w.cell? ⟨b,off + i * 4,none⟩ = some (.string t.ev) ∧ w.cell? ⟨b,off + i * 4 + 1,none⟩ = some (.slice gA gn gc) ∧ w.cell? ⟨b,off + i * 4 + 2,none⟩ = some (.slice aA an ac) ∧ w.cell? ⟨b,off + i * 4 + 3,none⟩ = some (.string t.tg) ∧
   TrIn w gA gn gc aA an ac t:=by
 obtain ⟨ps,rfl,⟨A',c',heq,hc,hl,hA⟩,hn⟩:=h
 cases heq
 have hlt:=get_lt hi
 rw [List.getElem?_map] at hi
 obtain ⟨p,hp,rfl⟩:=Option.map_eq_some_iff.1 hi
 obtain ⟨b,off,rfl,hb,hcell⟩:=hA (by rw [List.length_map] at hlt; omega)
 refine ⟨b,off,p.gA,p.gn,p.gc,p.aA,p.an,p.ac,rfl,hb,?_,?_,?_,?_,hn p (List.mem_of_getElem? hp)⟩
 ·exact hcell _ _ (flat_get (j:=0) tpV_length hp (by omega))
 ·rw [Nat.add_assoc]; exact hcell _ _ (flat_get (j:=1) tpV_length hp (by omega))
 ·rw [Nat.add_assoc]; exact hcell _ _ (flat_get (j:=2) tpV_length hp (by omega))
 ·rw [Nat.add_assoc]; exact hcell _ _ (flat_get (j:=3) tpV_length hp (by omega))
theorem RdV.len {w:World} {A:Option Addr} {n c:Nat} {l:List Vr} (h:RdV w (.slice A n c) l):n = l.length ∧ n ≤ c:=by
 obtain ⟨A',c',heq,hc,-⟩:=h
 cases heq
 exact ⟨rfl,hc⟩
theorem RdV.vars {w:World} {A:Option Addr} {n c:Nat} {l:List Vr} (h:RdV w (.slice A n c) l):VarsIn w A n c l:=by
 obtain ⟨hn,-⟩:=RdV.len h
 refine ⟨hn,?_⟩
 rw [hn]
 rw [hn] at h
 exact h
theorem StsP.sts {w:World} {v:Value} {l:List Sx} (h:StsP w v l):Sts w v (l.map shOf):=by
 obtain ⟨ps,rfl,hr,-⟩:=h
 refine ⟨ps.map fun p => ⟨p.x.s,shOf p.x,p.a3,p.n3,p.c3,p.a4,p.n4,p.c4,p.a5,p.n5,p.c5⟩,by rw [List.map_map,List.map_map]; rfl,?_⟩
 rw [List.length_map,List.length_map]
 have:stsV (ps.map fun p => ⟨p.x.s,shOf p.x,p.a3,p.n3,p.c3,p.a4,p.n4,p.c4,p.a5,p.n5,p.c5⟩) = ps.flatMap spV:=by
  unfold stsV
  rw [List.flatMap_map]
  rfl
 rw [this]
 exact hr
structure FitC (x:Cx):Prop where
 s:x.s.size ≤ 9223372036854775807
 evs:∀ e ∈ x.evs,e.size ≤ 9223372036854775807
 evl:x.evs.length ≤ 9223372036854775807
 vars:∀ v ∈ x.vars,v.s.size ≤ 9223372036854775807
 sts:∀ s ∈ x.sts,s.s.size ≤ 9223372036854775807 ∧ (∀ a ∈ s.en,a.s.size ≤ 9223372036854775807 ∧ Small a.x) ∧ (∀ a ∈ s.ex,a.s.size ≤ 9223372036854775807 ∧ Small a.x) ∧
  ∀ t ∈ s.tr,t.ev.size ≤ 9223372036854775807 ∧ t.tg.size ≤ 9223372036854775807 ∧ Small t.g ∧ ∀ a ∈ t.acts,a.s.size ≤ 9223372036854775807 ∧ Small a.x
def okLT (t:Tr):Bool:=decide (t.ev.size ≤ 100) && (decide (t.tg.size ≤ 100) && decide (t.acts.length ≤ 10))
def okLS (s:Sx):Bool:=decide (s.s.size ≤ 100) && (decide (s.tr.length ≤ 20) && (decide (s.en.length ≤ 10) && decide (s.ex.length ≤ 10)))
def wTr (t:Tr):Nat:=1 + weighA t.acts + termsW t.g
def wSt (s:Sx):Nat:=weighA s.en + weighA s.ex + (s.tr.map wTr).sum
def stL (s:Sx):Bool:=okLS s && s.tr.all okLT
def wCx (l:List Sx):Nat:=(l.map wSt).sum
def lightC (x:Cx):Bool:=decide (x.s.size ≤ 100) && (!manyB x.evs && (decide (x.vars.length ≤ 10) && (decide (x.sts.length ≤ 65) && (x.vars.all (fun v => decide (v.s.size ≤ 100)) && (x.sts.all stL && decide (wCx x.sts ≤ 160))))))
theorem sum_next {α:Type} (f:α → Nat) {l:List α} {k:Nat} {x:α} (h:l[k]? = some x):((l.take (k + 1)).map f).sum = ((l.take k).map f).sum + f x:=by
 rw [take_next h]
 simp
theorem sum_take_le {α:Type} (f:α → Nat) (l:List α) (k:Nat):((l.take k).map f).sum ≤ (l.map f).sum:=by
 have:=congrArg (fun l => (l.map f).sum) (List.take_append_drop k l)
 simp only [List.map_append,List.sum_append] at this
 omega
theorem wTr_le {t:Tr} (h:t.acts.length ≤ 10):wTr t ≤ 21011:=by
 have h1:=weigh_le t.acts
 have h2:=termsW_le t.g
 unfold wTr
 omega
theorem all_take {α:Type} {f:α → Bool} {l:List α} {k:Nat} {x:α} (hx:l[k]? = some x) (h:(l.take k).all f = true) (hf:f x = true):(l.take (k + 1)).all f = true:=by
 rw [take_next hx,List.all_append,h]
 simp [hf]
theorem all_bad {α:Type} {f:α → Bool} {l:List α} {k:Nat} {x:α} (hx:l[k]? = some x) (hf:f x = false):l.all f = false:=by
 rw [List.all_eq_false]
 exact ⟨x,List.mem_of_getElem? hx,by simp [hf]⟩
end Go.Proofs.Ytbdalbpackfejaa
namespace Go.Proofs.Ytbdalbpackfejaa
open Go.RowKit TermSpec NamesSpec EvalSpec ActSpec TransSpec SynSpec RulesSpec PrintSpec
open ShapeSpec (Sh kids kidsTo)
set_option maxRecDepth 100000
def ItRel (W:World) (r:Int) (l:List Int) (n:Nat) (p i:Value) (wr:World):Prop:=∃ k:Nat,k ≤ n ∧ i = .int .i64 k ∧ Hid (RowF W wr p (itemsF r (l.take k)))
set_option maxHeartbeats 2000000 in
theorem items_any (r:Int) (v:Value) (l:List Int) (w:World) (h:Rd w v (intV l)) (hl:l.length ≤ 1000000):Calls Try.prog 20 #[.int .i64 r,v] w (RetFw w (itemsF r l)):=by
 obtain ⟨A,n,c,rfl,hn,hc,hA⟩:=h.ints
 have HA:=Lib.hid hA
 have HN:=Lib.hid hn
 have hm':n ≤ 1000000:=by omega
 have hfb:=fw_two
 obtain ⟨i0,hi,hz0,hz1,hz2⟩:=info_parts inf_flaw
 have HI:=Lib.hid (And.intro hi (And.intro hz0 (And.intro hz1 hz2)))
 clear h hl hn hc hA hi hz0 hz1 hz2
 go_enter Try.func20,Try.ntmps20
 go_wp2_with fail
 go_loopw [5,10] (fun p i wr => ItRel w r l n p i wr) (fun _ i _ => n - (intOf i).toNat)
 case atStart => exact ⟨0,Nat.zero_le _,rfl,Lib.hid (RowF.nil _ _ (Below.refl _ _))⟩
 case round =>
  obtain ⟨k,hk,rfl,HR⟩:=hrel
  by_cases hlt:k < n
  ·obtain ⟨b,off,rfl,hb,hcell⟩:=HA.out (by omega)
   obtain ⟨x,hx⟩:∃ x,l[k]? = some x:=get_some (by have:=HN.out; omega)
   have hck:wr.cell? ⟨b,off + k,none⟩ = some (.int .i64 x):=(HR.out.2.cell (by exact hb)).trans (hcell k x hx)
   have HY:Hid (itemsF r (l.take (k + 1)) = itemsF r (l.take k) ++ [⟨r,x,0⟩]):=Lib.hid (by rw [take_next hx,itemsF_append]; rfl)
   have hll:(itemsF r (l.take k)).length ≤ k:=by rw [itemsF_length]; exact List.length_take_le _ _
   have HL1:Hid ((itemsF r (l.take k)).length + 1 ≤ maxLen):=Lib.hid (by simp [maxLen]; omega)
   have HL2:Hid (((itemsF r (l.take k)).length + 1) * 24 ≤ 140737488355328):=Lib.hid (by omega)
   have HSZ:Hid (w.heap.size ≤ wr.heap.size):=Lib.hid HR.out.2.size
   clear hcell hx hll
   go_wp2_with (at_builtin; refine wpList_append_rdk _ rfl (.tmp 14) (.tmp 18) _ rfl w.heap.size 52 i0 (.agg #[.int .i64 0,.int .i64 0,.int .i64 0]) 3 24 Try.underlying29 HI.out.1 HI.out.2.1 HI.out.2.2.1 HI.out.2.2.2 rfl (by decide) _ _ _ rfl (HR.out.1.alloc _) _ 1 (fwsV [⟨r,x,0⟩]) rfl (fw_lit rfl rfl) (fwsV_one _) HL1.out HL2.out ?_ ?_; (have:=HSZ.out; simp; omega); intro p2 w2 hrow2 hg2 _; have HR2:=Lib.hid (RowF.add HR.out hrow2 hg2); clear hrow2 hg2)
   go_roundw
   case rel => exact ⟨k + 1,hlt,by simp,Lib.hid (by rw [HY.out]; exact HR2.out)⟩
   case measure => simp [intOf]; omega
  ·obtain rfl:k = n:=by omega
   go_wp2_with fail
   go_ret
   have hr:=HR.out
   rw [List.take_of_length_le (by have:=HN.out; omega)] at hr
   exact hr.ret
def PlRel (W:World) (f:Nat → Bool) (n:Nat) (p i:Value) (wr:World):Prop:=∃ k:Nat,k ≤ n ∧ i = .int .i64 k ∧ Hid (RowI W wr p (plTo f k))
set_option maxRecDepth 100000 in
set_option maxHeartbeats 4000000 in
theorem ill_any (A:Option Addr) (n c:Nat) (l:List Vr) (w:World) (h:RdV w (.slice A n c) l) (hm:n ≤ 1000000) (hf:∀ v ∈ l,VFit v) :
 Calls Try.prog 24 #[.slice A n c] w (RetInts w (plTo (illB l) l.length)):=by
 have hn:=h.len.1
 have HV:=Lib.hid (fun W (hW:Below w.heap.size w W) => RdV.vars (w:=W) (Rdk.keep h hW))
 have HN:=Lib.hid hn
 have HF:=Lib.hid hf
 obtain ⟨i0,hi,hz0,hz1,hz2⟩:=info_parts inf_int
 have HI:=Lib.hid (And.intro hi (And.intro hz0 (And.intro hz1 hz2)))
 rw [← hn]
 clear h hn hf hi hz0 hz1 hz2
 go_enter Try.func24,Try.ntmps24
 go_wp2_with fail
 go_loopw [3,8] (fun p i wr => PlRel w (illB l) n p i wr) (fun _ i _ => n - (intOf i).toNat)
 case atStart => exact ⟨0,Nat.zero_le _,rfl,Lib.hid (RowI.nil _ _ (Below.refl _ _))⟩
 case round =>
  obtain ⟨k,hk,rfl,HR⟩:=hrel
  by_cases hlt:k < n
  ·obtain ⟨v,hv⟩:∃ v,l[k]? = some v:=get_some (by rw [← HN.out]; exact hlt)
   obtain ⟨b,off,rfl,hb,c0,c1,c2,c3⟩:=VarsIn.at_ (HV.out _ HR.out.2) hv
   have HIL:=Lib.hid (illB_at hv)
   have hvf:=HF.out v (List.mem_of_getElem? hv)
   have hll:=plTo_length (illB l) k
   have HL1:Hid ((plTo (illB l) k).length + (intV [(k:Int)]).length ≤ maxLen):=Lib.hid (by simp [maxLen]; omega)
   have HL2:Hid (((plTo (illB l) k).length + (intV [(k:Int)]).length) * 8 ≤ 140737488355328):=Lib.hid (by simp; omega)
   have HSZ:Hid (w.heap.size ≤ wr.heap.size):=Lib.hid HR.out.2.size
   obtain ⟨s,lo,hi',ini⟩:=v
   simp only at c0 c1 c2 c3
   have HRA:=Lib.hid (HR.out.keep (KitC.below_one wr (.cells #[.string s,.int .i64 lo,.int .i64 hi',.int .i64 ini] 35)))
   have HOK:Hid (rangeR ⟨s,lo,hi',ini⟩ = (decide (lo ≤ ini) && (decide (ini ≤ hi') && decide (hi' - lo < 64)))):=Lib.hid rfl
   have HYES:=Lib.hid (fun h => plTo_yes (f:=illB l) (k:=k) h)
   have HNO:=Lib.hid (fun h => plTo_no (f:=illB l) (k:=k) h)
   clear hv hll
   by_cases e1:hi' < lo
   ·have g1:decide (hi' < lo) = true:=by simpa using e1
    have HS:=Lib.hid (HYES.out (by rw [HIL.out,HOK.out]; simp; omega))
    clear e1 hvf
    go_wp2_with (at_builtin; refine wpList_append_rd _ rfl (.tmp 42) (.tmp 44) _ rfl w.heap.size 3 i0 (.int .i64 0) 8 Try.underlying54 HI.out.1 HI.out.2.1 HI.out.2.2.1 HI.out.2.2.2 rfl _ _ _ rfl (HRA.out.1.alloc _) _ (intV [(k:Int)]) rfl (lit_here (by simp) rfl rfl) (intV_one _) HL1.out HL2.out ?_ ?_; (have:=HSZ.out; simp; omega); intro p2 w2 hrow2 hg2 _; have HR2:=Lib.hid (RowI.add HRA.out hrow2 hg2); clear hrow2 hg2)
    go_roundw
    case rel => exact ⟨k + 1,hlt,by simp,Lib.hid (by rw [HS.out]; exact HR2.out)⟩
    case measure => simp [intOf]; omega
   have g1:decide (hi' < lo) = false:=by simpa using e1
   have hwr:=u64_span hvf.1 hvf.2.2.2 (by omega:lo ≤ hi')
   have hkeep:=hvf
   clear hvf
   by_cases e2:64 ≤ hi' - lo
   ·have g2:decide (64 ≤ hi' - lo) = true:=by simpa using e2
    have HS:=Lib.hid (HYES.out (by rw [HIL.out,HOK.out]; simp; omega))
    clear e1 e2 hkeep
    go_wp2_with (at_builtin; refine wpList_append_rd _ rfl (.tmp 42) (.tmp 44) _ rfl w.heap.size 3 i0 (.int .i64 0) 8 Try.underlying54 HI.out.1 HI.out.2.1 HI.out.2.2.1 HI.out.2.2.2 rfl _ _ _ rfl (HRA.out.1.alloc _) _ (intV [(k:Int)]) rfl (lit_here (by simp) rfl rfl) (intV_one _) HL1.out HL2.out ?_ ?_; (have:=HSZ.out; simp; omega); intro p2 w2 hrow2 hg2 _; have HR2:=Lib.hid (RowI.add HRA.out hrow2 hg2); clear hrow2 hg2)
    go_roundw
    case rel => exact ⟨k + 1,hlt,by simp,Lib.hid (by rw [HS.out]; exact HR2.out)⟩
    case measure => simp [intOf]; omega
   have g2:decide (64 ≤ hi' - lo) = false:=by simpa using e2
   by_cases e3:ini < lo
   ·have g3:decide (ini < lo) = true:=by simpa using e3
    have HS:=Lib.hid (HYES.out (by rw [HIL.out,HOK.out]; simp; omega))
    clear e1 e2 e3 hkeep
    go_wp2_with (at_builtin; refine wpList_append_rd _ rfl (.tmp 42) (.tmp 44) _ rfl w.heap.size 3 i0 (.int .i64 0) 8 Try.underlying54 HI.out.1 HI.out.2.1 HI.out.2.2.1 HI.out.2.2.2 rfl _ _ _ rfl (HRA.out.1.alloc _) _ (intV [(k:Int)]) rfl (lit_here (by simp) rfl rfl) (intV_one _) HL1.out HL2.out ?_ ?_; (have:=HSZ.out; simp; omega); intro p2 w2 hrow2 hg2 _; have HR2:=Lib.hid (RowI.add HRA.out hrow2 hg2); clear hrow2 hg2)
    go_roundw
    case rel => exact ⟨k + 1,hlt,by simp,Lib.hid (by rw [HS.out]; exact HR2.out)⟩
    case measure => simp [intOf]; omega
   have g3:decide (ini < lo) = false:=by simpa using e3
   by_cases e4:hi' < ini
   ·have g4:decide (hi' < ini) = true:=by simpa using e4
    have HS:=Lib.hid (HYES.out (by rw [HIL.out,HOK.out]; simp; omega))
    clear e1 e2 e3 e4 hkeep
    go_wp2_with (at_builtin; refine wpList_append_rd _ rfl (.tmp 42) (.tmp 44) _ rfl w.heap.size 3 i0 (.int .i64 0) 8 Try.underlying54 HI.out.1 HI.out.2.1 HI.out.2.2.1 HI.out.2.2.2 rfl _ _ _ rfl (HRA.out.1.alloc _) _ (intV [(k:Int)]) rfl (lit_here (by simp) rfl rfl) (intV_one _) HL1.out HL2.out ?_ ?_; (have:=HSZ.out; simp; omega); intro p2 w2 hrow2 hg2 _; have HR2:=Lib.hid (RowI.add HRA.out hrow2 hg2); clear hrow2 hg2)
    go_roundw
    case rel => exact ⟨k + 1,hlt,by simp,Lib.hid (by rw [HS.out]; exact HR2.out)⟩
    case measure => simp [intOf]; omega
   have g4:decide (hi' < ini) = false:=by simpa using e4
   have HS:=Lib.hid (HNO.out (by rw [HIL.out,HOK.out]; simp; omega))
   clear e1 e2 e3 e4 hkeep
   go_wp2_with fail
   go_roundw
   case rel => exact ⟨k + 1,hlt,by simp,Lib.hid (by rw [HS.out]; exact HRA.out)⟩
   case measure => simp [intOf]; omega
  ·obtain rfl:k = n:=by omega
   go_wp2_with fail
   go_ret
   exact HR.out.ret
theorem kids_of {l:List Sh} {i:Nat} (hc:ShapeSpec.chk l = 0) (hi:i < l.length):kidsA l i = kids l i:=by
 unfold kidsA
 rw [if_pos (by simp [hasB,hc,hi])]
 rfl
theorem loneB_at {l:List Sh} {i:Nat} {k:Int} {ks:List Int} (hk:ShapeSpec.kind l i = k) (hs:kids l i = ks):loneB l i = decide ((ks.length:Int) < mustK k):=by unfold loneB; rw [hk,hs]
set_option maxRecDepth 100000 in
set_option maxHeartbeats 4000000 in
theorem lonely_any (A:Option Addr) (n c:Nat) (l:List Sx) (w:World) (h:StsP w (.slice A n c) l) (hm:n ≤ 1000000) (hc:ShapeSpec.chk (l.map shOf) = 0) :
 Calls Try.prog 27 #[.slice A n c] w (RetInts w (plTo (loneB (l.map shOf)) l.length)):=by
 have hn:=h.len.1
 have HV:=Lib.hid (fun W (hW:Below w.heap.size w W) => h.keep hW)
 have HK:=Lib.hid (fun (i:Nat) W (hW:Below w.heap.size w W) => shkids_row A n c (l.map shOf) (i:Int) W (h.keep hW).sts (by omega))
 have HKI:=Lib.hid (fun (i:Nat) (hi:i < n) => kids_of (i:=i) hc (by rw [List.length_map,← hn]; exact hi))
 have HN:=Lib.hid hn
 obtain ⟨i0,hi,hz0,hz1,hz2⟩:=info_parts inf_int
 have HI:=Lib.hid (And.intro hi (And.intro hz0 (And.intro hz1 hz2)))
 rw [← hn]
 clear h hn hc hi hz0 hz1 hz2
 go_enter Try.func27,Try.ntmps27
 go_wp2_with fail
 go_loopw [3,9] (fun p i wr => PlRel w (loneB (l.map shOf)) n p i wr) (fun _ i _ => n - (intOf i).toNat)
 case atStart => exact ⟨0,Nat.zero_le _,rfl,Lib.hid (RowI.nil _ _ (Below.refl _ _))⟩
 case round =>
  obtain ⟨k,hk,rfl,HR⟩:=hrel
  by_cases hlt:k < n
  ·obtain ⟨v,hv⟩:∃ v,l[k]? = some v:=get_some (by rw [← HN.out]; exact hlt)
   obtain ⟨b,off,a3,n3,m3,a4,n4,m4,a5,n5,m5,heq,hb,c0,c1,c2,c3,c4,c5,-,-,-⟩:=(HV.out _ HR.out.2).at_ hv
   have HIL:=Lib.hid (loneB_at (l:=l.map shOf) (i:=k) (k:=v.kind) (ks:=kids (l.map shOf) k) (by rw [ShapeSpec.kind_at (by rw [List.getElem?_map,hv]; rfl)]; rfl) rfl)
   have hll:=plTo_length (loneB (l.map shOf)) k
   have HL1:Hid ((plTo (loneB (l.map shOf)) k).length + (intV [(k:Int)]).length ≤ maxLen):=Lib.hid (by simp [maxLen]; omega)
   have HL2:Hid (((plTo (loneB (l.map shOf)) k).length + (intV [(k:Int)]).length) * 8 ≤ 140737488355328):=Lib.hid (by simp; omega)
   have HKK:=Lib.hid (HK.out k)
   rw [HKI.out k hlt] at HKK
   obtain ⟨ks,hks⟩:∃ ks,ks = kids (l.map shOf) k:=⟨_,rfl⟩
   have hkl:ks.length ≤ 1000000:=by rw [hks]; have:=ShapeSpec.kids_le (l.map shOf) k (l.map shOf).length; rw [List.length_map] at this; have h2:=HN.out; show (kidsTo _ _ _).length ≤ _; rw [List.length_map]; omega
   rw [← hks] at HIL HKK
   obtain ⟨s,kd,pr,en,ex,tr⟩:=v
   simp only at c0 c1 c2 HIL
   have HRA:=Lib.hid (HR.out.keep (KitC.below_one wr (.cells #[.string s,.int .i64 kd,.int .i64 pr,.slice a3 n3 m3,.slice a4 n4 m4,.slice a5 n5 m5] 39)))
   have HYES:=Lib.hid (fun h => plTo_yes (f:=loneB (l.map shOf)) (k:=k) h)
   have HNO:=Lib.hid (fun h => plTo_no (f:=loneB (l.map shOf)) (k:=k) h)
   clear hv hll hks
   subst heq
   by_cases k2:kd = 2
   ·subst k2
    by_cases e:ks.length < 1
    ·have g1:decide ((ks.length:Int) < 1) = true:=by simp; omega
     have HS:=Lib.hid (HYES.out (by rw [HIL.out]; show decide ((ks.length:Int) < 1) = true; simp; omega))
     clear e
     go_wp2_with (go_at_call 38; go_fit (HKK.out _ HRA.out.2))
     rintro e w3 ⟨A3,n3',c3',rfl,hn3,hrk⟩
     have HR3:=Lib.hid (HRA.out.keep hrk.2)
     have HSZ:Hid (w.heap.size ≤ w3.heap.size):=Lib.hid HR3.out.2.size
     subst hn3
     clear hrk
     go_wp2_with (at_builtin; refine wpList_append_rd _ rfl (.tmp 30) (.tmp 32) _ rfl w.heap.size 3 i0 (.int .i64 0) 8 Try.underlying54 HI.out.1 HI.out.2.1 HI.out.2.2.1 HI.out.2.2.2 rfl _ _ _ rfl (HR3.out.1.alloc _) _ (intV [(k:Int)]) rfl (lit_here rfl rfl rfl) (intV_one _) HL1.out HL2.out ?_ ?_; (have:=HSZ.out; simp; omega); intro p2 w2 hrow2 hg2 _; have HR2:=Lib.hid (RowI.add HR3.out hrow2 hg2); clear hrow2 hg2)
     go_roundw
     case rel => exact ⟨k + 1,hlt,by simp,Lib.hid (by rw [HS.out]; exact HR2.out)⟩
     case measure => simp [intOf]; omega
    ·have g1:decide ((ks.length:Int) < 1) = false:=by simp; omega
     have HS:=Lib.hid (HNO.out (by rw [HIL.out]; show decide ((ks.length:Int) < 1) = false; simp; omega))
     clear e
     go_wp2_with (go_at_call 38; go_fit (HKK.out _ HRA.out.2))
     rintro e w3 ⟨A3,n3',c3',rfl,hn3,hrk⟩
     have HR3:=Lib.hid (HRA.out.keep hrk.2)
     have HSZ:Hid (w.heap.size ≤ w3.heap.size):=Lib.hid HR3.out.2.size
     subst hn3
     clear hrk
     go_wp2_with fail
     go_roundw
     case rel => exact ⟨k + 1,hlt,by simp,Lib.hid (by rw [HS.out]; exact HR3.out)⟩
     case measure => simp [intOf]; omega
   by_cases k3:kd = 3
   ·subst k3
    by_cases e:ks.length < 2
    ·have g1:decide ((ks.length:Int) < 2) = true:=by simp; omega
     have HS:=Lib.hid (HYES.out (by rw [HIL.out]; show decide ((ks.length:Int) < 2) = true; simp; omega))
     clear e
     go_wp2_with (go_at_call 38; go_fit (HKK.out _ HRA.out.2))
     rintro e w3 ⟨A3,n3',c3',rfl,hn3,hrk⟩
     have HR3:=Lib.hid (HRA.out.keep hrk.2)
     have HSZ:Hid (w.heap.size ≤ w3.heap.size):=Lib.hid HR3.out.2.size
     subst hn3
     clear hrk
     go_wp2_with (at_builtin; refine wpList_append_rd _ rfl (.tmp 30) (.tmp 32) _ rfl w.heap.size 3 i0 (.int .i64 0) 8 Try.underlying54 HI.out.1 HI.out.2.1 HI.out.2.2.1 HI.out.2.2.2 rfl _ _ _ rfl (HR3.out.1.alloc _) _ (intV [(k:Int)]) rfl (lit_here rfl rfl rfl) (intV_one _) HL1.out HL2.out ?_ ?_; (have:=HSZ.out; simp; omega); intro p2 w2 hrow2 hg2 _; have HR2:=Lib.hid (RowI.add HR3.out hrow2 hg2); clear hrow2 hg2)
     go_roundw
     case rel => exact ⟨k + 1,hlt,by simp,Lib.hid (by rw [HS.out]; exact HR2.out)⟩
     case measure => simp [intOf]; omega
    ·have g1:decide ((ks.length:Int) < 2) = false:=by simp; omega
     have HS:=Lib.hid (HNO.out (by rw [HIL.out]; show decide ((ks.length:Int) < 2) = false; simp; omega))
     clear e
     go_wp2_with (go_at_call 38; go_fit (HKK.out _ HRA.out.2))
     rintro e w3 ⟨A3,n3',c3',rfl,hn3,hrk⟩
     have HR3:=Lib.hid (HRA.out.keep hrk.2)
     have HSZ:Hid (w.heap.size ≤ w3.heap.size):=Lib.hid HR3.out.2.size
     subst hn3
     clear hrk
     go_wp2_with fail
     go_roundw
     case rel => exact ⟨k + 1,hlt,by simp,Lib.hid (by rw [HS.out]; exact HR3.out)⟩
     case measure => simp [intOf]; omega
   have g2:(kd == 2) = false:=by simpa using k2
   have g3:(kd == 3) = false:=by simpa using k3
   have HS:=Lib.hid (HNO.out (by rw [HIL.out]; unfold mustK; rw [if_neg k2,if_neg k3]; simp))
   clear k2 k3
   go_wp2_with fail
   go_roundw
   case rel => exact ⟨k + 1,hlt,by simp,Lib.hid (by rw [HS.out]; exact HRA.out)⟩
   case measure => simp [intOf]; omega
  ·obtain rfl:k = n:=by omega
   go_wp2_with fail
   go_ret
   exact HR.out.ret
end Go.Proofs.Ytbdalbpackfejaa