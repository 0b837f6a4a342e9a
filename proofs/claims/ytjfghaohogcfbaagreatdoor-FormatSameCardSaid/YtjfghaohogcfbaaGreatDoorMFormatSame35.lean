/- SynChart, FormSame, joined. -/
import Derived.Test.YtjfghaohogcfbaaGreatDoorMFormatSame34
import Derived.Deep.DeepFit
namespace Go.Proofs.YtjfghaohogcfbaaGreatDoor
open Go.RowKit Go.Sort TermSpec EvalSpec ActSpec NamesSpec ExprSpec TransSpec SynSpec PrintSpec Go.BigFrame
set_option maxRecDepth 100000
theorem eq_vyes (v:Vr) (w:World):(Op.equalIn 10000 53 (.agg #[.string v.s,.int .i64 v.lo,.int .i64 v.hi,.int .i64 v.ini]) (.agg #[.string v.s,.int .i64 v.lo,.int .i64 v.hi,.int .i64 v.ini])).run Tryz.prog w = .ok true w:=by rw [eq_var]; simp
theorem vr_ne {t u:Vr} (h:t ≠ u):t.s ≠ u.s ∨ (t.s = u.s ∧ (t.lo ≠ u.lo ∨ t.hi ≠ u.hi ∨ t.ini ≠ u.ini)):=by
 obtain ⟨a,b,c,d⟩:=t
 obtain ⟨a',b',c',d'⟩:=u
 by_cases h1:a = a'
 ·subst h1
  refine .inr ⟨rfl,?_⟩
  by_cases h2:b = b'
  ·by_cases h3:c = c'
   ·exact .inr (.inr fun h4 => h (by simp only at h4; rw [h2,h3,h4]))
   ·exact .inr (.inl h3)
  ·exact .inl h2
 ·exact .inl h1
theorem eq_vno {t u:Vr} (h:t ≠ u) (w:World):(Op.equalIn 10000 53 (.agg #[.string t.s,.int .i64 t.lo,.int .i64 t.hi,.int .i64 t.ini]) (.agg #[.string u.s,.int .i64 u.lo,.int .i64 u.hi,.int .i64 u.ini])).run Tryz.prog w = .ok false w:=by
 rw [eq_var]
 congr 1
 rcases vr_ne h with h | ⟨_,h | h | h⟩
 ·simp [bne_bytes h]
 ·simp [h]
 ·simp [h]
 ·simp [h]
def FewC (x:Cx):Prop:=x.evs.length ≤ 4398046511104 ∧ x.vars.length ≤ 4398046511104 ∧ x.sts.length ≤ 4398046511104 ∧ ∀ s ∈ x.sts,FewX s
def VGRel (W:World) (l m:List Vr) (n:Nat) (v:Value) (w:World):Prop:=∃ k:Nat,k ≤ n ∧ v = .int .i64 k ∧ l.take k = m.take k ∧ Below W.heap.size W w
set_option maxRecDepth 100000 in
set_option maxHeartbeats 4000000 in
theorem csame_any (x y:Cx) (b:Bool) (hb:b = true ↔ x = y) (eA:Option Addr) (en ec:Nat) (vA:Option Addr) (vn vc:Nat) (sA:Option Addr) (sn sc:Nat) (fA:Option Addr) (fn fc:Nat) (uA:Option Addr) (un uc:Nat) (rA:Option Addr) (rn rc:Nat) (w:World)
 (h1:ChIn w (.slice eA en ec) (.slice vA vn vc) (.slice sA sn sc) x) (h2:ChIn w (.slice fA fn fc) (.slice uA un uc) (.slice rA rn rc) y) (hfew:FewC x) :
 Calls Tryz.prog 12 #[.agg #[.string x.s,.slice eA en ec,.slice vA vn vc,.slice sA sn sc],.agg #[.string y.s,.slice fA fn fc,.slice uA un uc,.slice rA rn rc]] w (RetB w b):=by
 obtain ⟨W1,hW1⟩:∃ W1,(w.alloc (chO x.s (.slice eA en ec) (.slice vA vn vc) (.slice sA sn sc))).alloc (chO y.s (.slice fA fn fc) (.slice uA un uc) (.slice rA rn rc)) = W1:=⟨_,rfl⟩
 obtain ⟨k1,k2,hB1,-⟩:=KitC.pair_blocks (o:=chO x.s (.slice eA en ec) (.slice vA vn vc) (.slice sA sn sc)) (p:=chO y.s (.slice fA fn fc) (.slice uA un uc) (.slice rA rn rc)) (w:=w) (Below.refl _ _)
 rw [hW1] at k1 k2 hB1
 have HK:=Lib.hid (fun W (hW:Below W1.heap.size W1 W) => And.intro (cells_4 (KitC.block_on k1 hW)) (cells_4 (KitC.block_on k2 hW)))
 obtain ⟨qe,hqe⟩:=some_bool (x.evs = y.evs)
 obtain ⟨qs,hqs⟩:=some_bool (x.sts = y.sts)
 obtain ⟨hvn,hvc⟩:=RdV.len h1.vars
 obtain ⟨hun,huc⟩:=RdV.len h2.vars
 have HE1:=Lib.hid (fun W (hW:Below W1.heap.size W1 W) => texts_any _ _ x.evs y.evs W (h1.keep (below_two' hB1 hW)).evs (h2.keep (below_two' hB1 hW)).evs (Nat.le_trans hfew.1 (by decide)))
 have HS1:=Lib.hid (fun W (hW:Below W1.heap.size W1 W) => states_any sA rA sn rn sc rc x.sts y.sts qs hqs W (h1.keep (below_two' hB1 hW)).sts (h2.keep (below_two' hB1 hW)).sts (by rw [h1.sts.len.1]; exact hfew.2.2.1) hfew.2.2.2)
 have HV:=Lib.hid (fun W (hW:Below W1.heap.size W1 W) => And.intro ((RdV.vars h1.vars).keep (below_two' hB1 hW)) ((RdV.vars h2.vars).keep (below_two' hB1 hW)))
 have HB1:=Lib.hid hB1
 have HW1:=Lib.hid hW1
 have hm:vn ≤ 4398046511104:=by rw [hvn]; exact hfew.2.1
 have HNO:Hid (¬ (x.s = y.s ∧ x.evs = y.evs ∧ x.vars = y.vars ∧ x.sts = y.sts) → b = false):=Lib.hid (fun h => by
  rcases b with _ | _
  ·rfl
  ·have:=hb.1 rfl
   subst this
   exact absurd ⟨rfl,rfl,rfl,rfl⟩ h)
 have HYES:Hid (x.s = y.s → x.evs = y.evs → x.vars = y.vars → x.sts = y.sts → b = true):=Lib.hid (fun e1 e2 e3 e4 => hb.2 (by
  obtain ⟨a,b,c,d⟩:=x
  obtain ⟨a',b',c',d'⟩:=y
  simp only at e1 e2 e3 e4
  rw [e1,e2,e3,e4]))
 clear h1 h2 hb hW1 hB1 k1 k2 hfew
 obtain ⟨s,evs,vars,sts⟩:=x
 obtain ⟨s',evs',vars',sts'⟩:=y
 simp only at HK HE1 HS1 HV HNO HYES HW1 hqe hqs hvn hun ⊢
 have HN:=Lib.hid hvn
 have HM:=Lib.hid hun
 clear hvn hun
 obtain ⟨⟨x0,x1,x2,x3⟩,y0,y1,y2,y3⟩:=HK.out _ (Below.refl _ _)
 by_cases e1:s = s'
 case neg =>
  have HE:=Lib.hid (HNO.out (fun h => e1 h.1))
  have ge:=bne_bytes e1
  go_enter Tryz.func12,Tryz.ntmps12
  go_wp2_with (rw [HW1.out])
  go_ret
  exact ⟨ret_bool HE.out.symm,HB1.out⟩
 have HSS:=Lib.hid e1
 have ge:(s.toList == s'.toList) = true:=by rw [e1]; simp
 clear e1
 go_enter Tryz.func12,Tryz.ntmps12
 go_wp2_with (rw [HW1.out]; go_at_call 27; (with_reducible refine (HE1.out _ (Below.refl _ _)).mono ?_))
 rintro e w1 ⟨rfl,q,rfl⟩
 have hbq:Below W1.heap.size W1 (W1.drewN q):=below_drewN (Below.refl _ _) q
 generalize W1.drewN q = w1 at hbq ⊢
 have HBQ:=Lib.hid hbq
 clear x0 x1 x2 x3 y0 y1 y2 y3
 obtain ⟨⟨x0,x1,x2,x3⟩,y0,y1,y2,y3⟩:=HK.out _ hbq
 rcases hsv:sameS evs evs' with _ | _
 ·have HE:=Lib.hid (HNO.out (fun h => by have:=of_decide_eq_false hsv; exact this h.2.1))
  clear hsv hbq
  go_wp2_with fail
  go_ret
  exact ⟨ret_bool HE.out.symm,below_two' HB1.out HBQ.out⟩
 have HEV:=Lib.hid (of_decide_eq_true hsv)
 clear hsv hbq
 by_cases hlen:vn = un
 case neg =>
  have HE:=Lib.hid (HNO.out (fun h => hlen (by rw [HN.out,HM.out,h.2.2.1])))
  have gl:((vn:Int) == (un:Int)) = false:=by simp; omega
  have gl':((vn:Int) != (un:Int)) = true:=by simp; omega
  go_wp2_with fail
  go_ret
  exact ⟨ret_bool HE.out.symm,below_two' HB1.out HBQ.out⟩
 subst hlen
 clear HE1
 go_wp2_with fail
 go_loopw [5] (fun v wr => VGRel W1 vars vars' vn v wr) (fun v _ => vn - (intOf v).toNat)
 case atStart => exact ⟨0,Nat.zero_le _,rfl,rfl,HBQ.out⟩
 case round =>
  obtain ⟨k,hk,rfl,htk,hbw⟩:=hrel
  clear x0 x1 x2 x3 y0 y1 y2 y3
  obtain ⟨⟨x0,x1,x2,x3⟩,y0,y1,y2,y3⟩:=HK.out _ hbw
  have HW:=Lib.hid hbw
  have HTK:=Lib.hid htk
  clear htk
  by_cases hlt:k < vn
  ·obtain ⟨t,ht⟩:∃ t,vars[k]? = some t:=get_some (by rw [← HN.out]; exact hlt)
   obtain ⟨u,hu⟩:∃ u,vars'[k]? = some u:=get_some (by rw [← HM.out]; exact hlt)
   obtain ⟨b1,o1,rfl,hb1,p0,p1,p2,p3⟩:=(HV.out _ hbw).1.at_ ht
   obtain ⟨b2,o2,rfl,hb2,g0,g1,g2,g3⟩:=(HV.out _ hbw).2.at_ hu
   have hltI:(k:Int) < (vn:Int):=by omega
   clear hbw
   by_cases htu:t = u
   ·subst htu
    have HNX:=Lib.hid (take_same HTK.out ht hu)
    have heq:=eq_vyes t
    obtain ⟨nm,lo,hi,ini⟩:=t
    simp only at p0 p1 p2 p3 g0 g1 g2 g3 heq
    clear ht hu
    go_wp2_with fail
    go_big_quiet (fail)
    go_wp2_with fail
    go_roundw
    case rel => exact ⟨k + 1,hlt,by go_num,HNX.out,below_drewN HW.out _⟩
    case measure => simp [intOf]; omega
   ·have HE:=Lib.hid (HNO.out (fun h => list_ne ht hu htu h.2.2.1))
    have heq:=eq_vno htu
    obtain ⟨nm,lo,hi,ini⟩:=t
    obtain ⟨nm',lo',hi',ini'⟩:=u
    simp only at p0 p1 p2 p3 g0 g1 g2 g3 heq
    clear ht hu htu
    go_wp2_with fail
    go_big_quiet (fail)
    go_wp2_with fail
    go_ret
    exact ⟨ret_bool HE.out.symm,below_two' HB1.out (below_drewN HW.out _)⟩
  ·have HVV:Hid (vars = vars'):=Lib.hid (by
    have:=HTK.out
    rwa [List.take_of_length_le (by rw [← HN.out]; omega),List.take_of_length_le (by rw [← HM.out]; omega)] at this)
   have hltI:¬ (k:Int) < (vn:Int):=by omega
   have hone:∀ f:Field,([f]:List Field)[0]? = some f:=fun _ => rfl
   clear hbw
   go_wp2_with (go_at_call 28; (with_reducible refine (HS1.out _ HW.out).mono ?_))
   rintro e w3 ⟨rfl,hb3⟩
   have HB3:=Lib.hid (below_two' HB1.out (below_two' HW.out hb3))
   have HR:Hid (b = qs):=Lib.hid (by
    rcases qs with _ | _
    ·exact HNO.out (fun h => by have:=hqs.2 h.2.2.2; cases this)
    ·exact HYES.out HSS.out HEV.out HVV.out (hqs.1 rfl))
   clear hb3
   go_wp2_with fail
   go_ret
   exact ⟨ret_bool HR.out.symm,HB3.out⟩
end Go.Proofs.YtjfghaohogcfbaaGreatDoor
namespace Go.Proofs.YtjfghaohogcfbaaGreatDoor
open Go.RowKit Go.Sort TermSpec EvalSpec ActSpec NamesSpec ExprSpec TransSpec SynSpec PrintSpec Go.BigFrame
set_option maxRecDepth 100000
def EqRel {α:Type} (W:World) (l m:List α) (n:Nat) (v:Value) (w:World):Prop:=∃ k:Nat,k ≤ n ∧ v = .int .i64 k ∧ l.take k = m.take k ∧ Below W.heap.size W w
theorem RdS.keep {w w':World} {v:Value} {l:List ByteArray} (h:RdS w v l) (hb:Below w.heap.size w w'):RdS w' v l:=Rd.keep h hb
theorem RdS.len {w:World} {A:Option Addr} {n c:Nat} {l:List ByteArray} (h:RdS w (.slice A n c) l):n = l.length ∧ n ≤ c:=by
 obtain ⟨A',n',c',heq,hn,hc,-⟩:=h
 cases heq
 exact ⟨by rw [hn,strV_length],hc⟩
theorem RdS.at_ {w:World} {A:Option Addr} {n c k:Nat} {l:List ByteArray} {s:ByteArray} (h:RdS w (.slice A n c) l) (hk:l[k]? = some s):∃ b off,A = some ⟨b,off,none⟩ ∧ b < w.heap.size ∧ w.cell? ⟨b,off + k,none⟩ = some (.string s):=by
 obtain ⟨A',n',c',heq,hn,hc,hA⟩:=h
 cases heq
 have:=(List.getElem?_eq_some_iff.1 hk).1
 obtain ⟨b,off,rfl,hb,hcell⟩:=hA (by rw [hn,strV_length]; omega)
 exact ⟨b,off,rfl,hb,hcell k _ (by rw [strV_get,hk]; rfl)⟩
theorem RdV.keep {w w':World} {v:Value} {l:List Vr} (h:RdV w v l) (hb:Below w.heap.size w w'):RdV w' v l:=Rdk.keep h hb
set_option maxHeartbeats 4000000 in
theorem seq_any (A1 A2:Option Addr) (n1 n2 c1 c2:Nat) (l m:List ByteArray) (b:Bool) (hb:b = true ↔ l = m) (w:World) (h1:RdS w (.slice A1 n1 c1) l) (h2:RdS w (.slice A2 n2 c2) m) (hm:n1 ≤ 4398046511104) :
 Calls Tryz.prog 23 #[.slice A1 n1 c1,.slice A2 n2 c2] w (RetB w b):=by
 have hn1:=h1.len.1
 have hn2:=h2.len.1
 have hc1:=h1.len.2
 have hc2:=h2.len.2
 by_cases hnm:n1 = n2
 ·subst hnm
  have HT:=Lib.hid (fun W (hW:Below w.heap.size w W) => And.intro (h1.keep hW) (h2.keep hW))
  have HN:=Lib.hid hn1
  have HM:=Lib.hid hn2
  have HBB:=Lib.hid hb
  clear h1 h2 hn1 hn2 hb
  go_enter Tryz.func23,Tryz.ntmps23
  go_wp2_with fail
  go_loopw [13] (fun v wr => EqRel w l m n1 v wr) (fun v _ => n1 - (intOf v).toNat)
  case atStart => exact ⟨0,Nat.zero_le _,rfl,rfl,Below.refl _ _⟩
  case round =>
   obtain ⟨k,hk,rfl,htk,hbw⟩:=hrel
   by_cases hlt:k < n1
   ·obtain ⟨t,ht⟩:∃ t,l[k]? = some t:=get_some (by rw [← HN.out]; exact hlt)
    obtain ⟨u,hu⟩:∃ u,m[k]? = some u:=get_some (by rw [← HM.out]; exact hlt)
    obtain ⟨b1,o1,rfl,hb1,x0⟩:=(HT.out _ hbw).1.at_ ht
    obtain ⟨b2,o2,rfl,hb2,y0⟩:=(HT.out _ hbw).2.at_ hu
    have hltI:(k:Int) < (n1:Int):=by omega
    have HW:=Lib.hid hbw
    have HTK:=Lib.hid htk
    clear hbw htk
    by_cases htu:t = u
    ·subst htu
     have HNX:=Lib.hid (take_same HTK.out ht hu)
     have heq:(t.toList == t.toList) = true:=by simp
     clear ht hu
     go_wp2_with fail
     go_big_quiet (fail)
     go_wp2_with fail
     go_roundw
     case rel => exact ⟨k + 1,hlt,by go_num,HNX.out,below_drewN HW.out _⟩
     case measure => simp [intOf]; omega
    ·have HST:Hid (b = false):=Lib.hid (by
      have:=list_ne ht hu htu
      rcases b with _ | _
      ·rfl
      ·exact absurd (HBB.out.1 rfl) this)
     have heq:=bne_bytes htu
     clear ht hu htu
     go_wp2_with fail
     go_big_quiet (fail)
     go_wp2_with fail
     go_ret
     exact ⟨ret_bool HST.out.symm,below_drewN HW.out _⟩
   ·have HE:Hid (b = true):=Lib.hid (HBB.out.2 (by
     have h1:=HN.out
     have h2:=HM.out
     rwa [List.take_of_length_le (by omega),List.take_of_length_le (by omega)] at htk))
    have hltI:¬ (k:Int) < (n1:Int):=by omega
    go_wp2_with fail
    go_ret
    exact ⟨ret_bool HE.out.symm,hbw⟩
 ·have HE:Hid (b = false):=Lib.hid (by
   rcases b with _ | _
   ·rfl
   ·exact absurd (by rw [hn1,hn2,hb.1 rfl]) hnm)
  have g:((n1:Int) != (n2:Int)) = true:=by simp; omega
  have g':((n1:Int) == (n2:Int)) = false:=by simp; omega
  clear h1 h2 hn1 hn2 hb
  go_enter Tryz.func23,Tryz.ntmps23
  go_wp2_with fail
  go_ret
  exact ⟨ret_bool HE.out.symm,Below.refl _ _⟩
set_option maxHeartbeats 4000000 in
theorem veq_any (A1 A2:Option Addr) (n1 n2 c1 c2:Nat) (l m:List Vr) (b:Bool) (hb:b = true ↔ l = m) (w:World) (h1:RdV w (.slice A1 n1 c1) l) (h2:RdV w (.slice A2 n2 c2) m) (hm:n1 ≤ 4398046511104) :
 Calls Tryz.prog 24 #[.slice A1 n1 c1,.slice A2 n2 c2] w (RetB w b):=by
 have hn1:=h1.len.1
 have hn2:=h2.len.1
 have hc1:=h1.len.2
 have hc2:=h2.len.2
 by_cases hnm:n1 = n2
 ·subst hnm
  have HT:=Lib.hid (fun W (hW:Below w.heap.size w W) => And.intro (h1.keep hW) (h2.keep hW))
  have HN:=Lib.hid hn1
  have HM:=Lib.hid hn2
  have HBB:=Lib.hid hb
  clear h1 h2 hn1 hn2 hb
  go_enter Tryz.func24,Tryz.ntmps24
  go_wp2_with fail
  go_loopw [13] (fun v wr => EqRel w l m n1 v wr) (fun v _ => n1 - (intOf v).toNat)
  case atStart => exact ⟨0,Nat.zero_le _,rfl,rfl,Below.refl _ _⟩
  case round =>
   obtain ⟨k,hk,rfl,htk,hbw⟩:=hrel
   by_cases hlt:k < n1
   ·obtain ⟨t,ht⟩:∃ t,l[k]? = some t:=get_some (by rw [← HN.out]; exact hlt)
    obtain ⟨u,hu⟩:∃ u,m[k]? = some u:=get_some (by rw [← HM.out]; exact hlt)
    obtain ⟨b1,o1,rfl,hb1,x0,x1,x2,x3⟩:=(RdV.vars (HT.out _ hbw).1).at_ ht
    obtain ⟨b2,o2,rfl,hb2,y0,y1,y2,y3⟩:=(RdV.vars (HT.out _ hbw).2).at_ hu
    have hltI:(k:Int) < (n1:Int):=by omega
    have HW:=Lib.hid hbw
    have HTK:=Lib.hid htk
    clear hbw htk
    by_cases htu:t = u
    ·subst htu
     have HNX:=Lib.hid (take_same HTK.out ht hu)
     have heq:=eq_vyes t
     obtain ⟨nm,lo,hi,ini⟩:=t
     simp only at x0 x1 x2 x3 y0 y1 y2 y3 heq
     clear ht hu
     go_wp2_with fail
     go_big_quiet (fail)
     go_wp2_with fail
     go_roundw
     case rel => exact ⟨k + 1,hlt,by go_num,HNX.out,below_drewN HW.out _⟩
     case measure => simp [intOf]; omega
    ·have HST:Hid (b = false):=Lib.hid (by
      have:=list_ne ht hu htu
      rcases b with _ | _
      ·rfl
      ·exact absurd (HBB.out.1 rfl) this)
     have heq:=eq_vno htu
     obtain ⟨nm,lo,hi,ini⟩:=t
     obtain ⟨nm',lo',hi',ini'⟩:=u
     simp only at x0 x1 x2 x3 y0 y1 y2 y3 heq
     clear ht hu htu
     go_wp2_with fail
     go_big_quiet (fail)
     go_wp2_with fail
     go_ret
     exact ⟨ret_bool HST.out.symm,below_drewN HW.out _⟩
   ·have HE:Hid (b = true):=Lib.hid (HBB.out.2 (by
     have h1:=HN.out
     have h2:=HM.out
     rwa [List.take_of_length_le (by omega),List.take_of_length_le (by omega)] at htk))
    have hltI:¬ (k:Int) < (n1:Int):=by omega
    go_wp2_with fail
    go_ret
    exact ⟨ret_bool HE.out.symm,hbw⟩
 ·have HE:Hid (b = false):=Lib.hid (by
   rcases b with _ | _
   ·rfl
   ·exact absurd (by rw [hn1,hn2,hb.1 rfl]) hnm)
  have g:((n1:Int) != (n2:Int)) = true:=by simp; omega
  have g':((n1:Int) == (n2:Int)) = false:=by simp; omega
  clear h1 h2 hn1 hn2 hb
  go_enter Tryz.func24,Tryz.ntmps24
  go_wp2_with fail
  go_ret
  exact ⟨ret_bool HE.out.symm,Below.refl _ _⟩
set_option maxHeartbeats 4000000 in
theorem treqf_any (A1 A2:Option Addr) (n1 n2 c1 c2:Nat) (l m:List Tr) (b:Bool) (hb:b = true ↔ l = m) (w:World) (h1:Trs w (.slice A1 n1 c1) l) (h2:Trs w (.slice A2 n2 c2) m) (hm:n1 ≤ 4398046511104) (hfew:∀ t ∈ l,FewT t) :
 Calls Tryz.prog 55 #[.slice A1 n1 c1,.slice A2 n2 c2,.func (.func 56) #[] #[]] w (RetB w b):=by
 have hn1:=h1.len.1
 have hn2:=h2.len.1
 have hc1:=h1.len.2
 have hc2:=h2.len.2
 by_cases hnm:n1 = n2
 ·subst hnm
  have HT:=Lib.hid (And.intro h1 h2)
  have HN:=Lib.hid hn1
  have HM:=Lib.hid hn2
  have HBB:=Lib.hid hb
  have HF:=Lib.hid hfew
  clear h1 h2 hn1 hn2 hb hfew
  go_enter Tryz.func55,Tryz.ntmps55
  go_wp2_with fail
  go_loopw [17] (fun v wr => EqRel w l m n1 v wr) (fun v _ => n1 - (intOf v).toNat)
  case atStart => exact ⟨0,Nat.zero_le _,rfl,rfl,Below.refl _ _⟩
  case round =>
   obtain ⟨k,hk,rfl,htk,hbw⟩:=hrel
   by_cases hlt:k < n1
   ·obtain ⟨t,ht⟩:∃ t,l[k]? = some t:=get_some (by rw [← HN.out]; exact hlt)
    obtain ⟨u,hu⟩:∃ u,m[k]? = some u:=get_some (by rw [← HM.out]; exact hlt)
    have hx:=HF.out t (List.mem_of_getElem? ht)
    obtain ⟨b1,o1,gA,gn,gc,aA,an,ac,rfl,hb1,p0,p1,p2,p3,ht1⟩:=(HT.out.1.keep hbw).at_ ht
    obtain ⟨b2,o2,gA',gn',gc',aA',an',ac',rfl,hb2,q0,q1,q2,q3,ht2⟩:=(HT.out.2.keep hbw).at_ hu
    obtain ⟨r,hr⟩:=some_bool (t = u)
    have HS:=Lib.hid (fun W (hW:Below wr.heap.size wr W) => tsame_any t u r hr gA gn gc aA an ac gA' gn' gc' aA' an' ac' W (ht1.keep hW) (ht2.keep hW) hx.1 hx.2.1 hx.2.2)
    have HIF:=Lib.hid hr
    have hltI:(k:Int) < (n1:Int):=by omega
    have hkI:(k:Int) ≤ 4398046511104:=by omega
    have HW:=Lib.hid hbw
    have HTK:=Lib.hid htk
    have HTU:=Lib.hid (And.intro ht hu)
    clear hbw htk hx ht hu hr
    have HNX:Hid (r = true → l.take (k + 1) = m.take (k + 1)):=Lib.hid (fun h => take_same HTK.out HTU.out.1 (by rw [HIF.out.1 h]; exact HTU.out.2))
    have HST:Hid (r = false → b = false):=Lib.hid (fun h => by
     have:=list_ne HTU.out.1 HTU.out.2 (fun e => by rw [HIF.out.2 e] at h; cases h)
     rcases b with _ | _
     ·rfl
     ·exact absurd (HBB.out.1 rfl) this)
    clear ht1 ht2
    obtain ⟨ev,g,acts,tg⟩:=t
    obtain ⟨ev',g',acts',tg'⟩:=u
    simp only at p0 p1 p2 p3 q0 q1 q2 q3 HS
    rcases r with _ | _
    ·have HST':=Lib.hid (HST.out rfl)
     clear HNX HST HIF HTU
     go_wp2_with (go_at_call 56; go_fit (HS.out _ (KitC.below_pair _ _ _)))
     rintro e w2 ⟨rfl,hb⟩
     have HB:=Lib.hid (below_two' HW.out (below_two' (KitC.below_pair _ _ _) hb))
     clear hb
     go_wp2_with fail
     go_ret
     exact ⟨ret_bool HST'.out.symm,HB.out⟩
    ·have HNX':=Lib.hid (HNX.out rfl)
     clear HNX HST HIF HTU
     go_wp2_with (go_at_call 56; go_fit (HS.out _ (KitC.below_pair _ _ _)))
     rintro e w2 ⟨rfl,hb⟩
     have HB:=Lib.hid (below_two' HW.out (below_two' (KitC.below_pair _ _ _) hb))
     clear hb
     go_wp2_with fail
     go_roundw
     case rel => exact ⟨k + 1,hlt,by go_num,HNX'.out,HB.out⟩
     case measure => simp [intOf]; omega
   ·have HE:Hid (b = true):=Lib.hid (HBB.out.2 (by
     have h1:=HN.out
     have h2:=HM.out
     rwa [List.take_of_length_le (by omega),List.take_of_length_le (by omega)] at htk))
    have hltI:¬ (k:Int) < (n1:Int):=by omega
    go_wp2_with fail
    go_ret
    exact ⟨ret_bool HE.out.symm,hbw⟩
 ·have HE:Hid (b = false):=Lib.hid (by
   rcases b with _ | _
   ·rfl
   ·exact absurd (by rw [hn1,hn2,hb.1 rfl]) hnm)
  have g:((n1:Int) != (n2:Int)) = true:=by simp; omega
  have g':((n1:Int) == (n2:Int)) = false:=by simp; omega
  clear h1 h2 hn1 hn2 hb hfew
  go_enter Tryz.func55,Tryz.ntmps55
  go_wp2_with fail
  go_ret
  exact ⟨ret_bool HE.out.symm,Below.refl _ _⟩
theorem tb_acts (A:Option Addr) (n c:Nat) (w:World):(Instr.build 65 #[(2,.slice A n c)]).run Tryz.prog w = .ok (.agg #[.string ⟨#[]⟩,.slice none 0 0,.slice A n c,.string ⟨#[]⟩]) w:=run_build w 65 _ _ (by kernel_rfl)
set_option maxHeartbeats 2000000 in
theorem sacts_any (l m:List Ac) (r:Bool) (hr:r = true ↔ l = m) (A1 A2:Option Addr) (n1 n2 c1 c2:Nat) (w:World) (h1:Acs w (.slice A1 n1 c1) l) (h2:Acs w (.slice A2 n2 c2) m) (hl:l.length ≤ 4398046511104) (hfew:∀ a ∈ l,a.x.length ≤ 4398046511104) :
 Calls Tryz.prog 54 #[.slice A1 n1 c1,.slice A2 n2 c2] w (RetB w r):=by
 have b1:=tb_acts
 have HS:=Lib.hid (tsame_any ⟨⟨#[]⟩,[],l,⟨#[]⟩⟩ ⟨⟨#[]⟩,[],m,⟨#[]⟩⟩ r ⟨fun h => by rw [hr.1 h],fun h => hr.2 (by cases h; rfl)⟩ none 0 0 A1 n1 c1 none 0 0 A2 n2 c2 w ⟨tmsNil w,h1⟩ ⟨tmsNil w,h2⟩ (Nat.zero_le _) hl hfew)
 clear h1 h2 hr hl hfew
 go_enter Tryz.func54,Tryz.ntmps54
 go_wp2_with (go_at_call 56; go_fit HS.out)
 rintro e w2 ⟨rfl,hb⟩
 have HB:=Lib.hid hb
 clear hb
 go_wp2_with fail
 go_ret
 exact ⟨rfl,HB.out⟩
theorem sx_iff {t u:Sx}:t = u ↔ t.s = u.s ∧ t.kind = u.kind ∧ t.par = u.par ∧ t.en = u.en ∧ t.ex = u.ex ∧ t.tr = u.tr:=by
 constructor
 ·rintro rfl; exact ⟨rfl,rfl,rfl,rfl,rfl,rfl⟩
 ·rintro ⟨h1,h2,h3,h4,h5,h6⟩
  obtain ⟨a,b,c,d,e,f⟩:=t
  obtain ⟨a',b',c',d',e',f'⟩:=u
  simp only at h1 h2 h3 h4 h5 h6
  rw [h1,h2,h3,h4,h5,h6]
set_option maxRecDepth 100000 in
set_option maxHeartbeats 4000000 in
theorem sst_any (t u:Sx) (r:Bool) (hr:r = true ↔ t = u) (a3:Option Addr) (n3 c3:Nat) (a4:Option Addr) (n4 c4:Nat) (a5:Option Addr) (n5 c5:Nat) (d3:Option Addr) (q3 e3:Nat) (d4:Option Addr) (q4 e4:Nat) (d5:Option Addr) (q5 e5:Nat) (w:World)
 (i3:Acs w (.slice a3 n3 c3) t.en) (i4:Acs w (.slice a4 n4 c4) t.ex) (i5:Trs w (.slice a5 n5 c5) t.tr) (j3:Acs w (.slice d3 q3 e3) u.en) (j4:Acs w (.slice d4 q4 e4) u.ex) (j5:Trs w (.slice d5 q5 e5) u.tr) (hx:FewX t) :
 Calls Tryz.prog 26 #[.agg #[.string t.s,.int .i64 t.kind,.int .i64 t.par,.slice a3 n3 c3,.slice a4 n4 c4,.slice a5 n5 c5],.agg #[.string u.s,.int .i64 u.kind,.int .i64 u.par,.slice d3 q3 e3,.slice d4 q4 e4,.slice d5 q5 e5]] w (RetB w r):=by
 obtain ⟨qe,hqe⟩:=some_bool (t.en = u.en)
 obtain ⟨qx,hqx⟩:=some_bool (t.ex = u.ex)
 obtain ⟨qt,hqt⟩:=some_bool (t.tr = u.tr)
 have H1:=Lib.hid (fun W (hW:Below w.heap.size w W) => sacts_any t.en u.en qe hqe a3 d3 n3 q3 c3 e3 W (i3.keep hW) (j3.keep hW) hx.1 hx.2.1)
 have H2:=Lib.hid (fun W (hW:Below w.heap.size w W) => sacts_any t.ex u.ex qx hqx a4 d4 n4 q4 c4 e4 W (i4.keep hW) (j4.keep hW) hx.2.2.1 hx.2.2.2.1)
 have H3:=Lib.hid (fun W (hW:Below w.heap.size w W) => treqf_any a5 d5 n5 q5 c5 e5 t.tr u.tr qt hqt W (i5.keep hW) (j5.keep hW) (by rw [i5.len.1]; exact hx.2.2.2.2.1) hx.2.2.2.2.2)
 have HR:Hid (r = ((t.s.toList == u.s.toList) && ((t.kind == u.kind) && ((t.par == u.par) && (qe && (qx && qt)))))):=Lib.hid (by
  rw [Bool.eq_iff_iff,hr,sx_iff]
  simp only [Bool.and_eq_true,beq_iff_eq,hqe,hqx,hqt]
  constructor
  ·rintro ⟨h1,h⟩; exact ⟨by rw [h1],h⟩
  ·rintro ⟨h1,h⟩; exact ⟨bytes_eq (x:=t.s) (y:=u.s) (by simpa using h1),h⟩)
 obtain ⟨s,kind,par,en,ex,tr⟩:=t
 obtain ⟨s',kind',par',en',ex',tr'⟩:=u
 simp only at HR ⊢
 clear hqe hqx hqt hr i3 i4 i5 j3 j4 j5 hx
 have HK:=Lib.hid (fun W (hW:Below ((w.alloc (.cells #[.string s,.int .i64 kind,.int .i64 par,.slice a3 n3 c3,.slice a4 n4 c4,.slice a5 n5 c5] 58)).alloc (.cells #[.string s',.int .i64 kind',.int .i64 par',.slice d3 q3 e3,.slice d4 q4 e4,.slice d5 q5 e5] 58)).heap.size ((w.alloc (.cells #[.string s,.int .i64 kind,.int .i64 par,.slice a3 n3 c3,.slice a4 n4 c4,.slice a5 n5 c5] 58)).alloc (.cells #[.string s',.int .i64 kind',.int .i64 par',.slice d3 q3 e3,.slice d4 q4 e4,.slice d5 q5 e5] 58)) W) => KitC.pair_blocks hW)
 go_enter Tryz.func26,Tryz.ntmps26
 rcases g1:(s.toList == s'.toList) with _ | _
 ·rw [g1] at HR
  go_wp2_with fail
  go_ret
  exact ⟨ret_bool HR.out.symm,KitC.below_pair _ _ _⟩
 rcases g2:(kind == kind') with _ | _
 ·rw [g1,g2] at HR
  go_wp2_with fail
  go_ret
  exact ⟨ret_bool HR.out.symm,KitC.below_pair _ _ _⟩
 rcases g3:(par == par') with _ | _
 ·rw [g1,g2,g3] at HR
  go_wp2_with fail
  go_ret
  exact ⟨ret_bool HR.out.symm,KitC.below_pair _ _ _⟩
 rw [g1,g2,g3] at HR
 go_wp2_with (go_at_call 54; go_fit (H1.out _ (KitC.below_pair _ _ _)))
 rintro e w1 ⟨rfl,hb⟩
 have HB1:=Lib.hid hb
 obtain ⟨k1,k2,-,-⟩:=HK.out _ HB1.out
 obtain ⟨c0,c1,c2,cc3,cc4,cc5⟩:=cells_6 k1
 obtain ⟨m0,m1,m2,m3,m4,m5⟩:=cells_6 k2
 clear hb k1 k2
 rcases qe with _ | _
 ·go_wp2_with fail
  go_ret
  exact ⟨ret_bool HR.out.symm,(HK.out _ HB1.out).2.2.1⟩
 go_wp2_with (go_at_call 54; go_fit (H2.out _ (HK.out _ HB1.out).2.2.1))
 rintro e w2 ⟨rfl,hb⟩
 have HB2:=Lib.hid (below_two' HB1.out hb)
 clear hb c0 c1 c2 cc3 cc4 cc5 m0 m1 m2 m3 m4 m5
 obtain ⟨k1,k2,-,-⟩:=HK.out _ HB2.out
 obtain ⟨c0,c1,c2,cc3,cc4,cc5⟩:=cells_6 k1
 obtain ⟨m0,m1,m2,m3,m4,m5⟩:=cells_6 k2
 clear k1 k2
 rcases qx with _ | _
 ·go_wp2_with fail
  go_ret
  exact ⟨ret_bool HR.out.symm,(HK.out _ HB2.out).2.2.1⟩
 go_wp2_with (go_at_call 55; go_fit (H3.out _ (HK.out _ HB2.out).2.2.1))
 rintro e w3 ⟨rfl,hb⟩
 have HB3:=Lib.hid (below_two' HB2.out hb)
 clear hb
 go_wp2_with fail
 go_ret
 exact ⟨ret_bool HR.out.symm,(HK.out _ HB3.out).2.2.1⟩
set_option maxHeartbeats 4000000 in
theorem steqf_any (A1 A2:Option Addr) (n1 n2 c1 c2:Nat) (l m:List Sx) (b:Bool) (hb:b = true ↔ l = m) (w:World) (h1:StsP w (.slice A1 n1 c1) l) (h2:StsP w (.slice A2 n2 c2) m) (hm:n1 ≤ 4398046511104) (hfew:∀ t ∈ l,FewX t) :
 Calls Tryz.prog 25 #[.slice A1 n1 c1,.slice A2 n2 c2,.func (.func 26) #[] #[]] w (RetB w b):=by
 have hn1:=h1.len.1
 have hn2:=h2.len.1
 have hc1:=h1.len.2
 have hc2:=h2.len.2
 by_cases hnm:n1 = n2
 ·subst hnm
  have HT:=Lib.hid (And.intro h1 h2)
  have HN:=Lib.hid hn1
  have HM:=Lib.hid hn2
  have HBB:=Lib.hid hb
  have HF:=Lib.hid hfew
  clear h1 h2 hn1 hn2 hb hfew
  go_enter Tryz.func25,Tryz.ntmps25
  go_wp2_with fail
  go_loopw [17] (fun v wr => EqRel w l m n1 v wr) (fun v _ => n1 - (intOf v).toNat)
  case atStart => exact ⟨0,Nat.zero_le _,rfl,rfl,Below.refl _ _⟩
  case round =>
   obtain ⟨k,hk,rfl,htk,hbw⟩:=hrel
   by_cases hlt:k < n1
   ·obtain ⟨t,ht⟩:∃ t,l[k]? = some t:=get_some (by rw [← HN.out]; exact hlt)
    obtain ⟨u,hu⟩:∃ u,m[k]? = some u:=get_some (by rw [← HM.out]; exact hlt)
    have hx:=HF.out t (List.mem_of_getElem? ht)
    obtain ⟨b1,o1,a3,n3,m3,a4,n4,m4,a5,n5,m5,rfl,hb1,p0,p1,p2,p3,p4,p5,i3,i4,i5⟩:=(HT.out.1.keep hbw).at_ ht
    obtain ⟨b2,o2,d3,q3,r3,d4,q4,r4,d5,q5,r5,rfl,hb2,g0,g1,g2,g3,g4,g5,j3,j4,j5⟩:=(HT.out.2.keep hbw).at_ hu
    obtain ⟨r,hr⟩:=some_bool (t = u)
    have HS:=Lib.hid (fun W (hW:Below wr.heap.size wr W) => sst_any t u r hr a3 n3 m3 a4 n4 m4 a5 n5 m5 d3 q3 r3 d4 q4 r4 d5 q5 r5 W (i3.keep hW) (i4.keep hW) (i5.keep hW) (j3.keep hW) (j4.keep hW) (j5.keep hW) hx)
    have HIF:=Lib.hid hr
    have hltI:(k:Int) < (n1:Int):=by omega
    have hkI:(k:Int) ≤ 4398046511104:=by omega
    have HW:=Lib.hid hbw
    have HTK:=Lib.hid htk
    have HTU:=Lib.hid (And.intro ht hu)
    clear hbw htk hx ht hu hr
    have HNX:Hid (r = true → l.take (k + 1) = m.take (k + 1)):=Lib.hid (fun h => take_same HTK.out HTU.out.1 (by rw [HIF.out.1 h]; exact HTU.out.2))
    have HST:Hid (r = false → b = false):=Lib.hid (fun h => by
     have:=list_ne HTU.out.1 HTU.out.2 (fun e => by rw [HIF.out.2 e] at h; cases h)
     rcases b with _ | _
     ·rfl
     ·exact absurd (HBB.out.1 rfl) this)
    clear i3 i4 i5 j3 j4 j5
    obtain ⟨s,kind,par,en,ex,tr⟩:=t
    obtain ⟨s',kind',par',en',ex',tr'⟩:=u
    simp only at p0 p1 p2 g0 g1 g2 HS
    rcases r with _ | _
    ·have HST':=Lib.hid (HST.out rfl)
     clear HNX HST HIF HTU
     go_wp2_with (go_at_call 26; go_fit (HS.out _ (KitC.below_pair _ _ _)))
     rintro e w2 ⟨rfl,hb⟩
     have HB:=Lib.hid (below_two' HW.out (below_two' (KitC.below_pair _ _ _) hb))
     clear hb
     go_wp2_with fail
     go_ret
     exact ⟨ret_bool HST'.out.symm,HB.out⟩
    ·have HNX':=Lib.hid (HNX.out rfl)
     clear HNX HST HIF HTU
     go_wp2_with (go_at_call 26; go_fit (HS.out _ (KitC.below_pair _ _ _)))
     rintro e w2 ⟨rfl,hb⟩
     have HB:=Lib.hid (below_two' HW.out (below_two' (KitC.below_pair _ _ _) hb))
     clear hb
     go_wp2_with fail
     go_roundw
     case rel => exact ⟨k + 1,hlt,by go_num,HNX'.out,HB.out⟩
     case measure => simp [intOf]; omega
   ·have HE:Hid (b = true):=Lib.hid (HBB.out.2 (by
     have h1:=HN.out
     have h2:=HM.out
     rwa [List.take_of_length_le (by omega),List.take_of_length_le (by omega)] at htk))
    have hltI:¬ (k:Int) < (n1:Int):=by omega
    go_wp2_with fail
    go_ret
    exact ⟨ret_bool HE.out.symm,hbw⟩
 ·have HE:Hid (b = false):=Lib.hid (by
   rcases b with _ | _
   ·rfl
   ·exact absurd (by rw [hn1,hn2,hb.1 rfl]) hnm)
  have g:((n1:Int) != (n2:Int)) = true:=by simp; omega
  have g':((n1:Int) == (n2:Int)) = false:=by simp; omega
  clear h1 h2 hn1 hn2 hb hfew
  go_enter Tryz.func25,Tryz.ntmps25
  go_wp2_with fail
  go_ret
  exact ⟨ret_bool HE.out.symm,Below.refl _ _⟩
theorem cx_iff {x y:Cx}:x = y ↔ x.s = y.s ∧ x.evs = y.evs ∧ x.vars = y.vars ∧ x.sts = y.sts:=by
 constructor
 ·rintro rfl; exact ⟨rfl,rfl,rfl,rfl⟩
 ·rintro ⟨h1,h2,h3,h4⟩
  obtain ⟨a,b,c,d⟩:=x
  obtain ⟨a',b',c',d'⟩:=y
  simp only at h1 h2 h3 h4
  rw [h1,h2,h3,h4]
set_option maxRecDepth 100000 in
set_option maxHeartbeats 4000000 in
theorem fsame_any (x y:Cx) (r:Bool) (hr:r = true ↔ x = y) (eA:Option Addr) (en ec:Nat) (vA:Option Addr) (vn vc:Nat) (sA:Option Addr) (sn sc:Nat) (fA:Option Addr) (fn fc:Nat) (uA:Option Addr) (un uc:Nat) (rA:Option Addr) (rn rc:Nat) (w:World)
 (h1:ChIn w (.slice eA en ec) (.slice vA vn vc) (.slice sA sn sc) x) (h2:ChIn w (.slice fA fn fc) (.slice uA un uc) (.slice rA rn rc) y) (hx:FewC x) :
 Calls Tryz.prog 11 #[.agg #[.string x.s,.slice eA en ec,.slice vA vn vc,.slice sA sn sc],.agg #[.string y.s,.slice fA fn fc,.slice uA un uc,.slice rA rn rc]] w (RetB w r):=by
 obtain ⟨qe,hqe⟩:=some_bool (x.evs = y.evs)
 obtain ⟨qv,hqv⟩:=some_bool (x.vars = y.vars)
 obtain ⟨qs,hqs⟩:=some_bool (x.sts = y.sts)
 have H1:=Lib.hid (fun W (hW:Below w.heap.size w W) => seq_any eA fA en fn ec fc x.evs y.evs qe hqe W (h1.keep hW).evs (h2.keep hW).evs (by rw [(RdS.len h1.evs).1]; exact hx.1))
 have H2:=Lib.hid (fun W (hW:Below w.heap.size w W) => veq_any vA uA vn un vc uc x.vars y.vars qv hqv W (h1.keep hW).vars (h2.keep hW).vars (by rw [(RdV.len h1.vars).1]; exact hx.2.1))
 have H3:=Lib.hid (fun W (hW:Below w.heap.size w W) => steqf_any sA rA sn rn sc rc x.sts y.sts qs hqs W (h1.keep hW).sts (h2.keep hW).sts (by rw [h1.sts.len.1]; exact hx.2.2.1) hx.2.2.2)
 have HR:Hid (r = ((x.s.toList == y.s.toList) && (qe && (qv && qs)))):=Lib.hid (by
  rw [Bool.eq_iff_iff,hr,cx_iff]
  simp only [Bool.and_eq_true,beq_iff_eq,hqe,hqv,hqs]
  constructor
  ·rintro ⟨h1,h⟩; exact ⟨by rw [h1],h⟩
  ·rintro ⟨h1,h⟩; exact ⟨bytes_eq (x:=x.s) (y:=y.s) (by simpa using h1),h⟩)
 obtain ⟨s,evs,vars,sts⟩:=x
 obtain ⟨s',evs',vars',sts'⟩:=y
 simp only at HR ⊢
 clear hqe hqv hqs hr h1 h2 hx
 have HK:=Lib.hid (fun W (hW:Below ((w.alloc (.cells #[.string s,.slice eA en ec,.slice vA vn vc,.slice sA sn sc] 33)).alloc (.cells #[.string s',.slice fA fn fc,.slice uA un uc,.slice rA rn rc] 33)).heap.size ((w.alloc (.cells #[.string s,.slice eA en ec,.slice vA vn vc,.slice sA sn sc] 33)).alloc (.cells #[.string s',.slice fA fn fc,.slice uA un uc,.slice rA rn rc] 33)) W) => KitC.pair_blocks hW)
 go_enter Tryz.func11,Tryz.ntmps11
 rcases g1:(s.toList == s'.toList) with _ | _
 ·rw [g1] at HR
  go_wp2_with fail
  go_ret
  exact ⟨ret_bool HR.out.symm,KitC.below_pair _ _ _⟩
 rw [g1] at HR
 go_wp2_with (go_at_call 23; go_fit (H1.out _ (KitC.below_pair _ _ _)))
 rintro e w1 ⟨rfl,hb⟩
 have HB1:=Lib.hid hb
 obtain ⟨k1,k2,-,-⟩:=HK.out _ HB1.out
 obtain ⟨c0,c1,c2,c3⟩:=cells_4 k1
 obtain ⟨m0,m1,m2,m3⟩:=cells_4 k2
 clear hb k1 k2
 rcases qe with _ | _
 ·go_wp2_with fail
  go_ret
  exact ⟨ret_bool HR.out.symm,(HK.out _ HB1.out).2.2.1⟩
 go_wp2_with (go_at_call 24; go_fit (H2.out _ (HK.out _ HB1.out).2.2.1))
 rintro e w2 ⟨rfl,hb⟩
 have HB2:=Lib.hid (below_two' HB1.out hb)
 clear hb c0 c1 c2 c3 m0 m1 m2 m3
 obtain ⟨k1,k2,-,-⟩:=HK.out _ HB2.out
 obtain ⟨c0,c1,c2,c3⟩:=cells_4 k1
 obtain ⟨m0,m1,m2,m3⟩:=cells_4 k2
 clear k1 k2
 rcases qv with _ | _
 ·go_wp2_with fail
  go_ret
  exact ⟨ret_bool HR.out.symm,(HK.out _ HB2.out).2.2.1⟩
 go_wp2_with (go_at_call 25; go_fit (H3.out _ (HK.out _ HB2.out).2.2.1))
 rintro e w3 ⟨rfl,hb⟩
 have HB3:=Lib.hid (below_two' HB2.out hb)
 clear hb
 go_wp2_with fail
 go_ret
 exact ⟨ret_bool HR.out.symm,(HK.out _ HB3.out).2.2.1⟩
end Go.Proofs.YtjfghaohogcfbaaGreatDoor