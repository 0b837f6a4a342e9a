/- RulesRef, ShapeRef, ShapeRefTell, joined. -/
import Derived.Test.YtbdalbpackfejaaMRulesBroken12
import Derived.Test.YtbdalbpackfejaaMRulesBroken04
import Derived.Test.YtbdalbpackfejaaMRulesBroken06
import Derived.Deep.RegionHeld3
namespace Go.Proofs.Ytbdalbpackfejaa
open Go.RowKit Go.Sort TermSpec NamesSpec EvalSpec ActSpec TransSpec SynSpec RulesSpec PrintSpec
set_option maxRecDepth 100000
theorem hasS_hit {l:List ByteArray} {k:Nat} {s:ByteArray} (h:l[k]? = some s):hasS l s = true:=hasS_iff.2 (List.mem_of_getElem? h)
theorem hasS_next {l:List ByteArray} {k:Nat} {x s:ByteArray} (h:l[k]? = some x) (h0:hasS (l.take k) s = false) (hx:x ≠ s):hasS (l.take (k + 1)) s = false:=by
 rw [take_next h,hasS_snoc,h0]
 simp [hx]
theorem exprR_stop {vs ss:List ByteArray} {l:List Tm} {ty:Int} {k:Nat} {t:Tm} (ht:l[k]? = some t) (h:termR vs ss t = false):exprR vs ss l ty = false:=by
 unfold exprR
 rw [List.all_eq_false.2 ⟨t,List.mem_of_getElem? ht,by simp [h]⟩]
 rfl
theorem termR_next {vs ss:List ByteArray} {l:List Tm} {k:Nat} {t:Tm} (ht:l[k]? = some t) (h0:(l.take k).all (termR vs ss) = true) (h:termR vs ss t = true):(l.take (k + 1)).all (termR vs ss) = true:=by
 rw [take_next ht,List.all_append,h0]
 simp [h]
def RxRel (W1:World) (vs ss:List ByteArray) (l:List Tm) (n:Nat) (i:Value) (wr:World):Prop:=∃ k:Nat,k ≤ n ∧ i = .int .i64 k ∧ Hid ((l.take k).all (termR vs ss) = true ∧ Below W1.heap.size W1 wr)
section
variable (x:Cx) (eA:Option Addr) (en ec:Nat) (vA:Option Addr) (vn vc:Nat) (sA:Option Addr) (sn sc:Nat) (w:World) (h:ChIn w (.slice eA en ec) (.slice vA vn vc) (.slice sA sn sc) x)
include h
set_option maxRecDepth 100000 in
set_option maxHeartbeats 2000000 in
theorem rhasVar_any (s:ByteArray) (hm:vn ≤ 1000000):Calls Try.prog 42 #[.agg #[.string x.s,.slice eA en ec,.slice vA vn vc,.slice sA sn sc],.string s] w (RetB w (hasS (vnC x) s)):=by
 have hn:=h.vars.len.1
 have hnl:(vnC x).length = vn:=by unfold vnC; rw [List.length_map,hn]
 have HNL:=Lib.hid hnl
 obtain ⟨nm,hnm⟩:∃ nm,nm = x.s:=⟨_,rfl⟩
 rw [← hnm]
 obtain ⟨W1,hW1⟩:∃ W1,w.alloc (.cells #[.string nm,.slice eA en ec,.slice vA vn vc,.slice sA sn sc] 26) = W1:=⟨_,rfl⟩
 have hb1:Below w.heap.size w W1:=by rw [← hW1]; exact KitC.below_one _ _
 have hk1:W1.heap[w.heap.size]? = some (.cells #[.string nm,.slice eA en ec,.slice vA vn vc,.slice sA sn sc] 26):=by rw [← hW1]; exact heap_alloc_new _ _
 have HW1:=Lib.hid hW1
 have HB1:=Lib.hid hb1
 have HV:=Lib.hid (RdV.vars (w:=W1) (Rdk.keep h.vars hb1))
 obtain ⟨ns,hns⟩:∃ ns,ns = vnC x:=⟨_,rfl⟩
 have HNS:=Lib.hid hns
 rw [← hns] at HNL ⊢
 obtain ⟨c0,c1,c2,c3⟩:=cells_4 hk1
 obtain ⟨r,hr⟩:∃ r,r = hasS ns s:=⟨_,rfl⟩
 have HR:=Lib.hid hr
 rw [← hr]
 clear h hnm hW1 hb1 hk1 hns hr hnl hn
 go_enter Try.func42,Try.ntmps42
 go_wp2_with fail
 rw [HW1.out]
 go_loop [5] (fun i => ∃ k:Nat,k ≤ vn ∧ i = .int .i64 k ∧ Hid (hasS (ns.take k) s = false)) (fun i => vn - (intOf i).toNat)
 case atStart => exact ⟨0,Nat.zero_le _,rfl,Lib.hid rfl⟩
 case round =>
  obtain ⟨k,hk,rfl,HL⟩:=hrel
  by_cases hlt:k < vn
  case neg =>
   have HE:Hid (r = false):=Lib.hid (by have h1:=HL.out; rw [List.take_of_length_le (by rw [HNL.out]; omega)] at h1; rw [HR.out,h1])
   have hlt':¬ (k:Int) < vn:=by omega
   go_wp2_with fail
   go_ret
   exact ⟨ret_bool HE.out.symm,HB1.out⟩
  have hkI:(k:Int) < vn:=by omega
  obtain ⟨v,hv⟩:∃ v,x.vars[k]? = some v:=get_some (by have h1:=HNL.out; rw [HNS.out] at h1; unfold vnC at h1; rw [List.length_map] at h1; omega)
  obtain ⟨b,off,rfl,hb,d0,d1,d2,d3⟩:=VarsIn.at_ HV.out hv
  have hx:ns[k]? = some v.s:=by rw [HNS.out]; unfold vnC; rw [List.getElem?_map,hv]; rfl
  obtain ⟨y,hy⟩:∃ y,y = v.s:=⟨_,rfl⟩
  rw [← hy] at d0 hx
  clear d1 d2 d3 hv hy
  by_cases he:y = s
  ·subst he
   have g:(y.toList == y.toList) = true:=by simp
   have HE:Hid (r = true):=Lib.hid (by rw [HR.out]; exact hasS_hit hx)
   clear hx
   go_wp2_with fail
   go_ret
   exact ⟨ret_bool HE.out.symm,HB1.out⟩
  ·have g:(y.toList == s.toList) = false:=(Lib.bytes_beq_false_iff y s).2 he
   have HE:=Lib.hid (hasS_next hx HL.out he)
   clear hx he
   go_wp2_with fail
   go_round
   case rel => exact ⟨k + 1,by omega,by go_num,HE⟩
   case measure => simp [intOf]; omega
set_option maxRecDepth 100000 in
set_option maxHeartbeats 2000000 in
theorem rhasState_any (s:ByteArray) (hm:sn ≤ 1000000):Calls Try.prog 45 #[.agg #[.string x.s,.slice eA en ec,.slice vA vn vc,.slice sA sn sc],.string s] w (RetB w (hasS (snC x) s)):=by
 have hn:=h.sts.len.1
 have hnl:(snC x).length = sn:=by unfold snC; rw [List.length_map,hn]
 have HNL:=Lib.hid hnl
 obtain ⟨nm,hnm⟩:∃ nm,nm = x.s:=⟨_,rfl⟩
 rw [← hnm]
 obtain ⟨W1,hW1⟩:∃ W1,w.alloc (.cells #[.string nm,.slice eA en ec,.slice vA vn vc,.slice sA sn sc] 26) = W1:=⟨_,rfl⟩
 have hb1:Below w.heap.size w W1:=by rw [← hW1]; exact KitC.below_one _ _
 have hk1:W1.heap[w.heap.size]? = some (.cells #[.string nm,.slice eA en ec,.slice vA vn vc,.slice sA sn sc] 26):=by rw [← hW1]; exact heap_alloc_new _ _
 have HW1:=Lib.hid hW1
 have HB1:=Lib.hid hb1
 have HV:=Lib.hid (h.sts.keep hb1)
 obtain ⟨ns,hns⟩:∃ ns,ns = snC x:=⟨_,rfl⟩
 have HNS:=Lib.hid hns
 rw [← hns] at HNL ⊢
 obtain ⟨c0,c1,c2,c3⟩:=cells_4 hk1
 obtain ⟨r,hr⟩:∃ r,r = hasS ns s:=⟨_,rfl⟩
 have HR:=Lib.hid hr
 rw [← hr]
 clear h hnm hW1 hb1 hk1 hns hr hnl hn
 go_enter Try.func45,Try.ntmps45
 go_wp2_with fail
 rw [HW1.out]
 go_loop [5] (fun i => ∃ k:Nat,k ≤ sn ∧ i = .int .i64 k ∧ Hid (hasS (ns.take k) s = false)) (fun i => sn - (intOf i).toNat)
 case atStart => exact ⟨0,Nat.zero_le _,rfl,Lib.hid rfl⟩
 case round =>
  obtain ⟨k,hk,rfl,HL⟩:=hrel
  by_cases hlt:k < sn
  case neg =>
   have HE:Hid (r = false):=Lib.hid (by have h1:=HL.out; rw [List.take_of_length_le (by rw [HNL.out]; omega)] at h1; rw [HR.out,h1])
   have hlt':¬ (k:Int) < sn:=by omega
   go_wp2_with fail
   go_ret
   exact ⟨ret_bool HE.out.symm,HB1.out⟩
  have hkI:(k:Int) < sn:=by omega
  obtain ⟨v,hv⟩:∃ v,x.sts[k]? = some v:=get_some (by have h1:=HNL.out; rw [HNS.out] at h1; unfold snC at h1; rw [List.length_map] at h1; omega)
  obtain ⟨b,off,a3,n3,m3,a4,n4,m4,a5,n5,m5,rfl,hb,d0,-⟩:=HV.out.at_ hv
  have hx:ns[k]? = some v.s:=by rw [HNS.out]; unfold snC; rw [List.getElem?_map,hv]; rfl
  obtain ⟨y,hy⟩:∃ y,y = v.s:=⟨_,rfl⟩
  rw [← hy] at d0 hx
  clear hv hy
  by_cases he:y = s
  ·subst he
   have g:(y.toList == y.toList) = true:=by simp
   have HE:Hid (r = true):=Lib.hid (by rw [HR.out]; exact hasS_hit hx)
   clear hx
   go_wp2_with fail
   go_ret
   exact ⟨ret_bool HE.out.symm,HB1.out⟩
  ·have g:(y.toList == s.toList) = false:=(Lib.bytes_beq_false_iff y s).2 he
   have HE:=Lib.hid (hasS_next hx HL.out he)
   clear hx he
   go_wp2_with fail
   go_round
   case rel => exact ⟨k + 1,by omega,by go_num,HE⟩
   case measure => simp [intOf]; omega
set_option maxRecDepth 100000 in
set_option maxHeartbeats 2000000 in
theorem rhasEvent_any (s:ByteArray) (hm:en ≤ 1000000):Calls Try.prog 44 #[.agg #[.string x.s,.slice eA en ec,.slice vA vn vc,.slice sA sn sc],.string s] w (RetB w (hasS (x.evs) s)):=by
 obtain ⟨_,_,_,heq,hnl,-,-⟩:=Rd.strs h.evs
 cases heq
 have HNL:=Lib.hid hnl
 obtain ⟨nm,hnm⟩:∃ nm,nm = x.s:=⟨_,rfl⟩
 rw [← hnm]
 obtain ⟨W1,hW1⟩:∃ W1,w.alloc (.cells #[.string nm,.slice eA en ec,.slice vA vn vc,.slice sA sn sc] 26) = W1:=⟨_,rfl⟩
 have hb1:Below w.heap.size w W1:=by rw [← hW1]; exact KitC.below_one _ _
 have hk1:W1.heap[w.heap.size]? = some (.cells #[.string nm,.slice eA en ec,.slice vA vn vc,.slice sA sn sc] 26):=by rw [← hW1]; exact heap_alloc_new _ _
 have HW1:=Lib.hid hW1
 have HB1:=Lib.hid hb1
 obtain ⟨_,_,_,heq,-,-,hA⟩:=Rd.strs (Rd.keep h.evs hb1)
 cases heq
 have HV:=Lib.hid hA
 obtain ⟨ns,hns⟩:∃ ns,ns = x.evs:=⟨_,rfl⟩
 have HNS:=Lib.hid hns
 rw [← hns] at HNL ⊢
 obtain ⟨c0,c1,c2,c3⟩:=cells_4 hk1
 obtain ⟨r,hr⟩:∃ r,r = hasS ns s:=⟨_,rfl⟩
 have HR:=Lib.hid hr
 rw [← hr]
 clear h hnm hW1 hb1 hk1 hns hr hnl hA
 go_enter Try.func44,Try.ntmps44
 go_wp2_with fail
 rw [HW1.out]
 go_loop [5] (fun i => ∃ k:Nat,k ≤ en ∧ i = .int .i64 k ∧ Hid (hasS (ns.take k) s = false)) (fun i => en - (intOf i).toNat)
 case atStart => exact ⟨0,Nat.zero_le _,rfl,Lib.hid rfl⟩
 case round =>
  obtain ⟨k,hk,rfl,HL⟩:=hrel
  by_cases hlt:k < en
  case neg =>
   have HE:Hid (r = false):=Lib.hid (by have h1:=HL.out; rw [List.take_of_length_le (by rw [HNL.out]; omega)] at h1; rw [HR.out,h1])
   have hlt':¬ (k:Int) < en:=by omega
   go_wp2_with fail
   go_ret
   exact ⟨ret_bool HE.out.symm,HB1.out⟩
  have hkI:(k:Int) < en:=by omega
  obtain ⟨y,hx⟩:∃ y,ns[k]? = some y:=get_some (by rw [HNL.out]; omega)
  obtain ⟨b,off,rfl,hb,hcell⟩:=HV.out (by omega)
  have d0:=hcell k y (by rw [← HNS.out]; exact hx)
  clear hcell
  by_cases he:y = s
  ·subst he
   have g:(y.toList == y.toList) = true:=by simp
   have HE:Hid (r = true):=Lib.hid (by rw [HR.out]; exact hasS_hit hx)
   clear hx
   go_wp2_with fail
   go_ret
   exact ⟨ret_bool HE.out.symm,HB1.out⟩
  ·have g:(y.toList == s.toList) = false:=(Lib.bytes_beq_false_iff y s).2 he
   have HE:=Lib.hid (hasS_next hx HL.out he)
   clear hx he
   go_wp2_with fail
   go_round
   case rel => exact ⟨k + 1,by omega,by go_num,HE⟩
   case measure => simp [intOf]; omega
set_option maxRecDepth 100000 in
set_option maxHeartbeats 8000000 in
theorem rexpr14_any (A:Option Addr) (n c:Nat) (l:List Tm) (ty:Int) (hT:Tms w (.slice A n c) l) (hwl:wholeB l = true) (hm:n ≤ 1000000) (hvn:vn ≤ 1000000) (hsn:sn ≤ 1000000) :
 Calls Try.prog 43 #[.agg #[.string x.s,.slice eA en ec,.slice vA vn vc,.slice sA sn sc],.slice A n c,.int .i64 ty] w (RetB w (exprR (vnC x) (snC x) l ty)):=by
 obtain ⟨_,_,_,heq,hnl,_⟩:=hT.shape
 cases heq
 have HV:=Lib.hid (fun s W (hW:Below w.heap.size w W) => rhasVar_any x eA en ec vA vn vc sA sn sc W (h.keep hW) s hvn)
 have HS:=Lib.hid (fun s W (hW:Below w.heap.size w W) => rhasState_any x eA en ec vA vn vc sA sn sc W (h.keep hW) s hsn)
 have HTY:=Lib.hid (fun W (hW:Below w.heap.size w W) => rtyp_zero A n c l hnl (by omega) W (hT.keep hW) hwl)
 have HN:=Lib.hid hnl
 obtain ⟨vs,hvs⟩:∃ vs,vs = vnC x:=⟨_,rfl⟩
 obtain ⟨ss,hss⟩:∃ ss,ss = snC x:=⟨_,rfl⟩
 rw [← hvs] at HV
 rw [← hss] at HS
 rw [← hvs,← hss]
 obtain ⟨nm,hnm⟩:∃ nm,nm = x.s:=⟨_,rfl⟩
 rw [← hnm]
 obtain ⟨W1,hW1⟩:∃ W1,w.alloc (.cells #[.string nm,.slice eA en ec,.slice vA vn vc,.slice sA sn sc] 26) = W1:=⟨_,rfl⟩
 have hb1:Below w.heap.size w W1:=by rw [← hW1]; exact KitC.below_one _ _
 have hk1:W1.heap[w.heap.size]? = some (.cells #[.string nm,.slice eA en ec,.slice vA vn vc,.slice sA sn sc] 26):=by rw [← hW1]; exact heap_alloc_new _ _
 have HW1:=Lib.hid hW1
 have HB1:=Lib.hid hb1
 have HK:=Lib.hid (fun W (hW:Below W1.heap.size W1 W) => KitC.block_on hk1 hW)
 have HT:=Lib.hid (fun W (hW:Below W1.heap.size W1 W) => hT.keep (below_two' hb1 hW))
 rw [← hnm] at HV HS
 obtain ⟨r,hr⟩:∃ r,r = exprR vs ss l ty:=⟨_,rfl⟩
 have HR:=Lib.hid hr
 obtain ⟨q,hq⟩:∃ q,q = typ l:=⟨_,rfl⟩
 have HQ:=Lib.hid hq
 rw [← hq] at HTY
 rw [← hr]
 clear h hT hwl hvn hsn hnl hvs hss hnm hW1 hb1 hk1 hr hq
 go_enter Try.func43,Try.ntmps43
 go_wp2_with fail
 rw [HW1.out]
 go_loopw [7] (fun i wr => RxRel W1 vs ss l n i wr) (fun i _ => n - (intOf i).toNat)
 case atStart => exact ⟨0,Nat.zero_le _,rfl,Lib.hid ⟨rfl,Below.refl _ _⟩⟩
 case round =>
  obtain ⟨k,hk,rfl,HL⟩:=hrel
  by_cases hlt:k < n
  case neg =>
   obtain rfl:k = n:=by omega
   have HE:Hid (r = (q == ty)):=Lib.hid (by have h1:=HL.out.1; rw [List.take_of_length_le (by rw [← HN.out]; omega)] at h1; rw [HR.out]; unfold exprR; rw [h1,← HQ.out,Bool.true_and]; rfl)
   have hlt':¬ (k:Int) < k:=by omega
   go_wp2_with (go_at_call 54; go_fit (HTY.out _ (below_two' HB1.out HL.out.2)))
   rintro e w2 ⟨rfl,hb2⟩
   have HB2:=Lib.hid (below_two' HL.out.2 hb2)
   clear hb2
   go_wp2_with fail
   go_ret
   exact ⟨ret_bool HE.out.symm,below_two' HB1.out HB2.out⟩
  have hkI:(k:Int) < n:=by omega
  obtain ⟨t,ht⟩:∃ t,l[k]? = some t:=get_some (by rw [← HN.out]; exact hlt)
  obtain ⟨b,off,rfl,hb,d0,d1,d2⟩:=(HT.out _ HL.out.2).at_ ht
  have hkm:(k:Int) < c:=by have:=(HT.out _ HL.out.2).cap; omega
  have HSTOP:=Lib.hid (fun h2 => HR.out.trans (exprR_stop (vs:=vs) (ss:=ss) (ty:=ty) ht h2))
  have HNEXT:=Lib.hid (fun h2 => termR_next (vs:=vs) (ss:=ss) ht HL.out.1 h2)
  obtain ⟨op,nn,s⟩:=t
  simp only at d0 d1 d2
  obtain ⟨c0,c1,c2,c3⟩:=cells_4 (HK.out _ HL.out.2)
  obtain ⟨q1,hq1⟩:∃ q,q = hasS vs s:=⟨_,rfl⟩
  obtain ⟨q2,hq2⟩:∃ q,q = hasS ss s:=⟨_,rfl⟩
  have HT2:Hid (termR vs ss ⟨op,nn,s⟩ = ((!decide (op = 2) || q1) && (!decide (op = 11) || q2))):=Lib.hid (by rw [hq1,hq2]; rfl)
  have HV1:=Lib.hid (fun W (hW:Below wr.heap.size wr W) => HV.out s W (below_two' HB1.out (below_two' HL.out.2 hW)))
  have HS1:=Lib.hid (fun W (hW:Below wr.heap.size wr W) => HS.out s W (below_two' HB1.out (below_two' HL.out.2 hW)))
  rw [← hq1] at HV1
  rw [← hq2] at HS1
  have HV2:Hid (∀ d os,Calls Try.prog 42 #[.agg #[.string nm,.slice eA en ec,.slice vA vn vc,.slice sA sn sc],.string s] (grow (redrawn wr d) os) fun e w'' => e = .returned (.bool q1) ∧ ∃ p:Regrown,w'' = grow (redrawn wr p.d) p.os) :=
   Lib.hid (fun d os => Calls.regrown_of (HV1.out _ (below_regrown wr d os)))
  have HS2:Hid (∀ d os,Calls Try.prog 45 #[.agg #[.string nm,.slice eA en ec,.slice vA vn vc,.slice sA sn sc],.string s] (grow (redrawn wr d) os) fun e w'' => e = .returned (.bool q2) ∧ ∃ p:Regrown,w'' = grow (redrawn wr p.d) p.os) :=
   Lib.hid (fun d os => Calls.regrown_of (HS1.out _ (below_regrown wr d os)))
  have r0:=cell_regrown c0; have r1:=cell_regrown c1; have r2:=cell_regrown c2; have r3:=cell_regrown c3
  have t0:=cell_regrown d0; have t2:=cell_regrown d2
  clear ht hq1 hq2 HV1 HS1
  by_cases o2:op = 2
  ·subst o2
   cases q1 with
   | false =>
     have HE:=Lib.hid (HSTOP.out (by rw [HT2.out]; simp))
     clear HSTOP HNEXT HT2
     go_wp2_with fail
     refine wp_region_quiet_below (by kernel_rfl) (by kernel_rfl) ?_
     repeat (go_big_quiet_step (first | (with_reducible exact HV2.out _ _) | (with_reducible exact HS2.out _ _)))
     refine wpQuiet_nil ?_
     intro _ hw'
     obtain ⟨⟨dq,osq⟩,hw''⟩:=hw'
     subst hw''
     simp only
     have HB3:=Lib.hid (below_two' HL.out.2 (below_regrown wr dq osq))
     go_wp2_with fail
     go_ret
     exact ⟨ret_bool HE.out.symm,below_two' HB1.out HB3.out⟩
   | true =>
     have HE:=Lib.hid (HNEXT.out (by rw [HT2.out]; simp))
     clear HSTOP HNEXT HT2
     go_wp2_with fail
     refine wp_region_quiet_below (by kernel_rfl) (by kernel_rfl) ?_
     repeat (go_big_quiet_step (first | (with_reducible exact HV2.out _ _) | (with_reducible exact HS2.out _ _)))
     refine wpQuiet_nil ?_
     intro _ hw'
     obtain ⟨⟨dq,osq⟩,hw''⟩:=hw'
     subst hw''
     simp only
     have HB3:=Lib.hid (below_two' HL.out.2 (below_regrown wr dq osq))
     go_wp2_with fail
     go_roundw
     case rel => exact ⟨k + 1,hlt,by simp,Lib.hid ⟨HE.out,HB3.out⟩⟩
     case measure => simp [intOf]; omega
  by_cases o11:op = 11
  ·subst o11
   cases q2 with
   | false =>
     have HE:=Lib.hid (HSTOP.out (by rw [HT2.out]; simp))
     clear HSTOP HNEXT HT2
     go_wp2_with fail
     refine wp_region_quiet_below (by kernel_rfl) (by kernel_rfl) ?_
     repeat (go_big_quiet_step (first | (with_reducible exact HV2.out _ _) | (with_reducible exact HS2.out _ _)))
     refine wpQuiet_nil ?_
     intro _ hw'
     obtain ⟨⟨dq,osq⟩,hw''⟩:=hw'
     subst hw''
     simp only
     have HB3:=Lib.hid (below_two' HL.out.2 (below_regrown wr dq osq))
     go_wp2_with fail
     go_ret
     exact ⟨ret_bool HE.out.symm,below_two' HB1.out HB3.out⟩
   | true =>
     have HE:=Lib.hid (HNEXT.out (by rw [HT2.out]; simp))
     clear HSTOP HNEXT HT2
     go_wp2_with fail
     refine wp_region_quiet_below (by kernel_rfl) (by kernel_rfl) ?_
     repeat (go_big_quiet_step (first | (with_reducible exact HV2.out _ _) | (with_reducible exact HS2.out _ _)))
     refine wpQuiet_nil ?_
     intro _ hw'
     obtain ⟨⟨dq,osq⟩,hw''⟩:=hw'
     subst hw''
     simp only
     have HB3:=Lib.hid (below_two' HL.out.2 (below_regrown wr dq osq))
     go_wp2_with fail
     go_roundw
     case rel => exact ⟨k + 1,hlt,by simp,Lib.hid ⟨HE.out,HB3.out⟩⟩
     case measure => simp [intOf]; omega
  have g1:(op == 2) = false:=by simpa using o2
  have g2:(op == 11) = false:=by simpa using o11
  have HE:=Lib.hid (HNEXT.out (by rw [HT2.out]; simp [o2,o11]))
  clear HSTOP HNEXT HT2 o2 o11
  go_wp2_with fail
  refine wp_region_quiet_below (by kernel_rfl) (by kernel_rfl) ?_
  repeat (go_big_quiet_step (first | (with_reducible exact HV2.out _ _) | (with_reducible exact HS2.out _ _)))
  refine wpQuiet_nil ?_
  intro _ hw'
  obtain ⟨⟨dq,osq⟩,hw''⟩:=hw'
  subst hw''
  simp only
  have HB3:=Lib.hid (below_two' HL.out.2 (below_regrown wr dq osq))
  go_wp2_with fail
  go_roundw
  case rel => exact ⟨k + 1,hlt,by simp,Lib.hid ⟨HE.out,HB3.out⟩⟩
  case measure => simp [intOf]; omega
end
end Go.Proofs.Ytbdalbpackfejaa
namespace Go.Proofs.Ytbdalbpackfejaa
open Go.RowKit ShapeSpec
set_option maxRecDepth 100000
def RAbQ (W:World) (l:List Sh) (i m:Nat) (p v:Value) (wr:World):Prop:=∃ (j:Nat) (xs:List Int),v = .int .i64 j ∧ j < m ∧ RowI W wr p xs ∧ xs.length ≤ i ∧ xs ++ upI l j = upI l i
theorem rab_next {l:List Sh} {m i j:Nat} {xs:List Int} (hs:SU l m) (hj:j < m) (h:xs ++ upI l j = upI l i):(par l j = -1 ∧ xs = upI l i) ∨ ∃ p:Nat,par l j = p ∧ p < m ∧ p < j ∧ (xs ++ [(p:Int)]).length ≤ i ∧ (xs ++ [(p:Int)]) ++ upI l p = upI l i:=by
 rcases Nat.eq_zero_or_pos j with h0 | h0
 ·subst h0
  refine .inl ⟨hs.root hj,?_⟩
  rw [← h]
  exact (List.append_nil xs).symm
 ·obtain ⟨p,hp,hlt,hup,_⟩:=hs.parn hj h0
  have e:(xs ++ [(p:Int)]) ++ upI l p = upI l i:=by
   rw [← h]
   unfold upI
   rw [hup,List.append_assoc]
   rfl
  refine .inr ⟨p,hp,by omega,hlt,?_,e⟩
  have h1:=congrArg List.length e
  have h2:=up_length_le l i
  rw [upI_length,List.length_append,upI_length] at h1
  omega
set_option maxHeartbeats 4000000 in
theorem rabove_any (A:Option Addr) (n c m:Nat) (l:List Sh) (a:Nat) (w:World) (h:Sts w (.slice A n c) l) (hs:SU l m) (ha:a < m) (hmn:m ≤ n) (hm:n ≤ 1000000) :
 Calls Try.prog 35 #[.slice A n c,.int .i64 a] w (RetInts w (upI l a)):=by
 have HT:=Lib.hid h
 have HS:=Lib.hid hs
 obtain ⟨i0,hi,hz0,hz1,hz2⟩:=info_parts inf_int
 have HI:=Lib.hid (And.intro hi (And.intro hz0 (And.intro hz1 hz2)))
 clear h hs hi hz0 hz1 hz2
 go_enter Try.func35,Try.ntmps35
 go_wp2_with fail
 go_loopw [1,5] (fun v p wr => RAbQ w l a m p v wr) (fun v _ _ => (intOf v).toNat)
 case atStart => exact ⟨a,[],rfl,ha,⟨World.ownsRow_lit w #[] 0 (Nat.le_refl _) (Nat.zero_le _) rfl,(Below.refl _ _).alloc (Nat.le_refl _) _⟩,Nat.zero_le _,rfl⟩
 case round =>
  obtain ⟨j,xs,rfl,hj,hrow,hxl,hq⟩:=hrel
  have HR:=Lib.hid hrow
  have HT1:=Lib.hid (HT.out.keep HR.out.2)
  obtain ⟨b,off,rfl,hb,-,c2⟩:=HT1.out.at_ (i:=j) (by omega)
  have hjn:(j:Int) < n:=by omega
  rcases rab_next HS.out hj hq with ⟨hp,hx⟩ | ⟨p,hp,hpm,hpj,hle,hx⟩
  ·rw [hp] at c2
   have HR3:Hid (RetInts w (upI l a) _ wr):=Lib.hid (by rw [← hx]; exact HR.out.ret)
   clear hq hrow hp hx
   go_wp2_with fail
   go_ret
   exact HR3.out
  ·rw [hp] at c2
   have HX:=Lib.hid hx
   have HLE:=Lib.hid hle
   have hxl':xs.length < a + 1:=by omega
   have HSZ:Hid (w.heap.size ≤ wr.heap.size):=Lib.hid HR.out.2.size
   have HL1:Hid (xs.length + (intV [(p:Int)]).length ≤ maxLen):=Lib.hid (by simp [maxLen]; omega)
   have HL2:Hid ((xs.length + (intV [(p:Int)]).length) * 8 ≤ 140737488355328):=Lib.hid (by simp; omega)
   clear hq hrow hp hx hle
   go_wp2_with (at_builtin; refine wpList_append_rd _ rfl (.tmp 18) (.tmp 20) _ rfl w.heap.size 3 i0 (.int .i64 0) 8 Try.underlying54 HI.out.1 HI.out.2.1 HI.out.2.2.1 HI.out.2.2.2 rfl _ _ _ rfl (HR.out.1.alloc _) _ (intV [(p:Int)]) rfl (lit_here rfl rfl rfl) (intV_one _) HL1.out HL2.out ?_ ?_; (have:=HSZ.out; simp; omega); intro p2 w2 hrow2 hg2 _; have HR2:=Lib.hid (RowI.add HR.out hrow2 hg2); clear hrow2 hg2)
   go_roundw
   case rel => exact ⟨p,_,rfl,hpm,HR2.out,HLE.out,HX.out⟩
   case measure => simp [intOf]; omega
def InQ (xs:List Int) (x:Int) (n:Nat) (v:Value):Prop:=∃ k:Nat,v = .int .i64 k ∧ k ≤ n ∧ x ∉ xs.take k
theorem in_next {xs:List Int} {x y:Int} {k:Nat} (h:xs[k]? = some y) (hne:y ≠ x) (hno:x ∉ xs.take k):x ∉ xs.take (k + 1):=by
 rw [take_next h,List.mem_append,List.mem_singleton]
 rintro (h1 | h1)
 ·exact hno h1
 ·exact hne h1.symm
theorem in_hit {xs:List Int} {x:Int} {k:Nat} (h:xs[k]? = some x):decide (x ∈ xs) = true:=decide_eq_true (List.mem_of_getElem? h)
theorem in_miss {xs:List Int} {x:Int} {n:Nat} (hn:xs.length ≤ n) (hno:x ∉ xs.take n):decide (x ∈ xs) = false:=by
 rw [List.take_of_length_le hn] at hno
 exact decide_eq_false hno
set_option maxHeartbeats 1000000 in
theorem rin_any (v:Value) (xs:List Int) (x:Int) (w:World) (h:Rd w v (intV xs)) (hm:xs.length ≤ 9223372036854775807) :
 Calls Try.prog 46 #[v,.int .i64 x] w (SameB w (decide (x ∈ xs))):=by
 obtain ⟨A,n,c,rfl,hn,hc,hA⟩:=h.ints
 have HA:=Lib.hid hA
 have HN:=Lib.hid hn
 have hm':n ≤ 9223372036854775807:=by omega
 have HY:Hid (∀ k:Nat,xs[k]? = some x → decide (x ∈ xs) = true):=Lib.hid (fun k h => in_hit h)
 have HM:Hid (x ∉ xs.take n → decide (x ∈ xs) = false):=Lib.hid (in_miss (by omega))
 obtain ⟨r,hr⟩:∃ r,r = decide (x ∈ xs):=⟨_,rfl⟩
 rw [← hr] at HY HM ⊢
 clear hA hn h hc hm hr
 go_enter Try.func46,Try.ntmps46
 go_wp2_with fail
 go_loop [5] (fun v => InQ xs x n v) (fun v => n - (intOf v).toNat)
 case atStart => exact ⟨0,rfl,Nat.zero_le _,by simp⟩
 case round =>
  obtain ⟨k,rfl,hk,hno⟩:=hrel
  have HO:=Lib.hid hno
  clear hno
  by_cases hlt:k < n
  ·obtain ⟨b,off,rfl,hb,hcell⟩:=HA.out (by omega)
   obtain ⟨y,hy⟩:∃ y,xs[k]? = some y:=get_some (by have:=HN.out; omega)
   have hck:=hcell k y hy
   have HX:=Lib.hid hy
   have hltI:(k:Int) < n:=by omega
   clear hcell hy
   by_cases hyx:y = x
   ·have g1:(y == x) = true:=by simpa using hyx
    have HR:Hid (r = true):=Lib.hid (HY.out k (by rw [HX.out,hyx]))
    clear hyx
    go_wp2_with fail
    go_ret
    exact ⟨ret_bool HR.out.symm,rfl⟩
   ·have g1:(y == x) = false:=by simpa using hyx
    have HR:=Lib.hid (in_next HX.out hyx HO.out)
    clear hyx
    go_wp2_with fail
    go_round
    case rel => exact ⟨k + 1,by simp,by omega,HR.out⟩
    case measure => simp [intOf]; omega
  ·obtain rfl:k = n:=by omega
   have HR:Hid (r = false):=Lib.hid (HM.out HO.out)
   go_wp2_with fail
   go_ret
   exact ⟨ret_bool HR.out.symm,rfl⟩
end Go.Proofs.Ytbdalbpackfejaa
namespace Go.Proofs.Ytbdalbpackfejaa
open Go.RowKit ShapeSpec
set_option maxRecDepth 100000
def RKidRel (W:World) (l:List Sh) (i n:Nat) (p v:Value) (wr:World):Prop:=∃ k:Nat,k ≤ n ∧ v = .int .i64 k ∧ RowI W wr p (kidsTo l i k)
set_option maxHeartbeats 4000000 in
theorem rshkids_any (A:Option Addr) (n c:Nat) (l:List Sh) (a:Nat) (w:World) (h:Sts w (.slice A n c) l) (hm:n ≤ 1000000) :
 Calls Try.prog 41 #[.slice A n c,.int .i64 a] w (RetInts w (kids l a)):=by
 have hn:=h.len
 have HE:Hid (kids l a = kidsTo l a n):=Lib.hid (by rw [hn]; rfl)
 rw [HE.out]
 have HT:=Lib.hid h
 obtain ⟨i0,hi,hz0,hz1,hz2⟩:=info_parts inf_int
 have HI:=Lib.hid (And.intro hi (And.intro hz0 (And.intro hz1 hz2)))
 clear h hn HE hi hz0 hz1 hz2
 go_enter Try.func41,Try.ntmps41
 go_wp2_with fail
 go_loopw [5,6] (fun p v wr => RKidRel w l a n p v wr) (fun _ v _ => n - (intOf v).toNat)
 case atStart => exact ⟨0,Nat.zero_le _,rfl,⟨World.ownsRow_lit w #[] 0 (Nat.le_refl _) (Nat.zero_le _) rfl,(Below.refl _ _).alloc (Nat.le_refl _) _⟩⟩
 case round =>
  obtain ⟨k,hk,rfl,hrow⟩:=hrel
  have HR:=Lib.hid hrow
  by_cases hlt:k < n
  ·have hltI:(k:Int) < n:=by omega
   obtain ⟨b,off,rfl,hb,-,c2⟩:=(HT.out.keep HR.out.2).at_ hlt
   obtain ⟨q,hq⟩:∃ q,q = par l k:=⟨_,rfl⟩
   rw [← hq] at c2
   have HP:=Lib.hid hq
   have HSZ:Hid (w.heap.size ≤ wr.heap.size):=Lib.hid HR.out.2.size
   have hkl:=kids_le l a k
   have HL1:Hid ((kidsTo l a k).length + (intV [(k:Int)]).length ≤ maxLen):=Lib.hid (by simp [maxLen]; omega)
   have HL2:Hid (((kidsTo l a k).length + (intV [(k:Int)]).length) * 8 ≤ 140737488355328):=Lib.hid (by simp; omega)
   clear hq hkl hrow
   by_cases hqa:q = a
   ·have g1:(q == (a:Int)) = true:=by simpa using hqa
    have HS:Hid (kidsTo l a (k + 1) = kidsTo l a k ++ [(k:Int)]):=Lib.hid (kids_yes (HP.out.symm.trans hqa))
    clear hqa
    go_wp2_with (at_builtin; refine wpList_append_rd _ rfl (.tmp 21) (.tmp 23) _ rfl w.heap.size 3 i0 (.int .i64 0) 8 Try.underlying54 HI.out.1 HI.out.2.1 HI.out.2.2.1 HI.out.2.2.2 rfl _ _ _ rfl (HR.out.1.alloc _) _ (intV [(k:Int)]) rfl (lit_here rfl rfl rfl) (intV_one _) HL1.out HL2.out ?_ ?_; (have:=HSZ.out; simp; omega); intro p2 w2 hrow2 hg2 _; have HR2:=Lib.hid (RowI.add HR.out hrow2 hg2); clear hrow2 hg2)
    go_roundw
    case rel => exact ⟨k + 1,by omega,by simp,by rw [HS.out]; exact HR2.out⟩
    case measure => simp [intOf]; omega
   ·have g1:(q == (a:Int)) = false:=by simpa using hqa
    have HS:Hid (kidsTo l a (k + 1) = kidsTo l a k):=Lib.hid (kids_no (by rw [← HP.out]; exact hqa))
    clear hqa
    go_wp2_with fail
    go_roundw
    case rel => exact ⟨k + 1,by omega,by simp,by rw [HS.out]; exact HR.out⟩
    case measure => simp [intOf]; omega
  ·obtain rfl:k = n:=by omega
   go_wp2_with fail
   go_ret
   exact HR.out.ret
end Go.Proofs.Ytbdalbpackfejaa