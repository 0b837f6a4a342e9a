/- RulesRef, joined. -/
import Derived.Test.YtckojimeglkobaaGreatDoorMConfFills24
import Derived.Test.YtckojimeglkobaaGreatDoorMConfFills09
namespace Go.Proofs.YtckojimeglkobaaGreatDoor
open Go.RowKit Go.Sort TermSpec NamesSpec EvalSpec ActSpec TransSpec SynSpec RulesSpec PrintSpec
set_option maxRecDepth 100000
theorem hasS_hit {l:List ByteArray} {k:Nat} {s:ByteArray} (h:l[k]? = some s):hasS l s = true:=hasS_iff.2 (List.mem_of_getElem? h)
theorem hasS_next {l:List ByteArray} {k:Nat} {x s:ByteArray} (h:l[k]? = some x) (h0:hasS (l.take k) s = false) (hx:x ≠ s):hasS (l.take (k + 1)) s = false:=by
 rw [take_next h,hasS_snoc,h0]
 simp [hx]
theorem exprR_stop {vs ss:List ByteArray} {l:List Tm} {ty:Int} {k:Nat} {t:Tm} (ht:l[k]? = some t) (h:termR vs ss t = false):exprR vs ss l ty = false:=by
 unfold exprR
 rw [List.all_eq_false.2 ⟨t,List.mem_of_getElem? ht,by simp [h]⟩]
 rfl
theorem termR_next {vs ss:List ByteArray} {l:List Tm} {k:Nat} {t:Tm} (ht:l[k]? = some t) (h0:(l.take k).all (termR vs ss) = true) (h:termR vs ss t = true):(l.take (k + 1)).all (termR vs ss) = true:=by
 rw [take_next ht,List.all_append,h0]
 simp [h]
def RxRel (W1:World) (vs ss:List ByteArray) (l:List Tm) (n:Nat) (i:Value) (wr:World):Prop:=∃ k:Nat,k ≤ n ∧ i = .int .i64 k ∧ Hid ((l.take k).all (termR vs ss) = true ∧ Below W1.heap.size W1 wr)
section
variable (x:Cx) (eA:Option Addr) (en ec:Nat) (vA:Option Addr) (vn vc:Nat) (sA:Option Addr) (sn sc:Nat) (w:World) (h:ChIn w (.slice eA en ec) (.slice vA vn vc) (.slice sA sn sc) x)
include h
set_option maxRecDepth 100000 in
set_option maxHeartbeats 2000000 in
theorem rhasVar_any (s:ByteArray) (hm:vn ≤ 1000000):Calls Tryz.prog 76 #[.agg #[.string x.s,.slice eA en ec,.slice vA vn vc,.slice sA sn sc],.string s] w (RetB w (hasS (vnC x) s)):=by
 have hn:=h.vars.len.1
 have hnl:(vnC x).length = vn:=by unfold vnC; rw [List.length_map,hn]
 have HNL:=Lib.hid hnl
 obtain ⟨nm,hnm⟩:∃ nm,nm = x.s:=⟨_,rfl⟩
 rw [← hnm]
 obtain ⟨W1,hW1⟩:∃ W1,w.alloc (.cells #[.string nm,.slice eA en ec,.slice vA vn vc,.slice sA sn sc] 26) = W1:=⟨_,rfl⟩
 have hb1:Below w.heap.size w W1:=by rw [← hW1]; exact KitC.below_one _ _
 have hk1:W1.heap[w.heap.size]? = some (.cells #[.string nm,.slice eA en ec,.slice vA vn vc,.slice sA sn sc] 26):=by rw [← hW1]; exact heap_alloc_new _ _
 have HW1:=Lib.hid hW1
 have HB1:=Lib.hid hb1
 have HV:=Lib.hid (RdV.vars (w:=W1) (Rdk.keep h.vars hb1))
 obtain ⟨ns,hns⟩:∃ ns,ns = vnC x:=⟨_,rfl⟩
 have HNS:=Lib.hid hns
 rw [← hns] at HNL ⊢
 obtain ⟨c0,c1,c2,c3⟩:=cells_4 hk1
 obtain ⟨r,hr⟩:∃ r,r = hasS ns s:=⟨_,rfl⟩
 have HR:=Lib.hid hr
 rw [← hr]
 clear h hnm hW1 hb1 hk1 hns hr hnl hn
 go_enter Tryz.func76,Tryz.ntmps76
 go_wp2_with fail
 rw [HW1.out]
 go_loop [5] (fun i => ∃ k:Nat,k ≤ vn ∧ i = .int .i64 k ∧ Hid (hasS (ns.take k) s = false)) (fun i => vn - (intOf i).toNat)
 case atStart => exact ⟨0,Nat.zero_le _,rfl,Lib.hid rfl⟩
 case round =>
  obtain ⟨k,hk,rfl,HL⟩:=hrel
  by_cases hlt:k < vn
  case neg =>
   have HE:Hid (r = false):=Lib.hid (by have h1:=HL.out; rw [List.take_of_length_le (by rw [HNL.out]; omega)] at h1; rw [HR.out,h1])
   have hlt':¬ (k:Int) < vn:=by omega
   go_wp2_with fail
   go_ret
   exact ⟨ret_bool HE.out.symm,HB1.out⟩
  have hkI:(k:Int) < vn:=by omega
  obtain ⟨v,hv⟩:∃ v,x.vars[k]? = some v:=get_some (by have h1:=HNL.out; rw [HNS.out] at h1; unfold vnC at h1; rw [List.length_map] at h1; omega)
  obtain ⟨b,off,rfl,hb,d0,d1,d2,d3⟩:=VarsIn.at_ HV.out hv
  have hx:ns[k]? = some v.s:=by rw [HNS.out]; unfold vnC; rw [List.getElem?_map,hv]; rfl
  obtain ⟨y,hy⟩:∃ y,y = v.s:=⟨_,rfl⟩
  rw [← hy] at d0 hx
  clear d1 d2 d3 hv hy
  by_cases he:y = s
  ·subst he
   have g:(y.toList == y.toList) = true:=by simp
   have HE:Hid (r = true):=Lib.hid (by rw [HR.out]; exact hasS_hit hx)
   clear hx
   go_wp2_with fail
   go_ret
   exact ⟨ret_bool HE.out.symm,HB1.out⟩
  ·have g:(y.toList == s.toList) = false:=(Lib.bytes_beq_false_iff y s).2 he
   have HE:=Lib.hid (hasS_next hx HL.out he)
   clear hx he
   go_wp2_with fail
   go_round
   case rel => exact ⟨k + 1,by omega,by go_num,HE⟩
   case measure => simp [intOf]; omega
set_option maxRecDepth 100000 in
set_option maxHeartbeats 2000000 in
theorem rhasState_any (s:ByteArray) (hm:sn ≤ 1000000):Calls Tryz.prog 79 #[.agg #[.string x.s,.slice eA en ec,.slice vA vn vc,.slice sA sn sc],.string s] w (RetB w (hasS (snC x) s)):=by
 have hn:=h.sts.len.1
 have hnl:(snC x).length = sn:=by unfold snC; rw [List.length_map,hn]
 have HNL:=Lib.hid hnl
 obtain ⟨nm,hnm⟩:∃ nm,nm = x.s:=⟨_,rfl⟩
 rw [← hnm]
 obtain ⟨W1,hW1⟩:∃ W1,w.alloc (.cells #[.string nm,.slice eA en ec,.slice vA vn vc,.slice sA sn sc] 26) = W1:=⟨_,rfl⟩
 have hb1:Below w.heap.size w W1:=by rw [← hW1]; exact KitC.below_one _ _
 have hk1:W1.heap[w.heap.size]? = some (.cells #[.string nm,.slice eA en ec,.slice vA vn vc,.slice sA sn sc] 26):=by rw [← hW1]; exact heap_alloc_new _ _
 have HW1:=Lib.hid hW1
 have HB1:=Lib.hid hb1
 have HV:=Lib.hid (h.sts.keep hb1)
 obtain ⟨ns,hns⟩:∃ ns,ns = snC x:=⟨_,rfl⟩
 have HNS:=Lib.hid hns
 rw [← hns] at HNL ⊢
 obtain ⟨c0,c1,c2,c3⟩:=cells_4 hk1
 obtain ⟨r,hr⟩:∃ r,r = hasS ns s:=⟨_,rfl⟩
 have HR:=Lib.hid hr
 rw [← hr]
 clear h hnm hW1 hb1 hk1 hns hr hnl hn
 go_enter Tryz.func79,Tryz.ntmps79
 go_wp2_with fail
 rw [HW1.out]
 go_loop [5] (fun i => ∃ k:Nat,k ≤ sn ∧ i = .int .i64 k ∧ Hid (hasS (ns.take k) s = false)) (fun i => sn - (intOf i).toNat)
 case atStart => exact ⟨0,Nat.zero_le _,rfl,Lib.hid rfl⟩
 case round =>
  obtain ⟨k,hk,rfl,HL⟩:=hrel
  by_cases hlt:k < sn
  case neg =>
   have HE:Hid (r = false):=Lib.hid (by have h1:=HL.out; rw [List.take_of_length_le (by rw [HNL.out]; omega)] at h1; rw [HR.out,h1])
   have hlt':¬ (k:Int) < sn:=by omega
   go_wp2_with fail
   go_ret
   exact ⟨ret_bool HE.out.symm,HB1.out⟩
  have hkI:(k:Int) < sn:=by omega
  obtain ⟨v,hv⟩:∃ v,x.sts[k]? = some v:=get_some (by have h1:=HNL.out; rw [HNS.out] at h1; unfold snC at h1; rw [List.length_map] at h1; omega)
  obtain ⟨b,off,a3,n3,m3,a4,n4,m4,a5,n5,m5,rfl,hb,d0,-⟩:=HV.out.at_ hv
  have hx:ns[k]? = some v.s:=by rw [HNS.out]; unfold snC; rw [List.getElem?_map,hv]; rfl
  obtain ⟨y,hy⟩:∃ y,y = v.s:=⟨_,rfl⟩
  rw [← hy] at d0 hx
  clear hv hy
  by_cases he:y = s
  ·subst he
   have g:(y.toList == y.toList) = true:=by simp
   have HE:Hid (r = true):=Lib.hid (by rw [HR.out]; exact hasS_hit hx)
   clear hx
   go_wp2_with fail
   go_ret
   exact ⟨ret_bool HE.out.symm,HB1.out⟩
  ·have g:(y.toList == s.toList) = false:=(Lib.bytes_beq_false_iff y s).2 he
   have HE:=Lib.hid (hasS_next hx HL.out he)
   clear hx he
   go_wp2_with fail
   go_round
   case rel => exact ⟨k + 1,by omega,by go_num,HE⟩
   case measure => simp [intOf]; omega
set_option maxRecDepth 100000 in
set_option maxHeartbeats 2000000 in
theorem rhasEvent_any (s:ByteArray) (hm:en ≤ 1000000):Calls Tryz.prog 78 #[.agg #[.string x.s,.slice eA en ec,.slice vA vn vc,.slice sA sn sc],.string s] w (RetB w (hasS (x.evs) s)):=by
 obtain ⟨_,_,_,heq,hnl,-,-⟩:=Rd.strs h.evs
 cases heq
 have HNL:=Lib.hid hnl
 obtain ⟨nm,hnm⟩:∃ nm,nm = x.s:=⟨_,rfl⟩
 rw [← hnm]
 obtain ⟨W1,hW1⟩:∃ W1,w.alloc (.cells #[.string nm,.slice eA en ec,.slice vA vn vc,.slice sA sn sc] 26) = W1:=⟨_,rfl⟩
 have hb1:Below w.heap.size w W1:=by rw [← hW1]; exact KitC.below_one _ _
 have hk1:W1.heap[w.heap.size]? = some (.cells #[.string nm,.slice eA en ec,.slice vA vn vc,.slice sA sn sc] 26):=by rw [← hW1]; exact heap_alloc_new _ _
 have HW1:=Lib.hid hW1
 have HB1:=Lib.hid hb1
 obtain ⟨_,_,_,heq,-,-,hA⟩:=Rd.strs (Rd.keep h.evs hb1)
 cases heq
 have HV:=Lib.hid hA
 obtain ⟨ns,hns⟩:∃ ns,ns = x.evs:=⟨_,rfl⟩
 have HNS:=Lib.hid hns
 rw [← hns] at HNL ⊢
 obtain ⟨c0,c1,c2,c3⟩:=cells_4 hk1
 obtain ⟨r,hr⟩:∃ r,r = hasS ns s:=⟨_,rfl⟩
 have HR:=Lib.hid hr
 rw [← hr]
 clear h hnm hW1 hb1 hk1 hns hr hnl hA
 go_enter Tryz.func78,Tryz.ntmps78
 go_wp2_with fail
 rw [HW1.out]
 go_loop [5] (fun i => ∃ k:Nat,k ≤ en ∧ i = .int .i64 k ∧ Hid (hasS (ns.take k) s = false)) (fun i => en - (intOf i).toNat)
 case atStart => exact ⟨0,Nat.zero_le _,rfl,Lib.hid rfl⟩
 case round =>
  obtain ⟨k,hk,rfl,HL⟩:=hrel
  by_cases hlt:k < en
  case neg =>
   have HE:Hid (r = false):=Lib.hid (by have h1:=HL.out; rw [List.take_of_length_le (by rw [HNL.out]; omega)] at h1; rw [HR.out,h1])
   have hlt':¬ (k:Int) < en:=by omega
   go_wp2_with fail
   go_ret
   exact ⟨ret_bool HE.out.symm,HB1.out⟩
  have hkI:(k:Int) < en:=by omega
  obtain ⟨y,hx⟩:∃ y,ns[k]? = some y:=get_some (by rw [HNL.out]; omega)
  obtain ⟨b,off,rfl,hb,hcell⟩:=HV.out (by omega)
  have d0:=hcell k y (by rw [← HNS.out]; exact hx)
  clear hcell
  by_cases he:y = s
  ·subst he
   have g:(y.toList == y.toList) = true:=by simp
   have HE:Hid (r = true):=Lib.hid (by rw [HR.out]; exact hasS_hit hx)
   clear hx
   go_wp2_with fail
   go_ret
   exact ⟨ret_bool HE.out.symm,HB1.out⟩
  ·have g:(y.toList == s.toList) = false:=(Lib.bytes_beq_false_iff y s).2 he
   have HE:=Lib.hid (hasS_next hx HL.out he)
   clear hx he
   go_wp2_with fail
   go_round
   case rel => exact ⟨k + 1,by omega,by go_num,HE⟩
   case measure => simp [intOf]; omega
set_option maxRecDepth 100000 in
set_option maxHeartbeats 8000000 in
theorem rexpr14_any (A:Option Addr) (n c:Nat) (l:List Tm) (ty:Int) (hT:Tms w (.slice A n c) l) (hwl:wholeB l = true) (hm:n ≤ 1000000) (hvn:vn ≤ 1000000) (hsn:sn ≤ 1000000) :
 Calls Tryz.prog 77 #[.agg #[.string x.s,.slice eA en ec,.slice vA vn vc,.slice sA sn sc],.slice A n c,.int .i64 ty] w (RetB w (exprR (vnC x) (snC x) l ty)):=by
 obtain ⟨_,_,_,heq,hnl,_⟩:=hT.shape
 cases heq
 have HV:=Lib.hid (fun s W (hW:Below w.heap.size w W) => rhasVar_any x eA en ec vA vn vc sA sn sc W (h.keep hW) s hvn)
 have HS:=Lib.hid (fun s W (hW:Below w.heap.size w W) => rhasState_any x eA en ec vA vn vc sA sn sc W (h.keep hW) s hsn)
 have HTY:=Lib.hid (fun W (hW:Below w.heap.size w W) => rtyp_zero A n c l hnl (by omega) W (hT.keep hW) hwl)
 have HN:=Lib.hid hnl
 obtain ⟨vs,hvs⟩:∃ vs,vs = vnC x:=⟨_,rfl⟩
 obtain ⟨ss,hss⟩:∃ ss,ss = snC x:=⟨_,rfl⟩
 rw [← hvs] at HV
 rw [← hss] at HS
 rw [← hvs,← hss]
 obtain ⟨nm,hnm⟩:∃ nm,nm = x.s:=⟨_,rfl⟩
 rw [← hnm]
 obtain ⟨W1,hW1⟩:∃ W1,w.alloc (.cells #[.string nm,.slice eA en ec,.slice vA vn vc,.slice sA sn sc] 26) = W1:=⟨_,rfl⟩
 have hb1:Below w.heap.size w W1:=by rw [← hW1]; exact KitC.below_one _ _
 have hk1:W1.heap[w.heap.size]? = some (.cells #[.string nm,.slice eA en ec,.slice vA vn vc,.slice sA sn sc] 26):=by rw [← hW1]; exact heap_alloc_new _ _
 have HW1:=Lib.hid hW1
 have HB1:=Lib.hid hb1
 have HK:=Lib.hid (fun W (hW:Below W1.heap.size W1 W) => KitC.block_on hk1 hW)
 have HT:=Lib.hid (fun W (hW:Below W1.heap.size W1 W) => hT.keep (below_two' hb1 hW))
 rw [← hnm] at HV HS
 obtain ⟨r,hr⟩:∃ r,r = exprR vs ss l ty:=⟨_,rfl⟩
 have HR:=Lib.hid hr
 obtain ⟨q,hq⟩:∃ q,q = typ l:=⟨_,rfl⟩
 have HQ:=Lib.hid hq
 rw [← hq] at HTY
 rw [← hr]
 clear h hT hwl hvn hsn hnl hvs hss hnm hW1 hb1 hk1 hr hq
 go_enter Tryz.func77,Tryz.ntmps77
 go_wp2_with fail
 rw [HW1.out]
 go_loopw [7] (fun i wr => RxRel W1 vs ss l n i wr) (fun i _ => n - (intOf i).toNat)
 case atStart => exact ⟨0,Nat.zero_le _,rfl,Lib.hid ⟨rfl,Below.refl _ _⟩⟩
 case round =>
  obtain ⟨k,hk,rfl,HL⟩:=hrel
  by_cases hlt:k < n
  case neg =>
   obtain rfl:k = n:=by omega
   have HE:Hid (r = (q == ty)):=Lib.hid (by have h1:=HL.out.1; rw [List.take_of_length_le (by rw [← HN.out]; omega)] at h1; rw [HR.out]; unfold exprR; rw [h1,← HQ.out,Bool.true_and]; rfl)
   have hlt':¬ (k:Int) < k:=by omega
   go_wp2_with (go_at_call 99; go_fit (HTY.out _ (below_two' HB1.out HL.out.2)))
   rintro e w2 ⟨rfl,hb2⟩
   have HB2:=Lib.hid (below_two' HL.out.2 hb2)
   clear hb2
   go_wp2_with fail
   go_ret
   exact ⟨ret_bool HE.out.symm,below_two' HB1.out HB2.out⟩
  have hkI:(k:Int) < n:=by omega
  obtain ⟨t,ht⟩:∃ t,l[k]? = some t:=get_some (by rw [← HN.out]; exact hlt)
  obtain ⟨b,off,rfl,hb,d0,d1,d2⟩:=(HT.out _ HL.out.2).at_ ht
  have hkm:(k:Int) < c:=by have:=(HT.out _ HL.out.2).cap; omega
  have HSTOP:=Lib.hid (fun h2 => HR.out.trans (exprR_stop (vs:=vs) (ss:=ss) (ty:=ty) ht h2))
  have HNEXT:=Lib.hid (fun h2 => termR_next (vs:=vs) (ss:=ss) ht HL.out.1 h2)
  obtain ⟨op,nn,s⟩:=t
  simp only at d0 d1 d2
  obtain ⟨c0,c1,c2,c3⟩:=cells_4 (HK.out _ HL.out.2)
  obtain ⟨q1,hq1⟩:∃ q,q = hasS vs s:=⟨_,rfl⟩
  obtain ⟨q2,hq2⟩:∃ q,q = hasS ss s:=⟨_,rfl⟩
  have HT2:Hid (termR vs ss ⟨op,nn,s⟩ = ((!decide (op = 2) || q1) && (!decide (op = 11) || q2))):=Lib.hid (by rw [hq1,hq2]; rfl)
  have HV1:=Lib.hid (fun W (hW:Below wr.heap.size wr W) => HV.out s W (below_two' HB1.out (below_two' HL.out.2 hW)))
  have HS1:=Lib.hid (fun W (hW:Below wr.heap.size wr W) => HS.out s W (below_two' HB1.out (below_two' HL.out.2 hW)))
  rw [← hq1] at HV1
  rw [← hq2] at HS1
  have HV2:Hid (∀ d os,Calls Tryz.prog 76 #[.agg #[.string nm,.slice eA en ec,.slice vA vn vc,.slice sA sn sc],.string s] (grow (redrawn wr d) os) fun e w'' => e = .returned (.bool q1) ∧ ∃ p:Regrown,w'' = grow (redrawn wr p.d) p.os) :=
   Lib.hid (fun d os => Calls.regrown_of (HV1.out _ (below_regrown wr d os)))
  have HS2:Hid (∀ d os,Calls Tryz.prog 79 #[.agg #[.string nm,.slice eA en ec,.slice vA vn vc,.slice sA sn sc],.string s] (grow (redrawn wr d) os) fun e w'' => e = .returned (.bool q2) ∧ ∃ p:Regrown,w'' = grow (redrawn wr p.d) p.os) :=
   Lib.hid (fun d os => Calls.regrown_of (HS1.out _ (below_regrown wr d os)))
  have r0:=cell_regrown c0; have r1:=cell_regrown c1; have r2:=cell_regrown c2; have r3:=cell_regrown c3
  have t0:=cell_regrown d0; have t2:=cell_regrown d2
  clear ht hq1 hq2 HV1 HS1
  by_cases o2:op = 2
  ·subst o2
   cases q1 with
   | false =>
     have HE:=Lib.hid (HSTOP.out (by rw [HT2.out]; simp))
     clear HSTOP HNEXT HT2
     go_wp2_with fail
     refine wp_region_quiet_below (by kernel_rfl) (by kernel_rfl) ?_
     repeat (go_big_quiet_step (first | (with_reducible exact HV2.out _ _) | (with_reducible exact HS2.out _ _)))
     refine wpQuiet_nil ?_
     intro _ hw'
     obtain ⟨⟨dq,osq⟩,hw''⟩:=hw'
     subst hw''
     simp only
     have HB3:=Lib.hid (below_two' HL.out.2 (below_regrown wr dq osq))
     go_wp2_with fail
     go_ret
     exact ⟨ret_bool HE.out.symm,below_two' HB1.out HB3.out⟩
   | true =>
     have HE:=Lib.hid (HNEXT.out (by rw [HT2.out]; simp))
     clear HSTOP HNEXT HT2
     go_wp2_with fail
     refine wp_region_quiet_below (by kernel_rfl) (by kernel_rfl) ?_
     repeat (go_big_quiet_step (first | (with_reducible exact HV2.out _ _) | (with_reducible exact HS2.out _ _)))
     refine wpQuiet_nil ?_
     intro _ hw'
     obtain ⟨⟨dq,osq⟩,hw''⟩:=hw'
     subst hw''
     simp only
     have HB3:=Lib.hid (below_two' HL.out.2 (below_regrown wr dq osq))
     go_wp2_with fail
     go_roundw
     case rel => exact ⟨k + 1,hlt,by simp,Lib.hid ⟨HE.out,HB3.out⟩⟩
     case measure => simp [intOf]; omega
  by_cases o11:op = 11
  ·subst o11
   cases q2 with
   | false =>
     have HE:=Lib.hid (HSTOP.out (by rw [HT2.out]; simp))
     clear HSTOP HNEXT HT2
     go_wp2_with fail
     refine wp_region_quiet_below (by kernel_rfl) (by kernel_rfl) ?_
     repeat (go_big_quiet_step (first | (with_reducible exact HV2.out _ _) | (with_reducible exact HS2.out _ _)))
     refine wpQuiet_nil ?_
     intro _ hw'
     obtain ⟨⟨dq,osq⟩,hw''⟩:=hw'
     subst hw''
     simp only
     have HB3:=Lib.hid (below_two' HL.out.2 (below_regrown wr dq osq))
     go_wp2_with fail
     go_ret
     exact ⟨ret_bool HE.out.symm,below_two' HB1.out HB3.out⟩
   | true =>
     have HE:=Lib.hid (HNEXT.out (by rw [HT2.out]; simp))
     clear HSTOP HNEXT HT2
     go_wp2_with fail
     refine wp_region_quiet_below (by kernel_rfl) (by kernel_rfl) ?_
     repeat (go_big_quiet_step (first | (with_reducible exact HV2.out _ _) | (with_reducible exact HS2.out _ _)))
     refine wpQuiet_nil ?_
     intro _ hw'
     obtain ⟨⟨dq,osq⟩,hw''⟩:=hw'
     subst hw''
     simp only
     have HB3:=Lib.hid (below_two' HL.out.2 (below_regrown wr dq osq))
     go_wp2_with fail
     go_roundw
     case rel => exact ⟨k + 1,hlt,by simp,Lib.hid ⟨HE.out,HB3.out⟩⟩
     case measure => simp [intOf]; omega
  have g1:(op == 2) = false:=by simpa using o2
  have g2:(op == 11) = false:=by simpa using o11
  have HE:=Lib.hid (HNEXT.out (by rw [HT2.out]; simp [o2,o11]))
  clear HSTOP HNEXT HT2 o2 o11
  go_wp2_with fail
  refine wp_region_quiet_below (by kernel_rfl) (by kernel_rfl) ?_
  repeat (go_big_quiet_step (first | (with_reducible exact HV2.out _ _) | (with_reducible exact HS2.out _ _)))
  refine wpQuiet_nil ?_
  intro _ hw'
  obtain ⟨⟨dq,osq⟩,hw''⟩:=hw'
  subst hw''
  simp only
  have HB3:=Lib.hid (below_two' HL.out.2 (below_regrown wr dq osq))
  go_wp2_with fail
  go_roundw
  case rel => exact ⟨k + 1,hlt,by simp,Lib.hid ⟨HE.out,HB3.out⟩⟩
  case measure => simp [intOf]; omega
end
end Go.Proofs.YtckojimeglkobaaGreatDoor