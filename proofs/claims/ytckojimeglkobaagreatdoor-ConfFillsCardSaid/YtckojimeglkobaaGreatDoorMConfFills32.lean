/- RulesRefC, RulesRefD, joined. -/
import Derived.Test.YtckojimeglkobaaGreatDoorMConfFills31
import Derived.DeepKeys
import Derived.Laws.StructEq
namespace Go.Proofs.YtckojimeglkobaaGreatDoor
open Go.RowKit Go.Sort TermSpec NamesSpec EvalSpec ActSpec TransSpec SynSpec RulesSpec PrintSpec
open ShapeSpec (Sh kids)
set_option maxRecDepth 100000
def twinB (ns:List ByteArray) (i:Nat):Bool:=hasS (ns.take i) (ns.getD i ByteArray.empty)
theorem twinB_at {ns:List ByteArray} {i:Nat} {y:ByteArray} (h:ns[i]? = some y):twinB ns i = hasS (ns.take i) y:=by unfold twinB; rw [getD_of h]
theorem twin_hit {ns:List ByteArray} {i k:Nat} {y:ByteArray} (h:ns[k]? = some y) (hk:k < i):hasS (ns.take i) y = true:=hasS_iff.2 (List.mem_of_getElem? (by rw [List.getElem?_take_of_lt hk]; exact h))
theorem kids_int (l:List Sh) (i:Nat):(kids l i).length ≤ l.length:=ShapeSpec.kids_le l i l.length
theorem lone_not {l:List Sh} {i:Nat} {k:Int} (hk:ShapeSpec.kind l i = k) (h1:1 ≤ k) (h2:k ≤ 3):(!loneB l i) = (decide (k = 1) || decide (k - 1 ≤ ((kids l i).length:Int))):=by
 rw [loneB_at hk rfl]
 unfold mustK
 by_cases a:k = 1
 ·subst a; simp
 by_cases b:k = 2
 ·subst b; rw [Bool.eq_iff_iff]; simp
 obtain rfl:k = 3:=by omega
 rw [Bool.eq_iff_iff]
 simp
section
variable (x:Cx) (eA:Option Addr) (en ec:Nat) (vA:Option Addr) (vn vc:Nat) (sA:Option Addr) (sn sc:Nat) (w:World) (h:ChIn w (.slice eA en ec) (.slice vA vn vc) (.slice sA sn sc) x)
include h
set_option maxRecDepth 100000 in
set_option maxHeartbeats 4000000 in
theorem ritem_1 (i:Nat) (hi:i < en) (hm:en ≤ 1000000):Calls Tryz.prog 56 #[.agg #[.string x.s,.slice eA en ec,.slice vA vn vc,.slice sA sn sc],.int .i64 1,.int .i64 i] w (RetB w (!twinB (x.evs) i)):=by
 obtain ⟨_,_,_,heq,hnl,hcap,-⟩:=Rd.strs h.evs
 cases heq
 have HNL:=Lib.hid hnl
 obtain ⟨nm,hnm⟩:∃ nm,nm = x.s:=⟨_,rfl⟩
 rw [← hnm]
 obtain ⟨W1,hW1⟩:∃ W1,w.alloc (.cells #[.string nm,.slice eA en ec,.slice vA vn vc,.slice sA sn sc] 26) = W1:=⟨_,rfl⟩
 have hb1:Below w.heap.size w W1:=by rw [← hW1]; exact KitC.below_one _ _
 have hk1:W1.heap[w.heap.size]? = some (.cells #[.string nm,.slice eA en ec,.slice vA vn vc,.slice sA sn sc] 26):=by rw [← hW1]; exact heap_alloc_new _ _
 have HW1:=Lib.hid hW1
 have HB1:=Lib.hid hb1
 have HCL:Hid (∀ W,Below W1.heap.size W1 W → ∀ (k:Nat) (y:ByteArray),x.evs[k]? = some y → ∃ b off,eA = some ⟨b,off,none⟩ ∧ b < W.heap.size ∧ W.cell? ⟨b,off + k,none⟩ = some (.string y)):=Lib.hid (by
  intro W hW k y hy
  obtain ⟨_,_,_,heq,hl,-,hA⟩:=Rd.strs (Rd.keep h.evs (below_two' hb1 hW))
  cases heq
  obtain ⟨b,off,e,hb,hcell⟩:=hA (by have:=get_lt hy; omega)
  exact ⟨b,off,e,hb,hcell k y hy⟩)
 obtain ⟨ns,hns⟩:∃ ns,ns = x.evs:=⟨_,rfl⟩
 rw [← hns] at HNL HCL ⊢
 have HK:=Lib.hid (fun W (hW:Below W1.heap.size W1 W) => KitC.block_on hk1 hW)
 obtain ⟨yi,hyi⟩:∃ y,ns[i]? = some y:=get_some (by rw [HNL.out]; exact hi)
 have HYI:=Lib.hid hyi
 have HTW:=Lib.hid (twinB_at hyi)
 obtain ⟨r,hr⟩:∃ r,r = twinB ns i:=⟨_,rfl⟩
 rw [← hr] at HTW ⊢
 obtain ⟨bq,oq,rfl,-,-⟩:=HCL.out W1 (Below.refl _ _) i yi hyi
 have hiI:(i:Int) < en:=by omega
 clear h hnm hW1 hb1 hk1 hns hnl hyi hr
 go_enter Tryz.func56,Tryz.ntmps56
 go_wp2_with fail
 rw [HW1.out]
 go_loopw [7] (fun v wr => ∃ k:Nat,k ≤ i ∧ v = .int .i64 k ∧ Hid (hasS (ns.take k) yi = false ∧ Below W1.heap.size W1 wr)) (fun v _ => i - (intOf v).toNat)
 case atStart => exact ⟨0,Nat.zero_le _,rfl,Lib.hid ⟨rfl,Below.refl _ _⟩⟩
 case round =>
  obtain ⟨k,hk,rfl,HL⟩:=hrel
  by_cases hlt:k < i
  case neg =>
   obtain rfl:k = i:=by omega
   have HE:Hid ((!r) = true):=Lib.hid (by rw [HTW.out,HL.out.1]; rfl)
   have hlt':¬ (k:Int) < k:=by omega
   go_wp2_with fail
   go_ret
   exact ⟨ret_bool HE.out.symm,below_two' HB1.out HL.out.2⟩
  have hkI:(k:Int) < i:=by omega
  have hkn:(k:Int) < en:=by omega
  obtain ⟨yk,hyk⟩:∃ y,ns[k]? = some y:=get_some (by rw [HNL.out]; omega)
  obtain ⟨_,_,heq,hb,dk⟩:=HCL.out _ HL.out.2 k yk hyk
  cases heq
  obtain ⟨_,_,heq,-,di⟩:=HCL.out _ HL.out.2 i yi HYI.out
  cases heq
  obtain ⟨c0,c1,c2,c3⟩:=cells_4 (HK.out _ HL.out.2)
  have r1:=cell_regrown c1; have r2:=cell_regrown dk; have r3:=cell_regrown di
  by_cases he:yk = yi
  ·subst he
   have g:(yk.toList == yk.toList) = true:=by simp
   have HE:Hid ((!r) = false):=Lib.hid (by rw [HTW.out,twin_hit hyk hlt]; rfl)
   clear hyk
   go_wp2_with fail
   refine wp_region_quiet_below (by kernel_rfl) (by kernel_rfl) ?_
   repeat (go_big_quiet_step (fail))
   refine wpQuiet_nil ?_
   intro _ hw'
   obtain ⟨⟨dq,osq⟩,hw''⟩:=hw'
   subst hw''
   simp only
   have HB3:=Lib.hid (below_two' HL.out.2 (below_regrown wr dq osq))
   go_wp2_with fail
   go_ret
   exact ⟨ret_bool HE.out.symm,below_two' HB1.out HB3.out⟩
  have g:(yk.toList == yi.toList) = false:=(Lib.bytes_beq_false_iff yk yi).2 he
  have HE:=Lib.hid (hasS_next hyk HL.out.1 he)
  clear hyk he
  go_wp2_with fail
  refine wp_region_quiet_below (by kernel_rfl) (by kernel_rfl) ?_
  repeat (go_big_quiet_step (fail))
  refine wpQuiet_nil ?_
  intro _ hw'
  obtain ⟨⟨dq,osq⟩,hw''⟩:=hw'
  subst hw''
  simp only
  have HB3:=Lib.hid (below_two' HL.out.2 (below_regrown wr dq osq))
  go_wp2_with fail
  go_roundw
  case rel => exact ⟨k + 1,by omega,by simp,Lib.hid ⟨HE.out,HB3.out⟩⟩
  case measure => simp [intOf]; omega
set_option maxRecDepth 100000 in
set_option maxHeartbeats 4000000 in
theorem ritem_2 (i:Nat) (hi:i < vn) (hm:vn ≤ 1000000):Calls Tryz.prog 56 #[.agg #[.string x.s,.slice eA en ec,.slice vA vn vc,.slice sA sn sc],.int .i64 2,.int .i64 i] w (RetB w (!twinB (vnC x) i)):=by
 have hn:=h.vars.len.1
 have hcap:=h.vars.len.2
 have hnl:(vnC x).length = vn:=by unfold vnC; rw [List.length_map,hn]
 have HNL:=Lib.hid hnl
 obtain ⟨nm,hnm⟩:∃ nm,nm = x.s:=⟨_,rfl⟩
 rw [← hnm]
 obtain ⟨W1,hW1⟩:∃ W1,w.alloc (.cells #[.string nm,.slice eA en ec,.slice vA vn vc,.slice sA sn sc] 26) = W1:=⟨_,rfl⟩
 have hb1:Below w.heap.size w W1:=by rw [← hW1]; exact KitC.below_one _ _
 have hk1:W1.heap[w.heap.size]? = some (.cells #[.string nm,.slice eA en ec,.slice vA vn vc,.slice sA sn sc] 26):=by rw [← hW1]; exact heap_alloc_new _ _
 have HW1:=Lib.hid hW1
 have HB1:=Lib.hid hb1
 have HCL:Hid (∀ W,Below W1.heap.size W1 W → ∀ (k:Nat) (y:ByteArray),(vnC x)[k]? = some y → ∃ b off,vA = some ⟨b,off,none⟩ ∧ b < W.heap.size ∧ W.cell? ⟨b,off + k * 4,none⟩ = some (.string y)):=Lib.hid (by
  intro W hW k y hy
  unfold vnC at hy
  rw [List.getElem?_map] at hy
  obtain ⟨v,hv,rfl⟩:=Option.map_eq_some_iff.1 hy
  obtain ⟨b,off,e,hb,d0,-,-,-⟩:=VarsIn.at_ (RdV.vars (w:=W) (Rdk.keep h.vars (below_two' hb1 hW))) hv
  exact ⟨b,off,e,hb,d0⟩)
 obtain ⟨ns,hns⟩:∃ ns,ns = vnC x:=⟨_,rfl⟩
 rw [← hns] at HNL HCL ⊢
 have HK:=Lib.hid (fun W (hW:Below W1.heap.size W1 W) => KitC.block_on hk1 hW)
 obtain ⟨yi,hyi⟩:∃ y,ns[i]? = some y:=get_some (by rw [HNL.out]; exact hi)
 have HYI:=Lib.hid hyi
 have HTW:=Lib.hid (twinB_at hyi)
 obtain ⟨r,hr⟩:∃ r,r = twinB ns i:=⟨_,rfl⟩
 rw [← hr] at HTW ⊢
 obtain ⟨bq,oq,rfl,-,-⟩:=HCL.out W1 (Below.refl _ _) i yi hyi
 have hiI:(i:Int) < vn:=by omega
 clear h hnm hW1 hb1 hk1 hns hnl hyi hr hn
 go_enter Tryz.func56,Tryz.ntmps56
 go_wp2_with fail
 rw [HW1.out]
 go_loopw [8] (fun v wr => ∃ k:Nat,k ≤ i ∧ v = .int .i64 k ∧ Hid (hasS (ns.take k) yi = false ∧ Below W1.heap.size W1 wr)) (fun v _ => i - (intOf v).toNat)
 case atStart => exact ⟨0,Nat.zero_le _,rfl,Lib.hid ⟨rfl,Below.refl _ _⟩⟩
 case round =>
  obtain ⟨k,hk,rfl,HL⟩:=hrel
  by_cases hlt:k < i
  case neg =>
   obtain rfl:k = i:=by omega
   have HE:Hid ((!r) = true):=Lib.hid (by rw [HTW.out,HL.out.1]; rfl)
   have hlt':¬ (k:Int) < k:=by omega
   go_wp2_with fail
   go_ret
   exact ⟨ret_bool HE.out.symm,below_two' HB1.out HL.out.2⟩
  have hkI:(k:Int) < i:=by omega
  have hkn:(k:Int) < vn:=by omega
  obtain ⟨yk,hyk⟩:∃ y,ns[k]? = some y:=get_some (by rw [HNL.out]; omega)
  obtain ⟨_,_,heq,hb,dk⟩:=HCL.out _ HL.out.2 k yk hyk
  cases heq
  obtain ⟨_,_,heq,-,di⟩:=HCL.out _ HL.out.2 i yi HYI.out
  cases heq
  obtain ⟨c0,c1,c2,c3⟩:=cells_4 (HK.out _ HL.out.2)
  have r1:=cell_regrown c2; have r2:=cell_regrown dk; have r3:=cell_regrown di
  by_cases he:yk = yi
  ·subst he
   have g:(yk.toList == yk.toList) = true:=by simp
   have HE:Hid ((!r) = false):=Lib.hid (by rw [HTW.out,twin_hit hyk hlt]; rfl)
   clear hyk
   go_wp2_with fail
   refine wp_region_quiet_below (by kernel_rfl) (by kernel_rfl) ?_
   repeat (go_big_quiet_step (fail))
   refine wpQuiet_nil ?_
   intro _ hw'
   obtain ⟨⟨dq,osq⟩,hw''⟩:=hw'
   subst hw''
   simp only
   have HB3:=Lib.hid (below_two' HL.out.2 (below_regrown wr dq osq))
   go_wp2_with fail
   go_ret
   exact ⟨ret_bool HE.out.symm,below_two' HB1.out HB3.out⟩
  have g:(yk.toList == yi.toList) = false:=(Lib.bytes_beq_false_iff yk yi).2 he
  have HE:=Lib.hid (hasS_next hyk HL.out.1 he)
  clear hyk he
  go_wp2_with fail
  refine wp_region_quiet_below (by kernel_rfl) (by kernel_rfl) ?_
  repeat (go_big_quiet_step (fail))
  refine wpQuiet_nil ?_
  intro _ hw'
  obtain ⟨⟨dq,osq⟩,hw''⟩:=hw'
  subst hw''
  simp only
  have HB3:=Lib.hid (below_two' HL.out.2 (below_regrown wr dq osq))
  go_wp2_with fail
  go_roundw
  case rel => exact ⟨k + 1,by omega,by simp,Lib.hid ⟨HE.out,HB3.out⟩⟩
  case measure => simp [intOf]; omega
set_option maxRecDepth 100000 in
set_option maxHeartbeats 4000000 in
theorem ritem_4 (i:Nat) (hi:i < sn) (hm:sn ≤ 1000000):Calls Tryz.prog 56 #[.agg #[.string x.s,.slice eA en ec,.slice vA vn vc,.slice sA sn sc],.int .i64 4,.int .i64 i] w (RetB w (!twinB (snC x) i)):=by
 have hn:=h.sts.len.1
 have hcap:=h.sts.len.2
 have hnl:(snC x).length = sn:=by unfold snC; rw [List.length_map,hn]
 have HNL:=Lib.hid hnl
 obtain ⟨nm,hnm⟩:∃ nm,nm = x.s:=⟨_,rfl⟩
 rw [← hnm]
 obtain ⟨W1,hW1⟩:∃ W1,w.alloc (.cells #[.string nm,.slice eA en ec,.slice vA vn vc,.slice sA sn sc] 26) = W1:=⟨_,rfl⟩
 have hb1:Below w.heap.size w W1:=by rw [← hW1]; exact KitC.below_one _ _
 have hk1:W1.heap[w.heap.size]? = some (.cells #[.string nm,.slice eA en ec,.slice vA vn vc,.slice sA sn sc] 26):=by rw [← hW1]; exact heap_alloc_new _ _
 have HW1:=Lib.hid hW1
 have HB1:=Lib.hid hb1
 have HCL:Hid (∀ W,Below W1.heap.size W1 W → ∀ (k:Nat) (y:ByteArray),(snC x)[k]? = some y → ∃ b off,sA = some ⟨b,off,none⟩ ∧ b < W.heap.size ∧ W.cell? ⟨b,off + k * 6,none⟩ = some (.string y)):=Lib.hid (by
  intro W hW k y hy
  unfold snC at hy
  rw [List.getElem?_map] at hy
  obtain ⟨v,hv,rfl⟩:=Option.map_eq_some_iff.1 hy
  obtain ⟨b,off,a3,n3,m3,a4,n4,m4,a5,n5,m5,e,hb,d0,-⟩:=(h.sts.keep (below_two' hb1 hW)).at_ hv
  exact ⟨b,off,e,hb,d0⟩)
 obtain ⟨ns,hns⟩:∃ ns,ns = snC x:=⟨_,rfl⟩
 rw [← hns] at HNL HCL ⊢
 have HK:=Lib.hid (fun W (hW:Below W1.heap.size W1 W) => KitC.block_on hk1 hW)
 obtain ⟨yi,hyi⟩:∃ y,ns[i]? = some y:=get_some (by rw [HNL.out]; exact hi)
 have HYI:=Lib.hid hyi
 have HTW:=Lib.hid (twinB_at hyi)
 obtain ⟨r,hr⟩:∃ r,r = twinB ns i:=⟨_,rfl⟩
 rw [← hr] at HTW ⊢
 obtain ⟨bq,oq,rfl,-,-⟩:=HCL.out W1 (Below.refl _ _) i yi hyi
 have hiI:(i:Int) < sn:=by omega
 clear h hnm hW1 hb1 hk1 hns hnl hyi hr hn
 go_enter Tryz.func56,Tryz.ntmps56
 go_wp2_with fail
 rw [HW1.out]
 go_loopw [10] (fun v wr => ∃ k:Nat,k ≤ i ∧ v = .int .i64 k ∧ Hid (hasS (ns.take k) yi = false ∧ Below W1.heap.size W1 wr)) (fun v _ => i - (intOf v).toNat)
 case atStart => exact ⟨0,Nat.zero_le _,rfl,Lib.hid ⟨rfl,Below.refl _ _⟩⟩
 case round =>
  obtain ⟨k,hk,rfl,HL⟩:=hrel
  by_cases hlt:k < i
  case neg =>
   obtain rfl:k = i:=by omega
   have HE:Hid ((!r) = true):=Lib.hid (by rw [HTW.out,HL.out.1]; rfl)
   have hlt':¬ (k:Int) < k:=by omega
   go_wp2_with fail
   go_ret
   exact ⟨ret_bool HE.out.symm,below_two' HB1.out HL.out.2⟩
  have hkI:(k:Int) < i:=by omega
  have hkn:(k:Int) < sn:=by omega
  obtain ⟨yk,hyk⟩:∃ y,ns[k]? = some y:=get_some (by rw [HNL.out]; omega)
  obtain ⟨_,_,heq,hb,dk⟩:=HCL.out _ HL.out.2 k yk hyk
  cases heq
  obtain ⟨_,_,heq,-,di⟩:=HCL.out _ HL.out.2 i yi HYI.out
  cases heq
  obtain ⟨c0,c1,c2,c3⟩:=cells_4 (HK.out _ HL.out.2)
  have r1:=cell_regrown c3; have r2:=cell_regrown dk; have r3:=cell_regrown di
  by_cases he:yk = yi
  ·subst he
   have g:(yk.toList == yk.toList) = true:=by simp
   have HE:Hid ((!r) = false):=Lib.hid (by rw [HTW.out,twin_hit hyk hlt]; rfl)
   clear hyk
   go_wp2_with fail
   refine wp_region_quiet_below (by kernel_rfl) (by kernel_rfl) ?_
   repeat (go_big_quiet_step (fail))
   refine wpQuiet_nil ?_
   intro _ hw'
   obtain ⟨⟨dq,osq⟩,hw''⟩:=hw'
   subst hw''
   simp only
   have HB3:=Lib.hid (below_two' HL.out.2 (below_regrown wr dq osq))
   go_wp2_with fail
   go_ret
   exact ⟨ret_bool HE.out.symm,below_two' HB1.out HB3.out⟩
  have g:(yk.toList == yi.toList) = false:=(Lib.bytes_beq_false_iff yk yi).2 he
  have HE:=Lib.hid (hasS_next hyk HL.out.1 he)
  clear hyk he
  go_wp2_with fail
  refine wp_region_quiet_below (by kernel_rfl) (by kernel_rfl) ?_
  repeat (go_big_quiet_step (fail))
  refine wpQuiet_nil ?_
  intro _ hw'
  obtain ⟨⟨dq,osq⟩,hw''⟩:=hw'
  subst hw''
  simp only
  have HB3:=Lib.hid (below_two' HL.out.2 (below_regrown wr dq osq))
  go_wp2_with fail
  go_roundw
  case rel => exact ⟨k + 1,by omega,by simp,Lib.hid ⟨HE.out,HB3.out⟩⟩
  case measure => simp [intOf]; omega
set_option maxRecDepth 100000 in
set_option maxHeartbeats 4000000 in
theorem ritem_3 (i:Nat) (hi:i < vn) (_hm:vn ≤ 1000000) (hsm:∀ v ∈ x.vars,-1000 ≤ v.lo ∧ v.hi ≤ 1000):Calls Tryz.prog 56 #[.agg #[.string x.s,.slice eA en ec,.slice vA vn vc,.slice sA sn sc],.int .i64 3,.int .i64 i] w (RetB w (!illB x.vars i)):=by
 have hn:=h.vars.len.1
 have hcap:=h.vars.len.2
 obtain ⟨v,hv⟩:∃ v,x.vars[i]? = some v:=get_some (by omega)
 have hsv:=hsm v (List.mem_of_getElem? hv)
 rw [illB_at hv,Bool.not_not]
 obtain ⟨nm,hnm⟩:∃ nm,nm = x.s:=⟨_,rfl⟩
 rw [← hnm]
 obtain ⟨W1,hW1⟩:∃ W1,w.alloc (.cells #[.string nm,.slice eA en ec,.slice vA vn vc,.slice sA sn sc] 26) = W1:=⟨_,rfl⟩
 have hb1:Below w.heap.size w W1:=by rw [← hW1]; exact KitC.below_one _ _
 have hk1:W1.heap[w.heap.size]? = some (.cells #[.string nm,.slice eA en ec,.slice vA vn vc,.slice sA sn sc] 26):=by rw [← hW1]; exact heap_alloc_new _ _
 have HW1:=Lib.hid hW1
 have HB1:=Lib.hid hb1
 obtain ⟨b,off,rfl,hb,d0,d1,d2,d3⟩:=VarsIn.at_ (RdV.vars h.vars) hv
 obtain ⟨s,lo,hi',ini⟩:=v
 simp only at d0 d1 d2 d3 hsv
 obtain ⟨s1,s2⟩:=hsv
 have HBA:=Lib.hid (below_two' hb1 (KitC.below_one W1 (.cells #[.string s,.int .i64 lo,.int .i64 hi',.int .i64 ini] 52)))
 have hws:w.heap.size < W1.heap.size:=(Array.getElem?_eq_some_iff.1 hk1).1
 have HOK:Hid (rangeR ⟨s,lo,hi',ini⟩ = (decide (lo ≤ ini) && (decide (ini ≤ hi') && decide (hi' - lo < 64)))):=Lib.hid rfl
 have hiI:(i:Int) < vn:=by omega
 clear h hn hsm hv hnm hW1 hb1 hk1
 by_cases e1:lo ≤ ini
 case neg =>
  have g1:decide (lo ≤ ini) = false:=by simpa using e1
  have HE:Hid (rangeR ⟨s,lo,hi',ini⟩ = false):=Lib.hid (by rw [HOK.out,g1]; rfl)
  clear e1
  go_enter Tryz.func56,Tryz.ntmps56
  go_wp2_with fail
  go_ret
  exact ⟨ret_bool HE.out.symm,by first | exact HBA.out | (rw [HW1.out]; exact HBA.out)⟩
 have g1:decide (lo ≤ ini) = true:=by simpa using e1
 by_cases e2:ini ≤ hi'
 case neg =>
  have g2:decide (ini ≤ hi') = false:=by simpa using e2
  have HE:Hid (rangeR ⟨s,lo,hi',ini⟩ = false):=Lib.hid (by rw [HOK.out,g1,g2]; rfl)
  clear e1 e2
  go_enter Tryz.func56,Tryz.ntmps56
  go_wp2_with fail
  go_ret
  exact ⟨ret_bool HE.out.symm,by first | exact HBA.out | (rw [HW1.out]; exact HBA.out)⟩
 have g2:decide (ini ≤ hi') = true:=by simpa using e2
 have HE:Hid (rangeR ⟨s,lo,hi',ini⟩ = decide (hi' - lo < 64)):=Lib.hid (by rw [HOK.out,g1,g2]; rfl)
 have q1:lo ≤ 1000:=by omega
 have q2:-1000 ≤ hi':=by omega
 clear e1 e2
 go_enter Tryz.func56,Tryz.ntmps56
 go_wp2_with fail
 go_ret
 exact ⟨ret_bool HE.out.symm,by first | exact HBA.out | (rw [HW1.out]; exact HBA.out)⟩
set_option maxRecDepth 100000 in
set_option maxHeartbeats 4000000 in
theorem ritem_5 (i:Nat) (hi:i < sn) (hm:sn ≤ 1000000) (hkd:∀ s ∈ x.sts,1 ≤ s.kind ∧ s.kind ≤ 3):Calls Tryz.prog 56 #[.agg #[.string x.s,.slice eA en ec,.slice vA vn vc,.slice sA sn sc],.int .i64 5,.int .i64 i] w (RetB w (!loneB (x.sts.map shOf) i)):=by
 have hn:=h.sts.len.1
 have hcap:=h.sts.len.2
 obtain ⟨v,hv⟩:∃ v,x.sts[i]? = some v:=get_some (by omega)
 obtain ⟨hk1',hk2'⟩:=hkd v (List.mem_of_getElem? hv)
 have HLN:=Lib.hid (lone_not (l:=x.sts.map shOf) (i:=i) (by rw [ShapeSpec.kind_at (by rw [List.getElem?_map,hv]; rfl)]; rfl) hk1' hk2')
 have HKI:=Lib.hid (fun W (hW:Below w.heap.size w W) => rshkids_any sA sn sc (x.sts.map shOf) i W (h.sts.keep hW).sts (by omega))
 have hkl:=kids_int (x.sts.map shOf) i
 rw [List.length_map,← hn] at hkl
 obtain ⟨ks,hks⟩:∃ ks,ks = kids (x.sts.map shOf) i:=⟨_,rfl⟩
 rw [← hks] at HLN HKI hkl
 obtain ⟨r,hr⟩:∃ r,r = !loneB (x.sts.map shOf) i:=⟨_,rfl⟩
 rw [← hr] at HLN ⊢
 obtain ⟨nm,hnm⟩:∃ nm,nm = x.s:=⟨_,rfl⟩
 rw [← hnm]
 obtain ⟨W1,hW1⟩:∃ W1,w.alloc (.cells #[.string nm,.slice eA en ec,.slice vA vn vc,.slice sA sn sc] 26) = W1:=⟨_,rfl⟩
 have hb1:Below w.heap.size w W1:=by rw [← hW1]; exact KitC.below_one _ _
 have hk1:W1.heap[w.heap.size]? = some (.cells #[.string nm,.slice eA en ec,.slice vA vn vc,.slice sA sn sc] 26):=by rw [← hW1]; exact heap_alloc_new _ _
 have HW1:=Lib.hid hW1
 have HB1:=Lib.hid hb1
 have HK:=Lib.hid (fun W (hW:Below W1.heap.size W1 W) => KitC.block_on hk1 hW)
 have HST:=Lib.hid (fun W (hW:Below W1.heap.size W1 W) => (h.sts.keep (below_two' hb1 hW)).at_ hv)
 have hiI:(i:Int) < sn:=by omega
 obtain ⟨kd,hkdd⟩:∃ kd,kd = v.kind:=⟨_,rfl⟩
 rw [← hkdd] at HLN HST hk1' hk2'
 obtain ⟨c0,c1,c2,c3⟩:=cells_4 hk1
 clear h hn hkd hv hks hr hnm hW1 hb1 hk1 hkdd
 by_cases e1:kd = 1
 ·subst e1
  have HE:Hid (r = true):=Lib.hid (by rw [HLN.out]; rfl)
  go_enter Tryz.func56,Tryz.ntmps56
  go_wp2_with (rw [HW1.out]; go_at_call 38; go_fit (HKI.out _ HB1.out))
  rintro e w2 hx
  obtain ⟨A2,k2,rfl,-,hb2⟩:=retInts_shape hx
  have HB2:=Lib.hid hb2
  obtain ⟨x0,x1,x2,x3⟩:=cells_4 (HK.out _ hb2)
  obtain ⟨b,off,a3,n3,m3,a4,n4,m4,a5,n5,m5,rfl,hb,d0,d1,-⟩:=HST.out _ hb2
  clear hb2 hx
  go_wp2_with fail
  go_ret
  exact ⟨ret_bool HE.out.symm,below_two' HB1.out HB2.out⟩
 have g1:(kd == 1) = false:=by simpa using e1
 have HE:Hid (r = decide (kd - 1 ≤ (ks.length:Int))):=Lib.hid (by rw [HLN.out]; simp [e1])
 clear e1
 go_enter Tryz.func56,Tryz.ntmps56
 go_wp2_with (rw [HW1.out]; go_at_call 38; go_fit (HKI.out _ HB1.out))
 rintro e w2 hx
 obtain ⟨A2,k2,rfl,-,hb2⟩:=retInts_shape hx
 have HB2:=Lib.hid hb2
 obtain ⟨x0,x1,x2,x3⟩:=cells_4 (HK.out _ hb2)
 obtain ⟨b,off,a3,n3,m3,a4,n4,m4,a5,n5,m5,rfl,hb,d0,d1,-⟩:=HST.out _ hb2
 clear hb2 hx
 go_wp2_with fail
 go_ret
 exact ⟨ret_bool HE.out.symm,below_two' HB1.out HB2.out⟩
end
end Go.Proofs.YtckojimeglkobaaGreatDoor
namespace Go.Proofs.YtckojimeglkobaaGreatDoor
open Go.RowKit Go.Sort TermSpec NamesSpec EvalSpec ActSpec TransSpec SynSpec RulesSpec PrintSpec
open ShapeSpec (Sh kids)
set_option maxRecDepth 100000
structure MayR (x:Cx):Prop where
 vars:∀ v ∈ x.vars,-1000 ≤ v.lo ∧ v.hi ≤ 1000
 kind:∀ s ∈ x.sts,1 ≤ s.kind ∧ s.kind ≤ 3
 acts:∀ s ∈ x.sts,(∀ a ∈ s.en,a.any = false → wholeB a.x = true) ∧ (∀ a ∈ s.ex,a.any = false → wholeB a.x = true) ∧ ∀ t ∈ s.tr,(¬ t.g.length = 0 → wholeB t.g = true) ∧ ∀ a ∈ t.acts,a.any = false → wholeB a.x = true
theorem twins_pl (ns:List ByteArray):twins ns = plTo (twinB ns) ns.length:=(plTo_twins ns ns.length).symm
def BkIn (W1:World) (P:List Fw) (g:Nat) (O:Obj) (p:Value) (wr:World):Prop:=RowF W1 wr p P ∧ wr.heap[g]? = some O ∧ p.ownBlock ≠ some g
theorem BkIn.keep {W1 wr w':World} {P:List Fw} {g:Nat} {O:Obj} {p:Value} (h:BkIn W1 P g O p wr) (hb:Below wr.heap.size wr w'):BkIn W1 P g O p w':=⟨h.1.keep hb,KitC.block_on h.2.1 hb,h.2.2⟩
theorem BkIn.add {W1 wr w2:World} {P:List Fw} {g:Nat} {O:Obj} {p p':Value} {f:Fw} {o:Obj} (h:BkIn W1 P g O p wr) (hrow:w2.ownsRow W1.heap.size 118 3 p' (P.length + 1) (fwsV P ++ fwsV [f])) (hg:(wr.alloc o).grownBy w2 p.ownBlock)
 (hb:p'.ownBlock = p.ownBlock ∨ p'.ownBlock = some (wr.alloc o).heap.size):BkIn W1 (P ++ [f]) g O p' w2:=by
 obtain ⟨h1,h2,h3⟩:=h
 have hlt:=(Array.getElem?_eq_some_iff.1 h2).1
 refine ⟨h1.add hrow hg,?_,?_⟩
 ·rw [hg.block g (by rw [World.size_alloc]; omega) (fun e => h3 e.symm)]
  exact (heap_alloc_old _ _ hlt).trans h2
 ·rcases hb with hb | hb
  ·rw [hb]; exact h3
  ·rw [hb,World.size_alloc]
   intro e
   have:=Option.some.inj e
   omega
theorem bk_new {W1 wr:World} {P:List Fw} {p:Value} (h:RowF W1 wr p P) (O:Obj):BkIn W1 P wr.heap.size O p (wr.alloc O) :=
 ⟨h.keep (KitC.below_one _ _),heap_alloc_new _ _,fun e => by have:=own_block_bd h.1 _ e; omega⟩
def BiRel (W1:World) (P:Nat → List Fw) (n:Nat) (p i:Value) (wr:World):Prop:=∃ k:Nat,k ≤ n ∧ i = .int .i64 k ∧ Hid (RowF W1 wr p (P k))
section
variable (x:Cx) (eA:Option Addr) (en ec:Nat) (vA:Option Addr) (vn vc:Nat) (sA:Option Addr) (sn sc:Nat) (w:World)
set_option maxRecDepth 100000 in
set_option maxHeartbeats 8000000 in
theorem rbk_items (rule:Int) (nI:Nat) (f:Nat → Bool) (hsel:(rule = 1 ∧ nI = en) ∨ (rule = 2 ∧ nI = vn) ∨ (rule = 3 ∧ nI = vn) ∨ (rule = 4 ∧ nI = sn) ∨ (rule = 5 ∧ nI = sn)) (hm:nI ≤ 1000)
 (hit:∀ i:Nat,i < nI → ∀ W,Below w.heap.size w W → Calls Tryz.prog 56 #[.agg #[.string x.s,.slice eA en ec,.slice vA vn vc,.slice sA sn sc],.int .i64 rule,.int .i64 i] W (RetB W (!f i))) :
 Calls Tryz.prog 28 #[.agg #[.string x.s,.slice eA en ec,.slice vA vn vc,.slice sA sn sc],.int .i64 rule] w (RetFw w (itemsF rule (plTo f nI))):=by
 have HIT:=Lib.hid hit
 have hfb:=fw_two
 obtain ⟨i0,hi,hz0,hz1,hz2⟩:=info_parts inf_flaw
 have HI:=Lib.hid (And.intro hi (And.intro hz0 (And.intro hz1 hz2)))
 obtain ⟨nm,hnm⟩:∃ nm,nm = x.s:=⟨_,rfl⟩
 rw [← hnm]
 obtain ⟨W1,hW1⟩:∃ W1,w.alloc (.cells #[.string nm,.slice eA en ec,.slice vA vn vc,.slice sA sn sc] 26) = W1:=⟨_,rfl⟩
 have hb1:Below w.heap.size w W1:=by rw [← hW1]; exact KitC.below_one _ _
 have hk1:W1.heap[w.heap.size]? = some (.cells #[.string nm,.slice eA en ec,.slice vA vn vc,.slice sA sn sc] 26):=by rw [← hW1]; exact heap_alloc_new _ _
 have HW1:=Lib.hid hW1
 have HB1:=Lib.hid hb1
 have HK:=Lib.hid (fun W (hW:Below W1.heap.size W1 W) => KitC.block_on hk1 hW)
 rw [← hnm] at HIT
 obtain ⟨W2,hW2⟩:∃ W2,W1.alloc (.cells #[] 118) = W2:=⟨_,rfl⟩
 have HW2:=Lib.hid hW2
 have hsz1:w.heap.size + 1 = W1.heap.size:=by rw [← hW1]; simp
 have HST:Hid (RowF W1 W2 (.slice (some ⟨w.heap.size + 1,0,none⟩) 0 0) []):=Lib.hid (by
  rw [hsz1,← hW2]
  exact ⟨World.ownsRow_lit W1 #[] 0 (Nat.le_refl _) (Nat.zero_le _) rfl,KitC.below_one _ _⟩)
 have hmI:(nI:Int) ≤ 1000:=by omega
 obtain ⟨fl,hfl⟩:∃ fl:Nat → Fw,fl = fun k:Nat => ⟨rule,k,0⟩:=⟨_,rfl⟩
 obtain ⟨P,hP⟩:∃ P:Nat → List Fw,P = fun k => itemsF rule (plTo f k):=⟨_,rfl⟩
 have HFL:Hid (∀ k:Nat,[.int .i64 rule,.int .i64 k,.int .i64 0] = fwV (fl k)):=Lib.hid (fun k => by rw [hfl]; rfl)
 have HPY:Hid (∀ k,f k = true → P (k + 1) = P k ++ [fl k]):=Lib.hid (fun k hk => by rw [hP,hfl]; show itemsF _ (plTo f (k + 1)) = _; rw [plTo_yes hk,itemsF_append]; rfl)
 have HPN:Hid (∀ k,f k = false → P (k + 1) = P k):=Lib.hid (fun k hk => by rw [hP]; show itemsF _ (plTo f (k + 1)) = _; rw [plTo_no hk])
 have HPL:Hid (∀ k,(P k).length ≤ k):=Lib.hid (fun k => by rw [hP]; show (itemsF _ _).length ≤ k; rw [itemsF_length]; exact plTo_length f k)
 have HP0:Hid (P 0 = []):=Lib.hid (by rw [hP]; rfl)
 have HPE:Hid (itemsF rule (plTo f nI) = P nI):=Lib.hid (by rw [hP])
 rw [HPE.out]
 clear HPE hP hfl hit hnm hb1 hk1 hi hz0 hz1 hz2 hW1 hW2 hsz1
 rcases hsel with ⟨rfl,rfl⟩ | ⟨rfl,rfl⟩ | ⟨rfl,rfl⟩ | ⟨rfl,rfl⟩ | ⟨rfl,rfl⟩
 all_goals
  go_enter Tryz.func28,Tryz.ntmps28
  go_wp2_with fail
  rw [HW1.out,HW2.out]
  go_loopw [5,7] (fun p i wr => BiRel W1 P nI p i wr) (fun _ i _ => nI - (intOf i).toNat)
  case atStart => exact ⟨0,Nat.zero_le _,rfl,Lib.hid (by rw [HP0.out]; exact HST.out)⟩
  case round =>
   obtain ⟨k,hk,rfl,HR⟩:=hrel
   by_cases hlt:k < nI
   case neg =>
    obtain rfl:k = nI:=by omega
    have hlt':¬ (k:Int) < k:=by omega
    go_wp2_with fail
    go_ret
    obtain ⟨A,n,c,he,hn,hfw,hbw⟩:=HR.out.ret
    exact ⟨A,n,c,he,hn,hfw,below_two' HB1.out hbw⟩
   have hkI:(k:Int) < nI:=by omega
   have HC:=Lib.hid (HIT.out k hlt wr (below_two' HB1.out HR.out.below))
   obtain ⟨c0,c1,c2,c3⟩:=cells_4 (HK.out _ HR.out.below)
   have hll:=HPL.out k
   have HL1:Hid ((P k).length + 1 ≤ maxLen):=Lib.hid (by unfold maxLen; omega)
   have HL2:Hid (((P k).length + 1) * 24 ≤ 140737488355328):=Lib.hid (by omega)
   have HY:=Lib.hid (HPY.out k)
   have HNO:=Lib.hid (HPN.out k)
   have HFK:=Lib.hid (HFL.out k)
   obtain ⟨q,hq⟩:∃ q,q = f k:=⟨_,rfl⟩
   rw [← hq] at HC HY HNO
   clear hll hq
   cases q with
   | false =>
     have HS:=Lib.hid (HNO.out rfl)
     clear HY HNO
     go_wp2_with (go_at_call 56; go_fit HC.out)
     rintro e w3 ⟨rfl,hb3⟩
     have HR3:=Lib.hid (HR.out.keep hb3)
     clear hb3
     go_wp2_with fail
     go_roundw
     case rel => exact ⟨k + 1,hlt,by simp,Lib.hid (by rw [HS.out]; exact HR3.out)⟩
     case measure => simp [intOf]; omega
   | true =>
     have HS:=Lib.hid (HY.out rfl)
     clear HY HNO
     go_wp2_with (go_at_call 56; go_fit HC.out)
     rintro e w3 ⟨rfl,hb3⟩
     have HR3:=Lib.hid (HR.out.keep hb3)
     have HSZ:Hid (W1.heap.size ≤ w3.heap.size):=Lib.hid HR3.out.2.size
     clear hb3
     go_wp2_with (at_builtin; refine wpList_append_rdk _ rfl (.tmp 40) (.tmp 44) _ rfl W1.heap.size 118 i0 (.agg #[.int .i64 0,.int .i64 0,.int .i64 0]) 3 24 Tryz.underlying80 HI.out.1 HI.out.2.1 HI.out.2.2.1 HI.out.2.2.2 rfl (by decide) _ _ _ rfl (HR3.out.1.alloc _) _ 1 (fwsV [fl k]) rfl (fw_lit rfl HFK.out) (fwsV_one _) HL1.out HL2.out ?_ ?_; (have:=HSZ.out; simp; omega); intro p4 w4 hrow2 hg2 hob; have HR4:=Lib.hid (RowF.add HR3.out hrow2 hg2); clear hrow2 hg2 hob)
     go_roundw
     case rel => exact ⟨k + 1,hlt,by simp,Lib.hid (by rw [HS.out]; exact HR4.out)⟩
     case measure => simp [intOf]; omega
end
end Go.Proofs.YtckojimeglkobaaGreatDoor