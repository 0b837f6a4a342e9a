/- RulesItems, RulesSet, RulesNames, joined. -/
import Derived.Test.YtckojimeglkobaaGreatDoorMConfFills20
import Derived.Test.YtckojimeglkobaaGreatDoorMConfFills11
import Derived.Deep.DeepFit
import Derived.Test.YtckojimeglkobaaGreatDoorMConfFills17
import Derived.Test.YtckojimeglkobaaGreatDoorMConfFills00
import Derived.Test.YtckojimeglkobaaGreatDoorMConfFills01
import Derived.Maps.OwnSet
namespace Go.Proofs.YtckojimeglkobaaGreatDoor
open Go.RowKit TermSpec NamesSpec EvalSpec ActSpec TransSpec SynSpec RulesSpec PrintSpec
open ShapeSpec (Sh kids kidsTo)
set_option maxRecDepth 100000
def ItRel (W:World) (r:Int) (l:List Int) (n:Nat) (p i:Value) (wr:World):Prop:=∃ k:Nat,k ≤ n ∧ i = .int .i64 k ∧ Hid (RowF W wr p (itemsF r (l.take k)))
set_option maxHeartbeats 2000000 in
theorem items_any (r:Int) (v:Value) (l:List Int) (w:World) (h:Rd w v (intV l)) (hl:l.length ≤ 1000000):Calls Tryz.prog 87 #[.int .i64 r,v] w (RetFw w (itemsF r l)):=by
 obtain ⟨A,n,c,rfl,hn,hc,hA⟩:=h.ints
 have HA:=Lib.hid hA
 have HN:=Lib.hid hn
 have hm':n ≤ 1000000:=by omega
 have hfb:=fw_two
 obtain ⟨i0,hi,hz0,hz1,hz2⟩:=info_parts inf_flaw
 have HI:=Lib.hid (And.intro hi (And.intro hz0 (And.intro hz1 hz2)))
 clear h hl hn hc hA hi hz0 hz1 hz2
 go_enter Tryz.func87,Tryz.ntmps87
 go_wp2_with fail
 go_loopw [5,10] (fun p i wr => ItRel w r l n p i wr) (fun _ i _ => n - (intOf i).toNat)
 case atStart => exact ⟨0,Nat.zero_le _,rfl,Lib.hid (RowF.nil _ _ (Below.refl _ _))⟩
 case round =>
  obtain ⟨k,hk,rfl,HR⟩:=hrel
  by_cases hlt:k < n
  ·obtain ⟨b,off,rfl,hb,hcell⟩:=HA.out (by omega)
   obtain ⟨x,hx⟩:∃ x,l[k]? = some x:=get_some (by have:=HN.out; omega)
   have hck:wr.cell? ⟨b,off + k,none⟩ = some (.int .i64 x):=(HR.out.2.cell (by exact hb)).trans (hcell k x hx)
   have HY:Hid (itemsF r (l.take (k + 1)) = itemsF r (l.take k) ++ [⟨r,x,0⟩]):=Lib.hid (by rw [take_next hx,itemsF_append]; rfl)
   have hll:(itemsF r (l.take k)).length ≤ k:=by rw [itemsF_length]; exact List.length_take_le _ _
   have HL1:Hid ((itemsF r (l.take k)).length + 1 ≤ maxLen):=Lib.hid (by simp [maxLen]; omega)
   have HL2:Hid (((itemsF r (l.take k)).length + 1) * 24 ≤ 140737488355328):=Lib.hid (by omega)
   have HSZ:Hid (w.heap.size ≤ wr.heap.size):=Lib.hid HR.out.2.size
   clear hcell hx hll
   go_wp2_with (at_builtin; refine wpList_append_rdk _ rfl (.tmp 14) (.tmp 18) _ rfl w.heap.size 118 i0 (.agg #[.int .i64 0,.int .i64 0,.int .i64 0]) 3 24 Tryz.underlying80 HI.out.1 HI.out.2.1 HI.out.2.2.1 HI.out.2.2.2 rfl (by decide) _ _ _ rfl (HR.out.1.alloc _) _ 1 (fwsV [⟨r,x,0⟩]) rfl (fw_lit rfl rfl) (fwsV_one _) HL1.out HL2.out ?_ ?_; (have:=HSZ.out; simp; omega); intro p2 w2 hrow2 hg2 _; have HR2:=Lib.hid (RowF.add HR.out hrow2 hg2); clear hrow2 hg2)
   go_roundw
   case rel => exact ⟨k + 1,hlt,by simp,Lib.hid (by rw [HY.out]; exact HR2.out)⟩
   case measure => simp [intOf]; omega
  ·obtain rfl:k = n:=by omega
   go_wp2_with fail
   go_ret
   have hr:=HR.out
   rw [List.take_of_length_le (by have:=HN.out; omega)] at hr
   exact hr.ret
def PlRel (W:World) (f:Nat → Bool) (n:Nat) (p i:Value) (wr:World):Prop:=∃ k:Nat,k ≤ n ∧ i = .int .i64 k ∧ Hid (RowI W wr p (plTo f k))
set_option maxRecDepth 100000 in
set_option maxHeartbeats 4000000 in
theorem ill_any (A:Option Addr) (n c:Nat) (l:List Vr) (w:World) (h:RdV w (.slice A n c) l) (hm:n ≤ 1000000) (hf:∀ v ∈ l,VFit v) :
 Calls Tryz.prog 91 #[.slice A n c] w (RetInts w (plTo (illB l) l.length)):=by
 have hn:=h.len.1
 have HV:=Lib.hid (fun W (hW:Below w.heap.size w W) => RdV.vars (w:=W) (Rdk.keep h hW))
 have HN:=Lib.hid hn
 have HF:=Lib.hid hf
 obtain ⟨i0,hi,hz0,hz1,hz2⟩:=info_parts inf_int
 have HI:=Lib.hid (And.intro hi (And.intro hz0 (And.intro hz1 hz2)))
 rw [← hn]
 clear h hn hf hi hz0 hz1 hz2
 go_enter Tryz.func91,Tryz.ntmps91
 go_wp2_with fail
 go_loopw [3,8] (fun p i wr => PlRel w (illB l) n p i wr) (fun _ i _ => n - (intOf i).toNat)
 case atStart => exact ⟨0,Nat.zero_le _,rfl,Lib.hid (RowI.nil _ _ (Below.refl _ _))⟩
 case round =>
  obtain ⟨k,hk,rfl,HR⟩:=hrel
  by_cases hlt:k < n
  ·obtain ⟨v,hv⟩:∃ v,l[k]? = some v:=get_some (by rw [← HN.out]; exact hlt)
   obtain ⟨b,off,rfl,hb,c0,c1,c2,c3⟩:=VarsIn.at_ (HV.out _ HR.out.2) hv
   have HIL:=Lib.hid (illB_at hv)
   have hvf:=HF.out v (List.mem_of_getElem? hv)
   have hll:=plTo_length (illB l) k
   have HL1:Hid ((plTo (illB l) k).length + (intV [(k:Int)]).length ≤ maxLen):=Lib.hid (by simp [maxLen]; omega)
   have HL2:Hid (((plTo (illB l) k).length + (intV [(k:Int)]).length) * 8 ≤ 140737488355328):=Lib.hid (by simp; omega)
   have HSZ:Hid (w.heap.size ≤ wr.heap.size):=Lib.hid HR.out.2.size
   obtain ⟨s,lo,hi',ini⟩:=v
   simp only at c0 c1 c2 c3
   have HRA:=Lib.hid (HR.out.keep (KitC.below_one wr (.cells #[.string s,.int .i64 lo,.int .i64 hi',.int .i64 ini] 52)))
   have HOK:Hid (rangeR ⟨s,lo,hi',ini⟩ = (decide (lo ≤ ini) && (decide (ini ≤ hi') && decide (hi' - lo < 64)))):=Lib.hid rfl
   have HYES:=Lib.hid (fun h => plTo_yes (f:=illB l) (k:=k) h)
   have HNO:=Lib.hid (fun h => plTo_no (f:=illB l) (k:=k) h)
   clear hv hll
   by_cases e1:hi' < lo
   ·have g1:decide (hi' < lo) = true:=by simpa using e1
    have HS:=Lib.hid (HYES.out (by rw [HIL.out,HOK.out]; simp; omega))
    clear e1 hvf
    go_wp2_with (at_builtin; refine wpList_append_rd _ rfl (.tmp 42) (.tmp 44) _ rfl w.heap.size 3 i0 (.int .i64 0) 8 Tryz.underlying90 HI.out.1 HI.out.2.1 HI.out.2.2.1 HI.out.2.2.2 rfl _ _ _ rfl (HRA.out.1.alloc _) _ (intV [(k:Int)]) rfl (lit_here (by simp) rfl rfl) (intV_one _) HL1.out HL2.out ?_ ?_; (have:=HSZ.out; simp; omega); intro p2 w2 hrow2 hg2 _; have HR2:=Lib.hid (RowI.add HRA.out hrow2 hg2); clear hrow2 hg2)
    go_roundw
    case rel => exact ⟨k + 1,hlt,by simp,Lib.hid (by rw [HS.out]; exact HR2.out)⟩
    case measure => simp [intOf]; omega
   have g1:decide (hi' < lo) = false:=by simpa using e1
   have hwr:=u64_span hvf.1 hvf.2.2.2 (by omega:lo ≤ hi')
   have hkeep:=hvf
   clear hvf
   by_cases e2:64 ≤ hi' - lo
   ·have g2:decide (64 ≤ hi' - lo) = true:=by simpa using e2
    have HS:=Lib.hid (HYES.out (by rw [HIL.out,HOK.out]; simp; omega))
    clear e1 e2 hkeep
    go_wp2_with (at_builtin; refine wpList_append_rd _ rfl (.tmp 42) (.tmp 44) _ rfl w.heap.size 3 i0 (.int .i64 0) 8 Tryz.underlying90 HI.out.1 HI.out.2.1 HI.out.2.2.1 HI.out.2.2.2 rfl _ _ _ rfl (HRA.out.1.alloc _) _ (intV [(k:Int)]) rfl (lit_here (by simp) rfl rfl) (intV_one _) HL1.out HL2.out ?_ ?_; (have:=HSZ.out; simp; omega); intro p2 w2 hrow2 hg2 _; have HR2:=Lib.hid (RowI.add HRA.out hrow2 hg2); clear hrow2 hg2)
    go_roundw
    case rel => exact ⟨k + 1,hlt,by simp,Lib.hid (by rw [HS.out]; exact HR2.out)⟩
    case measure => simp [intOf]; omega
   have g2:decide (64 ≤ hi' - lo) = false:=by simpa using e2
   by_cases e3:ini < lo
   ·have g3:decide (ini < lo) = true:=by simpa using e3
    have HS:=Lib.hid (HYES.out (by rw [HIL.out,HOK.out]; simp; omega))
    clear e1 e2 e3 hkeep
    go_wp2_with (at_builtin; refine wpList_append_rd _ rfl (.tmp 42) (.tmp 44) _ rfl w.heap.size 3 i0 (.int .i64 0) 8 Tryz.underlying90 HI.out.1 HI.out.2.1 HI.out.2.2.1 HI.out.2.2.2 rfl _ _ _ rfl (HRA.out.1.alloc _) _ (intV [(k:Int)]) rfl (lit_here (by simp) rfl rfl) (intV_one _) HL1.out HL2.out ?_ ?_; (have:=HSZ.out; simp; omega); intro p2 w2 hrow2 hg2 _; have HR2:=Lib.hid (RowI.add HRA.out hrow2 hg2); clear hrow2 hg2)
    go_roundw
    case rel => exact ⟨k + 1,hlt,by simp,Lib.hid (by rw [HS.out]; exact HR2.out)⟩
    case measure => simp [intOf]; omega
   have g3:decide (ini < lo) = false:=by simpa using e3
   by_cases e4:hi' < ini
   ·have g4:decide (hi' < ini) = true:=by simpa using e4
    have HS:=Lib.hid (HYES.out (by rw [HIL.out,HOK.out]; simp; omega))
    clear e1 e2 e3 e4 hkeep
    go_wp2_with (at_builtin; refine wpList_append_rd _ rfl (.tmp 42) (.tmp 44) _ rfl w.heap.size 3 i0 (.int .i64 0) 8 Tryz.underlying90 HI.out.1 HI.out.2.1 HI.out.2.2.1 HI.out.2.2.2 rfl _ _ _ rfl (HRA.out.1.alloc _) _ (intV [(k:Int)]) rfl (lit_here (by simp) rfl rfl) (intV_one _) HL1.out HL2.out ?_ ?_; (have:=HSZ.out; simp; omega); intro p2 w2 hrow2 hg2 _; have HR2:=Lib.hid (RowI.add HRA.out hrow2 hg2); clear hrow2 hg2)
    go_roundw
    case rel => exact ⟨k + 1,hlt,by simp,Lib.hid (by rw [HS.out]; exact HR2.out)⟩
    case measure => simp [intOf]; omega
   have g4:decide (hi' < ini) = false:=by simpa using e4
   have HS:=Lib.hid (HNO.out (by rw [HIL.out,HOK.out]; simp; omega))
   clear e1 e2 e3 e4 hkeep
   go_wp2_with fail
   go_roundw
   case rel => exact ⟨k + 1,hlt,by simp,Lib.hid (by rw [HS.out]; exact HRA.out)⟩
   case measure => simp [intOf]; omega
  ·obtain rfl:k = n:=by omega
   go_wp2_with fail
   go_ret
   exact HR.out.ret
theorem kids_of {l:List Sh} {i:Nat} (hc:ShapeSpec.chk l = 0) (hi:i < l.length):kidsA l i = kids l i:=by
 unfold kidsA
 rw [if_pos (by simp [hasB,hc,hi])]
 rfl
theorem loneB_at {l:List Sh} {i:Nat} {k:Int} {ks:List Int} (hk:ShapeSpec.kind l i = k) (hs:kids l i = ks):loneB l i = decide ((ks.length:Int) < mustK k):=by unfold loneB; rw [hk,hs]
set_option maxRecDepth 100000 in
set_option maxHeartbeats 4000000 in
theorem lonely_any (A:Option Addr) (n c:Nat) (l:List Sx) (w:World) (h:StsP w (.slice A n c) l) (hm:n ≤ 1000000) (hc:ShapeSpec.chk (l.map shOf) = 0) :
 Calls Tryz.prog 94 #[.slice A n c] w (RetInts w (plTo (loneB (l.map shOf)) l.length)):=by
 have hn:=h.len.1
 have HV:=Lib.hid (fun W (hW:Below w.heap.size w W) => h.keep hW)
 have HK:=Lib.hid (fun (i:Nat) W (hW:Below w.heap.size w W) => shkids_row A n c (l.map shOf) (i:Int) W (h.keep hW).sts (by omega))
 have HKI:=Lib.hid (fun (i:Nat) (hi:i < n) => kids_of (i:=i) hc (by rw [List.length_map,← hn]; exact hi))
 have HN:=Lib.hid hn
 obtain ⟨i0,hi,hz0,hz1,hz2⟩:=info_parts inf_int
 have HI:=Lib.hid (And.intro hi (And.intro hz0 (And.intro hz1 hz2)))
 rw [← hn]
 clear h hn hc hi hz0 hz1 hz2
 go_enter Tryz.func94,Tryz.ntmps94
 go_wp2_with fail
 go_loopw [3,9] (fun p i wr => PlRel w (loneB (l.map shOf)) n p i wr) (fun _ i _ => n - (intOf i).toNat)
 case atStart => exact ⟨0,Nat.zero_le _,rfl,Lib.hid (RowI.nil _ _ (Below.refl _ _))⟩
 case round =>
  obtain ⟨k,hk,rfl,HR⟩:=hrel
  by_cases hlt:k < n
  ·obtain ⟨v,hv⟩:∃ v,l[k]? = some v:=get_some (by rw [← HN.out]; exact hlt)
   obtain ⟨b,off,a3,n3,m3,a4,n4,m4,a5,n5,m5,heq,hb,c0,c1,c2,c3,c4,c5,-,-,-⟩:=(HV.out _ HR.out.2).at_ hv
   have HIL:=Lib.hid (loneB_at (l:=l.map shOf) (i:=k) (k:=v.kind) (ks:=kids (l.map shOf) k) (by rw [ShapeSpec.kind_at (by rw [List.getElem?_map,hv]; rfl)]; rfl) rfl)
   have hll:=plTo_length (loneB (l.map shOf)) k
   have HL1:Hid ((plTo (loneB (l.map shOf)) k).length + (intV [(k:Int)]).length ≤ maxLen):=Lib.hid (by simp [maxLen]; omega)
   have HL2:Hid (((plTo (loneB (l.map shOf)) k).length + (intV [(k:Int)]).length) * 8 ≤ 140737488355328):=Lib.hid (by simp; omega)
   have HKK:=Lib.hid (HK.out k)
   rw [HKI.out k hlt] at HKK
   obtain ⟨ks,hks⟩:∃ ks,ks = kids (l.map shOf) k:=⟨_,rfl⟩
   have hkl:ks.length ≤ 1000000:=by rw [hks]; have:=ShapeSpec.kids_le (l.map shOf) k (l.map shOf).length; rw [List.length_map] at this; have h2:=HN.out; show (kidsTo _ _ _).length ≤ _; rw [List.length_map]; omega
   rw [← hks] at HIL HKK
   obtain ⟨s,kd,pr,en,ex,tr⟩:=v
   simp only at c0 c1 c2 HIL
   have HRA:=Lib.hid (HR.out.keep (KitC.below_one wr (.cells #[.string s,.int .i64 kd,.int .i64 pr,.slice a3 n3 m3,.slice a4 n4 m4,.slice a5 n5 m5] 58)))
   have HYES:=Lib.hid (fun h => plTo_yes (f:=loneB (l.map shOf)) (k:=k) h)
   have HNO:=Lib.hid (fun h => plTo_no (f:=loneB (l.map shOf)) (k:=k) h)
   clear hv hll hks
   subst heq
   by_cases k2:kd = 2
   ·subst k2
    by_cases e:ks.length < 1
    ·have g1:decide ((ks.length:Int) < 1) = true:=by simp; omega
     have HS:=Lib.hid (HYES.out (by rw [HIL.out]; show decide ((ks.length:Int) < 1) = true; simp; omega))
     clear e
     go_wp2_with (go_at_call 109; go_fit (HKK.out _ HRA.out.2))
     rintro e w3 ⟨A3,n3',c3',rfl,hn3,hrk⟩
     have HR3:=Lib.hid (HRA.out.keep hrk.2)
     have HSZ:Hid (w.heap.size ≤ w3.heap.size):=Lib.hid HR3.out.2.size
     subst hn3
     clear hrk
     go_wp2_with (at_builtin; refine wpList_append_rd _ rfl (.tmp 30) (.tmp 32) _ rfl w.heap.size 3 i0 (.int .i64 0) 8 Tryz.underlying90 HI.out.1 HI.out.2.1 HI.out.2.2.1 HI.out.2.2.2 rfl _ _ _ rfl (HR3.out.1.alloc _) _ (intV [(k:Int)]) rfl (lit_here rfl rfl rfl) (intV_one _) HL1.out HL2.out ?_ ?_; (have:=HSZ.out; simp; omega); intro p2 w2 hrow2 hg2 _; have HR2:=Lib.hid (RowI.add HR3.out hrow2 hg2); clear hrow2 hg2)
     go_roundw
     case rel => exact ⟨k + 1,hlt,by simp,Lib.hid (by rw [HS.out]; exact HR2.out)⟩
     case measure => simp [intOf]; omega
    ·have g1:decide ((ks.length:Int) < 1) = false:=by simp; omega
     have HS:=Lib.hid (HNO.out (by rw [HIL.out]; show decide ((ks.length:Int) < 1) = false; simp; omega))
     clear e
     go_wp2_with (go_at_call 109; go_fit (HKK.out _ HRA.out.2))
     rintro e w3 ⟨A3,n3',c3',rfl,hn3,hrk⟩
     have HR3:=Lib.hid (HRA.out.keep hrk.2)
     have HSZ:Hid (w.heap.size ≤ w3.heap.size):=Lib.hid HR3.out.2.size
     subst hn3
     clear hrk
     go_wp2_with fail
     go_roundw
     case rel => exact ⟨k + 1,hlt,by simp,Lib.hid (by rw [HS.out]; exact HR3.out)⟩
     case measure => simp [intOf]; omega
   by_cases k3:kd = 3
   ·subst k3
    by_cases e:ks.length < 2
    ·have g1:decide ((ks.length:Int) < 2) = true:=by simp; omega
     have HS:=Lib.hid (HYES.out (by rw [HIL.out]; show decide ((ks.length:Int) < 2) = true; simp; omega))
     clear e
     go_wp2_with (go_at_call 109; go_fit (HKK.out _ HRA.out.2))
     rintro e w3 ⟨A3,n3',c3',rfl,hn3,hrk⟩
     have HR3:=Lib.hid (HRA.out.keep hrk.2)
     have HSZ:Hid (w.heap.size ≤ w3.heap.size):=Lib.hid HR3.out.2.size
     subst hn3
     clear hrk
     go_wp2_with (at_builtin; refine wpList_append_rd _ rfl (.tmp 30) (.tmp 32) _ rfl w.heap.size 3 i0 (.int .i64 0) 8 Tryz.underlying90 HI.out.1 HI.out.2.1 HI.out.2.2.1 HI.out.2.2.2 rfl _ _ _ rfl (HR3.out.1.alloc _) _ (intV [(k:Int)]) rfl (lit_here rfl rfl rfl) (intV_one _) HL1.out HL2.out ?_ ?_; (have:=HSZ.out; simp; omega); intro p2 w2 hrow2 hg2 _; have HR2:=Lib.hid (RowI.add HR3.out hrow2 hg2); clear hrow2 hg2)
     go_roundw
     case rel => exact ⟨k + 1,hlt,by simp,Lib.hid (by rw [HS.out]; exact HR2.out)⟩
     case measure => simp [intOf]; omega
    ·have g1:decide ((ks.length:Int) < 2) = false:=by simp; omega
     have HS:=Lib.hid (HNO.out (by rw [HIL.out]; show decide ((ks.length:Int) < 2) = false; simp; omega))
     clear e
     go_wp2_with (go_at_call 109; go_fit (HKK.out _ HRA.out.2))
     rintro e w3 ⟨A3,n3',c3',rfl,hn3,hrk⟩
     have HR3:=Lib.hid (HRA.out.keep hrk.2)
     have HSZ:Hid (w.heap.size ≤ w3.heap.size):=Lib.hid HR3.out.2.size
     subst hn3
     clear hrk
     go_wp2_with fail
     go_roundw
     case rel => exact ⟨k + 1,hlt,by simp,Lib.hid (by rw [HS.out]; exact HR3.out)⟩
     case measure => simp [intOf]; omega
   have g2:(kd == 2) = false:=by simpa using k2
   have g3:(kd == 3) = false:=by simpa using k3
   have HS:=Lib.hid (HNO.out (by rw [HIL.out]; unfold mustK; rw [if_neg k2,if_neg k3]; simp))
   clear k2 k3
   go_wp2_with fail
   go_roundw
   case rel => exact ⟨k + 1,hlt,by simp,Lib.hid (by rw [HS.out]; exact HRA.out)⟩
   case measure => simp [intOf]; omega
  ·obtain rfl:k = n:=by omega
   go_wp2_with fail
   go_ret
   exact HR.out.ret
end Go.Proofs.YtckojimeglkobaaGreatDoor
namespace Go.Proofs.YtckojimeglkobaaGreatDoor
open Go.RowKit NamesSpec Go.Lib Go.Maps RulesSpec
set_option maxRecDepth 100000
theorem zero_unit (w:World):(zeroValue 65).run Tryz.prog w = .ok (.agg #[]) w:=by kernel_rfl
theorem build_unit (w:World):(Instr.build 65 #[]).run Tryz.prog w = .ok (.agg #[]) w:=by kernel_rfl
def SetAt (w:World) (B:Nat) (l:List ByteArray):Prop:=∃ (n:Nat) (D:DataW Unit),w.ownsMap Tryz.prog 9 unitElem B n D ∧ ∀ s,Maps.has D (keyL s) = hasS l s
theorem SetAt.keep {w w':World} {B:Nat} {l:List ByteArray} (h:SetAt w B l) (hb:Below w.heap.size w w'):SetAt w' B l:=by
 obtain ⟨n,D,⟨es,clock,hk,r⟩,hs⟩:=h
 exact ⟨n,D,⟨es,clock,(hb.block B (Array.getElem?_eq_some_iff.1 hk).1).trans hk,r⟩,hs⟩
theorem SetAt.lt {w:World} {B:Nat} {l:List ByteArray} (h:SetAt w B l):B < w.heap.size:=by
 obtain ⟨n,D,h,_⟩:=h
 exact h.lt
def Holds (l:List ByteArray) (k:Nat) (D:DataW Unit):Prop:=IsMap D ∧ ∀ s,Maps.has D (keyL s) = hasS (l.take k) s
theorem holds_start (l:List ByteArray):Holds l 0 (.map []):=⟨isMap_empty,fun _ => rfl⟩
theorem hasS_snoc (l:List ByteArray) (x s:ByteArray):hasS (l ++ [x]) s = (hasS l s || decide (x = s)):=by unfold hasS; rw [List.any_append]; simp
theorem holds_next {l:List ByteArray} {k:Nat} {D:DataW Unit} {s:ByteArray} (h:Holds l k D) (hs:l[k]? = some s):Holds l (k + 1) (D.put (keyL s) (.agg [])):=by
 refine ⟨h.1.put _ _,fun x => ?_⟩
 rw [take_next hs,hasS_snoc,← h.2 x]
 by_cases hx:s = x
 ·subst hx
  rw [has_put_same h.1 (keyL_is s)]
  simp
 ·rw [has_put_other (fun e => hx (keyL_inj e).symm)]
  simp [hx]
def RetSet (W:World) (l:List ByteArray) (e:Ending) (w':World):Prop:=∃ B,e = .returned (.map (some B)) ∧ SetAt w' B l ∧ Below W.heap.size W w'
def SetRel (W:World) (l:List ByteArray) (n:Nat) (iv:Value) (wr:World):Prop :=
 ∃ (k:Nat) (D:DataW Unit),k ≤ n ∧ iv = .int .i64 k ∧ Holds l k D ∧ wr.ownsMap Tryz.prog 9 unitElem W.heap.size k D ∧ Below W.heap.size W wr
theorem set_next {W wr w1:World} {l:List ByteArray} {n k:Nat} {D:DataW Unit} (hk:k < n) (hD:Holds l (k + 1) D) (hown:w1.ownsMap Tryz.prog 9 unitElem W.heap.size (k + 1) D) (hg:wr.grownBy w1 (some W.heap.size)) (hb:Below W.heap.size W wr) :
 SetRel W l n (.int .i64 ((k:Int) + 1)) w1 :=
 ⟨k + 1,D,hk,by simp,hD,hown,hb.grown hg hb.size (fun j hj => by cases hj; exact Nat.le_refl _)⟩
set_option maxHeartbeats 1600000 in
theorem setOf_any (v:Value) (l:List ByteArray) (w:World) (h:Rd w v (strV l)) (hl:l.length ≤ 4294967296) (hs:∀ s ∈ l,s.size ≤ maxLen) :
 Calls Tryz.prog 129 #[v] w (RetSet w l):=by
 obtain ⟨A,n,c,rfl,hn,hc,hA⟩:=h.strs
 have HA:=Lib.hid hA
 have HN:=Lib.hid hn
 have HS:=Lib.hid hs
 have hm':n ≤ 4294967296:=by omega
 have hmm:=makeMap_hint (kd:=.i64) Tryz.underlying161
 have hbu:=build_unit
 clear hA hn h hc hl hs
 go_enter Tryz.func129,Tryz.ntmps129
 go_wp2
 go_loopw [11] (fun i wr => SetRel w l n i wr) (fun i _ => n - (Go.RowKit.intOf i).toNat)
 case atStart => exact ⟨0,.map [],Nat.zero_le _,rfl,holds_start l,World.ownsMap_made _ _ _ _,(Below.refl _ _).alloc (Nat.le_refl _) _⟩
 case round =>
  obtain ⟨k,D,hk,rfl,hD,hown,hbw⟩:=hrel
  by_cases hlt:k < n
  ·obtain ⟨b,off,rfl,hb,hcell⟩:=HA.out (by omega)
   obtain ⟨x,hx⟩:∃ x,l[k]? = some x:=get_some (by have:=HN.out; omega)
   have hck:wr.cell? ⟨b,off + k,none⟩ = some (.string x):=(hbw.cell (by exact hb)).trans (hcell k x hx)
   have hkey:keyOf Tryz.prog 9 (.string x) = some (keyL x):=Go.WideMaps.keyOf_string_mk Tryz.underlying9 (HS.out x (List.mem_of_getElem? hx))
   have HD:=Lib.hid (holds_next hD hx)
   have HW:Hid (Below w.heap.size w wr):=Lib.hid hbw
   clear hcell hx hD hbw
   go_wp2_with (at_mapUpdate; refine wpList_mapUpdate_own _ rfl _ _ _ 161 rfl 9 65 law_str Tryz.underlying161 _ w.heap.size k _ rfl hown (by unfold maxLen; omega) _ _ _ rfl rfl hkey _ [] unitElem_mk ?_; intro w1 hown1 hgrow1)
   go_roundw
   case rel => exact set_next hlt HD.out hown1 hgrow1 HW.out
   case measure => simp [Go.RowKit.intOf]; omega
  ·obtain rfl:k = n:=by omega
   have HF:Hid (∀ s,Maps.has D (keyL s) = hasS l s):=Lib.hid (fun s => by rw [hD.2 s,List.take_of_length_le (by rw [HN.out]; omega)])
   have HW:Hid (Below w.heap.size w wr):=Lib.hid hbw
   have HO:=Lib.hid hown
   clear hD hbw hown
   go_wp2
   go_ret
   exact ⟨w.heap.size,rfl,⟨_,D,HO.out,HF.out⟩,HW.out⟩
set_option maxHeartbeats 800000 in
theorem has_in (B:Nat) (l:List ByteArray) (s:ByteArray) (w:World) (h:SetAt w B l) (hs:s.size ≤ maxLen) :
 Calls Tryz.prog 144 #[.map (some B),.string s] w (RetB w (hasS l s)):=by
 obtain ⟨n,D,hown,hD⟩:=h
 have hkey:keyOf Tryz.prog 9 (.string s) = some (keyL s):=Go.WideMaps.keyOf_string_mk Tryz.underlying9 hs
 obtain ⟨r,hr⟩:∃ r,r = Maps.has D (keyL s):=⟨_,rfl⟩
 rw [← hD s,← hr]
 have HR:=Lib.hid hr
 clear hD hr hs
 go_enter Tryz.func144,Tryz.ntmps144
 go_wp2_with (at_lookup; refine wpList_lookup_own_unit _ rfl _ _ 161 rfl 9 65 law_str Tryz.underlying161 (zero_unit _) B n D rfl hown _ _ rfl hkey ?_; rw [← HR.out])
 go_ret
 exact ⟨rfl,KitC.below_one _ _⟩
end Go.Proofs.YtckojimeglkobaaGreatDoor
namespace Go.Proofs.YtckojimeglkobaaGreatDoor
open Go.RowKit NamesSpec EvalSpec SynSpec RulesSpec PrintSpec
set_option maxRecDepth 100000
def RetTx (W:World) (s:ByteArray) (e:Ending) (w':World):Prop:=e = .returned (.string s) ∧ Below W.heap.size W w'
set_option maxHeartbeats 400000 in
theorem varName_any (v:Vr) (w:World):Calls Tryz.prog 90 #[.agg #[.string v.s,.int .i64 v.lo,.int .i64 v.hi,.int .i64 v.ini]] w (RetTx w v.s):=by
 obtain ⟨s,lo,hi,ini⟩:=v
 go_enter Tryz.func90,Tryz.ntmps90
 go_wp2_with fail
 go_ret
 exact ⟨rfl,KitC.below_one _ _⟩
set_option maxHeartbeats 400000 in
theorem stateName_any (s:ByteArray) (k p:Int) (a3:Option Addr) (n3 m3:Nat) (a4:Option Addr) (n4 m4:Nat) (a5:Option Addr) (n5 m5:Nat) (w:World) :
 Calls Tryz.prog 93 #[.agg #[.string s,.int .i64 k,.int .i64 p,.slice a3 n3 m3,.slice a4 n4 m4,.slice a5 n5 m5]] w (RetTx w s):=by
 go_enter Tryz.func93,Tryz.ntmps93
 go_wp2_with fail
 go_ret
 exact ⟨rfl,KitC.below_one _ _⟩
def SaidRel (W:World) (l:List ByteArray) (n:Nat) (p i:Value) (wr:World):Prop:=∃ k:Nat,k ≤ n ∧ i = .int .i64 k ∧ RowS W wr p (l.take k)
theorem said_next {l:List ByteArray} {k:Nat} {s:ByteArray} (h:l[k]? = some s):l.take (k + 1) = l.take k ++ [s]:=take_next h
set_option maxHeartbeats 4000000 in
theorem saidVars_any (A:Option Addr) (n c:Nat) (l:List Vr) (w:World) (h:RdV w (.slice A n c) l) (hm:n ≤ 1000000) :
 Calls Tryz.prog 89 #[.slice A n c,.func (.func 90) #[] #[]] w (RetStrs w (l.map (·.s))):=by
 have hn:=h.len.1
 have HV:=Lib.hid (fun W (hW:Below w.heap.size w W) => RdV.vars (w:=W) (Rdk.keep h hW))
 have HN:=Lib.hid hn
 obtain ⟨i0,hi,hz0,hz1,hz2⟩:=info_parts inf_str
 have HI:=Lib.hid (And.intro hi (And.intro hz0 (And.intro hz1 hz2)))
 clear h hn hi hz0 hz1 hz2
 go_enter Tryz.func89,Tryz.ntmps89
 go_wp2_with fail
 go_loopw [5,7,10] (fun p _ i wr => SaidRel w (l.map (·.s)) n p i wr) (fun _ _ i _ => n - (intOf i).toNat)
 case atStart => exact ⟨0,Nat.zero_le _,rfl,RowS.nil _ _ (Below.refl _ _)⟩
 case round =>
  obtain ⟨k,hk,rfl,hrow⟩:=hrel
  have HR:=Lib.hid hrow
  clear hrow
  by_cases hlt:k < n
  ·obtain ⟨v,hv⟩:∃ v,l[k]? = some v:=get_some (by rw [← HN.out]; exact hlt)
   obtain ⟨b,off,rfl,hb,c0,c1,c2,c3⟩:=VarsIn.at_ (HV.out _ HR.out.2) hv
   have HY:Hid ((l.map (·.s)).take (k + 1) = (l.map (·.s)).take k ++ [v.s]):=Lib.hid (said_next (by rw [List.getElem?_map,hv]; rfl))
   have hl:((l.map (·.s)).take k).length ≤ k:=List.length_take_le _ _
   have HL1:Hid (((l.map (·.s)).take k).length + (strV [v.s]).length ≤ maxLen):=Lib.hid (by simp [maxLen]; omega)
   have HL2:Hid ((((l.map (·.s)).take k).length + (strV [v.s]).length) * 16 ≤ 140737488355328):=Lib.hid (by simp; omega)
   have HX:=Lib.hid (fun W => varName_any v W)
   obtain ⟨s,lo,hi',ini⟩:=v
   simp only at c0 c1 c2 c3
   have HRA:=Lib.hid (HR.out.alloc (.cells #[.string s,.int .i64 lo,.int .i64 hi',.int .i64 ini] 52))
   clear hv hl
   go_wp2_with (go_at_call 90; go_fit (HX.out _))
   rintro e w2 ⟨rfl,hb2⟩
   have HR2:=Lib.hid (HRA.out.keep hb2)
   have HSZ:Hid (w.heap.size ≤ w2.heap.size):=Lib.hid HR2.out.2.size
   clear hb2
   go_wp2_with (at_builtin; refine wpList_append_rd _ rfl (.tmp 14) (.tmp 18) _ rfl w.heap.size 9 i0 (.string ByteArray.empty) 16 Tryz.underlying22 HI.out.1 HI.out.2.1 HI.out.2.2.1 HI.out.2.2.2 rfl _ _ _ rfl (HR2.out.1.alloc _) _ (strV [s]) rfl (lit_here rfl rfl rfl) (strV_one _) HL1.out HL2.out ?_ ?_; (have:=HSZ.out; simp; omega); intro p2 w3 hrow2 hg2 _; have HR3:=Lib.hid (RowS.add HR2.out hrow2 hg2); clear hrow2 hg2)
   go_roundw
   case rel => exact ⟨k + 1,hlt,by simp,by rw [HY.out]; exact HR3.out⟩
   case measure => simp [intOf]; omega
  ·obtain rfl:k = n:=by omega
   go_wp2_with fail
   go_ret
   have hr:=HR.out
   rw [List.take_of_length_le (by rw [List.length_map,← HN.out]; omega)] at hr
   exact ⟨_,rfl,hr.read,hr.2⟩
set_option maxHeartbeats 4000000 in
theorem saidSts_any (A:Option Addr) (n c:Nat) (l:List Sx) (w:World) (h:StsP w (.slice A n c) l) (hm:n ≤ 1000000) :
 Calls Tryz.prog 92 #[.slice A n c,.func (.func 93) #[] #[]] w (RetStrs w (l.map (·.s))):=by
 have hn:=h.len.1
 have HV:=Lib.hid (fun W (hW:Below w.heap.size w W) => h.keep hW)
 have HN:=Lib.hid hn
 obtain ⟨i0,hi,hz0,hz1,hz2⟩:=info_parts inf_str
 have HI:=Lib.hid (And.intro hi (And.intro hz0 (And.intro hz1 hz2)))
 clear h hn hi hz0 hz1 hz2
 go_enter Tryz.func92,Tryz.ntmps92
 go_wp2_with fail
 go_loopw [5,7,10] (fun p _ i wr => SaidRel w (l.map (·.s)) n p i wr) (fun _ _ i _ => n - (intOf i).toNat)
 case atStart => exact ⟨0,Nat.zero_le _,rfl,RowS.nil _ _ (Below.refl _ _)⟩
 case round =>
  obtain ⟨k,hk,rfl,hrow⟩:=hrel
  have HR:=Lib.hid hrow
  clear hrow
  by_cases hlt:k < n
  ·obtain ⟨v,hv⟩:∃ v,l[k]? = some v:=get_some (by rw [← HN.out]; exact hlt)
   obtain ⟨b,off,a3,n3,m3,a4,n4,m4,a5,n5,m5,rfl,hb,c0,c1,c2,c3,c4,c5,-,-,-⟩:=(HV.out _ HR.out.2).at_ hv
   have HY:Hid ((l.map (·.s)).take (k + 1) = (l.map (·.s)).take k ++ [v.s]):=Lib.hid (said_next (by rw [List.getElem?_map,hv]; rfl))
   have hl:((l.map (·.s)).take k).length ≤ k:=List.length_take_le _ _
   have HL1:Hid (((l.map (·.s)).take k).length + (strV [v.s]).length ≤ maxLen):=Lib.hid (by simp [maxLen]; omega)
   have HL2:Hid ((((l.map (·.s)).take k).length + (strV [v.s]).length) * 16 ≤ 140737488355328):=Lib.hid (by simp; omega)
   obtain ⟨s,kd,pr,en,ex,tr⟩:=v
   simp only at c0 c1 c2
   have HX:=Lib.hid (fun W => stateName_any s kd pr a3 n3 m3 a4 n4 m4 a5 n5 m5 W)
   have HRA:=Lib.hid (HR.out.alloc (.cells #[.string s,.int .i64 kd,.int .i64 pr,.slice a3 n3 m3,.slice a4 n4 m4,.slice a5 n5 m5] 58))
   clear hv hl
   go_wp2_with (go_at_call 93; go_fit (HX.out _))
   rintro e w2 ⟨rfl,hb2⟩
   have HR2:=Lib.hid (HRA.out.keep hb2)
   have HSZ:Hid (w.heap.size ≤ w2.heap.size):=Lib.hid HR2.out.2.size
   clear hb2
   go_wp2_with (at_builtin; refine wpList_append_rd _ rfl (.tmp 14) (.tmp 18) _ rfl w.heap.size 9 i0 (.string ByteArray.empty) 16 Tryz.underlying22 HI.out.1 HI.out.2.1 HI.out.2.2.1 HI.out.2.2.2 rfl _ _ _ rfl (HR2.out.1.alloc _) _ (strV [s]) rfl (lit_here rfl rfl rfl) (strV_one _) HL1.out HL2.out ?_ ?_; (have:=HSZ.out; simp; omega); intro p2 w3 hrow2 hg2 _; have HR3:=Lib.hid (RowS.add HR2.out hrow2 hg2); clear hrow2 hg2)
   go_roundw
   case rel => exact ⟨k + 1,hlt,by simp,by rw [HY.out]; exact HR3.out⟩
   case measure => simp [intOf]; omega
  ·obtain rfl:k = n:=by omega
   go_wp2_with fail
   go_ret
   have hr:=HR.out
   rw [List.take_of_length_le (by rw [List.length_map,← HN.out]; omega)] at hr
   exact ⟨_,rfl,hr.read,hr.2⟩
end Go.Proofs.YtckojimeglkobaaGreatDoor