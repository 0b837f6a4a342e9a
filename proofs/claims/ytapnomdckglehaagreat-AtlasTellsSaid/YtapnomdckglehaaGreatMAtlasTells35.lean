/- AtlasRef, SoundRef, joined. -/
import Derived.Test.YtapnomdckglehaaGreatMAtlasTells13
import Derived.Test.YtapnomdckglehaaGreatMAtlasTells33
import Derived.Test.YtapnomdckglehaaGreatMAtlasTells20
import Derived.Test.YtapnomdckglehaaGreatMAtlasTells34
import Derived.Test.YtapnomdckglehaaGreatMAtlasTells02
import Derived.Test.YtapnomdckglehaaGreatMAtlasTells32
namespace Go.Proofs.YtapnomdckglehaaGreat
open Go.RowKit TermSpec EvalSpec ActSpec NamesSpec ExprSpec TransSpec SynSpec CurSpec ShapeSpec GroupSpec AtlasSpec PrintSpec
set_option maxRecDepth 100000
section
variable (x:Cx) (eA:Option Addr) (en ec:Nat) (vA:Option Addr) (vn vc:Nat) (sA:Option Addr) (sn sc:Nat) (w:World) (h:ChIn w (.slice eA en ec) (.slice vA vn vc) (.slice sA sn sc) x)
include h
theorem revents17 (hev:x.evs.length ≤ 1000000):Calls Tryz.prog 16 #[.agg #[.string x.s,.slice eA en ec,.slice vA vn vc,.slice sA sn sc]] w (RetStrs w (un x.evs [])):=by
 have HU:=Lib.hid (fun W (hW:Below w.heap.size w W) => runion_any (.slice eA en ec) (.slice none 0 0) x.evs [] W ((Rd.keep h.evs hW)) (Rd.nil _) (by simp; omega))
 obtain ⟨nm,hnm⟩:∃ nm,nm = x.s:=⟨_,rfl⟩
 rw [← hnm]
 clear h hev hnm
 go_enter Tryz.func16,Tryz.ntmps16
 go_wp2_with (go_at_call 39; go_fit (HU.out _ (KitC.below_one _ _)))
 rintro e w2 ⟨v,rfl,hr,hb⟩
 have HR:=Lib.hid hr
 have HB:=Lib.hid (below_two' (KitC.below_one _ _) hb)
 clear hr hb
 go_wp2_with fail
 go_ret
 exact ⟨v,rfl,HR.out,HB.out⟩
set_option maxRecDepth 100000 in
set_option maxHeartbeats 4000000 in
theorem rplace17 (s:ByteArray) (hm:sn ≤ 1000000):Calls Tryz.prog 13 #[.agg #[.string x.s,.slice eA en ec,.slice vA vn vc,.slice sA sn sc],.string s] w (RetI w (Go.Lib.idxOfS (x.sts.map (·.s)) s)):=by
 obtain ⟨hn,-⟩:=h.sts.len
 obtain ⟨nm,hnm⟩:∃ nm,nm = x.s:=⟨_,rfl⟩
 obtain ⟨ns,hns⟩:∃ ns,ns = x.sts.map (·.s):=⟨_,rfl⟩
 have hnl:ns.length = sn:=by rw [hns,List.length_map,hn]
 obtain ⟨W1,hW1⟩:∃ W1,w.alloc (.cells #[.string nm,.slice eA en ec,.slice vA vn vc,.slice sA sn sc] 26) = W1:=⟨_,rfl⟩
 have hb1:Below w.heap.size w W1:=by rw [← hW1]; exact KitC.below_one _ _
 have hk1:W1.heap[w.heap.size]? = some (.cells #[.string nm,.slice eA en ec,.slice vA vn vc,.slice sA sn sc] 26):=by rw [← hW1]; exact heap_alloc_new _ _
 have HST:=Lib.hid (h.sts.keep hb1)
 have HNS:=Lib.hid hns
 have HN:=Lib.hid hn
 have HNL:=Lib.hid hnl
 have HW1:=Lib.hid hW1
 have HB1:=Lib.hid hb1
 obtain ⟨c0,c1,c2,c3⟩:=cells_4 hk1
 rw [← hnm,← hns]
 clear h hn hnm hns hnl hW1 hb1 hk1
 go_enter Tryz.func13,Tryz.ntmps13
 go_wp2_with fail
 rw [HW1.out]
 go_loop [5] (fun i => PlaceRel ns sn s i) (fun i => sn - (RowKit.intOf i).toNat)
 case atStart => exact ⟨0,Nat.zero_le _,rfl,by simp⟩
 case round =>
  obtain ⟨k,hk,rfl,hno⟩:=hrel
  by_cases hlt:k < sn
  ·obtain ⟨sx,hsx⟩:∃ sx,x.sts[k]? = some sx:=get_some (by have:=HN.out; omega)
   obtain ⟨b,off,a3,n3,m3,a4,n4,m4,a5,n5,m5,rfl,hbl,d0,-⟩:=StsP.at_ HST.out hsx
   obtain ⟨t,ht⟩:∃ t,t = sx.s:=⟨_,rfl⟩
   rw [← ht] at d0
   have HX:Hid (ns[k]? = some t):=Lib.hid (by rw [HNS.out,List.getElem?_map,hsx,ht]; rfl)
   have HO:=Lib.hid hno
   clear hsx ht hno
   rcases hxs:(t.toList == s.toList) with _ | _
   ·go_wp2_with fail
    go_round
    case rel =>
     refine ⟨k + 1,by omega,by go_num,?_⟩
     rw [take_next HX.out,List.mem_append,List.mem_singleton]
     rintro (h1 | h1)
     ·exact HO.out h1
     ·exact bytes_ne hxs h1.symm
    case measure => simp [RowKit.intOf]; omega
   ·go_wp2_with fail
    go_ret
    exact ⟨ret_int (by rw [← bytes_eq hxs] at HO ⊢; exact (place_hit HX.out HO.out).symm),HB1.out⟩
  ·go_wp2_with fail
   go_ret
   have:=HNL.out
   exact ⟨ret_int (by rw [List.take_of_length_le (by omega)] at hno; exact (place_miss hno).symm),HB1.out⟩
end
section
variable (x:Cx) (eA:Option Addr) (en ec:Nat) (vA:Option Addr) (vn vc:Nat) (sA:Option Addr) (sn sc:Nat) (w:World) (h:ChIn w (.slice eA en ec) (.slice vA vn vc) (.slice sA sn sc) x) (hs:SU (x.sts.map shOf) sn) (hm:sn ≤ 60) (i:Nat) (hi:i < sn)
include h hs hm hi
theorem rabove17:Calls Tryz.prog 23 #[.agg #[.string x.s,.slice eA en ec,.slice vA vn vc,.slice sA sn sc],.int .i64 i] w (fun e w' => e = .returned (.int .u64 (abG (x.sts.map shOf) i)) ∧ Below w.heap.size w w'):=by
 have HA:=Lib.hid (fun W (hW:Below w.heap.size w W) => rabove_any sA sn sc sn (x.sts.map shOf) i W ((h.sts.keep hW).sts) hs hi (Nat.le_refl _) (by omega))
 have HUL:Hid ((upI (x.sts.map shOf) i).length ≤ 60):=Lib.hid (by rw [upI_length]; have:=up_length_le (x.sts.map shOf) i; omega)
 obtain ⟨l,hl⟩:∃ l,l = x.sts.map shOf:=⟨_,rfl⟩
 rw [← hl] at HA HUL ⊢
 obtain ⟨us,hus⟩:∃ us,us = upI l i:=⟨_,rfl⟩
 have HUS:Hid (abG l i = ofG us):=Lib.hid (by rw [hus]; rfl)
 rw [← hus] at HA HUL
 rw [HUS.out]
 obtain ⟨nm,hnm⟩:∃ nm,nm = x.s:=⟨_,rfl⟩
 rw [← hnm]
 clear h hs hm hi hl hnm hus
 go_enter Tryz.func23,Tryz.ntmps23
 go_wp2_with (go_at_call 25; go_fit (HA.out _ (KitC.below_one _ _)))
 rintro e w2 ⟨v,rfl,hr,hb⟩
 have HR:=Lib.hid hr
 have HB:=Lib.hid (below_two' (KitC.below_one _ _) hb)
 clear hr hb
 go_wp2_with (go_at_call 42; go_fit (rof_any16 v us _ HR.out (by have:=HUL.out; omega)))
 rintro e w3 ⟨rfl,rfl⟩
 go_wp2_with fail
 go_ret
 exact ⟨rfl,HB.out⟩
theorem ris17 (a:Nat):Calls Tryz.prog 43 #[.agg #[.string x.s,.slice eA en ec,.slice vA vn vc,.slice sA sn sc],.int .i64 a,.int .i64 i] w (RetB w (decide (a ∈ sf (x.sts.map shOf) i))):=by
 have HA:=Lib.hid (fun W (hW:Below w.heap.size w W) => rself_any sA sn sc sn (x.sts.map shOf) i W ((h.sts.keep hW).sts) hs hi (Nat.le_refl _) (by omega))
 have HUL:Hid ((sfI (x.sts.map shOf) i).length ≤ 61):=Lib.hid (by rw [sfI_length]; have:=up_length_le (x.sts.map shOf) i; omega)
 obtain ⟨l,hl⟩:∃ l,l = x.sts.map shOf:=⟨_,rfl⟩
 rw [← hl] at HA HUL ⊢
 obtain ⟨us,hus⟩:∃ us,us = sfI l i:=⟨_,rfl⟩
 have HUS:Hid (decide (a ∈ sf l i) = decide ((a:Int) ∈ us)):=Lib.hid (by rw [hus,Bool.eq_iff_iff,decide_eq_true_iff,decide_eq_true_iff,sfI_mem])
 rw [← hus] at HA HUL
 rw [HUS.out]
 obtain ⟨nm,hnm⟩:∃ nm,nm = x.s:=⟨_,rfl⟩
 rw [← hnm]
 clear h hs hm hi hl hnm hus HUS
 go_enter Tryz.func43,Tryz.ntmps43
 go_wp2_with (go_at_call 72; go_fit (HA.out _ (KitC.below_one _ _)))
 rintro e w2 ⟨v,rfl,hr,hb⟩
 have HR:=Lib.hid hr
 have HB:=Lib.hid (below_two' (KitC.below_one _ _) hb)
 clear hr hb
 go_wp2_with (go_at_call 71; go_fit (rin_any v us (a:Int) _ HR.out (by have:=HUL.out; omega)))
 rintro e w3 ⟨rfl,rfl⟩
 go_wp2_with fail
 go_ret
 exact ⟨rfl,HB.out⟩
end
def RbRel (W1:World) (l:List Sh) (a n:Nat) (p i:Value) (wr:World):Prop:=∃ k:Nat,k ≤ n ∧ i = .int .i64 k ∧ Hid (RowI W1 wr p (belowTo l a k))
section
variable (x:Cx) (eA:Option Addr) (en ec:Nat) (vA:Option Addr) (vn vc:Nat) (sA:Option Addr) (sn sc:Nat) (w:World) (h:ChIn w (.slice eA en ec) (.slice vA vn vc) (.slice sA sn sc) x) (hs:SU (x.sts.map shOf) sn) (hm:sn ≤ 60) (a:Nat)
include h hs hm
set_option maxRecDepth 100000 in
set_option maxHeartbeats 4000000 in
theorem rbelow17:Calls Tryz.prog 24 #[.agg #[.string x.s,.slice eA en ec,.slice vA vn vc,.slice sA sn sc],.int .i64 a] w (fun e w' => e = .returned (.int .u64 (beG (x.sts.map shOf) a)) ∧ Below w.heap.size w w'):=by
 have HIS:=Lib.hid (fun W (hW:Below w.heap.size w W) k (hk:k < sn) => ris17 x eA en ec vA vn vc sA sn sc W (h.keep hW) hs hm k hk a)
 have hn:(x.sts.map shOf).length = sn:=by rw [List.length_map]; exact h.sts.len.1.symm
 obtain ⟨l,hl⟩:∃ l,l = x.sts.map shOf:=⟨_,rfl⟩
 rw [← hl] at HIS hn ⊢
 have HN:=Lib.hid hn
 have HBT:=Lib.hid (fun k => belowTo_length l a k)
 obtain ⟨nm,hnm⟩:∃ nm,nm = x.s:=⟨_,rfl⟩
 rw [← hnm] at HIS ⊢
 obtain ⟨i2,hi2,hz02,hz12,hz22⟩:=info_parts inf_int
 have HI2:=Lib.hid (And.intro hi2 (And.intro hz02 (And.intro hz12 hz22)))
 obtain ⟨W1,hW1⟩:∃ W1,w.alloc (.cells #[.string nm,.slice eA en ec,.slice vA vn vc,.slice sA sn sc] 26) = W1:=⟨_,rfl⟩
 have hb1:Below w.heap.size w W1:=by rw [← hW1]; exact KitC.below_one _ _
 have hk1:W1.heap[w.heap.size]? = some (.cells #[.string nm,.slice eA en ec,.slice vA vn vc,.slice sA sn sc] 26):=by rw [← hW1]; exact heap_alloc_new _ _
 have HK:=Lib.hid (fun W (hW:Below W1.heap.size W1 W) => KitC.block_on hk1 hW)
 have HW1:=Lib.hid hW1
 have HB1:=Lib.hid hb1
 obtain ⟨W2,hW2⟩:∃ W2,W1.alloc (.cells #[] 3) = W2:=⟨_,rfl⟩
 have HW2:=Lib.hid hW2
 have hsz1:w.heap.size + 1 = W1.heap.size:=by rw [← hW1]; simp
 have HST0:Hid (RowI W1 W2 (.slice (some ⟨w.heap.size + 1,0,none⟩) 0 0) []):=Lib.hid (by
  rw [hsz1,← hW2]
  exact ⟨World.ownsRow_lit W1 #[] 0 (Nat.le_refl _) (Nat.zero_le _) rfl,KitC.below_one _ _⟩)
 obtain ⟨c0,c1,c2,c3⟩:=cells_4 hk1
 clear h hs hn hl hnm hi2 hz02 hz12 hz22 hW1 hb1 hk1 hW2 hsz1
 go_enter Tryz.func24,Tryz.ntmps24
 go_wp2_with fail
 rw [HW1.out,HW2.out]
 go_loopw [5,6] (fun p i wr => RbRel W1 l a sn p i wr) (fun _ i _ => sn - (intOf i).toNat)
 case atStart => exact ⟨0,Nat.zero_le _,rfl,by rw [belowTo_zero]; exact HST0⟩
 case round =>
  obtain ⟨k,hk,rfl,HR⟩:=hrel
  obtain ⟨c0,c1,c2,c3⟩:=cells_4 (HK.out _ HR.out.2)
  by_cases hlt:k < sn
  case neg =>
   obtain rfl:k = sn:=by omega
   go_wp2_with (go_at_call 42; go_fit (rof_any16 _ _ _ HR.out.read (by have:=HBT.out k; omega)))
   rintro e w3 ⟨rfl,rfl⟩
   go_wp2_with fail
   go_ret
   exact ⟨by rw [show beG l a = ofG (belowTo l a k) by unfold beG; rw [HN.out]]; rfl,below_two' HB1.out HR.out.2⟩
  have hltI:(k:Int) < sn:=by omega
  go_wp2_with (go_at_call 43; go_fit (HIS.out _ (below_two' HB1.out HR.out.2) k hlt))
  rintro e w5 ⟨rfl,hb⟩
  have HR5:=Lib.hid (HR.out.keep hb)
  have HSZ:Hid (W1.heap.size ≤ w5.heap.size):=Lib.hid HR5.out.2.size
  have hbl:=HBT.out k
  have HL1:Hid ((belowTo l a k).length + (intV [(k:Int)]).length ≤ maxLen):=Lib.hid (by simp [maxLen]; omega)
  have HL2:Hid (((belowTo l a k).length + (intV [(k:Int)]).length) * 8 ≤ 140737488355328):=Lib.hid (by simp; omega)
  clear hb hbl c0 c1 c2 c3
  by_cases ha:a ∈ sf l k
  ·have HY:Hid (belowTo l a (k + 1) = belowTo l a k ++ [(k:Int)]):=Lib.hid (belowTo_yes ha)
   rw [decide_eq_true ha]
   clear ha
   go_wp2_with (at_builtin; refine wpList_append_rd _ rfl (.tmp 19) (.tmp 21) _ rfl W1.heap.size 3 i2 (.int .i64 0) 8 Tryz.underlying40 HI2.out.1 HI2.out.2.1 HI2.out.2.2.1 HI2.out.2.2.2 rfl _ _ _ rfl (own_keep HR5.out.1 (KitC.below_one _ _)) _ (intV [(k:Int)]) rfl (lit_here rfl rfl rfl) (intV_one _) HL1.out HL2.out ?_ ?_; (have:=HSZ.out; simp; omega); intro p2 w6 hrow2 hg2 hob; have HR2:=Lib.hid (HR5.out.add hrow2 hg2); clear hrow2 hg2 hob)
   go_roundw
   case rel => exact ⟨k + 1,hlt,by go_num,Lib.hid (by rw [HY.out]; exact HR2.out)⟩
   case measure => simp [intOf]; omega
  ·have HY:Hid (belowTo l a (k + 1) = belowTo l a k):=Lib.hid (belowTo_no ha)
   rw [decide_eq_false ha]
   clear ha
   go_wp2_with fail
   go_roundw
   case rel => exact ⟨k + 1,hlt,by go_num,Lib.hid (by rw [HY.out]; exact HR5.out)⟩
   case measure => simp [intOf]; omega
end
end Go.Proofs.YtapnomdckglehaaGreat
namespace Go.Proofs.YtapnomdckglehaaGreat
open Go.RowKit TermSpec NamesSpec EvalSpec ActSpec TransSpec SynSpec RulesSpec PrintSpec SoundSpec
set_option maxRecDepth 100000
section
variable (x:Cx) (eA:Option Addr) (en ec:Nat) (vA:Option Addr) (vn vc:Nat) (sA:Option Addr) (sn sc:Nat) (w:World) (h:ChIn w (.slice eA en ec) (.slice vA vn vc) (.slice sA sn sc) x) (hf:FewR x) (hmr:MayR x)
include h hf hmr
end
def SkRel (W1:World) (K:Nat → Bool) (i:Value) (wr:World):Prop:=∃ k:Nat,k ≤ 10 ∧ i = .int .i64 (10 - (k:Int)) ∧ Hid (K k = true) ∧ Hid (Below W1.heap.size W1 wr)
section
variable (x:Cx) (eA:Option Addr) (en ec:Nat) (vA:Option Addr) (vn vc:Nat) (sA:Option Addr) (sn sc:Nat) (w:World) (h:ChIn w (.slice eA en ec) (.slice vA vn vc) (.slice sA sn sc) x) (hm:FitM x) (hf:FewR x)
include h hm hf
set_option maxRecDepth 100000 in
set_option maxHeartbeats 8000000 in
theorem rsis_any:Calls Tryz.prog 8 #[.agg #[.string x.s,.slice eA en ec,.slice vA vn vc,.slice sA sn sc]] w (RetB w (soundC x)):=by
 have HM:=Lib.hid (fun W (hW:Below w.heap.size w W) => mayC_any x eA en ec vA vn vc sA sn sc W (h.keep hW) hm)
 have HBR:=Lib.hid (fun (hc:mayC x = true) (r:Int) (h1:1 ≤ r) (h2:r ≤ 10) W (hW:Below w.heap.size w W) => rbk_any x eA en ec vA vn vc sA sn sc W (h.keep hW) hf (mayR_of hc).1 r h1 h2)
 have HBF:Hid (∀ r,(brk x r).length ≤ 1000000):=Lib.hid (fun r => brk_few15 hf r)
 obtain ⟨nm,hnm⟩:∃ nm,nm = x.s:=⟨_,rfl⟩
 rw [← hnm] at HM HBR ⊢
 obtain ⟨W1,hW1⟩:∃ W1,w.alloc (.cells #[.string nm,.slice eA en ec,.slice vA vn vc,.slice sA sn sc] 26) = W1:=⟨_,rfl⟩
 have hb1:Below w.heap.size w W1:=by rw [← hW1]; exact KitC.below_one _ _
 have hk1:W1.heap[w.heap.size]? = some (.cells #[.string nm,.slice eA en ec,.slice vA vn vc,.slice sA sn sc] 26):=by rw [← hW1]; exact heap_alloc_new _ _
 have HK:=Lib.hid (fun W (hW:Below W1.heap.size W1 W) => KitC.block_on hk1 hW)
 have HW1:=Lib.hid hW1
 have HB1:=Lib.hid hb1
 obtain ⟨c0,c1,c2,c3⟩:=cells_4 hk1
 cases hmc:mayC x with
 | false =>
   rw [hmc] at HM
   have HE:Hid (soundC x = false):=Lib.hid (by unfold soundC; rw [hmc]; rfl)
   rw [HE.out]
   clear h hm hf hnm hW1 hb1 hk1 hmc HBR HBF
   go_enter Tryz.func8,Tryz.ntmps8
   go_wp2_with (rw [HW1.out]; go_at_call 32; go_fit (HM.out _ HB1.out))
   rintro e w2 ⟨rfl,hb⟩
   have HB2:=Lib.hid (below_two' HB1.out hb)
   clear hb c0 c1 c2 c3
   go_wp2_with fail
   go_ret
   exact ⟨rfl,HB2.out⟩
 | true =>
   rw [hmc] at HM
   have HBR:=Lib.hid (HBR.out hmc)
   obtain ⟨K,hKK⟩:∃ K:Nat → Bool,K = keptFrom x:=⟨_,rfl⟩
   obtain ⟨B,hB⟩:∃ B:Int → List Fw,B = brk x:=⟨_,rfl⟩
   have HNX:Hid (∀ k:Nat,K (k + 1) = (decide ((B (10 - (k:Int))).length = 0) && K k)):=Lib.hid (fun k => by rw [hKK,hB]; rfl)
   have HK0:Hid (K 0 = true):=Lib.hid (by rw [hKK]; rfl)
   have HKE:Hid (soundC x = K 10):=Lib.hid (by unfold soundC; rw [hmc,hKK,kept_all]; rfl)
   have HNO:Hid (∀ k:Nat,k < 10 → ¬ (B (10 - (k:Int))).length = 0 → K 10 = false):=Lib.hid (fun k hk hne => by
    rw [hKK,Bool.eq_false_iff]
    intro hh
    have:=(keptFrom_iff (Nat.le_refl 10)).1 hh (10 - (k:Int)) (by omega) (by omega)
    rw [hB,this] at hne
    exact hne rfl)
   rw [HKE.out]
   rw [← hB] at HBR HBF
   clear h hm hf hnm hW1 hb1 hk1 hmc hKK hB HKE
   go_enter Tryz.func8,Tryz.ntmps8
   go_wp2_with (rw [HW1.out]; go_at_call 32; go_fit (HM.out _ HB1.out))
   rintro e w2 ⟨rfl,hb⟩
   have HB2:=Lib.hid hb
   clear hb c0 c1 c2 c3
   go_wp2_with fail
   go_loopw [3] (fun i wr => SkRel W1 K i wr) (fun i _ => (intOf i).toNat)
   case atStart => exact ⟨0,Nat.zero_le _,rfl,HK0,HB2⟩
   case round =>
    obtain ⟨k,hk,rfl,HKK,HBW⟩:=hrel
    by_cases hlt:k < 10
    case neg =>
     obtain rfl:k = 10:=by omega
     go_wp2_with fail
     go_ret
     exact ⟨ret_bool HKK.out.symm,below_two' HB1.out HBW.out⟩
    obtain ⟨r,hr⟩:∃ r:Nat,(10 - (k:Int)) = (r:Int) + 1:=⟨9 - k,by omega⟩
    have hkI:decide ((r:Int) + 1 ≥ 1) = true:=decide_eq_true (by omega)
    have hrl:(r:Int) ≤ 64:=by omega
    have HRK:=Lib.hid hr
    have HRG:Hid (1 ≤ (r:Int) + 1 ∧ (r:Int) + 1 ≤ 10):=Lib.hid (by omega)
    rw [hr]
    obtain ⟨c0,c1,c2,c3⟩:=cells_4 (HK.out _ HBW.out)
    have hws:w.heap.size < wr.heap.size:=(Array.getElem?_eq_some_iff.1 (HK.out _ HBW.out)).1
    have HNXk:=Lib.hid (HNX.out k)
    have HNOk:=Lib.hid (HNO.out k hlt)
    rw [hr] at HNXk HNOk
    clear hr
    go_wp2_with (go_at_call 33; go_fit (HBR.out ((r:Int) + 1) HRG.out.1 HRG.out.2 _ (below_two' HB1.out HBW.out)))
    rintro e w5 ⟨A,n,cp,rfl,hn,hfw,hb⟩
    have HB5:=Lib.hid (below_two' HBW.out hb)
    have HN:=Lib.hid hn
    clear hb hfw hn c0 c1 c2 c3 hws
    by_cases hz:n = 0
    ·subst hz
     have HKN:Hid (K (k + 1) = true):=Lib.hid (by rw [HNXk.out,HKK.out,← HN.out]; rfl)
     go_wp2_with fail
     go_roundw
     case rel => exact ⟨k + 1,hlt,by have:=HRK.out; congr 1; omega,HKN,HB5⟩
     case measure => simp [intOf]
    ·have g:decide (0 < (n:Int)) = true:=by simp; omega
     have g':decide (0 < n) = true:=by simp; omega
     have HKE:Hid (K 10 = false):=Lib.hid (HNOk.out (by rw [← HN.out]; exact hz))
     go_wp2_with fail
     go_ret
     exact ⟨ret_bool HKE.out.symm,below_two' HB1.out HB5.out⟩
end
end Go.Proofs.YtapnomdckglehaaGreat