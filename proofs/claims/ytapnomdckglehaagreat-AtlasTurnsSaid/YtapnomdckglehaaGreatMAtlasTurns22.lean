/- AtlasTurnsLaw, OpenN, OpenD, TermOpen, EvalOpen, ActOpen, TransOpen, ShapeOpen, joined. -/
import Derived.Test.YtapnomdckglehaaGreatMAtlasTurns21
import Derived.Test.YtapnomdckglehaaGreatMAtlasTurns20
import Derived.Test.YtapnomdckglehaaGreatMAtlasTurns00
import Derived.ProofKit
import Derived.OpenShut
import Derived.Deep.Slices
import Derived.Test.YtapnomdckglehaaGreatRows
import Derived.Lib.SmallJoins
import Derived.Test.YtapnomdckglehaaGreatMAtlasTurns02
import Derived.Test.YtapnomdckglehaaGreatMAtlasTurns04
import Derived.Test.YtapnomdckglehaaGreatMAtlasTurns14
import Derived.Test.YtapnomdckglehaaGreatMAtlasTurns05
import Derived.Test.YtapnomdckglehaaGreatMAtlasTurns08
namespace Go.Proofs.YtapnomdckglehaaGreat
open Go.RowKit TermSpec EvalSpec ActSpec NamesSpec ExprSpec TransSpec SynSpec CurSpec ShapeSpec GroupSpec AtlasSpec PrintSpec RulesSpec SoundSpec
set_option maxRecDepth 100000
theorem at_build0 (w:World):(Instr.build 63 #[]).run Tryz.prog w = .ok (.agg #[.bool false,.string ⟨#[]⟩,.slice none 0 0,.slice none 0 0,.slice none 0 0,.int .u32 0,.int .i32 0,.int .u32 0,.slice none 0 0,.slice none 0 0,.slice none 0 0]) w:=run_build w 63 _ _ (by kernel_rfl)
abbrev atZ17:Obj:=.cells #[.bool false,.string ⟨#[]⟩,.slice none 0 0,.slice none 0 0,.slice none 0 0,.int .u32 0,.int .i32 0,.int .u32 0,.slice none 0 0,.slice none 0 0,.slice none 0 0] 63
theorem ch_fld3 (a b c d:Value) (w:World):(Instr.field 26 (.agg #[a,b,c,d]) 3).run Tryz.prog w = .ok d w:=by kernel_rfl
def TnRel (W2:World) (i:Value) (wr:World):Prop:=∃ k:Nat,k ≤ 2 ∧ i = .int .i64 k ∧ Hid (Below W2.heap.size W2 wr)
section
variable (x:Cx) (eA:Option Addr) (en ec:Nat) (vA:Option Addr) (vn vc:Nat) (sA:Option Addr) (sn sc:Nat) (i k:Int) (w:World) (h:ChIn w (.slice eA en ec) (.slice vA vn vc) (.slice sA sn sc) x) (hf:FitC x) (hv:∀ v ∈ x.vars,VFit v)
include h hf hv
omit hv in
set_option maxRecDepth 100000 in
set_option maxHeartbeats 16000000 in
theorem turns_no (hl:lightC x = false):Calls Tryz.prog 4 #[.agg #[.string x.s,.slice eA en ec,.slice vA vn vc,.slice sA sn sc],.int .i64 i,.int .i64 k] w fun e w' => e = .returned (.bool true) ∧ Below w.heap.size w w':=by
 have HL:=Lib.hid (fun W (hW:Below w.heap.size w W) => lightC_any x eA en ec vA vn vc sA sn sc W (h.keep hW) hf)
 rw [hl] at HL
 obtain ⟨nm,hnm⟩:∃ nm,nm = x.s:=⟨_,rfl⟩
 have HNM:Hid (x.s = nm):=Lib.hid hnm.symm
 obtain ⟨W1,hW1⟩:∃ W1,w.alloc (.cells #[.string nm,.slice eA en ec,.slice vA vn vc,.slice sA sn sc] 26) = W1:=⟨_,rfl⟩
 have hb1:Below w.heap.size w W1:=by rw [← hW1]; exact KitC.below_one _ _
 have hk1:W1.heap[w.heap.size]? = some (.cells #[.string nm,.slice eA en ec,.slice vA vn vc,.slice sA sn sc] 26):=by rw [← hW1]; exact heap_alloc_new _ _
 have HK:=Lib.hid (fun W (hW:Below W1.heap.size W1 W) => cells_4 (KitC.block_on hk1 hW))
 have HW1:=Lib.hid hW1
 have HB1:=Lib.hid hb1
 obtain ⟨c0,c1,c2,c3⟩:=cells_4 hk1
 rw [HNM.out] at HL ⊢
 clear h hf hl hnm hW1 hb1 hk1
 go_enter Tryz.func4,Tryz.ntmps4
 go_wp2_with (rw [HW1.out]; go_at_call 5; go_fit (HL.out _ HB1.out))
 rintro e w2 ⟨rfl,hb⟩
 have HB2:=Lib.hid hb
 clear hb c0 c1 c2 c3
 go_wp2_with (go_at_call 6; go_fit (awake17 w2))
 rintro e wz ⟨rfl,hb⟩
 have HBZ:=Lib.hid (below_two' HB1.out (below_two' HB2.out hb))
 clear hb
 go_wp2_with fail
 go_ret
 exact ⟨rfl,HBZ.out⟩
set_option maxRecDepth 100000 in
set_option maxHeartbeats 16000000 in
theorem turns_yes (hl:lightC x = true):Calls Tryz.prog 4 #[.agg #[.string x.s,.slice eA en ec,.slice vA vn vc,.slice sA sn sc],.int .i64 i,.int .i64 k] w fun e w' => e = .returned (.bool true) ∧ Below w.heap.size w w':=by
 have hlc:=chart_light hl
 have hfr:=fewR_of hlc hf hv
 have hfm:=chart_fit hlc hf
 have hsn:=h.sts.len.1
 have HL:=Lib.hid (fun W (hW:Below w.heap.size w W) => lightC_any x eA en ec vA vn vc sA sn sc W (h.keep hW) hf)
 rw [hl] at HL
 have HNN:=Lib.hid (fun (hd:soundC x = false) W (hW:Below w.heap.size w W) => new_no x eA en ec vA vn vc sA sn sc W (h.keep hW) hfm hfr hd)
 have HNY:=Lib.hid (fun (hd:soundC x = true) W (hW:Below w.heap.size w W) => new_yes x eA en ec vA vn vc sA sn sc W (h.keep hW) hfm hfr hd)
 have hev:x.evs.length ≤ 1000000:=by have:=hfr.evl; omega
 have HCK:Hid (soundC x = true → chk (x.sts.map shOf) = 0):=Lib.hid (fun hd => by
  unfold soundC at hd
  rw [Bool.and_eq_true] at hd
  exact (mayR_of hd.1).2)
 have HAB:=Lib.hid (fun (hd:soundC x = true) (q:Int) B W (hA:AtIn W B x) => above17 B x W hA (HCK.out hd) hev q)
 have HBL:=Lib.hid (fun (hd:soundC x = true) (q:Int) B W (hA:AtIn W B x) => below17 B x W hA (HCK.out hd) hev q)
 have hsl:sn = (x.sts.map shOf).length:=by rw [List.length_map]; exact hsn
 obtain ⟨l,hll⟩:∃ l,l = x.sts.map shOf:=⟨_,rfl⟩
 rw [← hll] at HAB HBL HCK hsl
 have HSL:=Lib.hid hsl
 obtain ⟨sd,hsd⟩:∃ sd,sd = soundC x:=⟨_,rfl⟩
 rw [← hsd] at HNN HNY HAB HBL HCK
 obtain ⟨nm,hnm⟩:∃ nm,nm = x.s:=⟨_,rfl⟩
 have HNM:Hid (x.s = nm):=Lib.hid hnm.symm
 obtain ⟨W1,hW1⟩:∃ W1,w.alloc (.cells #[.string nm,.slice eA en ec,.slice vA vn vc,.slice sA sn sc] 26) = W1:=⟨_,rfl⟩
 have hb1:Below w.heap.size w W1:=by rw [← hW1]; exact KitC.below_one _ _
 have hk1:W1.heap[w.heap.size]? = some (.cells #[.string nm,.slice eA en ec,.slice vA vn vc,.slice sA sn sc] 26):=by rw [← hW1]; exact heap_alloc_new _ _
 have HK:=Lib.hid (fun W (hW:Below W1.heap.size W1 W) => cells_4 (KitC.block_on hk1 hW))
 have HW1:=Lib.hid hW1
 have HB1:=Lib.hid hb1
 obtain ⟨c0,c1,c2,c3⟩:=cells_4 hk1
 rw [HNM.out] at HL HNN HNY ⊢
 have hbd0:=at_build0
 have hfl3:=ch_fld3
 have hsn9:sn ≤ 9223372036854775807:=by have:=hfr.stl; omega
 clear h hf hv hl hlc hfr hfm hsn hev hsl hll hsd hnm hW1 hb1 hk1
 go_enter Tryz.func4,Tryz.ntmps4
 go_wp2_with (rw [HW1.out]; go_at_call 5; go_fit (HL.out _ HB1.out))
 rintro e w2 ⟨rfl,hb⟩
 have HB2:=Lib.hid hb
 clear hb c0 c1 c2 c3
 go_wp2_with fail
 go_loopw [7] (fun i wr => TnRel w2 i wr) (fun i _ => 2 - (intOf i).toNat)
 case atStart => exact ⟨0,by omega,rfl,Lib.hid (Below.refl _ _)⟩
 case round =>
  obtain ⟨t,ht,rfl,HR⟩:=hrel
  rcases (show t = 0 ∨ t = 1 ∨ t = 2 by omega) with rfl | rfl | rfl
  ·obtain ⟨wp,hwp⟩:∃ wp,wp = wr:=⟨_,rfl⟩
   have HNG:Hid (∀ W,Below wp.heap.size wp W → Calls Tryz.prog 9 #[.pointer none] W (SameB W false)):=Lib.hid (fun W _ => good_nil17 W)
   rw [← hwp] at HR ⊢
   clear hwp
   go_wp2_with (go_at_call 9; go_fit (HNG.out wp (Below.refl _ _)))
   rintro e y1 ⟨rfl,rfl⟩
   go_wp2_with (go_at_call 11; go_fit (nchart _ _ HNG.out))
   rintro e y2 ⟨rfl,hb⟩
   have HY2:=Lib.hid hb
   clear hb
   go_wp2_with (go_at_call 12; go_fit (nplace _ _ (fun W hW => HNG.out W (below_two' HY2.out hW)) ⟨#[97]⟩))
   rintro e y3 ⟨rfl,rfl⟩
   go_wp2_with (go_at_call 17; go_fit (nkids _ _ (fun W hW => HNG.out W (below_two' HY2.out hW)) 0))
   rintro e y4 ⟨rfl,hb⟩
   have HY4:=Lib.hid (below_two' HY2.out hb)
   clear hb
   go_wp2_with (go_at_call 18; go_fit (nabove _ _ (fun W hW => HNG.out W (below_two' HY4.out hW)) 0))
   rintro e y5 ⟨rfl,hb⟩
   have HY5:=Lib.hid (below_two' HY4.out hb)
   clear hb
   go_wp2_with (go_at_call 19; go_fit (nbelow _ _ (fun W hW => HNG.out W (below_two' HY5.out hW)) 0))
   rintro e y6 ⟨rfl,hb⟩
   have HY6:=Lib.hid (below_two' HY5.out hb)
   clear hb
   go_wp2_with (go_at_call 20; go_fit (ndepth _ _ (fun W hW => HNG.out W (below_two' HY6.out hW)) 0))
   rintro e y7 ⟨rfl,hb⟩
   have HY7:=Lib.hid (below_two' HY6.out hb)
   clear hb
   go_wp2_with (go_at_call 15; go_fit (nevents _ _ (fun W hW => HNG.out W (below_two' HY7.out hW))))
   rintro e y8 ⟨rfl,hb⟩
   have HY8:=Lib.hid (below_two' HY7.out hb)
   clear hb
   go_wp2_with fail
   go_roundw
   case rel => exact ⟨1,by omega,by go_num,Lib.hid (below_two' HR.out HY8.out)⟩
   case measure => simp [intOf]
  ·obtain ⟨wp,hwp⟩:∃ wp,wr.alloc atZ17 = wp:=⟨_,rfl⟩
   have hkp:wp.heap[wr.heap.size]? = some atZ17:=by rw [← hwp]; exact heap_alloc_new _ _
   have HBP:Hid (Below wr.heap.size wr wp):=Lib.hid (by rw [← hwp]; exact KitC.below_one _ _)
   have HNG:Hid (∀ W,Below wp.heap.size wp W → Calls Tryz.prog 9 #[.pointer (some ⟨wr.heap.size,0,none⟩)] W (SameB W false)):=Lib.hid (fun W hW => good17 _ false W (cell_of_block' (KitC.block_on hkp hW) rfl))
   have HWP:=Lib.hid hwp
   clear hwp hkp
   go_wp2_with fail
   rw [HWP.out]
   go_wp2_with (go_at_call 9; go_fit (HNG.out wp (Below.refl _ _)))
   rintro e y1 ⟨rfl,rfl⟩
   go_wp2_with (go_at_call 11; go_fit (nchart _ _ HNG.out))
   rintro e y2 ⟨rfl,hb⟩
   have HY2:=Lib.hid hb
   clear hb
   go_wp2_with (go_at_call 12; go_fit (nplace _ _ (fun W hW => HNG.out W (below_two' HY2.out hW)) ⟨#[97]⟩))
   rintro e y3 ⟨rfl,rfl⟩
   go_wp2_with (go_at_call 17; go_fit (nkids _ _ (fun W hW => HNG.out W (below_two' HY2.out hW)) 0))
   rintro e y4 ⟨rfl,hb⟩
   have HY4:=Lib.hid (below_two' HY2.out hb)
   clear hb
   go_wp2_with (go_at_call 18; go_fit (nabove _ _ (fun W hW => HNG.out W (below_two' HY4.out hW)) 0))
   rintro e y5 ⟨rfl,hb⟩
   have HY5:=Lib.hid (below_two' HY4.out hb)
   clear hb
   go_wp2_with (go_at_call 19; go_fit (nbelow _ _ (fun W hW => HNG.out W (below_two' HY5.out hW)) 0))
   rintro e y6 ⟨rfl,hb⟩
   have HY6:=Lib.hid (below_two' HY5.out hb)
   clear hb
   go_wp2_with (go_at_call 20; go_fit (ndepth _ _ (fun W hW => HNG.out W (below_two' HY6.out hW)) 0))
   rintro e y7 ⟨rfl,hb⟩
   have HY7:=Lib.hid (below_two' HY6.out hb)
   clear hb
   go_wp2_with (go_at_call 15; go_fit (nevents _ _ (fun W hW => HNG.out W (below_two' HY7.out hW))))
   rintro e y8 ⟨rfl,hb⟩
   have HY8:=Lib.hid (below_two' HY7.out hb)
   clear hb
   go_wp2_with fail
   go_roundw
   case rel => exact ⟨2,by omega,by go_num,Lib.hid (below_two' HR.out (below_two' HBP.out HY8.out))⟩
   case measure => simp [intOf]
  ·have HB3:=Lib.hid (below_two' HB2.out HR.out)
   obtain ⟨c0,c1,c2,c3⟩:=HK.out _ HB3.out
   clear hbd0 hfl3
   cases hsd:sd with
   | false =>
     go_wp2_with (go_at_call 7; go_fit (HNN.out hsd _ (below_two' HB1.out HB3.out)))
     rintro e w4 ⟨rfl,hb⟩
     have HB4:=Lib.hid (below_two' HB3.out hb)
     clear hb c0 c1 c2 c3
     go_wp2_with (go_at_call 6; go_fit (awake17 w4))
     rintro e wz ⟨rfl,hb⟩
     have HBZ:=Lib.hid (below_two' HB1.out (below_two' HB4.out hb))
     clear hb
     go_wp2_with fail
     go_ret
     exact ⟨rfl,HBZ.out⟩
   | true =>
     have hck:=HCK.out hsd
     have h60:sn ≤ 60:=by have:=(chk_ok hck).1; have:=HSL.out; omega
     go_wp2_with (go_at_call 7; go_fit (HNY.out hsd _ (below_two' HB1.out HB3.out)))
     rintro e w4 ⟨B,rfl,hat,hB,hb⟩
     have HA4:=Lib.hid hat
     have HBB:Hid (W1.heap.size ≤ B):=Lib.hid (Nat.le_trans HB3.out.size hB)
     have HB4:=Lib.hid (below_two' HB3.out hb)
     clear hat hB hb c0 c1 c2 c3 hck
     obtain ⟨c0,c1,c2,c3⟩:=HK.out _ HB4.out
     by_cases hin:(0 ≤ i ∧ i < sn) ∧ 0 ≤ k ∧ k < sn
     ·obtain ⟨⟨hi0,hi1⟩,hk0,hk1⟩:=hin
      obtain ⟨j,rfl⟩:=Int.eq_ofNat_of_zero_le hi0
      obtain ⟨m,rfl⟩:=Int.eq_ofNat_of_zero_le hk0
      have hjl:j < l.length:=by have:=HSL.out; omega
      have hml:m < l.length:=by have:=HSL.out; omega
      have hl64:l.length ≤ 64:=by have:=HSL.out; omega
      obtain ⟨hT1,hT2⟩:=turned hl64 hjl hml
      have HABk:=Lib.hid (HAB.out hsd (m:Int))
      have HABi:=Lib.hid (HAB.out hsd (j:Int))
      have HBLi:=Lib.hid (HBL.out hsd (j:Int))
      rw [aboveTb_in hml] at HABk
      rw [aboveTb_in hjl] at HABi
      rw [belowTb_in hjl] at HBLi
      have HH1:=Lib.hid (fun W => ghas_any (abG l m) (j:Int) (abG_lt _ _) W)
      have HH2:=Lib.hid (fun W => ghas_any (beG l j) (m:Int) (beG_lt _ _) W)
      have HH3:=Lib.hid (fun W => ghas_any (abG l j) (j:Int) (abG_lt _ _) W)
      obtain ⟨g1,hg1⟩:∃ g1,g1 = abG l m:=⟨_,rfl⟩
      obtain ⟨g2,hg2⟩:∃ g2,g2 = beG l j:=⟨_,rfl⟩
      obtain ⟨g3,hg3⟩:∃ g3,g3 = abG l j:=⟨_,rfl⟩
      rw [← hg1] at HABk HH1 hT1
      rw [← hg2] at HBLi HH2 hT1
      rw [← hg3] at HABi HH3 hT2
      rw [hT2] at HH3
      have hj1:¬ (sn:Int) ≤ (j:Int):=by omega
      have hm1:¬ (sn:Int) ≤ (m:Int):=by omega
      have key:(hasG g1 (j:Int) = true ∧ hasG g2 (m:Int) = true) ∨ (hasG g1 (j:Int) = false ∧ j = m ∧ hasG g2 (m:Int) = true) ∨ (hasG g1 (j:Int) = false ∧ j ≠ m ∧ hasG g2 (m:Int) = false):=by
       cases hq:hasG g1 (j:Int) with
       | true => rw [hq] at hT1; exact .inl ⟨rfl,by rw [← hT1]; rfl⟩
       | false =>
         rw [hq,Bool.false_or] at hT1
         by_cases hjm:j = m
         ·exact .inr (.inl ⟨rfl,hjm,by rw [← hT1]; exact decide_eq_true hjm⟩)
         ·exact .inr (.inr ⟨rfl,hjm,by rw [← hT1]; exact decide_eq_false hjm⟩)
      have HKEY:=Lib.hid key
      clear hjl hml hl64 hT1 hT2 hg1 hg2 hg3 hi0 hk0 key hsd
      rcases HKEY.out with ⟨k1,k2⟩ | ⟨k1,k3,k2⟩ | ⟨k1,k3,k2⟩
      all_goals
       rw [k1] at HH1
       rw [k2] at HH2
       clear HKEY k1 k2
      ·skip
       go_wp2_with (go_at_call 18; go_fit (HABk.out _ _ HA4.out))
       rintro e y1 ⟨v,rfl,rfl,hat,hg⟩
       have HA5:=Lib.hid hat
       have HB5:=Lib.hid (at_below HB4.out HB4.out.size hg HBB.out)
       clear hat hg c0 c1 c2 c3
       obtain ⟨c0,c1,c2,c3⟩:=HK.out _ HB5.out
       go_wp2_with (go_at_call 26; go_fit (HH1.out _))
       rintro e y2 ⟨rfl,rfl⟩
       go_wp2_with (go_at_call 19; go_fit (HBLi.out _ _ (.inr HA5.out)))
       rintro e y3 ⟨v,rfl,rfl,hat,hg⟩
       have HA6:=Lib.hid hat
       have HB6:=Lib.hid (at_below HB5.out HB5.out.size hg HBB.out)
       clear hat hg c0 c1 c2 c3
       obtain ⟨c0,c1,c2,c3⟩:=HK.out _ HB6.out
       go_wp2_with (go_at_call 26; go_fit (HH2.out _))
       rintro e y4 ⟨rfl,rfl⟩
       go_wp2_with (go_at_call 18; go_fit (HABi.out _ _ (.inr HA6.out)))
       rintro e y5 ⟨v,rfl,rfl,hat,hg⟩
       have HB7:=Lib.hid (at_below HB6.out HB6.out.size hg HBB.out)
       clear hat hg c0 c1 c2 c3
       go_wp2_with (go_at_call 26; go_fit (HH3.out _))
       rintro e y6 ⟨rfl,rfl⟩
       go_wp2_with (go_at_call 6; go_fit (awake17 y5))
       rintro e wz ⟨rfl,hb⟩
       have HBZ:=Lib.hid (below_two' HB1.out (below_two' HB7.out hb))
       clear hb
       go_wp2_with fail
       go_ret
       exact ⟨rfl,HBZ.out⟩
      ·subst k3
       go_wp2_with (go_at_call 18; go_fit (HABk.out _ _ HA4.out))
       rintro e y1 ⟨v,rfl,rfl,hat,hg⟩
       have HA5:=Lib.hid hat
       have HB5:=Lib.hid (at_below HB4.out HB4.out.size hg HBB.out)
       clear hat hg c0 c1 c2 c3
       obtain ⟨c0,c1,c2,c3⟩:=HK.out _ HB5.out
       go_wp2_with (go_at_call 26; go_fit (HH1.out _))
       rintro e y2 ⟨rfl,rfl⟩
       go_wp2_with (go_at_call 19; go_fit (HBLi.out _ _ (.inr HA5.out)))
       rintro e y3 ⟨v,rfl,rfl,hat,hg⟩
       have HA6:=Lib.hid hat
       have HB6:=Lib.hid (at_below HB5.out HB5.out.size hg HBB.out)
       clear hat hg c0 c1 c2 c3
       obtain ⟨c0,c1,c2,c3⟩:=HK.out _ HB6.out
       go_wp2_with (go_at_call 26; go_fit (HH2.out _))
       rintro e y4 ⟨rfl,rfl⟩
       go_wp2_with (go_at_call 18; go_fit (HABi.out _ _ (.inr HA6.out)))
       rintro e y5 ⟨v,rfl,rfl,hat,hg⟩
       have HB7:=Lib.hid (at_below HB6.out HB6.out.size hg HBB.out)
       clear hat hg c0 c1 c2 c3
       go_wp2_with (go_at_call 26; go_fit (HH3.out _))
       rintro e y6 ⟨rfl,rfl⟩
       go_wp2_with (go_at_call 6; go_fit (awake17 y5))
       rintro e wz ⟨rfl,hb⟩
       have HBZ:=Lib.hid (below_two' HB1.out (below_two' HB7.out hb))
       clear hb
       go_wp2_with fail
       go_ret
       exact ⟨rfl,HBZ.out⟩
      ·have hne:((j:Int) == (m:Int)) = false:=by simp; omega
       clear k3
       go_wp2_with (go_at_call 18; go_fit (HABk.out _ _ HA4.out))
       rintro e y1 ⟨v,rfl,rfl,hat,hg⟩
       have HA5:=Lib.hid hat
       have HB5:=Lib.hid (at_below HB4.out HB4.out.size hg HBB.out)
       clear hat hg c0 c1 c2 c3
       obtain ⟨c0,c1,c2,c3⟩:=HK.out _ HB5.out
       go_wp2_with (go_at_call 26; go_fit (HH1.out _))
       rintro e y2 ⟨rfl,rfl⟩
       go_wp2_with (go_at_call 19; go_fit (HBLi.out _ _ (.inr HA5.out)))
       rintro e y3 ⟨v,rfl,rfl,hat,hg⟩
       have HA6:=Lib.hid hat
       have HB6:=Lib.hid (at_below HB5.out HB5.out.size hg HBB.out)
       clear hat hg c0 c1 c2 c3
       obtain ⟨c0,c1,c2,c3⟩:=HK.out _ HB6.out
       go_wp2_with (go_at_call 26; go_fit (HH2.out _))
       rintro e y4 ⟨rfl,rfl⟩
       go_wp2_with (go_at_call 18; go_fit (HABi.out _ _ (.inr HA6.out)))
       rintro e y5 ⟨v,rfl,rfl,hat,hg⟩
       have HB7:=Lib.hid (at_below HB6.out HB6.out.size hg HBB.out)
       clear hat hg c0 c1 c2 c3
       go_wp2_with (go_at_call 26; go_fit (HH3.out _))
       rintro e y6 ⟨rfl,rfl⟩
       go_wp2_with (go_at_call 6; go_fit (awake17 y5))
       rintro e wz ⟨rfl,hb⟩
       have HBZ:=Lib.hid (below_two' HB1.out (below_two' HB7.out hb))
       clear hb
       go_wp2_with fail
       go_ret
       exact ⟨rfl,HBZ.out⟩
     ·rcases (show i < 0 ∨ (¬ i < 0 ∧ (sn:Int) ≤ i) ∨ ((¬ i < 0 ∧ ¬ (sn:Int) ≤ i) ∧ k < 0) ∨ ((¬ i < 0 ∧ ¬ (sn:Int) ≤ i) ∧ ¬ k < 0 ∧ (sn:Int) ≤ k) by omega) with q1 | ⟨q1,q2⟩ | ⟨⟨q1,q2⟩,q3⟩ | ⟨⟨q1,q2⟩,q3,q4⟩
      all_goals
       clear hin hsd
       go_wp2_with (go_at_call 6; go_fit (awake17 w4))
       rintro e wz ⟨rfl,hb⟩
       have HBZ:=Lib.hid (below_two' HB1.out (below_two' HB4.out hb))
       clear hb
       go_wp2_with fail
       go_ret
       exact ⟨rfl,HBZ.out⟩
end
theorem walk_AtlasTurns (x:Cx) (eA:Option Addr) (en ec:Nat) (vA:Option Addr) (vn vc:Nat) (sA:Option Addr) (sn sc:Nat) (i k:Int) (w:World) (h:ChIn w (.slice eA en ec) (.slice vA vn vc) (.slice sA sn sc) x) (hf:FitC x ∧ ∀ v ∈ x.vars,VFit v) (_:(Lit.int .i64 i).wf = true) (_:(Lit.int .i64 k).wf = true) :
 Calls Tryz.prog 4 #[.agg #[.string x.s,.slice eA en ec,.slice vA vn vc,.slice sA sn sc],.int .i64 i,.int .i64 k] w fun e w' => e = .returned (.bool true) ∧ Below w.heap.size w w':=by
 cases hl:lightC x with
 | false => exact turns_no x eA en ec vA vn vc sA sn sc i k w h hf.1 hl
 | true => exact turns_yes x eA en ec vA vn vc sA sn sc i k w h hf.1 hf.2 hl
end Go.Proofs.YtapnomdckglehaaGreat
namespace Go.Proofs.YtapnomdckglehaaGreat
open Go.RowKit Go.ChangeShapes Go.WideShapes Go.Deep
theorem cell_there' {w:World} {b o:Nat} {u:Value} (h:w.cell? ⟨b,o,none⟩ = some u):b < w.heap.size:=by
 rcases Nat.lt_or_ge b w.heap.size with hlt | hge
 ·exact hlt
 ·simp [World.cell?,Array.getElem?_eq_none hge] at h
theorem list_of {α:Type} {R:Nat → α → Prop}:∀ n,(∀ i,i < n → ∃ a,R i a) → ∃ l:List α,l.length = n ∧ ∀ i a,l[i]? = some a → R i a
 | 0,_ => ⟨[],rfl,fun i a h => by simp at h⟩
 | n + 1,h => by
   obtain ⟨l,hl,hR⟩:=list_of n (fun i hi => h i (by omega))
   obtain ⟨a,ha⟩:=h n (by omega)
   refine ⟨l ++ [a],by simp [hl],fun i b hb => ?_⟩
   rcases Nat.lt_or_ge i l.length with hlt | hge
   ·rw [List.getElem?_append_left hlt] at hb
    exact hR i b hb
   ·rw [List.getElem?_append_right hge] at hb
    obtain hi:i - l.length = 0:=by
     have:=(List.getElem?_eq_some_iff.1 hb).1
     simp at this
     omega
    rw [hi] at hb
    simp at hb
    subst hb
    obtain rfl:i = n:=by omega
    exact ha
theorem flat_at {α:Type} {k:Nat} {f:α → List Value} (hf:∀ a,(f a).length = k) (hk:0 < k) {l:List α} {q:Nat} {u:Value} (h:(l.flatMap f)[q]? = some u):∃ a,l[q / k]? = some a ∧ (f a)[q % k]? = some u:=by
 have hq:q < l.length * k:=by have:=(List.getElem?_eq_some_iff.1 h).1; rwa [flat_length hf] at this
 have hi:q / k < l.length:=Nat.div_lt_of_lt_mul (by rwa [Nat.mul_comm] at hq)
 refine ⟨l[q / k],List.getElem?_eq_getElem hi,?_⟩
 rw [← flat_get hf (List.getElem?_eq_getElem hi) (Nat.mod_lt q hk),Nat.mul_comm (q / k) k,Nat.div_add_mod]
 exact h
end Go.Proofs.YtapnomdckglehaaGreat
namespace Go.Proofs.YtapnomdckglehaaGreat
namespace OpenD
open Go.RowKit Go.ChangeShapes Go.WideShapes Go.Deep
set_option maxRecDepth 100000
theorem cells_int:Tryz.prog.cellsOf 3 = 1:=by kernel_rfl
theorem cells_str:Tryz.prog.cellsOf 9 = 1:=by kernel_rfl
section
variable {H:Type} {enc:TypeId × Value → H} {W:World} {base:Nat} {spare:Nat → Bool} {held:Bool}
theorem dec_int {n:Nat} {c:Value} {x:Option (DataW H × List MemPlace)} (h:DataW.trod enc Tryz.prog W base spare held n 3 [c] = x) (hx:x.isSome):∃ k,c = .int .i64 k:=by
 obtain ⟨y,rfl⟩:=Option.isSome_iff_exists.1 hx
 obtain ⟨k,hc,_⟩:=DataW.trod_int Tryz.underlying3 h
 simp at hc
 exact ⟨k,hc⟩
theorem dec_str {n:Nat} {c:Value} {x:Option (DataW H × List MemPlace)} (h:DataW.trod enc Tryz.prog W base spare held n 9 [c] = x) (hx:x.isSome):∃ s:ByteArray,c = .string s ∧ s.size ≤ 9223372036854775807:=by
 obtain ⟨y,rfl⟩:=Option.isSome_iff_exists.1 hx
 obtain ⟨s,hc,_,hs⟩:=DataW.trod_string Tryz.underlying9 h
 simp at hc
 exact ⟨s,hc,hs⟩
theorem some_at {α:Type} {l:List α} {i:Nat} (h:i < l.length):(l[i]?).isSome:=by rw [List.getElem?_eq_getElem h]; rfl
end
end OpenD
end Go.Proofs.YtapnomdckglehaaGreat
namespace Go.Proofs.YtapnomdckglehaaGreat
open Go.RowKit Go.ChangeShapes Go.WideShapes Go.Deep TermSpec OpenD
set_option maxRecDepth 100000
theorem cells_term:Tryz.prog.cellsOf 94 = 3:=by kernel_rfl
section
variable {H:Type} {enc:TypeId × Value → H} {W:World} {base:Nat} {spare:Nat → Bool} {held:Bool}
theorem dec_term (n:Nat) (cs:List Value) (x:DataW H × List MemPlace) (h:DataW.trod enc Tryz.prog W base spare held n 94 cs = some x):∃ t:Tm,cs = tmV t ∧ t.s.size ≤ 9223372036854775807:=by
 obtain ⟨xs,m,_,_,hl,hxl,hg⟩:=DataW.trod_struct Tryz.underlying94 h
 rw [cells_term] at hl
 have hxl':xs.length = 3:=hxl
 match cs,hl with
 | [c0,c1,c2],_ =>
   have g0:DataW.trod enc Tryz.prog W base spare held m 3 (([c0,c1,c2].drop 0).take (Tryz.prog.cellsOf 3)) = xs[0]?:=hg 0 _ rfl
   have g1:DataW.trod enc Tryz.prog W base spare held m 3 (([c0,c1,c2].drop 1).take (Tryz.prog.cellsOf 3)) = xs[1]?:=hg 1 _ rfl
   have g2:DataW.trod enc Tryz.prog W base spare held m 9 (([c0,c1,c2].drop 2).take (Tryz.prog.cellsOf 9)) = xs[2]?:=hg 2 _ rfl
   rw [OpenD.cells_int] at g0 g1
   rw [OpenD.cells_str] at g2
   obtain ⟨a,rfl⟩:=OpenD.dec_int g0 (OpenD.some_at (by omega))
   obtain ⟨b,rfl⟩:=OpenD.dec_int g1 (OpenD.some_at (by omega))
   obtain ⟨s,rfl,hs⟩:=OpenD.dec_str g2 (OpenD.some_at (by omega))
   exact ⟨⟨a,b,s⟩,rfl,hs⟩
variable {b0:Nat} {r:Reach} {v:Value} {d:DataW H} {p:List MemPlace}
end
end Go.Proofs.YtapnomdckglehaaGreat
namespace Go.Proofs.YtapnomdckglehaaGreat
open Go.RowKit Go.ChangeShapes Go.WideShapes Go.Deep TermSpec EvalSpec
set_option maxRecDepth 100000
theorem open_rows_c {α:Type} {f:α → List Value} {Good:α → Prop} {k:Nat} {H:Type} {enc:TypeId × Value → H} {P:Program} {W:World} {base:Nat} {spare:Nat → Bool} {held:Bool} {fuel:Nat} {t e:TypeId} {v:Value} {x:DataW H × List MemPlace}
 (hf:∀ a,(f a).length = k) (hk0:0 < k) (hk:P.cellsOf e = k) (hu:P.underlying t = some (.slice e))
 (hdec:∀ n cs x,DataW.trod enc P W base spare held n e cs = some x → ∃ a,cs = f a ∧ Good a)
 (h:DataW.trod enc P W base spare held fuel t [v] = some x) :
 ∃ (A:Option Addr) (n cp:Nat) (l:List α),v = .slice A n cp ∧ n = l.length ∧ Rdk k W (.slice A n cp) n (l.flatMap f) ∧ (∀ a ∈ l,Good a) ∧ n ≤ 9223372036854775807:=by
 rcases open_slice hu h with ⟨hcs,_⟩ | ⟨a,len,cap,m,n,D,Pl,hcs,hb,hl,hm,hmm,_,hi⟩
 ·cases hcs
  exact ⟨none,0,0,[],rfl,rfl,Rdk.nil k W,by simp,by omega⟩
 ·cases hcs
  rw [hk] at hi
  have hlm:len ≤ m:=by rw [hmm]; split <;> omega
  obtain ⟨l,hll,hR⟩:=list_of (R:=fun i (x:α) => (∀ j,j < k → W.cell? ((a.add (i * k)).add j) = (f x)[j]?) ∧ Good x) len (fun i hlt => by
   obtain ⟨cs',hc,ht⟩:=hi i (by omega)
   obtain ⟨x,rfl,hg⟩:=hdec _ _ _ ht
   obtain ⟨_,_,hat⟩:=World.cells?_some hc
   exact ⟨x,hat,hg⟩)
  refine ⟨some a,len,cap,l,rfl,hll.symm,⟨some a,cap,rfl,hl,by rw [flat_length hf,hll],fun h0 => ?_⟩,fun x hx => ?_,by unfold maxLen at hm; omega⟩
  ·obtain ⟨x,hx0⟩:∃ x,l[0]? = some x:=get_some (by omega)
   obtain ⟨u,hu0⟩:∃ u,(f x)[0]? = some u:=get_some (by rw [hf]; exact hk0)
   obtain ⟨b,off,spot⟩:=a
   have h00:=(hR 0 x hx0).1 0 hk0
   rw [hu0] at h00
   have hspot:spot = none:=by simpa [Addr.add] using World.cell?_spot h00
   subst hspot
   rw [addr_add,addr_add] at h00
   refine ⟨b,off,rfl,cell_there' h00,fun q u hq => ?_⟩
   obtain ⟨y,hy,hu⟩:=flat_at hf hk0 hq
   have:=(hR _ y hy).1 (q % k) (Nat.mod_lt q hk0)
   rw [addr_add,addr_add,Nat.add_assoc,Nat.mul_comm (q / k) k,Nat.div_add_mod,hu] at this
   exact this
  ·obtain ⟨i,hi⟩:=List.mem_iff_getElem?.1 hx
   exact (hR i x hi).2
theorem cells_var:Tryz.prog.cellsOf 68 = 4:=by kernel_rfl
section
variable {H:Type} {enc:TypeId × Value → H} {W:World} {base:Nat} {spare:Nat → Bool} {held:Bool}
variable {b0:Nat} {r:Reach} {v:Value} {d:DataW H} {p:List MemPlace}
end
end Go.Proofs.YtapnomdckglehaaGreat
namespace Go.Proofs.YtapnomdckglehaaGreat
open Go.RowKit Go.ChangeShapes Go.WideShapes Go.Deep TermSpec EvalSpec ActSpec
set_option maxRecDepth 100000
theorem cells_act:Tryz.prog.cellsOf 92 = 3:=by kernel_rfl
theorem cells_bool:Tryz.prog.cellsOf 4 = 1:=by kernel_rfl
theorem cells_trms:Tryz.prog.cellsOf 74 = 1:=by kernel_rfl
theorem wf_i64 {n:Int} (h:(Lit.int .i64 n).wf = true):-9223372036854775808 ≤ n ∧ n ≤ 9223372036854775807:=by
 have e1:IntKind.i64.min = -9223372036854775808:=by kernel_rfl
 have e2:IntKind.i64.max = 9223372036854775807:=by kernel_rfl
 simp [Lit.wf,e1,e2] at h
 exact h
section
variable {H:Type} {enc:TypeId × Value → H} {W:World} {base:Nat} {spare:Nat → Bool} {held:Bool}
theorem dec_int_fit {n:Nat} {c:Value} {x:Option (DataW H × List MemPlace)} (h:DataW.trod enc Tryz.prog W base spare held n 3 [c] = x) (hx:x.isSome):∃ k,c = .int .i64 k ∧ -9223372036854775808 ≤ k ∧ k ≤ 9223372036854775807:=by
 obtain ⟨y,rfl⟩:=Option.isSome_iff_exists.1 hx
 obtain ⟨k,hc,_,hw⟩:=DataW.trod_int Tryz.underlying3 h
 simp at hc
 exact ⟨k,hc,wf_i64 hw⟩
theorem dec_bool {n:Nat} {c:Value} {x:Option (DataW H × List MemPlace)} (h:DataW.trod enc Tryz.prog W base spare held n 4 [c] = x) (hx:x.isSome):∃ b,c = .bool b:=by
 obtain ⟨y,rfl⟩:=Option.isSome_iff_exists.1 hx
 obtain ⟨k,hc,_⟩:=DataW.trod_bool Tryz.underlying4 h
 simp at hc
 exact ⟨k,hc⟩
def GoodAP (W:World) (p:AP):Prop:=p.a.s.size ≤ 9223372036854775807 ∧ Small p.a.x ∧ p.a.x.length ≤ 9223372036854775807 ∧ Tms W (.slice p.xA p.xn p.xc) p.a.x
theorem dec_act (n:Nat) (cs:List Value) (x:DataW H × List MemPlace) (h:DataW.trod enc Tryz.prog W base spare held n 92 cs = some x):∃ p:AP,cs = acV p ∧ GoodAP W p:=by
 obtain ⟨xs,m,_,_,hl,hxl,hg⟩:=DataW.trod_struct Tryz.underlying92 h
 rw [cells_act] at hl
 have hxl':xs.length = 3:=hxl
 match cs,hl with
 | [c0,c1,c2],_ =>
   have g0:DataW.trod enc Tryz.prog W base spare held m 9 (([c0,c1,c2].drop 0).take (Tryz.prog.cellsOf 9)) = xs[0]?:=hg 0 _ rfl
   have g1:DataW.trod enc Tryz.prog W base spare held m 4 (([c0,c1,c2].drop 1).take (Tryz.prog.cellsOf 4)) = xs[1]?:=hg 1 _ rfl
   have g2:DataW.trod enc Tryz.prog W base spare held m 74 (([c0,c1,c2].drop 2).take (Tryz.prog.cellsOf 74)) = xs[2]?:=hg 2 _ rfl
   rw [OpenD.cells_str] at g0
   rw [cells_bool] at g1
   rw [cells_trms] at g2
   obtain ⟨s,rfl,hs⟩:=OpenD.dec_str g0 (OpenD.some_at (by omega))
   obtain ⟨b,rfl⟩:=dec_bool g1 (OpenD.some_at (by omega))
   obtain ⟨y2,e2⟩:=Option.isSome_iff_exists.1 (OpenD.some_at (l:=xs) (i:=2) (by omega))
   rw [e2] at g2
   obtain ⟨A,k,cp,l,rfl,hn,hR,hG,hb⟩:=open_rows_c (v:=c2) (f:=tmV) (Good:=fun t => t.s.size ≤ 9223372036854775807) tmV_length (by decide) cells_term Tryz.underlying74 dec_term g2
   exact ⟨⟨⟨s,b,l⟩,A,k,cp⟩,rfl,hs,hG,by simp only; omega,⟨k,hn,hR⟩⟩
variable {b0:Nat} {r:Reach} {v:Value} {d:DataW H} {p:List MemPlace}
end
end Go.Proofs.YtapnomdckglehaaGreat
namespace Go.Proofs.YtapnomdckglehaaGreat
open Go.RowKit Go.ChangeShapes Go.WideShapes Go.Deep TermSpec EvalSpec ActSpec TransSpec
set_option maxRecDepth 100000
theorem cells_trans:Tryz.prog.cellsOf 76 = 4:=by kernel_rfl
theorem cells_acts:Tryz.prog.cellsOf 69 = 1:=by kernel_rfl
section
variable {H:Type} {enc:TypeId × Value → H} {W:World} {base:Nat} {spare:Nat → Bool} {held:Bool} {b0:Nat} {r:Reach} {v:Value} {d:DataW H} {p:List MemPlace}
end
end Go.Proofs.YtapnomdckglehaaGreat
namespace Go.Proofs.YtapnomdckglehaaGreat
open Go.RowKit Go.ChangeShapes Go.WideShapes Go.Deep ShapeSpec OpenD
set_option maxRecDepth 100000
theorem cells_state:Tryz.prog.cellsOf 72 = 6:=by kernel_rfl
theorem cells_sacts:Tryz.prog.cellsOf 69 = 1:=by kernel_rfl
theorem shcells_strs:Tryz.prog.cellsOf 70 = 1:=by kernel_rfl
section
variable {H:Type} {enc:TypeId × Value → H} {W:World} {base:Nat} {spare:Nat → Bool} {held:Bool}
variable {b0:Nat} {r:Reach} {v:Value} {d:DataW H} {p:List MemPlace}
end
end Go.Proofs.YtapnomdckglehaaGreat