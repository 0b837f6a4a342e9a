/- AtlasTellsLaw, OpenN, OpenD, TermOpen, EvalOpen, joined. -/
import Derived.Test.YtapnomdckglehaaGreatMAtlasTells33
import Derived.Test.YtapnomdckglehaaGreatMAtlasTells35
import Derived.Test.YtapnomdckglehaaGreatMAtlasTells31
import Derived.Test.YtapnomdckglehaaGreatMAtlasTells20
import Derived.Deep.RegionHeld3
import Derived.IntWalk
import Derived.Test.YtapnomdckglehaaGreatMAtlasTells00
import Derived.ProofKit
import Derived.OpenShut
import Derived.Deep.Slices
import Derived.Test.YtapnomdckglehaaGreatRows
import Derived.Lib.SmallJoins
import Derived.Test.YtapnomdckglehaaGreatMAtlasTells03
import Derived.Test.YtapnomdckglehaaGreatMAtlasTells05
namespace Go.Proofs.YtapnomdckglehaaGreat
open Go.RowKit TermSpec EvalSpec ActSpec NamesSpec ExprSpec TransSpec SynSpec CurSpec ShapeSpec GroupSpec AtlasSpec PrintSpec RulesSpec SoundSpec
set_option maxRecDepth 100000
theorem texts_yes17 (v u:Value) (a:List ByteArray) (w:World) (h:Rd w v (strV a)) (h':Rd w u (strV a)) (hm:a.length ≤ 9223372036854775807):Calls Tryz.prog 14 #[v,u] w (RetB w true):=(texts_any v u a a w h h' hm).mono fun e w' k => by
 have:=k.below
 rwa [show sameS a a = true from decide_eq_true rfl] at this
section
variable (x:Cx) (eA:Option Addr) (en ec:Nat) (vA:Option Addr) (vn vc:Nat) (sA:Option Addr) (sn sc:Nat) (i:Int) (s:ByteArray) (w:World) (h:ChIn w (.slice eA en ec) (.slice vA vn vc) (.slice sA sn sc) x) (hf:FitC x) (hv:∀ v ∈ x.vars,VFit v)
include h hf hv
omit hv in
set_option maxRecDepth 100000 in
set_option maxHeartbeats 16000000 in
theorem tells_no (hl:lightC x = false):Calls Tryz.prog 3 #[.agg #[.string x.s,.slice eA en ec,.slice vA vn vc,.slice sA sn sc],.int .i64 i,.string s] w fun e w' => e = .returned (.bool true) ∧ Below w.heap.size w w':=by
 have HL:=Lib.hid (fun W (hW:Below w.heap.size w W) => lightC_any x eA en ec vA vn vc sA sn sc W (h.keep hW) hf)
 rw [hl] at HL
 obtain ⟨nm,hnm⟩:∃ nm,nm = x.s:=⟨_,rfl⟩
 have HNM:Hid (x.s = nm):=Lib.hid hnm.symm
 obtain ⟨W1,hW1⟩:∃ W1,w.alloc (.cells #[.string nm,.slice eA en ec,.slice vA vn vc,.slice sA sn sc] 26) = W1:=⟨_,rfl⟩
 have hb1:Below w.heap.size w W1:=by rw [← hW1]; exact KitC.below_one _ _
 have hk1:W1.heap[w.heap.size]? = some (.cells #[.string nm,.slice eA en ec,.slice vA vn vc,.slice sA sn sc] 26):=by rw [← hW1]; exact heap_alloc_new _ _
 have HK:=Lib.hid (fun W (hW:Below W1.heap.size W1 W) => cells_4 (KitC.block_on hk1 hW))
 have HLT:Hid (w.heap.size < W1.heap.size):=Lib.hid (Array.getElem?_eq_some_iff.1 hk1).1
 have HW1:=Lib.hid hW1
 have HB1:=Lib.hid hb1
 obtain ⟨c0,c1,c2,c3⟩:=cells_4 hk1
 rw [HNM.out] at HL ⊢
 clear h hf hl hnm hW1 hb1 hk1
 go_enter Tryz.func3,Tryz.ntmps3
 go_wp2_with (rw [HW1.out]; go_at_call 5; go_fit (HL.out _ HB1.out))
 rintro e w2 ⟨rfl,hb⟩
 have HB2:=Lib.hid hb
 clear hb c0 c1 c2 c3
 obtain ⟨c0,c1,c2,c3⟩:=HK.out _ HB2.out
 go_wp2_with (go_at_call 6; go_fit (awake17 w2))
 rintro e wz ⟨rfl,hb⟩
 have HBZ:=Lib.hid (below_two' HB1.out (below_two' HB2.out hb))
 clear hb
 go_wp2_with fail
 go_ret
 exact ⟨rfl,HBZ.out⟩
omit hv in
set_option maxRecDepth 100000 in
set_option maxHeartbeats 16000000 in
theorem tells_long (hl:lightC x = true) (hs:100 < s.size):Calls Tryz.prog 3 #[.agg #[.string x.s,.slice eA en ec,.slice vA vn vc,.slice sA sn sc],.int .i64 i,.string s] w fun e w' => e = .returned (.bool true) ∧ Below w.heap.size w w':=by
 have HL:=Lib.hid (fun W (hW:Below w.heap.size w W) => lightC_any x eA en ec vA vn vc sA sn sc W (h.keep hW) hf)
 rw [hl] at HL
 obtain ⟨nm,hnm⟩:∃ nm,nm = x.s:=⟨_,rfl⟩
 have HNM:Hid (x.s = nm):=Lib.hid hnm.symm
 obtain ⟨W1,hW1⟩:∃ W1,w.alloc (.cells #[.string nm,.slice eA en ec,.slice vA vn vc,.slice sA sn sc] 26) = W1:=⟨_,rfl⟩
 have hb1:Below w.heap.size w W1:=by rw [← hW1]; exact KitC.below_one _ _
 have hk1:W1.heap[w.heap.size]? = some (.cells #[.string nm,.slice eA en ec,.slice vA vn vc,.slice sA sn sc] 26):=by rw [← hW1]; exact heap_alloc_new _ _
 have HK:=Lib.hid (fun W (hW:Below W1.heap.size W1 W) => cells_4 (KitC.block_on hk1 hW))
 have HLT:Hid (w.heap.size < W1.heap.size):=Lib.hid (Array.getElem?_eq_some_iff.1 hk1).1
 have HW1:=Lib.hid hW1
 have HB1:=Lib.hid hb1
 obtain ⟨c0,c1,c2,c3⟩:=cells_4 hk1
 have hsI:(100:Int) < (s.size:Int):=by omega
 rw [HNM.out] at HL ⊢
 clear h hf hl hs hnm hW1 hb1 hk1
 go_enter Tryz.func3,Tryz.ntmps3
 go_wp2_with (rw [HW1.out]; go_at_call 5; go_fit (HL.out _ HB1.out))
 rintro e w2 ⟨rfl,hb⟩
 have HB2:=Lib.hid hb
 clear hb c0 c1 c2 c3
 obtain ⟨c0,c1,c2,c3⟩:=HK.out _ HB2.out
 go_wp2_with (go_at_call 6; go_fit (awake17 w2))
 rintro e wz ⟨rfl,hb⟩
 have HBZ:=Lib.hid (below_two' HB1.out (below_two' HB2.out hb))
 clear hb
 go_wp2_with fail
 go_ret
 exact ⟨rfl,HBZ.out⟩
set_option maxRecDepth 100000 in
set_option maxHeartbeats 16000000 in
theorem tells_bad (hl:lightC x = true) (hs:¬ 100 < s.size) (hd:soundC x = false):Calls Tryz.prog 3 #[.agg #[.string x.s,.slice eA en ec,.slice vA vn vc,.slice sA sn sc],.int .i64 i,.string s] w fun e w' => e = .returned (.bool true) ∧ Below w.heap.size w w':=by
 have hlc:=chart_light hl
 have hfr:=fewR_of hlc hf hv
 have hfm:=chart_fit hlc hf
 have HL:=Lib.hid (fun W (hW:Below w.heap.size w W) => lightC_any x eA en ec vA vn vc sA sn sc W (h.keep hW) hf)
 have HIS:=Lib.hid (fun W (hW:Below w.heap.size w W) => rsis_any x eA en ec vA vn vc sA sn sc W (h.keep hW) hfm hfr)
 rw [hl] at HL
 rw [hd] at HIS
 have hsI:¬ (100:Int) < (s.size:Int):=by omega
 have HNW:=Lib.hid (fun W (hW:Below w.heap.size w W) => new_no x eA en ec vA vn vc sA sn sc W (h.keep hW) hfm hfr hd)
 obtain ⟨nm,hnm⟩:∃ nm,nm = x.s:=⟨_,rfl⟩
 have HNM:Hid (x.s = nm):=Lib.hid hnm.symm
 obtain ⟨W1,hW1⟩:∃ W1,w.alloc (.cells #[.string nm,.slice eA en ec,.slice vA vn vc,.slice sA sn sc] 26) = W1:=⟨_,rfl⟩
 have hb1:Below w.heap.size w W1:=by rw [← hW1]; exact KitC.below_one _ _
 have hk1:W1.heap[w.heap.size]? = some (.cells #[.string nm,.slice eA en ec,.slice vA vn vc,.slice sA sn sc] 26):=by rw [← hW1]; exact heap_alloc_new _ _
 have HK:=Lib.hid (fun W (hW:Below W1.heap.size W1 W) => cells_4 (KitC.block_on hk1 hW))
 have HLT:Hid (w.heap.size < W1.heap.size):=Lib.hid (Array.getElem?_eq_some_iff.1 hk1).1
 have HW1:=Lib.hid hW1
 have HB1:=Lib.hid hb1
 obtain ⟨c0,c1,c2,c3⟩:=cells_4 hk1
 rw [HNM.out] at HL HIS HNW ⊢
 clear h hf hv hl hs hd hlc hfr hfm hnm hW1 hb1 hk1
 go_enter Tryz.func3,Tryz.ntmps3
 go_wp2_with (rw [HW1.out]; go_at_call 5; go_fit (HL.out _ HB1.out))
 rintro e w2 ⟨rfl,hb⟩
 have HB2:=Lib.hid hb
 clear hb c0 c1 c2 c3
 obtain ⟨c0,c1,c2,c3⟩:=HK.out _ HB2.out
 go_wp2_with (go_at_call 7; go_fit (HNW.out _ (below_two' HB1.out HB2.out)))
 rintro e w3 ⟨rfl,hb⟩
 have HB3:=Lib.hid (below_two' HB2.out hb)
 clear hb c0 c1 c2 c3
 obtain ⟨c0,c1,c2,c3⟩:=HK.out _ HB3.out
 go_wp2_with (go_at_call 8; go_fit (HIS.out _ (below_two' HB1.out HB3.out)))
 rintro e w4 ⟨rfl,hb⟩
 have HB4:=Lib.hid (below_two' HB3.out hb)
 clear hb c0 c1 c2 c3
 go_wp2_with (go_at_call 6; go_fit (awake17 w4))
 rintro e wz ⟨rfl,hb⟩
 have HBZ:=Lib.hid (below_two' HB1.out (below_two' HB4.out hb))
 clear hb
 go_wp2_with fail
 go_ret
 exact ⟨rfl,HBZ.out⟩
set_option maxRecDepth 100000 in
set_option maxHeartbeats 16000000 in
theorem tells_out (hl:lightC x = true) (hs:¬ 100 < s.size) (hd:soundC x = true) (hi:¬ (0 ≤ i ∧ i < sn)):Calls Tryz.prog 3 #[.agg #[.string x.s,.slice eA en ec,.slice vA vn vc,.slice sA sn sc],.int .i64 i,.string s] w fun e w' => e = .returned (.bool true) ∧ Below w.heap.size w w':=by
 have hlc:=chart_light hl
 have hfr:=fewR_of hlc hf hv
 have hfm:=chart_fit hlc hf
 have HL:=Lib.hid (fun W (hW:Below w.heap.size w W) => lightC_any x eA en ec vA vn vc sA sn sc W (h.keep hW) hf)
 have HIS:=Lib.hid (fun W (hW:Below w.heap.size w W) => rsis_any x eA en ec vA vn vc sA sn sc W (h.keep hW) hfm hfr)
 rw [hl] at HL
 rw [hd] at HIS
 have hsI:¬ (100:Int) < (s.size:Int):=by omega
 have hmc:mayC x = true:=by
  unfold soundC at hd
  rw [Bool.and_eq_true] at hd
  exact hd.1
 have hck:=(mayR_of hmc).2
 have hev:x.evs.length ≤ 1000000:=by have:=hfr.evl; omega
 have hsn:=h.sts.len.1
 have h60:sn ≤ 60:=by have:=(chk_ok hck).1; rw [List.length_map] at this; omega
 have HNW:=Lib.hid (fun W (hW:Below w.heap.size w W) => new_yes x eA en ec vA vn vc sA sn sc W (h.keep hW) hfm hfr hd)
 have HGD:=Lib.hid (fun B W (hA:AtIn W B x) => AtIn.good B x W hA)
 have HCT:=Lib.hid (fun B W (hA:AtIn W B x) => chart17 B x W hA hfr)
 have HSM:=Lib.hid (fun (fA:Option Addr) (fc:Nat) (uA:Option Addr) (uc:Nat) (rA:Option Addr) (rc:Nat) W (hW:Below w.heap.size w W) (hT:ChIn W (.slice fA x.evs.length fc) (.slice uA x.vars.length uc) (.slice rA x.sts.length rc) x) => csame_any x x true (by simp) fA x.evs.length fc uA x.vars.length uc rA x.sts.length rc eA en ec vA vn vc sA sn sc W hT (h.keep hW) (chart_few hlc))
 have HPL:=Lib.hid (fun B W (hA:AtIn W B x) => place17 B x W hA hck hev s)
 have HRP:=Lib.hid (fun W (hW:Below w.heap.size w W) => rplace17 x eA en ec vA vn vc sA sn sc W (h.keep hW) s (by omega))
 have HEV:=Lib.hid (fun B W (hA:AtIn W B x) => events17 B x W hA hck hev)
 have HRE:=Lib.hid (fun W (hW:Below w.heap.size w W) => revents17 x eA en ec vA vn vc sA sn sc W (h.keep hW) hev)
 have HKI:=Lib.hid (fun B W (hA:AtIn W B x) => kids17 B x W hA hck hev i)
 have HAB:=Lib.hid (fun B W (hA:AtIn W B x) => above17 B x W hA hck hev i)
 have HBL:=Lib.hid (fun B W (hA:AtIn W B x) => below17 B x W hA hck hev i)
 have HDP:=Lib.hid (fun B W (hA:AtIn W B x) => depth17 B x W hA hck hev i)
 obtain ⟨pI,hpI⟩:∃ pI,pI = Go.Lib.idxOfS (x.sts.map (·.s)) s:=⟨_,rfl⟩
 obtain ⟨es,hes⟩:∃ es,es = un x.evs []:=⟨_,rfl⟩
 have HEL:Hid (es.length ≤ 9223372036854775807):=Lib.hid (by rw [hes]; have:=un_length x.evs []; simp at this; omega)
 rw [← hpI] at HPL HRP
 rw [← hes] at HEV HRE
 obtain ⟨t1,t2,t3,t4⟩:=rowTb_out (l:=x.sts.map shOf) (i:=i) (by rw [List.length_map,← hsn]; exact hi)
 rw [t1] at HKI
 rw [t2] at HAB
 rw [t3] at HBL
 rw [t4] at HDP
 obtain ⟨nm,hnm⟩:∃ nm,nm = x.s:=⟨_,rfl⟩
 have HNM:Hid (x.s = nm):=Lib.hid hnm.symm
 obtain ⟨W1,hW1⟩:∃ W1,w.alloc (.cells #[.string nm,.slice eA en ec,.slice vA vn vc,.slice sA sn sc] 26) = W1:=⟨_,rfl⟩
 have hb1:Below w.heap.size w W1:=by rw [← hW1]; exact KitC.below_one _ _
 have hk1:W1.heap[w.heap.size]? = some (.cells #[.string nm,.slice eA en ec,.slice vA vn vc,.slice sA sn sc] 26):=by rw [← hW1]; exact heap_alloc_new _ _
 have HK:=Lib.hid (fun W (hW:Below W1.heap.size W1 W) => cells_4 (KitC.block_on hk1 hW))
 have HLT:Hid (w.heap.size < W1.heap.size):=Lib.hid (Array.getElem?_eq_some_iff.1 hk1).1
 have HW1:=Lib.hid hW1
 have HB1:=Lib.hid hb1
 obtain ⟨c0,c1,c2,c3⟩:=cells_4 hk1
 rw [HNM.out] at HL HIS HNW HSM HRP HRE ⊢
 clear h hf hv hl hs hd hlc hfr hfm hmc hck hev hnm hW1 hb1 hk1 hpI hes hsn t1 t2 t3 t4
 go_enter Tryz.func3,Tryz.ntmps3
 go_wp2_with (rw [HW1.out]; go_at_call 5; go_fit (HL.out _ HB1.out))
 rintro e w2 ⟨rfl,hb⟩
 have HB2:=Lib.hid hb
 clear hb c0 c1 c2 c3
 obtain ⟨c0,c1,c2,c3⟩:=HK.out _ HB2.out
 go_wp2_with (go_at_call 7; go_fit (HNW.out _ (below_two' HB1.out HB2.out)))
 rintro e w3 ⟨B,rfl,hat,hB,hb⟩
 have HA3:=Lib.hid hat
 have HBB:Hid (W1.heap.size ≤ B):=Lib.hid (Nat.le_trans HB2.out.size hB)
 have HB3:=Lib.hid (below_two' HB2.out hb)
 clear hat hB hb c0 c1 c2 c3
 obtain ⟨c0,c1,c2,c3⟩:=HK.out _ HB3.out
 go_wp2_with (go_at_call 8; go_fit (HIS.out _ (below_two' HB1.out HB3.out)))
 rintro e w4 ⟨rfl,hb⟩
 have HA4:=Lib.hid (HA3.out.keep hb)
 have HB4:=Lib.hid (below_two' HB3.out hb)
 clear hb c0 c1 c2 c3
 obtain ⟨c0,c1,c2,c3⟩:=HK.out _ HB4.out
 have hdr:Below W1.heap.size W1 w4.drew:=HB4.out.drew
 have hdA:AtIn w4.drew B x:=HA4.out.keep ((Below.refl _ _).drew)
 go_wp2_with fail
 go_region_held3 (fun w' => w'.cell? ⟨w.heap.size,0,none⟩ = some (.string nm) ∧ w'.cell? ⟨w.heap.size,1,none⟩ = some (.slice eA en ec) ∧ w'.cell? ⟨w.heap.size,2,none⟩ = some (.slice vA vn vc) ∧ w'.cell? ⟨w.heap.size,3,none⟩ = some (.slice sA sn sc)) (go_keep)
  ((first
    | (go_at_call 9; (with_reducible refine (HGD.out _ _ hdA).mono ?_); rintro e y1 ⟨rfl,rfl⟩)
    | (go_at_call 11; (with_reducible refine (HCT.out _ _ hdA).mono ?_); rintro e y2 ⟨fA,fc,uA,uc,rA,rc,rfl,hch,b2⟩; have f2:=below_two' hdr b2; have a2:=hdA.keep b2; obtain ⟨x20,x21,x22,x23⟩:=HK.out _ f2; rw [HNM.out])
    | (go_at_call 10; (with_reducible refine (HSM.out _ _ _ _ _ _ _ (below_two' HB1.out f2) hch.now).mono ?_); rintro e y3 ⟨rfl,b3⟩; have f3:=below_two' f2 b3; have a3:=a2.keep b3; obtain ⟨x30,x31,x32,x33⟩:=HK.out _ f3)
    | (go_at_call 12; (with_reducible refine (HPL.out _ _ a3).mono ?_); rintro e y4 ⟨v4,rfl,rfl,d4,g4⟩; have f4:=at_below f3 f3.size g4 HBB.out; obtain ⟨x40,x41,x42,x43⟩:=HK.out _ f4)
    | (go_at_call 13; (with_reducible refine (HRP.out _ (below_two' HB1.out f4)).mono ?_); rintro e y5 ⟨rfl,b5⟩; have f5:=below_two' f4 b5; have a5:AtIn y5 B x:=.inr (d4.keep b5); obtain ⟨x50,x51,x52,x53⟩:=HK.out _ f5)
    | (go_at_call 15; (with_reducible refine (HEV.out _ _ a5).mono ?_); rintro e y6 ⟨v6,rfl,r6',d6,g6⟩; have r6:Rd y6 v6 (strV es):=r6'; clear r6'; have f6:=at_below f5 f5.size g6 HBB.out; obtain ⟨x60,x61,x62,x63⟩:=HK.out _ f6)
    | (go_at_call 16; (with_reducible refine (HRE.out _ (below_two' HB1.out f6)).mono ?_); rintro e y7 ⟨v7,rfl,r7,b7⟩; have f7:=below_two' f6 b7; have a7:AtIn y7 B x:=.inr (d6.keep b7); obtain ⟨x70,x71,x72,x73⟩:=HK.out _ f7)
    | (go_at_call 14; (with_reducible refine (texts_yes17 _ _ es _ (Rd.keep r6 b7) r7 HEL.out).mono ?_); rintro e y8 ⟨rfl,b8⟩; have f8:=below_two' f7 b8; have a8:=a7.keep b8; obtain ⟨x80,x81,x82,x83⟩:=HK.out _ f8)))
 all_goals
  have HA8:=Lib.hid a8
  have HB8:=Lib.hid f8
  clear a8 f8 hdr hdA hch b2 f2 a2 b3 f3 a3 d4 g4 f4 b5 f5 a5 r6 d6 g6 f6 r7 b7 f7 a7 b8 x20 x21 x22 x23 x30 x31 x32 x33 x40 x41 x42 x43 x50 x51 x52 x53 x60 x61 x62 x63 x70 x71 x72 x73 c0 c1 c2 c3
  rcases (show i < 0 ∨ (¬ i < 0 ∧ (sn:Int) ≤ i) by omega) with hi0 | ⟨hi0,hi1⟩
  all_goals
   clear hi
   go_wp2_with (go_at_call 17; go_fit (HKI.out _ _ HA8.out))
   rintro e w9 ⟨v,rfl,hr,hat,hg⟩
   obtain ⟨A9,n9,c9,rfl,hn9,-⟩:=hr.ints
   obtain rfl:n9 = 0:=hn9.symm
   have HA9:=Lib.hid hat
   have HB9:=Lib.hid (at_below HB8.out HB8.out.size hg HBB.out)
   clear hat hg hr x80 x81 x82 x83
   go_wp2_with (go_at_call 18; go_fit (HAB.out _ _ (.inr HA9.out)))
   rintro e wa ⟨v,rfl,rfl,hat,hg⟩
   have HAA:=Lib.hid hat
   have HBA:=Lib.hid (at_below HB9.out HB9.out.size hg HBB.out)
   clear hat hg
   go_wp2_with (go_at_call 19; go_fit (HBL.out _ _ (.inr HAA.out)))
   rintro e wb ⟨v,rfl,rfl,hat,hg⟩
   have HAB2:=Lib.hid hat
   have HBB2:=Lib.hid (at_below HBA.out HBA.out.size hg HBB.out)
   clear hat hg
   go_wp2_with (go_at_call 20; go_fit (HDP.out _ _ (.inr HAB2.out)))
   rintro e wc ⟨v,rfl,rfl,hat,hg⟩
   have HBC:=Lib.hid (at_below HBB2.out HBB2.out.size hg HBB.out)
   clear hat hg
   go_wp2_with (go_at_call 6; go_fit (awake17 wc))
   rintro e wz ⟨rfl,hb⟩
   have HBZ:=Lib.hid (below_two' HB1.out (below_two' HBC.out hb))
   clear hb
   go_wp2_with fail
   go_ret
   exact ⟨rfl,HBZ.out⟩
set_option maxRecDepth 100000 in
set_option maxHeartbeats 16000000 in
theorem tells_in (hl:lightC x = true) (hs:¬ 100 < s.size) (hd:soundC x = true) (j:Nat) (hij:i = (j:Int)) (hj:j < sn):Calls Tryz.prog 3 #[.agg #[.string x.s,.slice eA en ec,.slice vA vn vc,.slice sA sn sc],.int .i64 i,.string s] w fun e w' => e = .returned (.bool true) ∧ Below w.heap.size w w':=by
 have hlc:=chart_light hl
 have hfr:=fewR_of hlc hf hv
 have hfm:=chart_fit hlc hf
 have HL:=Lib.hid (fun W (hW:Below w.heap.size w W) => lightC_any x eA en ec vA vn vc sA sn sc W (h.keep hW) hf)
 have HIS:=Lib.hid (fun W (hW:Below w.heap.size w W) => rsis_any x eA en ec vA vn vc sA sn sc W (h.keep hW) hfm hfr)
 rw [hl] at HL
 rw [hd] at HIS
 have hsI:¬ (100:Int) < (s.size:Int):=by omega
 have hmc:mayC x = true:=by
  unfold soundC at hd
  rw [Bool.and_eq_true] at hd
  exact hd.1
 have hck:=(mayR_of hmc).2
 have hev:x.evs.length ≤ 1000000:=by have:=hfr.evl; omega
 have hsn:=h.sts.len.1
 have h60:sn ≤ 60:=by have:=(chk_ok hck).1; rw [List.length_map] at this; omega
 have HNW:=Lib.hid (fun W (hW:Below w.heap.size w W) => new_yes x eA en ec vA vn vc sA sn sc W (h.keep hW) hfm hfr hd)
 have HGD:=Lib.hid (fun B W (hA:AtIn W B x) => AtIn.good B x W hA)
 have HCT:=Lib.hid (fun B W (hA:AtIn W B x) => chart17 B x W hA hfr)
 have HSM:=Lib.hid (fun (fA:Option Addr) (fc:Nat) (uA:Option Addr) (uc:Nat) (rA:Option Addr) (rc:Nat) W (hW:Below w.heap.size w W) (hT:ChIn W (.slice fA x.evs.length fc) (.slice uA x.vars.length uc) (.slice rA x.sts.length rc) x) => csame_any x x true (by simp) fA x.evs.length fc uA x.vars.length uc rA x.sts.length rc eA en ec vA vn vc sA sn sc W hT (h.keep hW) (chart_few hlc))
 have HPL:=Lib.hid (fun B W (hA:AtIn W B x) => place17 B x W hA hck hev s)
 have HRP:=Lib.hid (fun W (hW:Below w.heap.size w W) => rplace17 x eA en ec vA vn vc sA sn sc W (h.keep hW) s (by omega))
 have HEV:=Lib.hid (fun B W (hA:AtIn W B x) => events17 B x W hA hck hev)
 have HRE:=Lib.hid (fun W (hW:Below w.heap.size w W) => revents17 x eA en ec vA vn vc sA sn sc W (h.keep hW) hev)
 have HKI:=Lib.hid (fun B W (hA:AtIn W B x) => kids17 B x W hA hck hev i)
 have HAB:=Lib.hid (fun B W (hA:AtIn W B x) => above17 B x W hA hck hev i)
 have HBL:=Lib.hid (fun B W (hA:AtIn W B x) => below17 B x W hA hck hev i)
 have HDP:=Lib.hid (fun B W (hA:AtIn W B x) => depth17 B x W hA hck hev i)
 obtain ⟨pI,hpI⟩:∃ pI,pI = Go.Lib.idxOfS (x.sts.map (·.s)) s:=⟨_,rfl⟩
 obtain ⟨es,hes⟩:∃ es,es = un x.evs []:=⟨_,rfl⟩
 have HEL:Hid (es.length ≤ 9223372036854775807):=Lib.hid (by rw [hes]; have:=un_length x.evs []; simp at this; omega)
 rw [← hpI] at HPL HRP
 rw [← hes] at HEV HRE
 have hjl:j < (x.sts.map shOf).length:=by rw [List.length_map,← hsn]; exact hj
 subst hij
 rw [kidsTb_in hjl] at HKI
 rw [aboveTb_in hjl] at HAB
 rw [belowTb_in hjl] at HBL
 rw [depthTb_in hjl] at HDP
 have hsu:SU (x.sts.map shOf) sn:=by have:=chk_su hck; rwa [List.length_map,← hsn] at this
 have HRK:=Lib.hid (fun W (hW:Below w.heap.size w W) => rshkids_any sA sn sc (x.sts.map shOf) j W ((h.sts.keep hW).sts) (by omega))
 have HRA:=Lib.hid (fun W (hW:Below w.heap.size w W) => rabove17 x eA en ec vA vn vc sA sn sc W (h.keep hW) hsu h60 j hj)
 have HRB:=Lib.hid (fun W (hW:Below w.heap.size w W) => rbelow17 x eA en ec vA vn vc sA sn sc W (h.keep hW) hsu h60 j)
 have HRU:=Lib.hid (fun W (hW:Below w.heap.size w W) => rabove_any sA sn sc sn (x.sts.map shOf) j W ((h.sts.keep hW).sts) hsu hj (Nat.le_refl _) (by omega))
 have hul:=up_length_le (x.sts.map shOf) j
 have hkl:(kids (x.sts.map shOf) j).length ≤ 60:=by have:=kids_le (x.sts.map shOf) j (x.sts.map shOf).length; unfold kids; rw [List.length_map] at this ⊢; omega
 have hupl:=upI_length (x.sts.map shOf) j
 obtain ⟨ks,hks⟩:∃ ks,ks = kids (x.sts.map shOf) j:=⟨_,rfl⟩
 obtain ⟨ga,hga⟩:∃ ga,ga = abG (x.sts.map shOf) j:=⟨_,rfl⟩
 obtain ⟨gb,hgb⟩:∃ gb,gb = beG (x.sts.map shOf) j:=⟨_,rfl⟩
 obtain ⟨us,hus⟩:∃ us,us = upI (x.sts.map shOf) j:=⟨_,rfl⟩
 obtain ⟨dp,hdp⟩:∃ dp,dp = (up (x.sts.map shOf) j).length:=⟨_,rfl⟩
 rw [← hks] at HKI HRK hkl
 rw [← hga] at HAB HRA
 rw [← hgb] at HBL HRB
 rw [← hus] at HRU hupl
 rw [← hdp] at HDP hupl hul
 rw [show ((dp + 1:Nat):Int) = (dp:Int) + 1 from Int.natCast_succ dp] at HDP
 have hdp60:dp ≤ 60:=by omega
 have HDL:=Lib.hid hupl
 have HWR:Hid (IntKind.i64.wrap ((dp:Int) + 1) = (dp:Int) + 1):=Lib.hid (IntWalk.i64_in _ (by omega))
 have HKL:Hid (ks.length ≤ 9223372036854775807):=Lib.hid (by omega)
 obtain ⟨nm,hnm⟩:∃ nm,nm = x.s:=⟨_,rfl⟩
 have HNM:Hid (x.s = nm):=Lib.hid hnm.symm
 obtain ⟨W1,hW1⟩:∃ W1,w.alloc (.cells #[.string nm,.slice eA en ec,.slice vA vn vc,.slice sA sn sc] 26) = W1:=⟨_,rfl⟩
 have hb1:Below w.heap.size w W1:=by rw [← hW1]; exact KitC.below_one _ _
 have hk1:W1.heap[w.heap.size]? = some (.cells #[.string nm,.slice eA en ec,.slice vA vn vc,.slice sA sn sc] 26):=by rw [← hW1]; exact heap_alloc_new _ _
 have HK:=Lib.hid (fun W (hW:Below W1.heap.size W1 W) => cells_4 (KitC.block_on hk1 hW))
 have HLT:Hid (w.heap.size < W1.heap.size):=Lib.hid (Array.getElem?_eq_some_iff.1 hk1).1
 have HW1:=Lib.hid hW1
 have HB1:=Lib.hid hb1
 obtain ⟨c0,c1,c2,c3⟩:=cells_4 hk1
 rw [HNM.out] at HL HIS HNW HSM HRP HRE HRA HRB ⊢
 have hjI:(j:Int) < (sn:Int):=by omega
 have hj1:¬ (sn:Int) ≤ (j:Int):=by omega
 clear h hf hv hl hs hd hlc hfr hfm hmc hck hev hnm hW1 hb1 hk1 hpI hes hsn hjl hsu hul hkl hupl hks hga hgb hus hdp
 go_enter Tryz.func3,Tryz.ntmps3
 go_wp2_with (rw [HW1.out]; go_at_call 5; go_fit (HL.out _ HB1.out))
 rintro e w2 ⟨rfl,hb⟩
 have HB2:=Lib.hid hb
 clear hb c0 c1 c2 c3
 obtain ⟨c0,c1,c2,c3⟩:=HK.out _ HB2.out
 go_wp2_with (go_at_call 7; go_fit (HNW.out _ (below_two' HB1.out HB2.out)))
 rintro e w3 ⟨B,rfl,hat,hB,hb⟩
 have HA3:=Lib.hid hat
 have HBB:Hid (W1.heap.size ≤ B):=Lib.hid (Nat.le_trans HB2.out.size hB)
 have HB3:=Lib.hid (below_two' HB2.out hb)
 clear hat hB hb c0 c1 c2 c3
 obtain ⟨c0,c1,c2,c3⟩:=HK.out _ HB3.out
 go_wp2_with (go_at_call 8; go_fit (HIS.out _ (below_two' HB1.out HB3.out)))
 rintro e w4 ⟨rfl,hb⟩
 have HA4:=Lib.hid (HA3.out.keep hb)
 have HB4:=Lib.hid (below_two' HB3.out hb)
 clear hb c0 c1 c2 c3
 obtain ⟨c0,c1,c2,c3⟩:=HK.out _ HB4.out
 have hdr:Below W1.heap.size W1 w4.drew:=HB4.out.drew
 have hdA:AtIn w4.drew B x:=HA4.out.keep ((Below.refl _ _).drew)
 go_wp2_with fail
 go_region_held3 (fun w' => w'.cell? ⟨w.heap.size,0,none⟩ = some (.string nm) ∧ w'.cell? ⟨w.heap.size,1,none⟩ = some (.slice eA en ec) ∧ w'.cell? ⟨w.heap.size,2,none⟩ = some (.slice vA vn vc) ∧ w'.cell? ⟨w.heap.size,3,none⟩ = some (.slice sA sn sc)) (go_keep)
  ((first
    | (go_at_call 9; (with_reducible refine (HGD.out _ _ hdA).mono ?_); rintro e y1 ⟨rfl,rfl⟩)
    | (go_at_call 11; (with_reducible refine (HCT.out _ _ hdA).mono ?_); rintro e y2 ⟨fA,fc,uA,uc,rA,rc,rfl,hch,b2⟩; have f2:=below_two' hdr b2; have a2:=hdA.keep b2; obtain ⟨x20,x21,x22,x23⟩:=HK.out _ f2; rw [HNM.out])
    | (go_at_call 10; (with_reducible refine (HSM.out _ _ _ _ _ _ _ (below_two' HB1.out f2) hch.now).mono ?_); rintro e y3 ⟨rfl,b3⟩; have f3:=below_two' f2 b3; have a3:=a2.keep b3; obtain ⟨x30,x31,x32,x33⟩:=HK.out _ f3)
    | (go_at_call 12; (with_reducible refine (HPL.out _ _ a3).mono ?_); rintro e y4 ⟨v4,rfl,rfl,d4,g4⟩; have f4:=at_below f3 f3.size g4 HBB.out; obtain ⟨x40,x41,x42,x43⟩:=HK.out _ f4)
    | (go_at_call 13; (with_reducible refine (HRP.out _ (below_two' HB1.out f4)).mono ?_); rintro e y5 ⟨rfl,b5⟩; have f5:=below_two' f4 b5; have a5:AtIn y5 B x:=.inr (d4.keep b5); obtain ⟨x50,x51,x52,x53⟩:=HK.out _ f5)
    | (go_at_call 15; (with_reducible refine (HEV.out _ _ a5).mono ?_); rintro e y6 ⟨v6,rfl,r6',d6,g6⟩; have r6:Rd y6 v6 (strV es):=r6'; clear r6'; have f6:=at_below f5 f5.size g6 HBB.out; obtain ⟨x60,x61,x62,x63⟩:=HK.out _ f6)
    | (go_at_call 16; (with_reducible refine (HRE.out _ (below_two' HB1.out f6)).mono ?_); rintro e y7 ⟨v7,rfl,r7,b7⟩; have f7:=below_two' f6 b7; have a7:AtIn y7 B x:=.inr (d6.keep b7); obtain ⟨x70,x71,x72,x73⟩:=HK.out _ f7)
    | (go_at_call 14; (with_reducible refine (texts_yes17 _ _ es _ (Rd.keep r6 b7) r7 HEL.out).mono ?_); rintro e y8 ⟨rfl,b8⟩; have f8:=below_two' f7 b8; have a8:=a7.keep b8; obtain ⟨x80,x81,x82,x83⟩:=HK.out _ f8)))
 all_goals
  have HA8:=Lib.hid a8
  have HB8:=Lib.hid f8
  clear a8 f8 hdr hdA hch b2 f2 a2 b3 f3 a3 d4 g4 f4 b5 f5 a5 r6 d6 g6 f6 r7 b7 f7 a7 b8 x20 x21 x22 x23 x30 x31 x32 x33 x40 x41 x42 x43 x50 x51 x52 x53 x60 x61 x62 x63 x70 x71 x72 x73 c0 c1 c2 c3
  go_wp2_with fail
  have hwr:=HWR.out
  have hdr:Below W1.heap.size W1 y8.drew:=HB8.out.drew
  have hdA:AtIn y8.drew B x:=HA8.out.keep ((Below.refl _ _).drew)
  go_region_held3 (fun w' => w'.cell? ⟨w.heap.size,0,none⟩ = some (.string nm) ∧ w'.cell? ⟨w.heap.size,1,none⟩ = some (.slice eA en ec) ∧ w'.cell? ⟨w.heap.size,2,none⟩ = some (.slice vA vn vc) ∧ w'.cell? ⟨w.heap.size,3,none⟩ = some (.slice sA sn sc)) (go_keep)
   ((first
     | (go_at_call 17; (with_reducible refine (HKI.out _ _ hdA).mono ?_); rintro e y1 ⟨v1,rfl,r1,d1,g1⟩; have f1:=at_below hdr hdr.size g1 HBB.out; obtain ⟨z10,z11,z12,z13⟩:=HK.out _ f1)
     | (go_at_call 22; (with_reducible refine (HRK.out _ (below_two' HB1.out f1)).mono ?_); rintro e y2 ⟨v2,rfl,r2,b2⟩; have f2:=below_two' f1 b2; have a2:AtIn y2 B x:=.inr (d1.keep b2); obtain ⟨z20,z21,z22,z23⟩:=HK.out _ f2)
     | (go_at_call 21; (with_reducible refine (same_yes _ _ ks _ (Rd.keep r1 b2) r2 HKL.out).mono ?_); rintro e y3 ⟨rfl,b3⟩; have f3:=below_two' f2 b3; have a3:=a2.keep b3; obtain ⟨z30,z31,z32,z33⟩:=HK.out _ f3)
     | (go_at_call 18; (with_reducible refine (HAB.out _ _ a3).mono ?_); rintro e y4 ⟨v4,rfl,rfl,d4,g4⟩; have f4:=at_below f3 f3.size g4 HBB.out; obtain ⟨z40,z41,z42,z43⟩:=HK.out _ f4)
     | (go_at_call 23; (with_reducible refine (HRA.out _ (below_two' HB1.out f4)).mono ?_); rintro e y5 ⟨rfl,b5⟩; have f5:=below_two' f4 b5; have a5:AtIn y5 B x:=.inr (d4.keep b5); obtain ⟨z50,z51,z52,z53⟩:=HK.out _ f5)
     | (go_at_call 19; (with_reducible refine (HBL.out _ _ a5).mono ?_); rintro e y6 ⟨v6,rfl,rfl,d6,g6⟩; have f6:=at_below f5 f5.size g6 HBB.out; obtain ⟨z60,z61,z62,z63⟩:=HK.out _ f6)
     | (go_at_call 24; (with_reducible refine (HRB.out _ (below_two' HB1.out f6)).mono ?_); rintro e y7 ⟨rfl,b7⟩; have f7:=below_two' f6 b7; have a7:AtIn y7 B x:=.inr (d6.keep b7); obtain ⟨z70,z71,z72,z73⟩:=HK.out _ f7)
     | (go_at_call 20; (with_reducible refine (HDP.out _ _ a7).mono ?_); rintro e q8 ⟨v8,rfl,rfl,d8,g8⟩; have f8:=at_below f7 f7.size g8 HBB.out; obtain ⟨z80,z81,z82,z83⟩:=HK.out _ f8)
     | (go_at_call 25; (with_reducible refine (HRU.out _ (below_two' HB1.out f8)).mono ?_); rintro e q9 ⟨v9,rfl,r9,b9⟩; obtain ⟨A9,n9,c9,rfl,hn9,-⟩:=r9.ints; obtain rfl:n9 = dp:=hn9.symm.trans HDL.out; have f9:=below_two' f8 b9; obtain ⟨z90,z91,z92,z93⟩:=HK.out _ f9)
     | (go_at_call 6; (with_reducible refine (awake17 _).mono ?_); rintro e qz ⟨rfl,bz⟩; have fz:=below_two' f9 bz; obtain ⟨zz0,zz1,zz2,zz3⟩:=HK.out _ fz)))
  all_goals
   have HBZ:=Lib.hid (below_two' HB1.out fz)
   go_wp2_with fail
   go_ret
   exact ⟨rfl,HBZ.out⟩
end
theorem walk_AtlasTells (x:Cx) (eA:Option Addr) (en ec:Nat) (vA:Option Addr) (vn vc:Nat) (sA:Option Addr) (sn sc:Nat) (i:Int) (s:ByteArray) (w:World) (h:ChIn w (.slice eA en ec) (.slice vA vn vc) (.slice sA sn sc) x) (hf:FitC x ∧ ∀ v ∈ x.vars,VFit v) (_:(Lit.int .i64 i).wf = true) (_:s.size ≤ 9223372036854775807) :
 Calls Tryz.prog 3 #[.agg #[.string x.s,.slice eA en ec,.slice vA vn vc,.slice sA sn sc],.int .i64 i,.string s] w fun e w' => e = .returned (.bool true) ∧ Below w.heap.size w w':=by
 cases hl:lightC x with
 | false => exact tells_no x eA en ec vA vn vc sA sn sc i s w h hf.1 hl
 | true =>
   by_cases hs:100 < s.size
   ·exact tells_long x eA en ec vA vn vc sA sn sc i s w h hf.1 hl hs
   cases hd:soundC x with
   | false => exact tells_bad x eA en ec vA vn vc sA sn sc i s w h hf.1 hf.2 hl hs hd
   | true =>
     by_cases hi:0 ≤ i ∧ i < sn
     ·obtain ⟨j,rfl⟩:=Int.eq_ofNat_of_zero_le hi.1
      exact tells_in x eA en ec vA vn vc sA sn sc _ s w h hf.1 hf.2 hl hs hd j rfl (by omega)
     ·exact tells_out x eA en ec vA vn vc sA sn sc i s w h hf.1 hf.2 hl hs hd hi
end Go.Proofs.YtapnomdckglehaaGreat
namespace Go.Proofs.YtapnomdckglehaaGreat
open Go.RowKit Go.ChangeShapes Go.WideShapes Go.Deep
theorem cell_there' {w:World} {b o:Nat} {u:Value} (h:w.cell? ⟨b,o,none⟩ = some u):b < w.heap.size:=by
 rcases Nat.lt_or_ge b w.heap.size with hlt | hge
 ·exact hlt
 ·simp [World.cell?,Array.getElem?_eq_none hge] at h
theorem list_of {α:Type} {R:Nat → α → Prop}:∀ n,(∀ i,i < n → ∃ a,R i a) → ∃ l:List α,l.length = n ∧ ∀ i a,l[i]? = some a → R i a
 | 0,_ => ⟨[],rfl,fun i a h => by simp at h⟩
 | n + 1,h => by
   obtain ⟨l,hl,hR⟩:=list_of n (fun i hi => h i (by omega))
   obtain ⟨a,ha⟩:=h n (by omega)
   refine ⟨l ++ [a],by simp [hl],fun i b hb => ?_⟩
   rcases Nat.lt_or_ge i l.length with hlt | hge
   ·rw [List.getElem?_append_left hlt] at hb
    exact hR i b hb
   ·rw [List.getElem?_append_right hge] at hb
    obtain hi:i - l.length = 0:=by
     have:=(List.getElem?_eq_some_iff.1 hb).1
     simp at this
     omega
    rw [hi] at hb
    simp at hb
    subst hb
    obtain rfl:i = n:=by omega
    exact ha
theorem flat_at {α:Type} {k:Nat} {f:α → List Value} (hf:∀ a,(f a).length = k) (hk:0 < k) {l:List α} {q:Nat} {u:Value} (h:(l.flatMap f)[q]? = some u):∃ a,l[q / k]? = some a ∧ (f a)[q % k]? = some u:=by
 have hq:q < l.length * k:=by have:=(List.getElem?_eq_some_iff.1 h).1; rwa [flat_length hf] at this
 have hi:q / k < l.length:=Nat.div_lt_of_lt_mul (by rwa [Nat.mul_comm] at hq)
 refine ⟨l[q / k],List.getElem?_eq_getElem hi,?_⟩
 rw [← flat_get hf (List.getElem?_eq_getElem hi) (Nat.mod_lt q hk),Nat.mul_comm (q / k) k,Nat.div_add_mod]
 exact h
end Go.Proofs.YtapnomdckglehaaGreat
namespace Go.Proofs.YtapnomdckglehaaGreat
namespace OpenD
open Go.RowKit Go.ChangeShapes Go.WideShapes Go.Deep
set_option maxRecDepth 100000
theorem cells_int:Tryz.prog.cellsOf 3 = 1:=by kernel_rfl
theorem cells_str:Tryz.prog.cellsOf 9 = 1:=by kernel_rfl
section
variable {H:Type} {enc:TypeId × Value → H} {W:World} {base:Nat} {spare:Nat → Bool} {held:Bool}
theorem dec_int {n:Nat} {c:Value} {x:Option (DataW H × List MemPlace)} (h:DataW.trod enc Tryz.prog W base spare held n 3 [c] = x) (hx:x.isSome):∃ k,c = .int .i64 k:=by
 obtain ⟨y,rfl⟩:=Option.isSome_iff_exists.1 hx
 obtain ⟨k,hc,_⟩:=DataW.trod_int Tryz.underlying3 h
 simp at hc
 exact ⟨k,hc⟩
theorem dec_str {n:Nat} {c:Value} {x:Option (DataW H × List MemPlace)} (h:DataW.trod enc Tryz.prog W base spare held n 9 [c] = x) (hx:x.isSome):∃ s:ByteArray,c = .string s ∧ s.size ≤ 9223372036854775807:=by
 obtain ⟨y,rfl⟩:=Option.isSome_iff_exists.1 hx
 obtain ⟨s,hc,_,hs⟩:=DataW.trod_string Tryz.underlying9 h
 simp at hc
 exact ⟨s,hc,hs⟩
theorem some_at {α:Type} {l:List α} {i:Nat} (h:i < l.length):(l[i]?).isSome:=by rw [List.getElem?_eq_getElem h]; rfl
end
end OpenD
end Go.Proofs.YtapnomdckglehaaGreat
namespace Go.Proofs.YtapnomdckglehaaGreat
open Go.RowKit Go.ChangeShapes Go.WideShapes Go.Deep TermSpec OpenD
set_option maxRecDepth 100000
theorem cells_term:Tryz.prog.cellsOf 94 = 3:=by kernel_rfl
section
variable {H:Type} {enc:TypeId × Value → H} {W:World} {base:Nat} {spare:Nat → Bool} {held:Bool}
theorem dec_term (n:Nat) (cs:List Value) (x:DataW H × List MemPlace) (h:DataW.trod enc Tryz.prog W base spare held n 94 cs = some x):∃ t:Tm,cs = tmV t ∧ t.s.size ≤ 9223372036854775807:=by
 obtain ⟨xs,m,_,_,hl,hxl,hg⟩:=DataW.trod_struct Tryz.underlying94 h
 rw [cells_term] at hl
 have hxl':xs.length = 3:=hxl
 match cs,hl with
 | [c0,c1,c2],_ =>
   have g0:DataW.trod enc Tryz.prog W base spare held m 3 (([c0,c1,c2].drop 0).take (Tryz.prog.cellsOf 3)) = xs[0]?:=hg 0 _ rfl
   have g1:DataW.trod enc Tryz.prog W base spare held m 3 (([c0,c1,c2].drop 1).take (Tryz.prog.cellsOf 3)) = xs[1]?:=hg 1 _ rfl
   have g2:DataW.trod enc Tryz.prog W base spare held m 9 (([c0,c1,c2].drop 2).take (Tryz.prog.cellsOf 9)) = xs[2]?:=hg 2 _ rfl
   rw [OpenD.cells_int] at g0 g1
   rw [OpenD.cells_str] at g2
   obtain ⟨a,rfl⟩:=OpenD.dec_int g0 (OpenD.some_at (by omega))
   obtain ⟨b,rfl⟩:=OpenD.dec_int g1 (OpenD.some_at (by omega))
   obtain ⟨s,rfl,hs⟩:=OpenD.dec_str g2 (OpenD.some_at (by omega))
   exact ⟨⟨a,b,s⟩,rfl,hs⟩
variable {b0:Nat} {r:Reach} {v:Value} {d:DataW H} {p:List MemPlace}
end
end Go.Proofs.YtapnomdckglehaaGreat
namespace Go.Proofs.YtapnomdckglehaaGreat
open Go.RowKit Go.ChangeShapes Go.WideShapes Go.Deep TermSpec EvalSpec
set_option maxRecDepth 100000
theorem open_rows_c {α:Type} {f:α → List Value} {Good:α → Prop} {k:Nat} {H:Type} {enc:TypeId × Value → H} {P:Program} {W:World} {base:Nat} {spare:Nat → Bool} {held:Bool} {fuel:Nat} {t e:TypeId} {v:Value} {x:DataW H × List MemPlace}
 (hf:∀ a,(f a).length = k) (hk0:0 < k) (hk:P.cellsOf e = k) (hu:P.underlying t = some (.slice e))
 (hdec:∀ n cs x,DataW.trod enc P W base spare held n e cs = some x → ∃ a,cs = f a ∧ Good a)
 (h:DataW.trod enc P W base spare held fuel t [v] = some x) :
 ∃ (A:Option Addr) (n cp:Nat) (l:List α),v = .slice A n cp ∧ n = l.length ∧ Rdk k W (.slice A n cp) n (l.flatMap f) ∧ (∀ a ∈ l,Good a) ∧ n ≤ 9223372036854775807:=by
 rcases open_slice hu h with ⟨hcs,_⟩ | ⟨a,len,cap,m,n,D,Pl,hcs,hb,hl,hm,hmm,_,hi⟩
 ·cases hcs
  exact ⟨none,0,0,[],rfl,rfl,Rdk.nil k W,by simp,by omega⟩
 ·cases hcs
  rw [hk] at hi
  have hlm:len ≤ m:=by rw [hmm]; split <;> omega
  obtain ⟨l,hll,hR⟩:=list_of (R:=fun i (x:α) => (∀ j,j < k → W.cell? ((a.add (i * k)).add j) = (f x)[j]?) ∧ Good x) len (fun i hlt => by
   obtain ⟨cs',hc,ht⟩:=hi i (by omega)
   obtain ⟨x,rfl,hg⟩:=hdec _ _ _ ht
   obtain ⟨_,_,hat⟩:=World.cells?_some hc
   exact ⟨x,hat,hg⟩)
  refine ⟨some a,len,cap,l,rfl,hll.symm,⟨some a,cap,rfl,hl,by rw [flat_length hf,hll],fun h0 => ?_⟩,fun x hx => ?_,by unfold maxLen at hm; omega⟩
  ·obtain ⟨x,hx0⟩:∃ x,l[0]? = some x:=get_some (by omega)
   obtain ⟨u,hu0⟩:∃ u,(f x)[0]? = some u:=get_some (by rw [hf]; exact hk0)
   obtain ⟨b,off,spot⟩:=a
   have h00:=(hR 0 x hx0).1 0 hk0
   rw [hu0] at h00
   have hspot:spot = none:=by simpa [Addr.add] using World.cell?_spot h00
   subst hspot
   rw [addr_add,addr_add] at h00
   refine ⟨b,off,rfl,cell_there' h00,fun q u hq => ?_⟩
   obtain ⟨y,hy,hu⟩:=flat_at hf hk0 hq
   have:=(hR _ y hy).1 (q % k) (Nat.mod_lt q hk0)
   rw [addr_add,addr_add,Nat.add_assoc,Nat.mul_comm (q / k) k,Nat.div_add_mod,hu] at this
   exact this
  ·obtain ⟨i,hi⟩:=List.mem_iff_getElem?.1 hx
   exact (hR i x hi).2
theorem cells_var:Tryz.prog.cellsOf 68 = 4:=by kernel_rfl
section
variable {H:Type} {enc:TypeId × Value → H} {W:World} {base:Nat} {spare:Nat → Bool} {held:Bool}
variable {b0:Nat} {r:Reach} {v:Value} {d:DataW H} {p:List MemPlace}
end
end Go.Proofs.YtapnomdckglehaaGreat