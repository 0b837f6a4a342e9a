/- ConfStates, joined. -/
import Derived.Test.YtckojimeglkobaaGreatDoorMConfFills35
import Derived.Test.YtckojimeglkobaaGreatDoorMConfFills36
import Derived.BigQuiet
import Derived.Lib.QuietBelow
namespace Go.Proofs.YtckojimeglkobaaGreatDoor
open Go.RowKit Go.Sort TermSpec EvalSpec ActSpec NamesSpec ExprSpec TransSpec SynSpec CurSpec ShapeSpec GroupSpec AtlasSpec PrintSpec ConfSpec
set_option maxRecDepth 100000
attribute [local go_sem] Oper.semAt_some
def RetIn (W:World) (B:Nat) (x:Cx) (R:World → Value → Prop) (e:Ending) (w':World):Prop:=∃ v,e = .returned v ∧ R w' v ∧ AtIn w' B x ∧ W.grownBy w' (some B)
theorem bool_two (b:Bool):b = false ∨ b = true:=by cases b <;> simp
theorem stop_at (p:Int → Bool):∀ bs:List Int,∃ M,M ≤ bs.length ∧ (∀ (k:Nat) x,k < M → bs[k]? = some x → p x = true) ∧ (M < bs.length → ∀ x,bs[M]? = some x → p x = false) ∧ bs.all p = decide (M = bs.length)
 | [] => ⟨0,Nat.le_refl _,fun _ _ h => absurd h (by omega),fun h => absurd h (by simp),rfl⟩
 | y :: r => by
   cases hy:p y with
   | false =>
     refine ⟨0,Nat.zero_le _,fun _ _ h => absurd h (by omega),fun _ x hx => ?_,?_⟩
     ·simp at hx
      rw [← hx]; exact hy
     ·rw [List.all_cons,hy,decide_eq_false (by simp)]
      rfl
   | true =>
     obtain ⟨M,h1,h2,h3,h4⟩:=stop_at p r
     refine ⟨M + 1,by simp; exact h1,fun k x hk hx => ?_,fun hM x hx => h3 (by simp at hM; exact hM) x (by simpa using hx),?_⟩
     ·cases k with
      | zero => simp at hx; rw [← hx]; exact hy
      | succ k => exact h2 k x (by omega) (by simpa using hx)
     ·rw [List.all_cons,hy,h4,Bool.true_and,Bool.eq_iff_iff,decide_eq_true_iff,decide_eq_true_iff,List.length_cons]
      omega
theorem setCell_same {w:World} {b:Nat} {T:TypeId} {v:Value} (h:w.heap[b]? = some (.cells #[v] T (0,0))):w.setCell ⟨b,0,none⟩ v = w:=by
 have hb:=(Array.getElem?_eq_some_iff.1 h).1
 have e:(w.setCell ⟨b,0,none⟩ v).heap = w.heap:=by
  apply Array.ext_getElem?
  intro i
  by_cases hi:i = b
  ·subst hi
   rw [block_setCell' h 0 v,h]
   rfl
  ·rw [Below.heap_setCell _ _ _ _ hi]
 have key:∀ w':World,w'.heap = w.heap → w' = { w with heap:=w'.heap } → w' = w:=fun w' h1 h2 => by
  rw [h2,h1]
 exact key _ e rfl
theorem four_boxes (w:World) (B:Nat) (sA:Option Addr) (sn sc m:Nat):∃ W1,(((w.alloc (.cells #[.pointer (some ⟨B,0,none⟩)] 33)).alloc (.cells #[.slice sA sn sc] 24)).alloc (.cells #[.int .u64 m] 27)).alloc (.cells #[.bool false] 4) = W1 ∧
 W1.heap[w.heap.size]? = some (.cells #[.pointer (some ⟨B,0,none⟩)] 33) ∧ W1.heap[w.heap.size + 1]? = some (.cells #[.slice sA sn sc] 24) ∧ W1.heap[w.heap.size + 1 + 1]? = some (.cells #[.int .u64 m] 27) ∧ W1.heap[w.heap.size + 1 + 1 + 1]? = some (.cells #[.bool false] 4) ∧ Below w.heap.size w W1:=by
 refine ⟨_,rfl,?_,?_,?_,?_,below_two' (KitC.below_pair _ _ _) ((KitC.below_pair _ _ _))⟩
 ·exact (heap_alloc_old _ _ (by simp <;> omega)).trans ((heap_alloc_old _ _ (by simp <;> omega)).trans ((heap_alloc_old _ _ (by simp)).trans (heap_alloc_new _ _)))
 ·refine (heap_alloc_old _ _ (by simp)).trans ((heap_alloc_old _ _ (by simp)).trans ?_)
  have:=heap_alloc_new (w.alloc (.cells #[.pointer (some ⟨B,0,none⟩)] 33)) (.cells #[.slice sA sn sc] 24)
  rwa [World.size_alloc] at this
 ·refine (heap_alloc_old _ _ (by simp)).trans ?_
  have:=heap_alloc_new ((w.alloc (.cells #[.pointer (some ⟨B,0,none⟩)] 33)).alloc (.cells #[.slice sA sn sc] 24)) (.cells #[.int .u64 m] 27)
  rwa [World.size_alloc,World.size_alloc] at this
 ·have:=heap_alloc_new (((w.alloc (.cells #[.pointer (some ⟨B,0,none⟩)] 33)).alloc (.cells #[.slice sA sn sc] 24)).alloc (.cells #[.int .u64 m] 27)) (.cells #[.bool false] 4)
  rwa [World.size_alloc,World.size_alloc,World.size_alloc] at this
section
variable (B:Nat) (x:Cx) (w:World) (h:AtIn w B x) (hk:chk (x.sts.map shOf) = 0) (hev:x.evs.length ≤ 1000000) (hT:TabIn w) (hTB:0 < B) (m:Nat) (h64:m < 18446744073709551616) (sA:Option Addr) (sn sc:Nat) (hl:Dep w (fun b => b ≠ B) (fun X => StsP X (.slice sA sn sc) x.sts))
include h hk hev hT hTB h64 hl
set_option maxRecDepth 100000 in
set_option maxHeartbeats 16000000 in
theorem states18:Calls Tryz.prog 31 #[.pointer (some ⟨B,0,none⟩),.slice sA sn sc,.int .u64 m] w (RetIn w B x (fun _ v => v = .bool (statesP (x.sts.map shOf) m))):=by
 obtain ⟨W1,hW1,k1,k2,k3,k4,hb1⟩:=four_boxes w B sA sn sc m
 have HBX:=Lib.hid (belowX _ B x W1.drew (h.freeX (below_two' hb1 ((Below.refl W1.heap.size W1).drew))) (fun b hb => ⟨by have:=h.lt; omega,hb.2⟩) hk hev 0)
 have HAB:=Lib.hid (fun W (hW:AtD W B x) (i:Int) => aboveD B x W hW hk i)
 have HKD:=Lib.hid (fun W (hW:AtD W B x) (i:Int) => kidsD B x W hW hk i)
 have HBW:Hid (B < w.heap.size):=Lib.hid h.lt
 have HW1:=Lib.hid hW1
 have HB1:=Lib.hid hb1
 have HK:=Lib.hid (And.intro k1 (And.intro k2 (And.intro k3 k4)))
 have HH0:=Lib.hid (fun W => ghas_any m 0 h64 W)
 obtain ⟨l,hll⟩:∃ l,l = x.sts.map shOf:=⟨_,rfl⟩
 rw [← hll] at HBX HAB HKD ⊢
 obtain ⟨b0,hb0⟩:∃ b0,b0 = hasG m 0:=⟨_,rfl⟩
 rw [← hb0] at HH0
 obtain ⟨bl,hbl⟩:∃ bl,bl = belowTb l 0:=⟨_,rfl⟩
 rw [← hbl] at HBX
 have HWI:=Lib.hid (fun W => within_any m bl h64 (by rw [hbl]; exact belowTb_lt _ _) W)
 obtain ⟨b1,hb1'⟩:∃ b1,b1 = withinG m bl:=⟨_,rfl⟩
 rw [← hb1'] at HWI
 have HSP:Hid (statesP l m = (b0 && (b1 && (bitsL m).all fun x => roundP l m x.toNat))):=Lib.hid (by unfold statesP; rw [hb0,hb1',hbl])
 have HLL:=Lib.hid hll
 have HCK:Hid (chk l = 0):=Lib.hid (by rw [hll]; exact hk)
 have HDL:=Lib.hid hl
 have HT:=Lib.hid (And.intro hT hTB)
 have H64:=Lib.hid h64
 have c3:=cell_of_block' k1 (i:=0) rfl
 have c5:=cell_of_block' k3 (i:=0) rfl
 have c6:=cell_of_block' k4 (i:=0) rfl
 have f6:=free_of_block' k4 0
 have HKB:Hid (∀ W',W1.drew.grownBy W' (some B) → W'.heap[w.heap.size]? = some (.cells #[.pointer (some ⟨B,0,none⟩)] 33) ∧ W'.heap[w.heap.size + 1]? = some (.cells #[.slice sA sn sc] 24) ∧ W'.heap[w.heap.size + 1 + 1]? = some (.cells #[.int .u64 m] 27) ∧ W'.heap[w.heap.size + 1 + 1 + 1]? = some (.cells #[.bool false] 4)):=Lib.hid fun W' g => by
  have hB:=h.lt
  exact ⟨blk_go (w:=W1.drew) k1 g (fun e => by injection e with e; omega),blk_go (w:=W1.drew) k2 g (fun e => by injection e with e; omega),blk_go (w:=W1.drew) k3 g (fun e => by injection e with e; omega),blk_go (w:=W1.drew) k4 g (fun e => by injection e with e; omega)⟩
 have HAT:=Lib.hid h
 have HSTD:Hid (∀ W',W1.drew.grownBy W' (some B) → StsP W' (.slice sA sn sc) x.sts):=Lib.hid fun W' g => ((hl.keep (below_two' hb1 (Below.refl W1.heap.size W1).drew)).go g (fun b hb e => hb (by injection e with e; exact e.symm))).now
 have hsl:sn = x.sts.length:=(hl.now.len).1
 have HSL:Hid (l.length = sn):=Lib.hid (by rw [hll,List.length_map]; exact hsl.symm)
 have HBIT:Hid (b1 = true → ∀ i:Nat,i < 64 → m.testBit i = true → i < sn):=Lib.hid fun hw i hi hb => by
  rw [hb1'] at hw
  have h1:=withinG_iff.1 hw i hi hb
  rw [hbl,below_root (by rw [hll]; exact hk) hi,decide_eq_true_iff] at h1
  have:=HSL.out
  omega
 have h60:Hid (l.length ≤ 60):=Lib.hid (by rw [hll]; exact (chk_ok hk).1)
 have HCG:Hid (∀ W',W1.drew.grownBy W' (some B) → W'.cell? ⟨w.heap.size,0,none⟩ = some (.pointer (some ⟨B,0,none⟩)) ∧ W'.cell? ⟨w.heap.size + 1 + 1,0,none⟩ = some (.int .u64 m)):=Lib.hid fun W' g => by
  have hB:=h.lt
  have hdr:W1.drew.heap = W1.heap:=rfl
  exact ⟨cell_of_block' (blk_go (w:=W1.drew) (by rw [hdr]; exact k1) g (fun e => by injection e with e; omega)) (i:=0) rfl,cell_of_block' (blk_go (w:=W1.drew) (by rw [hdr]; exact k3) g (fun e => by injection e with e; omega)) (i:=0) rfl⟩
 clear h hk hev hT hTB h64 hl hW1 k1 k2 k3 k4 hb1 hll hb0 hbl hb1' hsl
 refine (callsIn_wide (n:=5)).1 ?_
 refine callsIn_of_wp_marks Tryz.func31 rfl trivial ?_ rfl
 simp only [Tryz.ntmps31,List.size_toArray,List.length_cons,List.length_nil,Nat.reduceAdd,Nat.reduceSub,Array.replicate_succ,Array.replicate_zero,List.push_toArray,List.append_toArray,List.nil_append,List.cons_append]
 refine wpIn_wide.2 ?_
 go_wp2_with fail
 rw [HW1.out]
 cases b0 with
 | false =>
   go_quiet ((go_at_call 42; exact Calls.quiet_of_same ((HH0.out _).mono fun _ _ h => ⟨h.1,h.2.symm⟩)))
   go_wp2_with fail
   have hk4:(W1.drewN nq).heap[w.heap.size + 1 + 1 + 1]? = some (.cells #[.bool false] 4):=HK.out.2.2.2
   rw [setCell_same hk4]
   have hce:=cell_of_block' hk4 (i:=0) rfl
   have hbz:Below w.heap.size w (W1.drewN nq):=below_drewN HB1.out _
   refine ⟨.bool false,by simp [results,Tryz.results31,go_sem,hce],?_⟩
   exact ⟨_,rfl,by rw [HSP.out]; rfl,HAT.out.keep hbz,gr_none hbz _⟩
 | true =>
   have hdr3:W1.drew.cell? ⟨w.heap.size,0,none⟩ = some (.pointer (some ⟨B,0,none⟩)):=c3
   have hdr5:W1.drew.cell? ⟨w.heap.size + 1 + 1,0,none⟩ = some (.int .u64 m):=c5
   go_region_held3 (fun w' => w'.cell? ⟨w.heap.size,0,none⟩ = some (.pointer (some ⟨B,0,none⟩)) ∧ w'.cell? ⟨w.heap.size + 1 + 1,0,none⟩ = some (.int .u64 m)) (go_keep)
    ((first
      | (go_at_call 42; (with_reducible refine (HH0.out _).mono ?_); rintro e y0 ⟨rfl,rfl⟩)
      | (go_at_call 60; (with_reducible refine (HBX.out).mono ?_); rintro e y1 ⟨v1,rfl,rfl,at1,g1⟩; obtain ⟨d3,d5⟩:=HCG.out _ g1)
      | (go_at_call 59; (with_reducible refine (HWI.out _).mono ?_); rintro e y2 ⟨rfl,rfl⟩)))
   have HAT1:=Lib.hid at1
   have HG1:Hid (w.grownBy y1 (some B)):=Lib.hid (gr_any (gr_none (below_two' HB1.out (Below.refl W1.heap.size W1).drew) (some B)) g1 (fun j e => .inl e))
   obtain ⟨n1,n2,n3,n4⟩:=HKB.out _ g1
   have HN:=Lib.hid (And.intro n1 (And.intro n2 (And.intro n3 n4)))
   have d6:=cell_of_block' n4 (i:=0) rfl
   have e6:=free_of_block' n4 0
   clear at1 n1 n2 n3 n4 hdr3 hdr5 c3 c5 c6 f6
   rcases bool_two b1 with rfl | rfl
   ·simp only [Bool.not_false]
    go_wp2_with fail
    rw [setCell_same HN.out.2.2.2]
    refine ⟨.bool false,by simp [results,Tryz.results31,go_sem,d6],?_⟩
    exact ⟨_,rfl,by rw [HSP.out]; rfl,.inr HAT1.out.low,HG1.out⟩
   ·simp only [Bool.not_true]
    go_wp2_with (go_at_call 61; go_fit ((callsIn_wide (n:=3)).1 (each_in m 3 _)); rintro e w' ⟨rfl,rfl⟩)
    have HTY:Hid (TabIn y1 ∧ 0 < y1.heap.size):=Lib.hid (by
     obtain ⟨⟨T,fr,ht⟩,h2⟩:=HT.out
     have hb:Below B w y1:=⟨HG1.out.os,HG1.out.tape,HG1.out.output,HG1.out.size,fun i hi => HG1.out.block i (by have:=HBW.out; omega) (fun e => by injection e with e; omega)⟩
     refine ⟨⟨T,fr,(hb.block _ h2).trans ht⟩,?_⟩
     have:=HBW.out
     have:=HG1.out.size
     omega)
    have HSTS:=Lib.hid (HSTD.out _ g1)
    obtain ⟨M,hM1,hM2,hM3,hM4⟩:=stop_at (fun x => roundP l m x.toNat) (bitsL m)
    have HM1:=Lib.hid hM1
    have HM4:=Lib.hid hM4
    have HM2:=Lib.hid hM2
    have HM3:=Lib.hid hM3
    have bS:=Boxed.new y1 27 (.int .u64 m)
    have hB0:Below y1.heap.size y1 (y1.alloc (.cells #[.int .u64 m] 27)):=KitC.below_one _ _
    obtain ⟨W0,hW0⟩:∃ W0,y1.alloc (.cells #[.int .u64 m] 27) = W0:=⟨_,rfl⟩
    have hsz:W0.heap.size = y1.heap.size + 1:=by rw [← hW0]; simp
    rw [hW0] at bS hB0 ⊢
    have HBS:=Lib.hid bS
    have HB0:=Lib.hid hB0
    have HT0:Hid (TabIn W0):=Lib.hid (HTY.out.1.keep hB0)
    clear hsz hW0 bS hB0 hM1 hM2 hM3 hM4 d3 d5 d6 e6 g1
    refine (wpIn_wide (n:=5)).1 ?_
    refine range_ret rfl (by omega) (gf:=81) (lb:=#[.pointer (some ⟨y1.heap.size,0,none⟩)]) rfl trivial (enters_of Tryz.func81 (by kernel_rfl) rfl)
     (each_hands (5 - 1) (by omega) y1.heap.size y1.heap.size m H64.out W0 HBS.out HT0.out HTY.out.2) M HM1.out (fun h k => h.trans k) (below_turn HB0.out.size) (fun _ => rfl)
     (fun _ W => Below W0.heap.size W0 W) (ownFrom_below (Nat.le_refl _) (Nat.le_refl _)) (Below.refl _ _)
     (fun _ W => Below W0.heap.size W0 W) (ownFrom_below (Nat.le_refl _) (Nat.le_refl _))
     (fun k a' W => ∃ x:Int,(bitsL m)[k]? = some x ∧ a' = { tmps:=#[.pointer (some ⟨B,0,none⟩),.slice sA sn sc,.int .u64 m,.pointer (some ⟨w.heap.size,0,none⟩),.pointer (some ⟨w.heap.size + 1,0,none⟩),.pointer (some ⟨w.heap.size + 1 + 1,0,none⟩),.pointer (some ⟨w.heap.size + 1 + 1 + 1,0,none⟩),.int .i64 x,undef,.int .u64 m,.bool true,.bool false,.bool false,.int .u64 m,.pointer (some ⟨B,0,none⟩),.int .u64 bl,.bool true,.bool false,.bool false,.int .u64 m,.func (.func 81) #[] #[.pointer (some ⟨y1.heap.size,0,none⟩)],.int .i64 x,undef,undef,undef,undef,undef,undef,undef,undef,undef,undef,undef,undef,undef,undef,undef,undef,undef,undef,undef,undef,undef,undef,undef,undef,undef,undef,undef,undef,undef,undef,undef,undef,undef,undef,undef,undef,undef],defers:=[] })
     (fun a' s X Y row hs _ _ => hs)
     ?assign ?body ?last ?done ?stop
    case assign =>
     rintro lp q W K hq hI hK
     have hx:=(rest_more H64.out hq).2
     obtain ⟨x,hxe⟩:∃ x:Int,x = (Lib.ctz 64 (restG m q):Int):=⟨_,rfl⟩
     have he:encE m q = #[.int .i64 x]:=by rw [hxe]; rfl
     rw [← hxe] at hx
     rw [he]
     have HK:=Lib.hid hK
     have HIH:=Lib.hid hI
     have HX:=Lib.hid hx
     clear hI hK hxe he hx
     gi_wp2
     exact HK.out _ _ (keepsFrom_below' (Below.refl _ _)) (Below.refl _ _) HIH.out ⟨x,HX.out,rfl⟩
    case body =>
     rintro lp q a' W hq hbel ⟨x0,hx,rfl⟩
     obtain ⟨i,hi64,rfl,hbit⟩:=mem_bitsTo.1 (List.mem_of_getElem? hx)
     have hisn:i < sn:=HBIT.out (by trivial) i hi64 hbit
     have HRP:=Lib.hid (HM2.out q (i:Int) hq hx)
     simp only [Int.toNat_natCast] at HRP
     have hkb:=KitC.block_on (KitC.block_on HN.out.1 HB0.out) hbel
     have hkl:=KitC.block_on (KitC.block_on HN.out.2.1 HB0.out) hbel
     have hkm:=KitC.block_on (KitC.block_on HN.out.2.2.1 HB0.out) hbel
     have hkr:=KitC.block_on (KitC.block_on HN.out.2.2.2 HB0.out) hbel
     have HKK:=Lib.hid (And.intro hkl (And.intro hkm hkr))
     have HBEL:=Lib.hid hbel
     have hB0':=HB0.out
     have HATW:Hid (∀ W',Below W.heap.size W W' → AtD W' B x):=Lib.hid fun W' hb => HAT1.out.low.keep (below_two' HB0.out (below_two' HBEL.out hb))
     have HSTW:Hid (∀ W',Below W.heap.size W W' → Sts W' (.slice sA sn sc) l):=Lib.hid fun W' hb => by rw [HLL.out]; exact (HSTS.out.keep (below_two' HB0.out (below_two' HBEL.out hb))).sts
     obtain ⟨ab,hab⟩:∃ ab,ab = aboveTb l (i:Int):=⟨_,rfl⟩
     obtain ⟨kl,hkl'⟩:∃ kl,kl = kidsTb l (i:Int):=⟨_,rfl⟩
     have hil:i < l.length:=by have:=HSL.out; omega
     have hae:ab = abG l i:=by rw [hab,aboveTb_in hil]
     have hke:kl = kids l i:=by rw [hkl',kidsTb_in hil]
     obtain ⟨wa,hwa⟩:∃ wa,wa = withinG ab m:=⟨_,rfl⟩
     obtain ⟨kd,hkd⟩:∃ kd,kd = kind l i:=⟨_,rfl⟩
     have HWA:Hid (∀ d os,CallsIn Fence.wide 2 Tryz.prog 59 #[.int .u64 ab,.int .u64 m] (grow (redrawn W d) os) fun e w'' => e = .returned (.bool wa) ∧ ∃ p:Regrown,w'' = grow (redrawn W p.d) p.os):=Lib.hid fun d os => callsIn_wide.2 ((within_any ab m (by rw [hab]; exact aboveTb_lt _ _) H64.out _).mono fun e w'' ⟨he,hw⟩ => ⟨by rw [he,hwa],⟨d,os⟩,hw.symm⟩)
     have HAA:Hid (∀ d os,CallsIn Fence.wide 2 Tryz.prog 62 #[.pointer (some ⟨B,0,none⟩),.int .i64 (i:Int)] (grow (redrawn W d) os) fun e w'' => e = .returned (.int .u64 ab) ∧ ∃ p:Regrown,w'' = grow (redrawn W p.d) p.os):=Lib.hid fun d os => callsIn_wide.2 ((HAB.out _ (HATW.out _ (below_regrown W d os)) (i:Int)).mono fun e w'' ⟨v,he,hv,hb⟩ => ⟨by rw [he,hv,hab],regrown_of_below (below_two' (below_regrown W d os) hb)⟩)
     have HKW:Hid (∀ W',Below W.heap.size W W' → Calls Tryz.prog 64 #[.pointer (some ⟨B,0,none⟩),.int .i64 (i:Int)] W' (RetDn W' (fun W v => Rd W v (intV kl)))):=Lib.hid fun W' hb => by rw [hkl']; exact HKD.out W' (HATW.out W' hb) (i:Int)
     have hK:=ofG_lt kl
     have hkn:kl.length ≤ 60:=by
      rw [hke]
      have h1:=kids_le l i l.length
      have h2:=h60.out
      unfold kids
      omega
     obtain ⟨K,hKe⟩:∃ K,K = ofG kl:=⟨_,rfl⟩
     rw [← hKe] at hK
     have HKE:=Lib.hid (And.intro hKe hkn)
     obtain ⟨q1,hq1⟩:∃ q1,q1 = kidsIn l m i:=⟨_,rfl⟩
     have HCO:Hid ((bitsL (K &&& m)).length = q1):=Lib.hid (by rw [hKe,hke,hq1]; exact count_kids m i (by have:=h60.out; omega))
     obtain ⟨wk,hwk⟩:∃ wk,wk = withinG K m:=⟨_,rfl⟩
     have HKB:Hid (roundP l m i = (wa && (!(decide (kd = 2) && !decide (q1 = 1)) && !(decide (kd = 3) && !wk)))):=Lib.hid (by
      unfold roundP kidsB
      rw [hwa,hae,hkd,hq1,hwk,hKe,hke,within_kids m i (by have:=h60.out; omega)])
     rw [HKB.out] at HRP
     have hka:bits .and .u64 (K:Int) (m:Int) = ((K &&& m:Nat):Int):=bits_and_u64_nat K m hK H64.out
     have HCN:=Lib.hid (fun W => count_any (K &&& m) (Nat.lt_of_le_of_lt Nat.and_le_left hK) W)
     rw [HCO.out] at HCN
     have HWK:=Lib.hid (fun W => within_any K m hK H64.out W)
     rw [← hwk] at HWK
     have k3:=cell_regrown (cell_of_block' hkb (i:=0) rfl)
     have k5:=cell_regrown (cell_of_block' hkm (i:=0) rfl)
     obtain ⟨bs,bo,rfl,hbs,x1,-⟩:=(HSTW.out W (Below.refl _ _)).at_ hisn
     rw [← hkd] at x1
     have hkl3:=KitC.block_on (KitC.block_on HN.out.2.1 HB0.out) HBEL.out
     have HCL:Hid (∀ W',Below W.heap.size W W' → W'.cell? ⟨w.heap.size + 1,0,none⟩ = some (.slice (some ⟨bs,bo,none⟩) sn sc) ∧ W'.cell? ⟨w.heap.size + 1 + 1,0,none⟩ = some (.int .u64 m) ∧ W'.cell? ⟨w.heap.size + 1 + 1 + 1,0,none⟩ = some (.bool false) ∧ W'.frozen? ⟨w.heap.size + 1 + 1 + 1,0,none⟩ = false ∧ W'.cell? ⟨bs,bo + i * 6 + 1,none⟩ = some (.int .i64 kd)):=Lib.hid fun W' hb => by
      have h4:=KitC.block_on HKK.out.2.2 hb
      exact ⟨cell_of_block' (KitC.block_on hkl3 hb) (i:=0) rfl,cell_of_block' (KitC.block_on HKK.out.2.1 hb) (i:=0) rfl,cell_of_block' h4 (i:=0) rfl,free_of_block' h4 0,(hb.cell (p:=⟨bs,bo + i * 6 + 1,none⟩) hbs).trans x1⟩
     have hkp3:=KitC.block_on (KitC.block_on HN.out.1 HB0.out) HBEL.out
     have HC3:Hid (∀ W',Below W.heap.size W W' → W'.cell? ⟨w.heap.size,0,none⟩ = some (.pointer (some ⟨B,0,none⟩))):=Lib.hid fun W' hb => cell_of_block' (KitC.block_on hkp3 hb) (i:=0) rfl
     have HY1:Hid (y1.heap.size ≤ W.heap.size):=Lib.hid (Nat.le_trans HB0.out.size HBEL.out.size)
     have hisI:(i:Int) < (sn:Int):=by omega
     clear hx hbit hkb hkl hkl3 hkp3 x1 hkm hkr hab hkl' hil hae hke hwa hkd hkn hKe hq1 hwk hK hbel hB0' HKB
     gi_wp2
     refine quiet_below_round rfl (by kernel_rfl) (by kernel_rfl) (by kernel_rfl) ?_
     repeat ((refine wpQuietIn_step (fun _ _ _ _ => trivial) (fun K hK => ?_)); go_simp; first | ((refine hK _ ?_); clear hK K) | ((apply Exists.intro); (refine ⟨fun _ => ?_,hK _ ?_⟩); (first | exact ⟨fun _ => by omega,HAA.out _ _⟩ | exact HAA.out _ _ | exact ⟨fun _ => by omega,HWA.out _ _⟩ | exact HWA.out _ _); clear hK K))
     refine wpQuietIn_nil ?_
     intro _ hw'
     obtain ⟨⟨dq,osq⟩,hw''⟩:=hw'
     subst hw''
     have hb2:=below_regrown W dq osq
     obtain ⟨W2,hW2⟩:∃ W2,grow (redrawn W dq) osq = W2:=⟨_,rfl⟩
     simp only
     rw [hW2] at hb2 ⊢
     have HB2:=Lib.hid hb2
     clear hW2 k3 k5
     have y0:=HC3.out _ HB2.out
     clear hb2
     have hwa:wa = true:=by
      have h:=HRP.out
      rw [Bool.and_eq_true] at h
      exact h.1
     have hrest:=HRP.out
     rw [hwa,Bool.true_and] at hrest
     have hcase:(kd = 2 ∧ q1 = 1) ∨ (kd = 3 ∧ wk = true) ∨ (kd ≠ 2 ∧ kd ≠ 3):=by
      by_cases h2:kd = 2
      ·refine .inl ⟨h2,?_⟩
       rw [h2] at hrest
       simpa using hrest
      ·by_cases h3:kd = 3
       ·refine .inr (.inl ⟨h3,?_⟩)
        rw [h3] at hrest
        simpa using hrest
       ·exact .inr (.inr ⟨h2,h3⟩)
     subst hwa
     simp only [Bool.not_true]
     clear HRP hrest hisn
     rcases hcase with ⟨u1,u2⟩ | ⟨u1,u2⟩ | ⟨u1,u2⟩
     ·have g1:((q1:Int) != 1) = false:=by simp [u2]
      subst u1
      clear u2
      gi_wp2_with (first
       | (refine ⟨trivial,?_⟩; gi_at_call 64; (with_reducible refine ((callsIn_wide.2 (HKW.out _ HB2.out)).inRound lp).mono ?_); rintro e W3 ⟨kv,rfl,hrd,hb3⟩; have HB3:=Lib.hid (below_two' HB2.out hb3); obtain ⟨z1,z2,z3,z4,z5⟩:=HCL.out _ HB3.out; have HOF:=Lib.hid (of_any kv kl W3 hrd (by have:=HKE.out.2; omega)); rw [← HKE.out.1] at HOF; clear hrd hb3)
       | (refine ⟨trivial,?_⟩; gi_at_call 63; (with_reducible refine ((callsIn_wide.2 HOF.out).inRound lp).mono ?_); rintro e w' ⟨rfl,rfl⟩)
       | (refine ⟨trivial,?_⟩; gi_at_call 65; (with_reducible refine ((callsIn_wide.2 (HCN.out _)).inRound lp).mono ?_); rintro e w' ⟨rfl,rfl⟩)
       | (refine ⟨trivial,?_⟩; gi_at_call 59; (with_reducible refine ((callsIn_wide.2 (HWK.out _)).inRound lp).mono ?_); rintro e w' ⟨rfl,rfl⟩)
       | refine ⟨trivial,?_⟩)
      exact ⟨keepsFrom_below' HB3.out,HB3.out.mono HY1.out,below_two' HBEL.out HB3.out⟩
     ·subst u1 u2
      gi_wp2_with (first
       | (refine ⟨trivial,?_⟩; gi_at_call 64; (with_reducible refine ((callsIn_wide.2 (HKW.out _ HB2.out)).inRound lp).mono ?_); rintro e W3 ⟨kv,rfl,hrd,hb3⟩; have HB3:=Lib.hid (below_two' HB2.out hb3); obtain ⟨z1,z2,z3,z4,z5⟩:=HCL.out _ HB3.out; have HOF:=Lib.hid (of_any kv kl W3 hrd (by have:=HKE.out.2; omega)); rw [← HKE.out.1] at HOF; clear hrd hb3)
       | (refine ⟨trivial,?_⟩; gi_at_call 63; (with_reducible refine ((callsIn_wide.2 HOF.out).inRound lp).mono ?_); rintro e w' ⟨rfl,rfl⟩)
       | (refine ⟨trivial,?_⟩; gi_at_call 65; (with_reducible refine ((callsIn_wide.2 (HCN.out _)).inRound lp).mono ?_); rintro e w' ⟨rfl,rfl⟩)
       | (refine ⟨trivial,?_⟩; gi_at_call 59; (with_reducible refine ((callsIn_wide.2 (HWK.out _)).inRound lp).mono ?_); rintro e w' ⟨rfl,rfl⟩)
       | refine ⟨trivial,?_⟩)
      exact ⟨keepsFrom_below' HB3.out,HB3.out.mono HY1.out,below_two' HBEL.out HB3.out⟩
     ·have g1:(kd == 2) = false:=by simpa using u1
      have g2:(kd == 3) = false:=by simpa using u2
      clear u1 u2
      gi_wp2_with (first
       | (refine ⟨trivial,?_⟩; gi_at_call 64; (with_reducible refine ((callsIn_wide.2 (HKW.out _ HB2.out)).inRound lp).mono ?_); rintro e W3 ⟨kv,rfl,hrd,hb3⟩; have HB3:=Lib.hid (below_two' HB2.out hb3); obtain ⟨z1,z2,z3,z4,z5⟩:=HCL.out _ HB3.out; have HOF:=Lib.hid (of_any kv kl W3 hrd (by have:=HKE.out.2; omega)); rw [← HKE.out.1] at HOF; clear hrd hb3)
       | (refine ⟨trivial,?_⟩; gi_at_call 63; (with_reducible refine ((callsIn_wide.2 HOF.out).inRound lp).mono ?_); rintro e w' ⟨rfl,rfl⟩)
       | (refine ⟨trivial,?_⟩; gi_at_call 65; (with_reducible refine ((callsIn_wide.2 (HCN.out _)).inRound lp).mono ?_); rintro e w' ⟨rfl,rfl⟩)
       | (refine ⟨trivial,?_⟩; gi_at_call 59; (with_reducible refine ((callsIn_wide.2 (HWK.out _)).inRound lp).mono ?_); rintro e w' ⟨rfl,rfl⟩)
       | refine ⟨trivial,?_⟩)
      exact ⟨keepsFrom_below' HB3.out,HB3.out.mono HY1.out,below_two' HBEL.out HB3.out⟩
    case last =>
     rintro lp a' W hq hbel ⟨x0,hx,rfl⟩
     obtain ⟨i,hi64,rfl,hbit⟩:=mem_bitsTo.1 (List.mem_of_getElem? hx)
     have hisn:i < sn:=HBIT.out (by trivial) i hi64 hbit
     have HRP:=Lib.hid (HM3.out hq (i:Int) hx)
     simp only [Int.toNat_natCast] at HRP
     have hkb:=KitC.block_on (KitC.block_on HN.out.1 HB0.out) hbel
     have hkl:=KitC.block_on (KitC.block_on HN.out.2.1 HB0.out) hbel
     have hkm:=KitC.block_on (KitC.block_on HN.out.2.2.1 HB0.out) hbel
     have hkr:=KitC.block_on (KitC.block_on HN.out.2.2.2 HB0.out) hbel
     have HKK:=Lib.hid (And.intro hkl (And.intro hkm hkr))
     have HBEL:=Lib.hid hbel
     have hB0':=HB0.out
     have HATW:Hid (∀ W',Below W.heap.size W W' → AtD W' B x):=Lib.hid fun W' hb => HAT1.out.low.keep (below_two' HB0.out (below_two' HBEL.out hb))
     have HSTW:Hid (∀ W',Below W.heap.size W W' → Sts W' (.slice sA sn sc) l):=Lib.hid fun W' hb => by rw [HLL.out]; exact (HSTS.out.keep (below_two' HB0.out (below_two' HBEL.out hb))).sts
     obtain ⟨ab,hab⟩:∃ ab,ab = aboveTb l (i:Int):=⟨_,rfl⟩
     obtain ⟨kl,hkl'⟩:∃ kl,kl = kidsTb l (i:Int):=⟨_,rfl⟩
     have hil:i < l.length:=by have:=HSL.out; omega
     have hae:ab = abG l i:=by rw [hab,aboveTb_in hil]
     have hke:kl = kids l i:=by rw [hkl',kidsTb_in hil]
     obtain ⟨wa,hwa⟩:∃ wa,wa = withinG ab m:=⟨_,rfl⟩
     obtain ⟨kd,hkd⟩:∃ kd,kd = kind l i:=⟨_,rfl⟩
     have HWA:Hid (∀ d os,CallsIn Fence.wide 2 Tryz.prog 59 #[.int .u64 ab,.int .u64 m] (grow (redrawn W d) os) fun e w'' => e = .returned (.bool wa) ∧ ∃ p:Regrown,w'' = grow (redrawn W p.d) p.os):=Lib.hid fun d os => callsIn_wide.2 ((within_any ab m (by rw [hab]; exact aboveTb_lt _ _) H64.out _).mono fun e w'' ⟨he,hw⟩ => ⟨by rw [he,hwa],⟨d,os⟩,hw.symm⟩)
     have HAA:Hid (∀ d os,CallsIn Fence.wide 2 Tryz.prog 62 #[.pointer (some ⟨B,0,none⟩),.int .i64 (i:Int)] (grow (redrawn W d) os) fun e w'' => e = .returned (.int .u64 ab) ∧ ∃ p:Regrown,w'' = grow (redrawn W p.d) p.os):=Lib.hid fun d os => callsIn_wide.2 ((HAB.out _ (HATW.out _ (below_regrown W d os)) (i:Int)).mono fun e w'' ⟨v,he,hv,hb⟩ => ⟨by rw [he,hv,hab],regrown_of_below (below_two' (below_regrown W d os) hb)⟩)
     have HKW:Hid (∀ W',Below W.heap.size W W' → Calls Tryz.prog 64 #[.pointer (some ⟨B,0,none⟩),.int .i64 (i:Int)] W' (RetDn W' (fun W v => Rd W v (intV kl)))):=Lib.hid fun W' hb => by rw [hkl']; exact HKD.out W' (HATW.out W' hb) (i:Int)
     have hK:=ofG_lt kl
     have hkn:kl.length ≤ 60:=by
      rw [hke]
      have h1:=kids_le l i l.length
      have h2:=h60.out
      unfold kids
      omega
     obtain ⟨K,hKe⟩:∃ K,K = ofG kl:=⟨_,rfl⟩
     rw [← hKe] at hK
     have HKE:=Lib.hid (And.intro hKe hkn)
     obtain ⟨q1,hq1⟩:∃ q1,q1 = kidsIn l m i:=⟨_,rfl⟩
     have HCO:Hid ((bitsL (K &&& m)).length = q1):=Lib.hid (by rw [hKe,hke,hq1]; exact count_kids m i (by have:=h60.out; omega))
     obtain ⟨wk,hwk⟩:∃ wk,wk = withinG K m:=⟨_,rfl⟩
     have HKB:Hid (roundP l m i = (wa && (!(decide (kd = 2) && !decide (q1 = 1)) && !(decide (kd = 3) && !wk)))):=Lib.hid (by
      unfold roundP kidsB
      rw [hwa,hae,hkd,hq1,hwk,hKe,hke,within_kids m i (by have:=h60.out; omega)])
     rw [HKB.out] at HRP
     have hka:bits .and .u64 (K:Int) (m:Int) = ((K &&& m:Nat):Int):=bits_and_u64_nat K m hK H64.out
     have HCN:=Lib.hid (fun W => count_any (K &&& m) (Nat.lt_of_le_of_lt Nat.and_le_left hK) W)
     rw [HCO.out] at HCN
     have HWK:=Lib.hid (fun W => within_any K m hK H64.out W)
     rw [← hwk] at HWK
     have k3:=cell_regrown (cell_of_block' hkb (i:=0) rfl)
     have k5:=cell_regrown (cell_of_block' hkm (i:=0) rfl)
     obtain ⟨bs,bo,rfl,hbs,x1,-⟩:=(HSTW.out W (Below.refl _ _)).at_ hisn
     rw [← hkd] at x1
     have hkl3:=KitC.block_on (KitC.block_on HN.out.2.1 HB0.out) HBEL.out
     have HCL:Hid (∀ W',Below W.heap.size W W' → W'.cell? ⟨w.heap.size + 1,0,none⟩ = some (.slice (some ⟨bs,bo,none⟩) sn sc) ∧ W'.cell? ⟨w.heap.size + 1 + 1,0,none⟩ = some (.int .u64 m) ∧ W'.cell? ⟨w.heap.size + 1 + 1 + 1,0,none⟩ = some (.bool false) ∧ W'.frozen? ⟨w.heap.size + 1 + 1 + 1,0,none⟩ = false ∧ W'.cell? ⟨bs,bo + i * 6 + 1,none⟩ = some (.int .i64 kd)):=Lib.hid fun W' hb => by
      have h4:=KitC.block_on HKK.out.2.2 hb
      exact ⟨cell_of_block' (KitC.block_on hkl3 hb) (i:=0) rfl,cell_of_block' (KitC.block_on HKK.out.2.1 hb) (i:=0) rfl,cell_of_block' h4 (i:=0) rfl,free_of_block' h4 0,(hb.cell (p:=⟨bs,bo + i * 6 + 1,none⟩) hbs).trans x1⟩
     have hkp3:=KitC.block_on (KitC.block_on HN.out.1 HB0.out) HBEL.out
     have HC3:Hid (∀ W',Below W.heap.size W W' → W'.cell? ⟨w.heap.size,0,none⟩ = some (.pointer (some ⟨B,0,none⟩))):=Lib.hid fun W' hb => cell_of_block' (KitC.block_on hkp3 hb) (i:=0) rfl
     have HY1:Hid (y1.heap.size ≤ W.heap.size):=Lib.hid (Nat.le_trans HB0.out.size HBEL.out.size)
     have hisI:(i:Int) < (sn:Int):=by omega
     clear hq hx hbit hkb hkl hkl3 hkp3 x1 hkm hkr hab hkl' hil hae hke hwa hkd hkn hKe hq1 hwk hK hbel hB0' HKB
     gi_wp2
     refine quiet_below_round rfl (by kernel_rfl) (by kernel_rfl) (by kernel_rfl) ?_
     repeat ((refine wpQuietIn_step (fun _ _ _ _ => trivial) (fun K hK => ?_)); go_simp; first | ((refine hK _ ?_); clear hK K) | ((apply Exists.intro); (refine ⟨fun _ => ?_,hK _ ?_⟩); (first | exact ⟨fun _ => by omega,HAA.out _ _⟩ | exact HAA.out _ _ | exact ⟨fun _ => by omega,HWA.out _ _⟩ | exact HWA.out _ _); clear hK K))
     refine wpQuietIn_nil ?_
     intro _ hw'
     obtain ⟨⟨dq,osq⟩,hw''⟩:=hw'
     subst hw''
     have hb2:=below_regrown W dq osq
     obtain ⟨W2,hW2⟩:∃ W2,grow (redrawn W dq) osq = W2:=⟨_,rfl⟩
     simp only
     rw [hW2] at hb2 ⊢
     have HB2:=Lib.hid hb2
     clear hW2 k3 k5
     have y0:=HC3.out _ HB2.out
     clear hb2
     have hcase:wa = false ∨ (wa = true ∧ kd = 2 ∧ q1 ≠ 1) ∨ (wa = true ∧ kd = 3 ∧ wk = false):=by
      have h:=HRP.out
      rcases bool_two wa with e | e
      ·exact .inl e
      ·rw [e,Bool.true_and] at h
       by_cases h2:kd = 2
       ·refine .inr (.inl ⟨e,h2,?_⟩)
        rw [h2] at h
        simpa using h
       ·refine .inr (.inr ⟨e,?_⟩)
        by_cases h3:kd = 3
        ·refine ⟨h3,?_⟩
         rw [h3] at h
         simpa using h
        ·simp [h2,h3] at h
     clear HRP hisn
     rcases hcase with u0 | ⟨u0,u1,u2⟩ | ⟨u0,u1,u2⟩
     ·subst u0
      simp only [Bool.not_false]
      obtain ⟨z1,z2,z3,z4,z5⟩:=HCL.out _ HB2.out
      have hks:=KitC.block_on HKK.out.2.2 HB2.out
      gi_wp2
      rw [setCell_same hks]
      exact ⟨keepsFrom_below' HB2.out,below_two' HBEL.out HB2.out⟩
     ·have g1:((q1:Int) != 1) = true:=by simp; omega
      subst u0 u1
      simp only [Bool.not_true]
      clear u2
      gi_wp2_with (first
       | (refine ⟨trivial,?_⟩; gi_at_call 64; (with_reducible refine ((callsIn_wide.2 (HKW.out _ HB2.out)).inRound lp).mono ?_); rintro e W3 ⟨kv,rfl,hrd,hb3⟩; have HB3:=Lib.hid (below_two' HB2.out hb3); obtain ⟨z1,z2,z3,z4,z5⟩:=HCL.out _ HB3.out; have HOF:=Lib.hid (of_any kv kl W3 hrd (by have:=HKE.out.2; omega)); rw [← HKE.out.1] at HOF; clear hrd hb3)
       | (refine ⟨trivial,?_⟩; gi_at_call 63; (with_reducible refine ((callsIn_wide.2 HOF.out).inRound lp).mono ?_); rintro e w' ⟨rfl,rfl⟩)
       | (refine ⟨trivial,?_⟩; gi_at_call 65; (with_reducible refine ((callsIn_wide.2 (HCN.out _)).inRound lp).mono ?_); rintro e w' ⟨rfl,rfl⟩)
       | (refine ⟨trivial,?_⟩; gi_at_call 59; (with_reducible refine ((callsIn_wide.2 (HWK.out _)).inRound lp).mono ?_); rintro e w' ⟨rfl,rfl⟩)
       | refine ⟨trivial,?_⟩)
      rw [setCell_same (KitC.block_on HKK.out.2.2 HB3.out)]
      exact ⟨keepsFrom_below' HB3.out,below_two' HBEL.out HB3.out⟩
     ·subst u0 u1 u2
      simp only [Bool.not_true]
      gi_wp2_with (first
       | (refine ⟨trivial,?_⟩; gi_at_call 64; (with_reducible refine ((callsIn_wide.2 (HKW.out _ HB2.out)).inRound lp).mono ?_); rintro e W3 ⟨kv,rfl,hrd,hb3⟩; have HB3:=Lib.hid (below_two' HB2.out hb3); obtain ⟨z1,z2,z3,z4,z5⟩:=HCL.out _ HB3.out; have HOF:=Lib.hid (of_any kv kl W3 hrd (by have:=HKE.out.2; omega)); rw [← HKE.out.1] at HOF; clear hrd hb3)
       | (refine ⟨trivial,?_⟩; gi_at_call 63; (with_reducible refine ((callsIn_wide.2 HOF.out).inRound lp).mono ?_); rintro e w' ⟨rfl,rfl⟩)
       | (refine ⟨trivial,?_⟩; gi_at_call 65; (with_reducible refine ((callsIn_wide.2 (HCN.out _)).inRound lp).mono ?_); rintro e w' ⟨rfl,rfl⟩)
       | (refine ⟨trivial,?_⟩; gi_at_call 59; (with_reducible refine ((callsIn_wide.2 (HWK.out _)).inRound lp).mono ?_); rintro e w' ⟨rfl,rfl⟩)
       | refine ⟨trivial,?_⟩)
      rw [setCell_same (KitC.block_on HKK.out.2.2 HB3.out)]
      exact ⟨keepsFrom_below' HB3.out,below_two' HBEL.out HB3.out⟩
    case done =>
     rintro D W hD hMk hbel hK
     have hkr:=KitC.block_on (KitC.block_on HN.out.2.2.2 HB0.out) hbel
     have hRB:w.heap.size + 1 + 1 + 1 < y1.heap.size:=(Array.getElem?_eq_some_iff.1 HN.out.2.2.2).1
     have hR1:w.heap.size + 1 + 1 + 1 < W1.heap.size:=(Array.getElem?_eq_some_iff.1 HK.out.2.2.2).1
     have hy0:=HB0.out.size
     have hDR:D ≠ w.heap.size + 1 + 1 + 1:=by omega
     have hDB:D ≠ B:=by have:=HBW.out; omega
     have hRB':w.heap.size + 1 + 1 + 1 ≠ B:=by have:=HBW.out; omega
     have hdz:W1.drew.heap.size = W1.heap.size:=rfl
     have hat:AtX (fun b => b = w.heap.size + 1 + 1 + 1 ∨ y1.heap.size ≤ b) W B x:=(HAT1.out.weak fun b hb h => by
      rcases h with h | h
      ·exact ⟨by omega,by omega⟩
      ·omega).keep (below_two' HB0.out hbel)
     have hgr:w.grownBy W (some B):=gr_any HG1.out (gr_none (below_two' HB0.out hbel) none) (by simp)
     have HZ:=Lib.hid (And.intro hkr (And.intro hDR (And.intro hDB (And.intro hRB' (And.intro hat (And.intro hgr hK))))))
     have HDZ:Hid (y1.heap.size ≤ D ∧ w.heap.size ≤ D):=Lib.hid (by omega)
     have z3:=cell_of_block' hkr (i:=0) rfl
     have z4:=free_of_block' hkr 0
     have HMK:=Lib.hid hMk
     clear hkr hRB hR1 hy0 hDR hDB hRB' hdz hat hgr hK hMk hD hbel
     (try simp only [Exit.inBlock,Exit.then])
     go_wp2_with fail
     obtain ⟨hkr,hDR,hDB,hRB,hat,hgr,hK⟩:=HZ.out
     have hKf:(W.setCell ⟨w.heap.size + 1 + 1 + 1,0,none⟩ (.bool true)).heap[D]? = some (.deferred (some [])):=(Below.heap_setCell _ _ _ _ hDR).trans hK
     have hbx:=(World.putObj_heap_other (w:=W.setCell ⟨w.heap.size + 1 + 1 + 1,0,none⟩ (.bool true)) (o:=.deferred none) hDR.symm).trans (block_setCell' hkr 0 (.bool true))
     have hce:=cell_of_block' hbx (i:=0) (v:=.bool true) rfl
     refine ⟨by simp,.inl ⟨_,_,rfl,run_takeDeferred hKf,?_⟩⟩
     refine ⟨.bool true,by simp [results,Tryz.results31,go_sem,hce],?_⟩
     refine ⟨_,rfl,by rw [HSP.out,HM4.out,decide_eq_true HMK.out]; rfl,.inr ((hat.goX (but_set (but_refl W (some (w.heap.size + 1 + 1 + 1))) 0 (.bool true)) (.inl rfl) hRB).go (grownBy_putObj' _ D _) (.inr HDZ.out.1) hDB),?_⟩
     exact gr_any (gr_any hgr (but_set (but_refl W (some (w.heap.size + 1 + 1 + 1))) 0 (.bool true)) (fun j e => .inr (by injection e with e; omega))) (grownBy_putObj' _ D _) (fun j e => .inr (by injection e with e; have:=HDZ.out; omega))
    case stop =>
     rintro D W hD hMk hbel hK
     have hkr:=KitC.block_on (KitC.block_on HN.out.2.2.2 HB0.out) hbel
     have hRB:w.heap.size + 1 + 1 + 1 < y1.heap.size:=(Array.getElem?_eq_some_iff.1 HN.out.2.2.2).1
     have hR1:w.heap.size + 1 + 1 + 1 < W1.heap.size:=(Array.getElem?_eq_some_iff.1 HK.out.2.2.2).1
     have hy0:=HB0.out.size
     have hDR:D ≠ w.heap.size + 1 + 1 + 1:=by omega
     have hDB:D ≠ B:=by have:=HBW.out; omega
     have hRB':w.heap.size + 1 + 1 + 1 ≠ B:=by have:=HBW.out; omega
     have hdz:W1.drew.heap.size = W1.heap.size:=rfl
     have hat:AtX (fun b => b = w.heap.size + 1 + 1 + 1 ∨ y1.heap.size ≤ b) W B x:=(HAT1.out.weak fun b hb h => by
      rcases h with h | h
      ·exact ⟨by omega,by omega⟩
      ·omega).keep (below_two' HB0.out hbel)
     have hgr:w.grownBy W (some B):=gr_any HG1.out (gr_none (below_two' HB0.out hbel) none) (by simp)
     have HZ:=Lib.hid (And.intro hkr (And.intro hDR (And.intro hDB (And.intro hRB' (And.intro hat (And.intro hgr hK))))))
     have HDZ:Hid (y1.heap.size ≤ D ∧ w.heap.size ≤ D):=Lib.hid (by omega)
     have z3:=cell_of_block' hkr (i:=0) rfl
     have z4:=free_of_block' hkr 0
     have HMK:=Lib.hid hMk
     clear hkr hRB hR1 hy0 hDR hDB hRB' hdz hat hgr hK hMk hD hbel
     refine wpIn_wide.2 ?_
     go_wp2_with fail
     obtain ⟨hkr,hDR,hDB,hRB,hat,hgr,hK⟩:=HZ.out
     have hbx:=(World.putObj_heap_other (w:=W) (o:=.deferred none) hDR.symm).trans hkr
     have hce:=cell_of_block' hbx (i:=0) rfl
     refine ⟨by simp,.inl ⟨_,_,rfl,run_takeDeferred hK,?_⟩⟩
     refine ⟨.bool false,by simp [results,Tryz.results31,go_sem,hce],?_⟩
     refine ⟨_,rfl,by rw [HSP.out,HM4.out,decide_eq_false (by have:=HMK.out; omega)]; rfl,.inr (hat.go (grownBy_putObj' _ D _) (.inr HDZ.out.1) hDB),?_⟩
     exact gr_any hgr (grownBy_putObj' _ D _) (fun j e => .inr (by injection e with e; have:=HDZ.out; omega))
end
end Go.Proofs.YtckojimeglkobaaGreatDoor