/- SoundAwake, SoundRef, TransOpen, ShapeOpen, PrintOpen, joined. -/
import Derived.Test.YtejbpleghjgpbaaGreatDoorMSoundOf24
import Derived.Laws.StructEq
import Derived.Test.YtejbpleghjgpbaaGreatDoorMSoundOf08
import Derived.Test.YtejbpleghjgpbaaGreatDoorMSoundOf07
import Derived.Test.YtejbpleghjgpbaaGreatDoorMSoundOf09
namespace Go.Proofs.YtejbpleghjgpbaaGreatDoor
open Go.RowKit Go.Sort TermSpec NamesSpec EvalSpec ActSpec TransSpec SynSpec RulesSpec PrintSpec SoundSpec
set_option maxRecDepth 100000
def sxA (k:Int):Sx:=⟨⟨#[97]⟩,k,-1,[],[],[]⟩
def cxA (k:Int):Cx:=⟨⟨#[99]⟩,[],[],[sxA k]⟩
theorem cxA_few (k:Int):FewR (cxA k):=by
 have z1:(0:Nat) ≤ 1000:=by decide
 have z2:(1:Nat) ≤ 1000:=by decide
 have z3:(1:Nat) ≤ 9223372036854775807:=by decide
 have z4:(0:Nat) ≤ 1000000:=by decide
 have z5:(0:Nat) ≤ 100:=by decide
 refine ⟨(fun s h => by cases h),z1,(fun v h => by cases h),z1,fun s h => ?_,z2⟩
 rw [List.mem_singleton.1 h]
 exact ⟨z3,⟨(fun a h => by cases h),z4,(fun a h => by cases h),z4,(fun t h => by cases h),z4⟩,z5⟩
theorem cxA_fit (k:Int):FitM (cxA k):=by
 have z2:(1:Nat) ≤ 100000:=by decide
 have z3:(1:Nat) ≤ 9223372036854775807:=by decide
 have z4:(0:Nat) ≤ 100000:=by decide
 refine ⟨z3,(fun s h => by cases h),(fun v h => by cases h),z2,fun s h => ?_⟩
 rw [List.mem_singleton.1 h]
 exact ⟨z3,(fun a h => by cases h),z4,(fun a h => by cases h),z4,z4,fun t h => by cases h⟩
theorem cxA_one:soundC (cxA 1) = true:=by decide +kernel
theorem cxA_two:soundC (cxA 2) = false:=by decide +kernel
theorem cxA_may:mayC (cxA 2) = true:=by decide +kernel
theorem cxA_of:ofF (cxA 2) = [⟨5,0,0⟩] ∧ ofE (cxA 2) = 0:=by
 unfold ofF ofE
 rw [if_pos cxA_may,if_pos cxA_may]
 exact ⟨rfl,rfl⟩
theorem kids_line:[(⟨5,0,0⟩:Fw)].map lineF = [⟨#[107,105,100,115,32,48,32,48]⟩]:=by decide +kernel
theorem flaw_fit:FwFit ⟨5,0,0⟩:=by refine ⟨⟨?_,?_⟩,⟨?_,?_⟩,?_,?_⟩ <;> simp
theorem sb15 (s:ByteArray) (a b:Int) (w:World):(Instr.build 41 #[(0,.string s),(1,.int .i64 a),(2,.int .i64 b)]).run Tryz.prog w = .ok (.agg #[.string s,.int .i64 a,.int .i64 b,.slice none 0 0,.slice none 0 0,.slice none 0 0]) w:=run_build w 41 _ _ (by kernel_rfl)
theorem cb15 (s:ByteArray) (A:Option Addr) (n c:Nat) (w:World):(Instr.build 26 #[(0,.string s),(3,.slice A n c)]).run Tryz.prog w = .ok (.agg #[.string s,.slice none 0 0,.slice none 0 0,.slice A n c]) w:=run_build w 26 _ _ (by kernel_rfl)
abbrev sxO (k:Int):Obj:=.cells #[.string ⟨#[97]⟩,.int .i64 k,.int .i64 (-1),.slice none 0 0,.slice none 0 0,.slice none 0 0] 41
abbrev cxO (b:Nat):Obj:=.cells #[.string ⟨#[99]⟩,.slice none 0 0,.slice none 0 0,.slice (some ⟨b,0,none⟩) 1 1] 26
theorem cxA_in {W:World} {b:Nat} {k:Int} (h:W.heap[b]? = some (sxO k)):ChIn W (.slice none 0 0) (.slice none 0 0) (.slice (some ⟨b,0,none⟩) 1 1) (cxA k):=by
 have hz:∀ x,Acs x (.slice none 0 0) []:=fun x => acs_nil x
 refine ⟨Rd.nil _,Rdk.nil 4 _,⟨[⟨sxA k,none,0,0,none,0,0,none,0,0⟩],rfl,rdk_whole h rfl rfl (Nat.le_refl _),fun p hp => ?_⟩⟩
 rw [List.mem_singleton.1 hp]
 exact ⟨hz _,hz _,⟨[],rfl,Rdk.nil _ _,fun q hq => by cases hq⟩⟩
set_option maxRecDepth 100000 in
set_option maxHeartbeats 8000000 in
theorem soawake_any (w:World) (hp:SwIn w):Calls Tryz.prog 5 #[] w (RetB w true):=by
 have b2:=sb15
 have b3:=cb15
 obtain ⟨W2,hW2⟩:∃ W2,(w.alloc (sxO 1)).alloc (cxO w.heap.size) = W2:=⟨_,rfl⟩
 have q1:=KitC.below_one w (sxO 1)
 have q2:=KitC.below_one (w.alloc (sxO 1)) (cxO w.heap.size)
 rw [hW2] at q2
 have hb2:=below_two' q1 q2
 have h1:=KitC.block_on (heap_alloc_new w (sxO 1)) q2
 have h2:=heap_alloc_new (w.alloc (sxO 1)) (cxO w.heap.size)
 rw [hW2,World.size_alloc] at h2
 have HIS:=Lib.hid (fun W (hW:Below W2.heap.size W2 W) => sis_any (cxA 1) none 0 0 none 0 0 (some ⟨w.heap.size,0,none⟩) 1 1 W ((cxA_in h1).keep hW) (cxA_fit 1) (cxA_few 1))
 rw [show (cxA 1).s = ⟨#[99]⟩ from rfl,cxA_one] at HIS
 have HK2:=Lib.hid (fun W (hW:Below W2.heap.size W2 W) => KitC.block_on h2 hW)
 have HSW:=Lib.hid (fun W (hW:Below w.heap.size w W) => hp.keep hW)
 have HB2:=Lib.hid hb2
 have HW2:=Lib.hid hW2
 have HSZ2:Hid (w.heap.size + 1 < W2.heap.size):=Lib.hid (Array.getElem?_eq_some_iff.1 h2).1
 obtain ⟨c0,c1,c2,c3⟩:=cells_4 h2
 clear hp hW2 q1 q2 hb2 h1 h2
 go_enter Tryz.func5,Tryz.ntmps5
 go_wp2_with fail
 rw [HW2.out]
 go_wp2_with (go_at_call 7; go_fit (HIS.out _ (Below.refl _ _)))
 rintro e w3 ⟨rfl,hb3⟩
 have HB3:=Lib.hid hb3
 clear hb3 c0 c1 c2 c3
 -- the second chart
 obtain ⟨W4,hW4⟩:∃ W4,w3.alloc (sxO 2) = W4:=⟨_,rfl⟩
 have h4:W4.heap[w3.heap.size]? = some (sxO 2):=by rw [← hW4]; exact heap_alloc_new _ _
 have hb4:Below w3.heap.size w3 W4:=by rw [← hW4]; exact KitC.below_one _ _
 have hk4:=HK2.out _ (below_two' HB3.out hb4)
 obtain ⟨c0,c1,c2,c3⟩:=cells_4 hk4
 have f3:W4.frozen? ⟨w.heap.size + 1,3,none⟩ = false:=free_of_block' hk4 3
 have hws:w.heap.size + 1 < w3.heap.size:=Nat.lt_of_lt_of_le HSZ2.out HB3.out.size
 have HW4:=Lib.hid hW4
 obtain ⟨W5,hW5⟩:∃ W5,W4.setCell ⟨w.heap.size + 1,3,none⟩ (.slice (some ⟨w3.heap.size,0,none⟩) 1 1) = W5:=⟨_,rfl⟩
 have hk5:W5.heap[w.heap.size + 1]? = some (cxO w3.heap.size):=by rw [← hW5]; exact block_setCell' hk4 3 _
 have h5:W5.heap[w3.heap.size]? = some (sxO 2):=by rw [← hW5]; exact (Below.heap_setCell _ _ _ _ (by simp only; omega)).trans h4
 have hb5:Below w.heap.size w W5:=by rw [← hW5]; exact (below_two' HB2.out (below_two' HB3.out hb4)).setCell (by simp) _
 have HOF:=Lib.hid (fun W (hW:Below W5.heap.size W5 W) => sof_any (cxA 2) none 0 0 none 0 0 (some ⟨w3.heap.size,0,none⟩) 1 1 W ((cxA_in h5).keep hW) (cxA_fit 2) (cxA_few 2))
 have HI2:=Lib.hid (fun W (hW:Below W5.heap.size W5 W) => sis_any (cxA 2) none 0 0 none 0 0 (some ⟨w3.heap.size,0,none⟩) 1 1 W ((cxA_in h5).keep hW) (cxA_fit 2) (cxA_few 2))
 rw [show (cxA 2).s = ⟨#[99]⟩ from rfl,cxA_two] at HI2
 rw [show (cxA 2).s = ⟨#[99]⟩ from rfl,cxA_of.1,cxA_of.2] at HOF
 have HK5:=Lib.hid (fun W (hW:Below W5.heap.size W5 W) => KitC.block_on hk5 hW)
 have HB5:=Lib.hid hb5
 have HW5:=Lib.hid hW5
 clear h4 hb4 hk4 hW4 hW5 h5 hb5
 go_wp2_with (rw [HW4.out])
 rw [HW5.out]
 clear c0 c1 c2 c3 f3 hws
 obtain ⟨c0,c1,c2,c3⟩:=cells_4 hk5
 clear hk5
 go_wp2_with (go_at_call 6; go_fit (HOF.out _ (Below.refl _ _)))
 rintro e w6 ⟨A,n,cp,rfl,hn,hfw,hb6⟩
 have HB6:=Lib.hid hb6
 have HFW:=Lib.hid hfw
 obtain rfl:n = 1:=hn
 clear hb6 hfw c0 c1 c2 c3
 go_wp2_with (go_at_call 15; go_fit (lines_any15 A 1 cp [⟨5,0,0⟩] w6 (HSW.out _ (below_two' HB5.out HB6.out)) HFW.out (fun f hf => by rw [List.mem_singleton.1 hf]; exact flaw_fit) (by decide)))
 rintro e w7 ⟨v,rfl,hrd,hb7⟩
 rw [kids_line] at hrd
 obtain ⟨A7,n7,c7,rfl,hn7,hc7,hA7⟩:=hrd.strs
 obtain rfl:n7 = 1:=hn7.symm
 obtain ⟨b7,o7,rfl,hlt7,hcell7⟩:=hA7 (by decide)
 have hc0:=hcell7 0 _ rfl
 rw [Nat.add_zero] at hc0
 have HB7:=Lib.hid (below_two' HB6.out hb7)
 obtain ⟨c0,c1,c2,c3⟩:=cells_4 (HK5.out _ HB7.out)
 have HC0:=Lib.hid (fun W (hW:Below w7.heap.size w7 W) => (hW.cell (p:=⟨b7,o7,none⟩) hlt7).trans hc0)
 clear hrd hn7 hc7 hA7 hcell7 hb7 hc0
 go_wp2_with (go_at_call 7; go_fit (HI2.out _ HB7.out))
 rintro e w8 ⟨rfl,hb8⟩
 have HB8:=Lib.hid (below_two' HB7.out hb8)
 have d0:=HC0.out _ hb8
 have hl8:b7 < w8.heap.size:=Nat.lt_of_lt_of_le hlt7 hb8.size
 clear hb8 c0 c1 c2 c3
 go_wp2_with fail
 go_ret
 exact ⟨rfl,below_two' HB5.out HB8.out⟩
end Go.Proofs.YtejbpleghjgpbaaGreatDoor
namespace Go.Proofs.YtejbpleghjgpbaaGreatDoor
open Go.RowKit TermSpec NamesSpec EvalSpec ActSpec TransSpec SynSpec RulesSpec PrintSpec SoundSpec
set_option maxRecDepth 100000
section
variable (x:Cx) (eA:Option Addr) (en ec:Nat) (vA:Option Addr) (vn vc:Nat) (sA:Option Addr) (sn sc:Nat) (w:World) (h:ChIn w (.slice eA en ec) (.slice vA vn vc) (.slice sA sn sc) x) (hf:FewR x) (hmr:MayR x)
include h hf hmr
set_option maxRecDepth 100000 in
set_option maxHeartbeats 8000000 in
theorem rsof_any:Calls Tryz.prog 11 #[.agg #[.string x.s,.slice eA en ec,.slice vA vn vc,.slice sA sn sc]] w (RetFw w (flawsC x)):=by
 have HBR:=Lib.hid (fun (r:Int) (h1:1 ≤ r) (h2:r ≤ 10) W (hW:Below w.heap.size w W) => rbk_any x eA en ec vA vn vc sA sn sc W (h.keep hW) hf hmr r h1 h2)
 have HBL:Hid (∀ k,(allTo x k).length ≤ k * 1000000):=Lib.hid (fun k => allTo_length (n:=1000000) (fun r => brk_few15 hf r) k)
 have HBF:Hid (∀ r,(brk x r).length ≤ 1000000):=Lib.hid (fun r => brk_few15 hf r)
 obtain ⟨i0,hi,hz0,hz1,hz2⟩:=info_parts inf_flaw
 have HI:=Lib.hid (And.intro hi (And.intro hz0 (And.intro hz1 hz2)))
 obtain ⟨nm,hnm⟩:∃ nm,nm = x.s:=⟨_,rfl⟩
 rw [← hnm] at HBR ⊢
 obtain ⟨W1,hW1⟩:∃ W1,w.alloc (.cells #[.string nm,.slice eA en ec,.slice vA vn vc,.slice sA sn sc] 26) = W1:=⟨_,rfl⟩
 have hb1:Below w.heap.size w W1:=by rw [← hW1]; exact KitC.below_one _ _
 have hk1:W1.heap[w.heap.size]? = some (.cells #[.string nm,.slice eA en ec,.slice vA vn vc,.slice sA sn sc] 26):=by rw [← hW1]; exact heap_alloc_new _ _
 have HK:=Lib.hid (fun W (hW:Below W1.heap.size W1 W) => KitC.block_on hk1 hW)
 have HW1:=Lib.hid hW1
 have HB1:=Lib.hid hb1
 obtain ⟨W2,hW2⟩:∃ W2,W1.alloc (.cells #[] 56) = W2:=⟨_,rfl⟩
 have HW2:=Lib.hid hW2
 have hsz1:w.heap.size + 1 = W1.heap.size:=by rw [← hW1]; simp
 have HST0:Hid (RowF W1 W2 (.slice (some ⟨w.heap.size + 1,0,none⟩) 0 0) []):=Lib.hid (by
  rw [hsz1,← hW2]
  exact ⟨World.ownsRow_lit W1 #[] 0 (Nat.le_refl _) (Nat.zero_le _) rfl,KitC.below_one _ _⟩)
 obtain ⟨F,hF⟩:∃ F:Nat → List Fw,F = allTo x:=⟨_,rfl⟩
 obtain ⟨B,hB⟩:∃ B:Int → List Fw,B = brk x:=⟨_,rfl⟩
 have HNX:Hid (∀ k:Nat,F (k + 1) = F k ++ B ((k:Int) + 1)):=Lib.hid (fun k => by rw [hF,hB]; rfl)
 have HF0:Hid (F 0 = []):=Lib.hid (by rw [hF]; rfl)
 rw [show flawsC x = F 10 by rw [hF]; rfl]
 rw [← hF] at HBL
 rw [← hB] at HBR HBF
 clear h hf hmr hnm hW1 hb1 hk1 hF hB hi hz0 hz1 hz2 hW2 hsz1
 go_enter Tryz.func11,Tryz.ntmps11
 go_wp2_with fail
 rw [HW1.out,HW2.out]
 go_loopw [3,4] (fun p i wr => SoRel W1 F p i wr) (fun _ i _ => 11 - (intOf i).toNat)
 case atStart => exact ⟨0,Nat.zero_le _,rfl,Lib.hid (by rw [HF0.out]; exact HST0.out)⟩
 case round =>
  obtain ⟨k,hk,rfl,HR⟩:=hrel
  by_cases hlt:k < 10
  case neg =>
   obtain rfl:k = 10:=by omega
   go_wp2_with fail
   go_ret
   obtain ⟨A,n,cp,he,hn,hfw,hbw⟩:=HR.out.ret
   exact ⟨A,n,cp,he,hn,hfw,below_two' HB1.out hbw⟩
  have hkI:decide ((k:Int) + 1 ≤ 10) = true:=by simp; omega
  have hkl:(k:Int) ≤ 64:=by omega
  obtain ⟨c0,c1,c2,c3⟩:=cells_4 (HK.out _ HR.out.below)
  have hws:w.heap.size < wr.heap.size:=(Array.getElem?_eq_some_iff.1 (HK.out _ HR.out.below)).1
  go_wp2_with (go_at_call 18; go_fit (HBR.out ((k:Int) + 1) (by omega) (by omega) _ (below_two' HB1.out HR.out.below)))
  rintro e w5 ⟨A,n,cp,rfl,hn,hfw,hb⟩
  have HR5:=Lib.hid (HR.out.keep hb)
  have HF5:=Lib.hid hfw
  have HN:=Lib.hid hn
  have hl1:=HBL.out k
  have hl2:=HBF.out ((k:Int) + 1)
  have HL1:Hid ((F k).length + (B ((k:Int) + 1)).length ≤ maxLen):=Lib.hid (by simp only [maxLen]; omega)
  have HL2:Hid (((F k).length + (B ((k:Int) + 1)).length) * 24 ≤ 140737488355328):=Lib.hid (by omega)
  have HSZ:Hid (W1.heap.size ≤ w5.heap.size):=Lib.hid HR5.out.below.size
  clear hb hfw hn c0 c1 c2 c3 hws hl1 hl2
  go_wp2_with (at_builtin; refine wpList_append_rdk _ rfl (.tmp 10) (.tmp 13) _ rfl W1.heap.size 56 i0 (.agg #[.int .i64 0,.int .i64 0,.int .i64 0]) 3 24 Tryz.underlying29 HI.out.1 HI.out.2.1 HI.out.2.2.1 HI.out.2.2.2 rfl (by decide) _ _ _ rfl HR5.out.1 _ _ _ rfl HF5.out (fwsV_one _) HL1.out HL2.out HSZ.out ?_; intro p2 w6 hrow2 hg2 hob; have HR2:=Lib.hid (RowF.addL HR5.out hrow2 hg2); clear hrow2 hg2 hob)
  go_roundw
  case rel => exact ⟨k + 1,hlt,by go_num,Lib.hid (by rw [HNX.out]; exact HR2.out)⟩
  case measure => simp [intOf]; omega
end
def SkRel (W1:World) (K:Nat → Bool) (i:Value) (wr:World):Prop:=∃ k:Nat,k ≤ 10 ∧ i = .int .i64 (10 - (k:Int)) ∧ Hid (K k = true) ∧ Hid (Below W1.heap.size W1 wr)
section
variable (x:Cx) (eA:Option Addr) (en ec:Nat) (vA:Option Addr) (vn vc:Nat) (sA:Option Addr) (sn sc:Nat) (w:World) (h:ChIn w (.slice eA en ec) (.slice vA vn vc) (.slice sA sn sc) x) (hm:FitM x) (hf:FewR x)
include h hm hf
set_option maxRecDepth 100000 in
set_option maxHeartbeats 8000000 in
theorem rsis_any:Calls Tryz.prog 8 #[.agg #[.string x.s,.slice eA en ec,.slice vA vn vc,.slice sA sn sc]] w (RetB w (soundC x)):=by
 have HM:=Lib.hid (fun W (hW:Below w.heap.size w W) => mayC_any x eA en ec vA vn vc sA sn sc W (h.keep hW) hm)
 have HBR:=Lib.hid (fun (hc:mayC x = true) (r:Int) (h1:1 ≤ r) (h2:r ≤ 10) W (hW:Below w.heap.size w W) => rbk_any x eA en ec vA vn vc sA sn sc W (h.keep hW) hf (mayR_of hc).1 r h1 h2)
 have HBF:Hid (∀ r,(brk x r).length ≤ 1000000):=Lib.hid (fun r => brk_few15 hf r)
 obtain ⟨nm,hnm⟩:∃ nm,nm = x.s:=⟨_,rfl⟩
 rw [← hnm] at HM HBR ⊢
 obtain ⟨W1,hW1⟩:∃ W1,w.alloc (.cells #[.string nm,.slice eA en ec,.slice vA vn vc,.slice sA sn sc] 26) = W1:=⟨_,rfl⟩
 have hb1:Below w.heap.size w W1:=by rw [← hW1]; exact KitC.below_one _ _
 have hk1:W1.heap[w.heap.size]? = some (.cells #[.string nm,.slice eA en ec,.slice vA vn vc,.slice sA sn sc] 26):=by rw [← hW1]; exact heap_alloc_new _ _
 have HK:=Lib.hid (fun W (hW:Below W1.heap.size W1 W) => KitC.block_on hk1 hW)
 have HW1:=Lib.hid hW1
 have HB1:=Lib.hid hb1
 obtain ⟨c0,c1,c2,c3⟩:=cells_4 hk1
 cases hmc:mayC x with
 | false =>
   rw [hmc] at HM
   have HE:Hid (soundC x = false):=Lib.hid (by unfold soundC; rw [hmc]; rfl)
   rw [HE.out]
   clear h hm hf hnm hW1 hb1 hk1 hmc HBR HBF
   go_enter Tryz.func8,Tryz.ntmps8
   go_wp2_with (rw [HW1.out]; go_at_call 9; go_fit (HM.out _ HB1.out))
   rintro e w2 ⟨rfl,hb⟩
   have HB2:=Lib.hid (below_two' HB1.out hb)
   clear hb c0 c1 c2 c3
   go_wp2_with fail
   go_ret
   exact ⟨rfl,HB2.out⟩
 | true =>
   rw [hmc] at HM
   have HBR:=Lib.hid (HBR.out hmc)
   obtain ⟨K,hKK⟩:∃ K:Nat → Bool,K = keptFrom x:=⟨_,rfl⟩
   obtain ⟨B,hB⟩:∃ B:Int → List Fw,B = brk x:=⟨_,rfl⟩
   have HNX:Hid (∀ k:Nat,K (k + 1) = (decide ((B (10 - (k:Int))).length = 0) && K k)):=Lib.hid (fun k => by rw [hKK,hB]; rfl)
   have HK0:Hid (K 0 = true):=Lib.hid (by rw [hKK]; rfl)
   have HKE:Hid (soundC x = K 10):=Lib.hid (by unfold soundC; rw [hmc,hKK,kept_all]; rfl)
   have HNO:Hid (∀ k:Nat,k < 10 → ¬ (B (10 - (k:Int))).length = 0 → K 10 = false):=Lib.hid (fun k hk hne => by
    rw [hKK,Bool.eq_false_iff]
    intro hh
    have:=(keptFrom_iff (Nat.le_refl 10)).1 hh (10 - (k:Int)) (by omega) (by omega)
    rw [hB,this] at hne
    exact hne rfl)
   rw [HKE.out]
   rw [← hB] at HBR HBF
   clear h hm hf hnm hW1 hb1 hk1 hmc hKK hB HKE
   go_enter Tryz.func8,Tryz.ntmps8
   go_wp2_with (rw [HW1.out]; go_at_call 9; go_fit (HM.out _ HB1.out))
   rintro e w2 ⟨rfl,hb⟩
   have HB2:=Lib.hid hb
   clear hb c0 c1 c2 c3
   go_wp2_with fail
   go_loopw [3] (fun i wr => SkRel W1 K i wr) (fun i _ => (intOf i).toNat)
   case atStart => exact ⟨0,Nat.zero_le _,rfl,HK0,HB2⟩
   case round =>
    obtain ⟨k,hk,rfl,HKK,HBW⟩:=hrel
    by_cases hlt:k < 10
    case neg =>
     obtain rfl:k = 10:=by omega
     go_wp2_with fail
     go_ret
     exact ⟨ret_bool HKK.out.symm,below_two' HB1.out HBW.out⟩
    obtain ⟨r,hr⟩:∃ r:Nat,(10 - (k:Int)) = (r:Int) + 1:=⟨9 - k,by omega⟩
    have hkI:decide ((r:Int) + 1 ≥ 1) = true:=decide_eq_true (by omega)
    have hrl:(r:Int) ≤ 64:=by omega
    have HRK:=Lib.hid hr
    have HRG:Hid (1 ≤ (r:Int) + 1 ∧ (r:Int) + 1 ≤ 10):=Lib.hid (by omega)
    rw [hr]
    obtain ⟨c0,c1,c2,c3⟩:=cells_4 (HK.out _ HBW.out)
    have hws:w.heap.size < wr.heap.size:=(Array.getElem?_eq_some_iff.1 (HK.out _ HBW.out)).1
    have HNXk:=Lib.hid (HNX.out k)
    have HNOk:=Lib.hid (HNO.out k hlt)
    rw [hr] at HNXk HNOk
    clear hr
    go_wp2_with (go_at_call 18; go_fit (HBR.out ((r:Int) + 1) HRG.out.1 HRG.out.2 _ (below_two' HB1.out HBW.out)))
    rintro e w5 ⟨A,n,cp,rfl,hn,hfw,hb⟩
    have HB5:=Lib.hid (below_two' HBW.out hb)
    have HN:=Lib.hid hn
    clear hb hfw hn c0 c1 c2 c3 hws
    by_cases hz:n = 0
    ·subst hz
     have HKN:Hid (K (k + 1) = true):=Lib.hid (by rw [HNXk.out,HKK.out,← HN.out]; rfl)
     go_wp2_with fail
     go_roundw
     case rel => exact ⟨k + 1,hlt,by have:=HRK.out; congr 1; omega,HKN,HB5⟩
     case measure => simp [intOf]
    ·have g:decide (0 < (n:Int)) = true:=by simp; omega
     have g':decide (0 < n) = true:=by simp; omega
     have HKE:Hid (K 10 = false):=Lib.hid (HNOk.out (by rw [← HN.out]; exact hz))
     go_wp2_with fail
     go_ret
     exact ⟨ret_bool HKE.out.symm,below_two' HB1.out HB5.out⟩
end
end Go.Proofs.YtejbpleghjgpbaaGreatDoor
namespace Go.Proofs.YtejbpleghjgpbaaGreatDoor
open Go.RowKit Go.ChangeShapes Go.WideShapes Go.Deep TermSpec EvalSpec ActSpec TransSpec
set_option maxRecDepth 100000
theorem cells_trans:Tryz.prog.cellsOf 45 = 4:=by kernel_rfl
theorem cells_acts:Tryz.prog.cellsOf 38 = 1:=by kernel_rfl
section
variable {H:Type} {enc:TypeId × Value → H} {W:World} {base:Nat} {spare:Nat → Bool} {held:Bool} {b0:Nat} {r:Reach} {v:Value} {d:DataW H} {p:List MemPlace}
end
end Go.Proofs.YtejbpleghjgpbaaGreatDoor
namespace Go.Proofs.YtejbpleghjgpbaaGreatDoor
open Go.RowKit Go.ChangeShapes Go.WideShapes Go.Deep ShapeSpec OpenD
set_option maxRecDepth 100000
theorem cells_state:Tryz.prog.cellsOf 41 = 6:=by kernel_rfl
theorem cells_sacts:Tryz.prog.cellsOf 38 = 1:=by kernel_rfl
theorem shcells_strs:Tryz.prog.cellsOf 39 = 1:=by kernel_rfl
section
variable {H:Type} {enc:TypeId × Value → H} {W:World} {base:Nat} {spare:Nat → Bool} {held:Bool}
variable {b0:Nat} {r:Reach} {v:Value} {d:DataW H} {p:List MemPlace}
end
end Go.Proofs.YtejbpleghjgpbaaGreatDoor
namespace Go.Proofs.YtejbpleghjgpbaaGreatDoor
open Go.RowKit Go.ChangeShapes Go.WideShapes Go.Deep TermSpec EvalSpec ActSpec TransSpec SynSpec PrintSpec
set_option maxRecDepth 100000
theorem cells_chart:Tryz.prog.cellsOf 26 = 4:=by kernel_rfl
theorem cells_lvars:Tryz.prog.cellsOf 23 = 1:=by kernel_rfl
theorem cells_lsts:Tryz.prog.cellsOf 24 = 1:=by kernel_rfl
theorem cells_levs:Tryz.prog.cellsOf 22 = 1:=by kernel_rfl
section
variable {H:Type} {enc:TypeId × Value → H} {W:World} {base:Nat} {spare:Nat → Bool} {held:Bool}
theorem dec_text (n:Nat) (cs:List Value) (x:DataW H × List MemPlace) (h:DataW.trod enc Tryz.prog W base spare held n 9 cs = some x):∃ s:ByteArray,cs = sC s ∧ s.size ≤ 9223372036854775807:=by
 obtain ⟨s,hc,_,hw⟩:=DataW.trod_string Tryz.underlying9 h
 exact ⟨s,hc,hw⟩
theorem dec_variable (n:Nat) (cs:List Value) (x:DataW H × List MemPlace) (h:DataW.trod enc Tryz.prog W base spare held n 37 cs = some x):∃ v:Vr,cs = vrV v ∧ (v.s.size ≤ 9223372036854775807 ∧ VFit v):=by
 obtain ⟨xs,m,_,_,hl,hxl,hg⟩:=DataW.trod_struct Tryz.underlying37 h
 rw [cells_var] at hl
 have hxl':xs.length = 4:=hxl
 match cs,hl with
 | [c0,c1,c2,c3],_ =>
   have g0:DataW.trod enc Tryz.prog W base spare held m 9 (([c0,c1,c2,c3].drop 0).take (Tryz.prog.cellsOf 9)) = xs[0]?:=hg 0 _ rfl
   have g1:DataW.trod enc Tryz.prog W base spare held m 3 (([c0,c1,c2,c3].drop 1).take (Tryz.prog.cellsOf 3)) = xs[1]?:=hg 1 _ rfl
   have g2:DataW.trod enc Tryz.prog W base spare held m 3 (([c0,c1,c2,c3].drop 2).take (Tryz.prog.cellsOf 3)) = xs[2]?:=hg 2 _ rfl
   have g3:DataW.trod enc Tryz.prog W base spare held m 3 (([c0,c1,c2,c3].drop 3).take (Tryz.prog.cellsOf 3)) = xs[3]?:=hg 3 _ rfl
   rw [OpenD.cells_int] at g1 g2 g3
   rw [OpenD.cells_str] at g0
   obtain ⟨s,rfl,hs⟩:=OpenD.dec_str g0 (OpenD.some_at (by omega))
   obtain ⟨a,rfl,a1,a2⟩:=dec_int_fit g1 (OpenD.some_at (by omega))
   obtain ⟨b,rfl,b1,b2⟩:=dec_int_fit g2 (OpenD.some_at (by omega))
   obtain ⟨c,rfl⟩:=OpenD.dec_int g3 (OpenD.some_at (by omega))
   exact ⟨⟨s,a,b,c⟩,rfl,hs,a1,a2,b1,b2⟩
theorem dec_acts {m:Nat} {c:Value} {x:Option (DataW H × List MemPlace)} (h:DataW.trod enc Tryz.prog W base spare held m 38 [c] = x) (hx:x.isSome) :
 ∃ (A:Option Addr) (n cp:Nat) (l:List Ac),c = .slice A n cp ∧ Acs W (.slice A n cp) l ∧ ∀ a ∈ l,a.s.size ≤ 9223372036854775807 ∧ Small a.x:=by
 obtain ⟨y,rfl⟩:=Option.isSome_iff_exists.1 hx
 obtain ⟨A,n,cp,ps,rfl,hn,hR,hG,-⟩:=open_rows_c (v:=c) (f:=acV) (Good:=GoodAP W) acV_length (by decide) cells_act Tryz.underlying38 dec_act h
 refine ⟨A,n,cp,ps.map (·.a),rfl,⟨ps,rfl,by rw [List.length_map,← hn]; exact hR,fun p hp => (hG p hp).2.2.2⟩,fun a ha => ?_⟩
 obtain ⟨p,hp,rfl⟩:=List.mem_map.1 ha
 exact ⟨(hG p hp).1,(hG p hp).2.1⟩
def GoodTP (W:World) (p:TP):Prop:=tpN p W ∧ p.t.ev.size ≤ 9223372036854775807 ∧ p.t.tg.size ≤ 9223372036854775807 ∧ Small p.t.g ∧ ∀ a ∈ p.t.acts,a.s.size ≤ 9223372036854775807 ∧ Small a.x
theorem dec_trans (n:Nat) (cs:List Value) (x:DataW H × List MemPlace) (h:DataW.trod enc Tryz.prog W base spare held n 45 cs = some x):∃ p:TP,cs = tpV p ∧ GoodTP W p:=by
 obtain ⟨xs,m,_,_,hl,hxl,hg⟩:=DataW.trod_struct Tryz.underlying45 h
 rw [cells_trans] at hl
 have hxl':xs.length = 4:=hxl
 match cs,hl with
 | [c0,c1,c2,c3],_ =>
   have g0:DataW.trod enc Tryz.prog W base spare held m 9 (([c0,c1,c2,c3].drop 0).take (Tryz.prog.cellsOf 9)) = xs[0]?:=hg 0 _ rfl
   have g1:DataW.trod enc Tryz.prog W base spare held m 43 (([c0,c1,c2,c3].drop 1).take (Tryz.prog.cellsOf 43)) = xs[1]?:=hg 1 _ rfl
   have g2:DataW.trod enc Tryz.prog W base spare held m 38 (([c0,c1,c2,c3].drop 2).take (Tryz.prog.cellsOf 38)) = xs[2]?:=hg 2 _ rfl
   have g3:DataW.trod enc Tryz.prog W base spare held m 9 (([c0,c1,c2,c3].drop 3).take (Tryz.prog.cellsOf 9)) = xs[3]?:=hg 3 _ rfl
   rw [OpenD.cells_str] at g0 g3
   rw [cells_trms] at g1
   rw [cells_acts] at g2
   obtain ⟨ev,rfl,hev⟩:=OpenD.dec_str g0 (OpenD.some_at (by omega))
   obtain ⟨tg,rfl,htg⟩:=OpenD.dec_str g3 (OpenD.some_at (by omega))
   obtain ⟨y1,e1⟩:=Option.isSome_iff_exists.1 (OpenD.some_at (l:=xs) (i:=1) (by omega))
   rw [e1] at g1
   obtain ⟨gA,gn,gc,g,rfl,hgn,hgR,hgG,hgb⟩:=open_rows_c (v:=c1) (f:=tmV) (Good:=fun t => t.s.size ≤ 9223372036854775807) tmV_length (by decide) cells_term Tryz.underlying43 dec_term g1
   obtain ⟨aA,an,ac,l,rfl,haR,haG⟩:=dec_acts g2 (OpenD.some_at (by omega))
   exact ⟨⟨⟨ev,g,l,tg⟩,gA,gn,gc,aA,an,ac⟩,rfl,⟨⟨gn,hgn,hgR⟩,haR⟩,hev,htg,hgG,haG⟩
def GoodSP (W:World) (p:SP):Prop:=spN p W ∧ p.x.s.size ≤ 9223372036854775807 ∧ (∀ a ∈ p.x.en,a.s.size ≤ 9223372036854775807 ∧ Small a.x) ∧ (∀ a ∈ p.x.ex,a.s.size ≤ 9223372036854775807 ∧ Small a.x) ∧
    ∀ t ∈ p.x.tr,t.ev.size ≤ 9223372036854775807 ∧ t.tg.size ≤ 9223372036854775807 ∧ Small t.g ∧ ∀ a ∈ t.acts,a.s.size ≤ 9223372036854775807 ∧ Small a.x
theorem dec_sp (n:Nat) (cs:List Value) (x:DataW H × List MemPlace) (h:DataW.trod enc Tryz.prog W base spare held n 41 cs = some x):∃ p:SP,cs = spV p ∧ GoodSP W p:=by
 obtain ⟨xs,m,_,_,hl,hxl,hg⟩:=DataW.trod_struct Tryz.underlying41 h
 rw [cells_state] at hl
 have hxl':xs.length = 6:=hxl
 match cs,hl with
 | [c0,c1,c2,c3,c4,c5],_ =>
   have g0:DataW.trod enc Tryz.prog W base spare held m 9 (([c0,c1,c2,c3,c4,c5].drop 0).take (Tryz.prog.cellsOf 9)) = xs[0]?:=hg 0 _ rfl
   have g1:DataW.trod enc Tryz.prog W base spare held m 3 (([c0,c1,c2,c3,c4,c5].drop 1).take (Tryz.prog.cellsOf 3)) = xs[1]?:=hg 1 _ rfl
   have g2:DataW.trod enc Tryz.prog W base spare held m 3 (([c0,c1,c2,c3,c4,c5].drop 2).take (Tryz.prog.cellsOf 3)) = xs[2]?:=hg 2 _ rfl
   have g3:DataW.trod enc Tryz.prog W base spare held m 38 (([c0,c1,c2,c3,c4,c5].drop 3).take (Tryz.prog.cellsOf 38)) = xs[3]?:=hg 3 _ rfl
   have g4:DataW.trod enc Tryz.prog W base spare held m 38 (([c0,c1,c2,c3,c4,c5].drop 4).take (Tryz.prog.cellsOf 38)) = xs[4]?:=hg 4 _ rfl
   have g5:DataW.trod enc Tryz.prog W base spare held m 39 (([c0,c1,c2,c3,c4,c5].drop 5).take (Tryz.prog.cellsOf 39)) = xs[5]?:=hg 5 _ rfl
   rw [OpenD.cells_str] at g0
   rw [OpenD.cells_int] at g1 g2
   rw [cells_sacts] at g3 g4
   rw [shcells_strs] at g5
   obtain ⟨s,rfl,hs⟩:=OpenD.dec_str g0 (OpenD.some_at (by omega))
   obtain ⟨a,rfl⟩:=OpenD.dec_int g1 (OpenD.some_at (by omega))
   obtain ⟨b,rfl⟩:=OpenD.dec_int g2 (OpenD.some_at (by omega))
   obtain ⟨a3,n3,k3,l3,rfl,r3,q3⟩:=dec_acts g3 (OpenD.some_at (by omega))
   obtain ⟨a4,n4,k4,l4,rfl,r4,q4⟩:=dec_acts g4 (OpenD.some_at (by omega))
   obtain ⟨y5,e5⟩:=Option.isSome_iff_exists.1 (OpenD.some_at (l:=xs) (i:=5) (by omega))
   rw [e5] at g5
   obtain ⟨a5,n5,k5,ps,rfl,hn5,hR5,hG5,-⟩:=open_rows_c (v:=c5) (f:=tpV) (Good:=GoodTP W) tpV_length (by decide) cells_trans Tryz.underlying39 dec_trans g5
   refine ⟨⟨⟨s,a,b,l3,l4,ps.map (·.t)⟩,a3,n3,k3,a4,n4,k4,a5,n5,k5⟩,rfl,⟨r3,r4,ps,rfl,by rw [← hn5]; exact hR5,fun p hp => (hG5 p hp).1⟩,hs,q3,q4,fun t ht => ?_⟩
   obtain ⟨p,hp,rfl⟩:=List.mem_map.1 ht
   exact (hG5 p hp).2
variable {b0:Nat} {r:Reach} {v:Value} {d:DataW H} {p:List MemPlace}
theorem open_chart (hv:Value.okWide Tryz.prog W r b0 26 v) (h:DataW.Trod enc Tryz.prog W base spare held 26 v d p) :
 ∃ (x:Cx) (eA:Option Addr) (en ec:Nat) (vA:Option Addr) (vn vc:Nat) (sA:Option Addr) (sn sc:Nat),v = .agg #[.string x.s,.slice eA en ec,.slice vA vn vc,.slice sA sn sc] ∧ ChIn W (.slice eA en ec) (.slice vA vn vc) (.slice sA sn sc) x ∧ (FitC x ∧ ∀ v ∈ x.vars,VFit v):=by
 obtain ⟨cs,rfl,_⟩:=okWide_struct Tryz.underlying26 hv
 obtain ⟨fuel,hx⟩:=h
 obtain ⟨xs,m,_,_,hl,hxl,hg⟩:=DataW.trod_struct Tryz.underlying26 hx
 rw [cells_chart] at hl
 have hxl':xs.length = 4:=hxl
 obtain ⟨l⟩:=cs
 match l,hl with
 | [c0,c1,c2,c3],_ =>
   have g0:DataW.trod enc Tryz.prog W base spare held m 9 (([c0,c1,c2,c3].drop 0).take (Tryz.prog.cellsOf 9)) = xs[0]?:=hg 0 _ rfl
   have g1:DataW.trod enc Tryz.prog W base spare held m 22 (([c0,c1,c2,c3].drop 1).take (Tryz.prog.cellsOf 22)) = xs[1]?:=hg 1 _ rfl
   have g2:DataW.trod enc Tryz.prog W base spare held m 23 (([c0,c1,c2,c3].drop 2).take (Tryz.prog.cellsOf 23)) = xs[2]?:=hg 2 _ rfl
   have g3:DataW.trod enc Tryz.prog W base spare held m 24 (([c0,c1,c2,c3].drop 3).take (Tryz.prog.cellsOf 24)) = xs[3]?:=hg 3 _ rfl
   rw [OpenD.cells_str] at g0
   rw [cells_levs] at g1
   rw [cells_lvars] at g2
   rw [cells_lsts] at g3
   obtain ⟨s,rfl,hs⟩:=OpenD.dec_str g0 (OpenD.some_at (by omega))
   obtain ⟨y1,e1⟩:=Option.isSome_iff_exists.1 (OpenD.some_at (l:=xs) (i:=1) (by omega))
   obtain ⟨y2,e2⟩:=Option.isSome_iff_exists.1 (OpenD.some_at (l:=xs) (i:=2) (by omega))
   obtain ⟨y3,e3⟩:=Option.isSome_iff_exists.1 (OpenD.some_at (l:=xs) (i:=3) (by omega))
   rw [e1] at g1
   rw [e2] at g2
   rw [e3] at g3
   obtain ⟨eA,en,ec,es,rfl,hen,heR,heG,heb⟩:=open_rows_c (v:=c1) (f:=sC) (Good:=fun s => s.size ≤ 9223372036854775807) (fun _ => rfl) (by decide) OpenD.cells_str Tryz.underlying22 dec_text g1
   obtain ⟨vA,vn,vc,vs,rfl,hvn,hvR,hvG,hvb⟩:=open_rows_c (v:=c2) (f:=vrV) (Good:=fun v => v.s.size ≤ 9223372036854775807 ∧ VFit v) vrV_length (by decide) cells_var Tryz.underlying23 dec_variable g2
   obtain ⟨sA,sn,sc,ps,rfl,hsn,hsR,hsG,hsb⟩:=open_rows_c (v:=c3) (f:=spV) (Good:=GoodSP W) spV_length (by decide) cells_state Tryz.underlying24 dec_sp g3
   refine ⟨⟨s,es,vs,ps.map (·.x)⟩,eA,en,ec,vA,vn,vc,sA,sn,sc,rfl,⟨?_,?_,ps,rfl,by rw [← hsn]; exact hsR,fun p hp => (hsG p hp).1⟩,⟨hs,heG,by simp only; omega,fun v hv => (hvG v hv).1,fun t ht => ?_⟩,fun v hv => (hvG v hv).2⟩
   ·rw [sC_flat] at heR
    exact rd_one heR
   ·show Rdk 4 W _ vs.length (vrsV vs)
    rw [← hvn]
    exact hvR
   ·obtain ⟨p,hp,rfl⟩:=List.mem_map.1 ht
    exact (hsG p hp).2
end
end Go.Proofs.YtejbpleghjgpbaaGreatDoor