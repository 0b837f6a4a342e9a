/- SoundAwake, SoundLinesLaw, Laid, SoundLaid, joined. -/
import Derived.Test.YtejbpleghjgpbaaDoorMSoundLines14
import Derived.Laws.StructEq
import Derived.Test.YtejbpleghjgpbaaDoorMSoundLines03
import Derived.Deep.RegionHeld3
import Derived.LaidLaws
import Derived.ChangeArms
import Derived.Lib.LaidTab
import Derived.OpenShut
import Derived.Test.YtejbpleghjgpbaaDoorMSoundLines00
import Derived.LaidMore
import Derived.Stop.Joined
namespace Go.Proofs.YtejbpleghjgpbaaDoor
open Go.RowKit Go.Sort TermSpec NamesSpec EvalSpec ActSpec TransSpec SynSpec RulesSpec PrintSpec SoundSpec
set_option maxRecDepth 100000
def sxA (k:Int):Sx:=⟨⟨#[97]⟩,k,-1,[],[],[]⟩
def cxA (k:Int):Cx:=⟨⟨#[99]⟩,[],[],[sxA k]⟩
theorem cxA_few (k:Int):FewR (cxA k):=by
 have z1:(0:Nat) ≤ 1000:=by decide
 have z2:(1:Nat) ≤ 1000:=by decide
 have z3:(1:Nat) ≤ 9223372036854775807:=by decide
 have z4:(0:Nat) ≤ 1000000:=by decide
 have z5:(0:Nat) ≤ 100:=by decide
 refine ⟨(fun s h => by cases h),z1,(fun v h => by cases h),z1,fun s h => ?_,z2⟩
 rw [List.mem_singleton.1 h]
 exact ⟨z3,⟨(fun a h => by cases h),z4,(fun a h => by cases h),z4,(fun t h => by cases h),z4⟩,z5⟩
theorem cxA_fit (k:Int):FitM (cxA k):=by
 have z2:(1:Nat) ≤ 100000:=by decide
 have z3:(1:Nat) ≤ 9223372036854775807:=by decide
 have z4:(0:Nat) ≤ 100000:=by decide
 refine ⟨z3,(fun s h => by cases h),(fun v h => by cases h),z2,fun s h => ?_⟩
 rw [List.mem_singleton.1 h]
 exact ⟨z3,(fun a h => by cases h),z4,(fun a h => by cases h),z4,z4,fun t h => by cases h⟩
theorem cxA_one:soundC (cxA 1) = true:=by decide +kernel
theorem cxA_two:soundC (cxA 2) = false:=by decide +kernel
theorem cxA_may:mayC (cxA 2) = true:=by decide +kernel
theorem cxA_of:ofF (cxA 2) = [⟨5,0,0⟩] ∧ ofE (cxA 2) = 0:=by
 unfold ofF ofE
 rw [if_pos cxA_may,if_pos cxA_may]
 exact ⟨rfl,rfl⟩
theorem kids_line:[(⟨5,0,0⟩:Fw)].map lineF = [⟨#[107,105,100,115,32,48,32,48]⟩]:=by decide +kernel
theorem flaw_fit:FwFit ⟨5,0,0⟩:=by refine ⟨⟨?_,?_⟩,⟨?_,?_⟩,?_,?_⟩ <;> simp
theorem sb15 (s:ByteArray) (a b:Int) (w:World):(Instr.build 34 #[(0,.string s),(1,.int .i64 a),(2,.int .i64 b)]).run Tryd.prog w = .ok (.agg #[.string s,.int .i64 a,.int .i64 b,.slice none 0 0,.slice none 0 0,.slice none 0 0]) w:=run_build w 34 _ _ (by kernel_rfl)
theorem cb15 (s:ByteArray) (A:Option Addr) (n c:Nat) (w:World):(Instr.build 38 #[(0,.string s),(3,.slice A n c)]).run Tryd.prog w = .ok (.agg #[.string s,.slice none 0 0,.slice none 0 0,.slice A n c]) w:=run_build w 38 _ _ (by kernel_rfl)
abbrev sxO (k:Int):Obj:=.cells #[.string ⟨#[97]⟩,.int .i64 k,.int .i64 (-1),.slice none 0 0,.slice none 0 0,.slice none 0 0] 34
abbrev cxO (b:Nat):Obj:=.cells #[.string ⟨#[99]⟩,.slice none 0 0,.slice none 0 0,.slice (some ⟨b,0,none⟩) 1 1] 38
theorem cxA_in {W:World} {b:Nat} {k:Int} (h:W.heap[b]? = some (sxO k)):ChIn W (.slice none 0 0) (.slice none 0 0) (.slice (some ⟨b,0,none⟩) 1 1) (cxA k):=by
 have hz:∀ x,Acs x (.slice none 0 0) []:=fun x => acs_nil x
 refine ⟨Rd.nil _,Rdk.nil 4 _,⟨[⟨sxA k,none,0,0,none,0,0,none,0,0⟩],rfl,rdk_whole h rfl rfl (Nat.le_refl _),fun p hp => ?_⟩⟩
 rw [List.mem_singleton.1 hp]
 exact ⟨hz _,hz _,⟨[],rfl,Rdk.nil _ _,fun q hq => by cases hq⟩⟩
set_option maxRecDepth 100000 in
set_option maxHeartbeats 8000000 in
theorem soawake_any (w:World) (hp:SwIn w):Calls Tryd.prog 4 #[] w (RetB w true):=by
 have b2:=sb15
 have b3:=cb15
 obtain ⟨W2,hW2⟩:∃ W2,(w.alloc (sxO 1)).alloc (cxO w.heap.size) = W2:=⟨_,rfl⟩
 have q1:=KitC.below_one w (sxO 1)
 have q2:=KitC.below_one (w.alloc (sxO 1)) (cxO w.heap.size)
 rw [hW2] at q2
 have hb2:=below_two' q1 q2
 have h1:=KitC.block_on (heap_alloc_new w (sxO 1)) q2
 have h2:=heap_alloc_new (w.alloc (sxO 1)) (cxO w.heap.size)
 rw [hW2,World.size_alloc] at h2
 have HIS:=Lib.hid (fun W (hW:Below W2.heap.size W2 W) => sis_any (cxA 1) none 0 0 none 0 0 (some ⟨w.heap.size,0,none⟩) 1 1 W ((cxA_in h1).keep hW) (cxA_fit 1) (cxA_few 1))
 rw [show (cxA 1).s = ⟨#[99]⟩ from rfl,cxA_one] at HIS
 have HK2:=Lib.hid (fun W (hW:Below W2.heap.size W2 W) => KitC.block_on h2 hW)
 have HSW:=Lib.hid (fun W (hW:Below w.heap.size w W) => hp.keep hW)
 have HB2:=Lib.hid hb2
 have HW2:=Lib.hid hW2
 have HSZ2:Hid (w.heap.size + 1 < W2.heap.size):=Lib.hid (Array.getElem?_eq_some_iff.1 h2).1
 obtain ⟨c0,c1,c2,c3⟩:=cells_4 h2
 clear hp hW2 q1 q2 hb2 h1 h2
 go_enter Tryd.func4,Tryd.ntmps4
 go_wp2_with fail
 rw [HW2.out]
 go_wp2_with (go_at_call 9; go_fit (HIS.out _ (Below.refl _ _)))
 rintro e w3 ⟨rfl,hb3⟩
 have HB3:=Lib.hid hb3
 clear hb3 c0 c1 c2 c3
 -- the second chart
 obtain ⟨W4,hW4⟩:∃ W4,w3.alloc (sxO 2) = W4:=⟨_,rfl⟩
 have h4:W4.heap[w3.heap.size]? = some (sxO 2):=by rw [← hW4]; exact heap_alloc_new _ _
 have hb4:Below w3.heap.size w3 W4:=by rw [← hW4]; exact KitC.below_one _ _
 have hk4:=HK2.out _ (below_two' HB3.out hb4)
 obtain ⟨c0,c1,c2,c3⟩:=cells_4 hk4
 have f3:W4.frozen? ⟨w.heap.size + 1,3,none⟩ = false:=free_of_block' hk4 3
 have hws:w.heap.size + 1 < w3.heap.size:=Nat.lt_of_lt_of_le HSZ2.out HB3.out.size
 have HW4:=Lib.hid hW4
 obtain ⟨W5,hW5⟩:∃ W5,W4.setCell ⟨w.heap.size + 1,3,none⟩ (.slice (some ⟨w3.heap.size,0,none⟩) 1 1) = W5:=⟨_,rfl⟩
 have hk5:W5.heap[w.heap.size + 1]? = some (cxO w3.heap.size):=by rw [← hW5]; exact block_setCell' hk4 3 _
 have h5:W5.heap[w3.heap.size]? = some (sxO 2):=by rw [← hW5]; exact (Below.heap_setCell _ _ _ _ (by simp only; omega)).trans h4
 have hb5:Below w.heap.size w W5:=by rw [← hW5]; exact (below_two' HB2.out (below_two' HB3.out hb4)).setCell (by simp) _
 have HOF:=Lib.hid (fun W (hW:Below W5.heap.size W5 W) => sof_any (cxA 2) none 0 0 none 0 0 (some ⟨w3.heap.size,0,none⟩) 1 1 W ((cxA_in h5).keep hW) (cxA_fit 2) (cxA_few 2))
 have HI2:=Lib.hid (fun W (hW:Below W5.heap.size W5 W) => sis_any (cxA 2) none 0 0 none 0 0 (some ⟨w3.heap.size,0,none⟩) 1 1 W ((cxA_in h5).keep hW) (cxA_fit 2) (cxA_few 2))
 rw [show (cxA 2).s = ⟨#[99]⟩ from rfl,cxA_two] at HI2
 rw [show (cxA 2).s = ⟨#[99]⟩ from rfl,cxA_of.1,cxA_of.2] at HOF
 have HK5:=Lib.hid (fun W (hW:Below W5.heap.size W5 W) => KitC.block_on hk5 hW)
 have HB5:=Lib.hid hb5
 have HW5:=Lib.hid hW5
 clear h4 hb4 hk4 hW4 hW5 h5 hb5
 go_wp2_with (rw [HW4.out])
 rw [HW5.out]
 clear c0 c1 c2 c3 f3 hws
 obtain ⟨c0,c1,c2,c3⟩:=cells_4 hk5
 clear hk5
 go_wp2_with (go_at_call 10; go_fit (HOF.out _ (Below.refl _ _)))
 rintro e w6 ⟨A,n,cp,rfl,hn,hfw,hb6⟩
 have HB6:=Lib.hid hb6
 have HFW:=Lib.hid hfw
 obtain rfl:n = 1:=hn
 clear hb6 hfw c0 c1 c2 c3
 go_wp2_with (go_at_call 6; go_fit (lines_any15 A 1 cp [⟨5,0,0⟩] w6 (HSW.out _ (below_two' HB5.out HB6.out)) HFW.out (fun f hf => by rw [List.mem_singleton.1 hf]; exact flaw_fit) (by decide)))
 rintro e w7 ⟨v,rfl,hrd,hb7⟩
 rw [kids_line] at hrd
 obtain ⟨A7,n7,c7,rfl,hn7,hc7,hA7⟩:=hrd.strs
 obtain rfl:n7 = 1:=hn7.symm
 obtain ⟨b7,o7,rfl,hlt7,hcell7⟩:=hA7 (by decide)
 have hc0:=hcell7 0 _ rfl
 rw [Nat.add_zero] at hc0
 have HB7:=Lib.hid (below_two' HB6.out hb7)
 obtain ⟨c0,c1,c2,c3⟩:=cells_4 (HK5.out _ HB7.out)
 have HC0:=Lib.hid (fun W (hW:Below w7.heap.size w7 W) => (hW.cell (p:=⟨b7,o7,none⟩) hlt7).trans hc0)
 clear hrd hn7 hc7 hA7 hcell7 hb7 hc0
 go_wp2_with (go_at_call 9; go_fit (HI2.out _ HB7.out))
 rintro e w8 ⟨rfl,hb8⟩
 have HB8:=Lib.hid (below_two' HB7.out hb8)
 have d0:=HC0.out _ hb8
 have hl8:b7 < w8.heap.size:=Nat.lt_of_lt_of_le hlt7 hb8.size
 clear hb8 c0 c1 c2 c3
 go_wp2_with fail
 go_ret
 exact ⟨rfl,below_two' HB5.out HB8.out⟩
end Go.Proofs.YtejbpleghjgpbaaDoor
namespace Go.Proofs.YtejbpleghjgpbaaDoor
open Go.RowKit Go.Sort NamesSpec RulesSpec SoundSpec
set_option maxRecDepth 100000
theorem rwords_any (w:World):Calls Tryd.prog 5 #[] w (RetStrs w wordsR):=by
 go_enter Tryd.func5,Tryd.ntmps5
 go_wp2
 go_ret
 exact ⟨_,rfl,Rd.lit (cs:=(strV wordsR).toArray) rfl,(Below.refl _ _).alloc (Nat.le_refl _) _⟩
theorem wordR_at {k:Nat} (h:k ≤ 10):wordsR[k]? = some (wordR k):=by
 rcases (show k = 0 ∨ k = 1 ∨ k = 2 ∨ k = 3 ∨ k = 4 ∨ k = 5 ∨ k = 6 ∨ k = 7 ∨ k = 8 ∨ k = 9 ∨ k = 10 by omega) with rfl | rfl | rfl | rfl | rfl | rfl | rfl | rfl | rfl | rfl | rfl <;> rfl
theorem bytes_self (s:ByteArray):(s.toList == s.toList) = true ∧ (s.toList != s.toList) = false:=by simp
def LlRel (W:World) (n:Nat) (i:Value) (wr:World):Prop:=∃ k:Nat,k ≤ n ∧ i = .int .i64 k ∧ Hid (Below W.heap.size W wr)
set_option maxRecDepth 100000 in
set_option maxHeartbeats 8000000 in
theorem soundlines_many (A:Option Addr) (n c:Nat) (rule:Int) (w:World) (hp:SwIn w) (hl:60 < n):Calls Tryd.prog 3 #[.slice A n c,.int .i64 rule] w fun e w' => e = .returned (.bool true) ∧ Below w.heap.size w w':=by
 have HAW:=Lib.hid (soawake_any w hp)
 have g:decide (60 < (n:Int)) = true:=by simp; omega
 have g':decide (60 < n) = true:=by simp; omega
 clear hp
 go_enter Tryd.func3,Tryd.ntmps3
 go_wp2_with (go_at_call 4; go_fit HAW.out)
 rintro e w2 ⟨rfl,hb⟩
 have HB2:=Lib.hid hb
 clear hb
 go_wp2_with fail
 go_ret
 exact ⟨rfl,HB2.out⟩
set_option maxRecDepth 100000 in
set_option maxHeartbeats 16000000 in
theorem soundlines_few (A:Option Addr) (n c:Nat) (l:List Fw) (rule:Int) (w:World) (hp:SwIn w) (h:Fws w (.slice A n c) l) (hf:∀ f ∈ l,FwFit f) (hl:n ≤ 60):Calls Tryd.prog 3 #[.slice A n c,.int .i64 rule] w fun e w' => e = .returned (.bool true) ∧ Below w.heap.size w w':=by
 have hlen:=h.len
 have HAW:=Lib.hid (fun W (hW:Below w.heap.size w W) => soawake_any W (hp.keep hW))
 have HWD:=Lib.hid (fun W (hW:Below w.heap.size w W) => word_any15 rule W (hp.keep hW))
 have HLN:=Lib.hid (fun W (hW:Below w.heap.size w W) => lines_any15 A n c l W (hp.keep hW) (h.keep hW) hf (by omega))
 have HFW:=Lib.hid (fun W (hW:Below w.heap.size w W) => h.keep hW)
 have HF:=Lib.hid hf
 have HN:=Lib.hid hlen
 have g60:decide (60 < (n:Int)) = false:=by simp; omega
 have g60':decide (60 < n) = false:=by simp; omega
 have gnn:((n:Int) != (n:Int)) = false:=by simp
 obtain ⟨wd,hwd⟩:∃ wd,wd = wordR rule:=⟨_,rfl⟩
 rw [← hwd] at HWD
 have HWW:=Lib.hid hwd
 obtain ⟨z1,z2⟩:=bytes_self wd
 clear hp h hf hlen hwd
 go_enter Tryd.func3,Tryd.ntmps3
 go_wp2_with (go_at_call 5; go_fit (rwords_any _))
 rintro e w2 ⟨v2,rfl,hrd,hb⟩
 obtain ⟨A2,n2,c2,rfl,hn2,hc2,hA2⟩:=hrd.strs
 obtain rfl:n2 = 11:=hn2.symm
 obtain ⟨bW,oW,rfl,hbW,hcW⟩:=hA2 (by decide)
 have HB2:=Lib.hid hb
 have HCW:=Lib.hid hcW
 clear hrd hn2 hc2 hA2 hb hcW
 by_cases r0:0 ≤ rule
 case neg =>
  have g1:decide (0 ≤ rule) = false:=by simpa using r0
  obtain rfl:wd = ⟨#[]⟩:=HWW.out.trans (wordR_other (.inl (by omega)))
  clear r0
  go_wp2_with (go_at_call 6; go_fit (HLN.out _ HB2.out))
  rintro e w3 ⟨v3,rfl,hrd,hb⟩
  obtain ⟨A3,n3,c3,rfl,hn3,hc3,hA3⟩:=hrd.strs
  obtain rfl:n = n3:=by rw [← hn3,List.length_map]; exact HN.out
  have HA3:=Lib.hid hA3
  have HB23:=Lib.hid hb
  have HB3:=Lib.hid (below_two' HB2.out hb)
  clear hrd hn3 hc3 hA3 hb
  go_wp2_with (go_at_call 7; go_fit (HWD.out _ HB3.out))
  rintro e w4 ⟨rfl,rfl⟩
  go_wp2_with fail
  go_loopw [8,9] (fun i _ wr => LlRel w3 n i wr) (fun i _ _ => n - (intOf i).toNat)
  case atStart => exact ⟨0,Nat.zero_le _,rfl,Lib.hid (Below.refl _ _)⟩
  case round =>
   obtain ⟨k,hk,rfl,HBW⟩:=hrel
   have HBX:=Lib.hid (below_two' HB3.out HBW.out)
   by_cases hlt:k < n
   case neg =>
    obtain rfl:k = n:=by omega
    have hlt':¬ (k:Int) < k:=by omega
    go_wp2_with (go_at_call 4; go_fit (HAW.out _ HBX.out))
    rintro e w9 ⟨rfl,hb⟩
    have HB9:=Lib.hid (below_two' HBX.out hb)
    clear hb
    go_wp2_with fail
    go_ret
    exact ⟨rfl,HB9.out⟩
   have hkI:(k:Int) < n:=by omega
   obtain ⟨f,hx⟩:∃ f,l[k]? = some f:=get_some (by rw [← HN.out]; exact hlt)
   obtain ⟨b,off,rfl,hb,d0,d1,d2⟩:=(HFW.out _ HBX.out).at_ hx
   obtain ⟨b3,o3,rfl,hb3,hc3⟩:=HA3.out (by omega)
   have q:=(HBW.out.cell (p:=⟨b3,o3 + k,none⟩) hb3).trans (hc3 k (lineF f) (by rw [List.getElem?_map,hx]; rfl))
   have hb3':b3 < wr.heap.size:=Nat.lt_of_lt_of_le hb3 HBW.out.size
   obtain ⟨-,⟨ha1,ha2⟩,hp1,hp2⟩:=HF.out f (List.mem_of_getElem? hx)
   obtain ⟨fr,fi,fp⟩:=f
   simp only at d0 d1 d2 ha1 ha2 hp1 hp2
   have HPA:=Lib.hid (fun W => rput_any fi W ha1 ha2)
   have HPB:=Lib.hid (fun W => rput_any fp W hp1 hp2)
   rw [show lineF ⟨fr,fi,fp⟩ = lineR fr ++ ⟨#[32]⟩ ++ ⟨(ValSpec.text fi).toArray⟩ ++ ⟨#[32]⟩ ++ ⟨(ValSpec.text fp).toArray⟩ from rfl] at q
   obtain ⟨ta,hta⟩:∃ ta:ByteArray,ta = ⟨(ValSpec.text fi).toArray⟩:=⟨_,rfl⟩
   obtain ⟨tb,htb⟩:∃ tb:ByteArray,tb = ⟨(ValSpec.text fp).toArray⟩:=⟨_,rfl⟩
   have hsa:ta.size ≤ 20:=by rw [hta]; exact ptext_size fi ha1 ha2
   have hsb:tb.size ≤ 20:=by rw [htb]; exact ptext_size fp hp1 hp2
   rw [← hta] at HPA q
   rw [← htb] at HPB q
   have hcw:=fun kr hkr => (HBW.out.cell (p:=⟨bW,oW + kr,none⟩) (Nat.lt_of_lt_of_le hbW HB23.out.size)).trans ((HB23.out.cell (p:=⟨bW,oW + kr,none⟩) hbW).trans (HCW.out kr (wordR kr) (wordR_at hkr)))
   have hbW':bW < wr.heap.size:=Nat.lt_of_lt_of_le hbW (Nat.le_trans HB23.out.size HBW.out.size)
   clear ha1 ha2 hp1 hp2 hc3
   by_cases r1:1 ≤ fr
   case neg =>
    have g1:decide (1 ≤ fr) = false:=by simpa using r1
    have hlr:lineR fr = ⟨#[63]⟩:=by unfold lineR; rw [if_neg (by omega)]
    rw [hlr] at q
    have t2:¬ 9223372036854775807 < 2 + ta.size:=by omega
    have t3:¬ 9223372036854775807 < 2 + ta.size + 1:=by omega
    have t4:¬ 9223372036854775807 < 2 + ta.size + 1 + tb.size:=by omega
    obtain ⟨y1,y2⟩:=bytes_self (⟨#[63]⟩ ++ ⟨#[32]⟩ ++ ta ++ ⟨#[32]⟩ ++ tb)
    clear hlr hx hta htb
    go_wp2_with fail
    go_region_held3 (fun w' => w'.cell? ⟨b3,o3 + k,none⟩ = some (.string (⟨#[63]⟩ ++ ⟨#[32]⟩ ++ ta ++ ⟨#[32]⟩ ++ tb)) ∧ w'.cell? ⟨b,off + k * 3 + 1,none⟩ = some (.int .i64 fi) ∧ w'.cell? ⟨b,off + k * 3 + 2,none⟩ = some (.int .i64 fp)) (go_keep)
     ((first
       | (go_at_call 8; (with_reducible refine (HPA.out _).mono ?_); rintro e y1 ⟨rfl,rfl⟩)
       | (go_at_call 8; (with_reducible refine (HPB.out _).mono ?_); rintro e y2 ⟨rfl,rfl⟩)))
    all_goals
     go_wp2_with fail
     go_roundw
     case rel => exact ⟨k + 1,hlt,by simp,Lib.hid HBW.out.drew⟩
     case measure => simp [intOf]; omega
   by_cases r2:fr ≤ 10
   case neg =>
    have g1:decide (1 ≤ fr) = true:=by simpa using r1
    have g2:decide (fr ≤ 10) = false:=by simpa using r2
    have hlr:lineR fr = ⟨#[63]⟩:=by unfold lineR; rw [if_neg (by omega)]
    rw [hlr] at q
    have t2:¬ 9223372036854775807 < 2 + ta.size:=by omega
    have t3:¬ 9223372036854775807 < 2 + ta.size + 1:=by omega
    have t4:¬ 9223372036854775807 < 2 + ta.size + 1 + tb.size:=by omega
    obtain ⟨y1,y2⟩:=bytes_self (⟨#[63]⟩ ++ ⟨#[32]⟩ ++ ta ++ ⟨#[32]⟩ ++ tb)
    clear hlr hx hta htb
    go_wp2_with fail
    go_region_held3 (fun w' => w'.cell? ⟨b3,o3 + k,none⟩ = some (.string (⟨#[63]⟩ ++ ⟨#[32]⟩ ++ ta ++ ⟨#[32]⟩ ++ tb)) ∧ w'.cell? ⟨b,off + k * 3 + 1,none⟩ = some (.int .i64 fi) ∧ w'.cell? ⟨b,off + k * 3 + 2,none⟩ = some (.int .i64 fp)) (go_keep)
     ((first
       | (go_at_call 8; (with_reducible refine (HPA.out _).mono ?_); rintro e y1 ⟨rfl,rfl⟩)
       | (go_at_call 8; (with_reducible refine (HPB.out _).mono ?_); rintro e y2 ⟨rfl,rfl⟩)))
    all_goals
     go_wp2_with fail
     go_roundw
     case rel => exact ⟨k + 1,hlt,by simp,Lib.hid HBW.out.drew⟩
     case measure => simp [intOf]; omega
   obtain ⟨kr,rfl⟩:=Int.eq_ofNat_of_zero_le (show 0 ≤ fr by omega)
   have hkr:kr ≤ 10:=by omega
   have d9:=hcw kr hkr
   have g1:decide (1 ≤ (kr:Int)) = true:=by simpa using r1
   have g2:decide ((kr:Int) ≤ 10) = true:=by simpa using r2
   have hkr11:(kr:Int) < 11:=by omega
   have hlr:lineR (kr:Int) = wordR (kr:Int):=by unfold lineR; rw [if_pos ⟨r1,r2⟩]
   have hsl:(wordR (kr:Int)).size ≤ 6:=by rw [← hlr]; exact lineR_size _
   rw [hlr] at q
   obtain ⟨lw,hlw⟩:∃ lw,lw = wordR (kr:Int):=⟨_,rfl⟩
   rw [← hlw] at q d9 hsl
   have t1:¬ 9223372036854775807 < lw.size + 1:=by omega
   have t2:¬ 9223372036854775807 < lw.size + 1 + ta.size:=by omega
   have t3:¬ 9223372036854775807 < lw.size + 1 + ta.size + 1:=by omega
   have t4:¬ 9223372036854775807 < lw.size + 1 + ta.size + 1 + tb.size:=by omega
   obtain ⟨y1,y2⟩:=bytes_self (lw ++ ⟨#[32]⟩ ++ ta ++ ⟨#[32]⟩ ++ tb)
   clear hlr hlw hx hta htb hcw r1 r2
   go_wp2_with fail
   go_region_held3 (fun w' => w'.cell? ⟨b3,o3 + k,none⟩ = some (.string (lw ++ ⟨#[32]⟩ ++ ta ++ ⟨#[32]⟩ ++ tb)) ∧ w'.cell? ⟨b,off + k * 3 + 1,none⟩ = some (.int .i64 fi) ∧ w'.cell? ⟨b,off + k * 3 + 2,none⟩ = some (.int .i64 fp)) (go_keep)
    ((first
      | (go_at_call 8; (with_reducible refine (HPA.out _).mono ?_); rintro e y1 ⟨rfl,rfl⟩)
      | (go_at_call 8; (with_reducible refine (HPB.out _).mono ?_); rintro e y2 ⟨rfl,rfl⟩)))
   all_goals
    go_wp2_with fail
    go_roundw
    case rel => exact ⟨k + 1,hlt,by simp,Lib.hid HBW.out.drew⟩
    case measure => simp [intOf]; omega
 obtain ⟨k0,rfl⟩:=Int.eq_ofNat_of_zero_le r0
 by_cases r1:k0 < 11
 case neg =>
  have g1:decide (0 ≤ (k0:Int)) = true:=by simp
  have g2:decide ((k0:Int) < 11) = false:=by simp; omega
  have g3:decide (k0 < 11) = false:=by simp; omega
  obtain rfl:wd = ⟨#[]⟩:=HWW.out.trans (wordR_other (.inr (by omega)))
  clear r0 r1
  go_wp2_with (go_at_call 6; go_fit (HLN.out _ HB2.out))
  rintro e w3 ⟨v3,rfl,hrd,hb⟩
  obtain ⟨A3,n3,c3,rfl,hn3,hc3,hA3⟩:=hrd.strs
  obtain rfl:n = n3:=by rw [← hn3,List.length_map]; exact HN.out
  have HA3:=Lib.hid hA3
  have HB23:=Lib.hid hb
  have HB3:=Lib.hid (below_two' HB2.out hb)
  clear hrd hn3 hc3 hA3 hb
  go_wp2_with (go_at_call 7; go_fit (HWD.out _ HB3.out))
  rintro e w4 ⟨rfl,rfl⟩
  go_wp2_with fail
  go_loopw [8,9] (fun i _ wr => LlRel w3 n i wr) (fun i _ _ => n - (intOf i).toNat)
  case atStart => exact ⟨0,Nat.zero_le _,rfl,Lib.hid (Below.refl _ _)⟩
  case round =>
   obtain ⟨k,hk,rfl,HBW⟩:=hrel
   have HBX:=Lib.hid (below_two' HB3.out HBW.out)
   by_cases hlt:k < n
   case neg =>
    obtain rfl:k = n:=by omega
    have hlt':¬ (k:Int) < k:=by omega
    go_wp2_with (go_at_call 4; go_fit (HAW.out _ HBX.out))
    rintro e w9 ⟨rfl,hb⟩
    have HB9:=Lib.hid (below_two' HBX.out hb)
    clear hb
    go_wp2_with fail
    go_ret
    exact ⟨rfl,HB9.out⟩
   have hkI:(k:Int) < n:=by omega
   obtain ⟨f,hx⟩:∃ f,l[k]? = some f:=get_some (by rw [← HN.out]; exact hlt)
   obtain ⟨b,off,rfl,hb,d0,d1,d2⟩:=(HFW.out _ HBX.out).at_ hx
   obtain ⟨b3,o3,rfl,hb3,hc3⟩:=HA3.out (by omega)
   have q:=(HBW.out.cell (p:=⟨b3,o3 + k,none⟩) hb3).trans (hc3 k (lineF f) (by rw [List.getElem?_map,hx]; rfl))
   have hb3':b3 < wr.heap.size:=Nat.lt_of_lt_of_le hb3 HBW.out.size
   obtain ⟨-,⟨ha1,ha2⟩,hp1,hp2⟩:=HF.out f (List.mem_of_getElem? hx)
   obtain ⟨fr,fi,fp⟩:=f
   simp only at d0 d1 d2 ha1 ha2 hp1 hp2
   have HPA:=Lib.hid (fun W => rput_any fi W ha1 ha2)
   have HPB:=Lib.hid (fun W => rput_any fp W hp1 hp2)
   rw [show lineF ⟨fr,fi,fp⟩ = lineR fr ++ ⟨#[32]⟩ ++ ⟨(ValSpec.text fi).toArray⟩ ++ ⟨#[32]⟩ ++ ⟨(ValSpec.text fp).toArray⟩ from rfl] at q
   obtain ⟨ta,hta⟩:∃ ta:ByteArray,ta = ⟨(ValSpec.text fi).toArray⟩:=⟨_,rfl⟩
   obtain ⟨tb,htb⟩:∃ tb:ByteArray,tb = ⟨(ValSpec.text fp).toArray⟩:=⟨_,rfl⟩
   have hsa:ta.size ≤ 20:=by rw [hta]; exact ptext_size fi ha1 ha2
   have hsb:tb.size ≤ 20:=by rw [htb]; exact ptext_size fp hp1 hp2
   rw [← hta] at HPA q
   rw [← htb] at HPB q
   have hcw:=fun kr hkr => (HBW.out.cell (p:=⟨bW,oW + kr,none⟩) (Nat.lt_of_lt_of_le hbW HB23.out.size)).trans ((HB23.out.cell (p:=⟨bW,oW + kr,none⟩) hbW).trans (HCW.out kr (wordR kr) (wordR_at hkr)))
   have hbW':bW < wr.heap.size:=Nat.lt_of_lt_of_le hbW (Nat.le_trans HB23.out.size HBW.out.size)
   clear ha1 ha2 hp1 hp2 hc3
   by_cases r1:1 ≤ fr
   case neg =>
    have g1:decide (1 ≤ fr) = false:=by simpa using r1
    have hlr:lineR fr = ⟨#[63]⟩:=by unfold lineR; rw [if_neg (by omega)]
    rw [hlr] at q
    have t2:¬ 9223372036854775807 < 2 + ta.size:=by omega
    have t3:¬ 9223372036854775807 < 2 + ta.size + 1:=by omega
    have t4:¬ 9223372036854775807 < 2 + ta.size + 1 + tb.size:=by omega
    obtain ⟨y1,y2⟩:=bytes_self (⟨#[63]⟩ ++ ⟨#[32]⟩ ++ ta ++ ⟨#[32]⟩ ++ tb)
    clear hlr hx hta htb
    go_wp2_with fail
    go_region_held3 (fun w' => w'.cell? ⟨b3,o3 + k,none⟩ = some (.string (⟨#[63]⟩ ++ ⟨#[32]⟩ ++ ta ++ ⟨#[32]⟩ ++ tb)) ∧ w'.cell? ⟨b,off + k * 3 + 1,none⟩ = some (.int .i64 fi) ∧ w'.cell? ⟨b,off + k * 3 + 2,none⟩ = some (.int .i64 fp)) (go_keep)
     ((first
       | (go_at_call 8; (with_reducible refine (HPA.out _).mono ?_); rintro e y1 ⟨rfl,rfl⟩)
       | (go_at_call 8; (with_reducible refine (HPB.out _).mono ?_); rintro e y2 ⟨rfl,rfl⟩)))
    all_goals
     go_wp2_with fail
     go_roundw
     case rel => exact ⟨k + 1,hlt,by simp,Lib.hid HBW.out.drew⟩
     case measure => simp [intOf]; omega
   by_cases r2:fr ≤ 10
   case neg =>
    have g1:decide (1 ≤ fr) = true:=by simpa using r1
    have g2:decide (fr ≤ 10) = false:=by simpa using r2
    have hlr:lineR fr = ⟨#[63]⟩:=by unfold lineR; rw [if_neg (by omega)]
    rw [hlr] at q
    have t2:¬ 9223372036854775807 < 2 + ta.size:=by omega
    have t3:¬ 9223372036854775807 < 2 + ta.size + 1:=by omega
    have t4:¬ 9223372036854775807 < 2 + ta.size + 1 + tb.size:=by omega
    obtain ⟨y1,y2⟩:=bytes_self (⟨#[63]⟩ ++ ⟨#[32]⟩ ++ ta ++ ⟨#[32]⟩ ++ tb)
    clear hlr hx hta htb
    go_wp2_with fail
    go_region_held3 (fun w' => w'.cell? ⟨b3,o3 + k,none⟩ = some (.string (⟨#[63]⟩ ++ ⟨#[32]⟩ ++ ta ++ ⟨#[32]⟩ ++ tb)) ∧ w'.cell? ⟨b,off + k * 3 + 1,none⟩ = some (.int .i64 fi) ∧ w'.cell? ⟨b,off + k * 3 + 2,none⟩ = some (.int .i64 fp)) (go_keep)
     ((first
       | (go_at_call 8; (with_reducible refine (HPA.out _).mono ?_); rintro e y1 ⟨rfl,rfl⟩)
       | (go_at_call 8; (with_reducible refine (HPB.out _).mono ?_); rintro e y2 ⟨rfl,rfl⟩)))
    all_goals
     go_wp2_with fail
     go_roundw
     case rel => exact ⟨k + 1,hlt,by simp,Lib.hid HBW.out.drew⟩
     case measure => simp [intOf]; omega
   obtain ⟨kr,rfl⟩:=Int.eq_ofNat_of_zero_le (show 0 ≤ fr by omega)
   have hkr:kr ≤ 10:=by omega
   have d9:=hcw kr hkr
   have g1:decide (1 ≤ (kr:Int)) = true:=by simpa using r1
   have g2:decide ((kr:Int) ≤ 10) = true:=by simpa using r2
   have hkr11:(kr:Int) < 11:=by omega
   have hlr:lineR (kr:Int) = wordR (kr:Int):=by unfold lineR; rw [if_pos ⟨r1,r2⟩]
   have hsl:(wordR (kr:Int)).size ≤ 6:=by rw [← hlr]; exact lineR_size _
   rw [hlr] at q
   obtain ⟨lw,hlw⟩:∃ lw,lw = wordR (kr:Int):=⟨_,rfl⟩
   rw [← hlw] at q d9 hsl
   have t1:¬ 9223372036854775807 < lw.size + 1:=by omega
   have t2:¬ 9223372036854775807 < lw.size + 1 + ta.size:=by omega
   have t3:¬ 9223372036854775807 < lw.size + 1 + ta.size + 1:=by omega
   have t4:¬ 9223372036854775807 < lw.size + 1 + ta.size + 1 + tb.size:=by omega
   obtain ⟨y1,y2⟩:=bytes_self (lw ++ ⟨#[32]⟩ ++ ta ++ ⟨#[32]⟩ ++ tb)
   clear hlr hlw hx hta htb hcw r1 r2
   go_wp2_with fail
   go_region_held3 (fun w' => w'.cell? ⟨b3,o3 + k,none⟩ = some (.string (lw ++ ⟨#[32]⟩ ++ ta ++ ⟨#[32]⟩ ++ tb)) ∧ w'.cell? ⟨b,off + k * 3 + 1,none⟩ = some (.int .i64 fi) ∧ w'.cell? ⟨b,off + k * 3 + 2,none⟩ = some (.int .i64 fp)) (go_keep)
    ((first
      | (go_at_call 8; (with_reducible refine (HPA.out _).mono ?_); rintro e y1 ⟨rfl,rfl⟩)
      | (go_at_call 8; (with_reducible refine (HPB.out _).mono ?_); rintro e y2 ⟨rfl,rfl⟩)))
   all_goals
    go_wp2_with fail
    go_roundw
    case rel => exact ⟨k + 1,hlt,by simp,Lib.hid HBW.out.drew⟩
    case measure => simp [intOf]; omega
 have hk0:k0 ≤ 10:=by omega
 have hk0I:(k0:Int) < 11:=by omega
 have g1:decide (0 ≤ (k0:Int)) = true:=by simp
 have g2:decide ((k0:Int) < 11) = true:=by simp; omega
 have g3:decide (k0 < 11) = true:=by simp; omega
 have c0:=HCW.out k0 (wordR k0) (wordR_at hk0)
 rw [← HWW.out] at c0
 clear r0 r1 hk0
 go_wp2_with (go_at_call 6; go_fit (HLN.out _ HB2.out))
 rintro e w3 ⟨v3,rfl,hrd,hb⟩
 obtain ⟨A3,n3,c3,rfl,hn3,hc3,hA3⟩:=hrd.strs
 obtain rfl:n = n3:=by rw [← hn3,List.length_map]; exact HN.out
 have HA3:=Lib.hid hA3
 have HB23:=Lib.hid hb
 have HB3:=Lib.hid (below_two' HB2.out hb)
 clear hrd hn3 hc3 hA3 hb c0
 go_wp2_with (go_at_call 7; go_fit (HWD.out _ HB3.out))
 rintro e w4 ⟨rfl,rfl⟩
 go_wp2_with fail
 go_loopw [8,9] (fun i _ wr => LlRel w3 n i wr) (fun i _ _ => n - (intOf i).toNat)
 case atStart => exact ⟨0,Nat.zero_le _,rfl,Lib.hid (Below.refl _ _)⟩
 case round =>
  obtain ⟨k,hk,rfl,HBW⟩:=hrel
  have HBX:=Lib.hid (below_two' HB3.out HBW.out)
  by_cases hlt:k < n
  case neg =>
   obtain rfl:k = n:=by omega
   have hlt':¬ (k:Int) < k:=by omega
   go_wp2_with (go_at_call 4; go_fit (HAW.out _ HBX.out))
   rintro e w9 ⟨rfl,hb⟩
   have HB9:=Lib.hid (below_two' HBX.out hb)
   clear hb
   go_wp2_with fail
   go_ret
   exact ⟨rfl,HB9.out⟩
  have hkI:(k:Int) < n:=by omega
  obtain ⟨f,hx⟩:∃ f,l[k]? = some f:=get_some (by rw [← HN.out]; exact hlt)
  obtain ⟨b,off,rfl,hb,d0,d1,d2⟩:=(HFW.out _ HBX.out).at_ hx
  obtain ⟨b3,o3,rfl,hb3,hc3⟩:=HA3.out (by omega)
  have q:=(HBW.out.cell (p:=⟨b3,o3 + k,none⟩) hb3).trans (hc3 k (lineF f) (by rw [List.getElem?_map,hx]; rfl))
  have hb3':b3 < wr.heap.size:=Nat.lt_of_lt_of_le hb3 HBW.out.size
  obtain ⟨-,⟨ha1,ha2⟩,hp1,hp2⟩:=HF.out f (List.mem_of_getElem? hx)
  obtain ⟨fr,fi,fp⟩:=f
  simp only at d0 d1 d2 ha1 ha2 hp1 hp2
  have HPA:=Lib.hid (fun W => rput_any fi W ha1 ha2)
  have HPB:=Lib.hid (fun W => rput_any fp W hp1 hp2)
  rw [show lineF ⟨fr,fi,fp⟩ = lineR fr ++ ⟨#[32]⟩ ++ ⟨(ValSpec.text fi).toArray⟩ ++ ⟨#[32]⟩ ++ ⟨(ValSpec.text fp).toArray⟩ from rfl] at q
  obtain ⟨ta,hta⟩:∃ ta:ByteArray,ta = ⟨(ValSpec.text fi).toArray⟩:=⟨_,rfl⟩
  obtain ⟨tb,htb⟩:∃ tb:ByteArray,tb = ⟨(ValSpec.text fp).toArray⟩:=⟨_,rfl⟩
  have hsa:ta.size ≤ 20:=by rw [hta]; exact ptext_size fi ha1 ha2
  have hsb:tb.size ≤ 20:=by rw [htb]; exact ptext_size fp hp1 hp2
  rw [← hta] at HPA q
  rw [← htb] at HPB q
  have hcw:=fun kr hkr => (HBW.out.cell (p:=⟨bW,oW + kr,none⟩) (Nat.lt_of_lt_of_le hbW HB23.out.size)).trans ((HB23.out.cell (p:=⟨bW,oW + kr,none⟩) hbW).trans (HCW.out kr (wordR kr) (wordR_at hkr)))
  have hbW':bW < wr.heap.size:=Nat.lt_of_lt_of_le hbW (Nat.le_trans HB23.out.size HBW.out.size)
  clear ha1 ha2 hp1 hp2 hc3
  by_cases r1:1 ≤ fr
  case neg =>
   have g1:decide (1 ≤ fr) = false:=by simpa using r1
   have hlr:lineR fr = ⟨#[63]⟩:=by unfold lineR; rw [if_neg (by omega)]
   rw [hlr] at q
   have t2:¬ 9223372036854775807 < 2 + ta.size:=by omega
   have t3:¬ 9223372036854775807 < 2 + ta.size + 1:=by omega
   have t4:¬ 9223372036854775807 < 2 + ta.size + 1 + tb.size:=by omega
   obtain ⟨y1,y2⟩:=bytes_self (⟨#[63]⟩ ++ ⟨#[32]⟩ ++ ta ++ ⟨#[32]⟩ ++ tb)
   clear hlr hx hta htb
   go_wp2_with fail
   go_region_held3 (fun w' => w'.cell? ⟨b3,o3 + k,none⟩ = some (.string (⟨#[63]⟩ ++ ⟨#[32]⟩ ++ ta ++ ⟨#[32]⟩ ++ tb)) ∧ w'.cell? ⟨b,off + k * 3 + 1,none⟩ = some (.int .i64 fi) ∧ w'.cell? ⟨b,off + k * 3 + 2,none⟩ = some (.int .i64 fp)) (go_keep)
    ((first
      | (go_at_call 8; (with_reducible refine (HPA.out _).mono ?_); rintro e y1 ⟨rfl,rfl⟩)
      | (go_at_call 8; (with_reducible refine (HPB.out _).mono ?_); rintro e y2 ⟨rfl,rfl⟩)))
   all_goals
    go_wp2_with fail
    go_roundw
    case rel => exact ⟨k + 1,hlt,by simp,Lib.hid HBW.out.drew⟩
    case measure => simp [intOf]; omega
  by_cases r2:fr ≤ 10
  case neg =>
   have g1:decide (1 ≤ fr) = true:=by simpa using r1
   have g2:decide (fr ≤ 10) = false:=by simpa using r2
   have hlr:lineR fr = ⟨#[63]⟩:=by unfold lineR; rw [if_neg (by omega)]
   rw [hlr] at q
   have t2:¬ 9223372036854775807 < 2 + ta.size:=by omega
   have t3:¬ 9223372036854775807 < 2 + ta.size + 1:=by omega
   have t4:¬ 9223372036854775807 < 2 + ta.size + 1 + tb.size:=by omega
   obtain ⟨y1,y2⟩:=bytes_self (⟨#[63]⟩ ++ ⟨#[32]⟩ ++ ta ++ ⟨#[32]⟩ ++ tb)
   clear hlr hx hta htb
   go_wp2_with fail
   go_region_held3 (fun w' => w'.cell? ⟨b3,o3 + k,none⟩ = some (.string (⟨#[63]⟩ ++ ⟨#[32]⟩ ++ ta ++ ⟨#[32]⟩ ++ tb)) ∧ w'.cell? ⟨b,off + k * 3 + 1,none⟩ = some (.int .i64 fi) ∧ w'.cell? ⟨b,off + k * 3 + 2,none⟩ = some (.int .i64 fp)) (go_keep)
    ((first
      | (go_at_call 8; (with_reducible refine (HPA.out _).mono ?_); rintro e y1 ⟨rfl,rfl⟩)
      | (go_at_call 8; (with_reducible refine (HPB.out _).mono ?_); rintro e y2 ⟨rfl,rfl⟩)))
   all_goals
    go_wp2_with fail
    go_roundw
    case rel => exact ⟨k + 1,hlt,by simp,Lib.hid HBW.out.drew⟩
    case measure => simp [intOf]; omega
  obtain ⟨kr,rfl⟩:=Int.eq_ofNat_of_zero_le (show 0 ≤ fr by omega)
  have hkr:kr ≤ 10:=by omega
  have d9:=hcw kr hkr
  have g1:decide (1 ≤ (kr:Int)) = true:=by simpa using r1
  have g2:decide ((kr:Int) ≤ 10) = true:=by simpa using r2
  have hkr11:(kr:Int) < 11:=by omega
  have hlr:lineR (kr:Int) = wordR (kr:Int):=by unfold lineR; rw [if_pos ⟨r1,r2⟩]
  have hsl:(wordR (kr:Int)).size ≤ 6:=by rw [← hlr]; exact lineR_size _
  rw [hlr] at q
  obtain ⟨lw,hlw⟩:∃ lw,lw = wordR (kr:Int):=⟨_,rfl⟩
  rw [← hlw] at q d9 hsl
  have t1:¬ 9223372036854775807 < lw.size + 1:=by omega
  have t2:¬ 9223372036854775807 < lw.size + 1 + ta.size:=by omega
  have t3:¬ 9223372036854775807 < lw.size + 1 + ta.size + 1:=by omega
  have t4:¬ 9223372036854775807 < lw.size + 1 + ta.size + 1 + tb.size:=by omega
  obtain ⟨y1,y2⟩:=bytes_self (lw ++ ⟨#[32]⟩ ++ ta ++ ⟨#[32]⟩ ++ tb)
  clear hlr hlw hx hta htb hcw r1 r2
  go_wp2_with fail
  go_region_held3 (fun w' => w'.cell? ⟨b3,o3 + k,none⟩ = some (.string (lw ++ ⟨#[32]⟩ ++ ta ++ ⟨#[32]⟩ ++ tb)) ∧ w'.cell? ⟨b,off + k * 3 + 1,none⟩ = some (.int .i64 fi) ∧ w'.cell? ⟨b,off + k * 3 + 2,none⟩ = some (.int .i64 fp)) (go_keep)
   ((first
     | (go_at_call 8; (with_reducible refine (HPA.out _).mono ?_); rintro e y1 ⟨rfl,rfl⟩)
     | (go_at_call 8; (with_reducible refine (HPB.out _).mono ?_); rintro e y2 ⟨rfl,rfl⟩)))
  all_goals
   go_wp2_with fail
   go_roundw
   case rel => exact ⟨k + 1,hlt,by simp,Lib.hid HBW.out.drew⟩
   case measure => simp [intOf]; omega
theorem walk_SoundLines (A:Option Addr) (n c:Nat) (l:List Fw) (rule:Int) (w:World) (hp:SwIn w) (h:Fws w (.slice A n c) l) (hf:∀ f ∈ l,FwFit f) (_hn:n ≤ 9223372036854775807) (_hr:(Lit.int .i64 rule).wf = true) :
 Calls Tryd.prog 3 #[.slice A n c,.int .i64 rule] w fun e w' => e = .returned (.bool true) ∧ Below w.heap.size w w':=by
 by_cases hl:60 < n
 ·exact soundlines_many A n c rule w hp hl
 ·exact soundlines_few A n c l rule w hp h hf (by omega)
end Go.Proofs.YtejbpleghjgpbaaDoor
namespace Go.Proofs.YtejbpleghjgpbaaDoor
open Go.RowKit
theorem cells_of_strs {H:Type} {enc:TypeId × Value → H} {P:Program} {w:World} {base:Nat} {sp:Nat → Bool} {held:Bool} {fuel:Nat} {t e:TypeId} {n:Nat} {cs:List Value} {bs:List (List UInt8)} {p:List MemPlace}
 (ht:P.underlying t = some (.array n e)) (he:P.underlying e = some .string) (hce:P.cellsOf e = 1) (hct:P.cellsOf t = n)
 (h:DataW.trod enc P w base sp held fuel t cs = some (.agg (bs.map fun b => .lit (.string b)),p)):cs = bs.map fun b => Value.string ⟨b.toArray⟩:=by
 obtain ⟨xs,m,rfl,hx,hl,hxl,hel⟩:=DataW.trod_array ht h
 simp only [Prod.mk.injEq,DataW.agg.injEq] at hx
 have hxs:=hx.1
 have hbl:bs.length = n:=by
  have:=congrArg List.length hxs
  simp at this
  omega
 rw [hct] at hl
 apply List.ext_getElem?
 intro i
 by_cases hi:i < n
 ·obtain ⟨b,hb⟩:∃ b,xs[i]? = some b:=get_some (by omega)
  have hf:=(hel i hi).trans hb
  rw [hce,Nat.mul_one] at hf
  obtain ⟨s,hc,rfl,_⟩:=DataW.trod_string he hf
  have h1:cs[i]? = some (.string s):=by
   have:=congrArg (·[0]?) hc
   simpa [List.getElem?_take,List.getElem?_drop] using this
  have h2:(xs.map (·.1))[i]? = some (DataW.lit (.string s.data.toList):DataW H):=by simp [hb]
  rw [← hxs] at h2
  simp only [List.getElem?_map,Option.map_eq_some_iff,DataW.lit.injEq,Lit.string.injEq] at h2
  obtain ⟨z,hz,rfl⟩:=h2
  simp [h1,hz]
 ·rw [List.getElem?_eq_none (by omega),List.getElem?_eq_none (by simp; omega)]
end Go.Proofs.YtejbpleghjgpbaaDoor
namespace Go.Proofs.YtejbpleghjgpbaaDoor
open Go.RowKit
set_option maxRecDepth 100000
def swordsB:List (List UInt8):=[[],[101,118,101,110,116],[118,97,114],[114,97,110,103,101],[110,97,109,101],[107,105,100,115],[111,110],[116,97,114,103,101,116],[103,117,97,114,100],[97,99,116,115],[101,100,103,101]]
theorem gSwords : Tryd.prog.globalNamed "semblance/sound.words" = some 0 := by kernel_rfl
theorem tSwords:(Tryd.prog.globals[0]?).map (·.type) = some 44:=by kernel_rfl
theorem swords_in {W : World} {rest : List (String × DataW Unit)} (h : laidMet Tryd.prog (("semblance/sound.words", Rows.laid_semblance_sound_words) :: rest) W) : SwIn W := by
 obtain ⟨ps,⟨g',t',cs,fuel,p,q,hg',ht',hvar,hd,_,_⟩,_⟩:=h
 obtain rfl:=Option.some.inj (gSwords.symm.trans hg')
 obtain rfl:=Option.some.inj (tSwords.symm.trans ht')
 have hc:=cells_of_strs (bs:=swordsB) Tryd.underlying44 Tryd.underlying9 (by kernel_rfl) (by kernel_rfl) hd
 have e:cs = swordsV:=Array.toList_inj.mp hc
 subst e
 unfold World.var? at hvar
 rw [gSwords] at hvar
 simp only [Option.bind_some] at hvar
 split at hvar
 ·rename_i cs' T fr hb
  cases hvar
  exact ⟨T,fr,hb⟩
 ·cases hvar
end Go.Proofs.YtejbpleghjgpbaaDoor