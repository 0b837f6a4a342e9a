/- AtlasAwake, GroupRef, joined. -/
import Derived.Test.YtapnomdckglehaaGreatMAtlasTells32
import Derived.Test.YtapnomdckglehaaGreatMAtlasTells13
import Derived.Test.YtapnomdckglehaaGreatMAtlasTells04
namespace Go.Proofs.YtapnomdckglehaaGreat
open Go.RowKit TermSpec EvalSpec ActSpec NamesSpec ExprSpec TransSpec SynSpec CurSpec ShapeSpec GroupSpec AtlasSpec PrintSpec RulesSpec SoundSpec
set_option maxRecDepth 100000
theorem at_below {N B:Nat} {w0 w w':World} (hb:Below N w0 w) (hN:N ≤ w.heap.size) (hg:w.grownBy w' (some B)) (hB:N ≤ B):Below N w0 w':=hb.grown hg hN (fun j e => by injection e with e; omega)
def sx17 (s:UInt8) (k p:Int):Sx:=⟨⟨#[s]⟩,k,p,[],[],[]⟩
def x17:Cx:=⟨⟨#[99]⟩,[⟨#[122]⟩,⟨#[121]⟩],[],[sx17 116 2 (-1),sx17 97 1 0,sx17 98 1 0]⟩
theorem few17 {s:Sx} (h:s ∈ x17.sts):s.s.size = 1 ∧ s.en = [] ∧ s.ex = [] ∧ s.tr = []:=by
 rcases List.mem_cons.1 h with rfl | h
 ·exact ⟨rfl,rfl,rfl,rfl⟩
 rcases List.mem_cons.1 h with rfl | h
 ·exact ⟨rfl,rfl,rfl,rfl⟩
 rw [List.mem_singleton.1 h]
 exact ⟨rfl,rfl,rfl,rfl⟩
theorem ev17 {s:ByteArray} (h:s ∈ x17.evs):s.size ≤ 9223372036854775807:=by
 rcases List.mem_cons.1 h with rfl | h
 ·decide
 rw [List.mem_singleton.1 h]
 decide
theorem x17_few:FewR x17:=by
 have z1:x17.evs.length ≤ 1000:=by decide
 have z2:x17.vars.length ≤ 1000:=by decide
 have z3:x17.sts.length ≤ 1000:=by decide
 refine ⟨fun s h => ev17 h,z1,(fun v h => by cases h),z2,fun s h => ?_,z3⟩
 obtain ⟨h1,h2,h3,h4⟩:=few17 h
 refine ⟨by omega,⟨?_,?_,?_,?_,?_,?_⟩,by rw [h4]; decide⟩
 ·rw [h2]; simp
 ·rw [h2]; decide
 ·rw [h3]; simp
 ·rw [h3]; decide
 ·rw [h4]; simp
 ·rw [h4]; decide
theorem x17_fit:FitM x17:=by
 have z3:x17.sts.length ≤ 100000:=by decide
 refine ⟨by decide,fun s h => ev17 h,(fun v h => by cases h),z3,fun s h => ?_⟩
 obtain ⟨h1,h2,h3,h4⟩:=few17 h
 rw [h2,h3,h4]
 exact ⟨by omega,by simp,by decide,by simp,by decide,by decide,by simp⟩
theorem zero_few17:FewR zeroC:=⟨(fun s h => by cases h),by decide,(fun v h => by cases h),by decide,(fun s h => by cases h),by decide⟩
theorem zero_fit17:FitM zeroC:=⟨by decide,(fun s h => by cases h),(fun v h => by cases h),by decide,fun s h => by cases h⟩
theorem x17_sound:soundC x17 = true:=by decide +kernel
theorem zero_sound17:soundC zeroC = false:=by decide +kernel
theorem x17_chk:chk (x17.sts.map shOf) = 0:=by decide +kernel
theorem x17_below:belowTb (x17.sts.map shOf) 0 = 7:=by decide +kernel
theorem x17_above:aboveTb (x17.sts.map shOf) 2 = 1:=by decide +kernel
theorem x17_place:Go.Lib.idxOfS (x17.sts.map (·.s)) ⟨#[98]⟩ = 2:=by decide +kernel
theorem x17_depth:depthTb (x17.sts.map shOf) 1 = 2:=by decide +kernel
theorem x17_kids:kidsTb (x17.sts.map shOf) 0 = [1,2]:=by decide +kernel
theorem x17_events:un x17.evs [] = [⟨#[121]⟩,⟨#[122]⟩]:=un_eq (by simp [Rises,NamesSpec.bytesOf]; decide) fun s => by
 show s ∈ [(⟨#[121]⟩:ByteArray),⟨#[122]⟩] ↔ s ∈ [(⟨#[122]⟩:ByteArray),⟨#[121]⟩] ∨ s ∈ []
 simp only [List.mem_cons,List.not_mem_nil,or_false]
 exact Or.comm
theorem sb17a (s:ByteArray) (a b:Int) (w:World):(Instr.build 72 #[(0,.string s),(1,.int .i64 a),(2,.int .i64 b)]).run Tryz.prog w = .ok (.agg #[.string s,.int .i64 a,.int .i64 b,.slice none 0 0,.slice none 0 0,.slice none 0 0]) w:=run_build w 72 _ _ (by kernel_rfl)
theorem sb17b (s:ByteArray) (a:Int) (w:World):(Instr.build 72 #[(0,.string s),(1,.int .i64 a)]).run Tryz.prog w = .ok (.agg #[.string s,.int .i64 a,.int .i64 0,.slice none 0 0,.slice none 0 0,.slice none 0 0]) w:=run_build w 72 _ _ (by kernel_rfl)
theorem cb17 (s:ByteArray) (A B:Option Addr) (n c m d:Nat) (w:World):(Instr.build 26 #[(0,.string s),(1,.slice A n c),(3,.slice B m d)]).run Tryz.prog w = .ok (.agg #[.string s,.slice A n c,.slice none 0 0,.slice B m d]) w:=run_build w 26 _ _ (by kernel_rfl)
abbrev evO17:Obj:=.cells #[.string ⟨#[122]⟩,.string ⟨#[121]⟩] 9
abbrev stO17:Obj:=.cells #[.string ⟨#[116]⟩,.int .i64 2,.int .i64 (-1),.slice none 0 0,.slice none 0 0,.slice none 0 0,.string ⟨#[97]⟩,.int .i64 1,.int .i64 0,.slice none 0 0,.slice none 0 0,.slice none 0 0,.string ⟨#[98]⟩,.int .i64 1,.int .i64 0,.slice none 0 0,.slice none 0 0,.slice none 0 0] 72
theorem x17_in {W:World} {b:Nat} (h1:W.heap[b]? = some evO17) (h2:W.heap[b + 1]? = some stO17):ChIn W (.slice (some ⟨b,0,none⟩) 2 2) (.slice none 0 0) (.slice (some ⟨b + 1,0,none⟩) 3 3) x17:=by
 refine ⟨rd_one (rdk_whole (n:=2) (k:=1) h1 rfl rfl (Nat.le_refl _)),Rdk.nil 4 _,⟨[⟨sx17 116 2 (-1),none,0,0,none,0,0,none,0,0⟩,⟨sx17 97 1 0,none,0,0,none,0,0,none,0,0⟩,⟨sx17 98 1 0,none,0,0,none,0,0,none,0,0⟩],rfl,rdk_whole h2 rfl rfl (Nat.le_refl _),fun p hp => ?_⟩⟩
 have hz:∀ y,Acs y (.slice none 0 0) []:=fun y => acs_nil y
 have key:∀ s k q,spN ⟨sx17 s k q,none,0,0,none,0,0,none,0,0⟩ W:=fun s k q => ⟨hz _,hz _,⟨[],rfl,Rdk.nil _ _,fun q hq => by cases hq⟩⟩
 rcases List.mem_cons.1 hp with rfl | hp
 ·exact key _ _ _
 rcases List.mem_cons.1 hp with rfl | hp
 ·exact key _ _ _
 rw [List.mem_singleton.1 hp]
 exact key _ _ _
theorem new_x17 {W:World} {b:Nat} (h1:W.heap[b]? = some evO17) (h2:W.heap[b + 1]? = some stO17):Calls Tryz.prog 7 #[.agg #[.string ⟨#[99]⟩,.slice (some ⟨b,0,none⟩) 2 2,.slice none 0 0,.slice (some ⟨b + 1,0,none⟩) 3 3]] W (RetNew W x17) :=
 new_yes x17 _ _ _ _ _ _ _ _ _ W (x17_in h1 h2) x17_fit x17_few x17_sound
theorem new_zero17 (W:World):Calls Tryz.prog 7 #[.agg #[.string ⟨#[]⟩,.slice none 0 0,.slice none 0 0,.slice none 0 0]] W (RetNo17 W) :=
 new_no zeroC _ _ _ _ _ _ _ _ _ W (ChIn.zero W) zero_fit17 zero_few17 zero_sound17
theorem x17_evl:x17.evs.length ≤ 1000000:=by decide
section
variable {B:Nat} {W:World} (h:AtIn W B x17)
include h
theorem bel17:Calls Tryz.prog 19 #[.pointer (some ⟨B,0,none⟩),.int .i64 0] W (RetAt W B x17 (fun _ v => v = .int .u64 7)):=by
 have:=below17 B x17 W h x17_chk x17_evl 0
 rwa [x17_below] at this
theorem abo17:Calls Tryz.prog 18 #[.pointer (some ⟨B,0,none⟩),.int .i64 2] W (RetAt W B x17 (fun _ v => v = .int .u64 1)):=by
 have:=above17 B x17 W h x17_chk x17_evl 2
 rwa [x17_above] at this
theorem pla17:Calls Tryz.prog 12 #[.pointer (some ⟨B,0,none⟩),.string ⟨#[98]⟩] W (RetAt W B x17 (fun _ v => v = .int .i64 2)):=by
 have:=place17 B x17 W h x17_chk x17_evl ⟨#[98]⟩
 rwa [x17_place] at this
theorem dep17:Calls Tryz.prog 20 #[.pointer (some ⟨B,0,none⟩),.int .i64 1] W (RetAt W B x17 (fun _ v => v = .int .i64 2)):=by
 have:=depth17 B x17 W h x17_chk x17_evl 1
 rwa [x17_depth] at this
theorem kid17:Calls Tryz.prog 17 #[.pointer (some ⟨B,0,none⟩),.int .i64 0] W (RetAt W B x17 (fun W v => Rd W v (intV [1,2]))):=by
 have:=kids17 B x17 W h x17_chk x17_evl 0
 rwa [x17_kids] at this
theorem evs17:Calls Tryz.prog 15 #[.pointer (some ⟨B,0,none⟩)] W (RetAt W B x17 (fun W v => RdS W v [⟨#[121]⟩,⟨#[122]⟩])):=by
 have:=events17 B x17 W h x17_chk x17_evl
 rwa [x17_events] at this
end
set_option maxRecDepth 100000 in
set_option maxHeartbeats 8000000 in
theorem awake17 (w:World):Calls Tryz.prog 6 #[] w (RetB w true):=by
 have b1:=sb17a
 have b2:=sb17b
 have b3:=cb17
 have b4:=cb_zero
 obtain ⟨W2,hW2⟩:∃ W2,(w.alloc evO17).alloc stO17 = W2:=⟨_,rfl⟩
 have hb2:Below w.heap.size w W2:=by rw [← hW2]; exact KitC.below_pair _ _ _
 have h1:W2.heap[w.heap.size]? = some evO17:=by rw [← hW2]; exact (heap_alloc_old _ _ (by simp)).trans (heap_alloc_new _ _)
 have h2:W2.heap[w.heap.size + 1]? = some stO17:=by rw [← hW2]; have:=heap_alloc_new (w.alloc evO17) stO17; rwa [World.size_alloc] at this
 have HN:=Lib.hid (new_x17 h1 h2)
 have HB2:=Lib.hid hb2
 have HW2:=Lib.hid hW2
 clear hb2 h1 h2 hW2
 go_enter Tryz.func6,Tryz.ntmps6
 go_wp2_with (rw [HW2.out]; go_at_call 7; go_fit HN.out)
 rintro e w3 ⟨B,rfl,hat,hB,hb⟩
 have HA3:=Lib.hid hat
 have HBB:Hid (w.heap.size ≤ B):=Lib.hid (Nat.le_trans HB2.out.size hB)
 have HB3:=Lib.hid (below_two' HB2.out hb)
 clear hat hB hb
 go_wp2_with (go_at_call 7; go_fit (new_zero17 w3))
 rintro e w4 ⟨rfl,hb⟩
 have HA4:=Lib.hid (HA3.out.keep hb)
 have HB4:=Lib.hid (below_two' HB3.out hb)
 clear hb
 go_wp2_with (go_at_call 9; go_fit (AtIn.good B x17 w4 HA4.out))
 rintro e w5 ⟨rfl,rfl⟩
 go_wp2_with (go_at_call 19; go_fit (bel17 HA4.out))
 rintro e w5 ⟨v,rfl,rfl,hat,hg⟩
 have HA5:=Lib.hid hat
 have HB5:=Lib.hid (at_below HB4.out HB4.out.size hg HBB.out)
 clear hat hg
 go_wp2_with (go_at_call 18; go_fit (abo17 (.inr HA5.out)))
 rintro e w6 ⟨v,rfl,rfl,hat,hg⟩
 have HA6:=Lib.hid hat
 have HB6:=Lib.hid (at_below HB5.out HB5.out.size hg HBB.out)
 clear hat hg
 go_wp2_with (go_at_call 12; go_fit (pla17 (.inr HA6.out)))
 rintro e w7 ⟨v,rfl,rfl,hat,hg⟩
 have HA7:=Lib.hid hat
 have HB7:=Lib.hid (at_below HB6.out HB6.out.size hg HBB.out)
 clear hat hg
 go_wp2_with (go_at_call 20; go_fit (dep17 (.inr HA7.out)))
 rintro e w8 ⟨v,rfl,rfl,hat,hg⟩
 have HA8:=Lib.hid hat
 have HB8:=Lib.hid (at_below HB7.out HB7.out.size hg HBB.out)
 clear hat hg
 go_wp2_with (go_at_call 17; go_fit (kid17 (.inr HA8.out)))
 rintro e w9 ⟨v,rfl,hr,hat,hg⟩
 obtain ⟨A9,n9,c9,rfl,hn9,-⟩:=hr.ints
 obtain rfl:n9 = 2:=hn9.symm
 have HA9:=Lib.hid hat
 have HB9:=Lib.hid (at_below HB8.out HB8.out.size hg HBB.out)
 clear hat hg hr
 go_wp2_with (go_at_call 15; go_fit (evs17 (.inr HA9.out)))
 rintro e wa ⟨v,rfl,hr,hat,hg⟩
 have HRA:=Lib.hid hr
 have HBA:=Lib.hid (at_below HB9.out HB9.out.size hg HBB.out)
 clear hat hg hr
 have HTX:=Lib.hid (texts_any v (.slice (some ⟨wa.heap.size,0,none⟩) 2 2) [⟨#[121]⟩,⟨#[122]⟩] [⟨#[121]⟩,⟨#[122]⟩] (wa.alloc (.cells #[.string ⟨#[121]⟩,.string ⟨#[122]⟩] 9)) (Rd.keep HRA.out (KitC.below_one _ _)) (lit_here rfl rfl rfl) (by decide))
 go_wp2_with (go_at_call 14; go_fit HTX.out)
 rintro e wb hq
 have hq':=hq.below
 rw [show sameS [(⟨#[121]⟩:ByteArray),⟨#[122]⟩] [⟨#[121]⟩,⟨#[122]⟩] = true from decide_eq_true rfl] at hq'
 obtain ⟨rfl,hb⟩:=hq'
 have HBC:=Lib.hid (below_two' HBA.out (below_two' (KitC.below_one _ _) hb))
 clear hb hq
 go_wp2_with fail
 go_ret
 exact ⟨rfl,HBC.out⟩
end Go.Proofs.YtapnomdckglehaaGreat
namespace Go.Proofs.YtapnomdckglehaaGreat
open Go.RowKit GroupSpec NamesSpec
set_option maxRecDepth 100000
set_option maxHeartbeats 2000000 in
theorem rof_any16 (v:Value) (l:List Int) (w:World) (h:Rd w v (intV l)) (hm:l.length ≤ 9223372036854775807) :
 Calls Tryz.prog 42 #[v] w (SameU w (ofG l)):=by
 obtain ⟨A,n,c,rfl,hn,hc,hA⟩:=h.ints
 have HA:=Lib.hid hA
 have HN:=Lib.hid hn
 have hm':n ≤ 9223372036854775807:=by omega
 clear hA hn h hc hm
 obtain ⟨m,hM⟩:∃ m,m = ofG l:=⟨_,rfl⟩
 have hlt:m < 18446744073709551616:=by rw [hM]; exact ofG_lt l
 have HB:Hid (∀ j:Nat,j < 64 → m.testBit j = decide ((j:Int) ∈ l)):=Lib.hid fun j hj => by rw [hM,ofG_bit,decide_eq_true hj]; rfl
 rw [← hM]
 clear hM
 go_enter Tryz.func42,Tryz.ntmps42
 go_wp2
 go_loop [3,4,5] (fun v i _ => ∃ k:Nat,k ≤ 64 ∧ i = .int .i64 ((k:Int) - 1) ∧ v = .int .u64 (m / 2 ^ k:Nat)) (fun _ i _ => (RowKit.intOf i + 1).toNat)
 case atStart => exact ⟨64,Nat.le_refl _,rfl,by rw [Nat.div_eq_of_lt hlt]; rfl⟩
 case round =>
  obtain ⟨k,hk,rfl,rfl⟩:=hrel
  rcases k with _ | j
  ·go_wp2
   go_ret
   exact of_same (by simp)
  ·have hbit:=HB.out j (by omega)
   have hy:m / 2 ^ (j + 1) < 9223372036854775808:=by
    have:=low_next m j
    have h2:m / 2 ^ j ≤ m:=Nat.div_le_self _ _
    omega
   have hN1:=high_next m j
   rw [hbit] at hN1
   obtain ⟨y,hY⟩:∃ y,y = m / 2 ^ (j + 1):=⟨_,rfl⟩
   obtain ⟨d,hd⟩:∃ d,d = 2 * y:=⟨_,rfl⟩
   rw [← hY] at hy hN1 ⊢
   rw [← hd] at hN1
   have hw1:IntKind.u64.wrap (2 * (y:Int)) = (d:Int):=by rw [IntKind.wrap_u64]; omega
   have hw2:IntKind.u64.wrap ((d:Int) + 1) = ((d + 1:Nat):Int):=by rw [IntKind.wrap_u64]; omega
   have HN1:=Lib.hid hN1
   clear hbit hN1 hY hd hy
   go_wp2
   go_loop [3,5] (fun v i => ∃ q:Nat,q ≤ n ∧ i = .int .i64 q ∧ v = .int .u64 d ∧ (j:Int) ∉ l.take q) (fun _ i => n - (RowKit.intOf i).toNat)
   case atStart => exact ⟨0,Nat.zero_le _,rfl,by simp,by simp⟩
   case round =>
    obtain ⟨q,hq,rfl,rfl,hno⟩:=hrel
    have HNO:=Lib.hid hno
    clear hno
    by_cases hqn:q < n
    ·obtain ⟨b,off,rfl,hb,hcell⟩:=HA.out (by omega)
     obtain ⟨x,hx⟩:∃ x,l[q]? = some x:=get_some (by have:=HN.out; omega)
     have hck:=hcell q x hx
     have HX:=Lib.hid hx
     clear hcell hx
     by_cases hxj:x = (j:Int)
     ·have HE:Hid (m / 2 ^ j = d + 1):=Lib.hid (by rw [HN1.out,decide_eq_true (by rw [← hxj]; exact List.mem_of_getElem? HX.out)]; rfl)
      subst hxj
      go_wp2
      go_round
      case rel => exact ⟨j,by omega,by go_num,by rw [HE.out]; simp⟩
      case measure => simp [RowKit.intOf]
     ·have HXJ:=Lib.hid hxj
      have g1:(x == (j:Int)) = false:=by simpa using hxj
      clear hxj
      go_wp2
      go_round
      case rel =>
       refine ⟨q + 1,by omega,by go_num,rfl,?_⟩
       rw [take_next HX.out,List.mem_append,List.mem_singleton]
       rintro (h1 | h1)
       ·exact HNO.out h1
       ·exact HXJ.out h1.symm
      case measure => simp [RowKit.intOf]; omega
    ·have HE:Hid (m / 2 ^ j = d):=Lib.hid (by
      have h1:=HNO.out
      have h2:=HN.out
      rw [List.take_of_length_le (by omega)] at h1
      rw [HN1.out,decide_eq_false h1]; rfl)
     go_wp2
     go_round
     case rel => exact ⟨j,by omega,by go_num,by rw [HE.out]⟩
     case measure => simp [RowKit.intOf]
end Go.Proofs.YtapnomdckglehaaGreat