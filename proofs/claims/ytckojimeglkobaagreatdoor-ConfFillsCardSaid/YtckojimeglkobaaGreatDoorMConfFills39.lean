/- ConfAwake, OpenN, OpenD, TermOpen, EvalOpen, ActOpen, SoundRef, ConfOpen, ActRefWith, ConfEq, joined. -/
import Derived.Test.YtckojimeglkobaaGreatDoorMConfFills38
import Derived.Test.YtckojimeglkobaaGreatDoorMConfFills00
import Derived.ProofKit
import Derived.OpenShut
import Derived.Deep.Slices
import Derived.Test.YtckojimeglkobaaGreatDoorRows
import Derived.Lib.SmallJoins
import Derived.Test.YtckojimeglkobaaGreatDoorMConfFills01
import Derived.Test.YtckojimeglkobaaGreatDoorMConfFills20
import Derived.Test.YtckojimeglkobaaGreatDoorMConfFills34
import Derived.Test.YtckojimeglkobaaGreatDoorMConfFills12
import Derived.Test.YtckojimeglkobaaGreatDoorMConfFills33
import Derived.Test.YtckojimeglkobaaGreatDoorMConfFills08
import Derived.Laws.StructEq
import Derived.DeepKeys
import Derived.Test.YtckojimeglkobaaGreatDoorMConfFills04
namespace Go.Proofs.YtckojimeglkobaaGreatDoor
open Go.RowKit TermSpec EvalSpec ActSpec NamesSpec ExprSpec TransSpec SynSpec CurSpec ShapeSpec GroupSpec AtlasSpec PrintSpec ConfSpec SoundSpec
set_option maxRecDepth 100000
def x18:Cx:=⟨⟨#[99]⟩,[],[⟨⟨#[120]⟩,0,3,2⟩],[sx17 116 2 (-1),sx17 97 1 0,sx17 98 1 0]⟩
theorem few18 {s:Sx} (h:s ∈ x18.sts):s.s.size = 1 ∧ s.en = [] ∧ s.ex = [] ∧ s.tr = []:=few17 (s:=s) h
theorem vr18 {v:Vr} (h:v ∈ x18.vars):v = ⟨⟨#[120]⟩,0,3,2⟩:=List.mem_singleton.1 h
theorem x18_few:FewR x18:=by
 have z1:x18.evs.length ≤ 1000:=by decide
 have z2:x18.vars.length ≤ 1000:=by decide
 have z3:x18.sts.length ≤ 1000:=by decide
 refine ⟨(fun s h => by cases h),z1,fun v h => ?_,z2,fun s h => ?_,z3⟩
 ·rw [vr18 h]
  exact ⟨by decide,by unfold VFit; decide⟩
 ·obtain ⟨h1,h2,h3,h4⟩:=few18 h
  refine ⟨by omega,⟨?_,?_,?_,?_,?_,?_⟩,by rw [h4]; decide⟩
  ·rw [h2]; simp
  ·rw [h2]; decide
  ·rw [h3]; simp
  ·rw [h3]; decide
  ·rw [h4]; simp
  ·rw [h4]; decide
theorem x18_fit:FitM x18:=by
 have z3:x18.sts.length ≤ 100000:=by decide
 refine ⟨by decide,(fun s h => by cases h),fun v h => ?_,z3,fun s h => ?_⟩
 ·rw [vr18 h]
  decide
 ·obtain ⟨h1,h2,h3,h4⟩:=few18 h
  rw [h2,h3,h4]
  exact ⟨by omega,by simp,by decide,by simp,by decide,by decide,by simp⟩
theorem x18_sound:soundC x18 = true:=by decide +kernel
theorem x18_chk:chk (x18.sts.map shOf) = 0:=by decide +kernel
theorem x18_ne:∀ i,i < (x18.sts.map shOf).length → kind (x18.sts.map shOf) i = 2 → kids (x18.sts.map shOf) i ≠ []:=by decide +kernel
theorem x18_fill1:fillG (x18.sts.map shOf) 1 = 3:=by decide +kernel
theorem x18_fill5:fillG (x18.sts.map shOf) 5 = 5:=by decide +kernel
theorem x18_may:mayCf (x18.sts.map shOf) x18.vars ⟨3,⟨2,0,0,0⟩⟩ = true:=by decide +kernel
theorem x18_not:mayCf (x18.sts.map shOf) x18.vars ⟨7,⟨0,0,0,0⟩⟩ = false:=by decide +kernel
theorem x18_names:namesTo x18.sts 3 true x18.sts.length = [⟨#[97]⟩]:=by decide +kernel
theorem x18_first:firstV x18.vars = ⟨2,0,0,0⟩:=rfl
theorem vb18 (s:ByteArray) (a b:Int) (w:World):(Instr.build 52 #[(0,.string s),(2,.int .i64 a),(3,.int .i64 b)]).run Tryz.prog w = .ok (.agg #[.string s,.int .i64 0,.int .i64 a,.int .i64 b]) w:=run_build w 52 _ _ (by kernel_rfl)
theorem cb18 (s:ByteArray) (A B:Option Addr) (n c m d:Nat) (w:World):(Instr.build 26 #[(0,.string s),(2,.slice A n c),(3,.slice B m d)]).run Tryz.prog w = .ok (.agg #[.string s,.slice none 0 0,.slice A n c,.slice B m d]) w:=run_build w 26 _ _ (by kernel_rfl)
abbrev vrO18:Obj:=.cells #[.string ⟨#[120]⟩,.int .i64 0,.int .i64 3,.int .i64 2] 52
theorem x18_in {W:World} {b:Nat} (h1:W.heap[b]? = some vrO18) (h2:W.heap[b + 1]? = some stO17):ChIn W (.slice none 0 0) (.slice (some ⟨b,0,none⟩) 1 1) (.slice (some ⟨b + 1,0,none⟩) 3 3) x18:=by
 refine ⟨Rd.nil _,rdk_whole (n:=1) (k:=4) h1 rfl rfl (Nat.le_refl _),⟨[⟨sx17 116 2 (-1),none,0,0,none,0,0,none,0,0⟩,⟨sx17 97 1 0,none,0,0,none,0,0,none,0,0⟩,⟨sx17 98 1 0,none,0,0,none,0,0,none,0,0⟩],rfl,rdk_whole h2 rfl rfl (Nat.le_refl _),fun p hp => ?_⟩⟩
 have hz:∀ y,Acs y (.slice none 0 0) []:=fun y => acs_nil y
 have key:∀ s k q,spN ⟨sx17 s k q,none,0,0,none,0,0,none,0,0⟩ W:=fun s k q => ⟨hz _,hz _,⟨[],rfl,Rdk.nil _ _,fun q hq => by cases hq⟩⟩
 rcases List.mem_cons.1 hp with rfl | hp
 ·exact key _ _ _
 rcases List.mem_cons.1 hp with rfl | hp
 ·exact key _ _ _
 rw [List.mem_singleton.1 hp]
 exact key _ _ _
theorem new_x18 {W:World} {b:Nat} (h1:W.heap[b]? = some vrO18) (h2:W.heap[b + 1]? = some stO17):Calls Tryz.prog 8 #[.agg #[.string ⟨#[99]⟩,.slice none 0 0,.slice (some ⟨b,0,none⟩) 1 1,.slice (some ⟨b + 1,0,none⟩) 3 3]] W (RetNew W x18) :=
 new_yes x18 _ _ _ _ _ _ _ _ _ W (x18_in h1 h2) x18_fit x18_few x18_sound
section
variable {B:Nat} {W:World} (h:AtIn W B x18)
include h
theorem first_x18:Calls Tryz.prog 13 #[.pointer (some ⟨B,0,none⟩)] W (RetAt W B x18 (fun _ v => v = .agg #[.int .u64 3,.int .i64 2,.int .i64 0,.int .i64 0,.int .i64 0])):=by
 have:=first18 B x18 W h x18_chk x18_ne (by decide) x18_few (by decide)
 rw [x18_fill1,x18_first] at this
 exact this
theorem fill_x18:Calls Tryz.prog 12 #[.pointer (some ⟨B,0,none⟩),.int .u64 5] W (RetAt W B x18 (fun _ v => v = .int .u64 5)):=by
 have:=fill18 B x18 W h x18_chk x18_ne (by decide) 5 (by decide) x18_few
 rw [x18_fill5] at this
 exact this
theorem leaves_x18:Calls Tryz.prog 18 #[.pointer (some ⟨B,0,none⟩),.agg #[.int .u64 3,.int .i64 2,.int .i64 0,.int .i64 0,.int .i64 0]] W (RetNm W [⟨#[97]⟩]):=by
 have:=leaves_own B x18 W h x18_few ⟨3,⟨2,0,0,0⟩⟩ (by decide)
 rw [x18_names] at this
 exact this
theorem check_x18 (hT:TabIn W) (hB:0 < B):Calls Tryz.prog 10 #[.pointer (some ⟨B,0,none⟩),.agg #[.int .u64 3,.int .i64 2,.int .i64 0,.int .i64 0,.int .i64 0]] W (RetIn W B x18 (fun _ v => v = .int .i64 0)):=by
 have:=check18 B x18 W h x18_chk x18_few hT hB ⟨3,⟨2,0,0,0⟩⟩ (by decide)
 rw [x18_may] at this
 exact this
theorem check_y18 (hT:TabIn W) (hB:0 < B):Calls Tryz.prog 10 #[.pointer (some ⟨B,0,none⟩),.agg #[.int .u64 7,.int .i64 0,.int .i64 0,.int .i64 0,.int .i64 0]] W (RetIn W B x18 (fun _ v => v = .int .i64 1)):=by
 have:=check18 B x18 W h x18_chk x18_few hT hB ⟨7,⟨0,0,0,0⟩⟩ (by decide)
 rw [x18_not] at this
 exact this
end
theorem check_z18 (W:World):Calls Tryz.prog 10 #[.pointer none,.agg #[.int .u64 3,.int .i64 2,.int .i64 0,.int .i64 0,.int .i64 0]] W (RetI W 10):=check_no W ⟨3,⟨2,0,0,0⟩⟩
theorem cf_build7 (w:World):(Instr.build 30 #[(0,.int .u64 7)]).run Tryz.prog w = .ok (.agg #[.int .u64 7,.int .i64 0,.int .i64 0,.int .i64 0,.int .i64 0]) w:=cf_build 7 w
abbrev cfO18:Obj:=.cells #[.int .u64 3,.int .i64 2,.int .i64 0,.int .i64 0,.int .i64 0] 30
set_option maxRecDepth 100000 in
set_option maxHeartbeats 8000000 in
theorem awake18 (w:World) (hT:TabIn w):Calls Tryz.prog 7 #[] w (RetB w true):=by
 have b1:=sb17a
 have b2:=sb17b
 have b3:=cb18
 have b4:=vb18
 have b5:=cf_build7
 obtain ⟨W2,hW2⟩:∃ W2,(w.alloc vrO18).alloc stO17 = W2:=⟨_,rfl⟩
 have hb2:Below w.heap.size w W2:=by rw [← hW2]; exact KitC.below_pair _ _ _
 have h1:W2.heap[w.heap.size]? = some vrO18:=by rw [← hW2]; exact (heap_alloc_old _ _ (by simp)).trans (heap_alloc_new _ _)
 have h2:W2.heap[w.heap.size + 1]? = some stO17:=by rw [← hW2]; have:=heap_alloc_new (w.alloc vrO18) stO17; rwa [World.size_alloc] at this
 have HN:=Lib.hid (new_x18 h1 h2)
 have HT:=Lib.hid (And.intro hT hT.pos)
 have HB2:=Lib.hid hb2
 have HW2:=Lib.hid hW2
 clear hb2 h1 h2 hW2 hT
 go_enter Tryz.func7,Tryz.ntmps7
 go_wp2_with ((try rw [HW2.out]); go_at_call 8; go_fit HN.out)
 rintro e w3 ⟨B,rfl,hat,hB,hb⟩
 have HA3:=Lib.hid hat
 have HBB:Hid (w.heap.size ≤ B):=Lib.hid (Nat.le_trans HB2.out.size hB)
 have HTB:Hid (0 < B):=Lib.hid (Nat.lt_of_lt_of_le HT.out.2 HBB.out)
 have HB3:=Lib.hid (below_two' HB2.out hb)
 clear hat hB hb
 go_wp2_with (go_at_call 13; go_fit (first_x18 HA3.out))
 rintro e w4 ⟨v,rfl,rfl,hat,hg⟩
 have HB4:=Lib.hid (at_below HB3.out HB3.out.size hg HBB.out)
 obtain ⟨W5,hW5⟩:∃ W5,w4.alloc cfO18 = W5:=⟨_,rfl⟩
 have hb5:Below w4.heap.size w4 W5:=by rw [← hW5]; exact KitC.below_one _ _
 have hk5:W5.heap[w4.heap.size]? = some cfO18:=by rw [← hW5]; exact heap_alloc_new _ _
 have HA5:=Lib.hid (AtIn.keep (.inr hat) hb5)
 have HB5:=Lib.hid (below_two' HB4.out hb5)
 have HK5:=Lib.hid hk5
 have HW5:=Lib.hid hW5
 have HB4S:Hid (B < w4.heap.size):=Lib.hid (AtIn.lt (.inr hat))
 clear hat hg hW5 hb5 hk5
 go_wp2_with ((try rw [HW5.out]); go_at_call 18; go_fit (leaves_x18 HA5.out))
 rintro e w6 ⟨lv,rfl,hown,hb⟩
 obtain ⟨g0,lc,rfl⟩:=ownsRow_succ (k:=0) hown
 have HOWN:=Lib.hid hown
 have hk6:=KitC.block_on HK5.out hb
 have HK6:=Lib.hid hk6
 have HA6:=Lib.hid (HA5.out.keep hb)
 have HB6:=Lib.hid (below_two' HB5.out hb)
 have HZ5:Hid (B < W5.heap.size):=Lib.hid HA5.out.lt
 obtain ⟨c0,c1,c2,c3,c4⟩:=cells_5c (x:=⟨2,0,0,0⟩) hk6
 clear hb hk6 hown
 go_wp2_with (go_at_call 10; go_fit (check_x18 HA6.out (HT.out.1.keep HB6.out) HTB.out))
 rintro e w7 ⟨v,rfl,rfl,hat,hg⟩
 have HA7:=Lib.hid hat
 have HB7:=Lib.hid (at_below HB6.out HB6.out.size hg HBB.out)
 have HK7:=Lib.hid (blk_go HK6.out hg (fun e => by injection e with e; have:=HB4S.out; omega))
 have HO7:=Lib.hid (own_go1 HOWN.out hg (fun e => by have:=(own_block_bd HOWN.out _ e).1; have:=HZ5.out; omega))
 clear hat hg c0 c1 c2 c3 c4
 obtain ⟨c0,c1,c2,c3,c4⟩:=cells_5c (x:=⟨2,0,0,0⟩) HK7.out
 go_wp2_with (go_at_call 10; go_fit (check_y18 HA7.out (HT.out.1.keep HB7.out) HTB.out))
 rintro e w8 ⟨v,rfl,rfl,hat,hg⟩
 have HA8:=Lib.hid hat
 have HB8:=Lib.hid (at_below HB7.out HB7.out.size hg HBB.out)
 have HK8:=Lib.hid (blk_go HK7.out hg (fun e => by injection e with e; have:=HB4S.out; omega))
 have HO8:=Lib.hid (own_go1 HO7.out hg (fun e => by have:=(own_block_bd HO7.out _ e).1; have:=HZ5.out; omega))
 clear hat hg c0 c1 c2 c3 c4
 obtain ⟨c0,c1,c2,c3,c4⟩:=cells_5c (x:=⟨2,0,0,0⟩) HK8.out
 go_wp2_with (go_at_call 10; go_fit (check_z18 w8))
 rintro e w9 ⟨rfl,hb⟩
 have HA9:=Lib.hid (HA8.out.keep hb)
 have HB9:=Lib.hid (below_two' HB8.out hb)
 have HO9:=Lib.hid (own_keep HO8.out hb)
 clear hb c0 c1 c2 c3 c4
 go_wp2_with (go_at_call 12; go_fit (fill_x18 HA9.out))
 rintro e wa ⟨v,rfl,rfl,hat,hg⟩
 have HBA:=Lib.hid (at_below HB9.out HB9.out.size hg HBB.out)
 have HOA:=Lib.hid (own_go1 HO9.out hg (fun e => by have:=(own_block_bd HO9.out _ e).1; have:=HZ5.out; omega))
 have hrd:Rd wa (.slice (some ⟨g0,0,none⟩) 1 lc) (strV [⟨#[97]⟩]):=Rd.own HOA.out
 obtain ⟨A',n',c',heq,_,_,hA⟩:=hrd.strs
 cases heq
 obtain ⟨b,off,heq,_,hcell⟩:=hA (by omega)
 cases heq
 have k0:wa.cell? ⟨g0,0,none⟩ = some (.string ⟨#[97]⟩):=hcell 0 _ rfl
 clear hat hg hcell hA hrd
 go_wp2_with fail
 go_ret
 exact ⟨rfl,HBA.out⟩
end Go.Proofs.YtckojimeglkobaaGreatDoor
namespace Go.Proofs.YtckojimeglkobaaGreatDoor
open Go.RowKit Go.ChangeShapes Go.WideShapes Go.Deep
theorem cell_there' {w:World} {b o:Nat} {u:Value} (h:w.cell? ⟨b,o,none⟩ = some u):b < w.heap.size:=by
 rcases Nat.lt_or_ge b w.heap.size with hlt | hge
 ·exact hlt
 ·simp [World.cell?,Array.getElem?_eq_none hge] at h
theorem list_of {α:Type} {R:Nat → α → Prop}:∀ n,(∀ i,i < n → ∃ a,R i a) → ∃ l:List α,l.length = n ∧ ∀ i a,l[i]? = some a → R i a
 | 0,_ => ⟨[],rfl,fun i a h => by simp at h⟩
 | n + 1,h => by
   obtain ⟨l,hl,hR⟩:=list_of n (fun i hi => h i (by omega))
   obtain ⟨a,ha⟩:=h n (by omega)
   refine ⟨l ++ [a],by simp [hl],fun i b hb => ?_⟩
   rcases Nat.lt_or_ge i l.length with hlt | hge
   ·rw [List.getElem?_append_left hlt] at hb
    exact hR i b hb
   ·rw [List.getElem?_append_right hge] at hb
    obtain hi:i - l.length = 0:=by
     have:=(List.getElem?_eq_some_iff.1 hb).1
     simp at this
     omega
    rw [hi] at hb
    simp at hb
    subst hb
    obtain rfl:i = n:=by omega
    exact ha
theorem flat_at {α:Type} {k:Nat} {f:α → List Value} (hf:∀ a,(f a).length = k) (hk:0 < k) {l:List α} {q:Nat} {u:Value} (h:(l.flatMap f)[q]? = some u):∃ a,l[q / k]? = some a ∧ (f a)[q % k]? = some u:=by
 have hq:q < l.length * k:=by have:=(List.getElem?_eq_some_iff.1 h).1; rwa [flat_length hf] at this
 have hi:q / k < l.length:=Nat.div_lt_of_lt_mul (by rwa [Nat.mul_comm] at hq)
 refine ⟨l[q / k],List.getElem?_eq_getElem hi,?_⟩
 rw [← flat_get hf (List.getElem?_eq_getElem hi) (Nat.mod_lt q hk),Nat.mul_comm (q / k) k,Nat.div_add_mod]
 exact h
end Go.Proofs.YtckojimeglkobaaGreatDoor
namespace Go.Proofs.YtckojimeglkobaaGreatDoor
namespace OpenD
open Go.RowKit Go.ChangeShapes Go.WideShapes Go.Deep
set_option maxRecDepth 100000
theorem cells_int:Tryz.prog.cellsOf 3 = 1:=by kernel_rfl
theorem cells_str:Tryz.prog.cellsOf 9 = 1:=by kernel_rfl
section
variable {H:Type} {enc:TypeId × Value → H} {W:World} {base:Nat} {spare:Nat → Bool} {held:Bool}
theorem dec_int {n:Nat} {c:Value} {x:Option (DataW H × List MemPlace)} (h:DataW.trod enc Tryz.prog W base spare held n 3 [c] = x) (hx:x.isSome):∃ k,c = .int .i64 k:=by
 obtain ⟨y,rfl⟩:=Option.isSome_iff_exists.1 hx
 obtain ⟨k,hc,_⟩:=DataW.trod_int Tryz.underlying3 h
 simp at hc
 exact ⟨k,hc⟩
theorem dec_str {n:Nat} {c:Value} {x:Option (DataW H × List MemPlace)} (h:DataW.trod enc Tryz.prog W base spare held n 9 [c] = x) (hx:x.isSome):∃ s:ByteArray,c = .string s ∧ s.size ≤ 9223372036854775807:=by
 obtain ⟨y,rfl⟩:=Option.isSome_iff_exists.1 hx
 obtain ⟨s,hc,_,hs⟩:=DataW.trod_string Tryz.underlying9 h
 simp at hc
 exact ⟨s,hc,hs⟩
theorem some_at {α:Type} {l:List α} {i:Nat} (h:i < l.length):(l[i]?).isSome:=by rw [List.getElem?_eq_getElem h]; rfl
end
end OpenD
end Go.Proofs.YtckojimeglkobaaGreatDoor
namespace Go.Proofs.YtckojimeglkobaaGreatDoor
open Go.RowKit Go.ChangeShapes Go.WideShapes Go.Deep TermSpec OpenD
set_option maxRecDepth 100000
theorem cells_term:Tryz.prog.cellsOf 100 = 3:=by kernel_rfl
section
variable {H:Type} {enc:TypeId × Value → H} {W:World} {base:Nat} {spare:Nat → Bool} {held:Bool}
theorem dec_term (n:Nat) (cs:List Value) (x:DataW H × List MemPlace) (h:DataW.trod enc Tryz.prog W base spare held n 100 cs = some x):∃ t:Tm,cs = tmV t ∧ t.s.size ≤ 9223372036854775807:=by
 obtain ⟨xs,m,_,_,hl,hxl,hg⟩:=DataW.trod_struct Tryz.underlying100 h
 rw [cells_term] at hl
 have hxl':xs.length = 3:=hxl
 match cs,hl with
 | [c0,c1,c2],_ =>
   have g0:DataW.trod enc Tryz.prog W base spare held m 3 (([c0,c1,c2].drop 0).take (Tryz.prog.cellsOf 3)) = xs[0]?:=hg 0 _ rfl
   have g1:DataW.trod enc Tryz.prog W base spare held m 3 (([c0,c1,c2].drop 1).take (Tryz.prog.cellsOf 3)) = xs[1]?:=hg 1 _ rfl
   have g2:DataW.trod enc Tryz.prog W base spare held m 9 (([c0,c1,c2].drop 2).take (Tryz.prog.cellsOf 9)) = xs[2]?:=hg 2 _ rfl
   rw [OpenD.cells_int] at g0 g1
   rw [OpenD.cells_str] at g2
   obtain ⟨a,rfl⟩:=OpenD.dec_int g0 (OpenD.some_at (by omega))
   obtain ⟨b,rfl⟩:=OpenD.dec_int g1 (OpenD.some_at (by omega))
   obtain ⟨s,rfl,hs⟩:=OpenD.dec_str g2 (OpenD.some_at (by omega))
   exact ⟨⟨a,b,s⟩,rfl,hs⟩
variable {b0:Nat} {r:Reach} {v:Value} {d:DataW H} {p:List MemPlace}
end
end Go.Proofs.YtckojimeglkobaaGreatDoor
namespace Go.Proofs.YtckojimeglkobaaGreatDoor
open Go.RowKit Go.ChangeShapes Go.WideShapes Go.Deep TermSpec EvalSpec
set_option maxRecDepth 100000
theorem open_rows_c {α:Type} {f:α → List Value} {Good:α → Prop} {k:Nat} {H:Type} {enc:TypeId × Value → H} {P:Program} {W:World} {base:Nat} {spare:Nat → Bool} {held:Bool} {fuel:Nat} {t e:TypeId} {v:Value} {x:DataW H × List MemPlace}
 (hf:∀ a,(f a).length = k) (hk0:0 < k) (hk:P.cellsOf e = k) (hu:P.underlying t = some (.slice e))
 (hdec:∀ n cs x,DataW.trod enc P W base spare held n e cs = some x → ∃ a,cs = f a ∧ Good a)
 (h:DataW.trod enc P W base spare held fuel t [v] = some x) :
 ∃ (A:Option Addr) (n cp:Nat) (l:List α),v = .slice A n cp ∧ n = l.length ∧ Rdk k W (.slice A n cp) n (l.flatMap f) ∧ (∀ a ∈ l,Good a) ∧ n ≤ 9223372036854775807:=by
 rcases open_slice hu h with ⟨hcs,_⟩ | ⟨a,len,cap,m,n,D,Pl,hcs,hb,hl,hm,hmm,_,hi⟩
 ·cases hcs
  exact ⟨none,0,0,[],rfl,rfl,Rdk.nil k W,by simp,by omega⟩
 ·cases hcs
  rw [hk] at hi
  have hlm:len ≤ m:=by rw [hmm]; split <;> omega
  obtain ⟨l,hll,hR⟩:=list_of (R:=fun i (x:α) => (∀ j,j < k → W.cell? ((a.add (i * k)).add j) = (f x)[j]?) ∧ Good x) len (fun i hlt => by
   obtain ⟨cs',hc,ht⟩:=hi i (by omega)
   obtain ⟨x,rfl,hg⟩:=hdec _ _ _ ht
   obtain ⟨_,_,hat⟩:=World.cells?_some hc
   exact ⟨x,hat,hg⟩)
  refine ⟨some a,len,cap,l,rfl,hll.symm,⟨some a,cap,rfl,hl,by rw [flat_length hf,hll],fun h0 => ?_⟩,fun x hx => ?_,by unfold maxLen at hm; omega⟩
  ·obtain ⟨x,hx0⟩:∃ x,l[0]? = some x:=get_some (by omega)
   obtain ⟨u,hu0⟩:∃ u,(f x)[0]? = some u:=get_some (by rw [hf]; exact hk0)
   obtain ⟨b,off,spot⟩:=a
   have h00:=(hR 0 x hx0).1 0 hk0
   rw [hu0] at h00
   have hspot:spot = none:=by simpa [Addr.add] using World.cell?_spot h00
   subst hspot
   rw [addr_add,addr_add] at h00
   refine ⟨b,off,rfl,cell_there' h00,fun q u hq => ?_⟩
   obtain ⟨y,hy,hu⟩:=flat_at hf hk0 hq
   have:=(hR _ y hy).1 (q % k) (Nat.mod_lt q hk0)
   rw [addr_add,addr_add,Nat.add_assoc,Nat.mul_comm (q / k) k,Nat.div_add_mod,hu] at this
   exact this
  ·obtain ⟨i,hi⟩:=List.mem_iff_getElem?.1 hx
   exact (hR i x hi).2
theorem cells_var:Tryz.prog.cellsOf 52 = 4:=by kernel_rfl
section
variable {H:Type} {enc:TypeId × Value → H} {W:World} {base:Nat} {spare:Nat → Bool} {held:Bool}
variable {b0:Nat} {r:Reach} {v:Value} {d:DataW H} {p:List MemPlace}
end
end Go.Proofs.YtckojimeglkobaaGreatDoor
namespace Go.Proofs.YtckojimeglkobaaGreatDoor
open Go.RowKit Go.ChangeShapes Go.WideShapes Go.Deep TermSpec EvalSpec ActSpec
set_option maxRecDepth 100000
theorem cells_act:Tryz.prog.cellsOf 98 = 3:=by kernel_rfl
theorem cells_bool:Tryz.prog.cellsOf 4 = 1:=by kernel_rfl
theorem cells_trms:Tryz.prog.cellsOf 60 = 1:=by kernel_rfl
theorem wf_i64 {n:Int} (h:(Lit.int .i64 n).wf = true):-9223372036854775808 ≤ n ∧ n ≤ 9223372036854775807:=by
 have e1:IntKind.i64.min = -9223372036854775808:=by kernel_rfl
 have e2:IntKind.i64.max = 9223372036854775807:=by kernel_rfl
 simp [Lit.wf,e1,e2] at h
 exact h
section
variable {H:Type} {enc:TypeId × Value → H} {W:World} {base:Nat} {spare:Nat → Bool} {held:Bool}
theorem dec_int_fit {n:Nat} {c:Value} {x:Option (DataW H × List MemPlace)} (h:DataW.trod enc Tryz.prog W base spare held n 3 [c] = x) (hx:x.isSome):∃ k,c = .int .i64 k ∧ -9223372036854775808 ≤ k ∧ k ≤ 9223372036854775807:=by
 obtain ⟨y,rfl⟩:=Option.isSome_iff_exists.1 hx
 obtain ⟨k,hc,_,hw⟩:=DataW.trod_int Tryz.underlying3 h
 simp at hc
 exact ⟨k,hc,wf_i64 hw⟩
theorem dec_bool {n:Nat} {c:Value} {x:Option (DataW H × List MemPlace)} (h:DataW.trod enc Tryz.prog W base spare held n 4 [c] = x) (hx:x.isSome):∃ b,c = .bool b:=by
 obtain ⟨y,rfl⟩:=Option.isSome_iff_exists.1 hx
 obtain ⟨k,hc,_⟩:=DataW.trod_bool Tryz.underlying4 h
 simp at hc
 exact ⟨k,hc⟩
def GoodAP (W:World) (p:AP):Prop:=p.a.s.size ≤ 9223372036854775807 ∧ Small p.a.x ∧ p.a.x.length ≤ 9223372036854775807 ∧ Tms W (.slice p.xA p.xn p.xc) p.a.x
theorem dec_act (n:Nat) (cs:List Value) (x:DataW H × List MemPlace) (h:DataW.trod enc Tryz.prog W base spare held n 98 cs = some x):∃ p:AP,cs = acV p ∧ GoodAP W p:=by
 obtain ⟨xs,m,_,_,hl,hxl,hg⟩:=DataW.trod_struct Tryz.underlying98 h
 rw [cells_act] at hl
 have hxl':xs.length = 3:=hxl
 match cs,hl with
 | [c0,c1,c2],_ =>
   have g0:DataW.trod enc Tryz.prog W base spare held m 9 (([c0,c1,c2].drop 0).take (Tryz.prog.cellsOf 9)) = xs[0]?:=hg 0 _ rfl
   have g1:DataW.trod enc Tryz.prog W base spare held m 4 (([c0,c1,c2].drop 1).take (Tryz.prog.cellsOf 4)) = xs[1]?:=hg 1 _ rfl
   have g2:DataW.trod enc Tryz.prog W base spare held m 60 (([c0,c1,c2].drop 2).take (Tryz.prog.cellsOf 60)) = xs[2]?:=hg 2 _ rfl
   rw [OpenD.cells_str] at g0
   rw [cells_bool] at g1
   rw [cells_trms] at g2
   obtain ⟨s,rfl,hs⟩:=OpenD.dec_str g0 (OpenD.some_at (by omega))
   obtain ⟨b,rfl⟩:=dec_bool g1 (OpenD.some_at (by omega))
   obtain ⟨y2,e2⟩:=Option.isSome_iff_exists.1 (OpenD.some_at (l:=xs) (i:=2) (by omega))
   rw [e2] at g2
   obtain ⟨A,k,cp,l,rfl,hn,hR,hG,hb⟩:=open_rows_c (v:=c2) (f:=tmV) (Good:=fun t => t.s.size ≤ 9223372036854775807) tmV_length (by decide) cells_term Tryz.underlying60 dec_term g2
   exact ⟨⟨⟨s,b,l⟩,A,k,cp⟩,rfl,hs,hG,by simp only; omega,⟨k,hn,hR⟩⟩
variable {b0:Nat} {r:Reach} {v:Value} {d:DataW H} {p:List MemPlace}
end
end Go.Proofs.YtckojimeglkobaaGreatDoor
namespace Go.Proofs.YtckojimeglkobaaGreatDoor
open Go.RowKit TermSpec NamesSpec EvalSpec ActSpec TransSpec SynSpec RulesSpec PrintSpec SoundSpec
set_option maxRecDepth 100000
section
variable (x:Cx) (eA:Option Addr) (en ec:Nat) (vA:Option Addr) (vn vc:Nat) (sA:Option Addr) (sn sc:Nat) (w:World) (h:ChIn w (.slice eA en ec) (.slice vA vn vc) (.slice sA sn sc) x) (hf:FewR x) (hmr:MayR x)
include h hf hmr
end
def SkRel (W1:World) (K:Nat → Bool) (i:Value) (wr:World):Prop:=∃ k:Nat,k ≤ 10 ∧ i = .int .i64 (10 - (k:Int)) ∧ Hid (K k = true) ∧ Hid (Below W1.heap.size W1 wr)
section
variable (x:Cx) (eA:Option Addr) (en ec:Nat) (vA:Option Addr) (vn vc:Nat) (sA:Option Addr) (sn sc:Nat) (w:World) (h:ChIn w (.slice eA en ec) (.slice vA vn vc) (.slice sA sn sc) x) (hm:FitM x) (hf:FewR x)
include h hm hf
set_option maxRecDepth 100000 in
set_option maxHeartbeats 8000000 in
theorem rsis_any:Calls Tryz.prog 9 #[.agg #[.string x.s,.slice eA en ec,.slice vA vn vc,.slice sA sn sc]] w (RetB w (soundC x)):=by
 have HM:=Lib.hid (fun W (hW:Below w.heap.size w W) => mayC_any x eA en ec vA vn vc sA sn sc W (h.keep hW) hm)
 have HBR:=Lib.hid (fun (hc:mayC x = true) (r:Int) (h1:1 ≤ r) (h2:r ≤ 10) W (hW:Below w.heap.size w W) => rbk_any x eA en ec vA vn vc sA sn sc W (h.keep hW) hf (mayR_of hc).1 r h1 h2)
 have HBF:Hid (∀ r,(brk x r).length ≤ 1000000):=Lib.hid (fun r => brk_few15 hf r)
 obtain ⟨nm,hnm⟩:∃ nm,nm = x.s:=⟨_,rfl⟩
 rw [← hnm] at HM HBR ⊢
 obtain ⟨W1,hW1⟩:∃ W1,w.alloc (.cells #[.string nm,.slice eA en ec,.slice vA vn vc,.slice sA sn sc] 26) = W1:=⟨_,rfl⟩
 have hb1:Below w.heap.size w W1:=by rw [← hW1]; exact KitC.below_one _ _
 have hk1:W1.heap[w.heap.size]? = some (.cells #[.string nm,.slice eA en ec,.slice vA vn vc,.slice sA sn sc] 26):=by rw [← hW1]; exact heap_alloc_new _ _
 have HK:=Lib.hid (fun W (hW:Below W1.heap.size W1 W) => KitC.block_on hk1 hW)
 have HW1:=Lib.hid hW1
 have HB1:=Lib.hid hb1
 obtain ⟨c0,c1,c2,c3⟩:=cells_4 hk1
 cases hmc:mayC x with
 | false =>
   rw [hmc] at HM
   have HE:Hid (soundC x = false):=Lib.hid (by unfold soundC; rw [hmc]; rfl)
   rw [HE.out]
   clear h hm hf hnm hW1 hb1 hk1 hmc HBR HBF
   go_enter Tryz.func9,Tryz.ntmps9
   go_wp2_with (rw [HW1.out]; go_at_call 27; go_fit (HM.out _ HB1.out))
   rintro e w2 ⟨rfl,hb⟩
   have HB2:=Lib.hid (below_two' HB1.out hb)
   clear hb c0 c1 c2 c3
   go_wp2_with fail
   go_ret
   exact ⟨rfl,HB2.out⟩
 | true =>
   rw [hmc] at HM
   have HBR:=Lib.hid (HBR.out hmc)
   obtain ⟨K,hKK⟩:∃ K:Nat → Bool,K = keptFrom x:=⟨_,rfl⟩
   obtain ⟨B,hB⟩:∃ B:Int → List Fw,B = brk x:=⟨_,rfl⟩
   have HNX:Hid (∀ k:Nat,K (k + 1) = (decide ((B (10 - (k:Int))).length = 0) && K k)):=Lib.hid (fun k => by rw [hKK,hB]; rfl)
   have HK0:Hid (K 0 = true):=Lib.hid (by rw [hKK]; rfl)
   have HKE:Hid (soundC x = K 10):=Lib.hid (by unfold soundC; rw [hmc,hKK,kept_all]; rfl)
   have HNO:Hid (∀ k:Nat,k < 10 → ¬ (B (10 - (k:Int))).length = 0 → K 10 = false):=Lib.hid (fun k hk hne => by
    rw [hKK,Bool.eq_false_iff]
    intro hh
    have:=(keptFrom_iff (Nat.le_refl 10)).1 hh (10 - (k:Int)) (by omega) (by omega)
    rw [hB,this] at hne
    exact hne rfl)
   rw [HKE.out]
   rw [← hB] at HBR HBF
   clear h hm hf hnm hW1 hb1 hk1 hmc hKK hB HKE
   go_enter Tryz.func9,Tryz.ntmps9
   go_wp2_with (rw [HW1.out]; go_at_call 27; go_fit (HM.out _ HB1.out))
   rintro e w2 ⟨rfl,hb⟩
   have HB2:=Lib.hid hb
   clear hb c0 c1 c2 c3
   go_wp2_with fail
   go_loopw [3] (fun i wr => SkRel W1 K i wr) (fun i _ => (intOf i).toNat)
   case atStart => exact ⟨0,Nat.zero_le _,rfl,HK0,HB2⟩
   case round =>
    obtain ⟨k,hk,rfl,HKK,HBW⟩:=hrel
    by_cases hlt:k < 10
    case neg =>
     obtain rfl:k = 10:=by omega
     go_wp2_with fail
     go_ret
     exact ⟨ret_bool HKK.out.symm,below_two' HB1.out HBW.out⟩
    obtain ⟨r,hr⟩:∃ r:Nat,(10 - (k:Int)) = (r:Int) + 1:=⟨9 - k,by omega⟩
    have hkI:decide ((r:Int) + 1 ≥ 1) = true:=decide_eq_true (by omega)
    have hrl:(r:Int) ≤ 64:=by omega
    have HRK:=Lib.hid hr
    have HRG:Hid (1 ≤ (r:Int) + 1 ∧ (r:Int) + 1 ≤ 10):=Lib.hid (by omega)
    rw [hr]
    obtain ⟨c0,c1,c2,c3⟩:=cells_4 (HK.out _ HBW.out)
    have hws:w.heap.size < wr.heap.size:=(Array.getElem?_eq_some_iff.1 (HK.out _ HBW.out)).1
    have HNXk:=Lib.hid (HNX.out k)
    have HNOk:=Lib.hid (HNO.out k hlt)
    rw [hr] at HNXk HNOk
    clear hr
    go_wp2_with (go_at_call 28; go_fit (HBR.out ((r:Int) + 1) HRG.out.1 HRG.out.2 _ (below_two' HB1.out HBW.out)))
    rintro e w5 ⟨A,n,cp,rfl,hn,hfw,hb⟩
    have HB5:=Lib.hid (below_two' HBW.out hb)
    have HN:=Lib.hid hn
    clear hb hfw hn c0 c1 c2 c3 hws
    by_cases hz:n = 0
    ·subst hz
     have HKN:Hid (K (k + 1) = true):=Lib.hid (by rw [HNXk.out,HKK.out,← HN.out]; rfl)
     go_wp2_with fail
     go_roundw
     case rel => exact ⟨k + 1,hlt,by have:=HRK.out; congr 1; omega,HKN,HB5⟩
     case measure => simp [intOf]
    ·have g:decide (0 < (n:Int)) = true:=by simp; omega
     have g':decide (0 < n) = true:=by simp; omega
     have HKE:Hid (K 10 = false):=Lib.hid (HNOk.out (by rw [← HN.out]; exact hz))
     go_wp2_with fail
     go_ret
     exact ⟨ret_bool HKE.out.symm,below_two' HB1.out HB5.out⟩
end
end Go.Proofs.YtckojimeglkobaaGreatDoor
namespace Go.Proofs.YtckojimeglkobaaGreatDoor
open Go.RowKit Go.ChangeShapes Go.WideShapes Go.Deep TermSpec EvalSpec ActSpec NamesSpec ExprSpec TransSpec SynSpec CurSpec ShapeSpec GroupSpec AtlasSpec PrintSpec ConfSpec RulesSpec SoundSpec
set_option maxRecDepth 100000
theorem plTo_none {f:Nat → Bool}:∀ {n:Nat},plTo f n = [] → ∀ k,k < n → f k = false
 | 0,_,k,hk => absurd hk (by omega)
 | n + 1,h,k,hk => by
   cases hf:f n with
   | true => rw [plTo_yes hf] at h; simp at h
   | false =>
     rw [plTo_no hf] at h
     by_cases e:k = n
     ·rw [e]; exact hf
     ·exact plTo_none h k (by omega)
theorem sound_parts {x:Cx} (h:soundC x = true):chk (x.sts.map shOf) = 0 ∧ (∀ i,i < (x.sts.map shOf).length → kind (x.sts.map shOf) i = 2 → kids (x.sts.map shOf) i ≠ []) ∧ x.vars.length ≤ 4 ∧ ∀ v ∈ x.vars,v.lo ≤ v.ini ∧ v.ini ≤ v.hi:=by
 unfold soundC at h
 rw [Bool.and_eq_true,decide_eq_true_iff,List.length_eq_zero_iff] at h
 obtain ⟨hm,hfl⟩:=h
 have hc:=(mayR_of hm).2
 have hv4:x.vars.length ≤ 4:=by
  unfold mayC at hm
  simp only [Bool.and_eq_true,decide_eq_true_eq] at hm
  exact hm.2.2.1
 unfold flawsC at hfl
 rw [allTo_none] at hfl
 have h3:=hfl 3 (by omega) (by omega)
 have h5:=hfl 5 (by omega) (by omega)
 have e3:brk x 3 = itemsF 3 (plTo (illB x.vars) x.vars.length):=rfl
 have e5:brk x 5 = itemsF 5 (plTo (loneB (x.sts.map shOf)) x.sts.length):=rfl
 rw [e3] at h3
 rw [e5] at h5
 have p3:=plTo_none (List.map_eq_nil_iff.1 h3)
 have p5:=plTo_none (List.map_eq_nil_iff.1 h5)
 refine ⟨hc,fun i hi hk hn => ?_,hv4,fun v hv => ?_⟩
 ·have:=p5 i (by rw [List.length_map] at hi; exact hi)
  unfold loneB mustK at this
  rw [hn,hk] at this
  simp at this
 ·obtain ⟨i,hi⟩:=List.mem_iff_getElem?.1 hv
  have:=p3 i (List.getElem?_eq_some_iff.1 hi).1
  rw [illB_at hi] at this
  unfold rangeR at this
  simp at this
  omega
section
variable {H:Type} {enc:TypeId × Value → H} {W:World} {base:Nat} {spare:Nat → Bool} {held:Bool}
variable {b0:Nat} {r:Reach} {v:Value} {d:DataW H} {p:List MemPlace}
end
end Go.Proofs.YtckojimeglkobaaGreatDoor
namespace Go.Proofs.YtckojimeglkobaaGreatDoor
open Go.RowKit Go.Sort TermSpec EvalSpec ActSpec
set_option maxRecDepth 100000
def RowV (W wr:World) (p:Value) (xs:List V4):Prop:=wr.ownsRow W.heap.size 28 4 p xs.length (v4sV xs) ∧ Below W.heap.size W wr
theorem RowV.keep {W w w':World} {p:Value} {xs:List V4} (h:RowV W w p xs) (hb:Below w.heap.size w w'):RowV W w' p xs:=⟨own_keep h.1 hb,below_two' h.2 hb⟩
theorem RowV.add {W wr w2:World} {p p':Value} {xs ys:List V4} (h:RowV W wr p xs) (hrow:w2.ownsRow W.heap.size 28 4 p' (xs.length + ys.length) (v4sV xs ++ v4sV ys)) (hg:wr.grownBy w2 p.ownBlock):RowV W w2 p' (xs ++ ys):=by
 refine ⟨?_,h.2.grown hg h.2.size (fun j hj => (own_block_bd h.1 j hj).1)⟩
 rw [← v4sV_append,List.length_append]
 exact hrow
def Beyond (base:Nat) (v:Value):Prop:=∀ b off n c,v = .slice (some ⟨b,off,none⟩) n c → 0 < n → base ≤ b
theorem Beyond.row {W wr:World} {p:Value} {xs:List V4} (h:RowV W wr p xs) {base:Nat} (hb:base ≤ W.heap.size):Beyond base p:=by
 intro b off n c he _
 subst he
 have:=(own_block_bd h.1 b (by simp [Value.ownBlock])).1
 omega
theorem V4s.but {w w':World} {v:Value} {l:List V4} {base E:Nat} (h:V4s w v l) (hB:Beyond base v) (hE:E < base) (hg:w.grownBy w' (some E)):V4s w' v l:=by
 obtain ⟨n,hn,A,c,rfl,hc,hl,hA⟩:=h
 refine ⟨n,hn,A,c,rfl,hc,hl,fun h0 => ?_⟩
 obtain ⟨b,off,rfl,hb,hcell⟩:=hA h0
 refine ⟨b,off,rfl,Nat.lt_of_lt_of_le hb hg.size,fun j u hj => ?_⟩
 have hbe:=hB b off n c rfl h0
 have hblk:=hg.block b hb (fun e => by injection e with e; omega)
 have:=hcell j u hj
 simp only [World.cell?] at this ⊢
 rw [hblk]
 exact this
end Go.Proofs.YtckojimeglkobaaGreatDoor
namespace Go.Proofs.YtckojimeglkobaaGreatDoor
open Go.RowKit Go.Sort TermSpec EvalSpec ActSpec ConfSpec
set_option maxRecDepth 100000
theorem eq_v4n (n:Nat) (x y:V4) (w:World):(Op.equalIn (n + 2) 28 (v4A x) (v4A y)).run Tryz.prog w = .ok (decide (x = y)) w:=by
 have u3:=Tryz.underlying3
 obtain ⟨i0,hi,hz0,hz1,hz2⟩:=info_parts inf_int
 have hc:Tryz.prog.cellsOf 3 = 1:=by kernel_rfl
 rw [run_equalIn_array w (n + 1) _ _ Tryz.underlying28 hi,hc]
 simp only [List.range,List.range.loop,Op.eqItems,Sem.run_bind]
 go_simp
 obtain ⟨a,b,c,d⟩:=x
 obtain ⟨a',b',c',d'⟩:=y
 by_cases h1:a = a' <;> by_cases h2:b = b' <;> by_cases h3:c = c' <;> by_cases h4:d = d' <;> simp [h1,h2,h3,h4]
end Go.Proofs.YtckojimeglkobaaGreatDoor