/- GroupOps, ConfLess, RowI, GroupRef, ShapeMem, joined. -/
import Derived.Test.YtckojimeglkobaaGreatDoorMConfChecks02
import Derived.Test.YtckojimeglkobaaGreatDoorMConfChecks03
import Derived.Test.YtckojimeglkobaaGreatDoorMConfChecks00
import Derived.Laws.Bits64b
import Derived.Laws.BitsAllLaws
import Derived.Deep.DeepFit
import Derived.Laws.Bits128
import Derived.Shelf.Spec.TrailingZeros
import Derived.Test.YtckojimeglkobaaGreatDoorMConfChecks01
import Derived.Test.YtckojimeglkobaaGreatDoorRows
namespace Go.Proofs.YtckojimeglkobaaGreatDoor
open Go.RowKit GroupSpec
set_option maxRecDepth 100000
def SameU (w:World) (m:Nat) (e:Ending) (w':World):Prop:=e = .returned (.int .u64 m) ∧ w = w'
theorem shl_alone {i:Int} (h:0 ≤ i):IntKind.u64.wrap (2 ^ min i.toNat 64) = (aloneG i:Int):=by
 rw [IntKind.wrap_u64]
 unfold aloneG
 by_cases h1:i ≤ 63
 ·have hk:i.toNat < 64:=by omega
  rw [if_pos ⟨h,h1⟩,Nat.min_eq_left (by omega)]
  have hp:2 ^ i.toNat < 2 ^ 64:=Nat.pow_lt_pow_right (by decide) hk
  have e:((2:Int) ^ i.toNat) = ((2 ^ i.toNat:Nat):Int):=by simp
  rw [e]
  generalize (2:Nat) ^ i.toNat = q at hp ⊢
  omega
 ·rw [if_neg (by omega),Nat.min_eq_right (by omega)]
  rfl
set_option maxHeartbeats 1000000 in
theorem alone_any (i:Int) (w:World):Calls Tryz.prog 66 #[.int .i64 i] w (SameU w (aloneG i)):=by
 by_cases h:i < 0
 ·have HE:Hid (aloneG i = 0):=Lib.hid (by unfold aloneG; rw [if_neg (by omega)])
  go_enter Tryz.func66,Tryz.ntmps66
  go_wp2
  go_ret
  exact ⟨by rw [HE.out]; rfl,rfl⟩
 ·have hn:0 ≤ i:=by omega
  go_enter Tryz.func66,Tryz.ntmps66
  go_wp2
  go_ret
  exact ⟨by rw [← shl_alone hn]; rfl,rfl⟩
theorem ne_cast (x:Nat):((x:Int) != 0) = decide (x ≠ 0):=by
 rw [Bool.eq_iff_iff]; simp
theorem eq_cast (x:Nat):((x:Int) == 0) = decide (x = 0):=by
 rw [Bool.eq_iff_iff]; simp
theorem of_same {w:World} {m:Nat} {x:Int} (h:x = (m:Int)):SameU w m (.returned (.int .u64 x)) w:=⟨by rw [h],rfl⟩
set_option maxHeartbeats 1000000 in
theorem ghas_any (m:Nat) (i:Int) (hm:m < 18446744073709551616) (w:World):Calls Tryz.prog 42 #[.int .u64 m,.int .i64 i] w (SameB w (hasG m i)):=by
 have HA:=Lib.hid (alone_any i w)
 have hb:bits .and .u64 (m:Int) (aloneG i:Int) = ((m &&& aloneG i:Nat):Int):=bits_and_u64_nat m _ hm (aloneG_lt i)
 have HE:=Lib.hid (has_and (m:=m) i)
 go_enter Tryz.func42,Tryz.ntmps42
 go_wp2_with (go_at_call 66; go_fit (HA.out); rintro e w' ⟨rfl,rfl⟩)
 go_ret
 exact ⟨by rw [← HE.out,← ne_cast]; rfl,rfl⟩
set_option maxHeartbeats 1000000 in
theorem with_any (m:Nat) (i:Int) (hm:m < 18446744073709551616) (w:World):Calls Tryz.prog 36 #[.int .u64 m,.int .i64 i] w (SameU w (withG m i)):=by
 have HA:=Lib.hid (alone_any i w)
 have HB:=Lib.hid (bits_or_u64_nat m _ hm (aloneG_lt i))
 have HE:=Lib.hid (with_or m i)
 go_enter Tryz.func36,Tryz.ntmps36
 go_wp2_with (go_at_call 66; go_fit (HA.out); rintro e w' ⟨rfl,rfl⟩)
 go_ret
 exact of_same (by rw [← HE.out]; exact HB.out)
set_option maxHeartbeats 1000000 in
theorem within_any (a b:Nat) (ha:a < 18446744073709551616) (hb:b < 18446744073709551616) (w:World):Calls Tryz.prog 59 #[.int .u64 a,.int .u64 b] w (SameB w (withinG a b)):=by
 have HB:=Lib.hid (u64_andNot_nat a b ha hb)
 have HE:=Lib.hid (within_and (a:=a) hb)
 go_enter Tryz.func59,Tryz.ntmps59
 go_wp2
 go_ret
 exact ⟨by rw [← HE.out,← eq_cast,← HB.out]; rfl,rfl⟩
set_option maxHeartbeats 2000000 in
theorem tz_core (x k idx:Nat) (w:World) (hx0:((x:Int) == 0) = false)
 (key:IntKind.u64.wrap (bits BinOp.and IntKind.u64 (x:Int) (IntKind.u64.wrap (-(x:Int))) * 285870213051353865) / 288230376151711744 = (idx:Int))
 (hi:idx < 64) (hk:k < 64) (hcell:w.cell? ⟨0,idx,none⟩ = some (.int .u8 k)) :
 Calls Tryz.prog 82 #[.int .u64 x] w (SameI w k):=by
 go_enter Tryz.func82,Tryz.ntmps82
 go_wp2_with (simp only [key])
 go_ret
 exact ⟨rfl,rfl⟩
theorem tz_zero (w:World):Calls Tryz.prog 82 #[.int .u64 0] w (SameI w 64):=by
 go_enter Tryz.func82,Tryz.ntmps82
 go_wp2
 go_ret
 exact ⟨rfl,rfl⟩
theorem tz_any (x:Nat) (hx:x < 18446744073709551616) (w:World) (hT:TabIn w):Calls Tryz.prog 82 #[.int .u64 x] w (SameI w (Lib.ctz 64 x)):=by
 by_cases hx0:x = 0
 ·subst hx0
  exact tz_zero w
 ·obtain ⟨hlow,hk⟩:=Lib.lowest_bit 64 x hx0 hx
  obtain ⟨hi,htab⟩:=Lib.deBruijn64_at _ hk
  exact tz_core x _ _ w (by simp; omega) (tz64_key x _ hx hx0 hlow) hi hk (hT.cell htab hi)
theorem wrap_nat {y:Nat} (h:y < 18446744073709551616):IntKind.u64.wrap (y:Int) = (y:Int):=by
 rw [IntKind.wrap_u64]
 omega
theorem sum_nat {a b c:Nat} {x y:Int} (hx:x = (a:Int)) (hy:y = (b:Int)) (hc:a + b = c) (h:c < 18446744073709551616):IntKind.u64.wrap (x + y) = (c:Int):=by
 rw [hx,hy,← wrap_nat h,← hc,wrap_nat (hc ▸ h)]
 rw [IntKind.wrap_u64]
 omega
theorem div_nat (x d:Nat):((x:Int) / (d:Int)) = ((x / d:Nat):Int):=(Int.natCast_ediv x d).symm
theorem ones_steps (x:Nat) (hx:x < 18446744073709551616):∃ a z x0 x1 x2 x3:Nat,
 IntKind.u64.wrap (bits .and .u64 ((x:Int) / 2) 6148914691236517205 + bits .and .u64 (x:Int) 6148914691236517205) = (a:Int) ∧
 IntKind.u64.wrap (bits .and .u64 ((a:Int) / 4) 3689348814741910323 + bits .and .u64 (a:Int) 3689348814741910323) = (z:Int) ∧
 bits .and .u64 (IntKind.u64.wrap ((z:Int) / 16 + (z:Int))) 1085102592571150095 = (x0:Int) ∧
 IntKind.u64.wrap ((x0:Int) + (x0:Int) / 256) = (x1:Int) ∧ IntKind.u64.wrap ((x1:Int) + (x1:Int) / 65536) = (x2:Int) ∧ IntKind.u64.wrap ((x2:Int) + (x2:Int) / 4294967296) = (x3:Int) ∧
 x3 < 9223372036854775808 ∧ x3 % 128 = (bitsL x).length:=by
 obtain ⟨x0,x1,x2,x3,e0,e1,e2,e3,b0,b1,b2,b3,hl⟩:=fold8 x
 have ha:A1 8 x < 2 ^ 64:=by
  have h1:=Nat.and_lt_two_pow (x / 2) (show maskG 85 8 < 2 ^ 63 by rw [mask85]; decide)
  have h2:=Nat.and_lt_two_pow x (show maskG 85 8 < 2 ^ 63 by rw [mask85]; decide)
  unfold A1
  omega
 have hz:Z 8 x < 2 ^ 63:=by
  have h1:=Nat.and_lt_two_pow (A1 8 x / 4) (show maskG 51 8 < 2 ^ 62 by rw [mask51]; decide)
  have h2:=Nat.and_lt_two_pow (A1 8 x) (show maskG 51 8 < 2 ^ 62 by rw [mask51]; decide)
  unfold Z A2
  omega
 refine ⟨A1 8 x,Z 8 x,x0,x1,x2,x3,?_,?_,?_,?_,?_,?_,b3,hl⟩
 ·have h1:=bits_and_u64_nat (x / 2) (maskG 85 8) (by omega) (by rw [mask85]; decide)
  have h2:=bits_and_u64_nat x (maskG 85 8) hx (by rw [mask85]; decide)
  rw [mask85] at h1 h2
  exact sum_nat h1 h2 (by unfold A1; rw [mask85]) (by omega)
 ·have h1:=bits_and_u64_nat (A1 8 x / 4) (maskG 51 8) (by omega) (by rw [mask51]; decide)
  have h2:=bits_and_u64_nat (A1 8 x) (maskG 51 8) (by omega) (by rw [mask51]; decide)
  rw [mask51] at h1 h2
  exact sum_nat h1 h2 (by unfold Z A2; rw [mask51]) (by omega)
 ·have h3:IntKind.u64.wrap ((Z 8 x:Int) / 16 + (Z 8 x:Int)) = ((Z 8 x / 16 + Z 8 x:Nat):Int):=sum_nat (div_nat _ 16) rfl rfl (by omega)
  have h1:=bits_and_u64_nat (Z 8 x / 16 + Z 8 x) (maskG 15 8) (by omega) (by rw [mask15]; decide)
  rw [mask15] at h1
  rw [h3,e0]
  refine h1.trans ?_
  unfold W A3
  rw [mask15]
 ·exact sum_nat rfl (div_nat _ 256) e1.symm (by omega)
 ·exact sum_nat rfl (div_nat _ 65536) e2.symm (by omega)
 ·exact sum_nat rfl (div_nat _ 4294967296) e3.symm (by omega)
set_option maxHeartbeats 2000000 in
theorem ones_any (x:Nat) (hx:x < 18446744073709551616) (w:World):Calls Tryz.prog 84 #[.int .u64 x] w (SameI w (bitsL x).length):=by
 obtain ⟨a,z,x0,x1,x2,x3,h1,h2,h3,h4,h5,h6,h7,h8⟩:=ones_steps x hx
 have HL:=Lib.hid h8
 clear h8
 go_enter Tryz.func84,Tryz.ntmps84
 go_wp2
 go_ret
 have e:bits .and .i64 (x3:Int) 127 = ((bitsL x).length:Int):=by rw [i64_and127,← HL.out]; rfl
 exact ⟨by rw [← e]; rfl,rfl⟩
set_option maxHeartbeats 1000000 in
theorem count_any (x:Nat) (hx:x < 18446744073709551616) (w:World):Calls Tryz.prog 65 #[.int .u64 x] w (SameI w (bitsL x).length):=by
 have HA:=Lib.hid (ones_any x hx w)
 go_enter Tryz.func65,Tryz.ntmps65
 go_wp2_with (go_at_call 84; go_fit (HA.out); rintro e w' ⟨rfl,rfl⟩)
 go_ret
 exact ⟨rfl,rfl⟩
theorem take_foldl {l:List Int} {k:Nat} {x:Int} (h:l[k]? = some x):(l.take (k + 1)).foldl withG 0 = withG ((l.take k).foldl withG 0) x:=by
 rw [take_next h,List.foldl_append]
 rfl
set_option maxHeartbeats 1000000 in
theorem of_any (v:Value) (l:List Int) (w:World) (h:Rd w v (intV l)) (hm:l.length ≤ 9223372036854775807) :
 Calls Tryz.prog 63 #[v] w (SameU w (ofG l)):=by
 obtain ⟨A,n,c,rfl,hn,hc,hA⟩:=h.ints
 have HA:=Lib.hid hA
 have HN:=Lib.hid hn
 have hm':n ≤ 9223372036854775807:=by omega
 clear hA hn h hc hm
 go_enter Tryz.func63,Tryz.ntmps63
 go_wp2
 go_loop [3,5,8] (fun m _ i => ∃ k:Nat,k ≤ n ∧ i = .int .i64 k ∧ m = .int .u64 ((l.take k).foldl withG 0:Nat)) (fun _ _ i => n - (RowKit.intOf i).toNat)
 case atStart => exact ⟨0,Nat.zero_le _,rfl,rfl⟩
 case round =>
  obtain ⟨k,hk,rfl,rfl⟩:=hrel
  by_cases hlt:k < n
  ·obtain ⟨b,off,rfl,hb,hcell⟩:=HA.out (by omega)
   obtain ⟨x,hx⟩:∃ x,l[k]? = some x:=get_some (by have:=HN.out; omega)
   have hck:=hcell k x hx
   have HX:=Lib.hid hx
   have HW:=Lib.hid (with_any ((l.take k).foldl withG 0) x (foldl_lt _ (by decide)) w)
   have hE:=take_foldl hx
   obtain ⟨m,hM⟩:∃ m,m = (l.take k).foldl withG 0:=⟨_,rfl⟩
   rw [← hM] at hE HW ⊢
   have HE:=Lib.hid hE
   clear hcell hx hE hM
   go_wp2_with (go_at_call 36; go_fit (HW.out); rintro e w' ⟨rfl,rfl⟩)
   go_round
   case rel => exact ⟨k + 1,by omega,by go_num,by rw [HE.out]⟩
   case measure => simp [RowKit.intOf]; omega
  ·go_wp2
   go_ret
   have:=HN.out
   exact of_same (by rw [List.take_of_length_le (by omega),of_foldl])
end Go.Proofs.YtckojimeglkobaaGreatDoor
namespace Go.Proofs.YtckojimeglkobaaGreatDoor
open Go.RowKit Go.Sort TermSpec EvalSpec ActSpec ConfSpec
set_option maxRecDepth 100000
abbrev cfA (x:Cf):Value:=.agg #[.int .u64 x.m,.int .i64 x.v.a,.int .i64 x.v.b,.int .i64 x.v.c,.int .i64 x.v.d]
abbrev cfO (x:Cf):Obj:=.cells #[.int .u64 x.m,.int .i64 x.v.a,.int .i64 x.v.b,.int .i64 x.v.c,.int .i64 x.v.d] 30
theorem v5_cell {w:World} {b:Nat} {T:TypeId} {u:Value} {x:V4} (h:w.heap[b]? = some (.cells #[u,.int .i64 x.a,.int .i64 x.b,.int .i64 x.c,.int .i64 x.d] T (0,0))) {k:Nat} (hk:k < 4):w.cell? ⟨b,1 + k,none⟩ = some (.int .i64 (x.get k)):=by
 rcases (show k = 0 ∨ k = 1 ∨ k = 2 ∨ k = 3 by omega) with rfl | rfl | rfl | rfl
 ·exact cell_of_block' h rfl
 ·exact cell_of_block' h rfl
 ·exact cell_of_block' h rfl
 ·exact cell_of_block' h rfl
theorem cells_5c {w:World} {b:Nat} {T:TypeId} {u:Value} {x:V4} (h:w.heap[b]? = some (.cells #[u,.int .i64 x.a,.int .i64 x.b,.int .i64 x.c,.int .i64 x.d] T (0,0))) :
 w.cell? ⟨b,0,none⟩ = some u ∧ w.cell? ⟨b,1,none⟩ = some (.int .i64 x.a) ∧ w.cell? ⟨b,2,none⟩ = some (.int .i64 x.b) ∧ w.cell? ⟨b,3,none⟩ = some (.int .i64 x.c) ∧ w.cell? ⟨b,4,none⟩ = some (.int .i64 x.d) :=
 ⟨cell_of_block' h rfl,cell_of_block' h rfl,cell_of_block' h rfl,cell_of_block' h rfl,cell_of_block' h rfl⟩
end Go.Proofs.YtckojimeglkobaaGreatDoor
namespace Go.Proofs.YtckojimeglkobaaGreatDoor
open Go.RowKit NamesSpec
set_option maxRecDepth 100000
theorem inf_int:(Tryz.prog.info? 3).map (fun i => (i.zero,i.size,i.bytes)) = some (some (.int .i64 0),1,8):=by kernel_rfl
def RowI (W wr:World) (p:Value) (xs:List Int):Prop:=wr.ownsRow W.heap.size 3 1 p xs.length (intV xs) ∧ Below W.heap.size W wr
theorem RowI.nil (W wr:World) (hb:Below W.heap.size W wr):RowI W wr (.slice none 0 0) []:=⟨World.ownsRow_nil _ _ _ _,hb⟩
theorem RowI.keep {W w w':World} {p:Value} {xs:List Int} (h:RowI W w p xs) (hb:Below w.heap.size w w'):RowI W w' p xs:=⟨own_keep h.1 hb,below_two' h.2 hb⟩
theorem RowI.addL {W wr w2:World} {p p':Value} {xs ys:List Int} {o:Obj} (h:RowI W wr p xs) (hrow:w2.ownsRow W.heap.size 3 1 p' (xs.length + (intV ys).length) (intV xs ++ intV ys)) (hg:(wr.alloc o).grownBy w2 p.ownBlock):RowI W w2 p' (xs ++ ys):=by
 refine ⟨?_,(h.2.alloc h.2.size o).grown hg (by have:=h.2.size; simp; omega) (fun j hj => (own_block_bd h.1 j hj).1)⟩
 rw [← intV_append,List.length_append,← intV_length ys]
 exact hrow
theorem RowI.add {W wr w2:World} {p p':Value} {xs:List Int} {x:Int} {o:Obj} (h:RowI W wr p xs) (hrow:w2.ownsRow W.heap.size 3 1 p' (xs.length + (intV [x]).length) (intV xs ++ intV [x])) (hg:(wr.alloc o).grownBy w2 p.ownBlock):RowI W w2 p' (xs ++ [x]):=h.addL hrow hg
theorem RowI.read {W wr:World} {p:Value} {xs:List Int} (h:RowI W wr p xs):Rd wr p (intV xs):=Rd.own h.1
theorem RowI.ret {W wr:World} {p:Value} {xs:List Int} (h:RowI W wr p xs):RetInts W xs (.returned p) wr:=⟨p,rfl,h.read,h.2⟩
def RetInts' (W:World) (l:List Int) (e:Ending) (w':World):Prop:=∃ A c,e = .returned (.slice A l.length c) ∧ Rd w' (.slice A l.length c) (intV l) ∧ Below W.heap.size W w'
theorem retInts_shape {W w':World} {l:List Int} {e:Ending} (h:RetInts W l e w'):RetInts' W l e w':=by
 obtain ⟨v,rfl,hr,hb⟩:=h
 obtain ⟨A,n,c,rfl,hn,hc,_⟩:=hr.ints
 subst hn
 exact ⟨A,c,rfl,hr,hb⟩
end Go.Proofs.YtckojimeglkobaaGreatDoor
namespace Go.Proofs.YtckojimeglkobaaGreatDoor
open Go.RowKit GroupSpec NamesSpec
set_option maxRecDepth 100000
theorem half_nat (m k:Nat):((m / 2 ^ k:Nat):Int) / 2 = ((m / 2 ^ (k + 1):Nat):Int):=by
 rw [← low_next]
 omega
theorem odd_nat (m k:Nat):(((m / 2 ^ k:Nat):Int) % 2 == 1) = m.testBit k:=by
 rw [← low_bit,Bool.eq_iff_iff]
 simp only [beq_iff_eq,decide_eq_true_eq]
 omega
set_option maxHeartbeats 1000000 in
theorem rhas_any16 (m:Nat) (i:Int) (hm:m < 18446744073709551616) (w:World):Calls Tryz.prog 33 #[.int .u64 m,.int .i64 i] w (SameB w (hasG m i)):=by
 by_cases h0:i < 0
 ·have HE:Hid (hasG m i = false):=Lib.hid (by unfold hasG; rw [decide_eq_false (by omega)]; rfl)
  go_enter Tryz.func33,Tryz.ntmps33
  go_wp2
  go_ret
  exact ⟨by rw [HE.out]; rfl,rfl⟩
 by_cases h1:63 < i
 ·have HE:Hid (hasG m i = false):=Lib.hid (by unfold hasG; rw [decide_eq_false (by omega:¬ i ≤ 63)]; simp)
  go_enter Tryz.func33,Tryz.ntmps33
  go_wp2
  go_ret
  exact ⟨by rw [HE.out]; rfl,rfl⟩
 obtain ⟨q,rfl⟩:∃ q:Nat,i = q:=⟨i.toNat,by omega⟩
 have hq:q < 64:=by omega
 have HE:=Lib.hid (bit_hasG (m:=m) hq)
 clear h0 h1
 go_enter Tryz.func33,Tryz.ntmps33
 go_wp2
 go_loop [0,5] (fun v i => ∃ k:Nat,k ≤ q ∧ i = .int .i64 k ∧ v = .int .u64 (m / 2 ^ k:Nat)) (fun _ i => q - (RowKit.intOf i).toNat)
 case atStart => exact ⟨0,Nat.zero_le _,rfl,by simp⟩
 case round =>
  obtain ⟨k,hk,rfl,rfl⟩:=hrel
  have HD:=Lib.hid (half_nat m k)
  have HO:=Lib.hid (odd_nat m k)
  have hy:m / 2 ^ k < 18446744073709551616:=Nat.lt_of_le_of_lt (Nat.div_le_self _ _) hm
  generalize m / 2 ^ k = y at HD HO hy ⊢
  by_cases hlt:k < q
  ·go_wp2
   go_round
   case rel => exact ⟨k + 1,by omega,by go_num,by rw [← HD.out]⟩
   case measure => simp [RowKit.intOf]; omega
  ·obtain rfl:k = q:=by omega
   go_wp2
   go_ret
   exact ⟨by rw [HE.out,← HO.out]; rfl,rfl⟩
end Go.Proofs.YtckojimeglkobaaGreatDoor
namespace Go.Proofs.YtckojimeglkobaaGreatDoor
open Go.RowKit ShapeSpec
structure StC where
 s:ByteArray
 sh:Sh
 a3:Option Addr
 n3:Nat
 c3:Nat
 a4:Option Addr
 n4:Nat
 c4:Nat
 a5:Option Addr
 n5:Nat
 c5:Nat
def stV (t:StC):List Value:=[.string t.s,.int .i64 t.sh.kind,.int .i64 t.sh.par,.slice t.a3 t.n3 t.c3,.slice t.a4 t.n4 t.c4,.slice t.a5 t.n5 t.c5]
def stsV (l:List StC):List Value:=l.flatMap stV
theorem stV_length (t:StC):(stV t).length = 6:=rfl
def Sts (w:World) (v:Value) (l:List Sh):Prop:=∃ xs:List StC,l = xs.map (·.sh) ∧ Rdk 6 w v l.length (stsV xs)
theorem Sts.keep {w w':World} {v:Value} {l:List Sh} (h:Sts w v l) (hb:Below w.heap.size w w'):Sts w' v l:=by
 obtain ⟨xs,hx,h⟩:=h
 exact ⟨xs,hx,h.keep hb⟩
theorem Sts.alloc {w:World} {v:Value} {l:List Sh} (h:Sts w v l) (o:Obj):Sts (w.alloc o) v l:=h.keep ((Below.refl _ _).alloc (Nat.le_refl _) _)
theorem Sts.shape {w:World} {v:Value} {l:List Sh} (h:Sts w v l):∃ A n c,v = .slice A n c ∧ n = l.length ∧ n ≤ c:=by
 obtain ⟨xs,hx,A,c,hv,hc,_⟩:=h
 exact ⟨A,_,c,hv,rfl,hc⟩
theorem Sts.all {w:World} {A:Option Addr} {n c:Nat} {l:List Sh} {i:Nat} {t:Sh} (h:Sts w (.slice A n c) l) (hi:l[i]? = some t) :
 ∃ b off s a3 n3 c3 a4 n4 c4 a5 n5 c5,A = some ⟨b,off,none⟩ ∧ b < w.heap.size ∧ w.cell? ⟨b,off + i * 6,none⟩ = some (.string s) ∧ w.cell? ⟨b,off + i * 6 + 1,none⟩ = some (.int .i64 t.kind) ∧ w.cell? ⟨b,off + i * 6 + 2,none⟩ = some (.int .i64 t.par) ∧
   w.cell? ⟨b,off + i * 6 + 3,none⟩ = some (.slice a3 n3 c3) ∧ w.cell? ⟨b,off + i * 6 + 4,none⟩ = some (.slice a4 n4 c4) ∧ w.cell? ⟨b,off + i * 6 + 5,none⟩ = some (.slice a5 n5 c5):=by
 obtain ⟨xs,rfl,A',c',heq,hc,hl,hA⟩:=h
 cases heq
 have hlt:=get_lt hi
 rw [List.getElem?_map] at hi
 obtain ⟨x,hx,rfl⟩:=Option.map_eq_some_iff.1 hi
 obtain ⟨b,off,rfl,hb,hcell⟩:=hA (by omega)
 refine ⟨b,off,x.s,x.a3,x.n3,x.c3,x.a4,x.n4,x.c4,x.a5,x.n5,x.c5,rfl,hb,?_,?_,?_,?_,?_,?_⟩
 ·exact hcell _ _ (flat_get (j:=0) stV_length hx (by omega))
 ·rw [Nat.add_assoc]; exact hcell _ _ (flat_get (j:=1) stV_length hx (by omega))
 ·rw [Nat.add_assoc]; exact hcell _ _ (flat_get (j:=2) stV_length hx (by omega))
 ·rw [Nat.add_assoc]; exact hcell _ _ (flat_get (j:=3) stV_length hx (by omega))
 ·rw [Nat.add_assoc]; exact hcell _ _ (flat_get (j:=4) stV_length hx (by omega))
 ·rw [Nat.add_assoc]; exact hcell _ _ (flat_get (j:=5) stV_length hx (by omega))
theorem Sts.at_ {w:World} {A:Option Addr} {n c:Nat} {l:List Sh} {i:Nat} (h:Sts w (.slice A n c) l) (hi:i < n) :
 ∃ b off,A = some ⟨b,off,none⟩ ∧ b < w.heap.size ∧ w.cell? ⟨b,off + i * 6 + 1,none⟩ = some (.int .i64 (kind l i)) ∧ w.cell? ⟨b,off + i * 6 + 2,none⟩ = some (.int .i64 (par l i)):=by
 obtain ⟨_,m,_,heq,hm,_⟩:=h.shape
 cases heq
 obtain ⟨t,ht⟩:∃ t,l[i]? = some t:=get_some (by omega)
 obtain ⟨b,off,s,a3,n3,c3,a4,n4,c4,a5,n5,c5,rfl,hb,h0,h1,h2,_⟩:=h.all ht
 rw [kind_at ht,par_at ht]
 exact ⟨b,off,rfl,hb,h1,h2⟩
theorem Sts.len {w:World} {A:Option Addr} {n c:Nat} {l:List Sh} (h:Sts w (.slice A n c) l):n = l.length:=by
 obtain ⟨_,m,_,heq,hm,_⟩:=h.shape
 cases heq
 exact hm
end Go.Proofs.YtckojimeglkobaaGreatDoor