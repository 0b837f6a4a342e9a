/- GroupCount, GroupTab, GroupOps, ConfLess, RowI, GroupRef, joined. -/
import Derived.Test.YtckojimeglkobaaGreatDoorMConfFills02
import Derived.Test.YtckojimeglkobaaGreatDoorRows
import Derived.Test.YtckojimeglkobaaGreatDoorMConfFills00
import Derived.LaidLaws
import Derived.ChangeArms
import Derived.Lib.LaidTab
import Derived.OpenShut
import Derived.LaidMore
import Derived.Stop.Joined
import Derived.Lib.TrailingZeros
import Derived.Laws.Bits64b
import Derived.Laws.BitsAllLaws
import Derived.Deep.DeepFit
import Derived.Laws.Bits128
import Derived.Shelf.Spec.TrailingZeros
import Derived.Test.YtckojimeglkobaaGreatDoorMConfFills01
import Derived.Test.YtckojimeglkobaaGreatDoorMConfFills03
namespace Go.Proofs.YtckojimeglkobaaGreatDoor
namespace GroupSpec
def maskG (c:Nat):Nat → Nat
 | 0 => 0
 | k + 1 => c + 256 * maskG c k
theorem and_mask (x c k:Nat) (hc:c < 256):x &&& maskG c (k + 1) = (x % 256 &&& c) + 256 * (x / 256 &&& maskG c k):=by
 have e0:maskG c (k + 1) = c + 256 * maskG c k:=rfl
 rw [e0]
 generalize maskG c k = r
 have h1:=Nat.and_mod_two_pow (a:=x) (b:=c + 256 * r) (n:=8)
 have h2:=Nat.and_div_two_pow (a:=x) (b:=c + 256 * r) (n:=8)
 rw [show (2:Nat) ^ 8 = 256 from rfl] at h1 h2
 rw [show (c + 256 * r) % 256 = c by omega] at h1
 rw [show (c + 256 * r) / 256 = r by omega] at h2
 rw [← h1,← h2]
 omega
def s1 (b:Nat):Nat:=(b / 2 &&& 85) + (b &&& 85)
def s2 (b:Nat):Nat:=(b / 4 &&& 51) + (b &&& 51)
def f12 (b:Nat):Nat:=s2 (s1 b)
def popb (b:Nat):Nat:=(f12 b / 16 + f12 b) % 16
theorem half_85:∀ y:Fin 512,(y.val / 2 % 256 &&& 85) = (y.val % 256 / 2 &&& 85):=by decide +kernel
theorem quart_51:∀ y:Fin 1024,(y.val / 4 % 256 &&& 51) = (y.val % 256 / 4 &&& 51):=by decide +kernel
theorem s1_lt:∀ b:Fin 256,s1 b.val < 256:=by decide +kernel
theorem f12_lt:∀ b:Fin 256,f12 b.val < 256 ∧ f12 b.val % 16 ≤ 4 ∧ f12 b.val / 16 ≤ 4:=by decide +kernel
theorem popb_eq:∀ b:Fin 256,popb b.val = b.val % 2 + b.val / 2 % 2 + b.val / 4 % 2 + b.val / 8 % 2 + b.val / 16 % 2 + b.val / 32 % 2 + b.val / 64 % 2 + b.val / 128 % 2:=by decide +kernel
theorem half_mask (x:Nat):(x / 2 % 256 &&& 85) = (x % 256 / 2 &&& 85):=by
 have h:=half_85 ⟨x % 512,by omega⟩
 simp only at h
 rw [show x / 2 % 256 = x % 512 / 2 % 256 by omega,h,show x % 512 % 256 = x % 256 by omega]
theorem quart_mask (x:Nat):(x / 4 % 256 &&& 51) = (x % 256 / 4 &&& 51):=by
 have h:=quart_51 ⟨x % 1024,by omega⟩
 simp only at h
 rw [show x / 4 % 256 = x % 1024 / 4 % 256 by omega,h,show x % 1024 % 256 = x % 256 by omega]
def A1 (k x:Nat):Nat:=(x / 2 &&& maskG 85 k) + (x &&& maskG 85 k)
def A2 (k x:Nat):Nat:=(x / 4 &&& maskG 51 k) + (x &&& maskG 51 k)
def A3 (k x:Nat):Nat:=(x / 16 + x) &&& maskG 15 k
theorem A1_next (k x:Nat):A1 (k + 1) x = s1 (x % 256) + 256 * A1 k (x / 256):=by
 unfold A1 s1
 rw [and_mask _ 85 k (by decide),and_mask x 85 k (by decide),half_mask,show x / 2 / 256 = x / 256 / 2 by omega]
 omega
theorem A2_next (k x:Nat):A2 (k + 1) x = s2 (x % 256) + 256 * A2 k (x / 256):=by
 unfold A2 s2
 rw [and_mask _ 51 k (by decide),and_mask x 51 k (by decide),quart_mask,show x / 4 / 256 = x / 256 / 4 by omega]
 omega
def Z (k x:Nat):Nat:=A2 k (A1 k x)
theorem Z_next (k x:Nat):Z (k + 1) x = f12 (x % 256) + 256 * Z k (x / 256):=by
 unfold Z
 have h:=s1_lt ⟨x % 256,by omega⟩
 simp only at h
 rw [A2_next,A1_next,show (s1 (x % 256) + 256 * A1 k (x / 256)) % 256 = s1 (x % 256) by omega,show (s1 (x % 256) + 256 * A1 k (x / 256)) / 256 = A1 k (x / 256) by omega]
 rfl
theorem Z_low (k x:Nat):Z k x % 16 ≤ 4:=by
 cases k with
 | zero => simp [Z,A2,maskG]
 | succ k =>
   rw [Z_next]
   have h:=(f12_lt ⟨x % 256,by omega⟩).2.1
   simp only at h
   omega
def W (k x:Nat):Nat:=A3 k (Z k x)
theorem W_next (k x:Nat):W (k + 1) x = popb (x % 256) + 256 * W k (x / 256):=by
 unfold W A3
 have h:=f12_lt ⟨x % 256,by omega⟩
 simp only at h
 obtain ⟨h1,h2,h3⟩:=h
 have h4:=Z_low k (x / 256)
 rw [Z_next,and_mask _ 15 k (by decide)]
 generalize Z k (x / 256) = r at h4 ⊢
 unfold popb
 generalize f12 (x % 256) = b at h1 h2 h3 ⊢
 have e1:((b + 256 * r) / 16 + (b + 256 * r)) / 256 = r / 16 + r:=by omega
 have e2:((b + 256 * r) / 16 + (b + 256 * r)) % 256 % 16 = (b / 16 + b) % 16:=by omega
 rw [e1,show (15:Nat) = 2 ^ 4 - 1 from rfl,Nat.and_two_pow_sub_one_eq_mod,show (2:Nat) ^ 4 = 16 from rfl,e2]
theorem cnt_low (m k:Nat):(bitsTo m (k + 1)).length = m % 2 + (bitsTo (m / 2) k).length:=by
 induction k with
 | zero =>
   have e:decide (m % 2 = 1) = m.testBit 0:=by rw [Nat.testBit_zero]
   cases h:m.testBit 0 with
   | true => rw [bitsTo_yes h]; rw [h] at e; simp at e; simp [bitsTo]; omega
   | false => rw [bitsTo_no h]; rw [h] at e; simp at e; simp [bitsTo]; omega
 | succ k ih =>
   have e:(m / 2).testBit k = m.testBit (k + 1):=by rw [Nat.testBit_succ]
   cases h:m.testBit (k + 1) with
   | true => rw [bitsTo_yes h,bitsTo_yes (e.trans h),List.length_append,List.length_append,ih]; simp; omega
   | false => rw [bitsTo_no h,bitsTo_no (e.trans h),ih]
theorem bit_mod (m d e:Nat) (h:256 = d * (2 * e)):m % 256 / d % 2 = m / d % 2:=by rw [h,Nat.mod_mul_right_div_self,Nat.mod_mul_right_mod]
theorem cnt_byte (m k:Nat):(bitsTo m (k + 8)).length = popb (m % 256) + (bitsTo (m / 256) k).length:=by
 have h:=popb_eq ⟨m % 256,by omega⟩
 simp only at h
 rw [Nat.mod_mod_of_dvd m (by decide:2 ∣ 256),bit_mod m 2 64 rfl,bit_mod m 4 32 rfl,bit_mod m 8 16 rfl,bit_mod m 16 8 rfl,bit_mod m 32 4 rfl,bit_mod m 64 2 rfl,bit_mod m 128 1 rfl] at h
 have h1:=cnt_low m (k + 7)
 have h2:=cnt_low (m / 2) (k + 6)
 have h3:=cnt_low (m / 4) (k + 5)
 have h4:=cnt_low (m / 8) (k + 4)
 have h5:=cnt_low (m / 16) (k + 3)
 have h6:=cnt_low (m / 32) (k + 2)
 have h7:=cnt_low (m / 64) (k + 1)
 have h8:=cnt_low (m / 128) k
 rw [show m / 2 / 2 = m / 4 by omega] at h2
 rw [show m / 4 / 2 = m / 8 by omega] at h3
 rw [show m / 8 / 2 = m / 16 by omega] at h4
 rw [show m / 16 / 2 = m / 32 by omega] at h5
 rw [show m / 32 / 2 = m / 64 by omega] at h6
 rw [show m / 64 / 2 = m / 128 by omega] at h7
 rw [show m / 128 / 2 = m / 256 by omega] at h8
 generalize m % 2 = b0 at h h1
 generalize m / 2 % 2 = b1 at h h2
 generalize m / 4 % 2 = b2 at h h3
 generalize m / 8 % 2 = b3 at h h4
 generalize m / 16 % 2 = b4 at h h5
 generalize m / 32 % 2 = b5 at h h6
 generalize m / 64 % 2 = b6 at h h7
 generalize m / 128 % 2 = b7 at h h8
 have e:(bitsTo m (k + 8)).length = b0 + (bitsTo (m / 2) (k + 7)).length:=h1
 rw [e,h2,h3,h4,h5,h6,h7,h8,h]
 simp only [Nat.add_assoc]
theorem popb_le (x:Nat):popb (x % 256) ≤ 8:=by
 rw [popb_eq ⟨x % 256,by omega⟩]
 simp only
 omega
theorem parts8 (m:Nat):∃ p0 p1 p2 p3 p4 p5 p6 p7,p0 ≤ 8 ∧ p1 ≤ 8 ∧ p2 ≤ 8 ∧ p3 ≤ 8 ∧ p4 ≤ 8 ∧ p5 ≤ 8 ∧ p6 ≤ 8 ∧ p7 ≤ 8 ∧
 W 8 m = p0 + 256 * p1 + 65536 * p2 + 16777216 * p3 + 4294967296 * p4 + 1099511627776 * p5 + 281474976710656 * p6 + 72057594037927936 * p7 ∧
 (bitsL m).length = p0 + p1 + p2 + p3 + p4 + p5 + p6 + p7:=by
 refine ⟨_,_,_,_,_,_,_,_,popb_le m,popb_le (m / 256),popb_le (m / 256 / 256),popb_le (m / 256 / 256 / 256),popb_le (m / 256 / 256 / 256 / 256),popb_le (m / 256 / 256 / 256 / 256 / 256),popb_le (m / 256 / 256 / 256 / 256 / 256 / 256),popb_le (m / 256 / 256 / 256 / 256 / 256 / 256 / 256),?_,?_⟩
 ·rw [W_next,W_next,W_next,W_next,W_next,W_next,W_next,W_next]
  have z:∀ x,W 0 x = 0:=fun x => by unfold W A3; exact Nat.and_zero _
  rw [z]
  omega
 ·show (bitsTo m 64).length = _
  rw [cnt_byte,cnt_byte,cnt_byte,cnt_byte,cnt_byte,cnt_byte,cnt_byte,cnt_byte]
  show _ + (_ + (_ + (_ + (_ + (_ + (_ + (_ + ([]:List Int).length))))))) = _
  simp only [List.length_nil]
  omega
theorem div_of {y lo hi d:Nat} (h:y = lo + d * hi) (hl:lo < d):y / d = hi:=by
 rw [h,Nat.add_mul_div_left _ _ (by omega),Nat.div_eq_of_lt hl,Nat.zero_add]
section
variable {p0 p1 p2 p3 p4 p5 p6 p7:Nat} (h0:p0 ≤ 8) (h1:p1 ≤ 8) (h2:p2 ≤ 8) (h3:p3 ≤ 8) (h4:p4 ≤ 8) (h5:p5 ≤ 8) (h6:p6 ≤ 8) (h7:p7 ≤ 8)
include h0 h1 h2 h3 h4 h5 h6 h7
theorem st0:p0 + 256 * p1 + 65536 * p2 + 16777216 * p3 + 4294967296 * p4 + 1099511627776 * p5 + 281474976710656 * p6 + 72057594037927936 * p7 < 9223372036854775808:=by omega
omit h1 h2 h3 h4 h5 h6 h7 in
theorem st1:(p0 + 256 * p1 + 65536 * p2 + 16777216 * p3 + 4294967296 * p4 + 1099511627776 * p5 + 281474976710656 * p6 + 72057594037927936 * p7) + (p0 + 256 * p1 + 65536 * p2 + 16777216 * p3 + 4294967296 * p4 + 1099511627776 * p5 + 281474976710656 * p6 + 72057594037927936 * p7) / 256 = p0 + p1 + 256 * (p1 + p2) + 65536 * (p2 + p3 + 256 * (p3 + p4) + 65536 * (p4 + p5) + 16777216 * (p5 + p6) + 4294967296 * (p6 + p7) + 1099511627776 * p7):=by
 have d:(p0 + 256 * p1 + 65536 * p2 + 16777216 * p3 + 4294967296 * p4 + 1099511627776 * p5 + 281474976710656 * p6 + 72057594037927936 * p7) / 256 = p1 + 256 * p2 + 65536 * p3 + 16777216 * p4 + 4294967296 * p5 + 1099511627776 * p6 + 281474976710656 * p7:=div_of (lo:=p0) (by omega) (by omega)
 rw [d]
 omega
theorem st1b:p0 + p1 + 256 * (p1 + p2) + 65536 * (p2 + p3 + 256 * (p3 + p4) + 65536 * (p4 + p5) + 16777216 * (p5 + p6) + 4294967296 * (p6 + p7) + 1099511627776 * p7) < 9223372036854775808:=by omega
omit h3 h4 h5 h6 h7 in
theorem st2:(p0 + p1 + 256 * (p1 + p2) + 65536 * (p2 + p3 + 256 * (p3 + p4) + 65536 * (p4 + p5) + 16777216 * (p5 + p6) + 4294967296 * (p6 + p7) + 1099511627776 * p7)) + (p0 + p1 + 256 * (p1 + p2) + 65536 * (p2 + p3 + 256 * (p3 + p4) + 65536 * (p4 + p5) + 16777216 * (p5 + p6) + 4294967296 * (p6 + p7) + 1099511627776 * p7)) / 65536 = p0 + p1 + (p2 + p3) + 256 * (p1 + p2 + (p3 + p4)) + 65536 * (p2 + p3 + (p4 + p5)) + 16777216 * (p3 + p4 + (p5 + p6)) + 4294967296 * (p4 + p5 + (p6 + p7) + 256 * (p5 + p6 + p7) + 65536 * (p6 + p7) + 16777216 * p7):=by
 have d:(p0 + p1 + 256 * (p1 + p2) + 65536 * (p2 + p3 + 256 * (p3 + p4) + 65536 * (p4 + p5) + 16777216 * (p5 + p6) + 4294967296 * (p6 + p7) + 1099511627776 * p7)) / 65536 = (p2 + p3 + 256 * (p3 + p4) + 65536 * (p4 + p5) + 16777216 * (p5 + p6) + 4294967296 * (p6 + p7) + 1099511627776 * p7):=div_of (lo:=p0 + p1 + 256 * (p1 + p2)) rfl (by omega)
 rw [d]
 omega
theorem st2b:p0 + p1 + (p2 + p3) + 256 * (p1 + p2 + (p3 + p4)) + 65536 * (p2 + p3 + (p4 + p5)) + 16777216 * (p3 + p4 + (p5 + p6)) + 4294967296 * (p4 + p5 + (p6 + p7) + 256 * (p5 + p6 + p7) + 65536 * (p6 + p7) + 16777216 * p7) < 9223372036854775808:=by omega
omit h7 in
theorem st3:(p0 + p1 + (p2 + p3) + 256 * (p1 + p2 + (p3 + p4)) + 65536 * (p2 + p3 + (p4 + p5)) + 16777216 * (p3 + p4 + (p5 + p6)) + 4294967296 * (p4 + p5 + (p6 + p7) + 256 * (p5 + p6 + p7) + 65536 * (p6 + p7) + 16777216 * p7)) + (p0 + p1 + (p2 + p3) + 256 * (p1 + p2 + (p3 + p4)) + 65536 * (p2 + p3 + (p4 + p5)) + 16777216 * (p3 + p4 + (p5 + p6)) + 4294967296 * (p4 + p5 + (p6 + p7) + 256 * (p5 + p6 + p7) + 65536 * (p6 + p7) + 16777216 * p7)) / 4294967296 = p0 + p1 + p2 + p3 + p4 + p5 + p6 + p7 + 128 * (2 * (p1 + p2 + (p3 + p4)) + 512 * (p2 + p3 + (p4 + p5)) + 131072 * (p3 + p4 + (p5 + p6)) + 33554432 * (p4 + p5 + (p6 + p7) + 256 * (p5 + p6 + p7) + 65536 * (p6 + p7) + 16777216 * p7) + 2 * (p5 + p6 + p7) + 512 * (p6 + p7) + 131072 * p7):=by
 have d:(p0 + p1 + (p2 + p3) + 256 * (p1 + p2 + (p3 + p4)) + 65536 * (p2 + p3 + (p4 + p5)) + 16777216 * (p3 + p4 + (p5 + p6)) + 4294967296 * (p4 + p5 + (p6 + p7) + 256 * (p5 + p6 + p7) + 65536 * (p6 + p7) + 16777216 * p7)) / 4294967296 = (p4 + p5 + (p6 + p7) + 256 * (p5 + p6 + p7) + 65536 * (p6 + p7) + 16777216 * p7):=div_of (lo:=p0 + p1 + (p2 + p3) + 256 * (p1 + p2 + (p3 + p4)) + 65536 * (p2 + p3 + (p4 + p5)) + 16777216 * (p3 + p4 + (p5 + p6))) rfl (by omega)
 rw [d]
 omega
theorem st3b:p0 + p1 + p2 + p3 + p4 + p5 + p6 + p7 + 128 * (2 * (p1 + p2 + (p3 + p4)) + 512 * (p2 + p3 + (p4 + p5)) + 131072 * (p3 + p4 + (p5 + p6)) + 33554432 * (p4 + p5 + (p6 + p7) + 256 * (p5 + p6 + p7) + 65536 * (p6 + p7) + 16777216 * p7) + 2 * (p5 + p6 + p7) + 512 * (p6 + p7) + 131072 * p7) < 9223372036854775808:=by omega
end
theorem fold8 (m:Nat):∃ x0 x1 x2 x3:Nat,x0 = W 8 m ∧ x1 = x0 + x0 / 256 ∧ x2 = x1 + x1 / 65536 ∧ x3 = x2 + x2 / 4294967296 ∧ x0 < 9223372036854775808 ∧ x1 < 9223372036854775808 ∧ x2 < 9223372036854775808 ∧ x3 < 9223372036854775808 ∧ x3 % 128 = (bitsL m).length:=by
 obtain ⟨p0,p1,p2,p3,p4,p5,p6,p7,h0,h1,h2,h3,h4,h5,h6,h7,hw,hl⟩:=parts8 m
 rw [hl,hw]
 refine ⟨_,_,_,_,rfl,(st1 h0).symm,(st2 h0 h1 h2).symm,(st3 h0 h1 h2 h3 h4 h5 h6).symm,st0 h0 h1 h2 h3 h4 h5 h6 h7,st1b h0 h1 h2 h3 h4 h5 h6 h7,st2b h0 h1 h2 h3 h4 h5 h6 h7,st3b h0 h1 h2 h3 h4 h5 h6 h7,?_⟩
 rw [Nat.add_mul_mod_self_left,Nat.mod_eq_of_lt (by omega)]
theorem mask85:maskG 85 8 = 6148914691236517205:=by decide
theorem mask51:maskG 51 8 = 3689348814741910323:=by decide
theorem mask15:maskG 15 8 = 1085102592571150095:=by decide
end GroupSpec
end Go.Proofs.YtckojimeglkobaaGreatDoor
namespace Go.Proofs.YtckojimeglkobaaGreatDoor
open Go.RowKit
set_option maxRecDepth 100000
def tabV:List Value:=Lib.deBruijn64tab.map fun (k:Nat) => Value.int .u8 (k:Int)
def TabIn (w:World):Prop:=∃ T fr,w.heap[0]? = some (.cells tabV.toArray T fr)
theorem TabIn.pos {w:World} (h:TabIn w):0 < w.heap.size:=by
 obtain ⟨T,fr,h⟩:=h
 exact (Array.getElem?_eq_some_iff.1 h).1
theorem TabIn.keep {w w':World} (h:TabIn w) (hb:Below w.heap.size w w'):TabIn w':=by
 have hp:=h.pos
 obtain ⟨T,fr,h⟩:=h
 exact ⟨T,fr,(hb.block _ hp).trans h⟩
theorem TabIn.cell {w:World} (h:TabIn w) {i k:Nat} (hi:Lib.deBruijn64tab.getD i 0 = k) (hl:i < 64):w.cell? ⟨0,i,none⟩ = some (.int .u8 k):=by
 obtain ⟨T,fr,h⟩:=h
 have e:tabV[i]? = some (.int .u8 k):=by
  have hlen:Lib.deBruijn64tab.length = 64:=rfl
  have h1:Lib.deBruijn64tab[i]? = some k:=by
   rw [List.getD_eq_getElem?_getD] at hi
   rw [List.getElem?_eq_getElem (by omega)] at hi ⊢
   exact congrArg some hi
  unfold tabV
  rw [List.getElem?_map,h1]
  rfl
 simp [World.cell?,h,e]
theorem cells_of_u8s {H:Type} {enc:TypeId × Value → H} {P:Program} {w:World} {base:Nat} {sp:Nat → Bool} {held:Bool} {fuel:Nat} {t e:TypeId} {n:Nat} {cs:List Value} {bs:List Nat} {p:List MemPlace}
 (ht:P.underlying t = some (.array n e)) (he:P.underlying e = some (.int .u8)) (hce:P.cellsOf e = 1) (hct:P.cellsOf t = n)
 (h:DataW.trod enc P w base sp held fuel t cs = some (.agg (bs.map fun (b:Nat) => .lit (.int .u8 (b:Int))),p)):cs = bs.map fun (b:Nat) => Value.int .u8 (b:Int):=by
 obtain ⟨xs,m,rfl,hx,hl,hxl,hel⟩:=DataW.trod_array ht h
 simp only [Prod.mk.injEq,DataW.agg.injEq] at hx
 have hxs:=hx.1
 have hbl:bs.length = n:=by
  have:=congrArg List.length hxs
  simp at this
  omega
 rw [hct] at hl
 apply List.ext_getElem?
 intro i
 by_cases hi:i < n
 ·obtain ⟨b,hb⟩:∃ b,xs[i]? = some b:=get_some (by omega)
  have hf:=(hel i hi).trans hb
  rw [hce,Nat.mul_one] at hf
  obtain ⟨s,hc,rfl,_⟩:=DataW.trod_int he hf
  have h1:cs[i]? = some (.int .u8 s):=by
   have:=congrArg (·[0]?) hc
   simpa [List.getElem?_take,List.getElem?_drop] using this
  have h2:(xs.map (·.1))[i]? = some (DataW.lit (.int .u8 s):DataW H):=by simp [hb]
  rw [← hxs] at h2
  simp only [List.getElem?_map,Option.map_eq_some_iff,DataW.lit.injEq,Lit.int.injEq] at h2
  obtain ⟨z,hz,-,rfl⟩:=h2
  simp [h1,hz]
 ·rw [List.getElem?_eq_none (by omega),List.getElem?_eq_none (by simp; omega)]
theorem gTab : Tryz.prog.globalNamed "math/bits.deBruijn64tab" = some 0 := by kernel_rfl
theorem tTab:(Tryz.prog.globals[0]?).map (·.type) = some 152:=by kernel_rfl
theorem tab_in {W : World} {rest : List (String × DataW Unit)} (h : laidMet Tryz.prog (("math/bits.deBruijn64tab", Rows.laid_math_bits_deBruijn64tab) :: rest) W) : TabIn W := by
 obtain ⟨ps,⟨g',t',cs,fuel,p,q,hg',ht',hvar,hd,_,_⟩,_⟩:=h
 obtain rfl:=Option.some.inj (gTab.symm.trans hg')
 obtain rfl:=Option.some.inj (tTab.symm.trans ht')
 have hc:=cells_of_u8s (bs:=Lib.deBruijn64tab) Tryz.underlying152 Tryz.underlying5 (by kernel_rfl) (by kernel_rfl) hd
 have e:cs = tabV.toArray:=Array.toList_inj.mp hc
 subst e
 unfold World.var? at hvar
 rw [gTab] at hvar
 simp only [Option.bind_some] at hvar
 split at hvar
 ·rename_i cs' T fr hb
  cases hvar
  exact ⟨T,fr,hb⟩
 ·cases hvar
end Go.Proofs.YtckojimeglkobaaGreatDoor
namespace Go.Proofs.YtckojimeglkobaaGreatDoor
open Go.RowKit GroupSpec
set_option maxRecDepth 100000
def SameU (w:World) (m:Nat) (e:Ending) (w':World):Prop:=e = .returned (.int .u64 m) ∧ w = w'
theorem shl_alone {i:Int} (h:0 ≤ i):IntKind.u64.wrap (2 ^ min i.toNat 64) = (aloneG i:Int):=by
 rw [IntKind.wrap_u64]
 unfold aloneG
 by_cases h1:i ≤ 63
 ·have hk:i.toNat < 64:=by omega
  rw [if_pos ⟨h,h1⟩,Nat.min_eq_left (by omega)]
  have hp:2 ^ i.toNat < 2 ^ 64:=Nat.pow_lt_pow_right (by decide) hk
  have e:((2:Int) ^ i.toNat) = ((2 ^ i.toNat:Nat):Int):=by simp
  rw [e]
  generalize (2:Nat) ^ i.toNat = q at hp ⊢
  omega
 ·rw [if_neg (by omega),Nat.min_eq_right (by omega)]
  rfl
set_option maxHeartbeats 1000000 in
theorem alone_any (i:Int) (w:World):Calls Tryz.prog 66 #[.int .i64 i] w (SameU w (aloneG i)):=by
 by_cases h:i < 0
 ·have HE:Hid (aloneG i = 0):=Lib.hid (by unfold aloneG; rw [if_neg (by omega)])
  go_enter Tryz.func66,Tryz.ntmps66
  go_wp2
  go_ret
  exact ⟨by rw [HE.out]; rfl,rfl⟩
 ·have hn:0 ≤ i:=by omega
  go_enter Tryz.func66,Tryz.ntmps66
  go_wp2
  go_ret
  exact ⟨by rw [← shl_alone hn]; rfl,rfl⟩
theorem ne_cast (x:Nat):((x:Int) != 0) = decide (x ≠ 0):=by
 rw [Bool.eq_iff_iff]; simp
theorem eq_cast (x:Nat):((x:Int) == 0) = decide (x = 0):=by
 rw [Bool.eq_iff_iff]; simp
theorem of_same {w:World} {m:Nat} {x:Int} (h:x = (m:Int)):SameU w m (.returned (.int .u64 x)) w:=⟨by rw [h],rfl⟩
set_option maxHeartbeats 1000000 in
theorem ghas_any (m:Nat) (i:Int) (hm:m < 18446744073709551616) (w:World):Calls Tryz.prog 42 #[.int .u64 m,.int .i64 i] w (SameB w (hasG m i)):=by
 have HA:=Lib.hid (alone_any i w)
 have hb:bits .and .u64 (m:Int) (aloneG i:Int) = ((m &&& aloneG i:Nat):Int):=bits_and_u64_nat m _ hm (aloneG_lt i)
 have HE:=Lib.hid (has_and (m:=m) i)
 go_enter Tryz.func42,Tryz.ntmps42
 go_wp2_with (go_at_call 66; go_fit (HA.out); rintro e w' ⟨rfl,rfl⟩)
 go_ret
 exact ⟨by rw [← HE.out,← ne_cast]; rfl,rfl⟩
set_option maxHeartbeats 1000000 in
theorem with_any (m:Nat) (i:Int) (hm:m < 18446744073709551616) (w:World):Calls Tryz.prog 36 #[.int .u64 m,.int .i64 i] w (SameU w (withG m i)):=by
 have HA:=Lib.hid (alone_any i w)
 have HB:=Lib.hid (bits_or_u64_nat m _ hm (aloneG_lt i))
 have HE:=Lib.hid (with_or m i)
 go_enter Tryz.func36,Tryz.ntmps36
 go_wp2_with (go_at_call 66; go_fit (HA.out); rintro e w' ⟨rfl,rfl⟩)
 go_ret
 exact of_same (by rw [← HE.out]; exact HB.out)
set_option maxHeartbeats 1000000 in
theorem within_any (a b:Nat) (ha:a < 18446744073709551616) (hb:b < 18446744073709551616) (w:World):Calls Tryz.prog 59 #[.int .u64 a,.int .u64 b] w (SameB w (withinG a b)):=by
 have HB:=Lib.hid (u64_andNot_nat a b ha hb)
 have HE:=Lib.hid (within_and (a:=a) hb)
 go_enter Tryz.func59,Tryz.ntmps59
 go_wp2
 go_ret
 exact ⟨by rw [← HE.out,← eq_cast,← HB.out]; rfl,rfl⟩
set_option maxHeartbeats 2000000 in
theorem tz_core (x k idx:Nat) (w:World) (hx0:((x:Int) == 0) = false)
 (key:IntKind.u64.wrap (bits BinOp.and IntKind.u64 (x:Int) (IntKind.u64.wrap (-(x:Int))) * 285870213051353865) / 288230376151711744 = (idx:Int))
 (hi:idx < 64) (hk:k < 64) (hcell:w.cell? ⟨0,idx,none⟩ = some (.int .u8 k)) :
 Calls Tryz.prog 82 #[.int .u64 x] w (SameI w k):=by
 go_enter Tryz.func82,Tryz.ntmps82
 go_wp2_with (simp only [key])
 go_ret
 exact ⟨rfl,rfl⟩
theorem tz_zero (w:World):Calls Tryz.prog 82 #[.int .u64 0] w (SameI w 64):=by
 go_enter Tryz.func82,Tryz.ntmps82
 go_wp2
 go_ret
 exact ⟨rfl,rfl⟩
theorem tz_any (x:Nat) (hx:x < 18446744073709551616) (w:World) (hT:TabIn w):Calls Tryz.prog 82 #[.int .u64 x] w (SameI w (Lib.ctz 64 x)):=by
 by_cases hx0:x = 0
 ·subst hx0
  exact tz_zero w
 ·obtain ⟨hlow,hk⟩:=Lib.lowest_bit 64 x hx0 hx
  obtain ⟨hi,htab⟩:=Lib.deBruijn64_at _ hk
  exact tz_core x _ _ w (by simp; omega) (tz64_key x _ hx hx0 hlow) hi hk (hT.cell htab hi)
theorem wrap_nat {y:Nat} (h:y < 18446744073709551616):IntKind.u64.wrap (y:Int) = (y:Int):=by
 rw [IntKind.wrap_u64]
 omega
theorem sum_nat {a b c:Nat} {x y:Int} (hx:x = (a:Int)) (hy:y = (b:Int)) (hc:a + b = c) (h:c < 18446744073709551616):IntKind.u64.wrap (x + y) = (c:Int):=by
 rw [hx,hy,← wrap_nat h,← hc,wrap_nat (hc ▸ h)]
 rw [IntKind.wrap_u64]
 omega
theorem div_nat (x d:Nat):((x:Int) / (d:Int)) = ((x / d:Nat):Int):=(Int.natCast_ediv x d).symm
theorem ones_steps (x:Nat) (hx:x < 18446744073709551616):∃ a z x0 x1 x2 x3:Nat,
 IntKind.u64.wrap (bits .and .u64 ((x:Int) / 2) 6148914691236517205 + bits .and .u64 (x:Int) 6148914691236517205) = (a:Int) ∧
 IntKind.u64.wrap (bits .and .u64 ((a:Int) / 4) 3689348814741910323 + bits .and .u64 (a:Int) 3689348814741910323) = (z:Int) ∧
 bits .and .u64 (IntKind.u64.wrap ((z:Int) / 16 + (z:Int))) 1085102592571150095 = (x0:Int) ∧
 IntKind.u64.wrap ((x0:Int) + (x0:Int) / 256) = (x1:Int) ∧ IntKind.u64.wrap ((x1:Int) + (x1:Int) / 65536) = (x2:Int) ∧ IntKind.u64.wrap ((x2:Int) + (x2:Int) / 4294967296) = (x3:Int) ∧
 x3 < 9223372036854775808 ∧ x3 % 128 = (bitsL x).length:=by
 obtain ⟨x0,x1,x2,x3,e0,e1,e2,e3,b0,b1,b2,b3,hl⟩:=fold8 x
 have ha:A1 8 x < 2 ^ 64:=by
  have h1:=Nat.and_lt_two_pow (x / 2) (show maskG 85 8 < 2 ^ 63 by rw [mask85]; decide)
  have h2:=Nat.and_lt_two_pow x (show maskG 85 8 < 2 ^ 63 by rw [mask85]; decide)
  unfold A1
  omega
 have hz:Z 8 x < 2 ^ 63:=by
  have h1:=Nat.and_lt_two_pow (A1 8 x / 4) (show maskG 51 8 < 2 ^ 62 by rw [mask51]; decide)
  have h2:=Nat.and_lt_two_pow (A1 8 x) (show maskG 51 8 < 2 ^ 62 by rw [mask51]; decide)
  unfold Z A2
  omega
 refine ⟨A1 8 x,Z 8 x,x0,x1,x2,x3,?_,?_,?_,?_,?_,?_,b3,hl⟩
 ·have h1:=bits_and_u64_nat (x / 2) (maskG 85 8) (by omega) (by rw [mask85]; decide)
  have h2:=bits_and_u64_nat x (maskG 85 8) hx (by rw [mask85]; decide)
  rw [mask85] at h1 h2
  exact sum_nat h1 h2 (by unfold A1; rw [mask85]) (by omega)
 ·have h1:=bits_and_u64_nat (A1 8 x / 4) (maskG 51 8) (by omega) (by rw [mask51]; decide)
  have h2:=bits_and_u64_nat (A1 8 x) (maskG 51 8) (by omega) (by rw [mask51]; decide)
  rw [mask51] at h1 h2
  exact sum_nat h1 h2 (by unfold Z A2; rw [mask51]) (by omega)
 ·have h3:IntKind.u64.wrap ((Z 8 x:Int) / 16 + (Z 8 x:Int)) = ((Z 8 x / 16 + Z 8 x:Nat):Int):=sum_nat (div_nat _ 16) rfl rfl (by omega)
  have h1:=bits_and_u64_nat (Z 8 x / 16 + Z 8 x) (maskG 15 8) (by omega) (by rw [mask15]; decide)
  rw [mask15] at h1
  rw [h3,e0]
  refine h1.trans ?_
  unfold W A3
  rw [mask15]
 ·exact sum_nat rfl (div_nat _ 256) e1.symm (by omega)
 ·exact sum_nat rfl (div_nat _ 65536) e2.symm (by omega)
 ·exact sum_nat rfl (div_nat _ 4294967296) e3.symm (by omega)
set_option maxHeartbeats 2000000 in
theorem ones_any (x:Nat) (hx:x < 18446744073709551616) (w:World):Calls Tryz.prog 84 #[.int .u64 x] w (SameI w (bitsL x).length):=by
 obtain ⟨a,z,x0,x1,x2,x3,h1,h2,h3,h4,h5,h6,h7,h8⟩:=ones_steps x hx
 have HL:=Lib.hid h8
 clear h8
 go_enter Tryz.func84,Tryz.ntmps84
 go_wp2
 go_ret
 have e:bits .and .i64 (x3:Int) 127 = ((bitsL x).length:Int):=by rw [i64_and127,← HL.out]; rfl
 exact ⟨by rw [← e]; rfl,rfl⟩
set_option maxHeartbeats 1000000 in
theorem count_any (x:Nat) (hx:x < 18446744073709551616) (w:World):Calls Tryz.prog 65 #[.int .u64 x] w (SameI w (bitsL x).length):=by
 have HA:=Lib.hid (ones_any x hx w)
 go_enter Tryz.func65,Tryz.ntmps65
 go_wp2_with (go_at_call 84; go_fit (HA.out); rintro e w' ⟨rfl,rfl⟩)
 go_ret
 exact ⟨rfl,rfl⟩
theorem take_foldl {l:List Int} {k:Nat} {x:Int} (h:l[k]? = some x):(l.take (k + 1)).foldl withG 0 = withG ((l.take k).foldl withG 0) x:=by
 rw [take_next h,List.foldl_append]
 rfl
set_option maxHeartbeats 1000000 in
theorem of_any (v:Value) (l:List Int) (w:World) (h:Rd w v (intV l)) (hm:l.length ≤ 9223372036854775807) :
 Calls Tryz.prog 63 #[v] w (SameU w (ofG l)):=by
 obtain ⟨A,n,c,rfl,hn,hc,hA⟩:=h.ints
 have HA:=Lib.hid hA
 have HN:=Lib.hid hn
 have hm':n ≤ 9223372036854775807:=by omega
 clear hA hn h hc hm
 go_enter Tryz.func63,Tryz.ntmps63
 go_wp2
 go_loop [3,5,8] (fun m _ i => ∃ k:Nat,k ≤ n ∧ i = .int .i64 k ∧ m = .int .u64 ((l.take k).foldl withG 0:Nat)) (fun _ _ i => n - (RowKit.intOf i).toNat)
 case atStart => exact ⟨0,Nat.zero_le _,rfl,rfl⟩
 case round =>
  obtain ⟨k,hk,rfl,rfl⟩:=hrel
  by_cases hlt:k < n
  ·obtain ⟨b,off,rfl,hb,hcell⟩:=HA.out (by omega)
   obtain ⟨x,hx⟩:∃ x,l[k]? = some x:=get_some (by have:=HN.out; omega)
   have hck:=hcell k x hx
   have HX:=Lib.hid hx
   have HW:=Lib.hid (with_any ((l.take k).foldl withG 0) x (foldl_lt _ (by decide)) w)
   have hE:=take_foldl hx
   obtain ⟨m,hM⟩:∃ m,m = (l.take k).foldl withG 0:=⟨_,rfl⟩
   rw [← hM] at hE HW ⊢
   have HE:=Lib.hid hE
   clear hcell hx hE hM
   go_wp2_with (go_at_call 36; go_fit (HW.out); rintro e w' ⟨rfl,rfl⟩)
   go_round
   case rel => exact ⟨k + 1,by omega,by go_num,by rw [HE.out]⟩
   case measure => simp [RowKit.intOf]; omega
  ·go_wp2
   go_ret
   have:=HN.out
   exact of_same (by rw [List.take_of_length_le (by omega),of_foldl])
end Go.Proofs.YtckojimeglkobaaGreatDoor
namespace Go.Proofs.YtckojimeglkobaaGreatDoor
open Go.RowKit Go.Sort TermSpec EvalSpec ActSpec ConfSpec
set_option maxRecDepth 100000
abbrev cfA (x:Cf):Value:=.agg #[.int .u64 x.m,.int .i64 x.v.a,.int .i64 x.v.b,.int .i64 x.v.c,.int .i64 x.v.d]
abbrev cfO (x:Cf):Obj:=.cells #[.int .u64 x.m,.int .i64 x.v.a,.int .i64 x.v.b,.int .i64 x.v.c,.int .i64 x.v.d] 30
theorem v5_cell {w:World} {b:Nat} {T:TypeId} {u:Value} {x:V4} (h:w.heap[b]? = some (.cells #[u,.int .i64 x.a,.int .i64 x.b,.int .i64 x.c,.int .i64 x.d] T (0,0))) {k:Nat} (hk:k < 4):w.cell? ⟨b,1 + k,none⟩ = some (.int .i64 (x.get k)):=by
 rcases (show k = 0 ∨ k = 1 ∨ k = 2 ∨ k = 3 by omega) with rfl | rfl | rfl | rfl
 ·exact cell_of_block' h rfl
 ·exact cell_of_block' h rfl
 ·exact cell_of_block' h rfl
 ·exact cell_of_block' h rfl
theorem cells_5c {w:World} {b:Nat} {T:TypeId} {u:Value} {x:V4} (h:w.heap[b]? = some (.cells #[u,.int .i64 x.a,.int .i64 x.b,.int .i64 x.c,.int .i64 x.d] T (0,0))) :
 w.cell? ⟨b,0,none⟩ = some u ∧ w.cell? ⟨b,1,none⟩ = some (.int .i64 x.a) ∧ w.cell? ⟨b,2,none⟩ = some (.int .i64 x.b) ∧ w.cell? ⟨b,3,none⟩ = some (.int .i64 x.c) ∧ w.cell? ⟨b,4,none⟩ = some (.int .i64 x.d) :=
 ⟨cell_of_block' h rfl,cell_of_block' h rfl,cell_of_block' h rfl,cell_of_block' h rfl,cell_of_block' h rfl⟩
end Go.Proofs.YtckojimeglkobaaGreatDoor
namespace Go.Proofs.YtckojimeglkobaaGreatDoor
open Go.RowKit NamesSpec
set_option maxRecDepth 100000
theorem inf_int:(Tryz.prog.info? 3).map (fun i => (i.zero,i.size,i.bytes)) = some (some (.int .i64 0),1,8):=by kernel_rfl
def RowI (W wr:World) (p:Value) (xs:List Int):Prop:=wr.ownsRow W.heap.size 3 1 p xs.length (intV xs) ∧ Below W.heap.size W wr
theorem RowI.nil (W wr:World) (hb:Below W.heap.size W wr):RowI W wr (.slice none 0 0) []:=⟨World.ownsRow_nil _ _ _ _,hb⟩
theorem RowI.keep {W w w':World} {p:Value} {xs:List Int} (h:RowI W w p xs) (hb:Below w.heap.size w w'):RowI W w' p xs:=⟨own_keep h.1 hb,below_two' h.2 hb⟩
theorem RowI.addL {W wr w2:World} {p p':Value} {xs ys:List Int} {o:Obj} (h:RowI W wr p xs) (hrow:w2.ownsRow W.heap.size 3 1 p' (xs.length + (intV ys).length) (intV xs ++ intV ys)) (hg:(wr.alloc o).grownBy w2 p.ownBlock):RowI W w2 p' (xs ++ ys):=by
 refine ⟨?_,(h.2.alloc h.2.size o).grown hg (by have:=h.2.size; simp; omega) (fun j hj => (own_block_bd h.1 j hj).1)⟩
 rw [← intV_append,List.length_append,← intV_length ys]
 exact hrow
theorem RowI.add {W wr w2:World} {p p':Value} {xs:List Int} {x:Int} {o:Obj} (h:RowI W wr p xs) (hrow:w2.ownsRow W.heap.size 3 1 p' (xs.length + (intV [x]).length) (intV xs ++ intV [x])) (hg:(wr.alloc o).grownBy w2 p.ownBlock):RowI W w2 p' (xs ++ [x]):=h.addL hrow hg
theorem RowI.read {W wr:World} {p:Value} {xs:List Int} (h:RowI W wr p xs):Rd wr p (intV xs):=Rd.own h.1
theorem RowI.ret {W wr:World} {p:Value} {xs:List Int} (h:RowI W wr p xs):RetInts W xs (.returned p) wr:=⟨p,rfl,h.read,h.2⟩
def RetInts' (W:World) (l:List Int) (e:Ending) (w':World):Prop:=∃ A c,e = .returned (.slice A l.length c) ∧ Rd w' (.slice A l.length c) (intV l) ∧ Below W.heap.size W w'
theorem retInts_shape {W w':World} {l:List Int} {e:Ending} (h:RetInts W l e w'):RetInts' W l e w':=by
 obtain ⟨v,rfl,hr,hb⟩:=h
 obtain ⟨A,n,c,rfl,hn,hc,_⟩:=hr.ints
 subst hn
 exact ⟨A,c,rfl,hr,hb⟩
end Go.Proofs.YtckojimeglkobaaGreatDoor
namespace Go.Proofs.YtckojimeglkobaaGreatDoor
open Go.RowKit GroupSpec NamesSpec
set_option maxRecDepth 100000
theorem half_nat (m k:Nat):((m / 2 ^ k:Nat):Int) / 2 = ((m / 2 ^ (k + 1):Nat):Int):=by
 rw [← low_next]
 omega
theorem odd_nat (m k:Nat):(((m / 2 ^ k:Nat):Int) % 2 == 1) = m.testBit k:=by
 rw [← low_bit,Bool.eq_iff_iff]
 simp only [beq_iff_eq,decide_eq_true_eq]
 omega
set_option maxHeartbeats 1000000 in
theorem rhas_any16 (m:Nat) (i:Int) (hm:m < 18446744073709551616) (w:World):Calls Tryz.prog 33 #[.int .u64 m,.int .i64 i] w (SameB w (hasG m i)):=by
 by_cases h0:i < 0
 ·have HE:Hid (hasG m i = false):=Lib.hid (by unfold hasG; rw [decide_eq_false (by omega)]; rfl)
  go_enter Tryz.func33,Tryz.ntmps33
  go_wp2
  go_ret
  exact ⟨by rw [HE.out]; rfl,rfl⟩
 by_cases h1:63 < i
 ·have HE:Hid (hasG m i = false):=Lib.hid (by unfold hasG; rw [decide_eq_false (by omega:¬ i ≤ 63)]; simp)
  go_enter Tryz.func33,Tryz.ntmps33
  go_wp2
  go_ret
  exact ⟨by rw [HE.out]; rfl,rfl⟩
 obtain ⟨q,rfl⟩:∃ q:Nat,i = q:=⟨i.toNat,by omega⟩
 have hq:q < 64:=by omega
 have HE:=Lib.hid (bit_hasG (m:=m) hq)
 clear h0 h1
 go_enter Tryz.func33,Tryz.ntmps33
 go_wp2
 go_loop [0,5] (fun v i => ∃ k:Nat,k ≤ q ∧ i = .int .i64 k ∧ v = .int .u64 (m / 2 ^ k:Nat)) (fun _ i => q - (RowKit.intOf i).toNat)
 case atStart => exact ⟨0,Nat.zero_le _,rfl,by simp⟩
 case round =>
  obtain ⟨k,hk,rfl,rfl⟩:=hrel
  have HD:=Lib.hid (half_nat m k)
  have HO:=Lib.hid (odd_nat m k)
  have hy:m / 2 ^ k < 18446744073709551616:=Nat.lt_of_le_of_lt (Nat.div_le_self _ _) hm
  generalize m / 2 ^ k = y at HD HO hy ⊢
  by_cases hlt:k < q
  ·go_wp2
   go_round
   case rel => exact ⟨k + 1,by omega,by go_num,by rw [← HD.out]⟩
   case measure => simp [RowKit.intOf]; omega
  ·obtain rfl:k = q:=by omega
   go_wp2
   go_ret
   exact ⟨by rw [HE.out,← HO.out]; rfl,rfl⟩
set_option maxHeartbeats 2000000 in
theorem rof_any16 (v:Value) (l:List Int) (w:World) (h:Rd w v (intV l)) (hm:l.length ≤ 9223372036854775807) :
 Calls Tryz.prog 39 #[v] w (SameU w (ofG l)):=by
 obtain ⟨A,n,c,rfl,hn,hc,hA⟩:=h.ints
 have HA:=Lib.hid hA
 have HN:=Lib.hid hn
 have hm':n ≤ 9223372036854775807:=by omega
 clear hA hn h hc hm
 obtain ⟨m,hM⟩:∃ m,m = ofG l:=⟨_,rfl⟩
 have hlt:m < 18446744073709551616:=by rw [hM]; exact ofG_lt l
 have HB:Hid (∀ j:Nat,j < 64 → m.testBit j = decide ((j:Int) ∈ l)):=Lib.hid fun j hj => by rw [hM,ofG_bit,decide_eq_true hj]; rfl
 rw [← hM]
 clear hM
 go_enter Tryz.func39,Tryz.ntmps39
 go_wp2
 go_loop [3,4,5] (fun v i _ => ∃ k:Nat,k ≤ 64 ∧ i = .int .i64 ((k:Int) - 1) ∧ v = .int .u64 (m / 2 ^ k:Nat)) (fun _ i _ => (RowKit.intOf i + 1).toNat)
 case atStart => exact ⟨64,Nat.le_refl _,rfl,by rw [Nat.div_eq_of_lt hlt]; rfl⟩
 case round =>
  obtain ⟨k,hk,rfl,rfl⟩:=hrel
  rcases k with _ | j
  ·go_wp2
   go_ret
   exact of_same (by simp)
  ·have hbit:=HB.out j (by omega)
   have hy:m / 2 ^ (j + 1) < 9223372036854775808:=by
    have:=low_next m j
    have h2:m / 2 ^ j ≤ m:=Nat.div_le_self _ _
    omega
   have hN1:=high_next m j
   rw [hbit] at hN1
   obtain ⟨y,hY⟩:∃ y,y = m / 2 ^ (j + 1):=⟨_,rfl⟩
   obtain ⟨d,hd⟩:∃ d,d = 2 * y:=⟨_,rfl⟩
   rw [← hY] at hy hN1 ⊢
   rw [← hd] at hN1
   have hw1:IntKind.u64.wrap (2 * (y:Int)) = (d:Int):=by rw [IntKind.wrap_u64]; omega
   have hw2:IntKind.u64.wrap ((d:Int) + 1) = ((d + 1:Nat):Int):=by rw [IntKind.wrap_u64]; omega
   have HN1:=Lib.hid hN1
   clear hbit hN1 hY hd hy
   go_wp2
   go_loop [3,5] (fun v i => ∃ q:Nat,q ≤ n ∧ i = .int .i64 q ∧ v = .int .u64 d ∧ (j:Int) ∉ l.take q) (fun _ i => n - (RowKit.intOf i).toNat)
   case atStart => exact ⟨0,Nat.zero_le _,rfl,by simp,by simp⟩
   case round =>
    obtain ⟨q,hq,rfl,rfl,hno⟩:=hrel
    have HNO:=Lib.hid hno
    clear hno
    by_cases hqn:q < n
    ·obtain ⟨b,off,rfl,hb,hcell⟩:=HA.out (by omega)
     obtain ⟨x,hx⟩:∃ x,l[q]? = some x:=get_some (by have:=HN.out; omega)
     have hck:=hcell q x hx
     have HX:=Lib.hid hx
     clear hcell hx
     by_cases hxj:x = (j:Int)
     ·have HE:Hid (m / 2 ^ j = d + 1):=Lib.hid (by rw [HN1.out,decide_eq_true (by rw [← hxj]; exact List.mem_of_getElem? HX.out)]; rfl)
      subst hxj
      go_wp2
      go_round
      case rel => exact ⟨j,by omega,by go_num,by rw [HE.out]; simp⟩
      case measure => simp [RowKit.intOf]
     ·have HXJ:=Lib.hid hxj
      have g1:(x == (j:Int)) = false:=by simpa using hxj
      clear hxj
      go_wp2
      go_round
      case rel =>
       refine ⟨q + 1,by omega,by go_num,rfl,?_⟩
       rw [take_next HX.out,List.mem_append,List.mem_singleton]
       rintro (h1 | h1)
       ·exact HNO.out h1
       ·exact HXJ.out h1.symm
      case measure => simp [RowKit.intOf]; omega
    ·have HE:Hid (m / 2 ^ j = d):=Lib.hid (by
      have h1:=HNO.out
      have h2:=HN.out
      rw [List.take_of_length_le (by omega)] at h1
      rw [HN1.out,decide_eq_false h1]; rfl)
     go_wp2
     go_round
     case rel => exact ⟨j,by omega,by go_num,by rw [HE.out]⟩
     case measure => simp [RowKit.intOf]
end Go.Proofs.YtckojimeglkobaaGreatDoor