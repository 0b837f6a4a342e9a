/- ValPut, ExprText, ActTextSpec, ExprBetween, ExprMid, ExprLast, ActReadSpec, TransSpec, SynSpec, ShapeSpec, ExprPart, TermLits, joined. -/
import Derived.Test.YtejbpleghjgpbaaGreatDoorMSoundOf02
import Derived.Test.YtejbpleghjgpbaaGreatDoorMSoundOf01
import Derived.Test.YtejbpleghjgpbaaGreatDoorMSoundOf03
import Derived.Deep.RegionHeld3
import Derived.Test.YtejbpleghjgpbaaGreatDoorMSoundOf00
import Derived.Lib.Join
import Derived.Deep.LoopGhost
namespace Go.Proofs.YtejbpleghjgpbaaGreatDoor
open Go.RowKit ValSpec
set_option maxRecDepth 100000
theorem val_str {a b:ByteArray} (h:a = b):Ending.returned (.string a) = .returned (.string b):=by rw [h]
theorem neg_parts (n:Int) (h:n < 0) (h1:-9223372036854775808 ≤ n):∃ d q:Nat,n.tmod 10 = -(d:Int) ∧ n.tdiv 10 = -(q:Int) ∧ d < 10 ∧ q ≤ 922337203685477580 ∧ n.natAbs = 10 * q + d:=by
 obtain ⟨m,rfl⟩:∃ m:Nat,n = -(m:Int):=⟨n.natAbs,by omega⟩
 refine ⟨m % 10,m / 10,?_,?_,Nat.mod_lt _ (by omega),by omega,by rw [Int.natAbs_neg]; simp; omega⟩
 ·rw [Int.neg_tmod]; rfl
 ·rw [Int.neg_tdiv]; rfl
theorem vdigit_any (d:Int) (w:World) (h0:0 ≤ d) (h9:d ≤ 9) :
 Calls Tryz.prog 65 #[.int .i64 d] w fun e w' => e = .returned (.int .u8 (48 + d)) ∧ w = w':=by
 go_enter Tryz.func65,Tryz.ntmps65
 go_wp2
 go_ret
 exact ⟨rfl,rfl⟩
def byteV (c:UInt8):Value:=.int .u8 c.toNat
def cellsOf (z:Nat) (cs:List UInt8):Array Value:=(List.replicate z (Value.int .u8 0) ++ cs.map byteV).toArray
theorem cells_zero {z k:Nat} {cs:List UInt8} (h:k < z):(cellsOf z cs)[k]? = some (.int .u8 0):=by
 simp [cellsOf,List.getElem?_append,h]
theorem cells_set {z:Nat} {cs:List UInt8} (c:UInt8):(cellsOf (z + 1) cs).setIfInBounds z (byteV c) = cellsOf z (c :: cs):=by
 apply Array.ext'
 simp only [cellsOf,Array.toList_setIfInBounds]
 rw [List.set_append_left _ _ (by simp)]
 simp [List.replicate_succ',List.set_append_right]
theorem byteV_digit {d:Nat} (h:d < 10):byteV (UInt8.ofNat (48 + d)) = .int .u8 (48 + (d:Int)):=by
 unfold byteV; rw [byte_nat (by omega)]; simp
theorem cell_of_block {w:World} {b:Nat} {cs:Array Value} {t:TypeId} (h:w.heap[b]? = some (.cells cs t (0,0))) {i:Nat} {v:Value} (hi:cs[i]? = some v):w.cell? ⟨b,i,none⟩ = some v:=by simp [World.cell?,h,hi]
theorem free_of_block {w:World} {b:Nat} {cs:Array Value} {t:TypeId} (h:w.heap[b]? = some (.cells cs t (0,0))) (i:Nat):w.frozen? ⟨b,i,none⟩ = false:=by simp [World.frozen?,h]
theorem block_setCell {w:World} {b:Nat} {cs:Array Value} {t:TypeId} (h:w.heap[b]? = some (.cells cs t (0,0))) (i:Nat) (u:Value):(w.setCell ⟨b,i,none⟩ u).heap[b]? = some (.cells (cs.setIfInBounds i u) t (0,0)):=by
 have hlt:=lt_of_block h
 have h':w.heap[b] = .cells cs t (0,0):=by simpa [Array.getElem?_eq_getElem hlt] using h
 show (w.heap.modify b _)[b]? = _
 rw [Array.getElem?_eq_getElem (by simpa using hlt),Array.getElem_modify_self,h']
 rfl
def PutRel (W:World) (m:Nat) (rv av:Value) (wr:World):Prop :=
 ∃ (i:Nat) (r:Int) (cs:List UInt8),cs.length + i = 18 ∧ rv = .int .i64 r ∧ av = .int .i64 ((i:Int) + 1) ∧ r ≤ 0 ∧ -9223372036854775808 ≤ r ∧ digs m = digs r.natAbs ++ cs ∧ r.natAbs * 10 ^ (18 - i) ≤ m ∧
   wr.heap[W.heap.size]? = some (.cells (cellsOf (i + 2) cs) 102 (0,0)) ∧ Below W.heap.size W wr
theorem put_step {W wr:World} {m i q d:Nat} {r:Int} {cs:List UInt8} (hm:m ≤ 9223372036854775808) (hl:cs.length + i = 18) (hr:r < -9) (hd:digs m = digs r.natAbs ++ cs) (hp:r.natAbs * 10 ^ (18 - i) ≤ m)
 (hb:wr.heap[W.heap.size]? = some (.cells (cellsOf (i + 2) cs) 102 (0,0))) (hbel:Below W.heap.size W wr) (hn:r.natAbs = 10 * q + d) (hd10:d < 10) (hq:q ≤ 922337203685477580) :
 PutRel W m (.int .i64 (-(q:Int))) (.int .i64 i) (wr.setCell ⟨W.heap.size,i + 1,none⟩ (.int .u8 (48 + (d:Int)))):=by
 have hi:1 ≤ i:=by
  rcases Nat.lt_or_ge 0 i with h | h
  ·exact h
  ·exfalso
   obtain rfl:i = 0:=by omega
   have:10 * 10 ^ 18 ≤ r.natAbs * 10 ^ (18 - 0):=Nat.mul_le_mul_right _ (by omega)
   omega
 obtain ⟨k,rfl⟩:∃ k,i = k + 1:=⟨i - 1,by omega⟩
 have hq1:1 ≤ q:=by omega
 refine ⟨k,-(q:Int),UInt8.ofNat (48 + d) :: cs,by simp; omega,rfl,by simp,by omega,by omega,?_,?_,?_,hbel.setCell (Nat.le_refl _) _⟩
 ·rw [hd,hn,digs_ge (n:=10 * q + d) (by omega),show (10 * q + d) / 10 = q by omega,show (10 * q + d) % 10 = d by omega]
  simp
 ·have e:18 - k = (18 - (k + 1)) + 1:=by omega
  rw [e,Nat.pow_succ]
  refine Nat.le_trans ?_ hp
  rw [hn,Int.natAbs_neg,Int.natAbs_natCast,Nat.mul_comm (10 ^ _) 10,← Nat.mul_assoc]
  exact Nat.mul_le_mul_right _ (by omega)
 ·rw [block_setCell hb,← byteV_digit hd10,cells_set]
theorem slice_tail (B l L:Nat) (li:Int) (hli:li = l) (hl:l + L = 20) (h1:1 ≤ L) (W:World):(Instr.sliceAt 102 (.pointer (some ⟨B,0,none⟩)) (some (.int .i64 li)) none none).run Tryz.prog W = .ok (.slice (some ⟨B,l,none⟩) L L) W:=by
 subst hli
 have hal:Tryz.prog.arrayLen 102 = 20:=by simp [Program.arrayLen,Tryz.underlying102]
 rw [run_sliceAt_array_l W 102 ⟨B,0,none⟩ (by simp [Program.arrayLen,Program.elem,Tryz.underlying102]) .i64 (l:Int) (by omega) (by rw [hal]; omega),hal]
 go_simp
 omega
theorem tail_text {w:World} {B z:Nat} {cs:List UInt8} (h:w.heap[B]? = some (.cells (cellsOf z cs) 102 (0,0))) (L:Nat) (hL:cs.length = L) :
 (convert 104 9 (.slice (some ⟨B,z,none⟩) L L)).run Tryz.prog w = .ok (.string ⟨cs.toArray⟩) w:=by
 subst hL
 refine run_convert_bytes_back _ _ _ _ _ cs.length cs Tryz.underlying104 Tryz.underlying5 Tryz.underlying9 (fun j hj => ?_)
 have ea:(⟨B,z,none⟩:Addr).add j = ⟨B,z + j,none⟩:=by unfold Addr.add; split <;> simp_all
 rw [ea]
 refine cell_of_block h ?_
 simp [cellsOf,List.getElem?_append,show ¬ (z + j < z) by omega,List.getElem?_eq_getElem hj,byteV]
theorem put_last {W wr:World} {m i d:Nat} {r:Int} {cs:List UInt8} (hr:r = -(d:Int)) (hd10:d < 10) (hd:digs m = digs r.natAbs ++ cs)
 (hb:wr.heap[W.heap.size]? = some (.cells (cellsOf (i + 2) cs) 102 (0,0))) :
 (wr.setCell ⟨W.heap.size,i + 1,none⟩ (.int .u8 (48 + (d:Int)))).heap[W.heap.size]? = some (.cells (cellsOf (i + 1) (digs m)) 102 (0,0)):=by
 rw [block_setCell hb,← byteV_digit hd10,cells_set,hd,hr,Int.natAbs_neg,Int.natAbs_natCast,digs_lt hd10]
 rfl
theorem put_sign {wr:World} {B i:Nat} {cs:List UInt8} (hb:wr.heap[B]? = some (.cells (cellsOf (i + 1) cs) 102 (0,0))) :
 (wr.setCell ⟨B,i,none⟩ (.int .u8 45)).heap[B]? = some (.cells (cellsOf i (45 :: cs)) 102 (0,0)):=by
 rw [block_setCell hb,show (Value.int .u8 45) = byteV 45 from rfl,cells_set]
set_option maxRecDepth 100000 in
set_option maxHeartbeats 800000 in
theorem put_any (n:Int) (w:World) (h1:-9223372036854775808 ≤ n) (h2:n ≤ 9223372036854775807) :
 Calls Tryz.prog 45 #[.int .i64 n] w fun e w' => e = .returned (.string ⟨(text n).toArray⟩) ∧ Below w.heap.size w w':=by
 rcases (show 0 < n ∨ n < 0 ∨ n ≤ 0 ∧ 0 ≤ n by omega) with h | h | ⟨h,h'⟩
 all_goals
  go_enter Tryz.func45,Tryz.ntmps45
  go_wp2_with fail
  go_loopw [3,5] (fun r a wr => PutRel w n.natAbs r a wr) (fun r _ _ => (intOf r).natAbs)
  case atStart => first
   | exact ⟨18,-n,[],rfl,rfl,rfl,by omega,by omega,by simp,by simp,(heap_alloc_new _ _).trans rfl,(Below.refl _ _).alloc (Nat.le_refl _) _⟩
   | exact ⟨18,n,[],rfl,rfl,rfl,by omega,by omega,by simp,by simp,(heap_alloc_new _ _).trans rfl,(Below.refl _ _).alloc (Nat.le_refl _) _⟩
  case round =>
   obtain ⟨i,r,cs,hl,rfl,rfl,hr,hr2,hd,hp,hb,hbel⟩:=hrel
   have hi2:i ≤ 18:=by omega
   have hc:=cell_of_block hb (cells_zero (k:=i + 1) (by omega))
   have hf:=free_of_block hb (i + 1)
   have hc':=cell_of_block hb (cells_zero (k:=i) (by omega))
   have hf':=free_of_block hb i
   by_cases h9:r < -9
   ·obtain ⟨d,q,hd1,hq,hd10,hqb,hn⟩:=neg_parts r (by omega) hr2
    have HR:=Lib.hid (put_step (show n.natAbs ≤ 9223372036854775808 by omega) hl h9 hd hp hb hbel hn hd10 hqb)
    have HM:Hid (q < r.natAbs):=Lib.hid (by omega)
    clear hn hd hp hb hl hc' hf'
    go_wp2_with (go_at_call 65; refine (vdigit_any _ _ (by omega) (by omega)).mono ?_; rintro e w' ⟨rfl,rfl⟩)
    go_round
    case rel => exact HR.out
    case measure => have:=HM.out; simp [intOf]; omega
   ·obtain ⟨d,rfl⟩:∃ d:Nat,r = -(d:Int):=⟨r.natAbs,by omega⟩
    have hd10:d < 10:=by omega
    have hb2:=put_last (m:=n.natAbs) rfl hd10 hd hb
    have hlen:(digs n.natAbs).length = 19 - i:=by
     rw [hd,List.length_append,Int.natAbs_neg,Int.natAbs_natCast,digs_lt hd10]; simp; omega
    by_cases hneg:n < 0
    ·first
      | (exfalso; omega)
      | (have hb3:=put_sign hb2
         obtain ⟨L,hL⟩:∃ L,L = 20 - i:=⟨_,rfl⟩
         have hsl:=slice_tail w.heap.size i L (i:Int) rfl (by omega) (by omega)
         have hcv:=tail_text hb3 L (by simp; omega)
         have HB:Hid (Below w.heap.size w ((wr.setCell ⟨w.heap.size,i + 1,none⟩ (.int .u8 (48 + (d:Int)))).setCell ⟨w.heap.size,i,none⟩ (.int .u8 45))):=Lib.hid ((hbel.setCell (Nat.le_refl _) _).setCell (Nat.le_refl _) _)
         clear hb hb2 hb3 hlen hd hp hl hL hbel
         go_wp2_with (go_at_call 65; refine (vdigit_any _ _ (by omega) (by omega)).mono ?_; rintro e w' ⟨rfl,rfl⟩)
         go_ret
         exact ⟨val_str (by unfold text; rw [if_pos (by omega)]),HB.out⟩)
    ·first
      | (exfalso; omega)
      | (obtain ⟨L,hL⟩:∃ L,L = 19 - i:=⟨_,rfl⟩
         have hsl:=slice_tail w.heap.size (i + 1) L ((i:Int) + 1) rfl (by omega) (by omega)
         have hcv:=tail_text hb2 L (by omega)
         have HB:Hid (Below w.heap.size w (wr.setCell ⟨w.heap.size,i + 1,none⟩ (.int .u8 (48 + (d:Int))))):=Lib.hid (hbel.setCell (Nat.le_refl _) _)
         clear hb hb2 hlen hd hp hl hL hbel hc' hf'
         go_wp2_with (go_at_call 65; refine (vdigit_any _ _ (by omega) (by omega)).mono ?_; rintro e w' ⟨rfl,rfl⟩)
         go_ret
         exact ⟨val_str (by unfold text; rw [if_neg (by omega)]),HB.out⟩)
end Go.Proofs.YtejbpleghjgpbaaGreatDoor
namespace Go.Proofs.YtejbpleghjgpbaaGreatDoor
open Go.RowKit CurSpec TermSpec ExprSpec
namespace ExprSpec
end ExprSpec
end Go.Proofs.YtejbpleghjgpbaaGreatDoor
namespace Go.Proofs.YtejbpleghjgpbaaGreatDoor
namespace ActSpec
open TermSpec EvalSpec NamesSpec ExprSpec
structure Ta where
 s:ByteArray
 any:Bool
 e:Ex
def Ta.ac (t:Ta):Ac:=⟨t.s,t.any,if t.any then [] else flat t.e⟩
def Ta.Ok (t:Ta):Prop:=isName t.s.data.toList = true ∧ (t.any = false → ExprSpec.Good t.e ∧ chk (flat t.e) = 0)
end ActSpec
end Go.Proofs.YtejbpleghjgpbaaGreatDoor
namespace Go.Proofs.YtejbpleghjgpbaaGreatDoor
open Go.RowKit CurSpec TermSpec ExprSpec
end Go.Proofs.YtejbpleghjgpbaaGreatDoor
namespace Go.Proofs.YtejbpleghjgpbaaGreatDoor
open Go.RowKit CurSpec TermSpec ExprSpec NamesSpec
def Inv (P:Cur → Prop):Prop:=(∀ c,P c → P (on c)) ∧ ∀ c e,P c → P (fail c e)
theorem Inv.want {P:Cur → Prop} (h:Inv P) {c:Cur} (hc:P c) (k:Int) (s:ByteArray):P (want c k s):=by
 unfold CurSpec.want
 split
 ·exact h.1 _ hc
 ·exact h.2 _ _ hc
theorem Inv.nameC {P:Cur → Prop} (h:Inv P) {c:Cur} (hc:P c):P (nameC c):=by
 unfold CurSpec.nameC
 split
 ·exact h.1 _ hc
 ·exact h.2 _ _ hc
theorem Inv.numC {P:Cur → Prop} (h:Inv P) {c:Cur} (hc:P c) (m:Int):P (numC c m):=by
 unfold CurSpec.numC
 split
 ·exact h.1 _ hc
 ·exact h.2 _ _ hc
theorem Inv.hd {P:Cur → Prop} (h:Inv P) {rec:Cur → Int → Pa} (hr:∀ c k,P c → P (rec c k).1) {c:Cur} (hc:P c) (k:Int):P (hd rec c k).1.1:=by
 have two_ok:∀ c o,P c → P (two rec c o).1:=fun c o hc => h.want (hr _ _ (h.want (hr _ _ (h.want hc _ _)) _ _)) _ _
 unfold ExprSpec.hd
 split
 ·exact hr _ _ (h.1 _ hc)
 split
 ·exact hr _ _ (h.1 _ hc)
 ·dsimp only
  unfold atom
  split
  ·exact h.numC hc _
  split
  ·exact h.1 _ hc
  split
  ·exact h.1 _ hc
  split
  ·exact h.want (h.nameC (h.want (h.1 _ hc) _ _)) _ _
  split
  ·exact two_ok _ _ (h.1 _ hc)
  split
  ·exact two_ok _ _ (h.1 _ hc)
  split
  ·exact h.want (hr _ _ (h.1 _ hc)) _ _
  ·exact h.nameC hc
theorem Inv.all {P:Cur → Prop} (h:Inv P):∀ f,(∀ c k,P c → P (S f c k).1) ∧ ∀ lev k c x,P c → P (C f lev k c x).1
 | 0 => ⟨fun c k hc => hc,fun lev k c x hc => hc⟩
 | f + 1 => by
   obtain ⟨ih1,ih2⟩:=Inv.all h f
   refine ⟨fun c k hc => ?_,fun lev k c x hc => ?_⟩
   ·by_cases h0:c.bad = 0
    ·rw [S_good f k h0]
     exact ih2 _ _ _ _ (h.hd ih1 hc k)
    ·rw [S_dead _ k h0]; exact hc
   ·cases hs:sgn c lev k with
    | none => rw [C_stop _ x hs]; exact hc
    | some s => rw [C_step f x hs]; exact ih2 _ _ _ _ (ih1 _ _ (h.1 _ hc))
def CapD (c:Cur) (pre x l:List Tm):Prop:=pre.length ≤ l.length ∧ (c.bad = 0 → (if pre.length + x.length ≤ 41 then l = pre ++ x else l.length = 41))
theorem CapD.to {c d:Cur} {pre x l:List Tm} (h:CapD c pre x l) (hd:d.bad = 0 → c.bad = 0):CapD d pre x l:=⟨h.1,fun h' => h.2 (hd h')⟩
theorem CapD.ins {c d:Cur} {pre x l:List Tm} (t:Tm) (hl:l.length ≤ 41) (hd:d.bad = 0 → c.bad = 0) (h:CapD c pre x l):CapD d pre (t :: x) (ins l pre.length t):=by
 obtain ⟨h1,h2⟩:=h
 refine ⟨?_,fun hb => ?_⟩
 ·unfold Go.Proofs.YtejbpleghjgpbaaGreatDoor.ins
  split
  ·simp only [List.length_append,List.length_take,List.length_cons,List.length_drop]; omega
  ·exact h1
 ·have h3:=h2 (hd hb)
  unfold Go.Proofs.YtejbpleghjgpbaaGreatDoor.ins
  by_cases h40:l.length ≤ 40
  ·rw [if_pos h40]
   by_cases hp:pre.length + x.length ≤ 41
   ·rw [if_pos hp] at h3
    subst h3
    rw [List.length_append] at h40
    rw [if_pos (by simp only [List.length_cons]; omega),List.take_left,List.drop_left]
   ·rw [if_neg hp] at h3; omega
  ·rw [if_neg h40]
   by_cases hp:pre.length + x.length ≤ 41
   ·rw [if_pos hp] at h3
    subst h3
    rw [List.length_append] at h40 hl
    rw [if_neg (by simp only [List.length_cons]; omega),List.length_append]
    omega
   ·rw [if_neg (by simp only [List.length_cons]; omega)]; omega
end Go.Proofs.YtejbpleghjgpbaaGreatDoor
namespace Go.Proofs.YtejbpleghjgpbaaGreatDoor
open Go.RowKit CurSpec TermSpec ExprSpec NamesSpec
end Go.Proofs.YtejbpleghjgpbaaGreatDoor
namespace Go.Proofs.YtejbpleghjgpbaaGreatDoor
namespace ActSpec
open CurSpec TermSpec EvalSpec NamesSpec ExprSpec
end ActSpec
end Go.Proofs.YtejbpleghjgpbaaGreatDoor
namespace Go.Proofs.YtejbpleghjgpbaaGreatDoor
namespace TransSpec
open CurSpec TermSpec EvalSpec NamesSpec ExprSpec ActSpec
structure Tr where
 ev:ByteArray
 g:List Tm
 acts:List Ac
 tg:ByteArray
def okN (s:ByteArray):Bool:=decide (s.size = 0) || isName s.data.toList
def chkT (t:Tr):Int:=if okN t.ev = false ∨ okN t.tg = false then 1 else if t.g.length ≠ 0 ∧ chk t.g ≠ 0 then chk t.g else chkA t.acts
abbrev wEnd:ByteArray:=⟨#[59]⟩
structure Tt where
 ev:ByteArray
 g:Option Ex
 ts:List Ta
 tg:ByteArray
def gFlat:Option Ex → List Tm
 | none => []
 | some e => flat e
def Tt.tr (x:Tt):Tr:=⟨x.ev,gFlat x.g,x.ts.map Ta.ac,x.tg⟩
structure Tt.Ok (x:Tt):Prop where
 ev:okN x.ev = true
 tg:okN x.tg = true
 g:∀ e,x.g = some e → ExprSpec.Good e ∧ chk (flat e) = 0
 ts:∀ t ∈ x.ts,t.Ok
 few:x.ts.length ≤ 8
theorem chkA_ok {l:List Ac} (h:chkA l = 0):l.length ≤ 8 ∧ firstA l = 0:=by
 unfold chkA at h
 split at h
 ·cases h
 ·exact ⟨by omega,h⟩
end TransSpec
end Go.Proofs.YtejbpleghjgpbaaGreatDoor
namespace Go.Proofs.YtejbpleghjgpbaaGreatDoor
namespace SynSpec
open CurSpec TermSpec EvalSpec NamesSpec ExprSpec ActSpec TransSpec
structure Sx where
 s:ByteArray
 kind:Int
 par:Int
 en:List Ac
 ex:List Ac
 tr:List Tr
structure Cx where
 s:ByteArray
 evs:List ByteArray
 vars:List Vr
 sts:List Sx
abbrev zeroC:Cx:=⟨⟨#[]⟩,[],[],[]⟩
section
variable {α:Type} {q:Cur → Bool} {st:Cur → List α → Cur × List α}
def left (c:Cur):Nat:=if c.bad = 0 then c.L.length + 1 else 0
end
abbrev wVar:ByteArray:=⟨#[118,97,114]⟩
abbrev wMin:ByteArray:=⟨#[45]⟩
abbrev wDots:ByteArray:=⟨#[46,46]⟩
abbrev wIs:ByteArray:=⟨#[61]⟩
def intR (c:Cur):Cur × Int:=if isB c 3 wMin = true then (numC (on c) 1000,- numN (on c) 1000) else (numC c 1000,numN c 1000)
def varR (c:Cur):Cur × Vr :=
 (want (intR (want (intR (want (intR (nameC (want c 1 wVar))).1 3 wDots)).1 3 wIs)).1 3 wEnd,
  ⟨nameS (want c 1 wVar),(intR (nameC (want c 1 wVar))).2,(intR (want (intR (nameC (want c 1 wVar))).1 3 wDots)).2,(intR (want (intR (want (intR (nameC (want c 1 wVar))).1 3 wDots)).1 3 wIs)).2⟩)
def fullO {α:Type} (n:Nat) (c:Cur) (out:List α):Cur:=if out.length = n then fail c 8 else c
def stV (c:Cur) (out:List Vr):Cur × List Vr:=((varR (fullO 4 c out)).1,out ++ [(varR (fullO 4 c out)).2])
def room (many deep:Int):Int:=if many = 60 then 8 else if 12 < deep then 6 else 0
structure To (c d:Cur):Prop where
 len:d.L.length ≤ c.L.length
 bad:c.bad ≠ 0 → d.bad ≠ 0
 ok:Ok c → Ok d
theorem To.refl (c:Cur):To c c:=⟨Nat.le_refl _,id,id⟩
theorem To.trans {a b c:Cur} (h:To a b) (g:To b c):To a c:=⟨Nat.le_trans g.len h.len,fun h' => g.bad (h.bad h'),fun h' => g.ok (h.ok h')⟩
def FewS (n:Nat) (c:Cur) (out:List Sx):Prop:=n + out.length ≤ 61 ∧ (n + out.length = 61 → c.bad ≠ 0)
theorem FewS.to {n:Nat} {c d:Cur} {out:List Sx} (h:FewS n c out) (t:To c d):FewS n d out:=⟨h.1,fun h' => t.bad (h.2 h')⟩
def StartS (n:Nat) (c:Cur):Prop:=n ≤ 60 ∧ (n = 60 → c.bad ≠ 0)
theorem StartS.to {n:Nat} {c d:Cur} (h:StartS n c) (t:To c d):StartS n d:=⟨h.1,fun h' => t.bad (h.2 h')⟩
theorem StartS.few {n:Nat} {c:Cur} (h:StartS n c):FewS (n + 1) c []:=⟨by have:=h.1; simp; omega,fun h' => h.2 (by simp at h'; omega)⟩
end SynSpec
end Go.Proofs.YtejbpleghjgpbaaGreatDoor
namespace Go.Proofs.YtejbpleghjgpbaaGreatDoor
namespace ShapeSpec
structure Sh where
 kind:Int
 par:Int
def par (l:List Sh) (i:Nat):Int:=(l[i]?).elim (-1) (·.par)
def kind (l:List Sh) (i:Nat):Int:=(l[i]?).elim 0 (·.kind)
theorem par_at {l:List Sh} {i:Nat} {s:Sh} (h:l[i]? = some s):par l i = s.par:=by simp [par,h]
theorem kind_at {l:List Sh} {i:Nat} {s:Sh} (h:l[i]? = some s):kind l i = s.kind:=by simp [kind,h]
def upF (l:List Sh):Nat → Nat → List Nat
 | 0,_ => []
 | f + 1,i => if 0 ≤ par l i ∧ par l i < i then (par l i).toNat :: upF l f (par l i).toNat else []
theorem upF_fuel (l:List Sh):∀ f g i,i ≤ f → i ≤ g → upF l f i = upF l g i
 | 0,0,_,_,_ => rfl
 | 0,g + 1,i,h,_ => by
   obtain rfl:i = 0:=by omega
   rw [upF,upF,if_neg (by omega)]
 | f + 1,0,i,_,h => by
   obtain rfl:i = 0:=by omega
   rw [upF,upF,if_neg (by omega)]
 | f + 1,g + 1,i,hf,hg => by
   rw [upF,upF]
   split
   ·rw [upF_fuel l f g _ (by omega) (by omega)]
   ·rfl
def up (l:List Sh) (i:Nat):List Nat:=upF l i i
theorem up_no {l:List Sh} {i:Nat} (h:¬ (0 ≤ par l i ∧ par l i < i)):up l i = []:=by
 unfold up
 cases i with
 | zero => rfl
 | succ i => rw [upF,if_neg h]
theorem up_par {l:List Sh} {i:Nat} (h0:0 ≤ par l i) (h1:par l i < i):up l i = (par l i).toNat :: up l (par l i).toNat:=by
 unfold up
 cases i with
 | zero => omega
 | succ i => rw [upF,if_pos ⟨h0,h1⟩,upF_fuel l i _ _ (by omega) (Nat.le_refl _)]
def sf (l:List Sh) (i:Nat):List Nat:=i :: up l i
theorem up_sf {l:List Sh} {i:Nat} (h0:0 ≤ par l i) (h1:par l i < i):up l i = sf l (par l i).toNat:=up_par h0 h1
theorem up_lt {l:List Sh}:∀ {i j:Nat},j ∈ up l i → j < i:=by
 intro i
 induction i using Nat.strongRecOn with
 | ind i ih =>
   intro j h
   by_cases hp:0 ≤ par l i ∧ par l i < i
   ·rw [up_par hp.1 hp.2,List.mem_cons] at h
    rcases h with rfl | h
    ·omega
    ·have:=ih _ (by omega) h
     omega
   ·rw [up_no hp] at h
    simp at h
theorem sf_le {l:List Sh} {i j:Nat} (h:j ∈ sf l i):j ≤ i:=by
 rcases List.mem_cons.1 h with rfl | h
 ·omega
 ·exact Nat.le_of_lt (up_lt h)
theorem sf_self (l:List Sh) (i:Nat):i ∈ sf l i:=List.mem_cons_self ..
theorem sf_up {l:List Sh} {i j:Nat} (h:j ∈ sf l i) (hne:j ≠ i):j ∈ up l i:=by
 rcases List.mem_cons.1 h with rfl | h
 ·exact absurd rfl hne
 ·exact h
theorem up_in {l:List Sh} {i j:Nat} (h:j ∈ up l i):j ∈ sf l i:=List.mem_cons_of_mem _ h
theorem sf_sub {l:List Sh}:∀ {i j m:Nat},j ∈ sf l i → m ∈ sf l j → m ∈ sf l i:=by
 intro i
 induction i using Nat.strongRecOn with
 | ind i ih =>
   intro j m hj hm
   by_cases hji:j = i
   ·subst hji
    exact hm
   ·have hj':=sf_up hj hji
    by_cases hp:0 ≤ par l i ∧ par l i < i
    ·rw [up_sf hp.1 hp.2] at hj'
     refine up_in ?_
     rw [up_sf hp.1 hp.2]
     exact ih _ (by omega) hj' hm
    ·rw [up_no hp] at hj'
     simp at hj'
theorem up_length_le (l:List Sh):∀ i,(up l i).length ≤ i:=by
 intro i
 induction i using Nat.strongRecOn with
 | ind i ih =>
   by_cases hp:0 ≤ par l i ∧ par l i < i
   ·rw [up_par hp.1 hp.2,List.length_cons]
    have:=ih (par l i).toNat (by omega)
    omega
   ·rw [up_no hp]
    simp
def hangB (l:List Sh) (i:Nat):Bool :=
 if i = 0 then decide (par l i = -1) else decide (0 ≤ par l i) && decide (par l i < i) && decide (kind l (par l i).toNat ≠ 1) && decide ((par l i).toNat ∈ sf l (i - 1))
def goodB (l:List Sh) (i:Nat):Bool:=decide (1 ≤ kind l i) && decide (kind l i ≤ 3) && hangB l i
def standB (l:List Sh):Bool:=decide (0 < l.length) && (List.range l.length).all (goodB l)
def deepB (l:List Sh):Bool:=(List.range l.length).any fun i => decide (11 < (up l i).length)
def chk (l:List Sh):Int:=if 60 < l.length then 8 else if standB l = false then 1 else if deepB l = true then 6 else 0
def SU (l:List Sh) (n:Nat):Prop:=∀ i,i < n → goodB l i = true
theorem SU.zero (l:List Sh):SU l 0:=fun _ h => absurd h (by omega)
theorem SU.next {l:List Sh} {n:Nat} (h:SU l n) (hg:goodB l n = true):SU l (n + 1):=fun i hi => by
 by_cases e:i = n
 ·rw [e]; exact hg
 ·exact h i (by omega)
theorem SU.mono {l:List Sh} {n m:Nat} (h:SU l n) (hm:m ≤ n):SU l m:=fun i hi => h i (by omega)
theorem SU.root {l:List Sh} {n:Nat} (h:SU l n) (hn:0 < n):par l 0 = -1:=by
 have:=h 0 hn
 simp [goodB,hangB] at this
 exact this.2
theorem SU.par {l:List Sh} {n i:Nat} (h:SU l n) (hi:i < n) (h0:0 < i):0 ≤ par l i ∧ par l i < i ∧ (par l i).toNat ∈ sf l (i - 1):=by
 have:=h i hi
 have e:i ≠ 0:=by omega
 simp [goodB,hangB,e] at this
 exact ⟨this.2.1.1.1,this.2.1.1.2,this.2.2⟩
theorem SU.parn {l:List Sh} {n i:Nat} (h:SU l n) (hi:i < n) (h0:0 < i):∃ p:Nat,ShapeSpec.par l i = p ∧ p < i ∧ up l i = sf l p ∧ p ∈ sf l (i - 1):=by
 obtain ⟨a,b,c⟩:=h.par hi h0
 exact ⟨(ShapeSpec.par l i).toNat,by omega,by omega,up_sf a b,c⟩
theorem stand_su {l:List Sh} (h:standB l = true):0 < l.length ∧ SU l l.length:=by
 simp [standB] at h
 refine ⟨?_,fun i hi => h.2 i hi⟩
 cases l with
 | nil => simp at h
 | cons => simp
theorem stand_of {l:List Sh} (h0:0 < l.length) (h:SU l l.length):standB l = true:=by
 simp only [standB,Bool.and_eq_true,decide_eq_true_eq,List.all_eq_true,List.mem_range]
 exact ⟨h0,h⟩
theorem stand_not {l:List Sh} {i:Nat} (hi:i < l.length) (h:goodB l i = false):standB l = false:=by
 cases hs:standB l with
 | false => rfl
 | true => rw [(stand_su hs).2 i hi] at h; cases h
theorem chk_ok {l:List Sh} (h:chk l = 0):l.length ≤ 60 ∧ standB l = true ∧ ∀ i,i < l.length → (up l i).length ≤ 11:=by
 unfold chk at h
 split at h
 ·cases h
 ·split at h
  ·cases h
  ·split at h
   ·cases h
   ·rename_i h1 h2 h3
    refine ⟨by omega,by simpa using h2,fun i hi => ?_⟩
    simp only [deepB,Bool.not_eq_true,List.any_eq_false,List.mem_range,decide_eq_true_eq] at h3
    exact Nat.le_of_not_lt (h3 i hi)
theorem chk_su {l:List Sh} (h:chk l = 0):SU l l.length:=(stand_su (chk_ok h).2.1).2
def kidsTo (l:List Sh) (i n:Nat):List Int:=((List.range n).filter fun k => decide (par l k = i)).map Int.ofNat
def kids (l:List Sh) (i:Nat):List Int:=kidsTo l i l.length
theorem kids_yes {l:List Sh} {i n:Nat} (h:par l n = i):kidsTo l i (n + 1) = kidsTo l i n ++ [(n:Int)]:=by simp [kidsTo,List.range_succ,List.filter_append,h]
theorem kids_no {l:List Sh} {i n:Nat} (h:par l n ≠ i):kidsTo l i (n + 1) = kidsTo l i n:=by simp [kidsTo,List.range_succ,List.filter_append,h]
theorem kids_le (l:List Sh) (i n:Nat):(kidsTo l i n).length ≤ n:=by
 unfold kidsTo
 rw [List.length_map]
 have:=List.length_filter_le (fun k => decide (par l k = i)) (List.range n)
 simpa using this
def upI (l:List Sh) (i:Nat):List Int:=(up l i).map Int.ofNat
theorem upI_length (l:List Sh) (i:Nat):(upI l i).length = (up l i).length:=by simp [upI]
theorem mem_ints {a:List Nat} {j:Nat}:(j:Int) ∈ a.map Int.ofNat ↔ j ∈ a:=by
 rw [List.mem_map]
 constructor
 ·rintro ⟨x,hx,e⟩
  obtain rfl:x = j:=Int.ofNat.inj e
  exact hx
 ·exact fun h => ⟨j,h,rfl⟩
theorem upI_mem {l:List Sh} {i j:Nat}:(j:Int) ∈ upI l i ↔ j ∈ up l i:=mem_ints
def endTo (l:List Sh) (i:Nat):Nat → Nat
 | 0 => i + 1
 | k + 1 => if i ∈ up l k then k + 1 else endTo l i k
def endOf (l:List Sh) (i:Nat):Nat:=endTo l i l.length
theorem endTo_gt {l:List Sh} {i:Nat}:∀ n,i < endTo l i n
 | 0 => by rw [endTo]; omega
 | n + 1 => by
   rw [endTo]
   split
   ·have:=up_lt ‹_›
    omega
   ·exact endTo_gt n
theorem endTo_le {l:List Sh} {i:Nat}:∀ {n},endTo l i n ≤ max (i + 1) n
 | 0 => by rw [endTo]; omega
 | n + 1 => by
   rw [endTo]
   split
   ·omega
   ·have:=endTo_le (l:=l) (i:=i) (n:=n)
    omega
theorem endTo_mem {l:List Sh} {i k:Nat} (h:i ∈ up l k):∀ {n},k < n → k < endTo l i n
 | 0,hk => absurd hk (by omega)
 | n + 1,hk => by
   rw [endTo]
   split
   ·omega
   ·rename_i hn
    have:k ≠ n:=by rintro rfl; exact hn h
    exact endTo_mem h (by omega)
theorem endTo_last {l:List Sh} {i:Nat}:∀ {n},endTo l i n = i + 1 ∨ i ∈ up l (endTo l i n - 1) ∧ endTo l i n ≤ n
 | 0 => .inl rfl
 | n + 1 => by
   rw [endTo]
   split
   ·exact .inr ⟨by simpa using ‹i ∈ up l n›,Nat.le_refl _⟩
   ·rcases endTo_last (l:=l) (i:=i) (n:=n) with h | ⟨h,h'⟩
    ·exact .inl h
    ·exact .inr ⟨h,by omega⟩
theorem below_stop {l:List Sh} {n i k:Nat} (h:SU l n) (hk:k < n) (hi:i < k) (hno:i ∉ sf l (k - 1)):i ∉ up l k:=by
 obtain ⟨p,hp,hlt,hup,hin⟩:=h.parn hk (by omega)
 rw [hup]
 exact fun hm => hno (sf_sub hin hm)
theorem below_none {l:List Sh} {n i e:Nat} (h:SU l n) (hi:i < e) (hno:i ∉ up l e):∀ k,e ≤ k → k < n → i ∉ up l k:=by
 intro k
 induction k with
 | zero => intro h1 _; omega
 | succ k ih =>
   intro h1 h2
   by_cases e1:e = k + 1
   ·rw [← e1]
    exact hno
   ·have hk:=ih (by omega) (by omega)
    refine below_stop h h2 (by omega) fun hm => hk (sf_up (by simpa using hm) (by omega))
theorem end_bd {l:List Sh} {i:Nat} (hi:i < l.length):i < endOf l i ∧ endOf l i ≤ l.length:=by
 refine ⟨endTo_gt _,?_⟩
 have:=endTo_le (l:=l) (i:=i) (n:=l.length)
 unfold endOf
 omega
theorem end_iff {l:List Sh} {i k:Nat} (h:SU l l.length) (hi:i < l.length) (hk:k < l.length):i ∈ sf l k ↔ i ≤ k ∧ k < endOf l i:=by
 constructor
 ·intro hm
  refine ⟨sf_le hm,?_⟩
  by_cases e:i = k
  ·rw [← e]
   exact (end_bd hi).1
  ·exact endTo_mem (sf_up hm e) hk
 ·rintro ⟨h1,h2⟩
  rcases Classical.em (i ∈ sf l k) with hm | hm
  ·exact hm
  ·exfalso
   have hne:i ≠ k:=by rintro rfl; exact hm (sf_self _ _)
   have hno:i ∉ up l k:=fun hu => hm (up_in hu)
   rcases endTo_last (l:=l) (i:=i) (n:=l.length) with e | ⟨e,e'⟩
   ·have:endOf l i = i + 1:=e
    omega
   ·have hlt:k < endTo l i l.length:=h2
    exact below_none h (by omega) hno (endTo l i l.length - 1) (by omega) (by omega) e
def meet (l:List Sh) (i k:Nat):Int:=((sf l i).find? fun a => decide (a ∈ sf l k)).elim (-1) Int.ofNat
end ShapeSpec
end Go.Proofs.YtejbpleghjgpbaaGreatDoor
namespace Go.Proofs.YtejbpleghjgpbaaGreatDoor
open Go.RowKit CurSpec TermSpec ExprSpec NamesSpec
end Go.Proofs.YtejbpleghjgpbaaGreatDoor
namespace Go.Proofs.YtejbpleghjgpbaaGreatDoor
open Go.RowKit TermSpec
set_option maxRecDepth 100000
theorem max_if (a b:Int):max a b = if a < b then b else a:=by split <;> omega
def DeepRel (bs:List Int) (n:Nat) (v i:Value):Prop:=∃ k:Nat,k ≤ n ∧ i = .int .i64 k ∧ v = .int .i64 (deepest (bs.take k))
set_option maxHeartbeats 1000000 in
theorem deplit_any (o:Int) (v:Value) (bs:List Int) (w:World) (h:Rd w v (intV bs)) (hm:bs.length ≤ 4611686018427387903) (hb:∀ b ∈ bs,b ≤ 4611686018427387903) :
 Calls Tryz.prog 99 #[.int .i64 o,v] w (SameI w (depF o bs)):=by
 obtain ⟨A,n,c,rfl,hn,hc,hA⟩:=h.ints
 have HA:=Lib.hid hA
 have HN:=Lib.hid hn
 have HB:=Lib.hid hb
 have hm':n ≤ 4611686018427387903:=by omega
 clear hA hn h hc hm hb
 go_enter Tryz.func99,Tryz.ntmps99
 go_wp2_with fail
 go_loop [5,7,10] (fun v _ i => DeepRel bs n v i) (fun _ _ i => n - (intOf i).toNat)
 case atStart => exact ⟨0,Nat.zero_le _,rfl,rfl⟩
 case round =>
  obtain ⟨k,hk,rfl,rfl⟩:=hrel
  obtain ⟨g0,g1⟩:=deepest_bd (B:=4611686018427387903) (by omega) (bs.take k) (fun b h => HB.out b (List.mem_of_mem_take h))
  by_cases hlt:k < n
  ·obtain ⟨b,off,rfl,hb,hcell⟩:=HA.out (by omega)
   obtain ⟨x,hx⟩:∃ x,bs[k]? = some x:=get_some (by have:=HN.out; omega)
   have hck:=hcell k x hx
   have HS:Hid (deepest (bs.take (k + 1)) = if deepest (bs.take k) < x then x else deepest (bs.take k)):=Lib.hid (by rw [take_next hx,deepest_snoc])
   obtain ⟨d,hd⟩:∃ d,d = deepest (bs.take k):=⟨_,rfl⟩
   rw [← hd] at HS g0 g1 ⊢
   clear hcell hx hd
   go_wp2_with fail
   go_round
   case rel => exact ⟨k + 1,hlt,by simp,by rw [HS.out,← max_if]⟩
   case measure => simp [intOf]; omega
  ·go_wp2_with fail
   go_ret
   exact ⟨ret_int (by rw [List.take_of_length_le (by rw [HN.out]; omega)]; rfl),rfl⟩
def AllRel (bs:List Int) (n:Nat) (q:Int) (i:Value):Prop:=∃ k:Nat,k ≤ n ∧ i = .int .i64 k ∧ (bs.take k).all (fun b => decide (b = q)) = true
theorem all_no {bs:List Int} {k:Nat} {q x:Int} (hx:bs[k]? = some x) (h:x ≠ q):bs.all (fun b => decide (b = q)) = false:=by
 rw [List.all_eq_false]
 exact ⟨x,List.mem_of_getElem? hx,by simpa using h⟩
theorem typF_of {o:Int} {bs:List Int} {b:Bool} (h:bs.all (fun b => decide (b = askT o)) = b):typF o bs = if b then ownT o else 0:=by unfold typF; rw [h]
set_option maxHeartbeats 1000000 in
theorem typlit_any (o:Int) (v:Value) (bs:List Int) (w:World) (h:Rd w v (intV bs)) (hm:bs.length ≤ 4611686018427387903) :
 Calls Tryz.prog 97 #[.int .i64 o,v] w (SameI w (typF o bs)):=by
 obtain ⟨A,n,c,rfl,hn,hc,hA⟩:=h.ints
 have HA:=Lib.hid hA
 have HN:=Lib.hid hn
 have HT:=Lib.hid (fun b h => typF_of (o:=o) (bs:=bs) (b:=b) h)
 have HC:=Lib.hid (fun w => types_any o w)
 obtain ⟨q,hq⟩:∃ q,q = askT o:=⟨_,rfl⟩
 obtain ⟨z,hz⟩:∃ z,z = ownT o:=⟨_,rfl⟩
 rw [← hq,← hz] at HC HT
 have hm':n ≤ 4611686018427387903:=by omega
 clear hA hn h hc hm hq hz
 go_enter Tryz.func97,Tryz.ntmps97
 go_wp2_with (go_at_call 98; (with_reducible refine (HC.out _).mono ?_); rintro e w' ⟨rfl,rfl⟩)
 go_loop [8,16] (fun _ i => AllRel bs n q i) (fun _ i => n - (intOf i).toNat)
 case atStart => exact ⟨0,Nat.zero_le _,rfl,rfl⟩
 case round =>
  obtain ⟨k,hk,rfl,hall⟩:=hrel
  have HL:=Lib.hid hall
  clear hall
  by_cases hlt:k < n
  ·obtain ⟨b,off,rfl,hb,hcell⟩:=HA.out (by omega)
   obtain ⟨x,hx⟩:∃ x,bs[k]? = some x:=get_some (by have:=HN.out; omega)
   have hck:=hcell k x hx
   have HX:=Lib.hid hx
   clear hcell hx
   by_cases hxq:x = q
   ·have g:(x != q) = false:=by simp [hxq]
    have HQ:=Lib.hid hxq
    clear hxq
    go_wp2_with fail
    go_round
    case rel => exact ⟨k + 1,hlt,by simp,by rw [take_next HX.out,List.all_append,HL.out]; simpa using HQ.out⟩
    case measure => simp [intOf]; omega
   ·have g:(x != q) = true:=by simp [hxq]
    have HQ:=Lib.hid hxq
    clear hxq
    go_wp2_with fail
    go_ret
    exact ⟨ret_int (by rw [HT.out _ (all_no HX.out HQ.out)]; rfl),rfl⟩
  ·go_wp2_with fail
   go_ret
   exact ⟨ret_int (by
    have h:=HL.out
    rw [List.take_of_length_le (by rw [HN.out]; omega)] at h
    rw [HT.out _ h]; rfl),rfl⟩
end Go.Proofs.YtejbpleghjgpbaaGreatDoor