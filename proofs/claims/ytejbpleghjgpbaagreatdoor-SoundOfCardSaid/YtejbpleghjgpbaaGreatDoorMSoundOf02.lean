/- CurMem, CurAt, CurDead, CurRef, CurLive, CurRefTake, NamesWords, NamesRefIs, CurRefName, ValCalls, ValGet, CurRefNum, CurCalls, TermArity, joined. -/
import Derived.Test.YtejbpleghjgpbaaGreatDoorRows
import Derived.Test.YtejbpleghjgpbaaGreatDoorMSoundOf01
import Derived.RegionTactic
import Derived.ChangeAlike
import Derived.Lib.OthersKept
import Derived.Deep.RegionHeld3
import Derived.Test.YtejbpleghjgpbaaGreatDoorMSoundOf00
import Derived.WalkKit
import Derived.WalkSpells
import Derived.Lib.Hide
namespace Go.Proofs.YtejbpleghjgpbaaGreatDoor
open Go.RowKit CurSpec
def tkV (t:Tk):List Value:=[.int .i64 t.k,.string t.t,.int .i64 t.l,.int .i64 t.c]
def tksV (l:List Tk):List Value:=l.flatMap tkV
theorem tkV_length (t:Tk):(tkV t).length = 4:=rfl
theorem tksV_length (l:List Tk):(tksV l).length = l.length * 4:=flat_length tkV_length l
theorem tksV_cons (t:Tk) (l:List Tk):tksV (t :: l) = tkV t ++ tksV l:=by simp [tksV]
theorem tksV_get {l:List Tk} {i:Nat} {t:Tk} (h:l[i]? = some t):(tksV l)[i * 4]? = some (.int .i64 t.k) ∧ (tksV l)[i * 4 + 1]? = some (.string t.t) ∧ (tksV l)[i * 4 + 2]? = some (.int .i64 t.l) ∧ (tksV l)[i * 4 + 3]? = some (.int .i64 t.c) :=
 ⟨flat_get (j:=0) tkV_length h (by omega),flat_get (j:=1) tkV_length h (by omega),flat_get (j:=2) tkV_length h (by omega),flat_get (j:=3) tkV_length h (by omega)⟩
def Toks (w:World) (v:Value) (l:List Tk):Prop:=∃ n,n = l.length ∧ Rdk 4 w v n (tksV l)
theorem Toks.keep {w w':World} {v:Value} {l:List Tk} (h:Toks w v l) (hb:Below w.heap.size w w'):Toks w' v l:=by
 obtain ⟨n,hn,h⟩:=h
 exact ⟨n,hn,h.keep hb⟩
theorem Toks.alloc {w:World} {v:Value} {l:List Tk} (h:Toks w v l) (o:Obj):Toks (w.alloc o) v l:=h.keep ((Below.refl _ _).alloc (Nat.le_refl _) _)
theorem Toks.cons {w:World} {v:Value} {t:Tk} {l:List Tk} (h:Toks w v (t :: l)) :
 ∃ b off n c,v = .slice (some ⟨b,off,none⟩) (n + 1) c ∧ n = l.length ∧ n + 1 ≤ c ∧ b < w.heap.size ∧ w.cell? ⟨b,off,none⟩ = some (.int .i64 t.k) ∧ w.cell? ⟨b,off + 1,none⟩ = some (.string t.t) ∧ w.cell? ⟨b,off + 2,none⟩ = some (.int .i64 t.l) ∧ w.cell? ⟨b,off + 3,none⟩ = some (.int .i64 t.c) ∧
   Toks w (.slice (some ⟨b,if c = 1 then off else off + 4,none⟩) n (c - 1)) l:=by
 obtain ⟨n,rfl,A,c,rfl,hc,hl,hA⟩:=h
 obtain ⟨b,off,rfl,hb,hcell⟩:=hA (by simp)
 have g:=tksV_get (l:=t :: l) (i:=0) rfl
 simp only [List.length_cons] at hc
 refine ⟨b,off,l.length,c,rfl,rfl,hc,hb,hcell 0 _ g.1,hcell 1 _ g.2.1,hcell 2 _ g.2.2.1,hcell 3 _ g.2.2.2,l.length,rfl,_,_,rfl,by omega,tksV_length l,fun h0 => ⟨b,off + 4,?_,hb,fun j u hj => ?_⟩⟩
 ·rw [if_neg (by omega)]
 ·rw [show off + 4 + j = off + (4 + j) by omega]
  refine hcell _ _ ?_
  rw [tksV_cons,List.getElem?_append_right (by rw [tkV_length]; omega),tkV_length,Nat.add_sub_cancel_left,hj]
theorem Toks.shape {w:World} {v:Value} {l:List Tk} (h:Toks w v l):∃ A n c,v = .slice A n c ∧ n = l.length:=by
 obtain ⟨n,hn,A,c,hv,_⟩:=h
 exact ⟨A,n,c,hv,hn⟩
def Blk (w:World) (b n:Nat):Prop:=∃ cs T,w.heap[b]? = some (.cells cs T (0,0)) ∧ cs.size = n
theorem Blk.of {w:World} {b:Nat} {cs:Array Value} {T:TypeId} (h:w.heap[b]? = some (.cells cs T (0,0))):Blk w b cs.size:=⟨cs,T,h,rfl⟩
theorem Blk.set {w:World} {b n:Nat} (h:Blk w b n) (i:Nat) (u:Value):Blk (w.setCell ⟨b,i,none⟩ u) b n:=by
 obtain ⟨cs,T,h,hn⟩:=h
 exact ⟨_,T,block_setCell' h i u,by rw [Array.size_setIfInBounds,hn]⟩
theorem Blk.read {w:World} {b n:Nat} (h:Blk w b n) (i:Nat) (hi:i < n) (u:Value):(w.setCell ⟨b,i,none⟩ u).cell? ⟨b,i,none⟩ = some u:=by
 obtain ⟨cs,T,h,hn⟩:=h
 exact cell_of_block' (block_setCell' h i u) (by rw [Array.getElem?_setIfInBounds_self,if_pos (by omega)])
theorem below_pair (w:World) (o p:Obj):Below w.heap.size w ((w.alloc o).alloc p):=((Below.refl _ _).alloc (Nat.le_refl _) _).alloc (by simp) _
theorem pair_blocks {w w2:World} {o p:Obj} (hb:Below ((w.alloc o).alloc p).heap.size ((w.alloc o).alloc p) w2) :
 w2.heap[w.heap.size]? = some o ∧ w2.heap[w.heap.size + 1]? = some p ∧ Below w.heap.size w w2 ∧ w.heap.size + 1 < w2.heap.size:=by
 have hz:=hb.size
 simp only [World.size_alloc] at hz
 refine ⟨(hb.block _ (by simp; omega)).trans ((heap_alloc_old _ _ (by simp)).trans (heap_alloc_new _ _)),(hb.block _ (by simp)).trans ?_,?_,by omega⟩
 ·have:=heap_alloc_new (w.alloc o) p
  rwa [World.size_alloc] at this
 ·exact (below_pair w o p).trans (hb.mono (by simp; omega))
theorem one_block {w w2:World} {o:Obj} (hb:Below (w.alloc o).heap.size (w.alloc o) w2):w2.heap[w.heap.size]? = some o ∧ Below w.heap.size w w2 ∧ w.heap.size < w2.heap.size:=by
 have hz:=hb.size
 simp only [World.size_alloc] at hz
 exact ⟨(hb.block _ (by simp)).trans (heap_alloc_new _ _),((Below.refl _ _).alloc (Nat.le_refl _) _).trans (hb.mono (by simp)),by omega⟩
theorem block_on {w w2:World} {b:Nat} {o:Obj} (h:w.heap[b]? = some o) (hb:Below w.heap.size w w2):w2.heap[b]? = some o:=(hb.block b (Array.getElem?_eq_some_iff.1 h).1).trans h
theorem blk_of {w:World} {b n:Nat} {cs:Array Value} {T:TypeId} (h:w.heap[b]? = some (.cells cs T (0,0))) (hn:cs.size = n):Blk w b n:=⟨cs,T,h,hn⟩
theorem Blk.other {w:World} {b n c:Nat} (h:Blk w b n) (hne:b ≠ c) (i:Nat) (u:Value):Blk (w.setCell ⟨c,i,none⟩ u) b n:=by
 obtain ⟨cs,T,h,hn⟩:=h
 exact ⟨cs,T,(Below.heap_setCell _ _ _ _ hne).trans h,hn⟩
end Go.Proofs.YtejbpleghjgpbaaGreatDoor
namespace Go.Proofs.YtejbpleghjgpbaaGreatDoor
open Go.RowKit CurSpec
theorem Toks.but {w w':World} {b off n cp B:Nat} {l:List Tk} (h:Toks w (.slice (some ⟨b,off,none⟩) n cp) l) (hb:w.grownBy w' (some B)) (hne:b ≠ B):Toks w' (.slice (some ⟨b,off,none⟩) n cp) l:=by
 obtain ⟨m,hm,A,c,heq,hc,hl,hA⟩:=h
 cases heq
 refine ⟨n,hm,_,cp,rfl,hc,hl,fun h0 => ?_⟩
 obtain ⟨b',off',h1,hlt,hcell⟩:=hA h0
 cases h1
 refine ⟨b,off,rfl,Nat.lt_of_lt_of_le hlt hb.size,fun j u hj => ?_⟩
 rw [← hcell j u hj]
 have:=hb.block b hlt (by simp; omega)
 simp [World.cell?,this]
end Go.Proofs.YtejbpleghjgpbaaGreatDoor
namespace Go.Proofs.YtejbpleghjgpbaaGreatDoor
open Go.RowKit CurSpec
section
end
end Go.Proofs.YtejbpleghjgpbaaGreatDoor
namespace Go.Proofs.YtejbpleghjgpbaaGreatDoor
open Go.RowKit CurSpec
end Go.Proofs.YtejbpleghjgpbaaGreatDoor
namespace Go.Proofs.YtejbpleghjgpbaaGreatDoor
open Go.RowKit CurSpec
theorem but_below {w w':World} {B:Nat} (h:Below w.heap.size w w'):w.grownBy w' (some B):=⟨h.os,h.tape,h.output,h.size,fun i hi _ => h.block i hi⟩
end Go.Proofs.YtejbpleghjgpbaaGreatDoor
namespace Go.Proofs.YtejbpleghjgpbaaGreatDoor
open Go.RowKit CurSpec
end Go.Proofs.YtejbpleghjgpbaaGreatDoor
namespace Go.Proofs.YtejbpleghjgpbaaGreatDoor
open Go.RowKit NamesSpec Go.Lib
set_option maxRecDepth 100000
theorem keywords_any (w:World):Calls Tryz.prog 39 #[] w (RetStrs w kwS):=by
 go_enter Tryz.func39,Tryz.ntmps39
 go_wp2
 go_ret
 exact ⟨_,rfl,Rd.lit (cs:=(strV kwS).toArray) rfl,(Below.refl _ _).alloc (Nat.le_refl _) _⟩
theorem toList_of (s:ByteArray):s.toList = s.data.toList:=ByteArray.toList_eq s
theorem kw_yes {s:ByteArray} {x:List UInt8} (h:(s.toList == x) = true) (hx:isKw x = true):isKw s.data.toList = true:=by
 rw [← toList_of,eq_of_beq h]; exact hx
theorem kw_no {s:ByteArray} (h:∀ x ∈ kw,(s.toList == x) = false):isKw s.data.toList = false:=by
 rw [← toList_of]
 unfold isKw
 rw [Bool.eq_false_iff]
 intro hc
 have hm:=List.contains_iff_mem.1 hc
 have:=h _ hm
 simp at this
set_option maxHeartbeats 800000 in
theorem keyword_any (s:ByteArray) (w:World):Calls Tryz.prog 66 #[.string s] w fun e w' => e = .returned (.bool (isKw s.data.toList)) ∧ w = w':=by
 rcases h0:(s.toList == [99,104,97,114,116]) with _ | _
 case true =>
  go_enter Tryz.func66,Tryz.ntmps66
  go_wp2
  go_ret
  exact ⟨ret_bool (kw_yes h0 (by decide)).symm,rfl⟩
 rcases h1:(s.toList == [101,118,101,110,116]) with _ | _
 case true =>
  go_enter Tryz.func66,Tryz.ntmps66
  go_wp2
  go_ret
  exact ⟨ret_bool (kw_yes h1 (by decide)).symm,rfl⟩
 rcases h2:(s.toList == [118,97,114]) with _ | _
 case true =>
  go_enter Tryz.func66,Tryz.ntmps66
  go_wp2
  go_ret
  exact ⟨ret_bool (kw_yes h2 (by decide)).symm,rfl⟩
 rcases h3:(s.toList == [108,101,97,102]) with _ | _
 case true =>
  go_enter Tryz.func66,Tryz.ntmps66
  go_wp2
  go_ret
  exact ⟨ret_bool (kw_yes h3 (by decide)).symm,rfl⟩
 rcases h4:(s.toList == [111,114]) with _ | _
 case true =>
  go_enter Tryz.func66,Tryz.ntmps66
  go_wp2
  go_ret
  exact ⟨ret_bool (kw_yes h4 (by decide)).symm,rfl⟩
 rcases h5:(s.toList == [97,110,100]) with _ | _
 case true =>
  go_enter Tryz.func66,Tryz.ntmps66
  go_wp2
  go_ret
  exact ⟨ret_bool (kw_yes h5 (by decide)).symm,rfl⟩
 rcases h6:(s.toList == [101,110,116,101,114]) with _ | _
 case true =>
  go_enter Tryz.func66,Tryz.ntmps66
  go_wp2
  go_ret
  exact ⟨ret_bool (kw_yes h6 (by decide)).symm,rfl⟩
 rcases h7:(s.toList == [101,120,105,116]) with _ | _
 case true =>
  go_enter Tryz.func66,Tryz.ntmps66
  go_wp2
  go_ret
  exact ⟨ret_bool (kw_yes h7 (by decide)).symm,rfl⟩
 rcases h8:(s.toList == [111,110]) with _ | _
 case true =>
  go_enter Tryz.func66,Tryz.ntmps66
  go_wp2
  go_ret
  exact ⟨ret_bool (kw_yes h8 (by decide)).symm,rfl⟩
 rcases h9:(s.toList == [97,117,116,111]) with _ | _
 case true =>
  go_enter Tryz.func66,Tryz.ntmps66
  go_wp2
  go_ret
  exact ⟨ret_bool (kw_yes h9 (by decide)).symm,rfl⟩
 rcases h10:(s.toList == [97,110,121]) with _ | _
 case true =>
  go_enter Tryz.func66,Tryz.ntmps66
  go_wp2
  go_ret
  exact ⟨ret_bool (kw_yes h10 (by decide)).symm,rfl⟩
 rcases h11:(s.toList == [105,110]) with _ | _
 case true =>
  go_enter Tryz.func66,Tryz.ntmps66
  go_wp2
  go_ret
  exact ⟨ret_bool (kw_yes h11 (by decide)).symm,rfl⟩
 rcases h12:(s.toList == [109,105,110]) with _ | _
 case true =>
  go_enter Tryz.func66,Tryz.ntmps66
  go_wp2
  go_ret
  exact ⟨ret_bool (kw_yes h12 (by decide)).symm,rfl⟩
 rcases h13:(s.toList == [109,97,120]) with _ | _
 case true =>
  go_enter Tryz.func66,Tryz.ntmps66
  go_wp2
  go_ret
  exact ⟨ret_bool (kw_yes h13 (by decide)).symm,rfl⟩
 rcases h14:(s.toList == [110,111,116]) with _ | _
 case true =>
  go_enter Tryz.func66,Tryz.ntmps66
  go_wp2
  go_ret
  exact ⟨ret_bool (kw_yes h14 (by decide)).symm,rfl⟩
 rcases h15:(s.toList == [116,114,117,101]) with _ | _
 case true =>
  go_enter Tryz.func66,Tryz.ntmps66
  go_wp2
  go_ret
  exact ⟨ret_bool (kw_yes h15 (by decide)).symm,rfl⟩
 rcases h16:(s.toList == [102,97,108,115,101]) with _ | _
 case true =>
  go_enter Tryz.func66,Tryz.ntmps66
  go_wp2
  go_ret
  exact ⟨ret_bool (kw_yes h16 (by decide)).symm,rfl⟩
 have HK:Hid (isKw s.data.toList = false):=Lib.hid (kw_no (by
  intro x hx
  simp only [kw,List.mem_cons,List.not_mem_nil,or_false] at hx
  rcases hx with rfl | rfl | rfl | rfl | rfl | rfl | rfl | rfl | rfl | rfl | rfl | rfl | rfl | rfl | rfl | rfl | rfl <;> assumption))
 go_enter Tryz.func66,Tryz.ntmps66
 go_wp2
 go_ret
 exact ⟨ret_bool HK.out.symm,rfl⟩
def begB (r:Int):Bool:=decide (97 ≤ r) && decide (r ≤ 122)
def goB (r:Int):Bool:=begB r || decide (48 ≤ r) && decide (r ≤ 57) || decide (r = 95)
theorem begins_any (r:Int) (w:World):Calls Tryz.prog 67 #[.int .i32 r] w fun e w' => e = .returned (.bool (begB r)) ∧ w = w':=by
 by_cases h1:97 ≤ r <;> by_cases h2:r ≤ 122
 all_goals
  go_enter Tryz.func67,Tryz.ntmps67
  go_wp2
  go_ret
  exact ⟨ret_bool (by unfold begB; simp [h1,h2]),rfl⟩
theorem begins_is {r:Int} {b:Bool} (h:begB r = b) (w:World):Calls Tryz.prog 67 #[.int .i32 r] w fun e w' => e = .returned (.bool b) ∧ w = w':=by
 subst h; exact begins_any r w
theorem goesOn_any (r:Int) (w:World):Calls Tryz.prog 68 #[.int .i32 r] w fun e w' => e = .returned (.bool (goB r)) ∧ w = w':=by
 rcases hb:begB r with _ | _
 all_goals
  have HB:=Lib.hid hb
  clear hb
  by_cases h1:48 ≤ r <;> by_cases h2:r ≤ 57 <;> by_cases h3:r = 95
  all_goals first
   | (exfalso; omega)
   | (try subst h3
      go_enter Tryz.func68,Tryz.ntmps68
      go_wp2_with (go_at_call 67; refine (begins_is HB.out _).mono ?_; rintro e w' ⟨rfl,rfl⟩)
      go_ret
      exact ⟨ret_bool (by unfold goB; rw [HB.out,Bool.eq_iff_iff]; simp; try omega),rfl⟩)
theorem goesOn_is {r:Int} {b:Bool} (h:goB r = b) (w:World):Calls Tryz.prog 68 #[.int .i32 r] w fun e w' => e = .returned (.bool b) ∧ w = w':=by
 subst h; exact goesOn_any r w
theorem get_bang (s:ByteArray) (i:Nat) (h:i < s.size):s.get! i = s[i]:=by
 simp [ByteArray.get!,getElem!_pos,h]; rfl
theorem dec_big (s:ByteArray) (i:Nat) (h:i < s.size) (hb:128 ≤ s[i].toNat):128 ≤ (Utf8.decode s i).1:=by
 unfold Utf8.decode
 simp only [Nat.add_zero,get_bang s i h]
 rw [if_neg (by omega)]
 repeat' split
 all_goals (try simp only [Utf8.runeError]) <;> (try simp only [Bool.and_eq_true,decide_eq_true_eq,ge_iff_le] at *) <;> omega
theorem goB_of (c:UInt8):goB (c.toNat:Int) = later c:=by
 rw [Bool.eq_iff_iff]
 simp [goB,begB,later,letter,UInt8.le_iff_toNat_le,← UInt8.toNat_inj]
 omega
theorem begB_of (c:UInt8):begB (c.toNat:Int) = letter c:=by
 rw [Bool.eq_iff_iff]
 simp [begB,letter,UInt8.le_iff_toNat_le]
 omega
theorem later_small {c:UInt8} (h:later c = true):c.toNat < 128:=by
 simp [later,letter,UInt8.le_iff_toNat_le,← UInt8.toNat_inj] at h
 omega
theorem dec_later (s:ByteArray) (i:Nat) (h:i < s.size):goB ((Utf8.decode s i).1:Int) = later s[i]:=by
 by_cases hb:s[i].toNat < 128
 ·rw [decode_ascii s i h hb]; exact goB_of _
 ·have h1:=dec_big s i h (by omega)
  have h2:later s[i] = false:=by
   rw [← Bool.not_eq_true]; intro hc; exact hb (later_small hc)
  rw [h2,← Bool.not_eq_true]
  simp [goB,begB]
  omega
theorem dec_letter (s:ByteArray) (i:Nat) (h:i < s.size):begB ((Utf8.decode s i).1:Int) = letter s[i]:=by
 by_cases hb:s[i].toNat < 128
 ·rw [decode_ascii s i h hb]; exact begB_of _
 ·have h1:=dec_big s i h (by omega)
  have h2:letter s[i] = false:=by
   rw [← Bool.not_eq_true]; intro hc; exact hb (later_small (letter_later hc))
  rw [h2,← Bool.not_eq_true]
  simp [begB]
  omega
theorem dec_one (s:ByteArray) (i:Nat) (h:i < s.size) (hl:later s[i] = true):(Utf8.decode s i).2 = 1:=by rw [decode_ascii s i h (later_small hl)]
theorem byte_at (s:ByteArray) (i:Nat) (h:i < s.size):s.data.toList[i]? = some s[i]:=by
 rw [List.getElem?_eq_getElem (by simpa using h)]; rfl
theorem str_nil' {s:ByteArray} (h:s.size = 0):s.toList = []:=by
 rw [ByteArray.toList_eq,← List.length_eq_zero_iff]; exact h
theorem str_ne' {s:ByteArray} (h:0 < s.size):s.toList.isEmpty = false:=by
 have e:s.toList.length = s.size:=by rw [ByteArray.toList_eq]; rfl
 cases h':s.toList with
 | nil => rw [h'] at e; simp at e; omega
 | cons a l => rfl
theorem size_list (s:ByteArray):s.data.toList.length = s.size:=rfl
def IsRel (W:World) (s:ByteArray) (wr:World):Prop:=∃ pos,pos ≤ s.size ∧ wr.heap[W.heap.size]? = some (.stringIter s pos) ∧ Below W.heap.size W wr ∧ (s.data.toList.take pos).all later = true ∧ (0 < pos → ∀ c,s.data.toList[0]? = some c → letter c = true)
theorem isRel_next {W wr:World} {s:ByteArray} {pos:Nat} (hp:pos < s.size) (hit:wr.heap[W.heap.size]? = some (.stringIter s pos)) (hb:Below W.heap.size W wr) (ha:(s.data.toList.take pos).all later = true)
 (h0:0 < pos → ∀ c,s.data.toList[0]? = some c → letter c = true) (hl:later s[pos] = true) (hz:pos = 0 → letter s[pos] = true):IsRel W s (wr.iterAt W.heap.size s (pos + 1)):=by
 refine ⟨pos + 1,by omega,iterAt_heap _ _ _ _ _ hit,below_iterAt hb (Nat.le_refl _) _ _,?_,fun _ c hc => ?_⟩
 ·rw [take_next (byte_at s pos hp),List.all_append,ha]; simpa using hl
 ·rcases Nat.eq_zero_or_pos pos with h | h
  ·subst h
   rw [byte_at s 0 hp] at hc
   injection hc with hc
   exact hc ▸ hz rfl
  ·exact h0 h c hc
set_option maxHeartbeats 1600000 in
theorem is_any (s:ByteArray) (w:World) (hs:s.size ≤ 9223372036854775807):Calls Tryz.prog 46 #[.string s] w fun e w' => e = .returned (.bool (isName s.data.toList)) ∧ Below w.heap.size w w':=by
 rcases Nat.eq_zero_or_pos s.size with h0 | h0
 ·have HE:Hid (isName s.data.toList = false):=Lib.hid (isName_size (.inl h0))
  have hnil:=str_nil' h0
  clear h0 hs
  go_enter Tryz.func46,Tryz.ntmps46
  go_wp2
  go_ret
  exact ⟨ret_bool HE.out.symm,Below.refl _ _⟩
 ·have hne:=str_ne' h0
  by_cases h12:12 < s.size
  ·have HE:Hid (isName s.data.toList = false):=Lib.hid (isName_size (.inr h12))
   go_enter Tryz.func46,Tryz.ntmps46
   go_wp2
   go_ret
   exact ⟨ret_bool HE.out.symm,Below.refl _ _⟩
  ·rcases hk:isKw s.data.toList with _ | _
   case true =>
    have HE:Hid (isName s.data.toList = false):=Lib.hid (isName_kw hk)
    have HC:=Lib.hid (hk ▸ keyword_any s w)
    clear hk
    go_enter Tryz.func46,Tryz.ntmps46
    go_wp2_with (go_at_call 66; refine HC.out.mono ?_; rintro e w' ⟨rfl,rfl⟩)
    go_ret
    exact ⟨ret_bool HE.out.symm,Below.refl _ _⟩
   have HC:=Lib.hid (hk ▸ keyword_any s w)
   have HK:=Lib.hid hk
   clear hk
   go_enter Tryz.func46,Tryz.ntmps46
   go_wp2_with (go_at_call 66; refine HC.out.mono ?_; rintro e w' ⟨rfl,rfl⟩)
   go_loopw [] (fun wr => IsRel w s wr) (fun wr => s.size - wr.iterPos w.heap.size)
   case atStart => exact ⟨0,Nat.zero_le _,World.iter_heap w s 0,(Below.refl _ w).alloc (Nat.le_refl _) _,rfl,fun h => absurd h (by omega)⟩
   case round =>
    obtain ⟨pos,hps,hit,hbw,hall,hhead⟩:=hrel
    by_cases hp:pos < s.size
    ·have hnx:∀ ty,(Instr.next (.pointer (some ⟨w.heap.size,0,none⟩)) true ty).run Tryz.prog wr = _:=fun ty => Lib.run_next_any_at wr w.heap.size s pos ty hit hp
     have hgo:=dec_later s pos hp
     have hbe:=dec_letter s pos hp
     have hw1:=dec_one s pos hp
     have hat:=byte_at s pos hp
     have hrel:=isRel_next hp hit hbw hall hhead
     have HM:Hid (s.size - (wr.iterAt w.heap.size s (pos + 1)).iterPos w.heap.size < s.size - wr.iterPos w.heap.size):=Lib.hid (by
      simp only [World.iterPos,iterAt_heap _ _ _ _ _ hit,hit]; omega)
     obtain ⟨c,hc⟩:∃ c,c = s[pos]:=⟨_,rfl⟩
     rw [← hc] at hgo hbe hw1 hat hrel
     clear hc
     obtain ⟨r,hr⟩:∃ r,r = (Utf8.decode s pos).1:=⟨_,rfl⟩
     obtain ⟨wd,hwd⟩:∃ wd,wd = (Utf8.decode s pos).2:=⟨_,rfl⟩
     rw [← hr] at hgo hbe hnx
     rw [← hwd] at hw1 hnx
     clear hr hwd hall hhead
     have HB:=Lib.hid hbw
     have HA:=Lib.hid hat
     clear hat hit hbw
     rcases Nat.eq_zero_or_pos pos with hz | hz
     ·subst hz
      rcases hl:letter c with _ | _
      ·have HE:Hid (isName s.data.toList = false):=Lib.hid (isName_head HA.out hl)
       have HBc:=Lib.hid (begins_is (hbe.trans hl))
       clear hl hbe hgo hw1 hrel HM
       go_wp2_with (go_at_call 67; refine (HBc.out _).mono ?_; rintro e w' ⟨rfl,rfl⟩)
       go_ret
       exact ⟨ret_bool HE.out.symm,below_iterAt HB.out (Nat.le_refl _) _ _⟩
      ·have HBc:=Lib.hid (begins_is (hbe.trans hl))
       have HGc:=Lib.hid (goesOn_is (hgo.trans (letter_later hl)))
       have HR:=Lib.hid (hrel (letter_later hl) (fun _ => hl))
       obtain rfl:wd = 1:=hw1 (letter_later hl)
       clear hl hbe hgo hrel hw1
       go_wp2_with (first | (go_at_call 67; refine (HBc.out _).mono ?_; rintro e w' ⟨rfl,rfl⟩) | (go_at_call 68; refine (HGc.out _).mono ?_; rintro e w' ⟨rfl,rfl⟩))
       go_roundw
       case rel => exact HR.out
       case measure => exact HM.out
     ·have hz':((pos:Int) == 0) = false:=by simp; omega
      rcases hl:later c with _ | _
      ·have HE:Hid (isName s.data.toList = false):=Lib.hid (isName_later HA.out hl)
       have HGc:=Lib.hid (goesOn_is (hgo.trans hl))
       clear hl hbe hgo hw1 hrel HM
       go_wp2_with (go_at_call 68; refine (HGc.out _).mono ?_; rintro e w' ⟨rfl,rfl⟩)
       go_ret
       exact ⟨ret_bool HE.out.symm,below_iterAt HB.out (Nat.le_refl _) _ _⟩
      ·have HGc:=Lib.hid (goesOn_is (hgo.trans hl))
       have HR:=Lib.hid (hrel hl (fun h => absurd h (by omega)))
       obtain rfl:wd = 1:=hw1 hl
       clear hl hbe hgo hrel hw1
       go_wp2_with (go_at_call 68; refine (HGc.out _).mono ?_; rintro e w' ⟨rfl,rfl⟩)
       go_roundw
       case rel => exact HR.out
       case measure => exact HM.out
    ·have hnx:∀ ty,(Instr.next (.pointer (some ⟨w.heap.size,0,none⟩)) true ty).run Tryz.prog wr = _:=fun ty => Lib.run_next_end_at wr w.heap.size s pos ty hit hp
     have hall':s.data.toList.all later = true:=by rw [List.take_of_length_le (by rw [size_list]; omega)] at hall; exact hall
     have HE:Hid (isName s.data.toList = true):=Lib.hid (isName_yes (by rw [size_list]; omega) (by rw [size_list]; omega) HK.out hall' (hhead (by omega)))
     clear hall hall' hhead
     go_wp2
     go_ret
     exact ⟨ret_bool HE.out.symm,hbw⟩
end Go.Proofs.YtejbpleghjgpbaaGreatDoor
namespace Go.Proofs.YtejbpleghjgpbaaGreatDoor
open Go.RowKit NamesSpec Go.Lib
set_option maxRecDepth 100000
theorem letter_iff (c:UInt8):letter c = true ↔ 97 ≤ (c.toNat:Int) ∧ (c.toNat:Int) ≤ 122:=by
 simp [letter,UInt8.le_iff_toNat_le]; omega
theorem later_iff (c:UInt8):later c = true ↔ (97 ≤ (c.toNat:Int) ∧ (c.toNat:Int) ≤ 122) ∨ (48 ≤ (c.toNat:Int) ∧ (c.toNat:Int) ≤ 57) ∨ (c.toNat:Int) = 95:=by
 rw [later,Bool.or_eq_true,Bool.or_eq_true,letter_iff]
 simp [UInt8.le_iff_toNat_le,← UInt8.toNat_inj]; omega
theorem kw_place_is {s:ByteArray} {b:Bool} (h:isKw s.data.toList = b):decide (0 ≤ idxOfS kwS s) = b:=by rw [place_kw,h]
def RIsRel (s:ByteArray) (i:Value):Prop:=∃ k:Nat,k ≤ s.size ∧ i = .int .i64 k ∧ (s.data.toList.take k).all later = true ∧ (0 < k → ∀ c,s.data.toList[0]? = some c → letter c = true)
theorem risRel_next {s:ByteArray} {k:Nat} (hp:k < s.size) (ha:(s.data.toList.take k).all later = true) (h0:0 < k → ∀ c,s.data.toList[0]? = some c → letter c = true) (hl:later s[k] = true) (hz:k = 0 → letter s[k] = true):RIsRel s (.int .i64 (k + 1:Nat)):=by
 refine ⟨k + 1,by omega,rfl,?_,fun _ c hc => ?_⟩
 ·rw [take_next (byte_at s k hp),List.all_append,ha]; simpa using hl
 ·rcases Nat.eq_zero_or_pos k with h | h
  ·subst h
   rw [byte_at s 0 hp] at hc
   injection hc with hc
   exact hc ▸ hz rfl
  ·exact h0 h c hc
set_option maxHeartbeats 1600000 in
theorem ris_any (s:ByteArray) (w:World) (hs:s.size ≤ 9223372036854775807):Calls Tryz.prog 19 #[.string s] w fun e w' => e = .returned (.bool (isName s.data.toList)) ∧ Below w.heap.size w w':=by
 by_cases h0:s.size < 1
 ·have HE:Hid (isName s.data.toList = false):=Lib.hid (isName_size (.inl (by rw [size_list]; omega)))
  go_enter Tryz.func19,Tryz.ntmps19
  go_wp2
  go_ret
  exact ⟨ret_bool HE.out.symm,Below.refl _ _⟩
 by_cases h12:12 < s.size
 ·have HE:Hid (isName s.data.toList = false):=Lib.hid (isName_size (.inr h12))
  go_enter Tryz.func19,Tryz.ntmps19
  go_wp2
  go_ret
  exact ⟨ret_bool HE.out.symm,Below.refl _ _⟩
 rcases hk:isKw s.data.toList with _ | _
 case true =>
  have HE:Hid (isName s.data.toList = false):=Lib.hid (isName_kw hk)
  have hpl:=kw_place_is hk
  clear hk
  go_enter Tryz.func19,Tryz.ntmps19
  go_wp2_with (first
   | (go_at_call 39; refine (keywords_any _).mono ?_; rintro e w' ⟨v,rfl,hrd,hbw⟩)
   | (go_at_call 24; refine (rplace_any _ kwS s _ hrd (by decide)).mono ?_; rintro e w' ⟨rfl,rfl⟩))
  go_ret
  exact ⟨ret_bool HE.out.symm,hbw⟩
 have hpl:=kw_place_is hk
 have HK:=Lib.hid hk
 clear hk
 go_enter Tryz.func19,Tryz.ntmps19
 go_wp2_with (first
  | (go_at_call 39; refine (keywords_any _).mono ?_; rintro e w' ⟨v,rfl,hrd,hbw⟩)
  | (go_at_call 24; refine (rplace_any _ kwS s _ hrd (by decide)).mono ?_; rintro e w' ⟨rfl,rfl⟩))
 clear hrd hpl
 go_loop [3] (fun i => RIsRel s i) (fun i => s.size - (RowKit.intOf i).toNat)
 case atStart => exact ⟨0,Nat.zero_le _,rfl,rfl,fun h => absurd h (by omega)⟩
 case round =>
  obtain ⟨k,hks,rfl,hall,hhead⟩:=hrel
  by_cases hp:k < s.size
  ·have hrel:=risRel_next hp hall hhead
   have hat:=byte_at s k hp
   have hli:=letter_iff s[k]
   have hla:=later_iff s[k]
   have hub:(s[k].toNat:Int) ≤ 255:=by have:=s[k].toNat_lt; omega
   have hlb:0 ≤ (s[k].toNat:Int):=by omega
   by_cases hL:letter s[k] = true
   ·have HR:=Lib.hid (hrel (letter_later hL) (fun _ => hL))
    obtain ⟨g1,g2⟩:=hli.1 hL
    clear hrel hat hli hla hL hall hhead
    go_wp2
    go_round
    case rel => exact HR.out
    case measure => simp [RowKit.intOf]; omega
   ·rcases Nat.eq_zero_or_pos k with hz | hz
    ·subst hz
     have HE:Hid (isName s.data.toList = false):=Lib.hid (isName_head hat (by simpa using hL))
     have g:¬ (97 ≤ (s[0].toNat:Int) ∧ (s[0].toNat:Int) ≤ 122):=fun h => hL (hli.2 h)
     clear hrel hat hli hla hL hall hhead
     by_cases g1:97 ≤ (s[0].toNat:Int)
     ·have g2:122 < (s[0].toNat:Int):=by omega
      clear g
      go_wp2
      go_ret
      exact ⟨ret_bool HE.out.symm,hbw⟩
     ·clear g
      go_wp2
      go_ret
      exact ⟨ret_bool HE.out.symm,hbw⟩
    ·have hz':((k:Int) == 0) = false:=by simp; omega
     have g:¬ (97 ≤ (s[k].toNat:Int) ∧ (s[k].toNat:Int) ≤ 122):=fun h => hL (hli.2 h)
     by_cases hla':later s[k] = true
     ·have HR:=Lib.hid (hrel hla' (fun h => absurd h (by omega)))
      have g3:=hla.1 hla'
      clear hrel hat hli hla hL hall hhead hla'
      have g4:(48 ≤ (s[k].toNat:Int) ∧ (s[k].toNat:Int) ≤ 57) ∨ (s[k].toNat:Int) = 95:=by omega
      clear g3
      rcases g4 with ⟨g5,g6⟩ | g5
      ·have g1:¬ 97 ≤ (s[k].toNat:Int):=by omega
       have g7:((s[k].toNat:Int) != 95) = true:=by simp; omega
       clear g
       go_wp2
       go_round
       case rel => exact HR.out
       case measure => simp [RowKit.intOf]; omega
      ·have g1:¬ 97 ≤ (s[k].toNat:Int):=by omega
       have g7:((s[k].toNat:Int) != 95) = false:=by simp; omega
       clear g g5
       go_wp2
       go_round
       case rel => exact HR.out
       case measure => simp [RowKit.intOf]; omega
     ·have HE:Hid (isName s.data.toList = false):=Lib.hid (isName_later hat (by simpa using hla'))
      have g3:¬ ((48 ≤ (s[k].toNat:Int) ∧ (s[k].toNat:Int) ≤ 57) ∨ (s[k].toNat:Int) = 95):=fun h => hla' (hla.2 (.inr h))
      have g7:((s[k].toNat:Int) != 95) = true:=by simp; omega
      clear hrel hat hli hla hL hall hhead hla'
      by_cases g1:97 ≤ (s[k].toNat:Int)
      ·have g2:122 < (s[k].toNat:Int):=by omega
       have g6:¬ (s[k].toNat:Int) < 48:=by omega
       have g8:57 < (s[k].toNat:Int):=by have:¬ (s[k].toNat:Int) ≤ 122:=fun h => g ⟨g1,h⟩; omega
       clear g g3
       go_wp2
       go_ret
       exact ⟨ret_bool HE.out.symm,hbw⟩
      ·clear g
       by_cases g6:(s[k].toNat:Int) < 48
       ·clear g3
        go_wp2
        go_ret
        exact ⟨ret_bool HE.out.symm,hbw⟩
       ·have g8:57 < (s[k].toNat:Int):=by omega
        clear g3
        go_wp2
        go_ret
        exact ⟨ret_bool HE.out.symm,hbw⟩
  ·have hall':s.data.toList.all later = true:=by rw [List.take_of_length_le (by rw [size_list]; omega)] at hall; exact hall
   have HE:Hid (isName s.data.toList = true):=Lib.hid (isName_yes (by rw [size_list]; omega) (by rw [size_list]; omega) HK.out hall' (hhead (by omega)))
   clear hall hall' hhead
   go_wp2
   go_ret
   exact ⟨ret_bool HE.out.symm,hbw⟩
end Go.Proofs.YtejbpleghjgpbaaGreatDoor
namespace Go.Proofs.YtejbpleghjgpbaaGreatDoor
open Go.RowKit CurSpec NamesSpec
set_option maxRecDepth 100000
end Go.Proofs.YtejbpleghjgpbaaGreatDoor
namespace Go.Proofs.YtejbpleghjgpbaaGreatDoor
open Go.RowKit ValSpec
end Go.Proofs.YtejbpleghjgpbaaGreatDoor
namespace Go.Proofs.YtejbpleghjgpbaaGreatDoor
open Go.RowKit ValSpec
end Go.Proofs.YtejbpleghjgpbaaGreatDoor
namespace Go.Proofs.YtejbpleghjgpbaaGreatDoor
open Go.RowKit CurSpec ValSpec
end Go.Proofs.YtejbpleghjgpbaaGreatDoor
namespace Go.Proofs.YtejbpleghjgpbaaGreatDoor
open Go.RowKit CurSpec NamesSpec ValSpec
set_option maxRecDepth 100000
end Go.Proofs.YtejbpleghjgpbaaGreatDoor
namespace Go.Proofs.YtejbpleghjgpbaaGreatDoor
open Go.RowKit TermSpec
set_option maxRecDepth 100000
set_option maxHeartbeats 1600000 in
theorem arity_any (o:Int) (w:World):Calls Tryz.prog 102 #[.int .i64 o] w (SameI w (ar o)):=by
 go_enter Tryz.func102,Tryz.ntmps102
 go_wp2_with fail
 all_goals
  go_ret
  exact ⟨ret_int (by simp_all [ar]),rfl⟩
def RetTwo (W:World) (a b:Int) (e:Ending) (w':World):Prop:=e = .returned (.tuple #[.int .i64 a,.int .i64 b]) ∧ W = w'
set_option maxHeartbeats 1600000 in
theorem types_any (o:Int) (w:World):Calls Tryz.prog 98 #[.int .i64 o] w (RetTwo w (ownT o) (askT o)):=by
 go_enter Tryz.func98,Tryz.ntmps98
 go_wp2_with fail
 all_goals
  go_ret2
  exact ⟨by simp_all [ownT,askT],rfl⟩
theorem rarity_out (o:Int) (h:o < 1 ∨ 20 < o) (w:World):Calls Tryz.prog 88 #[.int .i64 o] w (RetI w (ar o)):=by
 have HE:=Lib.hid (ar_out h)
 by_cases h1:o < 1
 ·clear h
  go_enter Tryz.func88,Tryz.ntmps88
  go_wp2_with fail
  go_ret
  exact ⟨ret_int HE.out.symm,Below.refl _ _⟩
 ·have h2:20 < o:=by omega
  clear h
  go_enter Tryz.func88,Tryz.ntmps88
  go_wp2_with fail
  go_ret
  exact ⟨ret_int HE.out.symm,Below.refl _ _⟩
theorem arl_at (n:Nat) (h1:1 ≤ n) (h:n < 21):([Value.int .i64 0,Value.int .i64 0,Value.int .i64 0,Value.int .i64 1,Value.int .i64 2,Value.int .i64 2,Value.int .i64 2,Value.int .i64 2,Value.int .i64 2,Value.int .i64 0,Value.int .i64 0,Value.int .i64 0,Value.int .i64 1,Value.int .i64 2,Value.int .i64 2,Value.int .i64 2,Value.int .i64 2,Value.int .i64 2,Value.int .i64 2,Value.int .i64 2,Value.int .i64 2])[n] = .int .i64 (ar n):=by
 have:n = 1 ∨ n = 2 ∨ n = 3 ∨ n = 4 ∨ n = 5 ∨ n = 6 ∨ n = 7 ∨ n = 8 ∨ n = 9 ∨ n = 10 ∨ n = 11 ∨ n = 12 ∨ n = 13 ∨ n = 14 ∨ n = 15 ∨ n = 16 ∨ n = 17 ∨ n = 18 ∨ n = 19 ∨ n = 20:=by omega
 rcases this with rfl | rfl | rfl | rfl | rfl | rfl | rfl | rfl | rfl | rfl | rfl | rfl | rfl | rfl | rfl | rfl | rfl | rfl | rfl | rfl <;> rfl
set_option maxHeartbeats 800000 in
theorem rarity_in (n:Nat) (h1:1 ≤ n) (h:n ≤ 20) (w:World):Calls Tryz.prog 88 #[.int .i64 n] w (RetI w (ar n)):=by
 have h21:n < 21:=by omega
 have h21':(n:Int) < 21:=by omega
 have h20:¬ 20 < (n:Int):=by omega
 have HE:=Lib.hid (arl_at n h1 h21)
 go_enter Tryz.func88,Tryz.ntmps88
 go_wp2_with fail
 go_ret
 exact ⟨congrArg Ending.returned HE.out,(Below.refl _ _).alloc (Nat.le_refl _) _⟩
theorem rarity_any (o:Int) (w:World):Calls Tryz.prog 88 #[.int .i64 o] w (RetI w (ar o)):=by
 by_cases h:o < 1 ∨ 20 < o
 ·exact rarity_out o h w
 ·obtain ⟨n,rfl⟩:=Int.eq_ofNat_of_zero_le (show 0 ≤ o by omega)
  exact rarity_in n (by omega) (by omega) w
end Go.Proofs.YtejbpleghjgpbaaGreatDoor