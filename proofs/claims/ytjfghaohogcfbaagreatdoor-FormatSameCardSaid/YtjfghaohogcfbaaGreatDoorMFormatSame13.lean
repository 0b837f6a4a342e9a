/- ScanMark, joined. -/
import Derived.Test.YtjfghaohogcfbaaGreatDoorMFormatSame12
namespace Go.Proofs.YtjfghaohogcfbaaGreatDoor
open Go.RowKit ScanSpec
set_option maxRecDepth 100000
def pairsV:Array Value:=#[.string ⟨#[45,62]⟩,.string ⟨#[58,61]⟩,.string ⟨#[60,61]⟩,.string ⟨#[62,61]⟩,.string ⟨#[33,61]⟩,.string ⟨#[61,61]⟩,.string ⟨#[46,46]⟩]
def PairsIn (w:World):Prop:=∃ T fr,w.heap[0]? = some (.cells pairsV T fr)
theorem PairsIn.pos {w:World} (h:PairsIn w):0 < w.heap.size:=by
 obtain ⟨T,fr,h⟩:=h
 exact (Array.getElem?_eq_some_iff.1 h).1
theorem PairsIn.keep {w w':World} (h:PairsIn w) (hb:Below w.heap.size w w'):PairsIn w':=by
 have hp:=h.pos
 obtain ⟨T,fr,h⟩:=h
 exact ⟨T,fr,(hb.block _ hp).trans h⟩
theorem PairsIn.alloc {w:World} (h:PairsIn w) (o:Obj):PairsIn (w.alloc o):=h.keep ((Below.refl _ _).alloc (Nat.le_refl _) _)
theorem PairsIn.cell {w:World} (h:PairsIn w) {i:Nat} {v:Value} (hi:pairsV[i]? = some v):w.cell? ⟨0,i,none⟩ = some v:=by
 obtain ⟨T,fr,h⟩:=h
 simp [World.cell?,h,hi]
theorem byte_u8 (c:UInt8):((c.toNat:Int)).toNat.toUInt8 = c:=by simp
def PairRel (d:List UInt8) (v:Value):Prop:=∃ j:Int,0 ≤ j ∧ j ≤ 7 ∧ v = .int .i64 j ∧ ∀ y ∈ marks.take j.toNat,y.isPrefixOf d = false
def MarkPost (d:List UInt8) (w:World) (e:Ending) (w':World):Prop :=
 ∃ kd ln er:Int,(kd,ln,er) = (if markLen d = 0 then (0,0,2) else (3,(markLen d:Int),0)) ∧ e = .returned (.tuple #[.int .i64 kd,.int .i64 ln,.int .i64 er]) ∧ w = w'
theorem pair_next {d:List UInt8} {n:Nat} {m:List UInt8} (h:∀ y ∈ marks.take n,y.isPrefixOf d = false) (hm:marks[n]? = some m) (hf:m.isPrefixOf d = false):∀ y ∈ marks.take (n + 1),y.isPrefixOf d = false:=by
 intro y hy
 rw [take_next hm,List.mem_append,List.mem_singleton] at hy
 rcases hy with hy | rfl
 ·exact h y hy
 ·exact hf
theorem pair_hit {d:List UInt8} {w:World} {n:Nat} {m:List UInt8} (h:∀ y ∈ marks.take n,y.isPrefixOf d = false) (hm:marks[n]? = some m) (hf:m.isPrefixOf d = true) (hl:m.length = 2) :
 MarkPost d w (.returned (.tuple #[.int .i64 3,.int .i64 2,.int .i64 0])) w:=by
 have:=mark_hit hm h hf
 refine ⟨_,_,_,?_,rfl,rfl⟩
 rw [this,hl]; rfl
set_option maxHeartbeats 4000000 in
theorem mark_any (s:ByteArray) (w:World) (hp:PairsIn w) (h0:0 < s.size) (_hs:s.size ≤ 9223372036854775807) :
 Calls Tryz.prog 132 #[.string s] w (MarkPost s.data.toList w):=by
 have c0:w.cell? ⟨0,0,none⟩ = some (.string ⟨#[45,62]⟩):=hp.cell (i:=0) rfl
 have c1:w.cell? ⟨0,1,none⟩ = some (.string ⟨#[58,61]⟩):=hp.cell (i:=1) rfl
 have c2:w.cell? ⟨0,2,none⟩ = some (.string ⟨#[60,61]⟩):=hp.cell (i:=2) rfl
 have c3:w.cell? ⟨0,3,none⟩ = some (.string ⟨#[62,61]⟩):=hp.cell (i:=3) rfl
 have c4:w.cell? ⟨0,4,none⟩ = some (.string ⟨#[33,61]⟩):=hp.cell (i:=4) rfl
 have c5:w.cell? ⟨0,5,none⟩ = some (.string ⟨#[61,61]⟩):=hp.cell (i:=5) rfl
 have c6:w.cell? ⟨0,6,none⟩ = some (.string ⟨#[46,46]⟩):=hp.cell (i:=6) rfl
 have hp0:=hp.pos
 go_enter Tryz.func132,Tryz.ntmps132
 go_wp2_with fail
 clear c0 c1 c2 c3 c4 c5 c6
 go_loop [8] (fun v => PairRel s.data.toList v) (fun v => 7 - (intOf v).toNat)
 case atStart => exact ⟨0,by omega,by omega,rfl,by simp⟩
 case round =>
  obtain ⟨j,hj0,hj7,rfl,hno⟩:=hrel
  have HN:=Lib.hid hno
  clear hno
  rcases (show j = 0 ∨ j = 1 ∨ j = 2 ∨ j = 3 ∨ j = 4 ∨ j = 5 ∨ j = 6 ∨ j = 7 by omega) with rfl | rfl | rfl | rfl | rfl | rfl | rfl | rfl
  ·have hx:∀ w:World,(Instr.index 204 (.agg #[.string ⟨#[45,62]⟩,.string ⟨#[58,61]⟩,.string ⟨#[60,61]⟩,.string ⟨#[62,61]⟩,.string ⟨#[33,61]⟩,.string ⟨#[61,61]⟩,.string ⟨#[46,46]⟩]) (.int .i64 0)).run Tryz.prog w = .ok (.string ⟨#[45,62]⟩) w:=fun _ => by kernel_rfl
   have HC:=Lib.hid (fun w => Tryz.strings_HasPrefix s ⟨#[45,62]⟩ w)
   rcases hf:Lib.hasPrefix s.data.toList (⟨#[45,62]⟩:ByteArray).data.toList with _ | _
   ·have HR:Hid (PairRel s.data.toList (.int .i64 1)):=Lib.hid ⟨1,by omega,by omega,rfl,pair_next HN.out (m:=[45,62]) rfl hf⟩
    rw [hf] at HC
    clear hf
    go_wp2_with (go_at_call 148; refine (HC.out _).mono ?_; rintro e w' ⟨rfl,rfl⟩)
    go_round
    case rel => exact HR.out
    case measure => decide
   ·have HR:Hid (MarkPost s.data.toList w (.returned (.tuple #[.int .i64 3,.int .i64 2,.int .i64 0])) w):=Lib.hid (pair_hit HN.out (m:=[45,62]) rfl hf rfl)
    rw [hf] at HC
    clear hf
    go_wp2_with (go_at_call 148; refine (HC.out _).mono ?_; rintro e w' ⟨rfl,rfl⟩)
    go_ret3
    exact HR.out
  ·have hx:∀ w:World,(Instr.index 204 (.agg #[.string ⟨#[45,62]⟩,.string ⟨#[58,61]⟩,.string ⟨#[60,61]⟩,.string ⟨#[62,61]⟩,.string ⟨#[33,61]⟩,.string ⟨#[61,61]⟩,.string ⟨#[46,46]⟩]) (.int .i64 1)).run Tryz.prog w = .ok (.string ⟨#[58,61]⟩) w:=fun _ => by kernel_rfl
   have HC:=Lib.hid (fun w => Tryz.strings_HasPrefix s ⟨#[58,61]⟩ w)
   rcases hf:Lib.hasPrefix s.data.toList (⟨#[58,61]⟩:ByteArray).data.toList with _ | _
   ·have HR:Hid (PairRel s.data.toList (.int .i64 2)):=Lib.hid ⟨2,by omega,by omega,rfl,pair_next HN.out (m:=[58,61]) rfl hf⟩
    rw [hf] at HC
    clear hf
    go_wp2_with (go_at_call 148; refine (HC.out _).mono ?_; rintro e w' ⟨rfl,rfl⟩)
    go_round
    case rel => exact HR.out
    case measure => decide
   ·have HR:Hid (MarkPost s.data.toList w (.returned (.tuple #[.int .i64 3,.int .i64 2,.int .i64 0])) w):=Lib.hid (pair_hit HN.out (m:=[58,61]) rfl hf rfl)
    rw [hf] at HC
    clear hf
    go_wp2_with (go_at_call 148; refine (HC.out _).mono ?_; rintro e w' ⟨rfl,rfl⟩)
    go_ret3
    exact HR.out
  ·have hx:∀ w:World,(Instr.index 204 (.agg #[.string ⟨#[45,62]⟩,.string ⟨#[58,61]⟩,.string ⟨#[60,61]⟩,.string ⟨#[62,61]⟩,.string ⟨#[33,61]⟩,.string ⟨#[61,61]⟩,.string ⟨#[46,46]⟩]) (.int .i64 2)).run Tryz.prog w = .ok (.string ⟨#[60,61]⟩) w:=fun _ => by kernel_rfl
   have HC:=Lib.hid (fun w => Tryz.strings_HasPrefix s ⟨#[60,61]⟩ w)
   rcases hf:Lib.hasPrefix s.data.toList (⟨#[60,61]⟩:ByteArray).data.toList with _ | _
   ·have HR:Hid (PairRel s.data.toList (.int .i64 3)):=Lib.hid ⟨3,by omega,by omega,rfl,pair_next HN.out (m:=[60,61]) rfl hf⟩
    rw [hf] at HC
    clear hf
    go_wp2_with (go_at_call 148; refine (HC.out _).mono ?_; rintro e w' ⟨rfl,rfl⟩)
    go_round
    case rel => exact HR.out
    case measure => decide
   ·have HR:Hid (MarkPost s.data.toList w (.returned (.tuple #[.int .i64 3,.int .i64 2,.int .i64 0])) w):=Lib.hid (pair_hit HN.out (m:=[60,61]) rfl hf rfl)
    rw [hf] at HC
    clear hf
    go_wp2_with (go_at_call 148; refine (HC.out _).mono ?_; rintro e w' ⟨rfl,rfl⟩)
    go_ret3
    exact HR.out
  ·have hx:∀ w:World,(Instr.index 204 (.agg #[.string ⟨#[45,62]⟩,.string ⟨#[58,61]⟩,.string ⟨#[60,61]⟩,.string ⟨#[62,61]⟩,.string ⟨#[33,61]⟩,.string ⟨#[61,61]⟩,.string ⟨#[46,46]⟩]) (.int .i64 3)).run Tryz.prog w = .ok (.string ⟨#[62,61]⟩) w:=fun _ => by kernel_rfl
   have HC:=Lib.hid (fun w => Tryz.strings_HasPrefix s ⟨#[62,61]⟩ w)
   rcases hf:Lib.hasPrefix s.data.toList (⟨#[62,61]⟩:ByteArray).data.toList with _ | _
   ·have HR:Hid (PairRel s.data.toList (.int .i64 4)):=Lib.hid ⟨4,by omega,by omega,rfl,pair_next HN.out (m:=[62,61]) rfl hf⟩
    rw [hf] at HC
    clear hf
    go_wp2_with (go_at_call 148; refine (HC.out _).mono ?_; rintro e w' ⟨rfl,rfl⟩)
    go_round
    case rel => exact HR.out
    case measure => decide
   ·have HR:Hid (MarkPost s.data.toList w (.returned (.tuple #[.int .i64 3,.int .i64 2,.int .i64 0])) w):=Lib.hid (pair_hit HN.out (m:=[62,61]) rfl hf rfl)
    rw [hf] at HC
    clear hf
    go_wp2_with (go_at_call 148; refine (HC.out _).mono ?_; rintro e w' ⟨rfl,rfl⟩)
    go_ret3
    exact HR.out
  ·have hx:∀ w:World,(Instr.index 204 (.agg #[.string ⟨#[45,62]⟩,.string ⟨#[58,61]⟩,.string ⟨#[60,61]⟩,.string ⟨#[62,61]⟩,.string ⟨#[33,61]⟩,.string ⟨#[61,61]⟩,.string ⟨#[46,46]⟩]) (.int .i64 4)).run Tryz.prog w = .ok (.string ⟨#[33,61]⟩) w:=fun _ => by kernel_rfl
   have HC:=Lib.hid (fun w => Tryz.strings_HasPrefix s ⟨#[33,61]⟩ w)
   rcases hf:Lib.hasPrefix s.data.toList (⟨#[33,61]⟩:ByteArray).data.toList with _ | _
   ·have HR:Hid (PairRel s.data.toList (.int .i64 5)):=Lib.hid ⟨5,by omega,by omega,rfl,pair_next HN.out (m:=[33,61]) rfl hf⟩
    rw [hf] at HC
    clear hf
    go_wp2_with (go_at_call 148; refine (HC.out _).mono ?_; rintro e w' ⟨rfl,rfl⟩)
    go_round
    case rel => exact HR.out
    case measure => decide
   ·have HR:Hid (MarkPost s.data.toList w (.returned (.tuple #[.int .i64 3,.int .i64 2,.int .i64 0])) w):=Lib.hid (pair_hit HN.out (m:=[33,61]) rfl hf rfl)
    rw [hf] at HC
    clear hf
    go_wp2_with (go_at_call 148; refine (HC.out _).mono ?_; rintro e w' ⟨rfl,rfl⟩)
    go_ret3
    exact HR.out
  ·have hx:∀ w:World,(Instr.index 204 (.agg #[.string ⟨#[45,62]⟩,.string ⟨#[58,61]⟩,.string ⟨#[60,61]⟩,.string ⟨#[62,61]⟩,.string ⟨#[33,61]⟩,.string ⟨#[61,61]⟩,.string ⟨#[46,46]⟩]) (.int .i64 5)).run Tryz.prog w = .ok (.string ⟨#[61,61]⟩) w:=fun _ => by kernel_rfl
   have HC:=Lib.hid (fun w => Tryz.strings_HasPrefix s ⟨#[61,61]⟩ w)
   rcases hf:Lib.hasPrefix s.data.toList (⟨#[61,61]⟩:ByteArray).data.toList with _ | _
   ·have HR:Hid (PairRel s.data.toList (.int .i64 6)):=Lib.hid ⟨6,by omega,by omega,rfl,pair_next HN.out (m:=[61,61]) rfl hf⟩
    rw [hf] at HC
    clear hf
    go_wp2_with (go_at_call 148; refine (HC.out _).mono ?_; rintro e w' ⟨rfl,rfl⟩)
    go_round
    case rel => exact HR.out
    case measure => decide
   ·have HR:Hid (MarkPost s.data.toList w (.returned (.tuple #[.int .i64 3,.int .i64 2,.int .i64 0])) w):=Lib.hid (pair_hit HN.out (m:=[61,61]) rfl hf rfl)
    rw [hf] at HC
    clear hf
    go_wp2_with (go_at_call 148; refine (HC.out _).mono ?_; rintro e w' ⟨rfl,rfl⟩)
    go_ret3
    exact HR.out
  ·have hx:∀ w:World,(Instr.index 204 (.agg #[.string ⟨#[45,62]⟩,.string ⟨#[58,61]⟩,.string ⟨#[60,61]⟩,.string ⟨#[62,61]⟩,.string ⟨#[33,61]⟩,.string ⟨#[61,61]⟩,.string ⟨#[46,46]⟩]) (.int .i64 6)).run Tryz.prog w = .ok (.string ⟨#[46,46]⟩) w:=fun _ => by kernel_rfl
   have HC:=Lib.hid (fun w => Tryz.strings_HasPrefix s ⟨#[46,46]⟩ w)
   rcases hf:Lib.hasPrefix s.data.toList (⟨#[46,46]⟩:ByteArray).data.toList with _ | _
   ·have HR:Hid (PairRel s.data.toList (.int .i64 7)):=Lib.hid ⟨7,by omega,by omega,rfl,pair_next HN.out (m:=[46,46]) rfl hf⟩
    rw [hf] at HC
    clear hf
    go_wp2_with (go_at_call 148; refine (HC.out _).mono ?_; rintro e w' ⟨rfl,rfl⟩)
    go_round
    case rel => exact HR.out
    case measure => decide
   ·have HR:Hid (MarkPost s.data.toList w (.returned (.tuple #[.int .i64 3,.int .i64 2,.int .i64 0])) w):=Lib.hid (pair_hit HN.out (m:=[46,46]) rfl hf rfl)
    rw [hf] at HC
    clear hf
    go_wp2_with (go_at_call 148; refine (HC.out _).mono ?_; rintro e w' ⟨rfl,rfl⟩)
    go_ret3
    exact HR.out
  ·have HC:=Lib.hid (fun w => Tryz.strings_IndexByte singlesS (s[0].toNat:Int) w)
   have hl:s.data.toList = s[0] :: s.data.toList.drop 1:=by
    have:=drop_next (byte_at' s 0 h0)
    simpa using this
   have hm:markLen s.data.toList = if (0:Int) ≤ Lib.indexByte singlesS.data.toList (s[0].toNat:Int).toNat.toUInt8 then 1 else 0:=by
    have h7:∀ y ∈ marks.take 7,y.isPrefixOf s.data.toList = false:=HN.out
    rw [hl] at h7 ⊢
    rw [markLen_single h7,byte_u8]; rfl
   have HM:=Lib.hid hm
   clear hm hl
   obtain ⟨x,hx⟩:∃ x,x = Lib.indexByte singlesS.data.toList (s[0].toNat:Int).toNat.toUInt8:=⟨_,rfl⟩
   rw [← hx] at HC HM
   clear hx
   by_cases hge:0 ≤ x
   ·have HR:Hid (MarkPost s.data.toList w (.returned (.tuple #[.int .i64 3,.int .i64 1,.int .i64 0])) w):=Lib.hid ⟨3,1,0,by rw [HM.out,if_pos hge]; rfl,rfl,rfl⟩
    go_wp2_with (go_at_call 162; (with_reducible refine (HC.out _).mono ?_); rintro e w' ⟨rfl,rfl⟩)
    go_ret3
    exact HR.out
   ·have HR:Hid (MarkPost s.data.toList w (.returned (.tuple #[.int .i64 0,.int .i64 0,.int .i64 2])) w):=Lib.hid ⟨0,0,2,by rw [HM.out,if_neg hge]; rfl,rfl,rfl⟩
    have hlt:x < 0:=by omega
    clear hge
    go_wp2_with (go_at_call 162; (with_reducible refine (HC.out _).mono ?_); rintro e w' ⟨rfl,rfl⟩)
    go_ret3
    exact HR.out
def FirstPost (d:List UInt8) (w:World) (e:Ending) (w':World):Prop :=
 ∃ kd er:Int,∃ ln:Nat,(kd,ln,er) = ScanSpec.one d ∧ e = .returned (.tuple #[.int .i64 kd,.int .i64 ln,.int .i64 er]) ∧ w = w'
theorem name_any (s:ByteArray) (w:World) (h1:cls s.data.toList 0 = 1) (hs:s.size ≤ 9223372036854775807):Calls Tryz.prog 129 #[.string s] w (FirstPost s.data.toList w):=by
 have HO:=Lib.hid (one_name (l:=s.data.toList) (i:=0) h1)
 rw [List.drop_zero] at HO
 have HC:=Lib.hid (fun w => run_word s w hs)
 have hrl:=run_le isWord s.data.toList
 rw [size_list'] at hrl
 obtain ⟨n,hn⟩:∃ n,n = run isWord s.data.toList:=⟨_,rfl⟩
 rw [← hn] at HO HC hrl
 clear hn h1
 by_cases hb:12 < n
 ·have HR:Hid (FirstPost s.data.toList w (.returned (.tuple #[.int .i64 0,.int .i64 0,.int .i64 5])) w):=Lib.hid ⟨0,5,0,(HO.out.trans (if_pos hb)).symm,rfl,rfl⟩
  have hbI:12 < (n:Int):=by omega
  go_enter Tryz.func129,Tryz.ntmps129
  go_wp2_with (go_at_call 163; (with_reducible refine (HC.out _).mono ?_); rintro e w' ⟨rfl,rfl⟩)
  go_ret3
  exact HR.out
 ·have HR:Hid (FirstPost s.data.toList w (.returned (.tuple #[.int .i64 1,.int .i64 n,.int .i64 0])) w):=Lib.hid ⟨1,0,n,(HO.out.trans (if_neg hb)).symm,rfl,rfl⟩
  have hbI:(n:Int) ≤ 12:=by omega
  go_enter Tryz.func129,Tryz.ntmps129
  go_wp2_with (go_at_call 163; (with_reducible refine (HC.out _).mono ?_); rintro e w' ⟨rfl,rfl⟩)
  go_ret3
  exact HR.out
set_option maxHeartbeats 1000000 in
theorem number_any (s:ByteArray) (w:World) (h1:cls s.data.toList 0 = 2) (hs:s.size ≤ 9223372036854775807):Calls Tryz.prog 131 #[.string s] w (FirstPost s.data.toList w):=by
 have HO:=Lib.hid (one_num (l:=s.data.toList) (i:=0) h1)
 rw [List.drop_zero,Nat.zero_add] at HO
 have HC:=Lib.hid (fun w => run_num s w hs)
 have hrl:=run_le isNum s.data.toList
 rw [size_list'] at hrl
 have HT:=Lib.hid (num_then (l:=s.data.toList))
 obtain ⟨n,hn⟩:∃ n,n = run isNum s.data.toList:=⟨_,rfl⟩
 rw [← hn] at HO HC hrl HT
 clear hn h1
 have HE:∀ hw:¬ (cls s.data.toList n = 1 ∨ cls s.data.toList n = 3),Hid (ScanSpec.one s.data.toList = if 9 < n then (0,0,5) else (2,n,0)):=fun hw => Lib.hid (HO.out.trans (if_neg hw))
 by_cases hlt:n < s.size
 ·have hb:=byte_at' s n hlt
  have HI:=Lib.hid (fun w => inName_any (s[n].toNat:Int) w)
  rcases hw:isWord s[n] with _ | _
  ·have HE':=HE (fun h => by
    obtain ⟨c,hc,hc'⟩:=HT.out.1 h
    rw [hb] at hc; cases hc
    rw [hw] at hc'; cases hc')
   rw [word_eq,hw] at HI
   clear hw hb HE
   by_cases h9:9 < n
   ·have HR:Hid (FirstPost s.data.toList w (.returned (.tuple #[.int .i64 0,.int .i64 0,.int .i64 5])) w):=Lib.hid ⟨0,5,0,(HE'.out.trans (if_pos h9)).symm,rfl,rfl⟩
    have hbI:9 < (n:Int):=by omega
    go_enter Tryz.func131,Tryz.ntmps131
    go_wp2_with (first | (go_at_call 163; (with_reducible refine (HC.out _).mono ?_); rintro e w' ⟨rfl,rfl⟩) | (go_at_call 164; (with_reducible refine (HI.out _).mono ?_); rintro e w' ⟨rfl,rfl⟩))
    go_ret3
    exact HR.out
   ·have HR:Hid (FirstPost s.data.toList w (.returned (.tuple #[.int .i64 2,.int .i64 n,.int .i64 0])) w):=Lib.hid ⟨2,0,n,(HE'.out.trans (if_neg h9)).symm,rfl,rfl⟩
    have hbI:(n:Int) ≤ 9:=by omega
    go_enter Tryz.func131,Tryz.ntmps131
    go_wp2_with (first | (go_at_call 163; (with_reducible refine (HC.out _).mono ?_); rintro e w' ⟨rfl,rfl⟩) | (go_at_call 164; (with_reducible refine (HI.out _).mono ?_); rintro e w' ⟨rfl,rfl⟩))
    go_ret3
    exact HR.out
  ·have HR:Hid (FirstPost s.data.toList w (.returned (.tuple #[.int .i64 0,.int .i64 0,.int .i64 2])) w):=Lib.hid ⟨0,2,0,(HO.out.trans (if_pos (HT.out.2 ⟨_,hb,hw⟩))).symm,rfl,rfl⟩
   rw [word_eq,hw] at HI
   clear hw hb HE
   go_enter Tryz.func131,Tryz.ntmps131
   go_wp2_with (first | (go_at_call 163; (with_reducible refine (HC.out _).mono ?_); rintro e w' ⟨rfl,rfl⟩) | (go_at_call 164; (with_reducible refine (HI.out _).mono ?_); rintro e w' ⟨rfl,rfl⟩))
   go_ret3
   exact HR.out
 ·have HE':=HE (fun h => by
   obtain ⟨c,hc,_⟩:=HT.out.1 h
   have:=get_lt hc
   rw [size_list'] at this
   omega)
  have hd:decide (n < s.size) = false:=decide_eq_false hlt
  clear HE
  by_cases h9:9 < n
  ·have HR:Hid (FirstPost s.data.toList w (.returned (.tuple #[.int .i64 0,.int .i64 0,.int .i64 5])) w):=Lib.hid ⟨0,5,0,(HE'.out.trans (if_pos h9)).symm,rfl,rfl⟩
   have hbI:9 < (n:Int):=by omega
   go_enter Tryz.func131,Tryz.ntmps131
   go_wp2_with (go_at_call 163; (with_reducible refine (HC.out _).mono ?_); rintro e w' ⟨rfl,rfl⟩)
   go_ret3
   exact HR.out
  ·have HR:Hid (FirstPost s.data.toList w (.returned (.tuple #[.int .i64 2,.int .i64 n,.int .i64 0])) w):=Lib.hid ⟨2,0,n,(HE'.out.trans (if_neg h9)).symm,rfl,rfl⟩
   have hbI:(n:Int) ≤ 9:=by omega
   go_enter Tryz.func131,Tryz.ntmps131
   go_wp2_with (go_at_call 163; (with_reducible refine (HC.out _).mono ?_); rintro e w' ⟨rfl,rfl⟩)
   go_ret3
   exact HR.out
theorem first_end (w:World):Calls Tryz.prog 85 #[.string ⟨#[]⟩] w fun e w' => e = .returned (.tuple #[.int .i64 0,.int .i64 0,.int .i64 0]) ∧ w = w':=by
 go_enter Tryz.func85,Tryz.ntmps85
 go_wp2_with fail
 go_ret3
 exact ⟨rfl,rfl⟩
set_option maxHeartbeats 1000000 in
theorem first_any (s:ByteArray) (w:World) (hp:PairsIn w) (h0:0 < s.size) (hs:s.size ≤ 9223372036854775807):Calls Tryz.prog 85 #[.string s] w (FirstPost s.data.toList w):=by
 have hb:=byte_at' s 0 h0
 have hne:=txt_ne h0
 have hne1:(s.toList == []) = false:=by cases h:s.toList with | nil => rw [h] at hne; cases hne | cons a l => rfl
 have hne2:¬ s.toList = []:=by intro h; rw [h] at hne; cases hne
 have HL:=Lib.hid (fun w => letter_any (s[0].toNat:Int) w)
 have HD:=Lib.hid (fun w => digit_any (s[0].toNat:Int) w)
 rw [low_cls hb] at HL
 rw [dig_cls hb] at HD
 clear hb
 by_cases h1:cls s.data.toList 0 = 1
 ·have HC:=Lib.hid (fun w => name_any s w h1 hs)
  rw [decide_eq_true h1] at HL
  clear h1 HD
  go_enter Tryz.func85,Tryz.ntmps85
  go_wp2_with (go_at_call 128; (with_reducible refine (HL.out _).mono ?_); rintro e w' ⟨rfl,rfl⟩)
  refine (HC.out _).mono ?_
  intro e w' h
  obtain ⟨kd,er,ln,hO,rfl,rfl⟩:=h
  have HR:Hid (FirstPost s.data.toList w (.returned (.tuple #[.int .i64 kd,.int .i64 ln,.int .i64 er])) w):=Lib.hid ⟨kd,er,ln,hO,rfl,rfl⟩
  clear hO
  go_wp2_with fail
  go_ret3
  exact HR.out
 ·rw [decide_eq_false h1] at HL
  by_cases h2:cls s.data.toList 0 = 2
  ·have HC:=Lib.hid (fun w => number_any s w h2 hs)
   rw [decide_eq_true h2] at HD
   clear h1 h2
   go_enter Tryz.func85,Tryz.ntmps85
   go_wp2_with (first | (go_at_call 128; (with_reducible refine (HL.out _).mono ?_); rintro e w' ⟨rfl,rfl⟩) | (go_at_call 130; (with_reducible refine (HD.out _).mono ?_); rintro e w' ⟨rfl,rfl⟩))
   refine (HC.out _).mono ?_
   intro e w' h
   obtain ⟨kd,er,ln,hO,rfl,rfl⟩:=h
   have HR:Hid (FirstPost s.data.toList w (.returned (.tuple #[.int .i64 kd,.int .i64 ln,.int .i64 er])) w):=Lib.hid ⟨kd,er,ln,hO,rfl,rfl⟩
   clear hO
   go_wp2_with fail
   go_ret3
   exact HR.out
  ·have HC:=Lib.hid (fun w hp => mark_any s w hp h0 hs)
   have HO:=Lib.hid (one_mark (l:=s.data.toList) (i:=0) h1 h2)
   rw [List.drop_zero] at HO
   rw [decide_eq_false h2] at HD
   clear h1 h2
   go_enter Tryz.func85,Tryz.ntmps85
   go_wp2_with (first | (go_at_call 128; (with_reducible refine (HL.out _).mono ?_); rintro e w' ⟨rfl,rfl⟩) | (go_at_call 130; (with_reducible refine (HD.out _).mono ?_); rintro e w' ⟨rfl,rfl⟩))
   refine (HC.out _ hp).mono ?_
   intro e w' h
   obtain ⟨kd,ln,er,hO,rfl,rfl⟩:=h
   have HR:Hid (FirstPost s.data.toList w (.returned (.tuple #[.int .i64 kd,.int .i64 ln,.int .i64 er])) w):=Lib.hid (by
    have h:=HO.out
    by_cases hz:markLen s.data.toList = 0
    ·rw [if_pos hz] at hO h
     cases hO
     exact ⟨0,2,0,h.symm,rfl,rfl⟩
    ·rw [if_neg hz] at hO h
     cases hO
     exact ⟨3,0,_,h.symm,rfl,rfl⟩)
   clear hO
   go_wp2_with fail
   go_ret3
   exact HR.out
theorem remark_any (s:ByteArray) (w:World) (_hs:s.size ≤ 9223372036854775807):Calls Tryz.prog 127 #[.string s] w fun e w' => e = .returned (.int .i64 (run notNl s.data.toList)) ∧ w = w':=by
 have HC:=Lib.hid (fun w => Tryz.strings_IndexByte s 10 w)
 have HL:=Lib.hid (remark_len s.data.toList)
 have e10:(10:Int).toNat.toUInt8 = 10:=rfl
 rw [e10] at HC
 obtain ⟨x,hx⟩:∃ x,x = Lib.indexByte s.data.toList 10:=⟨_,rfl⟩
 rw [← hx] at HC HL
 clear hx e10
 by_cases hge:0 ≤ x
 ·go_enter Tryz.func127,Tryz.ntmps127
  go_wp2_with (go_at_call 162; (with_reducible refine (HC.out _).mono ?_); rintro e w' ⟨rfl,rfl⟩)
  go_ret
  exact ⟨ret_int (by rw [← HL.out,if_pos hge]),rfl⟩
 ·have hlt:x < 0:=by omega
  have HE:Hid ((s.size:Int) = (run notNl s.data.toList:Int)):=Lib.hid (by rw [← HL.out,if_neg hge]; rfl)
  clear hge
  go_enter Tryz.func127,Tryz.ntmps127
  go_wp2_with (go_at_call 162; (with_reducible refine (HC.out _).mono ?_); rintro e w' ⟨rfl,rfl⟩)
  go_ret
  exact ⟨ret_int HE.out,rfl⟩
end Go.Proofs.YtjfghaohogcfbaaGreatDoor