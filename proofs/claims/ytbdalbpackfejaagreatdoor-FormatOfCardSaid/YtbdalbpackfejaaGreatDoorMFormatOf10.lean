/- ScanMark, ScanNext, ScanRead, joined. -/
import Derived.Test.YtbdalbpackfejaaGreatDoorMFormatOf09
set_option maxHeartbeats 16000000
set_option maxRecDepth 100000
namespace Go.Proofs.YtbdalbpackfejaaGreatDoor
section
open Go.RowKit ScanSpec
set_option maxRecDepth 100000
def pairsV:Array Value:=#[.string ⟨#[45,62]⟩,.string ⟨#[58,61]⟩,.string ⟨#[60,61]⟩,.string ⟨#[62,61]⟩,.string ⟨#[33,61]⟩,.string ⟨#[61,61]⟩,.string ⟨#[46,46]⟩]
def PairsIn (w:World):Prop:=∃ T fr,w.heap[0]?=some (.cells pairsV T fr)
theorem PairsIn.pos {w:World} (h:PairsIn w):0 < w.heap.size:=by
 obtain ⟨T,fr,h⟩:=h;exact (Array.getElem?_eq_some_iff.1 h).1
theorem PairsIn.keep {w w':World} (h:PairsIn w) (hb:Below w.heap.size w w'):PairsIn w':=by
 have hp:=h.pos;obtain ⟨T,fr,h⟩:=h;exact ⟨T,fr,(hb.block _ hp).trans h⟩
theorem PairsIn.alloc {w:World} (h:PairsIn w) (o:Obj):PairsIn (w.alloc o):=h.keep ((Below.refl _ _).alloc (Nat.le_refl _) _)
theorem PairsIn.cell {w:World} (h:PairsIn w) {i:Nat} {v:Value} (hi:pairsV[i]? = some v):w.cell? ⟨0,i,none⟩ = some v:=by
 obtain ⟨T,fr,h⟩:=h;simp [World.cell?,h,hi]
theorem byte_u8 (c:UInt8):((c.toNat:Int)).toNat.toUInt8=c:=by simp
def PairRel (d:List UInt8) (v:Value):Prop:=∃ j:Int,0<=j/\j<=7/\v = .int .i64 j/\∀ y∈marks.take j.toNat,y.isPrefixOf d=false
def MarkPost (d:List UInt8) (w:World) (e:Ending) (w':World):Prop :=
 ∃ kd ln er:Int,(kd,ln,er)=(if markLen d=0 then (0,0,2) else (3,(markLen d:Int),0))/\e = .returned (.tuple #[.int .i64 kd,.int .i64 ln,.int .i64 er])/\w=w'
theorem Ze {d:List UInt8} {n:Nat} {m:List UInt8} (h:∀ y ∈ marks.take n,y.isPrefixOf d = false) (hm:marks[n]? = some m) (hf:m.isPrefixOf d = false):∀ y ∈ marks.take (n + 1),y.isPrefixOf d = false:=by
 intro y hy;rw [QA hm,List.mem_append,List.mem_singleton] at hy
 rcases hy with hy | rfl
 ·exact h y hy
 ·exact hf
theorem ZA {d:List UInt8} {w:World} {n:Nat} {m:List UInt8} (h:∀ y ∈ marks.take n,y.isPrefixOf d = false) (hm:marks[n]? = some m) (hf:m.isPrefixOf d = true) (hl:m.length = 2) :
 MarkPost d w (.returned (.tuple #[.int .i64 3,.int .i64 2,.int .i64 0])) w:=by
 have:=Qg1 hm h hf;refine ⟨_,_,_,?_,rfl,rfl⟩;rw [this,hl]; rfl
theorem mark_any (s:ByteArray) (w:World) (hp:PairsIn w) (h0:0 < s.size) (_hs:s.size <= 9223372036854775807) :
 Calls Tryz.prog 118 #[.string s] w (MarkPost s.data.toList w):=by
 have c0:w.cell? ⟨0,0,none⟩=some (.string ⟨#[45,62]⟩):=hp.cell (i:=0) rfl;have c1:w.cell? ⟨0,1,none⟩=some (.string ⟨#[58,61]⟩):=hp.cell (i:=1) rfl;have c2:w.cell? ⟨0,2,none⟩=some (.string ⟨#[60,61]⟩):=hp.cell (i:=2) rfl;have c3:w.cell? ⟨0,3,none⟩=some (.string ⟨#[62,61]⟩):=hp.cell (i:=3) rfl;have c4:w.cell? ⟨0,4,none⟩=some (.string ⟨#[33,61]⟩):=hp.cell (i:=4) rfl;have c5:w.cell? ⟨0,5,none⟩=some (.string ⟨#[61,61]⟩):=hp.cell (i:=5) rfl;have c6:w.cell? ⟨0,6,none⟩=some (.string ⟨#[46,46]⟩):=hp.cell (i:=6) rfl;have hp0:=hp.pos;go_enter Tryz.func118,Tryz.ntmps118;go_wp2_with fail;clear c0 c1 c2 c3 c4 c5 c6
 go_loop [8] (fun v=>PairRel s.data.toList v) (fun v=>7-(intOf v).toNat)
 case atStart=>exact ⟨0,by omega,by omega,rfl,by simp⟩
 case round =>
  obtain ⟨j,hj0,hj7,rfl,hno⟩:=hrel;have HN:=qh hno;clear hno
  rcases (show j=0\/j=1\/j=2\/j=3\/j=4\/j=5\/j=6\/j=7 by omega) with rfl | rfl | rfl | rfl | rfl | rfl | rfl | rfl
  ·have hx:∀ w:World,(Instr.index 199 (.agg #[.string ⟨#[45,62]⟩,.string ⟨#[58,61]⟩,.string ⟨#[60,61]⟩,.string ⟨#[62,61]⟩,.string ⟨#[33,61]⟩,.string ⟨#[61,61]⟩,.string ⟨#[46,46]⟩]) (.int .i64 0)).run Tryz.prog w = .ok (.string ⟨#[45,62]⟩) w:=fun _ => by kernel_rfl
   have HC:=qh (fun w=>Tryz.strings_HasPrefix s ⟨#[45,62]⟩ w)
   rcases hf:Lib.hasPrefix s.data.toList (⟨#[45,62]⟩:ByteArray).data.toList with _ | _
   ·have HR:Hid (PairRel s.data.toList (.int .i64 1)):=qh ⟨1,by omega,by omega,rfl,Ze HN.o (m:=[45,62]) rfl hf⟩
    rw [hf] at HC;clear hf;go_wp2_with (go_at_call 134; refine (HC.o _).mono ?_; rintro e w' ⟨rfl,rfl⟩)
    go_round
    case rel=>exact HR.o
    case measure=>decide
   ·have HR:Hid (MarkPost s.data.toList w (.returned (.tuple #[.int .i64 3,.int .i64 2,.int .i64 0])) w):=qh (ZA HN.o (m:=[45,62]) rfl hf rfl)
    rw [hf] at HC;clear hf;go_wp2_with (go_at_call 134; refine (HC.o _).mono ?_; rintro e w' ⟨rfl,rfl⟩)
    go_ret3
    exact HR.o
  ·have hx:∀ w:World,(Instr.index 199 (.agg #[.string ⟨#[45,62]⟩,.string ⟨#[58,61]⟩,.string ⟨#[60,61]⟩,.string ⟨#[62,61]⟩,.string ⟨#[33,61]⟩,.string ⟨#[61,61]⟩,.string ⟨#[46,46]⟩]) (.int .i64 1)).run Tryz.prog w = .ok (.string ⟨#[58,61]⟩) w:=fun _ => by kernel_rfl
   have HC:=qh (fun w=>Tryz.strings_HasPrefix s ⟨#[58,61]⟩ w)
   rcases hf:Lib.hasPrefix s.data.toList (⟨#[58,61]⟩:ByteArray).data.toList with _ | _
   ·have HR:Hid (PairRel s.data.toList (.int .i64 2)):=qh ⟨2,by omega,by omega,rfl,Ze HN.o (m:=[58,61]) rfl hf⟩
    rw [hf] at HC;clear hf;go_wp2_with (go_at_call 134; refine (HC.o _).mono ?_; rintro e w' ⟨rfl,rfl⟩)
    go_round
    case rel=>exact HR.o
    case measure=>decide
   ·have HR:Hid (MarkPost s.data.toList w (.returned (.tuple #[.int .i64 3,.int .i64 2,.int .i64 0])) w):=qh (ZA HN.o (m:=[58,61]) rfl hf rfl)
    rw [hf] at HC;clear hf;go_wp2_with (go_at_call 134; refine (HC.o _).mono ?_; rintro e w' ⟨rfl,rfl⟩)
    go_ret3
    exact HR.o
  ·have hx:∀ w:World,(Instr.index 199 (.agg #[.string ⟨#[45,62]⟩,.string ⟨#[58,61]⟩,.string ⟨#[60,61]⟩,.string ⟨#[62,61]⟩,.string ⟨#[33,61]⟩,.string ⟨#[61,61]⟩,.string ⟨#[46,46]⟩]) (.int .i64 2)).run Tryz.prog w = .ok (.string ⟨#[60,61]⟩) w:=fun _ => by kernel_rfl
   have HC:=qh (fun w=>Tryz.strings_HasPrefix s ⟨#[60,61]⟩ w)
   rcases hf:Lib.hasPrefix s.data.toList (⟨#[60,61]⟩:ByteArray).data.toList with _ | _
   ·have HR:Hid (PairRel s.data.toList (.int .i64 3)):=qh ⟨3,by omega,by omega,rfl,Ze HN.o (m:=[60,61]) rfl hf⟩
    rw [hf] at HC;clear hf;go_wp2_with (go_at_call 134; refine (HC.o _).mono ?_; rintro e w' ⟨rfl,rfl⟩)
    go_round
    case rel=>exact HR.o
    case measure=>decide
   ·have HR:Hid (MarkPost s.data.toList w (.returned (.tuple #[.int .i64 3,.int .i64 2,.int .i64 0])) w):=qh (ZA HN.o (m:=[60,61]) rfl hf rfl)
    rw [hf] at HC;clear hf;go_wp2_with (go_at_call 134; refine (HC.o _).mono ?_; rintro e w' ⟨rfl,rfl⟩)
    go_ret3
    exact HR.o
  ·have hx:∀ w:World,(Instr.index 199 (.agg #[.string ⟨#[45,62]⟩,.string ⟨#[58,61]⟩,.string ⟨#[60,61]⟩,.string ⟨#[62,61]⟩,.string ⟨#[33,61]⟩,.string ⟨#[61,61]⟩,.string ⟨#[46,46]⟩]) (.int .i64 3)).run Tryz.prog w = .ok (.string ⟨#[62,61]⟩) w:=fun _ => by kernel_rfl
   have HC:=qh (fun w=>Tryz.strings_HasPrefix s ⟨#[62,61]⟩ w)
   rcases hf:Lib.hasPrefix s.data.toList (⟨#[62,61]⟩:ByteArray).data.toList with _ | _
   ·have HR:Hid (PairRel s.data.toList (.int .i64 4)):=qh ⟨4,by omega,by omega,rfl,Ze HN.o (m:=[62,61]) rfl hf⟩
    rw [hf] at HC;clear hf;go_wp2_with (go_at_call 134; refine (HC.o _).mono ?_; rintro e w' ⟨rfl,rfl⟩)
    go_round
    case rel=>exact HR.o
    case measure=>decide
   ·have HR:Hid (MarkPost s.data.toList w (.returned (.tuple #[.int .i64 3,.int .i64 2,.int .i64 0])) w):=qh (ZA HN.o (m:=[62,61]) rfl hf rfl)
    rw [hf] at HC;clear hf;go_wp2_with (go_at_call 134; refine (HC.o _).mono ?_; rintro e w' ⟨rfl,rfl⟩)
    go_ret3
    exact HR.o
  ·have hx:∀ w:World,(Instr.index 199 (.agg #[.string ⟨#[45,62]⟩,.string ⟨#[58,61]⟩,.string ⟨#[60,61]⟩,.string ⟨#[62,61]⟩,.string ⟨#[33,61]⟩,.string ⟨#[61,61]⟩,.string ⟨#[46,46]⟩]) (.int .i64 4)).run Tryz.prog w = .ok (.string ⟨#[33,61]⟩) w:=fun _ => by kernel_rfl
   have HC:=qh (fun w=>Tryz.strings_HasPrefix s ⟨#[33,61]⟩ w)
   rcases hf:Lib.hasPrefix s.data.toList (⟨#[33,61]⟩:ByteArray).data.toList with _ | _
   ·have HR:Hid (PairRel s.data.toList (.int .i64 5)):=qh ⟨5,by omega,by omega,rfl,Ze HN.o (m:=[33,61]) rfl hf⟩
    rw [hf] at HC;clear hf;go_wp2_with (go_at_call 134; refine (HC.o _).mono ?_; rintro e w' ⟨rfl,rfl⟩)
    go_round
    case rel=>exact HR.o
    case measure=>decide
   ·have HR:Hid (MarkPost s.data.toList w (.returned (.tuple #[.int .i64 3,.int .i64 2,.int .i64 0])) w):=qh (ZA HN.o (m:=[33,61]) rfl hf rfl)
    rw [hf] at HC;clear hf;go_wp2_with (go_at_call 134; refine (HC.o _).mono ?_; rintro e w' ⟨rfl,rfl⟩)
    go_ret3
    exact HR.o
  ·have hx:∀ w:World,(Instr.index 199 (.agg #[.string ⟨#[45,62]⟩,.string ⟨#[58,61]⟩,.string ⟨#[60,61]⟩,.string ⟨#[62,61]⟩,.string ⟨#[33,61]⟩,.string ⟨#[61,61]⟩,.string ⟨#[46,46]⟩]) (.int .i64 5)).run Tryz.prog w = .ok (.string ⟨#[61,61]⟩) w:=fun _ => by kernel_rfl
   have HC:=qh (fun w=>Tryz.strings_HasPrefix s ⟨#[61,61]⟩ w)
   rcases hf:Lib.hasPrefix s.data.toList (⟨#[61,61]⟩:ByteArray).data.toList with _ | _
   ·have HR:Hid (PairRel s.data.toList (.int .i64 6)):=qh ⟨6,by omega,by omega,rfl,Ze HN.o (m:=[61,61]) rfl hf⟩
    rw [hf] at HC;clear hf;go_wp2_with (go_at_call 134; refine (HC.o _).mono ?_; rintro e w' ⟨rfl,rfl⟩)
    go_round
    case rel=>exact HR.o
    case measure=>decide
   ·have HR:Hid (MarkPost s.data.toList w (.returned (.tuple #[.int .i64 3,.int .i64 2,.int .i64 0])) w):=qh (ZA HN.o (m:=[61,61]) rfl hf rfl)
    rw [hf] at HC;clear hf;go_wp2_with (go_at_call 134; refine (HC.o _).mono ?_; rintro e w' ⟨rfl,rfl⟩)
    go_ret3
    exact HR.o
  ·have hx:∀ w:World,(Instr.index 199 (.agg #[.string ⟨#[45,62]⟩,.string ⟨#[58,61]⟩,.string ⟨#[60,61]⟩,.string ⟨#[62,61]⟩,.string ⟨#[33,61]⟩,.string ⟨#[61,61]⟩,.string ⟨#[46,46]⟩]) (.int .i64 6)).run Tryz.prog w = .ok (.string ⟨#[46,46]⟩) w:=fun _ => by kernel_rfl
   have HC:=qh (fun w=>Tryz.strings_HasPrefix s ⟨#[46,46]⟩ w)
   rcases hf:Lib.hasPrefix s.data.toList (⟨#[46,46]⟩:ByteArray).data.toList with _ | _
   ·have HR:Hid (PairRel s.data.toList (.int .i64 7)):=qh ⟨7,by omega,by omega,rfl,Ze HN.o (m:=[46,46]) rfl hf⟩
    rw [hf] at HC;clear hf;go_wp2_with (go_at_call 134; refine (HC.o _).mono ?_; rintro e w' ⟨rfl,rfl⟩)
    go_round
    case rel=>exact HR.o
    case measure=>decide
   ·have HR:Hid (MarkPost s.data.toList w (.returned (.tuple #[.int .i64 3,.int .i64 2,.int .i64 0])) w):=qh (ZA HN.o (m:=[46,46]) rfl hf rfl)
    rw [hf] at HC;clear hf;go_wp2_with (go_at_call 134; refine (HC.o _).mono ?_; rintro e w' ⟨rfl,rfl⟩)
    go_ret3
    exact HR.o
  ·have HC:=qh (fun w => Tryz.strings_IndexByte singlesS (s[0].toNat:Int) w)
   have hl:s.data.toList = s[0] :: s.data.toList.drop 1:=by
    have:=JC (byte_at' s 0 h0)
    simpa using this
   have hm:markLen s.data.toList = if (0:Int) <= Lib.indexByte singlesS.data.toList (s[0].toNat:Int).toNat.toUInt8 then 1 else 0:=by
    have h7:∀ y∈marks.take 7,y.isPrefixOf s.data.toList=false:=HN.o;rw [hl] at h7 ⊢;rw [Qd7 h7,byte_u8]; rfl
   have HM:=qh hm;clear hm hl;obtain ⟨x,hx⟩:∃ x,x=Lib.indexByte singlesS.data.toList (s[0].toNat:Int).toNat.toUInt8:=⟨_,rfl⟩;rw [<- hx] at HC HM;clear hx
   by_cases hge:0<=x
   ·have HR:Hid (MarkPost s.data.toList w (.returned (.tuple #[.int .i64 3,.int .i64 1,.int .i64 0])) w):=qh ⟨3,1,0,by rw [HM.o,if_pos hge]; rfl,rfl,rfl⟩
    go_wp2_with (go_at_call 149; go_fit (HC.o _); rintro e w' ⟨rfl,rfl⟩)
    go_ret3
    exact HR.o
   ·have HR:Hid (MarkPost s.data.toList w (.returned (.tuple #[.int .i64 0,.int .i64 0,.int .i64 2])) w):=qh ⟨0,0,2,by rw [HM.o,if_neg hge]; rfl,rfl,rfl⟩
    have hlt:x<0:=by omega
    clear hge;go_wp2_with (go_at_call 149; go_fit (HC.o _); rintro e w' ⟨rfl,rfl⟩)
    go_ret3
    exact HR.o
def FirstPost (d:List UInt8) (w:World) (e:Ending) (w':World):Prop :=
 ∃ kd er:Int,∃ ln:Nat,(kd,ln,er)=ScanSpec.one d/\e = .returned (.tuple #[.int .i64 kd,.int .i64 ln,.int .i64 er])/\w=w'
theorem name_any (s:ByteArray) (w:World) (h1:cls s.data.toList 0 = 1) (hs:s.size <= 9223372036854775807):Calls Tryz.prog 115 #[.string s] w (FirstPost s.data.toList w):=by
 have HO:=qh (Qin (l:=s.data.toList) (i:=0) h1);rw [List.drop_zero] at HO;have HC:=qh (fun w=>run_word s w hs);have hrl:=Qc0 isWord s.data.toList;rw [Qn] at hrl;obtain ⟨n,hn⟩:∃ n,n=run isWord s.data.toList:=⟨_,rfl⟩;rw [<- hn] at HO HC hrl;clear hn h1
 by_cases hb:12<n
 ·have HR:Hid (FirstPost s.data.toList w (.returned (.tuple #[.int .i64 0,.int .i64 0,.int .i64 5])) w):=qh ⟨0,5,0,(HO.o.trans (if_pos hb)).symm,rfl,rfl⟩
  have hbI:12<(n:Int):=by omega
  go_enter Tryz.func115,Tryz.ntmps115;go_wp2_with (go_at_call 150; go_fit (HC.o _); rintro e w' ⟨rfl,rfl⟩)
  go_ret3
  exact HR.o
 ·have HR:Hid (FirstPost s.data.toList w (.returned (.tuple #[.int .i64 1,.int .i64 n,.int .i64 0])) w):=qh ⟨1,0,n,(HO.o.trans (if_neg hb)).symm,rfl,rfl⟩
  have hbI:(n:Int)<=12:=by omega
  go_enter Tryz.func115,Tryz.ntmps115;go_wp2_with (go_at_call 150; go_fit (HC.o _); rintro e w' ⟨rfl,rfl⟩)
  go_ret3
  exact HR.o
theorem Qi4 (s:ByteArray) (w:World) (h1:cls s.data.toList 0 = 2) (hs:s.size <= 9223372036854775807):Calls Tryz.prog 117 #[.string s] w (FirstPost s.data.toList w):=by
 have HO:=qh (QgH (l:=s.data.toList) (i:=0) h1);rw [List.drop_zero,Nat.zero_add] at HO;have HC:=qh (fun w=>run_num s w hs);have hrl:=Qc0 isNum s.data.toList;rw [Qn] at hrl;have HT:=qh (num_then (l:=s.data.toList));obtain ⟨n,hn⟩:∃ n,n=run isNum s.data.toList:=⟨_,rfl⟩;rw [<- hn] at HO HC hrl HT;clear hn h1;have HE:∀ hw:¬ (cls s.data.toList n=1\/cls s.data.toList n=3),Hid (ScanSpec.one s.data.toList=if 9<n then (0,0,5) else (2,n,0)):=fun hw=>qh (HO.o.trans (if_neg hw))
 by_cases hlt:n<s.size
 ·have hb:=byte_at' s n hlt
  have HI:=qh (fun w=>QdN (s[n].toNat:Int) w)
  rcases hw:isWord s[n] with _ | _
  ·have HE':=HE (fun h => by
    obtain ⟨c,hc,hc'⟩:=HT.o.1 h;rw [hb] at hc; cases hc;rw [hw] at hc'; cases hc')
   rw [QdA,hw] at HI;clear hw hb HE
   by_cases h9:9<n
   ·have HR:Hid (FirstPost s.data.toList w (.returned (.tuple #[.int .i64 0,.int .i64 0,.int .i64 5])) w):=qh ⟨0,5,0,(HE'.o.trans (if_pos h9)).symm,rfl,rfl⟩
    have hbI:9<(n:Int):=by omega
    go_enter Tryz.func117,Tryz.ntmps117;go_wp2_with (first | (go_at_call 150; go_fit (HC.o _); rintro e w' ⟨rfl,rfl⟩) | (go_at_call 151; go_fit (HI.o _); rintro e w' ⟨rfl,rfl⟩))
    go_ret3
    exact HR.o
   ·have HR:Hid (FirstPost s.data.toList w (.returned (.tuple #[.int .i64 2,.int .i64 n,.int .i64 0])) w):=qh ⟨2,0,n,(HE'.o.trans (if_neg h9)).symm,rfl,rfl⟩
    have hbI:(n:Int)<=9:=by omega
    go_enter Tryz.func117,Tryz.ntmps117;go_wp2_with (first | (go_at_call 150; go_fit (HC.o _); rintro e w' ⟨rfl,rfl⟩) | (go_at_call 151; go_fit (HI.o _); rintro e w' ⟨rfl,rfl⟩))
    go_ret3
    exact HR.o
  ·have HR:Hid (FirstPost s.data.toList w (.returned (.tuple #[.int .i64 0,.int .i64 0,.int .i64 2])) w):=qh ⟨0,2,0,(HO.o.trans (if_pos (HT.o.2 ⟨_,hb,hw⟩))).symm,rfl,rfl⟩
   rw [QdA,hw] at HI;clear hw hb HE;go_enter Tryz.func117,Tryz.ntmps117;go_wp2_with (first | (go_at_call 150; go_fit (HC.o _); rintro e w' ⟨rfl,rfl⟩) | (go_at_call 151; go_fit (HI.o _); rintro e w' ⟨rfl,rfl⟩))
   go_ret3
   exact HR.o
 ·have HE':=HE (fun h => by
   obtain ⟨c,hc,_⟩:=HT.o.1 h;have:=Ja hc;rw [Qn] at this;omega)
  have hd:decide (n<s.size)=false:=decide_eq_false hlt;clear HE
  by_cases h9:9<n
  ·have HR:Hid (FirstPost s.data.toList w (.returned (.tuple #[.int .i64 0,.int .i64 0,.int .i64 5])) w):=qh ⟨0,5,0,(HE'.o.trans (if_pos h9)).symm,rfl,rfl⟩
   have hbI:9<(n:Int):=by omega
   go_enter Tryz.func117,Tryz.ntmps117;go_wp2_with (go_at_call 150; go_fit (HC.o _); rintro e w' ⟨rfl,rfl⟩)
   go_ret3
   exact HR.o
  ·have HR:Hid (FirstPost s.data.toList w (.returned (.tuple #[.int .i64 2,.int .i64 n,.int .i64 0])) w):=qh ⟨2,0,n,(HE'.o.trans (if_neg h9)).symm,rfl,rfl⟩
   have hbI:(n:Int)<=9:=by omega
   go_enter Tryz.func117,Tryz.ntmps117;go_wp2_with (go_at_call 150; go_fit (HC.o _); rintro e w' ⟨rfl,rfl⟩)
   go_ret3
   exact HR.o
theorem first_end (w:World):Calls Tryz.prog 76 #[.string ⟨#[]⟩] w fun e w' => e = .returned (.tuple #[.int .i64 0,.int .i64 0,.int .i64 0]) /\ w = w':=by
 go_enter Tryz.func76,Tryz.ntmps76;go_wp2_with fail
 go_ret3
 exact ⟨rfl,rfl⟩
theorem Qfe (s:ByteArray) (w:World) (hp:PairsIn w) (h0:0 < s.size) (hs:s.size <= 9223372036854775807):Calls Tryz.prog 76 #[.string s] w (FirstPost s.data.toList w):=by
 have hb:=byte_at' s 0 h0;have hne:=txt_ne h0;have hne1:(s.toList==[])=false:=by cases h:s.toList with | nil=>rw [h] at hne; cases hne | cons a l=>rfl
 have hne2:¬ s.toList=[]:=by intro h; rw [h] at hne; cases hne
 have HL:=qh (fun w=>QaH (s[0].toNat:Int) w);have HD:=qh (fun w=>QbB (s[0].toNat:Int) w);rw [low_cls hb] at HL;rw [dig_cls hb] at HD;clear hb
 by_cases h1:cls s.data.toList 0=1
 ·have HC:=qh (fun w => name_any s w h1 hs)
  rw [decide_eq_true h1] at HL;clear h1 HD;go_enter Tryz.func76,Tryz.ntmps76;go_wp2_with (go_at_call 114; go_fit (HL.o _); rintro e w' ⟨rfl,rfl⟩);refine (HC.o _).mono ?_;intro e w' h;obtain ⟨kd,er,ln,hO,rfl,rfl⟩:=h;have HR:Hid (FirstPost s.data.toList w (.returned (.tuple #[.int .i64 kd,.int .i64 ln,.int .i64 er])) w):=qh ⟨kd,er,ln,hO,rfl,rfl⟩;clear hO;go_wp2_with fail
  go_ret3
  exact HR.o
 ·rw [decide_eq_false h1] at HL
  by_cases h2:cls s.data.toList 0=2
  ·have HC:=qh (fun w => Qi4 s w h2 hs)
   rw [decide_eq_true h2] at HD;clear h1 h2;go_enter Tryz.func76,Tryz.ntmps76;go_wp2_with (first | (go_at_call 114; go_fit (HL.o _); rintro e w' ⟨rfl,rfl⟩) | (go_at_call 116; go_fit (HD.o _); rintro e w' ⟨rfl,rfl⟩));refine (HC.o _).mono ?_;intro e w' h;obtain ⟨kd,er,ln,hO,rfl,rfl⟩:=h;have HR:Hid (FirstPost s.data.toList w (.returned (.tuple #[.int .i64 kd,.int .i64 ln,.int .i64 er])) w):=qh ⟨kd,er,ln,hO,rfl,rfl⟩;clear hO;go_wp2_with fail
   go_ret3
   exact HR.o
  ·have HC:=qh (fun w hp => mark_any s w hp h0 hs)
   have HO:=qh (QeA (l:=s.data.toList) (i:=0) h1 h2);rw [List.drop_zero] at HO;rw [decide_eq_false h2] at HD;clear h1 h2;go_enter Tryz.func76,Tryz.ntmps76;go_wp2_with (first | (go_at_call 114; go_fit (HL.o _); rintro e w' ⟨rfl,rfl⟩) | (go_at_call 116; go_fit (HD.o _); rintro e w' ⟨rfl,rfl⟩));refine (HC.o _ hp).mono ?_;intro e w' h;obtain ⟨kd,ln,er,hO,rfl,rfl⟩:=h
   have HR:Hid (FirstPost s.data.toList w (.returned (.tuple #[.int .i64 kd,.int .i64 ln,.int .i64 er])) w):=qh (by
    have h:=HO.o
    by_cases hz:markLen s.data.toList=0
    ·rw [if_pos hz] at hO h
     cases hO
     exact ⟨0,2,0,h.symm,rfl,rfl⟩
    ·rw [if_neg hz] at hO h
     cases hO
     exact ⟨3,0,_,h.symm,rfl,rfl⟩)
   clear hO;go_wp2_with fail
   go_ret3
   exact HR.o
theorem QiP (s:ByteArray) (w:World) (_hs:s.size <= 9223372036854775807):Calls Tryz.prog 113 #[.string s] w fun e w' => e = .returned (.int .i64 (run notNl s.data.toList)) /\ w = w':=by
 have HC:=qh (fun w=>Tryz.strings_IndexByte s 10 w);have HL:=qh (QiV s.data.toList);have e10:(10:Int).toNat.toUInt8=10:=rfl;rw [e10] at HC;obtain ⟨x,hx⟩:∃ x,x=Lib.indexByte s.data.toList 10:=⟨_,rfl⟩;rw [<- hx] at HC HL;clear hx e10
 by_cases hge:0<=x
 ·go_enter Tryz.func113,Tryz.ntmps113
  go_wp2_with (go_at_call 149; go_fit (HC.o _); rintro e w' ⟨rfl,rfl⟩);go_ret;exact ⟨Qo (by rw [<- HL.o,if_pos hge]),rfl⟩
 ·have hlt:x < 0:=by omega
  have HE:Hid ((s.size:Int)=(run notNl s.data.toList:Int)):=qh (by rw [<- HL.o,if_neg hge]; rfl);clear hge;go_enter Tryz.func113,Tryz.ntmps113;go_wp2_with (go_at_call 149; go_fit (HC.o _); rintro e w' ⟨rfl,rfl⟩);go_ret;exact ⟨Qo HE.o,rfl⟩
end
section
open Go.RowKit ScanSpec
set_option maxRecDepth 100000
def RdrAt (w:World) (B:Nat) (r:ByteArray) (a b:Int):Prop:=w.heap[B]?=some (.cells #[.string r,.int .i64 a,.int .i64 b] 84 (0,0))
theorem RdrAt.lt {w:World} {B:Nat} {r:ByteArray} {a b:Int} (h:RdrAt w B r a b):B<w.heap.size:=(Array.getElem?_eq_some_iff.1 h).1
def PassPost (w:World) (B:Nat) (r:ByteArray) (n:Nat) (a b:Int) (e:Ending) (w':World):Prop:=e = .returned (.tuple #[])/\RdrAt w' B (r.extract n r.size) a (b+n)/\w.grownBy w' (some B)
theorem QaB (B:Nat) (r:ByteArray) (n:Nat) (a b:Int) (w:World) (h:RdrAt w B r a b) (hn:n <= r.size) (hr:r.size <= 9223372036854775807) (hb0:0 <= b) (hb:b + n <= 9223372036854775807) :
 Calls Tryz.prog 77 #[.pointer (some ⟨B,0,none⟩),.int .i64 n] w (PassPost w B r n a b):=by
 have hI:(n:Int)<=(r.size:Int):=by omega
 have h1:RdrAt (w.setCell ⟨B,0,none⟩ (.string (r.extract n r.size))) B (r.extract n r.size) a b:=by
  have:=Qd h 0 (.string (r.extract n r.size));exact this
 have h2:RdrAt ((w.setCell ⟨B,0,none⟩ (.string (r.extract n r.size))).setCell ⟨B,2,none⟩ (.int .i64 (b + n))) B (r.extract n r.size) a (b + n):=by
  have:=Qd h1 2 (.int .i64 (b+n));exact this
 have c0:w.cell? ⟨B,0,none⟩=some (.string r):=Qb h (i:=0) rfl;have f0:=Qf h 0;have c2:(w.setCell ⟨B,0,none⟩ (.string (r.extract n r.size))).cell? ⟨B,2,none⟩=some (.int .i64 b):=Qb h1 (i:=2) rfl;have f2:=Qf h1 2
 have HR:Hid (PassPost w B r n a b (.returned (.tuple #[])) ((w.setCell ⟨B,0,none⟩ (.string (r.extract n r.size))).setCell ⟨B,2,none⟩ (.int .i64 (b + n)))) :=
  qh ⟨rfl,h2,Ql (Ql (Qx w _) 0 _) 2 _⟩
 clear h h1 h2;go_enter Tryz.func77,Tryz.ntmps77;go_wp2_with fail
 go_end0
 exact HR.o
def StandsAt (w:World) (B:Nat) (s:ByteArray) (j:Nat):Prop:=RdrAt w B (s.extract j s.size) (pos s.data.toList j).1 (pos s.data.toList j).2
theorem QcW {w:World} {B:Nat} {s r:ByteArray} {j n:Nat} {a b:Int} (h:RdrAt w B (r.extract n r.size) a (b + n)) (hr:r = s.extract j s.size) (hp:pos s.data.toList (j + n) = (a,b + n)):StandsAt w B s (j + n):=by
 subst hr;rw [extract_extract] at h;unfold StandsAt;rw [hp];exact h
def SkipRel (w:World) (B:Nat) (s:ByteArray) (i k:Nat) (wr:World):Prop :=
 ∃ j,j<=s.size/\k=s.size-j/\gap s.data.toList j=gap s.data.toList i/\StandsAt wr B s j/\w.grownBy wr (some B)
def SkipPost (w:World) (B:Nat) (s:ByteArray) (i:Nat) (e:Ending) (w':World):Prop:=e = .returned (.tuple #[])/\StandsAt w' B s (gap s.data.toList i)/\w.grownBy w' (some B)
theorem Qam {w wr:World} {B i j k:Nat} {s:ByteArray} (_hk:k = s.size - j) (hg:gap s.data.toList j = gap s.data.toList i) (hR:StandsAt wr B s j) (hb:w.grownBy wr (some B)) (h4:¬ cls s.data.toList j = 4) (h5:¬ cls s.data.toList j = 5) :
 SkipPost w B s i (.returned (.tuple #[])) wr:=by
 rw [Qh8 h4 h5] at hg;exact ⟨rfl,hg ▸ hR,hb⟩
theorem QbP {w wr w2:World} {B i j k:Nat} {s r:ByteArray} {a b:Int} (hj:j < s.size) (_hk:k = s.size - j) (hg:gap s.data.toList j = gap s.data.toList i) (hr:r = s.extract j s.size) (ha:(pos s.data.toList j) = (a,b)) (hb:w.grownBy wr (some B))
 (h4:cls s.data.toList j=4) (h10:∀ c,s.data.toList[j]?=some c->c.toNat≠10) (h:RdrAt w2 B (r.extract 1 r.size) a (b+(1:Nat))) (hb2:wr.grownBy w2 (some B)):SkipRel w B s i (s.size-(j+1)) w2:=by
 refine ⟨j+1,by omega,rfl,(Qcx h4).trans hg,QcW h hr ?_,Qt hb hb2⟩;have hc:=byte_at' s j hj;rw [Qan hc,if_neg (h10 _ hc),ha]; rfl
theorem skip_line {w wr w2:World} {B i j k:Nat} {s r:ByteArray} {a b:Int} (hj:j < s.size) (_hk:k = s.size - j) (hg:gap s.data.toList j = gap s.data.toList i) (hr:r = s.extract j s.size) (ha:(pos s.data.toList j) = (a,b)) (hb:w.grownBy wr (some B))
 (h4:cls s.data.toList j=4) (h10:∀ c,s.data.toList[j]?=some c->c.toNat=10) (h:RdrAt w2 B (r.extract 1 r.size) (a+1) 1) (hb2:wr.grownBy w2 (some B)):SkipRel w B s i (s.size-(j+1)) w2:=by
 refine ⟨j+1,by omega,rfl,(Qcx h4).trans hg,?_,Qt hb hb2⟩;have hc:=byte_at' s j hj;unfold StandsAt;rw [Qan hc,if_pos (h10 _ hc),ha];subst hr;rw [extract_extract] at h;exact h
theorem QhW {w wr w2:World} {B i j k n:Nat} {s r:ByteArray} {a b:Int} (hj:j < s.size) (hk:k = s.size - j) (hg:gap s.data.toList j = gap s.data.toList i) (hr:r = s.extract j s.size) (ha:(pos s.data.toList j) = (a,b)) (hb:w.grownBy wr (some B))
 (h5:cls s.data.toList j=5) (hn:n=run notNl r.data.toList) (h:RdrAt w2 B (r.extract n r.size) a (b+n)) (hb2:wr.grownBy w2 (some B)):SkipRel w B s i (s.size-(j+n)) w2/\s.size-(j+n)<k:=by
 have h1:=gap_past h5;have h2:=cls_5_run h5;have e:run notNl (s.data.toList.drop j)=n:=by rw [hn,hr,extract_drop]
 rw [e] at h1 h2;have hle:=Qc0 notNl (s.data.toList.drop j);rw [e,List.length_drop,Qn] at hle;exact ⟨⟨j+n,by omega,rfl,h1.1.trans hg,QcW h hr (by rw [h1.2,ha]),Qt hb hb2⟩,by omega⟩
theorem Qhm (B i:Nat) (s:ByteArray) (w:World) (hi:i <= s.size) (hs:s.size <= 9223372036854775800) (h:StandsAt w B s i):Calls Tryz.prog 75 #[.pointer (some ⟨B,0,none⟩)] w (SkipPost w B s i):=by
 have HS:=qh h;clear h;go_enter Tryz.func75,Tryz.ntmps75;go_wp2_with fail
 go_loopg [6] (s.size-i) (fun k u wr=>SkipRel w B s i k wr)
 case atStart=>exact ⟨i,hi,rfl,rfl,HS.o,Qx _ _⟩
 case round =>
  obtain ⟨j,hj,hk,hg,hR,hb⟩:=hrel;have hpb:=pos_bd s.data.toList j;obtain ⟨a,ha⟩:∃ a,a=(pos s.data.toList j).1:=⟨_,rfl⟩;obtain ⟨b,hbb⟩:∃ b,b=(pos s.data.toList j).2:=⟨_,rfl⟩;have HA:Hid (pos s.data.toList j=(a,b)):=qh (by rw [ha,hbb]);rw [<- ha,<- hbb] at hpb;obtain ⟨p1,p2,p3,p4⟩:=hpb;obtain ⟨r,hr⟩:∃ r,r=s.extract j s.size:=⟨_,rfl⟩;have hsz:r.size=s.size-j:=by rw [hr,Zl]
  have HR:Hid (RdrAt wr B r a b):=qh (by have:=hR; unfold StandsAt at this; rwa [<- hr,<- ha,<- hbb] at this);have c0:wr.cell? ⟨B,0,none⟩=some (.string r):=Qb HR.o (i:=0) rfl;have HSt:=qh hR;have HG:=qh hg;have HK:=qh hk;have HB:=qh hb;have HRr:=qh hr;clear ha hbb hR hg hk hb
  by_cases hlt:j<s.size
  ·have hrs:0 < r.size:=by omega
   have hrs2:r.size<=9223372036854775800:=by omega
   have hne:=txt_ne hrs
   have hb0:s.data.toList[j]? = some r[0]:=by
    have:=byte_at' r 0 hrs;rw [<- this];subst hr;rw [extract_drop,List.getElem?_drop]; rfl
   have HB0:=qh hb0;have hcl:=qh (Jy hb0);have hsj:r.size+j<=s.size:=by omega
   clear hb0 hr hsz;have hv:=Qa4 r[0] _ rfl
   rcases hv with ⟨h1,h2,hc⟩ | ⟨h1,h2,hc⟩ | ⟨h1,hc⟩ | ⟨h1,hc⟩ | ⟨h1,hc⟩ | ⟨h1,n1,n2,n3,n4,n5,n6,hc⟩
   ·have e32:((r[0].toNat:Int) == 32) = false:=by simp; omega
    have e9:((r[0].toNat:Int)==9)=false:=by simp; omega
    have e13:((r[0].toNat:Int)==13)=false:=by simp; omega
    have e10:((r[0].toNat:Int)==10)=false:=by simp; omega
    have e35:((r[0].toNat:Int)==35)=false:=by simp; omega
    clear h1 h2;have HS2:=qh (Qam HK.o HG.o HSt.o HB.o (by rw [hcl.o,hc]; decide) (by rw [hcl.o,hc]; decide));clear hc hcl;go_wp2_with fail;refine bodyPost_ret (results_none rfl _ _ _) rfl ?_;exact HS2.o
   ·have e32:((r[0].toNat:Int) == 32) = false:=by simp; omega
    have e9:((r[0].toNat:Int)==9)=false:=by simp; omega
    have e13:((r[0].toNat:Int)==13)=false:=by simp; omega
    have e10:((r[0].toNat:Int)==10)=false:=by simp; omega
    have e35:((r[0].toNat:Int)==35)=false:=by simp; omega
    clear h1 h2;have HS2:=qh (Qam HK.o HG.o HSt.o HB.o (by rw [hcl.o,hc]; decide) (by rw [hcl.o,hc]; decide));clear hc hcl;go_wp2_with fail;refine bodyPost_ret (results_none rfl _ _ _) rfl ?_;exact HS2.o
   ·have e32:((r[0].toNat:Int) == 32) = false:=by simp; omega
    have e9:((r[0].toNat:Int)==9)=false:=by simp; omega
    have e13:((r[0].toNat:Int)==13)=false:=by simp; omega
    have e10:((r[0].toNat:Int)==10)=false:=by simp; omega
    have e35:((r[0].toNat:Int)==35)=false:=by simp; omega
    clear h1;have HS2:=qh (Qam HK.o HG.o HSt.o HB.o (by rw [hcl.o,hc]; decide) (by rw [hcl.o,hc]; decide));clear hc hcl;go_wp2_with fail;refine bodyPost_ret (results_none rfl _ _ _) rfl ?_;exact HS2.o
   ·rcases h1 with h1 | h1 | h1 | h1
    ·have e32:((r[0].toNat:Int) == 32) = true:=by simp; omega
     have HC:=qh (fun w h=>QaB B r 1 a b w h (by omega) (by omega) (by omega) (by omega));have HCl:Hid (cls s.data.toList j=4/\∀ c,s.data.toList[j]?=some c->c.toNat≠10):=qh ⟨hcl.o.trans hc,fun c h=>by rw [HB0.o] at h; cases h; omega⟩;clear hc h1 hcl;go_wp2_with fail;refine (HC.o _ HR.o).mono ?_;rintro e w2 ⟨rfl,hR2,hb2⟩;have HN:=qh (QbP hlt HK.o HG.o HRr.o HA.o HB.o HCl.o.1 HCl.o.2 hR2 hb2);have HM:Hid (s.size-(j+1)<gk):=qh (by have:=HK.o; omega);clear hR2 hb2;go_wp2_with fail
     go_roundg (s.size-(j+1))
     case rel=>exact HN.o
     case measure=>exact HM.o
    ·have e32:((r[0].toNat:Int) == 32) = false:=by simp; omega
     have e9:((r[0].toNat:Int)==9)=true:=by simp; omega
     have HC:=qh (fun w h=>QaB B r 1 a b w h (by omega) (by omega) (by omega) (by omega));have HCl:Hid (cls s.data.toList j=4/\∀ c,s.data.toList[j]?=some c->c.toNat≠10):=qh ⟨hcl.o.trans hc,fun c h=>by rw [HB0.o] at h; cases h; omega⟩;clear hc h1 hcl;go_wp2_with fail;refine (HC.o _ HR.o).mono ?_;rintro e w2 ⟨rfl,hR2,hb2⟩;have HN:=qh (QbP hlt HK.o HG.o HRr.o HA.o HB.o HCl.o.1 HCl.o.2 hR2 hb2);have HM:Hid (s.size-(j+1)<gk):=qh (by have:=HK.o; omega);clear hR2 hb2;go_wp2_with fail
     go_roundg (s.size-(j+1))
     case rel=>exact HN.o
     case measure=>exact HM.o
    ·have e32:((r[0].toNat:Int) == 32) = false:=by simp; omega
     have e9:((r[0].toNat:Int)==9)=false:=by simp; omega
     have e13:((r[0].toNat:Int)==13)=false:=by simp; omega
     have e10:((r[0].toNat:Int)==10)=true:=by simp; omega
     have HC:=qh (fun w h=>QaB B r 1 a b w h (by omega) (by omega) (by omega) (by omega));have HCl:Hid (cls s.data.toList j=4/\∀ c,s.data.toList[j]?=some c->c.toNat=10):=qh ⟨hcl.o.trans hc,fun c h=>by rw [HB0.o] at h; cases h; omega⟩;clear hc h1 hcl;go_wp2_with fail;refine (HC.o _ HR.o).mono ?_;rintro e w2 ⟨rfl,hR2,hb2⟩;have q1:RdrAt (w2.setCell ⟨B,1,none⟩ (.int .i64 (a+1))) B (r.extract 1 r.size) (a+1) (b+(1:Nat)):=Qd hR2 1 _;have q2:RdrAt ((w2.setCell ⟨B,1,none⟩ (.int .i64 (a+1))).setCell ⟨B,2,none⟩ (.int .i64 1)) B (r.extract 1 r.size) (a+1) 1:=Qd q1 2 _;have d1:w2.cell? ⟨B,1,none⟩=some (.int .i64 a):=Qb hR2 (i:=1) rfl;have d2:w2.cell? ⟨B,2,none⟩=some (.int .i64 (b+(1:Nat))):=Qb hR2 (i:=2) rfl;have g1:=Qf hR2 1;have g2:=Qf hR2 2;have HN:=qh (skip_line hlt HK.o HG.o HRr.o HA.o HB.o HCl.o.1 HCl.o.2 q2 (Ql (Ql hb2 1 _) 2 _));have HM:Hid (s.size-(j+1)<gk):=qh (by have:=HK.o; omega);clear hR2 hb2 q1 q2;go_wp2_with fail
     go_roundg (s.size-(j+1))
     case rel=>exact HN.o
     case measure=>exact HM.o
    ·have e32:((r[0].toNat:Int) == 32) = false:=by simp; omega
     have e9:((r[0].toNat:Int)==9)=false:=by simp; omega
     have e13:((r[0].toNat:Int)==13)=true:=by simp; omega
     have HC:=qh (fun w h=>QaB B r 1 a b w h (by omega) (by omega) (by omega) (by omega));have HCl:Hid (cls s.data.toList j=4/\∀ c,s.data.toList[j]?=some c->c.toNat≠10):=qh ⟨hcl.o.trans hc,fun c h=>by rw [HB0.o] at h; cases h; omega⟩;clear hc h1 hcl;go_wp2_with fail;refine (HC.o _ HR.o).mono ?_;rintro e w2 ⟨rfl,hR2,hb2⟩;have HN:=qh (QbP hlt HK.o HG.o HRr.o HA.o HB.o HCl.o.1 HCl.o.2 hR2 hb2);have HM:Hid (s.size-(j+1)<gk):=qh (by have:=HK.o; omega);clear hR2 hb2;go_wp2_with fail
     go_roundg (s.size-(j+1))
     case rel=>exact HN.o
     case measure=>exact HM.o
   ·have e32:((r[0].toNat:Int) == 32) = false:=by simp; omega
    have e9:((r[0].toNat:Int)==9)=false:=by simp; omega
    have e13:((r[0].toNat:Int)==13)=false:=by simp; omega
    have e10:((r[0].toNat:Int)==10)=false:=by simp; omega
    have e35:((r[0].toNat:Int)==35)=true:=by simp; omega
    have hrl:=Qc0 notNl r.data.toList;rw [Qn] at hrl;have HRm:=qh (fun w=>QiP r w (by omega));obtain ⟨m,hm⟩:∃ m,m=run notNl r.data.toList:=⟨_,rfl⟩;rw [<- hm] at HRm hrl;have HMm:=qh hm;have HC:=qh (fun w h=>QaB B r m a b w h (by omega) (by omega) (by omega) (by omega));have HCl:Hid (cls s.data.toList j=5):=qh (hcl.o.trans hc);clear hc h1 hcl hm;go_wp2_with (go_at_call 113; go_fit (HRm.o _); rintro e w' ⟨rfl,rfl⟩);refine (HC.o _ HR.o).mono ?_;rintro e w2 ⟨rfl,hR2,hb2⟩;have HN:=qh (QhW hlt HK.o HG.o HRr.o HA.o HB.o HCl.o HMm.o hR2 hb2);clear hR2 hb2;go_wp2_with fail
    go_roundg (s.size-(j+m))
    case rel=>exact HN.o.1
    case measure=>exact HN.o.2
   ·have e32:((r[0].toNat:Int) == 32) = false:=by simp; omega
    have e9:((r[0].toNat:Int)==9)=false:=by simp; omega
    have e13:((r[0].toNat:Int)==13)=false:=by simp; omega
    have e10:((r[0].toNat:Int)==10)=false:=by simp; omega
    have e35:((r[0].toNat:Int)==35)=false:=by simp; omega
    clear h1 n1 n2 n3 n4 n5 n6;have HS2:=qh (Qam HK.o HG.o HSt.o HB.o (by rw [hcl.o,hc]; decide) (by rw [hcl.o,hc]; decide));clear hc hcl;go_wp2_with fail;refine bodyPost_ret (results_none rfl _ _ _) rfl ?_;exact HS2.o
  ·have hcl:=Qep (l:=s.data.toList) (i:=j) (by rw [Qn]; omega)
   have HS2:=qh (Qam HK.o HG.o HSt.o HB.o (by rw [hcl]; decide) (by rw [hcl]; decide));have hr0:r.size=0:=by omega
   have hl:r.toList=[]:=by rw [ByteArray.toList_eq,<- List.length_eq_zero_iff]; exact hr0
   clear hcl hr hsz hr0;go_wp2_with fail
   go_end0
   exact HS2.o
end
section
open Go.RowKit ScanSpec
set_option maxRecDepth 100000
theorem PairsIn.but {w w':World} {B:Nat} (h:PairsIn w) (hb:w.grownBy w' (some B)) (hB:0 ≠ B):PairsIn w':=by
 have hp:=h.pos;obtain ⟨T,fr,h⟩:=h;exact ⟨T,fr,(hb.block _ hp (by simpa using hB)).trans h⟩
abbrev tokZ:Obj:=.cells #[.int .i64 0,.string ⟨#[]⟩,.int .i64 0,.int .i64 0] 76
abbrev tokH (p1 p2:Int):Obj:=.cells #[.int .i64 0,.string ⟨#[]⟩,.int .i64 p1,.int .i64 p2] 76
def tokA (s:ByteArray) (kd:Int) (i n:Nat):Value:=.agg #[.int .i64 kd,.string (s.extract i (i+n)),.int .i64 (pos s.data.toList i).1,.int .i64 (pos s.data.toList i).2]
def NextGood (w:World) (B:Nat) (s:ByteArray) (i:Nat) (kd:Int) (n:Nat) (e:Ending) (w':World):Prop :=
 e = .returned (.tuple #[tokA s kd i n,.int .i64 0])/\StandsAt w' B s (i+n)/\w.grownBy w' (some B)
structure NextMid (w w3:World) (B tb:Nat) (r:ByteArray) (p1 p2:Int):Prop where
 rdr:RdrAt w3 B r p1 p2
 tok:w3.heap[tb]?=some (.cells #[.int .i64 0,.string ⟨#[]⟩,.int .i64 p1,.int .i64 p2] 76 (0,0))
 res:w3.heap[w.heap.size]?=some (.cells #[.int .i64 0,.string ⟨#[]⟩,.int .i64 0,.int .i64 0] 76 (0,0))
 but:w.grownBy w3 (some B)
 lt:w.heap.size<tb
 bne:B≠tb
 top:tb<w3.heap.size
theorem Qis {w w2:World} {B:Nat} {s r:ByteArray} {g:Nat} {p1 p2:Int} (hB:B < w.heap.size) (hR:StandsAt w2 B s g) (hr:s.extract g s.size = r) (hp:pos s.data.toList g = (p1,p2)) (hb:(w.alloc tokZ).grownBy w2 (some B)) :
 NextMid w (w2.alloc (tokH p1 p2)) B w2.heap.size r p1 p2:=by
 have h2:=hb.size;rw [World.size_alloc] at h2;unfold StandsAt at hR;rw [hr,hp] at hR;exact ⟨(heap_alloc_old _ _ hR.lt).trans hR,heap_alloc_new _ _,(heap_alloc_old _ _ (by omega)).trans ((hb.block w.heap.size (by simp) (by simp; omega)).trans (heap_alloc_new _ _)),but_from (QcB hb _),by omega,Nat.ne_of_lt hR.lt,by simp⟩
structure NextMid4 (w w4:World) (B tb:Nat) (r:ByteArray) (p1 p2:Int) (u v:Value):Prop where
 rdr:RdrAt w4 B r p1 p2
 tok:w4.heap[tb]?=some (.cells #[u,v,.int .i64 p1,.int .i64 p2] 76 (0,0))
 res:w4.heap[w.heap.size]?=some (.cells #[.int .i64 0,.string ⟨#[]⟩,.int .i64 0,.int .i64 0] 76 (0,0))
 but:w.grownBy w4 (some B)
 lt:w.heap.size<tb
 bne:B≠tb
structure NextMid5 (w w4:World) (B tb:Nat) (p1 p2:Int) (u v:Value):Prop where
 tok:w4.heap[tb]?=some (.cells #[u,v,.int .i64 p1,.int .i64 p2] 76 (0,0))
 res:w4.heap[w.heap.size]?=some (.cells #[.int .i64 0,.string ⟨#[]⟩,.int .i64 0,.int .i64 0] 76 (0,0))
 but:w.grownBy w4 (some B)
theorem next_past {w w4 w5:World} {B tb:Nat} {r:ByteArray} {p1 p2:Int} {u v:Value} (hB:B < w.heap.size) (h:NextMid4 w w4 B tb r p1 p2 u v) (hb:w4.grownBy w5 (some B)):NextMid5 w w5 B tb p1 p2 u v :=
 ⟨(hb.block _ (Array.getElem?_eq_some_iff.1 h.tok).1 (by simpa using Ne.symm h.bne)).trans h.tok,(hb.block _ (Array.getElem?_eq_some_iff.1 h.res).1 (by simp; omega)).trans h.res,Qt h.but hb⟩
theorem next_fin {w w5:World} {B tb g n:Nat} {s r:ByteArray} {kd p1 p2:Int} {u v x0 x1 x2 x3:Value} (hB:B < w.heap.size) (h:NextMid5 w w5 B tb p1 p2 u v) (hS:StandsAt w5 B s (g + n)) (hr:s.extract g s.size = r) (hp:pos s.data.toList g = (p1,p2)) (hn:g + n <= s.size) :
 NextGood w B s g kd n (.returned (.tuple #[.agg #[.int .i64 kd,.string (r.extract 0 n),.int .i64 p1,.int .i64 p2],.int .i64 0]))
  ((((w5.setCell ⟨w.heap.size,0,none⟩ x0).setCell ⟨w.heap.size,1,none⟩ x1).setCell ⟨w.heap.size,2,none⟩ x2).setCell ⟨w.heap.size,3,none⟩ x3):=by
 have hb:∀ (W:World) (j:Nat) (x:Value),(W.setCell ⟨w.heap.size,j,none⟩ x).heap[B]?=W.heap[B]?:=fun W j x=>Below.heap_setCell _ _ _ _ (Nat.ne_of_lt hB)
 refine ⟨?_,?_,QJ (QJ (QJ (QJ h.but (Nat.le_refl _) _ _) (Nat.le_refl _) _ _) (Nat.le_refl _) _ _) (Nat.le_refl _) _ _⟩
 ·subst hr
  rw [Qf3 s g n hn,tokA,hp]
 ·exact (hb _ _ _).trans ((hb _ _ _).trans ((hb _ _ _).trans ((hb _ _ _).trans hS)))
theorem QfK (B i:Nat) (s:ByteArray) (w:World) (hi:i <= s.size) (hs:s.size <= 9223372036854775800) (h:StandsAt w B s i) (kd:Int) (n:Nat)
 (hn:gap s.data.toList i+n<=s.size) (hl:∀ k,k<n->∃ c,s.data.toList[gap s.data.toList i+k]?=some c/\c.toNat≠10)
 (hF:∀ w',w.grownBy w' (some B)->Calls Tryz.prog 76 #[.string (s.extract (gap s.data.toList i) s.size)] w' fun e w2=>e = .returned (.tuple #[.int .i64 kd,.int .i64 n,.int .i64 0])/\w'=w2) :
 Calls Tryz.prog 40 #[.pointer (some ⟨B,0,none⟩)] w (NextGood w B s (gap s.data.toList i) kd n):=by
 have HS:=qh (fun w h=>Qhm B i s w hi hs h);have hBlt:=h.lt;have HSt:=qh h;obtain ⟨g,hg⟩:∃ g,g=gap s.data.toList i:=⟨_,rfl⟩;rw [<- hg] at hn hl hF ⊢;obtain ⟨r,hr⟩:∃ r,s.extract g s.size=r:=⟨_,rfl⟩;obtain ⟨p1,p2,hp⟩:∃ p1 p2,pos s.data.toList g=(p1,p2):=⟨_,_,rfl⟩;have hrs:r.size+g=s.size:=by rw [<- hr,Zl]; omega
 have hpb:=pos_bd s.data.toList g;rw [hp] at hpb;obtain ⟨b1,b2,b3,b4⟩:=hpb;simp only at b1 b2 b3 b4;rw [hr] at hF;have HP:=qh hp;have HRr:=qh hr;have HGp:=qh hg;have HL:=qh hl;have HF:=qh hF;have hnr:n<=r.size:=by omega
 have hnI:(n:Int)<=(r.size:Int):=by omega
 have HPs:=qh (fun w h=>QaB B r n p1 p2 w h (by omega) (by omega) (by omega) (by omega));clear h hg hl hF hp hr;go_enter Tryz.func40,Tryz.ntmps40;go_wp2_with fail;refine (HS.o _ (by exact (heap_alloc_old _ _ hBlt).trans HSt.o)).mono ?_;rintro e w2 ⟨rfl,hR2,hb2⟩;rw [<- HGp.o] at hR2;have HM:=qh (Qis hBlt hR2 HRr.o HP.o hb2);have c0:w2.cell? ⟨B,0,none⟩=some (.string r):=by have:=Qb hR2 (i:=0) rfl; rwa [HRr.o] at this
 have c1:w2.cell? ⟨B,1,none⟩=some (.int .i64 p1):=by have:=Qb hR2 (i:=1) rfl; rwa [HP.o] at this
 have c2:w2.cell? ⟨B,2,none⟩=some (.int .i64 p2):=by have:=Qb hR2 (i:=2) rfl; rwa [HP.o] at this
 have hB2:=hR2.lt;clear hR2 hb2;go_wp2_with fail;refine (HF.o _ HM.o.but).mono ?_;rintro e w' ⟨rfl,rfl⟩;obtain ⟨tb,htb⟩:∃ tb,tb=w2.heap.size:=⟨_,rfl⟩;generalize hW3:w2.alloc (tokH p1 p2)=w3 at HM ⊢;rw [<- htb] at HM ⊢;clear hW3 c0 c1 c2 htb hB2;have c0:w3.cell? ⟨B,0,none⟩=some (.string r):=Qb HM.o.rdr (i:=0) rfl;have t0:=Qb HM.o.tok (i:=0) rfl;have t1:=Qb HM.o.tok (i:=1) rfl;have f0:=Qf HM.o.tok 0;have f1:=Qf HM.o.tok 1;have q0:(w3.setCell ⟨tb,0,none⟩ (.int .i64 kd)).heap[tb]?=some (.cells #[.int .i64 kd,.string ⟨#[]⟩,.int .i64 p1,.int .i64 p2] 76 (0,0)):=Qd HM.o.tok 0 _;have d0:(w3.setCell ⟨tb,0,none⟩ (.int .i64 kd)).cell? ⟨B,0,none⟩=some (.string r):=Qb ((Below.heap_setCell _ _ _ _ HM.o.bne).trans HM.o.rdr) (i:=0) rfl;have d1:=Qb q0 (i:=1) rfl;have g1:=Qf q0 1;clear q0;go_wp2_with fail;go_region;have hT4:((w3.setCell ⟨tb,0,none⟩ (.int .i64 kd)).setCell ⟨tb,1,none⟩ (.string (r.extract 0 n))).heap[tb]?=some (.cells #[.int .i64 kd,.string (r.extract 0 n),.int .i64 p1,.int .i64 p2] 76 (0,0)):=Qd (Qd HM.o.tok 0 _) 1 _
 have HM4:Hid (NextMid4 w ((w3.setCell ⟨tb,0,none⟩ (.int .i64 kd)).setCell ⟨tb,1,none⟩ (.string (r.extract 0 n))).drew B tb r p1 p2 (.int .i64 kd) (.string (r.extract 0 n))) :=
  qh ⟨(Below.heap_setCell _ _ _ _ HM.o.bne).trans ((Below.heap_setCell _ _ _ _ HM.o.bne).trans HM.o.rdr),hT4,(Below.heap_setCell _ _ _ _ (Nat.ne_of_lt HM.o.lt)).trans ((Below.heap_setCell _ _ _ _ (Nat.ne_of_lt HM.o.lt)).trans HM.o.res),
   Qba (QJ (QJ HM.o.but (Nat.le_of_lt HM.o.lt) _ _) (Nat.le_of_lt HM.o.lt) _ _),HM.o.lt,HM.o.bne⟩
 clear hT4 d0 d1 g1 c0 t0 t1 f0 f1;generalize ((w3.setCell ⟨tb,0,none⟩ (.int .i64 kd)).setCell ⟨tb,1,none⟩ (.string (r.extract 0 n))).drew=w4 at HM4 ⊢;go_wp2_with fail;refine (HPs.o _ HM4.o.rdr).mono ?_;rintro e w5 ⟨rfl,hR5,hb5⟩;have HM5:=qh (next_past hBlt HM4.o hb5);have HR5:=qh (QcW hR5 HRr.o.symm (by rw [QcX _ HL.o,HP.o]));clear hR5 hb5;have c0:=Qb HM5.o.tok (i:=0) rfl;have c1:=Qb HM5.o.tok (i:=1) rfl;have c2:=Qb HM5.o.tok (i:=2) rfl;have c3:=Qb HM5.o.tok (i:=3) rfl;have r0:=Qb HM5.o.res (i:=0) rfl;have r1:=Qb HM5.o.res (i:=1) rfl;have r2:=Qb HM5.o.res (i:=2) rfl;have r3:=Qb HM5.o.res (i:=3) rfl;have f0:=Qf HM5.o.res 0;have f1:=Qf HM5.o.res 1;have f2:=Qf HM5.o.res 2;have f3:=Qf HM5.o.res 3;go_wp2_with fail;have q0:=fun u=>(Q0 HM5.o.res u u u u).1
 have q1:=fun u v=>(Q0 HM5.o.res u v v v).2.1
 have q2:=fun u v x=>(Q0 HM5.o.res u v x x).2.2.1
 have q3:=fun u v x y=>(Q0 HM5.o.res u v x y).2.2.2
 refine bodyPost_ret (v:=.tuple #[.agg #[.int .i64 kd,.string (r.extract 0 n),.int .i64 p1,.int .i64 p2],.int .i64 0]) (by simp [results,Tryz.results40,go_sem,q0,q1,q2,q3]) rfl ?_;exact next_fin hBlt HM5.o HR5.o HRr.o HP.o hn
def NextBad (w:World) (B:Nat) (s:ByteArray) (i:Nat) (er:Int) (e:Ending) (w':World):Prop :=
 e = .returned (.tuple #[.agg #[.int .i64 0,.string ⟨#[]⟩,.int .i64 (pos s.data.toList i).1,.int .i64 (pos s.data.toList i).2],.int .i64 er])/\w.grownBy w' (some B)
theorem next_bad (B i:Nat) (s:ByteArray) (w:World) (hi:i <= s.size) (hs:s.size <= 9223372036854775800) (h:StandsAt w B s i) (er:Int) (hne:er ≠ 0)
 (hF:∀ w',w.grownBy w' (some B)->Calls Tryz.prog 76 #[.string (s.extract (gap s.data.toList i) s.size)] w' fun e w2=>e = .returned (.tuple #[.int .i64 0,.int .i64 0,.int .i64 er])/\w'=w2) :
 Calls Tryz.prog 40 #[.pointer (some ⟨B,0,none⟩)] w (NextBad w B s (gap s.data.toList i) er):=by
 have HS:=qh (fun w h=>Qhm B i s w hi hs h);have hBlt:=h.lt;have HSt:=qh h;obtain ⟨g,hg⟩:∃ g,g=gap s.data.toList i:=⟨_,rfl⟩;rw [<- hg] at hF ⊢;obtain ⟨r,hr⟩:∃ r,s.extract g s.size=r:=⟨_,rfl⟩;obtain ⟨p1,p2,hp⟩:∃ p1 p2,pos s.data.toList g=(p1,p2):=⟨_,_,rfl⟩;rw [hr] at hF;have HP:=qh hp;have HRr:=qh hr;have HGp:=qh hg;have HF:=qh hF;have e0:(er==0)=false:=by simpa using hne
 have e1:(er != 0)=true:=by simpa using hne
 clear h hg hF hp hr hne;go_enter Tryz.func40,Tryz.ntmps40;go_wp2_with fail;refine (HS.o _ (by exact (heap_alloc_old _ _ hBlt).trans HSt.o)).mono ?_;rintro e w2 ⟨rfl,hR2,hb2⟩;rw [<- HGp.o] at hR2;have HM:=qh (Qis hBlt hR2 HRr.o HP.o hb2);have c0:w2.cell? ⟨B,0,none⟩=some (.string r):=by have:=Qb hR2 (i:=0) rfl; rwa [HRr.o] at this
 have c1:w2.cell? ⟨B,1,none⟩=some (.int .i64 p1):=by have:=Qb hR2 (i:=1) rfl; rwa [HP.o] at this
 have c2:w2.cell? ⟨B,2,none⟩=some (.int .i64 p2):=by have:=Qb hR2 (i:=2) rfl; rwa [HP.o] at this
 have hB2:=hR2.lt;clear hR2 hb2;go_wp2_with fail;refine (HF.o _ HM.o.but).mono ?_;rintro e w' ⟨rfl,rfl⟩;obtain ⟨tb,htb⟩:∃ tb,tb=w2.heap.size:=⟨_,rfl⟩;generalize hW3:w2.alloc (tokH p1 p2)=w3 at HM ⊢;rw [<- htb] at HM ⊢;clear hW3 c0 c1 c2 htb hB2;have c0:=Qb HM.o.tok (i:=0) rfl;have c1:=Qb HM.o.tok (i:=1) rfl;have c2:=Qb HM.o.tok (i:=2) rfl;have c3:=Qb HM.o.tok (i:=3) rfl;have r0:=Qb HM.o.res (i:=0) rfl;have r1:=Qb HM.o.res (i:=1) rfl;have r2:=Qb HM.o.res (i:=2) rfl;have r3:=Qb HM.o.res (i:=3) rfl;have f0:=Qf HM.o.res 0;have f1:=Qf HM.o.res 1;have f2:=Qf HM.o.res 2;have f3:=Qf HM.o.res 3;go_wp2_with fail;have q0:=fun u=>(Q0 HM.o.res u u u u).1
 have q1:=fun u v=>(Q0 HM.o.res u v v v).2.1
 have q2:=fun u v x=>(Q0 HM.o.res u v x x).2.2.1
 have q3:=fun u v x y=>(Q0 HM.o.res u v x y).2.2.2
 refine bodyPost_ret (v:=.tuple #[.agg #[.int .i64 0,.string ⟨#[]⟩,.int .i64 p1,.int .i64 p2],.int .i64 er]) (by simp [results,Tryz.results40,go_sem,q0,q1,q2,q3]) rfl ?_;exact ⟨by rw [HP.o],QJ (QJ (QJ (QJ HM.o.but (Nat.le_refl _) _ _) (Nat.le_refl _) _ _) (Nat.le_refl _) _ _) (Nat.le_refl _) _ _⟩
end
end Go.Proofs.YtbdalbpackfejaaGreatDoor
