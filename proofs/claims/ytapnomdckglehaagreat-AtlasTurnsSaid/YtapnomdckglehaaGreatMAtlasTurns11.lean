/- GroupOps, EvalOps2, EvalNone, EvalReckon, EvalCheck, EvalLight, ActLight, CurNew, ScanSpec, ScanRef, ScanRefOne, ScanRefToks, ScanProgSpec, ScanFirst, ScanMark, ScanNext, ScanRead, ScanToks, ExprParse, ExprScan, ActScan, TransScan, PrintSpec, PrintLight, PrintMem, AtlasMem, joined. -/
import Derived.Test.YtapnomdckglehaaGreatMAtlasTurns07
import Derived.Test.YtapnomdckglehaaGreatMAtlasTurns10
import Derived.Test.YtapnomdckglehaaGreatMAtlasTurns02
import Derived.Laws.Bits64b
import Derived.Laws.BitsAllLaws
import Derived.Deep.DeepFit
import Derived.Laws.Bits128
import Derived.Shelf.Spec.TrailingZeros
import Derived.Test.YtapnomdckglehaaGreatMAtlasTurns04
import Derived.Test.YtapnomdckglehaaGreatMAtlasTurns03
import Derived.BigQuiet
import Derived.Deep.QuietTactic
import Derived.Test.YtapnomdckglehaaGreatMAtlasTurns05
import Derived.Lib.QuietBelow
import Derived.Test.YtapnomdckglehaaGreatMAtlasTurns01
import Derived.Deep.AppendLies
import Derived.Laws.MakeOwn
import Derived.OwnWalk
import Derived.Test.YtapnomdckglehaaGreatMAtlasTurns00
import Derived.Test.YtapnomdckglehaaGreatRows
import Derived.IntWalk
import Derived.Deep.RegionHeld3
import Derived.Lib.Bytealg
import Derived.Lib.Strings
import Derived.Test.YtapnomdckglehaaGreatShelf
import Derived.RegionTactic
import Derived.ChangeAlike
import Derived.Deep.LoopGhost
import Derived.Test.YtapnomdckglehaaGreatMAtlasTurns06
import Derived.Test.YtapnomdckglehaaGreatMAtlasTurns08
import Derived.Test.YtapnomdckglehaaGreatMAtlasTurns09
namespace Go.Proofs.YtapnomdckglehaaGreat
open Go.RowKit GroupSpec
set_option maxRecDepth 100000
def SameU (w:World) (m:Nat) (e:Ending) (w':World):Prop:=e = .returned (.int .u64 m) ∧ w = w'
theorem shl_alone {i:Int} (h:0 ≤ i):IntKind.u64.wrap (2 ^ min i.toNat 64) = (aloneG i:Int):=by
 rw [IntKind.wrap_u64]
 unfold aloneG
 by_cases h1:i ≤ 63
 ·have hk:i.toNat < 64:=by omega
  rw [if_pos ⟨h,h1⟩,Nat.min_eq_left (by omega)]
  have hp:2 ^ i.toNat < 2 ^ 64:=Nat.pow_lt_pow_right (by decide) hk
  have e:((2:Int) ^ i.toNat) = ((2 ^ i.toNat:Nat):Int):=by simp
  rw [e]
  generalize (2:Nat) ^ i.toNat = q at hp ⊢
  omega
 ·rw [if_neg (by omega),Nat.min_eq_right (by omega)]
  rfl
set_option maxHeartbeats 1000000 in
theorem alone_any (i:Int) (w:World):Calls Tryz.prog 44 #[.int .i64 i] w (SameU w (aloneG i)):=by
 by_cases h:i < 0
 ·have HE:Hid (aloneG i = 0):=Lib.hid (by unfold aloneG; rw [if_neg (by omega)])
  go_enter Tryz.func44,Tryz.ntmps44
  go_wp2
  go_ret
  exact ⟨by rw [HE.out]; rfl,rfl⟩
 ·have hn:0 ≤ i:=by omega
  go_enter Tryz.func44,Tryz.ntmps44
  go_wp2
  go_ret
  exact ⟨by rw [← shl_alone hn]; rfl,rfl⟩
theorem ne_cast (x:Nat):((x:Int) != 0) = decide (x ≠ 0):=by
 rw [Bool.eq_iff_iff]; simp
theorem of_same {w:World} {m:Nat} {x:Int} (h:x = (m:Int)):SameU w m (.returned (.int .u64 x)) w:=⟨by rw [h],rfl⟩
set_option maxHeartbeats 1000000 in
theorem ghas_any (m:Nat) (i:Int) (hm:m < 18446744073709551616) (w:World):Calls Tryz.prog 26 #[.int .u64 m,.int .i64 i] w (SameB w (hasG m i)):=by
 have HA:=Lib.hid (alone_any i w)
 have hb:bits .and .u64 (m:Int) (aloneG i:Int) = ((m &&& aloneG i:Nat):Int):=bits_and_u64_nat m _ hm (aloneG_lt i)
 have HE:=Lib.hid (has_and (m:=m) i)
 go_enter Tryz.func26,Tryz.ntmps26
 go_wp2_with (go_at_call 44; go_fit (HA.out); rintro e w' ⟨rfl,rfl⟩)
 go_ret
 exact ⟨by rw [← HE.out,← ne_cast]; rfl,rfl⟩
set_option maxHeartbeats 1000000 in
theorem with_any (m:Nat) (i:Int) (hm:m < 18446744073709551616) (w:World):Calls Tryz.prog 68 #[.int .u64 m,.int .i64 i] w (SameU w (withG m i)):=by
 have HA:=Lib.hid (alone_any i w)
 have HB:=Lib.hid (bits_or_u64_nat m _ hm (aloneG_lt i))
 have HE:=Lib.hid (with_or m i)
 go_enter Tryz.func68,Tryz.ntmps68
 go_wp2_with (go_at_call 44; go_fit (HA.out); rintro e w' ⟨rfl,rfl⟩)
 go_ret
 exact of_same (by rw [← HE.out]; exact HB.out)
theorem take_foldl {l:List Int} {k:Nat} {x:Int} (h:l[k]? = some x):(l.take (k + 1)).foldl withG 0 = withG ((l.take k).foldl withG 0) x:=by
 rw [take_next h,List.foldl_append]
 rfl
set_option maxHeartbeats 1000000 in
theorem of_any (v:Value) (l:List Int) (w:World) (h:Rd w v (intV l)) (hm:l.length ≤ 9223372036854775807) :
 Calls Tryz.prog 66 #[v] w (SameU w (ofG l)):=by
 obtain ⟨A,n,c,rfl,hn,hc,hA⟩:=h.ints
 have HA:=Lib.hid hA
 have HN:=Lib.hid hn
 have hm':n ≤ 9223372036854775807:=by omega
 clear hA hn h hc hm
 go_enter Tryz.func66,Tryz.ntmps66
 go_wp2
 go_loop [3,5,8] (fun m _ i => ∃ k:Nat,k ≤ n ∧ i = .int .i64 k ∧ m = .int .u64 ((l.take k).foldl withG 0:Nat)) (fun _ _ i => n - (RowKit.intOf i).toNat)
 case atStart => exact ⟨0,Nat.zero_le _,rfl,rfl⟩
 case round =>
  obtain ⟨k,hk,rfl,rfl⟩:=hrel
  by_cases hlt:k < n
  ·obtain ⟨b,off,rfl,hb,hcell⟩:=HA.out (by omega)
   obtain ⟨x,hx⟩:∃ x,l[k]? = some x:=get_some (by have:=HN.out; omega)
   have hck:=hcell k x hx
   have HX:=Lib.hid hx
   have HW:=Lib.hid (with_any ((l.take k).foldl withG 0) x (foldl_lt _ (by decide)) w)
   have hE:=take_foldl hx
   obtain ⟨m,hM⟩:∃ m,m = (l.take k).foldl withG 0:=⟨_,rfl⟩
   rw [← hM] at hE HW ⊢
   have HE:=Lib.hid hE
   clear hcell hx hE hM
   go_wp2_with (go_at_call 68; go_fit (HW.out); rintro e w' ⟨rfl,rfl⟩)
   go_round
   case rel => exact ⟨k + 1,by omega,by go_num,by rw [HE.out]⟩
   case measure => simp [RowKit.intOf]; omega
  ·go_wp2
   go_ret
   have:=HN.out
   exact of_same (by rw [List.take_of_length_le (by omega),of_foldl])
end Go.Proofs.YtapnomdckglehaaGreat
namespace Go.Proofs.YtapnomdckglehaaGreat
open Go.RowKit TermSpec EvalSpec ValSpec
end Go.Proofs.YtapnomdckglehaaGreat
namespace Go.Proofs.YtapnomdckglehaaGreat
open Go.RowKit TermSpec EvalSpec NamesSpec Go.Lib ValSpec
end Go.Proofs.YtapnomdckglehaaGreat
namespace Go.Proofs.YtapnomdckglehaaGreat
open Go.RowKit TermSpec EvalSpec NamesSpec Go.Lib ValSpec
end Go.Proofs.YtapnomdckglehaaGreat
namespace Go.Proofs.YtapnomdckglehaaGreat
open Go.RowKit TermSpec EvalSpec NamesSpec
end Go.Proofs.YtapnomdckglehaaGreat
namespace Go.Proofs.YtapnomdckglehaaGreat
open Go.RowKit TermSpec EvalSpec
end Go.Proofs.YtapnomdckglehaaGreat
namespace Go.Proofs.YtapnomdckglehaaGreat
open Go.RowKit TermSpec EvalSpec ActSpec NamesSpec
end Go.Proofs.YtapnomdckglehaaGreat
namespace Go.Proofs.YtapnomdckglehaaGreat
open Go.RowKit CurSpec
end Go.Proofs.YtapnomdckglehaaGreat
namespace Go.Proofs.YtapnomdckglehaaGreat
namespace ScanSpec
def isLow (c:UInt8):Bool:=decide (97 ≤ (c.toNat:Int)) && decide ((c.toNat:Int) ≤ 122)
def isDig (c:UInt8):Bool:=decide (48 ≤ (c.toNat:Int)) && decide ((c.toNat:Int) ≤ 57)
def isBlank (c:UInt8):Bool:=(c.toNat == 32 || c.toNat == 9) || c.toNat == 10 || c.toNat == 13
def clsB (c:UInt8):Int:=if isLow c then 1 else if isDig c then 2 else if c.toNat = 95 then 3 else if isBlank c then 4 else if c.toNat = 35 then 5 else 0
def cls (l:List UInt8) (i:Nat):Int:=match l[i]? with | some c => clsB c | none => 0
def run (p:UInt8 → Bool):List UInt8 → Nat
 | [] => 0
 | c :: t => if p c then run p t + 1 else 0
def isWord (c:UInt8):Bool:=decide (1 ≤ clsB c) && decide (clsB c ≤ 3)
def isNum (c:UInt8):Bool:=decide (clsB c = 2)
def marks:List (List UInt8):=[[45,62],[58,61],[60,61],[62,61],[33,61],[61,61],[46,46],[123],[125],[91],[93],[40],[41],[44],[59],[61],[60],[62],[43],[45],[42],[47]]
def markLen (d:List UInt8):Nat:=match marks.find? fun m => m.isPrefixOf d with | some m => m.length | none => 0
def one (d:List UInt8):Int × Nat × Int :=
 if cls d 0 = 1 then (if 12 < run isWord d then (0,0,5) else (1,run isWord d,0))
 else if cls d 0 = 2 then (if cls d (run isNum d) = 1 ∨ cls d (run isNum d) = 3 then (0,0,2) else if 9 < run isNum d then (0,0,5) else (2,run isNum d,0))
 else if markLen d = 0 then (0,0,2) else (3,markLen d,0)
def posGo:List UInt8 → Int × Int → Int × Int
 | [],p => p
 | c :: t,p => posGo t (if c.toNat = 10 then (p.1 + 1,1) else (p.1,p.2 + 1))
def pos (l:List UInt8) (i:Nat):Int × Int:=posGo (l.take i) (1,1)
end ScanSpec
end Go.Proofs.YtapnomdckglehaaGreat
namespace Go.Proofs.YtapnomdckglehaaGreat
open Go.RowKit ScanSpec
end Go.Proofs.YtapnomdckglehaaGreat
namespace Go.Proofs.YtapnomdckglehaaGreat
open Go.RowKit ScanSpec Go.BigFrame
end Go.Proofs.YtapnomdckglehaaGreat
namespace Go.Proofs.YtapnomdckglehaaGreat
open Go.RowKit ScanSpec
end Go.Proofs.YtapnomdckglehaaGreat
namespace Go.Proofs.YtapnomdckglehaaGreat
open Go.RowKit ScanSpec
end Go.Proofs.YtapnomdckglehaaGreat
namespace Go.Proofs.YtapnomdckglehaaGreat
open Go.RowKit ScanSpec
end Go.Proofs.YtapnomdckglehaaGreat
namespace Go.Proofs.YtapnomdckglehaaGreat
open Go.RowKit ScanSpec
set_option maxRecDepth 100000
end Go.Proofs.YtapnomdckglehaaGreat
namespace Go.Proofs.YtapnomdckglehaaGreat
open Go.RowKit ScanSpec
end Go.Proofs.YtapnomdckglehaaGreat
namespace Go.Proofs.YtapnomdckglehaaGreat
open Go.RowKit ScanSpec
end Go.Proofs.YtapnomdckglehaaGreat
namespace Go.Proofs.YtapnomdckglehaaGreat
open Go.RowKit ScanSpec
end Go.Proofs.YtapnomdckglehaaGreat
namespace Go.Proofs.YtapnomdckglehaaGreat
open Go.RowKit CurSpec TermSpec ExprSpec NamesSpec ScanSpec
theorem Tms.but {w w':World} {A:Option Addr} {n cp B:Nat} {l:List Tm} (h:Tms w (.slice A n cp) l) (hb:w.grownBy w' (some B)) (hne:(Value.slice A n cp).ownBlock ≠ some B):Tms w' (.slice A n cp) l:=by
 obtain ⟨m,hm,A',c',heq,hc,hl,hA⟩:=h
 cases heq
 refine ⟨n,hm,A,cp,rfl,hc,hl,fun h0 => ?_⟩
 obtain ⟨b,off,rfl,hlt,hcell⟩:=hA h0
 refine ⟨b,off,rfl,Nat.lt_of_lt_of_le hlt hb.size,fun j u hj => ?_⟩
 rw [← hcell j u hj]
 have:=hb.block b hlt (fun e => hne (by rw [← e]; rfl))
 simp [World.cell?,this]
end Go.Proofs.YtapnomdckglehaaGreat
namespace Go.Proofs.YtapnomdckglehaaGreat
namespace ExprSpec
open CurSpec TermSpec ScanSpec
abbrev T (s:ByteArray):List UInt8:=s.data.toList
end ExprSpec
end Go.Proofs.YtapnomdckglehaaGreat
namespace Go.Proofs.YtapnomdckglehaaGreat
namespace ActSpec
open CurSpec TermSpec EvalSpec NamesSpec ExprSpec ScanSpec
end ActSpec
end Go.Proofs.YtapnomdckglehaaGreat
namespace Go.Proofs.YtapnomdckglehaaGreat
namespace TransSpec
open CurSpec TermSpec EvalSpec NamesSpec ExprSpec ScanSpec ActSpec
def Behind (c:Cur) (ws:List ByteArray):Prop:=(next c).k = 3 ∧ (next c).t ∈ ws
end TransSpec
end Go.Proofs.YtapnomdckglehaaGreat
namespace Go.Proofs.YtapnomdckglehaaGreat
namespace PrintSpec
open CurSpec TermSpec EvalSpec NamesSpec ExprSpec ScanSpec ActSpec TransSpec SynSpec
open ShapeSpec (Sh up sf endOf)
def shOf (s:Sx):Sh:=⟨s.kind,s.par⟩
def smallV (n:Int):Bool:=decide (-1000 ≤ n) && decide (n ≤ 1000)
def okV (v:Vr):Bool:=isName v.s.data.toList && (smallV v.lo && (smallV v.hi && smallV v.ini))
def okS (s:Sx):Bool:=isName s.s.data.toList && (decide (chkA s.en = 0) && (decide (chkA s.ex = 0) && (decide (s.tr.length ≤ 16) && s.tr.all fun t => decide (chkT t = 0))))
def mayC (x:Cx):Bool :=
 isName x.s.data.toList && (decide (x.evs.length ≤ 8) && (decide (x.vars.length ≤ 4) && (decide (ShapeSpec.chk (x.sts.map shOf) = 0) && ((x.evs.all fun e => isName e.data.toList) && (x.vars.all okV && x.sts.all okS)))))
structure Ts where
 s:ByteArray
 kind:Int
 par:Int
 en:List Ta
 ex:List Ta
 tr:List Tt
def Ts.sx (t:Ts):Sx:=⟨t.s,t.kind,t.par,t.en.map Ta.ac,t.ex.map Ta.ac,t.tr.map Tt.tr⟩
structure Ts.Ok (t:Ts):Prop where
 nm:isName t.s.data.toList = true
 en:∀ a ∈ t.en,a.Ok
 enf:t.en.length ≤ 8
 ex:∀ a ∈ t.ex,a.Ok
 exf:t.ex.length ≤ 8
 tr:∀ a ∈ t.tr,a.Ok
 trf:t.tr.length ≤ 16
structure Tc where
 s:ByteArray
 evs:List ByteArray
 vars:List Vr
 sts:List Ts
def Tc.sh (c:Tc):List Sh:=c.sts.map fun t => ⟨t.kind,t.par⟩
structure Tc.Ok (c:Tc):Prop where
 nm:isName c.s.data.toList = true
 evf:c.evs.length ≤ 8
 vaf:c.vars.length ≤ 4
 sh:ShapeSpec.chk c.sh = 0
 evs:∀ e ∈ c.evs,isName e.data.toList = true
 vars:∀ v ∈ c.vars,okV v = true
 sts:∀ t ∈ c.sts,t.Ok
section
variable (sh:List Sh)
end
section
variable (sh:List Sh)
end
end PrintSpec
end Go.Proofs.YtapnomdckglehaaGreat
namespace Go.Proofs.YtapnomdckglehaaGreat
open Go.RowKit TermSpec EvalSpec ActSpec NamesSpec ExprSpec TransSpec SynSpec PrintSpec
set_option maxRecDepth 100000
def termsW (l:List Tm):Nat:=if 45 < l.length then 1000 else if l.any (fun t => decide (100 < t.s.size)) then 1000 else l.length
def actW (a:Ac):Nat:=1 + termsW a.x + if 100 < a.s.size then 1000 else 0
def weighA (l:List Ac):Nat:=(l.map actW).sum
theorem termsW_le (l:List Tm):termsW l ≤ 1000:=by
 unfold termsW
 split
 ·omega
 ·split <;> omega
theorem termsW_many {l:List Tm} (h:45 < l.length):termsW l = 1000:=if_pos h
theorem termsW_hit {l:List Tm} {k:Nat} {t:Tm} (h:¬ 45 < l.length) (hk:l[k]? = some t) (ht:100 < t.s.size):termsW l = 1000:=by
 unfold termsW
 rw [if_neg h,if_pos]
 rw [List.any_eq_true]
 exact ⟨t,List.mem_of_getElem? hk,by simpa using ht⟩
theorem termsW_none {l:List Tm} (h:¬ 45 < l.length) (ha:l.any (fun t => decide (100 < t.s.size)) = false):termsW l = l.length:=by
 unfold termsW
 rw [if_neg h,ha]
 rfl
theorem any_next {α:Type} {f:α → Bool} {l:List α} {k:Nat} {x:α} (hx:l[k]? = some x) (h:(l.take k).any f = false) (hf:f x = false):(l.take (k + 1)).any f = false:=by
 rw [take_next hx,List.any_append,h]
 simp [hf]
set_option maxHeartbeats 1000000 in
theorem terms_any (A:Option Addr) (n c:Nat) (l:List Tm) (w:World) (h:Tms w (.slice A n c) l) (hs:Small l):Calls Tryz.prog 29 #[.slice A n c] w (SameI w (termsW l)):=by
 obtain ⟨A',n',c',heq,hn,hc⟩:=h.shape
 cases heq
 have HT:=Lib.hid h
 have HS:=Lib.hid hs
 have HN:=Lib.hid hn
 by_cases h45:45 < n
 ·have g:decide (45 < (n:Int)) = true:=by simp; omega
  have HE:=Lib.hid (termsW_many (l:=l) (by omega))
  clear h hs hn
  go_enter Tryz.func29,Tryz.ntmps29
  go_wp2_with fail
  go_ret
  exact ⟨by rw [HE.out]; rfl,rfl⟩
 ·have g:decide (45 < (n:Int)) = false:=by simp; omega
  have HK:Hid (∀ (k:Nat) (t:Tm),l[k]? = some t → 100 < t.s.size → termsW l = 1000):=Lib.hid fun k t hk ht => termsW_hit (by omega) hk ht
  have HZ:Hid (l.any (fun t => decide (100 < t.s.size)) = false → termsW l = n):=Lib.hid fun ha => by rw [termsW_none (by omega) ha,hn]
  obtain ⟨r,hr⟩:∃ r,r = termsW l:=⟨_,rfl⟩
  rw [← hr] at HK HZ ⊢
  clear h hs hn hr
  go_enter Tryz.func29,Tryz.ntmps29
  go_wp2_with fail
  go_loop [3] (fun i => ∃ k:Nat,k ≤ n ∧ i = .int .i64 k ∧ Hid ((l.take k).any (fun t => decide (100 < t.s.size)) = false)) (fun i => n - (intOf i).toNat)
  case atStart => exact ⟨0,Nat.zero_le _,rfl,Lib.hid rfl⟩
  case round =>
   obtain ⟨k,hk,rfl,HA⟩:=hrel
   by_cases hlt:k < n
   ·obtain ⟨t,ht⟩:∃ t,l[k]? = some t:=get_some (by rw [← HN.out]; exact hlt)
    obtain ⟨b,off,rfl,hb,c0,c1,c2⟩:=HT.out.at_ ht
    have hsz:=HS.out t (List.mem_of_getElem? ht)
    by_cases h1:100 < t.s.size
    ·have HE:=Lib.hid (HK.out k t ht h1)
     have g1:decide (100 < (t.s.size:Int)) = true:=by simp; omega
     clear ht
     go_wp2_with fail
     go_ret
     exact ⟨by rw [HE.out]; rfl,rfl⟩
    ·have HX:=Lib.hid (any_next ht HA.out (f:=fun t => decide (100 < t.s.size)) (by simpa using h1))
     have g1:decide (100 < (t.s.size:Int)) = false:=by simp; omega
     clear ht
     go_wp2_with fail
     go_round
     case rel => exact ⟨k + 1,by omega,by go_num,HX⟩
     case measure => simp [intOf]; omega
   ·have HE:Hid (r = n):=Lib.hid (by
     refine HZ.out ?_
     have:=HA.out
     rwa [List.take_of_length_le (by rw [← HN.out]; omega)] at this)
    go_wp2_with fail
    go_ret
    exact ⟨by rw [HE.out]; rfl,rfl⟩
theorem weigh_next {l:List Ac} {k:Nat} {a:Ac} (h:l[k]? = some a):weighA (l.take (k + 1)) = weighA (l.take k) + (1 + termsW a.x + if 100 < a.s.size then 1000 else 0):=by
 rw [take_next h]
 simp [weighA,actW]
theorem weigh_le (l:List Ac):weighA l ≤ 2001 * l.length:=by
 induction l with
 | nil => simp [weighA]
 | cons a r ih =>
   have:=termsW_le a.x
   unfold weighA at ih ⊢
   rw [List.map_cons,List.sum_cons,List.length_cons]
   have:actW a ≤ 2001:=by unfold actW; split <;> omega
   omega
def WeighRel (l:List Ac) (n:Nat) (s i:Value):Prop:=∃ k:Nat,k ≤ n ∧ i = .int .i64 k ∧ s = .int .i64 (weighA (l.take k))
set_option maxHeartbeats 1000000 in
theorem weigh_any (A:Option Addr) (n c:Nat) (l:List Ac) (w:World) (h:Acs w (.slice A n c) l) (hs:∀ a ∈ l,a.s.size ≤ 9223372036854775807 ∧ Small a.x) (h10:n ≤ 1000):Calls Tryz.prog 28 #[.slice A n c] w (SameI w (weighA l)):=by
 have hn:=h.len.1
 have hcap:=h.len.2
 have HN:=Lib.hid hn
 have HT:=Lib.hid h
 have HS:=Lib.hid hs
 clear hn h hs
 go_enter Tryz.func28,Tryz.ntmps28
 go_wp2_with fail
 go_loop [3,4] (fun s i => WeighRel l n s i) (fun _ i => n - (intOf i).toNat)
 case atStart => exact ⟨0,Nat.zero_le _,rfl,rfl⟩
 case round =>
  obtain ⟨k,hk,rfl,rfl⟩:=hrel
  by_cases hlt:k < n
  ·obtain ⟨a,ha⟩:∃ a,l[k]? = some a:=get_some (by rw [← HN.out]; exact hlt)
   obtain ⟨b,off,xA,xn,xc,rfl,hb,htm,c0,c1,c2⟩:=HT.out.at_ ha
   have hsz:=HS.out a (List.mem_of_getElem? ha)
   have HC:=Lib.hid (terms_any xA xn xc a.x w htm hsz.2)
   have hx:=termsW_le a.x
   have HX:=Lib.hid (weigh_next ha)
   have hle:=weigh_le (l.take k)
   rw [List.length_take] at hle
   obtain ⟨s,hsum⟩:∃ s,s = weighA (l.take k):=⟨_,rfl⟩
   rw [← hsum] at HX hle ⊢
   have hle':s ≤ 2001000:=by omega
   obtain ⟨q,hq⟩:∃ q,q = termsW a.x:=⟨_,rfl⟩
   rw [← hq] at HC HX hx
   have hs1:=hsz.1
   obtain ⟨nm,any,x⟩:=a
   simp only at c0 c1 c2 HX hs1
   clear ha htm hsz hle hsum hq
   by_cases h1:100 < nm.size
   ·have g1:decide (100 < (nm.size:Int)) = true:=by simp; omega
    go_wp2_with (go_at_call 29; (with_reducible refine HC.out.mono ?_))
    rintro e2 w2 ⟨rfl,rfl⟩
    go_wp2_with fail
    go_round
    case rel => exact ⟨k + 1,by omega,by go_num,by rw [HX.out,if_pos h1]; simp; omega⟩
    case measure => simp [intOf]; omega
   ·have g1:decide (100 < (nm.size:Int)) = false:=by simp; omega
    go_wp2_with (go_at_call 29; (with_reducible refine HC.out.mono ?_))
    rintro e2 w2 ⟨rfl,rfl⟩
    go_wp2_with fail
    go_round
    case rel => exact ⟨k + 1,by omega,by go_num,by rw [HX.out,if_neg h1]; simp; omega⟩
    case measure => simp [intOf]; omega
  ·obtain rfl:k = n:=by omega
   have HE:Hid (weighA (l.take k) = weighA l):=Lib.hid (by rw [List.take_of_length_le (by have:=HN.out; omega)])
   go_wp2_with fail
   go_ret
   exact ⟨by rw [← HE.out]; rfl,rfl⟩
def manyB (l:List ByteArray):Bool:=decide (30 < l.length) || longB l 100
theorem many_hit {l:List ByteArray} {k:Nat} {s:ByteArray} (h:l[k]? = some s) (hs:100 < (s.size:Int)):manyB l = true:=by
 unfold manyB longB
 rw [Bool.or_eq_true]
 exact .inr (List.any_eq_true.2 ⟨s,List.mem_of_getElem? h,decide_eq_true hs⟩)
set_option maxHeartbeats 1000000 in
theorem many_any (A:Option Addr) (n c:Nat) (l:List ByteArray) (w:World) (h:RdS w (.slice A n c) l) (hm:l.length ≤ 9223372036854775807) (hs:∀ s ∈ l,s.size ≤ 9223372036854775807) :
 Calls Tryz.prog 27 #[.slice A n c] w (SameB w (manyB l)):=by
 obtain ⟨A',n',c',heq,hn,hc,hA⟩:=Rd.strs h
 cases heq
 have HA:=Lib.hid hA
 have HN:=Lib.hid hn
 have HS:=Lib.hid hs
 have HP:=Lib.hid (rplace_any (.slice A n c) l ⟨#[]⟩ w h hm)
 have HB:=Lib.hid (place_bd l ⟨#[]⟩)
 have hm':n ≤ 9223372036854775807:=by omega
 obtain ⟨r,hr⟩:∃ r,r = manyB l:=⟨_,rfl⟩
 rw [← hr]
 have HR:=Lib.hid hr
 clear hA hn h hm hs hr
 go_enter Tryz.func27,Tryz.ntmps27
 go_wp2
 go_loop [3] (fun i => ∃ k:Nat,k ≤ n ∧ k ≤ 100 ∧ i = .int .i64 k ∧ longB (l.take k) 100 = false) (fun i => n - (intOf i).toNat)
 case atStart => exact ⟨0,Nat.zero_le _,Nat.zero_le _,rfl,rfl⟩
 case round =>
  obtain ⟨k,hk,hk100,rfl,hno⟩:=hrel
  have HO:=Lib.hid hno
  clear hno
  by_cases hgo:k < n ∧ k < 100
  ·have g1:decide ((k:Int) < n) = true:=by simp; omega
   have g2:decide ((k:Int) < 100) = true:=by simp; omega
   obtain ⟨b,off,rfl,hb,hcell⟩:=HA.out (by omega)
   obtain ⟨x,hx⟩:∃ x,l[k]? = some x:=get_some (by have:=HN.out; omega)
   have hck:=hcell k x hx
   have HX:=Lib.hid hx
   have hsz:=HS.out x (List.mem_of_getElem? hx)
   clear hcell hx
   by_cases hxs:100 < (x.size:Int)
   ·have HE:Hid (r = true):=Lib.hid (by rw [HR.out]; exact many_hit HX.out hxs)
    have g3:decide (100 < (x.size:Int)) = true:=by simpa using hxs
    go_wp2
    go_ret
    exact ⟨ret_bool HE.out.symm,rfl⟩
   ·have g3:decide (100 < (x.size:Int)) = false:=by simpa using hxs
    go_wp2
    go_round
    case rel =>
     refine ⟨k + 1,by omega,by omega,by go_num,?_⟩
     have:=HO.out
     unfold longB at this ⊢
     rw [take_next HX.out,List.any_append,this]
     simpa using hxs
    case measure => simp [intOf]; omega
  ·have g0:(decide ((k:Int) < n) && decide ((k:Int) < 100)) = false:=by simp; omega
   by_cases h30:30 < n
   ·have HE:Hid (r = true):=Lib.hid (by rw [HR.out]; unfold manyB; rw [Bool.or_eq_true]; exact .inl (by simp; have:=HN.out; omega))
    have g3:decide (30 < (n:Int)) = true:=by simp; omega
    by_cases hkn:k < n
    ·have g1:decide ((k:Int) < n) = true:=by simp; omega
     have g2:decide ((k:Int) < 100) = false:=by simp; omega
     go_wp2
     go_ret
     exact ⟨ret_bool HE.out.symm,rfl⟩
    ·have g1:decide ((k:Int) < n) = false:=by simp; omega
     go_wp2
     go_ret
     exact ⟨ret_bool HE.out.symm,rfl⟩
   ·have hkn:k = n:=by omega
    subst hkn
    have HE:Hid (r = false):=Lib.hid (by
     rw [HR.out]
     unfold manyB
     have h1:=HO.out
     have h2:=HN.out
     rw [List.take_of_length_le (by omega)] at h1
     rw [h1]
     simp
     omega)
    have g1:decide ((k:Int) < k) = false:=by simp
    have g3:decide (30 < (k:Int)) = false:=by simp; omega
    have hb:=HB.out
    have hn2:=HN.out
    obtain ⟨q,hq⟩:∃ q,q = Lib.idxOfS l ⟨#[]⟩:=⟨_,rfl⟩
    rw [← hq] at HP hb
    have g4:decide (1000 < q) = false:=by simp; omega
    clear hq
    go_wp2_with (go_at_call 45; (with_reducible refine HP.out.mono ?_); rintro e2 w2 ⟨rfl,rfl⟩)
    go_ret
    exact ⟨ret_bool HE.out.symm,rfl⟩
end Go.Proofs.YtapnomdckglehaaGreat
namespace Go.Proofs.YtapnomdckglehaaGreat
open Go.RowKit TermSpec EvalSpec ActSpec NamesSpec ExprSpec TransSpec SynSpec PrintSpec
theorem StsP.len {w:World} {A:Option Addr} {n c:Nat} {l:List Sx} (h:StsP w (.slice A n c) l):n = l.length ∧ n ≤ c:=by
 obtain ⟨ps,rfl,⟨A',c',heq,hc,-⟩,-⟩:=h
 cases heq
 exact ⟨(List.length_map _).symm,hc⟩
theorem StsP.at_ {w:World} {A:Option Addr} {n c:Nat} {l:List Sx} {i:Nat} {s:Sx} (h:StsP w (.slice A n c) l) (hi:l[i]? = some s) :
 ∃ b off a3 n3 c3 a4 n4 c4 a5 n5 c5,A = some ⟨b,off,none⟩ ∧ b < w.heap.size ∧ w.cell? ⟨b,off + i * 6,none⟩ = some (.string s.s) ∧ w.cell? ⟨b,off + i * 6 + 1,none⟩ = some (.int .i64 s.kind) ∧ w.cell? ⟨b,off + i * 6 + 2,none⟩ = some (.int .i64 s.par) ∧
   w.cell? ⟨b,off + i * 6 + 3,none⟩ = some (.slice a3 n3 c3) ∧ w.cell? ⟨b,off + i * 6 + 4,none⟩ = some (.slice a4 n4 c4) ∧ w.cell? ⟨b,off + i * 6 + 5,none⟩ = some (.slice a5 n5 c5) ∧
   Acs w (.slice a3 n3 c3) s.en ∧ Acs w (.slice a4 n4 c4) s.ex ∧ Trs w (.slice a5 n5 c5) s.tr:=by
 obtain ⟨ps,rfl,⟨A',c',heq,hc,hl,hA⟩,hn⟩:=h
 cases heq
 have hlt:=get_lt hi
 rw [List.getElem?_map] at hi
 obtain ⟨p,hp,rfl⟩:=Option.map_eq_some_iff.1 hi
 obtain ⟨b,off,rfl,hb,hcell⟩:=hA (by rw [List.length_map] at hlt; omega)
 obtain ⟨k1,k2,k3⟩:=hn p (List.mem_of_getElem? hp)
 refine ⟨b,off,p.a3,p.n3,p.c3,p.a4,p.n4,p.c4,p.a5,p.n5,p.c5,rfl,hb,?_,?_,?_,?_,?_,?_,k1,k2,k3⟩
 ·exact hcell _ _ (flat_get (j:=0) spV_length hp (by omega))
 ·rw [Nat.add_assoc]; exact hcell _ _ (flat_get (j:=1) spV_length hp (by omega))
 ·rw [Nat.add_assoc]; exact hcell _ _ (flat_get (j:=2) spV_length hp (by omega))
 ·rw [Nat.add_assoc]; exact hcell _ _ (flat_get (j:=3) spV_length hp (by omega))
 ·rw [Nat.add_assoc]; exact hcell _ _ (flat_get (j:=4) spV_length hp (by omega))
 ·rw [Nat.add_assoc]; exact hcell _ _ (flat_get (j:=5) spV_length hp (by omega))
theorem Trs.len {w:World} {A:Option Addr} {n c:Nat} {l:List Tr} (h:Trs w (.slice A n c) l):n = l.length ∧ n ≤ c:=by
 obtain ⟨ps,rfl,⟨A',c',heq,hc,-⟩,-⟩:=h
 cases heq
 exact ⟨(List.length_map _).symm,hc⟩
theorem Trs.at_ {w:World} {A:Option Addr} {n c:Nat} {l:List Tr} {i:Nat} {t:Tr} (h:Trs w (.slice A n c) l) (hi:l[i]? = some t) :
 ∃ b off gA gn gc aA an ac,A = some ⟨b,off,none⟩ ∧ b < w.heap.size ∧ w.cell? ⟨b,off + i * 4,none⟩ = some (.string t.ev) ∧ w.cell? ⟨b,off + i * 4 + 1,none⟩ = some (.slice gA gn gc) ∧ w.cell? ⟨b,off + i * 4 + 2,none⟩ = some (.slice aA an ac) ∧ w.cell? ⟨b,off + i * 4 + 3,none⟩ = some (.string t.tg) ∧
   TrIn w gA gn gc aA an ac t:=by
 obtain ⟨ps,rfl,⟨A',c',heq,hc,hl,hA⟩,hn⟩:=h
 cases heq
 have hlt:=get_lt hi
 rw [List.getElem?_map] at hi
 obtain ⟨p,hp,rfl⟩:=Option.map_eq_some_iff.1 hi
 obtain ⟨b,off,rfl,hb,hcell⟩:=hA (by rw [List.length_map] at hlt; omega)
 refine ⟨b,off,p.gA,p.gn,p.gc,p.aA,p.an,p.ac,rfl,hb,?_,?_,?_,?_,hn p (List.mem_of_getElem? hp)⟩
 ·exact hcell _ _ (flat_get (j:=0) tpV_length hp (by omega))
 ·rw [Nat.add_assoc]; exact hcell _ _ (flat_get (j:=1) tpV_length hp (by omega))
 ·rw [Nat.add_assoc]; exact hcell _ _ (flat_get (j:=2) tpV_length hp (by omega))
 ·rw [Nat.add_assoc]; exact hcell _ _ (flat_get (j:=3) tpV_length hp (by omega))
theorem RdV.len {w:World} {A:Option Addr} {n c:Nat} {l:List Vr} (h:RdV w (.slice A n c) l):n = l.length ∧ n ≤ c:=by
 obtain ⟨A',c',heq,hc,-⟩:=h
 cases heq
 exact ⟨rfl,hc⟩
theorem RdV.vars {w:World} {A:Option Addr} {n c:Nat} {l:List Vr} (h:RdV w (.slice A n c) l):VarsIn w A n c l:=by
 obtain ⟨hn,-⟩:=RdV.len h
 refine ⟨hn,?_⟩
 rw [hn]
 rw [hn] at h
 exact h
theorem StsP.sts {w:World} {v:Value} {l:List Sx} (h:StsP w v l):Sts w v (l.map shOf):=by
 obtain ⟨ps,rfl,hr,-⟩:=h
 refine ⟨ps.map fun p => ⟨p.x.s,shOf p.x,p.a3,p.n3,p.c3,p.a4,p.n4,p.c4,p.a5,p.n5,p.c5⟩,by rw [List.map_map,List.map_map]; rfl,?_⟩
 rw [List.length_map,List.length_map]
 have:stsV (ps.map fun p => ⟨p.x.s,shOf p.x,p.a3,p.n3,p.c3,p.a4,p.n4,p.c4,p.a5,p.n5,p.c5⟩) = ps.flatMap spV:=by
  unfold stsV
  rw [List.flatMap_map]
  rfl
 rw [this]
 exact hr
structure FitC (x:Cx):Prop where
 s:x.s.size ≤ 9223372036854775807
 evs:∀ e ∈ x.evs,e.size ≤ 9223372036854775807
 evl:x.evs.length ≤ 9223372036854775807
 vars:∀ v ∈ x.vars,v.s.size ≤ 9223372036854775807
 sts:∀ s ∈ x.sts,s.s.size ≤ 9223372036854775807 ∧ (∀ a ∈ s.en,a.s.size ≤ 9223372036854775807 ∧ Small a.x) ∧ (∀ a ∈ s.ex,a.s.size ≤ 9223372036854775807 ∧ Small a.x) ∧
  ∀ t ∈ s.tr,t.ev.size ≤ 9223372036854775807 ∧ t.tg.size ≤ 9223372036854775807 ∧ Small t.g ∧ ∀ a ∈ t.acts,a.s.size ≤ 9223372036854775807 ∧ Small a.x
def okLT (t:Tr):Bool:=decide (t.ev.size ≤ 100) && (decide (t.tg.size ≤ 100) && decide (t.acts.length ≤ 10))
def okLS (s:Sx):Bool:=decide (s.s.size ≤ 100) && (decide (s.tr.length ≤ 20) && (decide (s.en.length ≤ 10) && decide (s.ex.length ≤ 10)))
def wTr (t:Tr):Nat:=1 + weighA t.acts + termsW t.g
def wSt (s:Sx):Nat:=weighA s.en + weighA s.ex + (s.tr.map wTr).sum
def stL (s:Sx):Bool:=okLS s && s.tr.all okLT
def wCx (l:List Sx):Nat:=(l.map wSt).sum
def lightC (x:Cx):Bool:=decide (x.s.size ≤ 100) && (!manyB x.evs && (decide (x.vars.length ≤ 10) && (decide (x.sts.length ≤ 65) && (x.vars.all (fun v => decide (v.s.size ≤ 100)) && (x.sts.all stL && decide (wCx x.sts ≤ 160))))))
theorem sum_next {α:Type} (f:α → Nat) {l:List α} {k:Nat} {x:α} (h:l[k]? = some x):((l.take (k + 1)).map f).sum = ((l.take k).map f).sum + f x:=by
 rw [take_next h]
 simp
theorem sum_take_le {α:Type} (f:α → Nat) (l:List α) (k:Nat):((l.take k).map f).sum ≤ (l.map f).sum:=by
 have:=congrArg (fun l => (l.map f).sum) (List.take_append_drop k l)
 simp only [List.map_append,List.sum_append] at this
 omega
theorem wTr_le {t:Tr} (h:t.acts.length ≤ 10):wTr t ≤ 21011:=by
 have h1:=weigh_le t.acts
 have h2:=termsW_le t.g
 unfold wTr
 omega
theorem all_take {α:Type} {f:α → Bool} {l:List α} {k:Nat} {x:α} (hx:l[k]? = some x) (h:(l.take k).all f = true) (hf:f x = true):(l.take (k + 1)).all f = true:=by
 rw [take_next hx,List.all_append,h]
 simp [hf]
theorem all_bad {α:Type} {f:α → Bool} {l:List α} {k:Nat} {x:α} (hx:l[k]? = some x) (hf:f x = false):l.all f = false:=by
 rw [List.all_eq_false]
 exact ⟨x,List.mem_of_getElem? hx,by simp [hf]⟩
end Go.Proofs.YtapnomdckglehaaGreat
namespace Go.Proofs.YtapnomdckglehaaGreat
open Go.RowKit TermSpec EvalSpec ActSpec NamesSpec ExprSpec TransSpec SynSpec CurSpec ShapeSpec GroupSpec AtlasSpec PrintSpec
structure RwP where
 A:Option Addr
 n:Nat
 c:Nat
 ks:List Int
 ab:Nat
 be:Nat
 d:Nat
def rwV (p:RwP):List Value:=[.slice p.A p.n p.c,.int .u64 p.ab,.int .u64 p.be,.int .i64 p.d]
def rwN (p:RwP) (w:World):Prop:=Rd w (.slice p.A p.n p.c) (intV p.ks)
theorem rwV_length (p:RwP):(rwV p).length = 4:=rfl
theorem rwV_one (p:RwP):∀ u ∈ rwV p,u.oneCell' = true:=by
 intro u hu
 simp only [rwV,List.mem_cons,List.not_mem_nil,or_false] at hu
 rcases hu with rfl | rfl | rfl | rfl <;> rfl
def RwsAt (l:List Sh) (m:Nat) (f:Nat → Bool) (ps:List RwP):Prop:=∀ j p,ps[j]? = some p → p.ks = kids l j ∧ p.ab = abG l j ∧ p.be = beP l j m (f j) ∧ p.d = (up l j).length + 1
theorem RwsAt.nil (l:List Sh) (m:Nat) (f:Nat → Bool):RwsAt l m f []:=fun j p h => by simp at h
theorem RwsAt.add {l:List Sh} {m:Nat} {ps:List RwP} {p:RwP} (h:RwsAt l m (fun _ => false) ps) (hl:ps.length = m) (hp:p.ks = kids l m ∧ p.ab = abG l m ∧ p.be = 0 ∧ p.d = (up l m).length + 1):RwsAt l m (fun _ => false) (ps ++ [p]):=by
 intro j q hq
 by_cases e:j < ps.length
 ·rw [List.getElem?_append_left e] at hq
  exact h j q hq
 ·rw [List.getElem?_append_right (by omega)] at hq
  have hj:j = m:=by
   have:=(List.getElem?_eq_some_iff.1 hq).1
   simp at this
   omega
  subst hj
  rw [hl,Nat.sub_self] at hq
  injection hq with hq
  subst hq
  exact ⟨hp.1,hp.2.1,hp.2.2.1.trans (beP_late (Nat.le_refl _)).symm,hp.2.2.2⟩
theorem RwsAt.next {l:List Sh} {m:Nat} {f:Nat → Bool} {ps:List RwP} (h:RwsAt l m f ps) (hf:∀ j,j < ps.length → f j = decide (j ∈ sf l m)):RwsAt l (m + 1) (fun _ => false) ps:=fun j p hp => by
 obtain ⟨h1,h2,h3,h4⟩:=h j p hp
 exact ⟨h1,h2,by rw [h3,hf j (List.getElem?_eq_some_iff.1 hp).1]; exact beP_next,h4⟩
theorem RwsAt.set {l:List Sh} {m i:Nat} {f f':Nat → Bool} {ps:List RwP} {p:RwP} (h:RwsAt l m f ps) (hp:ps[i]? = some p) (hi:f' i = true) (ho:∀ j,j ≠ i → f' j = f j):RwsAt l m f' (ps.set i { p with be:=beP l i m true }):=fun j q hq => by
 by_cases e:j = i
 ·subst e
  rw [set_at hp] at hq
  injection hq with hq
  subst hq
  obtain ⟨h1,h2,h3,h4⟩:=h j p hp
  exact ⟨h1,h2,by rw [hi],h4⟩
 ·rw [List.getElem?_set_ne (fun e' => e e'.symm)] at hq
  obtain ⟨h1,h2,h3,h4⟩:=h j q hq
  exact ⟨h1,h2,by rw [ho j e]; exact h3,h4⟩
theorem RwsAt.congr {l:List Sh} {m:Nat} {f f':Nat → Bool} {ps:List RwP} (h:RwsAt l m f ps) (hf:∀ j,j < ps.length → f' j = f j):RwsAt l m f' ps:=fun j p hp => by
 obtain ⟨h1,h2,h3,h4⟩:=h j p hp
 exact ⟨h1,h2,by rw [h3,hf j (List.getElem?_eq_some_iff.1 hp).1],h4⟩
def RowsOf (l:List Sh) (ps:List RwP):Prop:=ps.length = l.length ∧ RwsAt l l.length (fun _ => false) ps
def RowsIn (w:World) (v:Value) (ps:List RwP):Prop:=Rdk 4 w v ps.length (ps.flatMap rwV) ∧ ∀ p ∈ ps,rwN p w
def AtN (w:World) (B:Nat) (x:Cx):Prop:=∃ e v s,w.heap[B]? = some (atO x.s e v s 0 0 (.slice none 0 0) (.slice none 0 0) (.slice none 0 0)) ∧ Dep w (fun b => b < B) (fun X => ChIn X e v s x)
def AtK (K:Nat → Prop) (w:World) (B:Nat) (x:Cx):Prop:=∃ e v s pl rw ev ps,w.heap[B]? = some (atO x.s e v s 1 0 pl rw ev) ∧ RowsOf (x.sts.map shOf) ps ∧ Dep w K (fun X => ChIn X e v s x ∧ RdS X pl (x.sts.map (·.s)) ∧ RowsIn X rw ps ∧ RdS X ev (un x.evs []))
def AtD (w:World) (B:Nat) (x:Cx):Prop:=∃ K:Nat → Prop,(∀ b,K b → b ≠ B ∧ b < w.heap.size) ∧ AtK K w B x
def AtIn (w:World) (B:Nat) (x:Cx):Prop:=AtN w B x ∨ AtD w B x
section
variable {w w':World} {B:Nat} {x:Cx}
theorem AtN.keep (h:AtN w B x) (hb:Below w.heap.size w w'):AtN w' B x:=by
 obtain ⟨e,v,s,h1,h2⟩:=h
 exact ⟨e,v,s,KitC.block_on h1 hb,h2.keep hb⟩
theorem AtK.keep {K:Nat → Prop} (h:AtK K w B x) (hb:Below w.heap.size w w'):AtK K w' B x:=by
 obtain ⟨e,v,s,pl,rw,ev,ps,h1,h3,h2⟩:=h
 exact ⟨e,v,s,pl,rw,ev,ps,KitC.block_on h1 hb,h3,h2.keep hb⟩
theorem AtK.go {K:Nat → Prop} (h:AtK K w B x) {r:Nat} (g:w.grownBy w' (some r)) (hr:¬ K r) (hB:r ≠ B):AtK K w' B x:=by
 obtain ⟨e,v,s,pl,rw,ev,ps,h1,h3,h2⟩:=h
 exact ⟨e,v,s,pl,rw,ev,ps,keep_but h1 g (Ne.symm hB),h3,h2.go g fun b hb e => by injection e with e; exact hr (e ▸ hb)⟩
theorem AtK.done {K:Nat → Prop} (h:AtK K w B x) (hK:∀ b,K b → b ≠ B):AtD w B x:=by
 obtain ⟨e,v,s,pl,rw,ev,ps,h1,h3,h2⟩:=h
 exact ⟨fun b => K b ∧ b < w.heap.size,fun b hb => ⟨hK b hb.1,hb.2⟩,e,v,s,pl,rw,ev,ps,h1,h3,h2.mono fun b hb h => ⟨h,hb⟩⟩
theorem AtD.keep (h:AtD w B x) (hb:Below w.heap.size w w'):AtD w' B x:=by
 obtain ⟨K,hK,h⟩:=h
 exact ⟨K,fun b hb' => ⟨(hK b hb').1,Nat.lt_of_lt_of_le (hK b hb').2 hb.size⟩,h.keep hb⟩
theorem AtIn.keep (h:AtIn w B x) (hb:Below w.heap.size w w'):AtIn w' B x:=h.imp (·.keep hb) (·.keep hb)
end
section
variable {P:Program}
theorem step_append_rowL {ops:Array Oper} {o:Oper} {a:Act} {J:Act → World → Prop} {Q:Exit → Act → World → Prop} {E:Prop} (hgd:o.guard = none) (s x:Operand) (t:TypeId)
 (ho:o.op = .call { callee:=.builtin .append,args:=#[s,x],argTypes:=#[t,t] })
 {α:Type} {e:TypeId} {k:Nat} {cv:α → List Value} {nest:α → World → Prop} {N:Nat} {K:Nat → Prop} {wr:World} {pv:Value} {ps:List α}
 (i:TypeInfo) (z:Value) (bytes:Nat) (ht:P.underlying t = some (.slice e)) (hi:P.info? e = some i) (hz:i.zero = some z)
 (hsize:i.size = k) (hby:i.bytes = bytes) (hzs:z.cells.size = k) (hk:0 < k)
 (h:RowK e k cv nest N K wr pv ps) (hN:N ≤ wr.heap.size) (p:α) (hn:Dep wr (fun b => K b ∧ pv.ownBlock ≠ some b) (nest p)) (hs:a.eval s = pv) (hx:a.eval x = .slice (some ⟨wr.heap.size,0,none⟩) 1 1)
 (hlen:(cv p).length = k) (h1:∀ u ∈ cv p,u.oneCell' = true) (h63:ps.length + 1 ≤ maxLen) (hbytes:(ps.length + 1) * bytes ≤ 140737488355328)
 (hK:∀ v' w',Added e k cv nest N K wr pv (ps ++ [p]) v' w' → J (a.put o.dst v') w'):if Region.wanted o (yielded ops a.tmps) = true then Oper.wp P o a (wr.alloc (.cells (cv p).toArray e)) J Q else E:=by
 have hrow:=own_keep h.own (KitC.below_one wr (.cells (cv p).toArray e))
 refine step_append_lies _ hgd s x t ho N e i z k bytes ht hi hz hsize hby hzs hk pv ps.length (ps.flatMap cv) hs hrow ⟨wr.heap.size,0,none⟩ 1 1 (cv p) hx (by simp [hlen]) (World.news_of_block (cs:=(cv p).toArray) (t:=e) (fr:=(0,0)) (heap_alloc_new wr _)) h1 (by decide) h63 hbytes (by rw [World.size_alloc]; omega) (wr.heap.size + 1) (by rw [World.size_alloc]) ?_
 intro g cap w' hr hg hob _
 refine hK _ w' (h.added (o:=.cells (cv p).toArray e) hn hr hg ?_)
 rcases hob with e' | e'
 ·exact .inl (by rw [e']; rfl)
 ·exact .inr (by rw [e',World.size_alloc]; rfl)
end
end Go.Proofs.YtapnomdckglehaaGreat