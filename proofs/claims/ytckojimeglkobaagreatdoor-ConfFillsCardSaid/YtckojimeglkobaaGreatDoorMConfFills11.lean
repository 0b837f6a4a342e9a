/- SynVar, TermNames, SynEvents, SynTrans, SynState, SynStateW, SynVars, SynRead, EvalOps2, EvalNone, EvalReckon, EvalCheck, EvalLight, ActLight, CurNew, ScanSpec, ScanRef, ScanRefOne, ScanRefToks, ScanProgSpec, ScanFirst, ScanMark, ScanNext, ScanRead, ScanToks, ExprParse, ExprScan, ActScan, TransScan, PrintSpec, PrintLight, PrintMem, TermSameG, ActSameG, TransEqual, TransSame, SynSame, SynStates, joined. -/
import Derived.Test.YtckojimeglkobaaGreatDoorMConfFills10
import Derived.Test.YtckojimeglkobaaGreatDoorMConfFills01
import Derived.Test.YtckojimeglkobaaGreatDoorMConfFills00
import Derived.Test.YtckojimeglkobaaGreatDoorMConfFills07
import Derived.BigQuiet
import Derived.Deep.QuietTactic
import Derived.Lib.QuietBelow
import Derived.Test.YtckojimeglkobaaGreatDoorMConfFills06
import Derived.Deep.AppendLies
import Derived.Laws.MakeOwn
import Derived.OwnWalk
import Derived.Test.YtckojimeglkobaaGreatDoorRows
import Derived.IntWalk
import Derived.Deep.RegionHeld3
import Derived.Lib.Bytealg
import Derived.Lib.Strings
import Derived.RegionTactic
import Derived.ChangeAlike
import Derived.Deep.LoopGhost
import Derived.Test.YtckojimeglkobaaGreatDoorMConfFills08
import Derived.Test.YtckojimeglkobaaGreatDoorMConfFills02
import Derived.Test.YtckojimeglkobaaGreatDoorMConfFills05
import Derived.Deep.CutRange
import Derived.BigRegion
namespace Go.Proofs.YtckojimeglkobaaGreatDoor
open Go.RowKit CurSpec TermSpec EvalSpec ActSpec NamesSpec ExprSpec TransSpec SynSpec
section
variable {T:TypeId} {z0 z1 z2 z3:Value} {W wx wy:World} {B:Nat} {c c':Cur} {x0 x1 x2 x3:Value}
end
theorem acs_nil (w:World):Acs w (.slice none 0 0) []:=(AcsFar.nil 0 w).acs
end Go.Proofs.YtckojimeglkobaaGreatDoor
namespace Go.Proofs.YtckojimeglkobaaGreatDoor
open Go.RowKit TermSpec
set_option maxRecDepth 100000
theorem inf_str:(Tryz.prog.info? 9).map (fun i => (i.zero,i.size,i.bytes)) = some (some (.string ByteArray.empty),1,16):=by kernel_rfl
def RowS (W wr:World) (p:Value) (xs:List ByteArray):Prop:=wr.ownsRow W.heap.size 9 1 p xs.length (strV xs) ∧ Below W.heap.size W wr
theorem RowS.nil (W wr:World) (hb:Below W.heap.size W wr):RowS W wr (.slice none 0 0) []:=⟨World.ownsRow_nil _ _ _ _,hb⟩
theorem RowS.keep {W w w':World} {p:Value} {xs:List ByteArray} (h:RowS W w p xs) (hb:Below w.heap.size w w'):RowS W w' p xs:=⟨own_keep h.1 hb,below_two' h.2 hb⟩
theorem RowS.alloc {W w:World} {p:Value} {xs:List ByteArray} (h:RowS W w p xs) (o:Obj):RowS W (w.alloc o) p xs:=h.keep ((Below.refl _ _).alloc (Nat.le_refl _) _)
theorem RowS.add {W wr w2:World} {p p':Value} {xs:List ByteArray} {x:ByteArray} {o:Obj} (h:RowS W wr p xs) (hrow:w2.ownsRow W.heap.size 9 1 p' (xs.length + (strV [x]).length) (strV xs ++ strV [x])) (hg:(wr.alloc o).grownBy w2 p.ownBlock):RowS W w2 p' (xs ++ [x]):=by
 refine ⟨?_,(h.2.alloc h.2.size o).grown hg (by have:=h.2.size; simp; omega) (fun j hj => (own_block_bd h.1 j hj).1)⟩
 rw [← strV_append,List.length_append]
 exact hrow
theorem RowS.read {W wr:World} {p:Value} {xs:List ByteArray} (h:RowS W wr p xs):Rd wr p (strV xs):=Rd.own h.1
def NamRel (W:World) (l:List Tm) (n:Nat) (o:Int) (p i:Value) (wr:World):Prop:=∃ k:Nat,k ≤ n ∧ i = .int .i64 k ∧ RowS W wr p (namesOf (l.take k) o)
set_option maxHeartbeats 2000000 in
theorem names_any (A:Option Addr) (n c:Nat) (l:List Tm) (o:Int) (hn:n = l.length) (hn62:n ≤ 4398046511104) (w:World) (h:Tms w (.slice A n c) l) :
 Calls Tryz.prog 157 #[.slice A n c,.int .i64 o] w (RetStrs w (namesOf l o)):=by
 have HT:=Lib.hid h
 have HN:=Lib.hid hn
 obtain ⟨i0,hi,hz0,hz1,hz2⟩:=info_parts inf_str
 have HI:=Lib.hid (And.intro hi (And.intro hz0 (And.intro hz1 hz2)))
 clear h hn hi hz0 hz1 hz2
 go_enter Tryz.func157,Tryz.ntmps157
 go_wp2_with fail
 go_loopw [5,7,10] (fun p _ i wr => NamRel w l n o p i wr) (fun _ _ i _ => n - (intOf i).toNat)
 case atStart => exact ⟨0,Nat.zero_le _,rfl,RowS.nil _ _ (Below.refl _ _)⟩
 case round =>
  obtain ⟨k,hk,rfl,hrow⟩:=hrel
  have HR0:=Lib.hid hrow
  clear hrow
  by_cases hlt:k < n
  ·obtain ⟨t,ht⟩:∃ t,l[k]? = some t:=get_some (by rw [← HN.out]; exact hlt)
   obtain ⟨b,off,rfl,hb,c0,c1,c2⟩:=(HT.out.keep HR0.out.2).at_ ht
   by_cases ho:t.op = o
   ·have HY:=Lib.hid (namesOf_yes ht ho)
    have hl:=namesOf_length (l.take k) o
    rw [List.length_take] at hl
    have HR:=Lib.hid (HR0.out.alloc (.cells #[.int .i64 t.op,.int .i64 t.n,.string t.s] 100))
    obtain ⟨s,hs⟩:∃ s,s = t.s:=⟨_,rfl⟩
    rw [← hs] at HY HR c2
    have HL1:Hid ((namesOf (l.take k) o).length + (strV [s]).length ≤ maxLen):=Lib.hid (by simp [maxLen]; omega)
    have HL2:Hid (((namesOf (l.take k) o).length + (strV [s]).length) * 16 ≤ 140737488355328):=Lib.hid (by simp; omega)
    have HSZ:Hid (w.heap.size ≤ wr.heap.size):=Lib.hid HR0.out.2.size
    have HRA:=Lib.hid HR.out.1
    have g:(t.op == o) = true:=by simp [ho]
    clear ht hl hs ho
    go_wp2_with (at_builtin; refine wpList_append_rd _ rfl (.tmp 18) (.tmp 21) _ rfl w.heap.size 9 i0 (.string ByteArray.empty) 16 Tryz.underlying22 HI.out.1 HI.out.2.1 HI.out.2.2.1 HI.out.2.2.2 rfl _ _ _ rfl (HRA.out.alloc _) _ (strV [s]) rfl (lit_here (World.size_alloc _ _).symm rfl rfl) (strV_one _) HL1.out HL2.out ?_ ?_; (have:=HSZ.out; simp; omega); intro p2 w2 hrow2 hg2 _; have HR2:=Lib.hid (RowS.add HR.out hrow2 hg2); clear hrow2 hg2)
    go_roundw
    case rel => exact ⟨k + 1,hlt,by simp,by rw [HY.out]; exact HR2.out⟩
    case measure => simp [intOf]; omega
   ·have HY:=Lib.hid (namesOf_no ht ho)
    have g:(t.op == o) = false:=by simp [ho]
    clear ho
    go_wp2_with fail
    go_roundw
    case rel => exact ⟨k + 1,hlt,by simp,by rw [HY.out]; exact HR0.out.alloc _⟩
    case measure => simp [intOf]; omega
  ·obtain rfl:k = n:=by omega
   go_wp2_with fail
   go_ret
   have hr:=HR0.out
   rw [List.take_of_length_le (by rw [← HN.out]; omega)] at hr
   exact ⟨_,rfl,hr.read,hr.2⟩
end Go.Proofs.YtckojimeglkobaaGreatDoor
namespace Go.Proofs.YtckojimeglkobaaGreatDoor
open Go.RowKit CurSpec TermSpec EvalSpec ActSpec NamesSpec ExprSpec TransSpec SynSpec
set_option maxRecDepth 100000
abbrev sC (s:ByteArray):List Value:=[.string s]
theorem sC_flat (l:List ByteArray):l.flatMap sC = strV l:=by
 induction l with
 | nil => rfl
 | cons a t ih => rw [List.flatMap_cons,ih]; rfl
theorem rd_one {w:World} {v:Value} {n:Nat} {xs:List Value} (h:Rdk 1 w v n xs):Rd w v xs:=by
 obtain ⟨A,c,rfl,hc,hl,hA⟩:=h
 exact ⟨A,n,c,rfl,by omega,hc,hA⟩
structure TP where
 t:Tr
 gA:Option Addr
 gn:Nat
 gc:Nat
 aA:Option Addr
 an:Nat
 ac:Nat
def tpV (p:TP):List Value:=[.string p.t.ev,.slice p.gA p.gn p.gc,.slice p.aA p.an p.ac,.string p.t.tg]
def tpN (p:TP) (w:World):Prop:=TrIn w p.gA p.gn p.gc p.aA p.an p.ac p.t
theorem tpV_length (p:TP):(tpV p).length = 4:=rfl
theorem tpV_one (p:TP):∀ u ∈ tpV p,u.oneCell' = true:=by
 intro u hu
 simp only [tpV,List.mem_cons,List.not_mem_nil,or_false] at hu
 rcases hu with rfl | rfl | rfl | rfl <;> rfl
def Trs (w:World) (v:Value) (l:List Tr):Prop:=∃ ps:List TP,ps.map (·.t) = l ∧ Rdk 4 w v ps.length (ps.flatMap tpV) ∧ ∀ p ∈ ps,tpN p w
theorem Trs.keep {w w':World} {v:Value} {l:List Tr} (h:Trs w v l) (hb:Below w.heap.size w w'):Trs w' v l:=by
 obtain ⟨ps,h1,h2,h3⟩:=h
 exact ⟨ps,h1,h2.keep hb,fun p hp => (h3 p hp).keep hb⟩
theorem Trs.nil (w:World):Trs w (.slice none 0 0) []:=⟨[],rfl,Rdk.nil 4 w,by simp⟩
def RdS (w:World) (v:Value) (l:List ByteArray):Prop:=Rd w v (strV l)
def RdV (w:World) (v:Value) (l:List Vr):Prop:=Rdk 4 w v l.length (vrsV l)
end Go.Proofs.YtckojimeglkobaaGreatDoor
namespace Go.Proofs.YtckojimeglkobaaGreatDoor
open Go.RowKit CurSpec TermSpec EvalSpec ActSpec NamesSpec ExprSpec TransSpec SynSpec
end Go.Proofs.YtckojimeglkobaaGreatDoor
namespace Go.Proofs.YtckojimeglkobaaGreatDoor
open Go.RowKit CurSpec TermSpec EvalSpec ActSpec NamesSpec ExprSpec TransSpec SynSpec
set_option maxRecDepth 100000
structure SP where
 x:Sx
 a3:Option Addr
 n3:Nat
 c3:Nat
 a4:Option Addr
 n4:Nat
 c4:Nat
 a5:Option Addr
 n5:Nat
 c5:Nat
def spV (p:SP):List Value:=[.string p.x.s,.int .i64 p.x.kind,.int .i64 p.x.par,.slice p.a3 p.n3 p.c3,.slice p.a4 p.n4 p.c4,.slice p.a5 p.n5 p.c5]
def spN (p:SP) (w:World):Prop:=Acs w (.slice p.a3 p.n3 p.c3) p.x.en ∧ Acs w (.slice p.a4 p.n4 p.c4) p.x.ex ∧ Trs w (.slice p.a5 p.n5 p.c5) p.x.tr
theorem spV_length (p:SP):(spV p).length = 6:=rfl
theorem spV_one (p:SP):∀ u ∈ spV p,u.oneCell' = true:=by
 intro u hu
 simp only [spV,List.mem_cons,List.not_mem_nil,or_false] at hu
 rcases hu with rfl | rfl | rfl | rfl | rfl | rfl <;> rfl
end Go.Proofs.YtckojimeglkobaaGreatDoor
namespace Go.Proofs.YtckojimeglkobaaGreatDoor
open Go.RowKit CurSpec TermSpec EvalSpec ActSpec NamesSpec ExprSpec TransSpec SynSpec
end Go.Proofs.YtckojimeglkobaaGreatDoor
namespace Go.Proofs.YtckojimeglkobaaGreatDoor
open Go.RowKit CurSpec TermSpec EvalSpec ActSpec NamesSpec ExprSpec TransSpec SynSpec
end Go.Proofs.YtckojimeglkobaaGreatDoor
namespace Go.Proofs.YtckojimeglkobaaGreatDoor
open Go.RowKit CurSpec TermSpec EvalSpec ActSpec NamesSpec ExprSpec TransSpec SynSpec
set_option maxRecDepth 100000
def StsP (w:World) (v:Value) (l:List Sx):Prop:=∃ ps:List SP,ps.map (·.x) = l ∧ Rdk 6 w v ps.length (ps.flatMap spV) ∧ ∀ p ∈ ps,spN p w
theorem spN_keep {p:SP} {w w':World} (h:spN p w) (hb:Below w.heap.size w w'):spN p w':=⟨h.1.keep hb,h.2.1.keep hb,h.2.2.keep hb⟩
theorem StsP.keep {w w':World} {v:Value} {l:List Sx} (h:StsP w v l) (hb:Below w.heap.size w w'):StsP w' v l:=by
 obtain ⟨ps,h1,h2,h3⟩:=h
 exact ⟨ps,h1,h2.keep hb,fun p hp => spN_keep (h3 p hp) hb⟩
theorem StsP.nil (w:World):StsP w (.slice none 0 0) []:=⟨[],rfl,Rdk.nil 6 w,by simp⟩
structure ChIn (w:World) (e v t:Value) (x:Cx):Prop where
 evs:RdS w e x.evs
 vars:RdV w v x.vars
 sts:StsP w t x.sts
theorem ChIn.keep {w w':World} {e v t:Value} {x:Cx} (h:ChIn w e v t x) (hb:Below w.heap.size w w'):ChIn w' e v t x:=⟨Rd.keep h.evs hb,Rdk.keep h.vars hb,h.sts.keep hb⟩
theorem ChIn.zero (w:World):ChIn w (.slice none 0 0) (.slice none 0 0) (.slice none 0 0) zeroC:=⟨Rd.nil w,Rdk.nil 4 w,StsP.nil w⟩
theorem cb_zero (w:World):(Instr.build 26 #[]).run Tryz.prog w = .ok (.agg #[.string ⟨#[]⟩,.slice none 0 0,.slice none 0 0,.slice none 0 0]) w:=run_build w 26 _ _ (by kernel_rfl)
end Go.Proofs.YtckojimeglkobaaGreatDoor
namespace Go.Proofs.YtckojimeglkobaaGreatDoor
open Go.RowKit TermSpec EvalSpec ValSpec
end Go.Proofs.YtckojimeglkobaaGreatDoor
namespace Go.Proofs.YtckojimeglkobaaGreatDoor
open Go.RowKit TermSpec EvalSpec NamesSpec Go.Lib ValSpec
end Go.Proofs.YtckojimeglkobaaGreatDoor
namespace Go.Proofs.YtckojimeglkobaaGreatDoor
open Go.RowKit TermSpec EvalSpec NamesSpec Go.Lib ValSpec
end Go.Proofs.YtckojimeglkobaaGreatDoor
namespace Go.Proofs.YtckojimeglkobaaGreatDoor
open Go.RowKit TermSpec EvalSpec NamesSpec
end Go.Proofs.YtckojimeglkobaaGreatDoor
namespace Go.Proofs.YtckojimeglkobaaGreatDoor
open Go.RowKit TermSpec EvalSpec
end Go.Proofs.YtckojimeglkobaaGreatDoor
namespace Go.Proofs.YtckojimeglkobaaGreatDoor
open Go.RowKit TermSpec EvalSpec ActSpec NamesSpec
end Go.Proofs.YtckojimeglkobaaGreatDoor
namespace Go.Proofs.YtckojimeglkobaaGreatDoor
open Go.RowKit CurSpec
end Go.Proofs.YtckojimeglkobaaGreatDoor
namespace Go.Proofs.YtckojimeglkobaaGreatDoor
namespace ScanSpec
def isLow (c:UInt8):Bool:=decide (97 ≤ (c.toNat:Int)) && decide ((c.toNat:Int) ≤ 122)
def isDig (c:UInt8):Bool:=decide (48 ≤ (c.toNat:Int)) && decide ((c.toNat:Int) ≤ 57)
def isBlank (c:UInt8):Bool:=(c.toNat == 32 || c.toNat == 9) || c.toNat == 10 || c.toNat == 13
def clsB (c:UInt8):Int:=if isLow c then 1 else if isDig c then 2 else if c.toNat = 95 then 3 else if isBlank c then 4 else if c.toNat = 35 then 5 else 0
def cls (l:List UInt8) (i:Nat):Int:=match l[i]? with | some c => clsB c | none => 0
def run (p:UInt8 → Bool):List UInt8 → Nat
 | [] => 0
 | c :: t => if p c then run p t + 1 else 0
def isWord (c:UInt8):Bool:=decide (1 ≤ clsB c) && decide (clsB c ≤ 3)
def isNum (c:UInt8):Bool:=decide (clsB c = 2)
def marks:List (List UInt8):=[[45,62],[58,61],[60,61],[62,61],[33,61],[61,61],[46,46],[123],[125],[91],[93],[40],[41],[44],[59],[61],[60],[62],[43],[45],[42],[47]]
def markLen (d:List UInt8):Nat:=match marks.find? fun m => m.isPrefixOf d with | some m => m.length | none => 0
def one (d:List UInt8):Int × Nat × Int :=
 if cls d 0 = 1 then (if 12 < run isWord d then (0,0,5) else (1,run isWord d,0))
 else if cls d 0 = 2 then (if cls d (run isNum d) = 1 ∨ cls d (run isNum d) = 3 then (0,0,2) else if 9 < run isNum d then (0,0,5) else (2,run isNum d,0))
 else if markLen d = 0 then (0,0,2) else (3,markLen d,0)
def posGo:List UInt8 → Int × Int → Int × Int
 | [],p => p
 | c :: t,p => posGo t (if c.toNat = 10 then (p.1 + 1,1) else (p.1,p.2 + 1))
def pos (l:List UInt8) (i:Nat):Int × Int:=posGo (l.take i) (1,1)
end ScanSpec
end Go.Proofs.YtckojimeglkobaaGreatDoor
namespace Go.Proofs.YtckojimeglkobaaGreatDoor
open Go.RowKit ScanSpec
end Go.Proofs.YtckojimeglkobaaGreatDoor
namespace Go.Proofs.YtckojimeglkobaaGreatDoor
open Go.RowKit ScanSpec Go.BigFrame
end Go.Proofs.YtckojimeglkobaaGreatDoor
namespace Go.Proofs.YtckojimeglkobaaGreatDoor
open Go.RowKit ScanSpec
end Go.Proofs.YtckojimeglkobaaGreatDoor
namespace Go.Proofs.YtckojimeglkobaaGreatDoor
open Go.RowKit ScanSpec
end Go.Proofs.YtckojimeglkobaaGreatDoor
namespace Go.Proofs.YtckojimeglkobaaGreatDoor
open Go.RowKit ScanSpec
end Go.Proofs.YtckojimeglkobaaGreatDoor
namespace Go.Proofs.YtckojimeglkobaaGreatDoor
open Go.RowKit ScanSpec
set_option maxRecDepth 100000
end Go.Proofs.YtckojimeglkobaaGreatDoor
namespace Go.Proofs.YtckojimeglkobaaGreatDoor
open Go.RowKit ScanSpec
end Go.Proofs.YtckojimeglkobaaGreatDoor
namespace Go.Proofs.YtckojimeglkobaaGreatDoor
open Go.RowKit ScanSpec
end Go.Proofs.YtckojimeglkobaaGreatDoor
namespace Go.Proofs.YtckojimeglkobaaGreatDoor
open Go.RowKit ScanSpec
end Go.Proofs.YtckojimeglkobaaGreatDoor
namespace Go.Proofs.YtckojimeglkobaaGreatDoor
open Go.RowKit CurSpec TermSpec ExprSpec NamesSpec ScanSpec
theorem Tms.but {w w':World} {A:Option Addr} {n cp B:Nat} {l:List Tm} (h:Tms w (.slice A n cp) l) (hb:w.grownBy w' (some B)) (hne:(Value.slice A n cp).ownBlock ≠ some B):Tms w' (.slice A n cp) l:=by
 obtain ⟨m,hm,A',c',heq,hc,hl,hA⟩:=h
 cases heq
 refine ⟨n,hm,A,cp,rfl,hc,hl,fun h0 => ?_⟩
 obtain ⟨b,off,rfl,hlt,hcell⟩:=hA h0
 refine ⟨b,off,rfl,Nat.lt_of_lt_of_le hlt hb.size,fun j u hj => ?_⟩
 rw [← hcell j u hj]
 have:=hb.block b hlt (fun e => hne (by rw [← e]; rfl))
 simp [World.cell?,this]
end Go.Proofs.YtckojimeglkobaaGreatDoor
namespace Go.Proofs.YtckojimeglkobaaGreatDoor
namespace ExprSpec
open CurSpec TermSpec ScanSpec
abbrev T (s:ByteArray):List UInt8:=s.data.toList
end ExprSpec
end Go.Proofs.YtckojimeglkobaaGreatDoor
namespace Go.Proofs.YtckojimeglkobaaGreatDoor
namespace ActSpec
open CurSpec TermSpec EvalSpec NamesSpec ExprSpec ScanSpec
end ActSpec
end Go.Proofs.YtckojimeglkobaaGreatDoor
namespace Go.Proofs.YtckojimeglkobaaGreatDoor
namespace TransSpec
open CurSpec TermSpec EvalSpec NamesSpec ExprSpec ScanSpec ActSpec
def Behind (c:Cur) (ws:List ByteArray):Prop:=(next c).k = 3 ∧ (next c).t ∈ ws
end TransSpec
end Go.Proofs.YtckojimeglkobaaGreatDoor
namespace Go.Proofs.YtckojimeglkobaaGreatDoor
namespace PrintSpec
open CurSpec TermSpec EvalSpec NamesSpec ExprSpec ScanSpec ActSpec TransSpec SynSpec
open ShapeSpec (Sh up sf endOf)
def shOf (s:Sx):Sh:=⟨s.kind,s.par⟩
def smallV (n:Int):Bool:=decide (-1000 ≤ n) && decide (n ≤ 1000)
def okV (v:Vr):Bool:=isName v.s.data.toList && (smallV v.lo && (smallV v.hi && smallV v.ini))
def okS (s:Sx):Bool:=isName s.s.data.toList && (decide (chkA s.en = 0) && (decide (chkA s.ex = 0) && (decide (s.tr.length ≤ 16) && s.tr.all fun t => decide (chkT t = 0))))
def mayC (x:Cx):Bool :=
 isName x.s.data.toList && (decide (x.evs.length ≤ 8) && (decide (x.vars.length ≤ 4) && (decide (ShapeSpec.chk (x.sts.map shOf) = 0) && ((x.evs.all fun e => isName e.data.toList) && (x.vars.all okV && x.sts.all okS)))))
structure Ts where
 s:ByteArray
 kind:Int
 par:Int
 en:List Ta
 ex:List Ta
 tr:List Tt
def Ts.sx (t:Ts):Sx:=⟨t.s,t.kind,t.par,t.en.map Ta.ac,t.ex.map Ta.ac,t.tr.map Tt.tr⟩
structure Ts.Ok (t:Ts):Prop where
 nm:isName t.s.data.toList = true
 en:∀ a ∈ t.en,a.Ok
 enf:t.en.length ≤ 8
 ex:∀ a ∈ t.ex,a.Ok
 exf:t.ex.length ≤ 8
 tr:∀ a ∈ t.tr,a.Ok
 trf:t.tr.length ≤ 16
structure Tc where
 s:ByteArray
 evs:List ByteArray
 vars:List Vr
 sts:List Ts
def Tc.sh (c:Tc):List Sh:=c.sts.map fun t => ⟨t.kind,t.par⟩
structure Tc.Ok (c:Tc):Prop where
 nm:isName c.s.data.toList = true
 evf:c.evs.length ≤ 8
 vaf:c.vars.length ≤ 4
 sh:ShapeSpec.chk c.sh = 0
 evs:∀ e ∈ c.evs,isName e.data.toList = true
 vars:∀ v ∈ c.vars,okV v = true
 sts:∀ t ∈ c.sts,t.Ok
section
variable (sh:List Sh)
end
section
variable (sh:List Sh)
end
end PrintSpec
end Go.Proofs.YtckojimeglkobaaGreatDoor
namespace Go.Proofs.YtckojimeglkobaaGreatDoor
open Go.RowKit TermSpec EvalSpec ActSpec NamesSpec ExprSpec TransSpec SynSpec PrintSpec
set_option maxRecDepth 100000
def termsW (l:List Tm):Nat:=if 45 < l.length then 1000 else if l.any (fun t => decide (100 < t.s.size)) then 1000 else l.length
def actW (a:Ac):Nat:=1 + termsW a.x + if 100 < a.s.size then 1000 else 0
def weighA (l:List Ac):Nat:=(l.map actW).sum
theorem termsW_le (l:List Tm):termsW l ≤ 1000:=by
 unfold termsW
 split
 ·omega
 ·split <;> omega
theorem termsW_many {l:List Tm} (h:45 < l.length):termsW l = 1000:=if_pos h
theorem termsW_hit {l:List Tm} {k:Nat} {t:Tm} (h:¬ 45 < l.length) (hk:l[k]? = some t) (ht:100 < t.s.size):termsW l = 1000:=by
 unfold termsW
 rw [if_neg h,if_pos]
 rw [List.any_eq_true]
 exact ⟨t,List.mem_of_getElem? hk,by simpa using ht⟩
theorem termsW_none {l:List Tm} (h:¬ 45 < l.length) (ha:l.any (fun t => decide (100 < t.s.size)) = false):termsW l = l.length:=by
 unfold termsW
 rw [if_neg h,ha]
 rfl
theorem any_next {α:Type} {f:α → Bool} {l:List α} {k:Nat} {x:α} (hx:l[k]? = some x) (h:(l.take k).any f = false) (hf:f x = false):(l.take (k + 1)).any f = false:=by
 rw [take_next hx,List.any_append,h]
 simp [hf]
set_option maxHeartbeats 1000000 in
theorem terms_any (A:Option Addr) (n c:Nat) (l:List Tm) (w:World) (h:Tms w (.slice A n c) l) (hs:Small l):Calls Tryz.prog 24 #[.slice A n c] w (SameI w (termsW l)):=by
 obtain ⟨A',n',c',heq,hn,hc⟩:=h.shape
 cases heq
 have HT:=Lib.hid h
 have HS:=Lib.hid hs
 have HN:=Lib.hid hn
 by_cases h45:45 < n
 ·have g:decide (45 < (n:Int)) = true:=by simp; omega
  have HE:=Lib.hid (termsW_many (l:=l) (by omega))
  clear h hs hn
  go_enter Tryz.func24,Tryz.ntmps24
  go_wp2_with fail
  go_ret
  exact ⟨by rw [HE.out]; rfl,rfl⟩
 ·have g:decide (45 < (n:Int)) = false:=by simp; omega
  have HK:Hid (∀ (k:Nat) (t:Tm),l[k]? = some t → 100 < t.s.size → termsW l = 1000):=Lib.hid fun k t hk ht => termsW_hit (by omega) hk ht
  have HZ:Hid (l.any (fun t => decide (100 < t.s.size)) = false → termsW l = n):=Lib.hid fun ha => by rw [termsW_none (by omega) ha,hn]
  obtain ⟨r,hr⟩:∃ r,r = termsW l:=⟨_,rfl⟩
  rw [← hr] at HK HZ ⊢
  clear h hs hn hr
  go_enter Tryz.func24,Tryz.ntmps24
  go_wp2_with fail
  go_loop [3] (fun i => ∃ k:Nat,k ≤ n ∧ i = .int .i64 k ∧ Hid ((l.take k).any (fun t => decide (100 < t.s.size)) = false)) (fun i => n - (intOf i).toNat)
  case atStart => exact ⟨0,Nat.zero_le _,rfl,Lib.hid rfl⟩
  case round =>
   obtain ⟨k,hk,rfl,HA⟩:=hrel
   by_cases hlt:k < n
   ·obtain ⟨t,ht⟩:∃ t,l[k]? = some t:=get_some (by rw [← HN.out]; exact hlt)
    obtain ⟨b,off,rfl,hb,c0,c1,c2⟩:=HT.out.at_ ht
    have hsz:=HS.out t (List.mem_of_getElem? ht)
    by_cases h1:100 < t.s.size
    ·have HE:=Lib.hid (HK.out k t ht h1)
     have g1:decide (100 < (t.s.size:Int)) = true:=by simp; omega
     clear ht
     go_wp2_with fail
     go_ret
     exact ⟨by rw [HE.out]; rfl,rfl⟩
    ·have HX:=Lib.hid (any_next ht HA.out (f:=fun t => decide (100 < t.s.size)) (by simpa using h1))
     have g1:decide (100 < (t.s.size:Int)) = false:=by simp; omega
     clear ht
     go_wp2_with fail
     go_round
     case rel => exact ⟨k + 1,by omega,by go_num,HX⟩
     case measure => simp [intOf]; omega
   ·have HE:Hid (r = n):=Lib.hid (by
     refine HZ.out ?_
     have:=HA.out
     rwa [List.take_of_length_le (by rw [← HN.out]; omega)] at this)
    go_wp2_with fail
    go_ret
    exact ⟨by rw [HE.out]; rfl,rfl⟩
theorem weigh_next {l:List Ac} {k:Nat} {a:Ac} (h:l[k]? = some a):weighA (l.take (k + 1)) = weighA (l.take k) + (1 + termsW a.x + if 100 < a.s.size then 1000 else 0):=by
 rw [take_next h]
 simp [weighA,actW]
theorem weigh_le (l:List Ac):weighA l ≤ 2001 * l.length:=by
 induction l with
 | nil => simp [weighA]
 | cons a r ih =>
   have:=termsW_le a.x
   unfold weighA at ih ⊢
   rw [List.map_cons,List.sum_cons,List.length_cons]
   have:actW a ≤ 2001:=by unfold actW; split <;> omega
   omega
def WeighRel (l:List Ac) (n:Nat) (s i:Value):Prop:=∃ k:Nat,k ≤ n ∧ i = .int .i64 k ∧ s = .int .i64 (weighA (l.take k))
set_option maxHeartbeats 1000000 in
theorem weigh_any (A:Option Addr) (n c:Nat) (l:List Ac) (w:World) (h:Acs w (.slice A n c) l) (hs:∀ a ∈ l,a.s.size ≤ 9223372036854775807 ∧ Small a.x) (h10:n ≤ 1000):Calls Tryz.prog 23 #[.slice A n c] w (SameI w (weighA l)):=by
 have hn:=h.len.1
 have hcap:=h.len.2
 have HN:=Lib.hid hn
 have HT:=Lib.hid h
 have HS:=Lib.hid hs
 clear hn h hs
 go_enter Tryz.func23,Tryz.ntmps23
 go_wp2_with fail
 go_loop [3,4] (fun s i => WeighRel l n s i) (fun _ i => n - (intOf i).toNat)
 case atStart => exact ⟨0,Nat.zero_le _,rfl,rfl⟩
 case round =>
  obtain ⟨k,hk,rfl,rfl⟩:=hrel
  by_cases hlt:k < n
  ·obtain ⟨a,ha⟩:∃ a,l[k]? = some a:=get_some (by rw [← HN.out]; exact hlt)
   obtain ⟨b,off,xA,xn,xc,rfl,hb,htm,c0,c1,c2⟩:=HT.out.at_ ha
   have hsz:=HS.out a (List.mem_of_getElem? ha)
   have HC:=Lib.hid (terms_any xA xn xc a.x w htm hsz.2)
   have hx:=termsW_le a.x
   have HX:=Lib.hid (weigh_next ha)
   have hle:=weigh_le (l.take k)
   rw [List.length_take] at hle
   obtain ⟨s,hsum⟩:∃ s,s = weighA (l.take k):=⟨_,rfl⟩
   rw [← hsum] at HX hle ⊢
   have hle':s ≤ 2001000:=by omega
   obtain ⟨q,hq⟩:∃ q,q = termsW a.x:=⟨_,rfl⟩
   rw [← hq] at HC HX hx
   have hs1:=hsz.1
   obtain ⟨nm,any,x⟩:=a
   simp only at c0 c1 c2 HX hs1
   clear ha htm hsz hle hsum hq
   by_cases h1:100 < nm.size
   ·have g1:decide (100 < (nm.size:Int)) = true:=by simp; omega
    go_wp2_with (go_at_call 24; (with_reducible refine HC.out.mono ?_))
    rintro e2 w2 ⟨rfl,rfl⟩
    go_wp2_with fail
    go_round
    case rel => exact ⟨k + 1,by omega,by go_num,by rw [HX.out,if_pos h1]; simp; omega⟩
    case measure => simp [intOf]; omega
   ·have g1:decide (100 < (nm.size:Int)) = false:=by simp; omega
    go_wp2_with (go_at_call 24; (with_reducible refine HC.out.mono ?_))
    rintro e2 w2 ⟨rfl,rfl⟩
    go_wp2_with fail
    go_round
    case rel => exact ⟨k + 1,by omega,by go_num,by rw [HX.out,if_neg h1]; simp; omega⟩
    case measure => simp [intOf]; omega
  ·obtain rfl:k = n:=by omega
   have HE:Hid (weighA (l.take k) = weighA l):=Lib.hid (by rw [List.take_of_length_le (by have:=HN.out; omega)])
   go_wp2_with fail
   go_ret
   exact ⟨by rw [← HE.out]; rfl,rfl⟩
def manyB (l:List ByteArray):Bool:=decide (30 < l.length) || longB l 100
theorem many_hit {l:List ByteArray} {k:Nat} {s:ByteArray} (h:l[k]? = some s) (hs:100 < (s.size:Int)):manyB l = true:=by
 unfold manyB longB
 rw [Bool.or_eq_true]
 exact .inr (List.any_eq_true.2 ⟨s,List.mem_of_getElem? h,decide_eq_true hs⟩)
set_option maxHeartbeats 1000000 in
theorem many_any (A:Option Addr) (n c:Nat) (l:List ByteArray) (w:World) (h:RdS w (.slice A n c) l) (hm:l.length ≤ 9223372036854775807) (hs:∀ s ∈ l,s.size ≤ 9223372036854775807) :
 Calls Tryz.prog 22 #[.slice A n c] w (SameB w (manyB l)):=by
 obtain ⟨A',n',c',heq,hn,hc,hA⟩:=Rd.strs h
 cases heq
 have HA:=Lib.hid hA
 have HN:=Lib.hid hn
 have HS:=Lib.hid hs
 have HP:=Lib.hid (rplace_any (.slice A n c) l ⟨#[]⟩ w h hm)
 have HB:=Lib.hid (place_bd l ⟨#[]⟩)
 have hm':n ≤ 9223372036854775807:=by omega
 obtain ⟨r,hr⟩:∃ r,r = manyB l:=⟨_,rfl⟩
 rw [← hr]
 have HR:=Lib.hid hr
 clear hA hn h hm hs hr
 go_enter Tryz.func22,Tryz.ntmps22
 go_wp2
 go_loop [3] (fun i => ∃ k:Nat,k ≤ n ∧ k ≤ 100 ∧ i = .int .i64 k ∧ longB (l.take k) 100 = false) (fun i => n - (intOf i).toNat)
 case atStart => exact ⟨0,Nat.zero_le _,Nat.zero_le _,rfl,rfl⟩
 case round =>
  obtain ⟨k,hk,hk100,rfl,hno⟩:=hrel
  have HO:=Lib.hid hno
  clear hno
  by_cases hgo:k < n ∧ k < 100
  ·have g1:decide ((k:Int) < n) = true:=by simp; omega
   have g2:decide ((k:Int) < 100) = true:=by simp; omega
   obtain ⟨b,off,rfl,hb,hcell⟩:=HA.out (by omega)
   obtain ⟨x,hx⟩:∃ x,l[k]? = some x:=get_some (by have:=HN.out; omega)
   have hck:=hcell k x hx
   have HX:=Lib.hid hx
   have hsz:=HS.out x (List.mem_of_getElem? hx)
   clear hcell hx
   by_cases hxs:100 < (x.size:Int)
   ·have HE:Hid (r = true):=Lib.hid (by rw [HR.out]; exact many_hit HX.out hxs)
    have g3:decide (100 < (x.size:Int)) = true:=by simpa using hxs
    go_wp2
    go_ret
    exact ⟨ret_bool HE.out.symm,rfl⟩
   ·have g3:decide (100 < (x.size:Int)) = false:=by simpa using hxs
    go_wp2
    go_round
    case rel =>
     refine ⟨k + 1,by omega,by omega,by go_num,?_⟩
     have:=HO.out
     unfold longB at this ⊢
     rw [take_next HX.out,List.any_append,this]
     simpa using hxs
    case measure => simp [intOf]; omega
  ·have g0:(decide ((k:Int) < n) && decide ((k:Int) < 100)) = false:=by simp; omega
   by_cases h30:30 < n
   ·have HE:Hid (r = true):=Lib.hid (by rw [HR.out]; unfold manyB; rw [Bool.or_eq_true]; exact .inl (by simp; have:=HN.out; omega))
    have g3:decide (30 < (n:Int)) = true:=by simp; omega
    by_cases hkn:k < n
    ·have g1:decide ((k:Int) < n) = true:=by simp; omega
     have g2:decide ((k:Int) < 100) = false:=by simp; omega
     go_wp2
     go_ret
     exact ⟨ret_bool HE.out.symm,rfl⟩
    ·have g1:decide ((k:Int) < n) = false:=by simp; omega
     go_wp2
     go_ret
     exact ⟨ret_bool HE.out.symm,rfl⟩
   ·have hkn:k = n:=by omega
    subst hkn
    have HE:Hid (r = false):=Lib.hid (by
     rw [HR.out]
     unfold manyB
     have h1:=HO.out
     have h2:=HN.out
     rw [List.take_of_length_le (by omega)] at h1
     rw [h1]
     simp
     omega)
    have g1:decide ((k:Int) < k) = false:=by simp
    have g3:decide (30 < (k:Int)) = false:=by simp; omega
    have hb:=HB.out
    have hn2:=HN.out
    obtain ⟨q,hq⟩:∃ q,q = Lib.idxOfS l ⟨#[]⟩:=⟨_,rfl⟩
    rw [← hq] at HP hb
    have g4:decide (1000 < q) = false:=by simp; omega
    clear hq
    go_wp2_with (go_at_call 43; (with_reducible refine HP.out.mono ?_); rintro e2 w2 ⟨rfl,rfl⟩)
    go_ret
    exact ⟨ret_bool HE.out.symm,rfl⟩
end Go.Proofs.YtckojimeglkobaaGreatDoor
namespace Go.Proofs.YtckojimeglkobaaGreatDoor
open Go.RowKit TermSpec EvalSpec ActSpec NamesSpec ExprSpec TransSpec SynSpec PrintSpec
theorem StsP.len {w:World} {A:Option Addr} {n c:Nat} {l:List Sx} (h:StsP w (.slice A n c) l):n = l.length ∧ n ≤ c:=by
 obtain ⟨ps,rfl,⟨A',c',heq,hc,-⟩,-⟩:=h
 cases heq
 exact ⟨(List.length_map _).symm,hc⟩
theorem StsP.at_ {w:World} {A:Option Addr} {n c:Nat} {l:List Sx} {i:Nat} {s:Sx} (h:StsP w (.slice A n c) l) (hi:l[i]? = some s) :
 ∃ b off a3 n3 c3 a4 n4 c4 a5 n5 c5,A = some ⟨b,off,none⟩ ∧ b < w.heap.size ∧ w.cell? ⟨b,off + i * 6,none⟩ = some (.string s.s) ∧ w.cell? ⟨b,off + i * 6 + 1,none⟩ = some (.int .i64 s.kind) ∧ w.cell? ⟨b,off + i * 6 + 2,none⟩ = some (.int .i64 s.par) ∧
   w.cell? ⟨b,off + i * 6 + 3,none⟩ = some (.slice a3 n3 c3) ∧ w.cell? ⟨b,off + i * 6 + 4,none⟩ = some (.slice a4 n4 c4) ∧ w.cell? ⟨b,off + i * 6 + 5,none⟩ = some (.slice a5 n5 c5) ∧
   Acs w (.slice a3 n3 c3) s.en ∧ Acs w (.slice a4 n4 c4) s.ex ∧ Trs w (.slice a5 n5 c5) s.tr:=by
 obtain ⟨ps,rfl,⟨A',c',heq,hc,hl,hA⟩,hn⟩:=h
 cases heq
 have hlt:=get_lt hi
 rw [List.getElem?_map] at hi
 obtain ⟨p,hp,rfl⟩:=Option.map_eq_some_iff.1 hi
 obtain ⟨b,off,rfl,hb,hcell⟩:=hA (by rw [List.length_map] at hlt; omega)
 obtain ⟨k1,k2,k3⟩:=hn p (List.mem_of_getElem? hp)
 refine ⟨b,off,p.a3,p.n3,p.c3,p.a4,p.n4,p.c4,p.a5,p.n5,p.c5,rfl,hb,?_,?_,?_,?_,?_,?_,k1,k2,k3⟩
 ·exact hcell _ _ (flat_get (j:=0) spV_length hp (by omega))
 ·rw [Nat.add_assoc]; exact hcell _ _ (flat_get (j:=1) spV_length hp (by omega))
 ·rw [Nat.add_assoc]; exact hcell _ _ (flat_get (j:=2) spV_length hp (by omega))
 ·rw [Nat.add_assoc]; exact hcell _ _ (flat_get (j:=3) spV_length hp (by omega))
 ·rw [Nat.add_assoc]; exact hcell _ _ (flat_get (j:=4) spV_length hp (by omega))
 ·rw [Nat.add_assoc]; exact hcell _ _ (flat_get (j:=5) spV_length hp (by omega))
theorem Trs.len {w:World} {A:Option Addr} {n c:Nat} {l:List Tr} (h:Trs w (.slice A n c) l):n = l.length ∧ n ≤ c:=by
 obtain ⟨ps,rfl,⟨A',c',heq,hc,-⟩,-⟩:=h
 cases heq
 exact ⟨(List.length_map _).symm,hc⟩
theorem Trs.at_ {w:World} {A:Option Addr} {n c:Nat} {l:List Tr} {i:Nat} {t:Tr} (h:Trs w (.slice A n c) l) (hi:l[i]? = some t) :
 ∃ b off gA gn gc aA an ac,A = some ⟨b,off,none⟩ ∧ b < w.heap.size ∧ w.cell? ⟨b,off + i * 4,none⟩ = some (.string t.ev) ∧ w.cell? ⟨b,off + i * 4 + 1,none⟩ = some (.slice gA gn gc) ∧ w.cell? ⟨b,off + i * 4 + 2,none⟩ = some (.slice aA an ac) ∧ w.cell? ⟨b,off + i * 4 + 3,none⟩ = some (.string t.tg) ∧
   TrIn w gA gn gc aA an ac t:=by
 obtain ⟨ps,rfl,⟨A',c',heq,hc,hl,hA⟩,hn⟩:=h
 cases heq
 have hlt:=get_lt hi
 rw [List.getElem?_map] at hi
 obtain ⟨p,hp,rfl⟩:=Option.map_eq_some_iff.1 hi
 obtain ⟨b,off,rfl,hb,hcell⟩:=hA (by rw [List.length_map] at hlt; omega)
 refine ⟨b,off,p.gA,p.gn,p.gc,p.aA,p.an,p.ac,rfl,hb,?_,?_,?_,?_,hn p (List.mem_of_getElem? hp)⟩
 ·exact hcell _ _ (flat_get (j:=0) tpV_length hp (by omega))
 ·rw [Nat.add_assoc]; exact hcell _ _ (flat_get (j:=1) tpV_length hp (by omega))
 ·rw [Nat.add_assoc]; exact hcell _ _ (flat_get (j:=2) tpV_length hp (by omega))
 ·rw [Nat.add_assoc]; exact hcell _ _ (flat_get (j:=3) tpV_length hp (by omega))
theorem RdV.len {w:World} {A:Option Addr} {n c:Nat} {l:List Vr} (h:RdV w (.slice A n c) l):n = l.length ∧ n ≤ c:=by
 obtain ⟨A',c',heq,hc,-⟩:=h
 cases heq
 exact ⟨rfl,hc⟩
theorem RdV.vars {w:World} {A:Option Addr} {n c:Nat} {l:List Vr} (h:RdV w (.slice A n c) l):VarsIn w A n c l:=by
 obtain ⟨hn,-⟩:=RdV.len h
 refine ⟨hn,?_⟩
 rw [hn]
 rw [hn] at h
 exact h
theorem StsP.sts {w:World} {v:Value} {l:List Sx} (h:StsP w v l):Sts w v (l.map shOf):=by
 obtain ⟨ps,rfl,hr,-⟩:=h
 refine ⟨ps.map fun p => ⟨p.x.s,shOf p.x,p.a3,p.n3,p.c3,p.a4,p.n4,p.c4,p.a5,p.n5,p.c5⟩,by rw [List.map_map,List.map_map]; rfl,?_⟩
 rw [List.length_map,List.length_map]
 have:stsV (ps.map fun p => ⟨p.x.s,shOf p.x,p.a3,p.n3,p.c3,p.a4,p.n4,p.c4,p.a5,p.n5,p.c5⟩) = ps.flatMap spV:=by
  unfold stsV
  rw [List.flatMap_map]
  rfl
 rw [this]
 exact hr
structure FitC (x:Cx):Prop where
 s:x.s.size ≤ 9223372036854775807
 evs:∀ e ∈ x.evs,e.size ≤ 9223372036854775807
 evl:x.evs.length ≤ 9223372036854775807
 vars:∀ v ∈ x.vars,v.s.size ≤ 9223372036854775807
 sts:∀ s ∈ x.sts,s.s.size ≤ 9223372036854775807 ∧ (∀ a ∈ s.en,a.s.size ≤ 9223372036854775807 ∧ Small a.x) ∧ (∀ a ∈ s.ex,a.s.size ≤ 9223372036854775807 ∧ Small a.x) ∧
  ∀ t ∈ s.tr,t.ev.size ≤ 9223372036854775807 ∧ t.tg.size ≤ 9223372036854775807 ∧ Small t.g ∧ ∀ a ∈ t.acts,a.s.size ≤ 9223372036854775807 ∧ Small a.x
def okLT (t:Tr):Bool:=decide (t.ev.size ≤ 100) && (decide (t.tg.size ≤ 100) && decide (t.acts.length ≤ 10))
def okLS (s:Sx):Bool:=decide (s.s.size ≤ 100) && (decide (s.tr.length ≤ 20) && (decide (s.en.length ≤ 10) && decide (s.ex.length ≤ 10)))
def wTr (t:Tr):Nat:=1 + weighA t.acts + termsW t.g
def wSt (s:Sx):Nat:=weighA s.en + weighA s.ex + (s.tr.map wTr).sum
def stL (s:Sx):Bool:=okLS s && s.tr.all okLT
def wCx (l:List Sx):Nat:=(l.map wSt).sum
def lightC (x:Cx):Bool:=decide (x.s.size ≤ 100) && (!manyB x.evs && (decide (x.vars.length ≤ 10) && (decide (x.sts.length ≤ 65) && (x.vars.all (fun v => decide (v.s.size ≤ 100)) && (x.sts.all stL && decide (wCx x.sts ≤ 160))))))
theorem sum_next {α:Type} (f:α → Nat) {l:List α} {k:Nat} {x:α} (h:l[k]? = some x):((l.take (k + 1)).map f).sum = ((l.take k).map f).sum + f x:=by
 rw [take_next h]
 simp
theorem sum_take_le {α:Type} (f:α → Nat) (l:List α) (k:Nat):((l.take k).map f).sum ≤ (l.map f).sum:=by
 have:=congrArg (fun l => (l.map f).sum) (List.take_append_drop k l)
 simp only [List.map_append,List.sum_append] at this
 omega
theorem wTr_le {t:Tr} (h:t.acts.length ≤ 10):wTr t ≤ 21011:=by
 have h1:=weigh_le t.acts
 have h2:=termsW_le t.g
 unfold wTr
 omega
theorem all_take {α:Type} {f:α → Bool} {l:List α} {k:Nat} {x:α} (hx:l[k]? = some x) (h:(l.take k).all f = true) (hf:f x = true):(l.take (k + 1)).all f = true:=by
 rw [take_next hx,List.all_append,h]
 simp [hf]
theorem all_bad {α:Type} {f:α → Bool} {l:List α} {k:Nat} {x:α} (hx:l[k]? = some x) (hf:f x = false):l.all f = false:=by
 rw [List.all_eq_false]
 exact ⟨x,List.mem_of_getElem? hx,by simp [hf]⟩
end Go.Proofs.YtckojimeglkobaaGreatDoor
namespace Go.Proofs.YtckojimeglkobaaGreatDoor
open Go.RowKit TermSpec Go.BigFrame
end Go.Proofs.YtckojimeglkobaaGreatDoor
namespace Go.Proofs.YtckojimeglkobaaGreatDoor
open Go.RowKit Go.Sort TermSpec EvalSpec ActSpec NamesSpec Go.BigFrame
end Go.Proofs.YtckojimeglkobaaGreatDoor
namespace Go.Proofs.YtckojimeglkobaaGreatDoor
open Go.RowKit Go.Sort TermSpec EvalSpec ActSpec NamesSpec Go.BigFrame
set_option maxRecDepth 100000
end Go.Proofs.YtckojimeglkobaaGreatDoor
namespace Go.Proofs.YtckojimeglkobaaGreatDoor
open Go.RowKit TermSpec EvalSpec ActSpec NamesSpec ExprSpec TransSpec
end Go.Proofs.YtckojimeglkobaaGreatDoor
namespace Go.Proofs.YtckojimeglkobaaGreatDoor
open Go.RowKit Go.Sort TermSpec EvalSpec ActSpec NamesSpec ExprSpec TransSpec SynSpec PrintSpec
set_option maxRecDepth 100000
end Go.Proofs.YtckojimeglkobaaGreatDoor
namespace Go.Proofs.YtckojimeglkobaaGreatDoor
open Go.RowKit Go.Sort TermSpec EvalSpec ActSpec NamesSpec ExprSpec TransSpec SynSpec PrintSpec
end Go.Proofs.YtckojimeglkobaaGreatDoor