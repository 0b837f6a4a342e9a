/- TermBelow, ValPut, ExprText, ActTextSpec, ExprBetween, ExprMid, ExprLast, ActReadSpec, TransSpec, SynSpec, RowB, TermLits, joined. -/
import Derived.Test.YtckojimeglkobaaGreatDoorMConfFills07
import Derived.Test.YtckojimeglkobaaGreatDoorMConfFills04
import Derived.Test.YtckojimeglkobaaGreatDoorMConfFills06
import Derived.Deep.RegionHeld3
import Derived.Test.YtckojimeglkobaaGreatDoorMConfFills01
import Derived.Lib.Join
namespace Go.Proofs.YtckojimeglkobaaGreatDoor
open Go.RowKit TermSpec
set_option maxRecDepth 100000
theorem below_next {l:List Tm} {a k q m:Nat} (h:cnt q (l.drop (a + 1)) = some m) (hk:k < q) :
 endA l ((a + 1 + (cnt k (l.drop (a + 1))).getD 0:Nat):Int) = (a + 1 + (cnt (k + 1) (l.drop (a + 1))).getD 0:Nat) ∧ a + 1 + (cnt (k + 1) (l.drop (a + 1))).getD 0 ≤ max l.length (a + 1):=by
 rw [show q = (k + 1) + (q - (k + 1)) by omega] at h
 obtain ⟨x,_,hx,_,_⟩:=cnt_split h
 obtain ⟨y,z,hy,hz,rfl⟩:=cnt_split hx
 rw [hy,hx]
 rw [List.drop_drop] at hz
 have:=(cnt_le hx).1
 rw [List.length_drop] at this
 refine ⟨?_,by simp only [Option.getD_some]; omega⟩
 rw [show (some y).getD 0 = y from rfl,endA_some hz]
 simp only [Option.getD_some]
 omega
def BelRel (W:World) (l:List Tm) (a q:Nat) (p v i:Value) (wr:World):Prop :=
 ∃ k:Nat,k ≤ q ∧ i = .int .i64 k ∧ v = .int .i64 (a + 1 + (cnt k (l.drop (a + 1))).getD 0:Nat) ∧ RowI W wr p (belows l a k)
set_option maxHeartbeats 2000000 in
theorem below_yes (A:Option Addr) (n c:Nat) (l:List Tm) (a:Nat) (w:World) (h:Tms w (.slice A n c) l) (hn:n = l.length) (hn62:n ≤ 70368744177664) (t:Tm) (ht:l[a]? = some t) (he:0 ≤ endA l a) :
 Calls Tryz.prog 200 #[.slice A n c,.int .i64 a] w (RetInts w (belows l a (arN t.op))):=by
 obtain ⟨k0,m0,hk0,hc0,_,_,_⟩:=endA_nn he
 obtain rfl:k0 = a:=by omega
 obtain ⟨t',m,ht',h0,_,hm⟩:=first_of hc0
 rw [ht] at ht'
 cases ht'
 have han:=get_lt ht
 have e0:=arN_of h0
 have HT:=Lib.hid h
 have HN:=Lib.hid hn
 have HM:=Lib.hid hm
 obtain ⟨b,off,rfl,hb,c0,-,-⟩:=h.at_ ht
 have HC:=Lib.hid (arity_any t.op)
 have HEE:=Lib.hid (fun (a:Int) w h => end_any (some ⟨b,off,none⟩) n c l a w h hn (by omega))
 have hE:=HEE.out k0 w h
 obtain ⟨r,hr⟩:∃ r,r = endA l k0:=⟨_,rfl⟩
 rw [← hr] at hE he
 have HE:=Lib.hid hE
 obtain ⟨o,ho⟩:∃ o,o = t.op:=⟨_,rfl⟩
 rw [← ho] at HC c0 e0 h0 HM ⊢
 have hq:=(ar_bd o).2
 obtain ⟨q,hqe⟩:∃ q,q = arN o:=⟨_,rfl⟩
 rw [← hqe] at e0 HM ⊢
 rw [← e0] at HC hq
 have hq2:q ≤ 2:=by omega
 have hal:k0 < n:=by omega
 have hal':(k0:Int) < n:=by omega
 obtain ⟨i0,hi,hz0,hz1,hz2⟩:=info_parts inf_int
 have HI:=Lib.hid (And.intro hi (And.intro hz0 (And.intro hz1 hz2)))
 clear ht ho hqe hn h hc0 hk0 hm hr hE h0 e0 han hi hz0 hz1 hz2 hq
 go_enter Tryz.func200,Tryz.ntmps200
 go_wp2_with (first
  | (go_at_call 196; (with_reducible refine HE.out.mono ?_); rintro e w' ⟨rfl,rfl⟩)
  | (go_at_call 199; (with_reducible refine (HC.out _).mono ?_); rintro e w' ⟨rfl,rfl⟩))
 go_loopw [5,6,19] (fun p v i wr => BelRel w l k0 q p v i wr) (fun _ _ i _ => 3 - (intOf i).toNat)
 case atStart => exact ⟨0,Nat.zero_le _,rfl,by rw [cnt_zero]; simp,RowI.nil _ _ (Below.refl _ _)⟩
 case round =>
  obtain ⟨k,hk,rfl,rfl,hrow⟩:=hrel
  have HR:=Lib.hid hrow
  by_cases hlt:k < q
  ·obtain ⟨hx,hx2⟩:=below_next HM.out hlt
   obtain ⟨y,hy⟩:∃ y,y = k0 + 1 + (cnt k (l.drop (k0 + 1))).getD 0:=⟨_,rfl⟩
   obtain ⟨z,hz⟩:∃ z,z = k0 + 1 + (cnt (k + 1) (l.drop (k0 + 1))).getD 0:=⟨_,rfl⟩
   have HX:=Lib.hid hx
   have HY:=Lib.hid hy
   have HZ:=Lib.hid hz
   have hl:=belows_length l k0 k
   have HL1:Hid ((belows l k0 k).length + (intV [(y:Int)]).length ≤ maxLen):=Lib.hid (by rw [hl]; simp [maxLen]; omega)
   have HL2:Hid (((belows l k0 k).length + (intV [(y:Int)]).length) * 8 ≤ 140737488355328):=Lib.hid (by rw [hl]; simp; omega)
   rw [← HY.out]
   have HSZ:Hid (w.heap.size ≤ wr.heap.size):=Lib.hid hrow.2.size
   have HRA:=Lib.hid hrow.1
   clear hx hx2 hy hz hl hrow
   go_wp2_with (first
    | (at_builtin; refine wpList_append_rd _ rfl (.tmp 21) (.tmp 23) _ rfl w.heap.size 3 i0 (.int .i64 0) 8 Tryz.underlying90 HI.out.1 HI.out.2.1 HI.out.2.2.1 HI.out.2.2.2 rfl _ _ _ rfl (HRA.out.alloc _) _ (intV [(y:Int)]) rfl (Rd.lit (cs:=#[.int .i64 y]) rfl) (intV_one _) HL1.out HL2.out ?_ ?_; (have:=HSZ.out; simp; omega); intro p2 w2 hrow2 hg2 _; have HR2:=Lib.hid (RowI.add HR.out hrow2 hg2); have HT2:=Lib.hid (HT.out.keep HR2.out.2); clear hrow2 hg2)
    | (go_at_call 196; (with_reducible refine (HEE.out _ _ HT2.out).mono ?_); rintro e w' ⟨rfl,rfl⟩))
   go_roundw
   case rel => exact ⟨k + 1,hlt,by simp,by rw [HY.out,HX.out],by rw [belows_next,← HY.out]; exact HR2.out⟩
   case measure => simp [intOf]; omega
  ·obtain rfl:k = q:=by omega
   go_wp2_with fail
   go_ret
   exact ⟨_,rfl,HR.out.read,HR.out.2⟩
set_option maxHeartbeats 2000000 in
theorem rbelow_any (A:Option Addr) (n c:Nat) (l:List Tm) (a:Nat) (w:World) (h:Tms w (.slice A n c) l) (hn:n = l.length) (hn62:n ≤ 70368744177664) (t:Tm) (ht:l[a]? = some t) (he:0 ≤ endA l a) :
 Calls Tryz.prog 113 #[.slice A n c,.int .i64 a] w (RetInts w (belows l a (arN t.op))):=by
 obtain ⟨k0,m0,hk0,hc0,_,_,_⟩:=endA_nn he
 obtain rfl:k0 = a:=by omega
 obtain ⟨t',m,ht',h0,_,hm⟩:=first_of hc0
 rw [ht] at ht'
 cases ht'
 have han:=get_lt ht
 have e0:=arN_of h0
 have HT:=Lib.hid h
 have HN:=Lib.hid hn
 have HM:=Lib.hid hm
 obtain ⟨b,off,rfl,hb,c0,-,-⟩:=h.at_ ht
 have HC:=Lib.hid (rarity_any t.op)
 have HEE:=Lib.hid (fun (a:Int) w h => rend_any (some ⟨b,off,none⟩) n c l a w h hn (by omega))
 obtain ⟨o,ho⟩:∃ o,o = t.op:=⟨_,rfl⟩
 rw [← ho] at HC c0 e0 h0 HM ⊢
 have hq:=(ar_bd o).2
 obtain ⟨q,hqe⟩:∃ q,q = arN o:=⟨_,rfl⟩
 rw [← hqe] at e0 HM ⊢
 rw [← e0] at HC hq
 have hq2:q ≤ 2:=by omega
 have hal:k0 < n:=by omega
 have hal':(k0:Int) < n:=by omega
 have HCELL:=Lib.hid c0
 obtain ⟨i0,hi,hz0,hz1,hz2⟩:=info_parts inf_int
 have HI:=Lib.hid (And.intro hi (And.intro hz0 (And.intro hz1 hz2)))
 clear ht ho hqe hn h hc0 hk0 hm he h0 e0 han hi hz0 hz1 hz2 hq c0
 go_enter Tryz.func113,Tryz.ntmps113
 go_wp2_with fail
 go_loopw [5,6,7] (fun p v i wr => BelRel w l k0 q p v i wr) (fun _ _ i _ => 3 - (intOf i).toNat)
 case atStart => exact ⟨0,Nat.zero_le _,rfl,by rw [cnt_zero]; simp,World.ownsRow_lit w #[] 0 (Nat.le_refl _) (Nat.zero_le _) rfl,(Below.refl _ _).alloc (Nat.le_refl _) _⟩
 case round =>
  obtain ⟨k,hk,rfl,rfl,hrow⟩:=hrel
  have HR0:=Lib.hid hrow
  have c0:wr.cell? ⟨b,off + k0 * 3,none⟩ = some (.int .i64 o):=(hrow.2.cell (by exact hb)).trans HCELL.out
  clear hrow
  by_cases hlt:k < q
  ·obtain ⟨hx,hx2⟩:=below_next HM.out hlt
   obtain ⟨y,hy⟩:∃ y,y = k0 + 1 + (cnt k (l.drop (k0 + 1))).getD 0:=⟨_,rfl⟩
   have HX:=Lib.hid hx
   have HY:=Lib.hid hy
   have hl:=belows_length l k0 k
   have HL1:Hid ((belows l k0 k).length + (intV [(y:Int)]).length ≤ maxLen):=Lib.hid (by rw [hl]; simp [maxLen]; omega)
   have HL2:Hid (((belows l k0 k).length + (intV [(y:Int)]).length) * 8 ≤ 140737488355328):=Lib.hid (by rw [hl]; simp; omega)
   rw [← HY.out]
   clear hx hx2 hy hl
   go_wp2_with (go_at_call 132; (with_reducible refine (HC.out _).mono ?_))
   rintro e w1 ⟨rfl,hb1⟩
   have HR:=Lib.hid (HR0.out.keep hb1)
   have HSZ:Hid (w.heap.size ≤ w1.heap.size):=Lib.hid HR.out.2.size
   have HRA:=Lib.hid HR.out.1
   clear hb1 c0
   go_wp2_with (at_builtin; refine wpList_append_rd _ rfl (.tmp 21) (.tmp 23) _ rfl w.heap.size 3 i0 (.int .i64 0) 8 Tryz.underlying90 HI.out.1 HI.out.2.1 HI.out.2.2.1 HI.out.2.2.2 rfl _ _ _ rfl (HRA.out.alloc _) _ (intV [(y:Int)]) rfl (Rd.lit (cs:=#[.int .i64 y]) rfl) (intV_one _) HL1.out HL2.out ?_ ?_; (have:=HSZ.out; simp; omega); intro p2 w2 hrow2 hg2 _; have HR2:=Lib.hid (RowI.add HR.out hrow2 hg2); have HT2:=Lib.hid (HT.out.keep HR2.out.2); clear hrow2 hg2)
   go_wp2_with (go_at_call 112; (with_reducible refine (HEE.out _ _ HT2.out).mono ?_))
   rintro e w3 ⟨rfl,hb3⟩
   have HR3:=Lib.hid (HR2.out.keep hb3)
   clear hb3
   go_wp2_with fail
   go_roundw
   case rel => exact ⟨k + 1,hlt,by simp,by rw [HY.out,HX.out],by rw [belows_next,← HY.out]; exact HR3.out⟩
   case measure => simp [intOf]; omega
  ·obtain rfl:k = q:=by omega
   go_wp2_with (go_at_call 132; (with_reducible refine (HC.out _).mono ?_))
   rintro e w1 ⟨rfl,hb1⟩
   have HR:=Lib.hid (HR0.out.keep hb1)
   clear hb1 c0
   go_wp2_with fail
   go_ret
   exact ⟨_,rfl,HR.out.read,HR.out.2⟩
end Go.Proofs.YtckojimeglkobaaGreatDoor
namespace Go.Proofs.YtckojimeglkobaaGreatDoor
open Go.RowKit ValSpec
def byteV (c:UInt8):Value:=.int .u8 c.toNat
def cellsOf (z:Nat) (cs:List UInt8):Array Value:=(List.replicate z (Value.int .u8 0) ++ cs.map byteV).toArray
end Go.Proofs.YtckojimeglkobaaGreatDoor
namespace Go.Proofs.YtckojimeglkobaaGreatDoor
open Go.RowKit CurSpec TermSpec ExprSpec
namespace ExprSpec
def bk (b:Prop) [Decidable b] (s:ByteArray):ByteArray:=if b then (⟨#[40]⟩ ++ s) ++ ⟨#[41]⟩ else s
end ExprSpec
end Go.Proofs.YtckojimeglkobaaGreatDoor
namespace Go.Proofs.YtckojimeglkobaaGreatDoor
namespace ActSpec
open TermSpec EvalSpec NamesSpec ExprSpec
structure Ta where
 s:ByteArray
 any:Bool
 e:Ex
def Ta.ac (t:Ta):Ac:=⟨t.s,t.any,if t.any then [] else flat t.e⟩
def Ta.Ok (t:Ta):Prop:=isName t.s.data.toList = true ∧ (t.any = false → ExprSpec.Good t.e ∧ chk (flat t.e) = 0)
end ActSpec
end Go.Proofs.YtckojimeglkobaaGreatDoor
namespace Go.Proofs.YtckojimeglkobaaGreatDoor
open Go.RowKit CurSpec TermSpec ExprSpec
end Go.Proofs.YtckojimeglkobaaGreatDoor
namespace Go.Proofs.YtckojimeglkobaaGreatDoor
open Go.RowKit CurSpec TermSpec ExprSpec NamesSpec
def Inv (P:Cur → Prop):Prop:=(∀ c,P c → P (on c)) ∧ ∀ c e,P c → P (fail c e)
theorem Inv.want {P:Cur → Prop} (h:Inv P) {c:Cur} (hc:P c) (k:Int) (s:ByteArray):P (want c k s):=by
 unfold CurSpec.want
 split
 ·exact h.1 _ hc
 ·exact h.2 _ _ hc
theorem Inv.nameC {P:Cur → Prop} (h:Inv P) {c:Cur} (hc:P c):P (nameC c):=by
 unfold CurSpec.nameC
 split
 ·exact h.1 _ hc
 ·exact h.2 _ _ hc
theorem Inv.numC {P:Cur → Prop} (h:Inv P) {c:Cur} (hc:P c) (m:Int):P (numC c m):=by
 unfold CurSpec.numC
 split
 ·exact h.1 _ hc
 ·exact h.2 _ _ hc
theorem Inv.hd {P:Cur → Prop} (h:Inv P) {rec:Cur → Int → Pa} (hr:∀ c k,P c → P (rec c k).1) {c:Cur} (hc:P c) (k:Int):P (hd rec c k).1.1:=by
 have two_ok:∀ c o,P c → P (two rec c o).1:=fun c o hc => h.want (hr _ _ (h.want (hr _ _ (h.want hc _ _)) _ _)) _ _
 unfold ExprSpec.hd
 split
 ·exact hr _ _ (h.1 _ hc)
 split
 ·exact hr _ _ (h.1 _ hc)
 ·dsimp only
  unfold atom
  split
  ·exact h.numC hc _
  split
  ·exact h.1 _ hc
  split
  ·exact h.1 _ hc
  split
  ·exact h.want (h.nameC (h.want (h.1 _ hc) _ _)) _ _
  split
  ·exact two_ok _ _ (h.1 _ hc)
  split
  ·exact two_ok _ _ (h.1 _ hc)
  split
  ·exact h.want (hr _ _ (h.1 _ hc)) _ _
  ·exact h.nameC hc
theorem Inv.all {P:Cur → Prop} (h:Inv P):∀ f,(∀ c k,P c → P (S f c k).1) ∧ ∀ lev k c x,P c → P (C f lev k c x).1
 | 0 => ⟨fun c k hc => hc,fun lev k c x hc => hc⟩
 | f + 1 => by
   obtain ⟨ih1,ih2⟩:=Inv.all h f
   refine ⟨fun c k hc => ?_,fun lev k c x hc => ?_⟩
   ·by_cases h0:c.bad = 0
    ·rw [S_good f k h0]
     exact ih2 _ _ _ _ (h.hd ih1 hc k)
    ·rw [S_dead _ k h0]; exact hc
   ·cases hs:sgn c lev k with
    | none => rw [C_stop _ x hs]; exact hc
    | some s => rw [C_step f x hs]; exact ih2 _ _ _ _ (ih1 _ _ (h.1 _ hc))
def CapD (c:Cur) (pre x l:List Tm):Prop:=pre.length ≤ l.length ∧ (c.bad = 0 → (if pre.length + x.length ≤ 41 then l = pre ++ x else l.length = 41))
theorem CapD.start (c:Cur) (pre:List Tm) (h:pre.length ≤ 41):CapD c pre [] pre:=⟨Nat.le_refl _,fun _ => by simp [h]⟩
theorem CapD.to {c d:Cur} {pre x l:List Tm} (h:CapD c pre x l) (hd:d.bad = 0 → c.bad = 0):CapD d pre x l:=⟨h.1,fun h' => h.2 (hd h')⟩
theorem CapD.ins {c d:Cur} {pre x l:List Tm} (t:Tm) (hl:l.length ≤ 41) (hd:d.bad = 0 → c.bad = 0) (h:CapD c pre x l):CapD d pre (t :: x) (ins l pre.length t):=by
 obtain ⟨h1,h2⟩:=h
 refine ⟨?_,fun hb => ?_⟩
 ·unfold Go.Proofs.YtckojimeglkobaaGreatDoor.ins
  split
  ·simp only [List.length_append,List.length_take,List.length_cons,List.length_drop]; omega
  ·exact h1
 ·have h3:=h2 (hd hb)
  unfold Go.Proofs.YtckojimeglkobaaGreatDoor.ins
  by_cases h40:l.length ≤ 40
  ·rw [if_pos h40]
   by_cases hp:pre.length + x.length ≤ 41
   ·rw [if_pos hp] at h3
    subst h3
    rw [List.length_append] at h40
    rw [if_pos (by simp only [List.length_cons]; omega),List.take_left,List.drop_left]
   ·rw [if_neg hp] at h3; omega
  ·rw [if_neg h40]
   by_cases hp:pre.length + x.length ≤ 41
   ·rw [if_pos hp] at h3
    subst h3
    rw [List.length_append] at h40 hl
    rw [if_neg (by simp only [List.length_cons]; omega),List.length_append]
    omega
   ·rw [if_neg (by simp only [List.length_cons]; omega)]; omega
end Go.Proofs.YtckojimeglkobaaGreatDoor
namespace Go.Proofs.YtckojimeglkobaaGreatDoor
open Go.RowKit CurSpec TermSpec ExprSpec NamesSpec
end Go.Proofs.YtckojimeglkobaaGreatDoor
namespace Go.Proofs.YtckojimeglkobaaGreatDoor
namespace ActSpec
open CurSpec TermSpec EvalSpec NamesSpec ExprSpec
end ActSpec
end Go.Proofs.YtckojimeglkobaaGreatDoor
namespace Go.Proofs.YtckojimeglkobaaGreatDoor
namespace TransSpec
open CurSpec TermSpec EvalSpec NamesSpec ExprSpec ActSpec
structure Tr where
 ev:ByteArray
 g:List Tm
 acts:List Ac
 tg:ByteArray
def okN (s:ByteArray):Bool:=decide (s.size = 0) || isName s.data.toList
def chkT (t:Tr):Int:=if okN t.ev = false ∨ okN t.tg = false then 1 else if t.g.length ≠ 0 ∧ chk t.g ≠ 0 then chk t.g else chkA t.acts
abbrev wEnd:ByteArray:=⟨#[59]⟩
structure Tt where
 ev:ByteArray
 g:Option Ex
 ts:List Ta
 tg:ByteArray
def gFlat:Option Ex → List Tm
 | none => []
 | some e => flat e
def Tt.tr (x:Tt):Tr:=⟨x.ev,gFlat x.g,x.ts.map Ta.ac,x.tg⟩
structure Tt.Ok (x:Tt):Prop where
 ev:okN x.ev = true
 tg:okN x.tg = true
 g:∀ e,x.g = some e → ExprSpec.Good e ∧ chk (flat e) = 0
 ts:∀ t ∈ x.ts,t.Ok
 few:x.ts.length ≤ 8
theorem chkA_ok {l:List Ac} (h:chkA l = 0):l.length ≤ 8 ∧ firstA l = 0:=by
 unfold chkA at h
 split at h
 ·cases h
 ·exact ⟨by omega,h⟩
end TransSpec
end Go.Proofs.YtckojimeglkobaaGreatDoor
namespace Go.Proofs.YtckojimeglkobaaGreatDoor
namespace SynSpec
open CurSpec TermSpec EvalSpec NamesSpec ExprSpec ActSpec TransSpec
structure Sx where
 s:ByteArray
 kind:Int
 par:Int
 en:List Ac
 ex:List Ac
 tr:List Tr
structure Cx where
 s:ByteArray
 evs:List ByteArray
 vars:List Vr
 sts:List Sx
abbrev zeroC:Cx:=⟨⟨#[]⟩,[],[],[]⟩
section
variable {α:Type} {q:Cur → Bool} {st:Cur → List α → Cur × List α}
def left (c:Cur):Nat:=if c.bad = 0 then c.L.length + 1 else 0
end
abbrev wVar:ByteArray:=⟨#[118,97,114]⟩
abbrev wMin:ByteArray:=⟨#[45]⟩
abbrev wDots:ByteArray:=⟨#[46,46]⟩
abbrev wIs:ByteArray:=⟨#[61]⟩
def intR (c:Cur):Cur × Int:=if isB c 3 wMin = true then (numC (on c) 1000,- numN (on c) 1000) else (numC c 1000,numN c 1000)
def varR (c:Cur):Cur × Vr :=
 (want (intR (want (intR (want (intR (nameC (want c 1 wVar))).1 3 wDots)).1 3 wIs)).1 3 wEnd,
  ⟨nameS (want c 1 wVar),(intR (nameC (want c 1 wVar))).2,(intR (want (intR (nameC (want c 1 wVar))).1 3 wDots)).2,(intR (want (intR (want (intR (nameC (want c 1 wVar))).1 3 wDots)).1 3 wIs)).2⟩)
def fullO {α:Type} (n:Nat) (c:Cur) (out:List α):Cur:=if out.length = n then fail c 8 else c
def stV (c:Cur) (out:List Vr):Cur × List Vr:=((varR (fullO 4 c out)).1,out ++ [(varR (fullO 4 c out)).2])
def room (many deep:Int):Int:=if many = 60 then 8 else if 12 < deep then 6 else 0
structure To (c d:Cur):Prop where
 len:d.L.length ≤ c.L.length
 bad:c.bad ≠ 0 → d.bad ≠ 0
 ok:Ok c → Ok d
theorem To.refl (c:Cur):To c c:=⟨Nat.le_refl _,id,id⟩
theorem To.trans {a b c:Cur} (h:To a b) (g:To b c):To a c:=⟨Nat.le_trans g.len h.len,fun h' => g.bad (h.bad h'),fun h' => g.ok (h.ok h')⟩
def FewS (n:Nat) (c:Cur) (out:List Sx):Prop:=n + out.length ≤ 61 ∧ (n + out.length = 61 → c.bad ≠ 0)
theorem FewS.to {n:Nat} {c d:Cur} {out:List Sx} (h:FewS n c out) (t:To c d):FewS n d out:=⟨h.1,fun h' => t.bad (h.2 h')⟩
def StartS (n:Nat) (c:Cur):Prop:=n ≤ 60 ∧ (n = 60 → c.bad ≠ 0)
theorem StartS.to {n:Nat} {c d:Cur} (h:StartS n c) (t:To c d):StartS n d:=⟨h.1,fun h' => t.bad (h.2 h')⟩
theorem StartS.few {n:Nat} {c:Cur} (h:StartS n c):FewS (n + 1) c []:=⟨by have:=h.1; simp; omega,fun h' => h.2 (by simp at h'; omega)⟩
end SynSpec
end Go.Proofs.YtckojimeglkobaaGreatDoor
namespace Go.Proofs.YtckojimeglkobaaGreatDoor
open Go.RowKit CurSpec
def Dep (w:World) (S:Nat → Prop) (P:World → Prop):Prop:=∀ w',w.heap.size ≤ w'.heap.size → (∀ b,b < w.heap.size → S b → w'.heap[b]? = w.heap[b]?) → P w'
section
variable {w w':World} {S S':Nat → Prop} {P Q:World → Prop}
theorem Dep.now (h:Dep w S P):P w:=h w (Nat.le_refl _) (fun _ _ _ => rfl)
theorem Dep.go {ob:Option Nat} (h:Dep w S P) (hb:w.grownBy w' ob) (hne:∀ b,S b → ob ≠ some b):Dep w' S P :=
 fun w2 hz hx => h w2 (Nat.le_trans hb.size hz) fun b hlt hS => (hx b (Nat.lt_of_lt_of_le hlt hb.size) hS).trans (hb.block b hlt fun e => hne b hS e.symm)
theorem Dep.keep (h:Dep w S P) (hb:Below w.heap.size w w'):Dep w' S P :=
 fun w2 hz hx => h w2 (Nat.le_trans hb.size hz) fun b hlt hS => (hx b (Nat.lt_of_lt_of_le hlt hb.size) hS).trans (hb.block b hlt)
theorem Dep.alloc (h:Dep w S P) (o:Obj):Dep (w.alloc o) S P:=h.keep (KitC.below_one w o)
theorem Dep.mono (h:Dep w S P) (hs:∀ b,b < w.heap.size → S b → S' b):Dep w S' P:=fun w2 hz hx => h w2 hz fun b hlt hS => hx b hlt (hs b hlt hS)
theorem Dep.imp (h:Dep w S P) (hp:∀ w',P w' → Q w'):Dep w S Q:=fun w2 hz hx => hp _ (h w2 hz hx)
theorem Dep.and (h:Dep w S P) (g:Dep w S Q):Dep w S (fun x => P x ∧ Q x):=fun w2 hz hx => ⟨h w2 hz hx,g w2 hz hx⟩
theorem Dep.triv (h:∀ w',P w'):Dep w S P:=fun w2 _ _ => h w2
end
theorem rdk_dep {w:World} {k n:Nat} {v:Value} {xs:List Value} {S:Nat → Prop} (h:Rdk k w v n xs) (hS:0 < n → ∀ b,v.ownBlock = some b → S b):Dep w S (fun x => Rdk k x v n xs):=by
 intro w2 hz hx
 obtain ⟨A,c,rfl,hc,hl,hA⟩:=h
 refine ⟨A,c,rfl,hc,hl,fun h0 => ?_⟩
 obtain ⟨b,off,rfl,hlt,hcell⟩:=hA h0
 refine ⟨b,off,rfl,Nat.lt_of_lt_of_le hlt hz,fun j u hj => ?_⟩
 rw [← hcell j u hj]
 simp [World.cell?,hx b hlt (hS h0 b rfl)]
theorem own_set {w:World} {base n k g cap:Nat} {e:TypeId} {xs:List Value} (h:w.ownsRow base e k (.slice (some ⟨g,0,none⟩) n cap) n xs) {i:Nat} (_hi:i < xs.length) (u:Value) :
 (w.setCell ⟨g,i,none⟩ u).ownsRow base e k (.slice (some ⟨g,0,none⟩) n cap) n (xs.set i u):=by
 refine ⟨by rw [List.length_set]; exact h.1,?_⟩
 have hl:=h.1
 rcases h.2 with ⟨h1,_⟩ | ⟨g',cap',cur,h1,h2,h3,h4,h5,h6,h7⟩
 ·cases h1
 ·injection h1 with h1 _ h8
  injection h1 with h1
  injection h1 with h1
  subst h1 h8
  refine .inr ⟨g,cap,cur.setIfInBounds i u,rfl,h2,block_setCell' h3 i u,h4,h5,by rw [Array.size_setIfInBounds,h6],?_⟩
  rw [← h7,Array.toList_setIfInBounds,List.take_set]
theorem own_cell {w:World} {base n k g cap:Nat} {e:TypeId} {xs:List Value} (h:w.ownsRow base e k (.slice (some ⟨g,0,none⟩) n cap) n xs):(∃ cur,w.heap[g]? = some (.cells cur e (0,0)) ∧ xs.length ≤ cur.size) ∧ ∀ i u,xs[i]? = some u → w.cell? ⟨g,i,none⟩ = some u:=by
 have hl:=h.1
 rcases h.2 with ⟨h1,_⟩ | ⟨g',cap',cur,h1,h2,h3,h4,h5,h6,h7⟩
 ·cases h1
 ·injection h1 with h1 _ h8
  injection h1 with h1
  injection h1 with h1
  subst h1 h8
  refine ⟨⟨cur,h3,by rw [h6,hl]; exact Nat.mul_le_mul_right k h4⟩,fun i u hi => ?_⟩
  have hi':i < xs.length:=(List.getElem?_eq_some_iff.1 hi).1
  rw [← h7,List.getElem?_take_of_lt (by omega),Array.getElem?_toList] at hi
  simp [World.cell?,h3,hi]
theorem own_at {w:World} {base n k:Nat} {e:TypeId} {v:Value} {xs:List Value} (h:w.ownsRow base e k v n xs) (h0:0 < n):∃ g cap,v = .slice (some ⟨g,0,none⟩) n cap ∧ n ≤ cap:=by
 rcases h.2 with ⟨_,h2⟩ | ⟨g,cap,cur,h1,h2,h3,h4,h5,h6,h7⟩
 ·omega
 ·exact ⟨g,cap,h1,h4⟩
theorem flat_set {α:Type} {k:Nat} {f:α → List Value} (hf:∀ a,(f a).length = k):∀ {l:List α} {i j:Nat} {a a':α} {u:Value},l[i]? = some a → j < k → f a' = (f a).set j u → (l.set i a').flatMap f = (l.flatMap f).set (i * k + j) u
 | [],_,_,_,_,_,h,_,_ => by simp at h
 | b :: t,0,j,a,a',u,h,hj,hu => by
   simp at h; subst h
   rw [List.set_cons_zero,List.flatMap_cons,List.flatMap_cons,Nat.zero_mul,Nat.zero_add,List.set_append_left _ _ (by rw [hf]; exact hj),hu]
 | b :: t,i + 1,j,a,a',u,h,hj,hu => by
   rw [List.set_cons_succ,List.flatMap_cons,List.flatMap_cons,List.set_append_right _ _ (by rw [hf,Nat.add_mul]; omega),hf,show (i + 1) * k + j - k = i * k + j by rw [Nat.add_mul]; omega,flat_set hf (l:=t) (by simpa using h) hj hu]
structure RowB {α:Type} (T:TypeId) (k:Nat) (cv:α → List Value) (nest:α → World → Prop) (W:World) (B:Nat) (wr:World) (pv:Value) (ps:List α):Prop where
 own:wr.ownsRow W.heap.size T k pv ps.length (ps.flatMap cv)
 dep:∀ p ∈ ps,Dep wr (fun b => W.heap.size ≤ b ∧ pv.ownBlock ≠ some b) (nest p)
 grown:W.grownBy wr (some B)
 lt:B < W.heap.size
section
variable {α:Type} {T:TypeId} {k:Nat} {cv:α → List Value} {nest:α → World → Prop} {W wr w':World} {B:Nat} {pv:Value} {ps:List α}
theorem RowB.nil (hg:W.grownBy wr (some B)) (hB:B < W.heap.size):RowB T k cv nest W B wr (.slice none 0 0) []:=⟨World.ownsRow_nil _ _ _ _,fun _ h => by simp at h,hg,hB⟩
theorem RowB.one {p:α} (hg:W.grownBy wr (some B)) (hB:B < W.heap.size) (hlen:(cv p).length = k) (hn:Dep wr (fun b => W.heap.size ≤ b) (nest p)):RowB T k cv nest W B (wr.alloc (.cells (cv p).toArray T)) (.slice (some ⟨wr.heap.size,0,none⟩) 1 1) [p]:=by
 refine ⟨?_,fun q hq => ?_,but_trans hg (but_below (KitC.below_one _ _)),hB⟩
 ·have:=World.ownsRow_lit (base:=W.heap.size) (e:=T) (size:=k) wr (cv p).toArray 1 hg.size (by decide) (by simp [hlen])
  simpa using this
 ·rw [List.mem_singleton] at hq
  subst hq
  refine fun w2 hz hx => hn w2 (Nat.le_trans (KitC.below_one wr _).size hz) fun b hlt hS => (hx b (by rw [World.size_alloc]; omega) ⟨hS,fun e => ?_⟩).trans (heap_alloc_old _ _ hlt)
  injection e with e
  simp only at e
  omega
theorem RowB.but (h:RowB T k cv nest W B wr pv ps) (hb:wr.grownBy w' (some B)):RowB T k cv nest W B w' pv ps :=
 ⟨own_but h.own hb h.lt,fun p hp => (h.dep p hp).go hb fun b hS e => by injection e with e; have:=hS.1; have:=h.lt; omega,but_trans h.grown hb,h.lt⟩
theorem RowB.keep (h:RowB T k cv nest W B wr pv ps) (hb:Below wr.heap.size wr w'):RowB T k cv nest W B w' pv ps:=h.but (but_below hb)
theorem RowB.shape (h:RowB T k cv nest W B wr pv ps):∃ A c,pv = .slice A ps.length c:=own_shape h.own
theorem RowB.fresh {P:World → Prop} {w1:World} (h:RowB T k cv nest W B w1 pv ps) (_hz:w1.heap.size ≤ wr.heap.size) (hp:Dep wr (fun b => w1.heap.size ≤ b) P):Dep wr (fun b => W.heap.size ≤ b ∧ pv.ownBlock ≠ some b) P :=
 hp.mono fun b _ hb => ⟨Nat.le_trans h.grown.size hb,fun e => by have:=(own_block_bd h.own b e).2; omega⟩
theorem RowB.add {p:α} {pv':Value} {o:Obj} (h:RowB T k cv nest W B wr pv ps) (hn:Dep wr (fun b => W.heap.size ≤ b ∧ pv.ownBlock ≠ some b) (nest p))
 (hrow:w'.ownsRow W.heap.size T k pv' (ps.length + 1) (ps.flatMap cv ++ cv p)) (hg:(wr.alloc o).grownBy w' pv.ownBlock) (hob:pv'.ownBlock = pv.ownBlock ∨ pv'.ownBlock = some (wr.alloc o).heap.size) :
 RowB T k cv nest W B w' pv' (ps ++ [p]):=by
 have ha:Below wr.heap.size wr (wr.alloc o):=KitC.below_one wr o
 have hall:∀ q ∈ ps ++ [p],Dep wr (fun b => W.heap.size ≤ b ∧ pv.ownBlock ≠ some b) (nest q):=fun q hq => by
  rcases List.mem_append.1 hq with hq | hq
  ·exact h.dep q hq
  ·rw [List.mem_singleton] at hq
   subst hq
   exact hn
 refine ⟨by simpa [List.length_append] using hrow,fun q hq => ?_,?_,h.lt⟩
 ·intro w2 hz hx
  refine (hall q hq) w2 (Nat.le_trans ha.size (Nat.le_trans hg.size hz)) fun b hlt hS => ?_
  have hlt2:b < (wr.alloc o).heap.size:=Nat.lt_of_lt_of_le hlt ha.size
  refine (hx b (Nat.lt_of_lt_of_le hlt2 hg.size) ⟨hS.1,fun e => ?_⟩).trans ((hg.block b hlt2 fun e => hS.2 e.symm).trans (ha.block b hlt))
  rcases hob with e' | e'
  ·exact hS.2 (e'.symm.trans e)
  ·rw [e'] at e; injection e with e; omega
 ·have hgw:=h.grown
  refine ⟨hg.os.trans hgw.os,hg.tape.trans hgw.tape,hg.output.trans hgw.output,Nat.le_trans hgw.size (Nat.le_trans ha.size hg.size),fun i hi hn => ?_⟩
  have hi2:i < wr.heap.size:=Nat.lt_of_lt_of_le hi hgw.size
  refine (hg.block i (Nat.lt_of_lt_of_le hi2 ha.size) fun e => ?_).trans ((ha.block i hi2).trans (hgw.block i hi hn))
  have:=(own_block_bd h.own i e.symm).1
  omega
theorem RowB.set {i j g cap:Nat} {p p':α} {u:Value} (h:RowB T k cv nest W B wr (.slice (some ⟨g,0,none⟩) ps.length cap) ps) (hlen:∀ a,(cv a).length = k) (hp:ps[i]? = some p) (hj:j < k) (hu:cv p' = (cv p).set j u)
 (hn:Dep wr (fun b => W.heap.size ≤ b ∧ (Value.slice (some ⟨g,0,none⟩) ps.length cap).ownBlock ≠ some b) (nest p')) :
 RowB T k cv nest W B (wr.setCell ⟨g,i * k + j,none⟩ u) (.slice (some ⟨g,0,none⟩) ps.length cap) (ps.set i p'):=by
 have hs:wr.grownBy (wr.setCell ⟨g,i * k + j,none⟩ u) (some g):=but_set (but_refl wr _) _ _
 have hi:=(List.getElem?_eq_some_iff.1 hp).1
 have hlt:i * k + j < (ps.flatMap cv).length:=by
  rw [flat_length hlen]
  have:(i + 1) * k ≤ ps.length * k:=Nat.mul_le_mul_right k hi
  rw [Nat.add_mul] at this
  omega
 refine ⟨?_,fun q hq => ?_,?_,h.lt⟩
 ·rw [List.length_set,flat_set hlen hp hj hu]
  exact own_set h.own hlt u
 ·have hall:Dep wr (fun b => W.heap.size ≤ b ∧ (Value.slice (some ⟨g,0,none⟩) ps.length cap).ownBlock ≠ some b) (nest q):=by
   rcases List.mem_or_eq_of_mem_set hq with hq | rfl
   ·exact h.dep q hq
   ·exact hn
  exact hall.go hs fun b hS e => hS.2 e
 ·exact but_set_new h.grown (own_block_bd h.own g rfl).1 _ _
theorem RowB.far (h:RowB T k cv nest W B wr pv ps):Dep wr (fun b => W.heap.size ≤ b) (fun x => Rdk k x pv ps.length (ps.flatMap cv) ∧ ∀ p ∈ ps,nest p x) :=
 (rdk_dep (Rdk.own h.own) fun _ b e => (own_block_bd h.own b e).1).and fun w2 hz hx p hp => (h.dep p hp) w2 hz fun b hlt hS => hx b hlt hS.1
end
section
variable {P:Program}
end
end Go.Proofs.YtckojimeglkobaaGreatDoor
namespace Go.Proofs.YtckojimeglkobaaGreatDoor
open Go.RowKit TermSpec
set_option maxRecDepth 100000
theorem max_if (a b:Int):max a b = if a < b then b else a:=by split <;> omega
def DeepRel (bs:List Int) (n:Nat) (v i:Value):Prop:=∃ k:Nat,k ≤ n ∧ i = .int .i64 k ∧ v = .int .i64 (deepest (bs.take k))
set_option maxHeartbeats 1000000 in
theorem deplit_any (o:Int) (v:Value) (bs:List Int) (w:World) (h:Rd w v (intV bs)) (hm:bs.length ≤ 4611686018427387903) (hb:∀ b ∈ bs,b ≤ 4611686018427387903) :
 Calls Tryz.prog 195 #[.int .i64 o,v] w (SameI w (depF o bs)):=by
 obtain ⟨A,n,c,rfl,hn,hc,hA⟩:=h.ints
 have HA:=Lib.hid hA
 have HN:=Lib.hid hn
 have HB:=Lib.hid hb
 have hm':n ≤ 4611686018427387903:=by omega
 clear hA hn h hc hm hb
 go_enter Tryz.func195,Tryz.ntmps195
 go_wp2_with fail
 go_loop [5,7,10] (fun v _ i => DeepRel bs n v i) (fun _ _ i => n - (intOf i).toNat)
 case atStart => exact ⟨0,Nat.zero_le _,rfl,rfl⟩
 case round =>
  obtain ⟨k,hk,rfl,rfl⟩:=hrel
  obtain ⟨g0,g1⟩:=deepest_bd (B:=4611686018427387903) (by omega) (bs.take k) (fun b h => HB.out b (List.mem_of_mem_take h))
  by_cases hlt:k < n
  ·obtain ⟨b,off,rfl,hb,hcell⟩:=HA.out (by omega)
   obtain ⟨x,hx⟩:∃ x,bs[k]? = some x:=get_some (by have:=HN.out; omega)
   have hck:=hcell k x hx
   have HS:Hid (deepest (bs.take (k + 1)) = if deepest (bs.take k) < x then x else deepest (bs.take k)):=Lib.hid (by rw [take_next hx,deepest_snoc])
   obtain ⟨d,hd⟩:∃ d,d = deepest (bs.take k):=⟨_,rfl⟩
   rw [← hd] at HS g0 g1 ⊢
   clear hcell hx hd
   go_wp2_with fail
   go_round
   case rel => exact ⟨k + 1,hlt,by simp,by rw [HS.out,← max_if]⟩
   case measure => simp [intOf]; omega
  ·go_wp2_with fail
   go_ret
   exact ⟨ret_int (by rw [List.take_of_length_le (by rw [HN.out]; omega)]; rfl),rfl⟩
def AllRel (bs:List Int) (n:Nat) (q:Int) (i:Value):Prop:=∃ k:Nat,k ≤ n ∧ i = .int .i64 k ∧ (bs.take k).all (fun b => decide (b = q)) = true
theorem all_no {bs:List Int} {k:Nat} {q x:Int} (hx:bs[k]? = some x) (h:x ≠ q):bs.all (fun b => decide (b = q)) = false:=by
 rw [List.all_eq_false]
 exact ⟨x,List.mem_of_getElem? hx,by simpa using h⟩
theorem typF_of {o:Int} {bs:List Int} {b:Bool} (h:bs.all (fun b => decide (b = askT o)) = b):typF o bs = if b then ownT o else 0:=by unfold typF; rw [h]
set_option maxHeartbeats 1000000 in
theorem typlit_any (o:Int) (v:Value) (bs:List Int) (w:World) (h:Rd w v (intV bs)) (hm:bs.length ≤ 4611686018427387903) :
 Calls Tryz.prog 180 #[.int .i64 o,v] w (SameI w (typF o bs)):=by
 obtain ⟨A,n,c,rfl,hn,hc,hA⟩:=h.ints
 have HA:=Lib.hid hA
 have HN:=Lib.hid hn
 have HT:=Lib.hid (fun b h => typF_of (o:=o) (bs:=bs) (b:=b) h)
 have HC:=Lib.hid (fun w => types_any o w)
 obtain ⟨q,hq⟩:∃ q,q = askT o:=⟨_,rfl⟩
 obtain ⟨z,hz⟩:∃ z,z = ownT o:=⟨_,rfl⟩
 rw [← hq,← hz] at HC HT
 have hm':n ≤ 4611686018427387903:=by omega
 clear hA hn h hc hm hq hz
 go_enter Tryz.func180,Tryz.ntmps180
 go_wp2_with (go_at_call 181; (with_reducible refine (HC.out _).mono ?_); rintro e w' ⟨rfl,rfl⟩)
 go_loop [8,16] (fun _ i => AllRel bs n q i) (fun _ i => n - (intOf i).toNat)
 case atStart => exact ⟨0,Nat.zero_le _,rfl,rfl⟩
 case round =>
  obtain ⟨k,hk,rfl,hall⟩:=hrel
  have HL:=Lib.hid hall
  clear hall
  by_cases hlt:k < n
  ·obtain ⟨b,off,rfl,hb,hcell⟩:=HA.out (by omega)
   obtain ⟨x,hx⟩:∃ x,bs[k]? = some x:=get_some (by have:=HN.out; omega)
   have hck:=hcell k x hx
   have HX:=Lib.hid hx
   clear hcell hx
   by_cases hxq:x = q
   ·have g:(x != q) = false:=by simp [hxq]
    have HQ:=Lib.hid hxq
    clear hxq
    go_wp2_with fail
    go_round
    case rel => exact ⟨k + 1,hlt,by simp,by rw [take_next HX.out,List.all_append,HL.out]; simpa using HQ.out⟩
    case measure => simp [intOf]; omega
   ·have g:(x != q) = true:=by simp [hxq]
    have HQ:=Lib.hid hxq
    clear hxq
    go_wp2_with fail
    go_ret
    exact ⟨ret_int (by rw [HT.out _ (all_no HX.out HQ.out)]; rfl),rfl⟩
  ·go_wp2_with fail
   go_ret
   exact ⟨ret_int (by
    have h:=HL.out
    rw [List.take_of_length_le (by rw [HN.out]; omega)] at h
    rw [HT.out _ h]; rfl),rfl⟩
end Go.Proofs.YtckojimeglkobaaGreatDoor