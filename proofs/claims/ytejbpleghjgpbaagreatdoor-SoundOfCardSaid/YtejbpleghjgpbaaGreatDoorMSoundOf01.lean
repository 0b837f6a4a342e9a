/- ValTextSpec, CurSpec, ExprSpec, ExprLevel, ExprTree, ExprReads, KitN, KitB, NamesPlace, Posts, TermMem, ExprInsert, ExprInsert2, joined. -/
import Derived.Test.YtejbpleghjgpbaaGreatDoorMSoundOf00
import Derived.LoopTactic
import Derived.Test.YtejbpleghjgpbaaGreatDoorRows
import Derived.BigQuiet
import Derived.Deep.QuietTactic
import Derived.Lib.Overlaps
import Derived.Lib.AppendZerosOnto
import Derived.Laws.CopyRow
import Derived.Shelf.Spec.SlicesInsert
namespace Go.Proofs.YtejbpleghjgpbaaGreatDoor
namespace ValSpec
def isDig (c:UInt8):Bool:=decide (48 ≤ (c.toNat:Int) ∧ (c.toNat:Int) ≤ 57)
def isNum (l:List UInt8):Bool:=!l.isEmpty && !(l.head? == some 48 && decide (1 < l.length)) && l.all isDig
def says (l:List UInt8):Int:=l.foldl (fun n c => 10 * n + ((c.toNat:Int) - 48)) 0
def getN (l:List UInt8):Int:=if isNum l then (if 1000000 < says l then 0 else says l) else 0
def getE (l:List UInt8):Int:=if isNum l then (if 1000000 < says l then 3 else 0) else 2
theorem all_take {l:List UInt8} (k:Nat) (h:l.all isDig = true):(l.take k).all isDig = true:=by
 rw [List.all_eq_true] at h ⊢
 exact fun x hx => h x (List.mem_of_mem_take hx)
def digs (n:Nat):List UInt8:=if n < 10 then [UInt8.ofNat (48 + n)] else digs (n / 10) ++ [UInt8.ofNat (48 + n % 10)]
termination_by n
decreasing_by omega
def text (n:Int):List UInt8:=if n < 0 then 45 :: digs n.natAbs else digs n.natAbs
theorem digs_lt {n:Nat} (h:n < 10):digs n = [UInt8.ofNat (48 + n)]:=by rw [digs,if_pos h]
theorem digs_ge {n:Nat} (h:¬ n < 10):digs n = digs (n / 10) ++ [UInt8.ofNat (48 + n % 10)]:=by rw [digs,if_neg h]
theorem byte_nat {d:Nat} (h:d < 208):(UInt8.ofNat (48 + d)).toNat = 48 + d:=by simp [UInt8.toNat_ofNat']; omega
theorem digs_len:∀ (k n:Nat),n < 10 ^ (k + 1) → (digs n).length ≤ k + 1:=by
 intro k
 induction k with
 | zero => intro n h; rw [digs_lt (by omega)]; simp
 | succ k ih =>
   intro n h
   by_cases h':n < 10
   ·rw [digs_lt h']; simp
   ·rw [digs_ge h',List.length_append]
    have:n / 10 < 10 ^ (k + 1):=by rw [Nat.div_lt_iff_lt_mul (by omega)]; rwa [Nat.pow_succ] at h
    have:=ih _ this
    simp; omega
end ValSpec
end Go.Proofs.YtejbpleghjgpbaaGreatDoor
namespace Go.Proofs.YtejbpleghjgpbaaGreatDoor.CurSpec
open NamesSpec ValSpec
structure Tk where
 k:Int
 t:ByteArray
 l:Int
 c:Int
def tz:Tk:=⟨0,⟨#[]⟩,0,0⟩
structure Cur where
 L:List Tk
 w1:Int
 w2:Int
 a1:Int
 a2:Int
 bad:Int
def next (c:Cur):Tk:=if c.bad = 0 then (match c.L with | [] => ⟨0,⟨#[]⟩,c.w1,c.w2⟩ | t :: _ => t) else tz
def on (c:Cur):Cur:=match c.L with | [] => c | t :: r => ⟨r,t.l,t.c,c.a1,c.a2,c.bad⟩
def fail (c:Cur) (e:Int):Cur:=if c.bad = 0 ∧ e ≠ 0 then ⟨c.L,c.w1,c.w2,(next c).l,(next c).c,e⟩ else c
def isB (c:Cur) (k:Int) (s:ByteArray):Bool:=decide (c.bad = 0) && (decide ((next c).k = k) && decide ((next c).t = s))
def take (c:Cur) (k:Int) (s:ByteArray):Cur:=if isB c k s then on c else c
def want (c:Cur) (k:Int) (s:ByteArray):Cur:=if isB c k s then on c else fail c 2
def nameB (c:Cur):Bool:=decide (c.bad = 0) && (decide ((next c).k = 1) && isName (next c).t.data.toList)
def nameC (c:Cur):Cur:=if nameB c then on c else fail c 2
def nameS (c:Cur):ByteArray:=if nameB c then (next c).t else ⟨#[]⟩
def numE (c:Cur) (m:Int):Int:=if c.bad = 0 ∧ (next c).k = 2 then (if getE (next c).t.data.toList = 0 then (if m < getN (next c).t.data.toList then 3 else 0) else getE (next c).t.data.toList) else 2
def numC (c:Cur) (m:Int):Cur:=if numE c m = 0 then on c else fail c (numE c m)
def numN (c:Cur) (m:Int):Int:=if numE c m = 0 then getN (next c).t.data.toList else 0
def Ok (c:Cur):Prop:=∀ t ∈ c.L,t.t.size ≤ 9223372036854775807
theorem Ok.next {c:Cur} (h:Ok c):(next c).t.size ≤ 9223372036854775807:=by
 obtain ⟨L,w1,w2,a1,a2,bad⟩:=c
 unfold CurSpec.next
 split
 ·cases L with
  | nil => exact (by decide:(⟨#[]⟩:ByteArray).size ≤ 9223372036854775807)
  | cons t r => exact h t (by simp)
 ·exact (by decide:(⟨#[]⟩:ByteArray).size ≤ 9223372036854775807)
theorem Ok.on {c:Cur} (h:Ok c):Ok (on c):=by
 obtain ⟨L,w1,w2,a1,a2,bad⟩:=c
 cases L with
 | nil => exact h
 | cons t r => exact fun x hx => h x (by simp [CurSpec.on] at hx ⊢; exact .inr hx)
theorem Ok.fail {c:Cur} (h:Ok c) (e:Int):Ok (fail c e):=by
 unfold CurSpec.fail
 split
 ·exact h
 ·exact h
theorem Ok.take {c:Cur} (h:Ok c) (k:Int) (s:ByteArray):Ok (take c k s):=by
 unfold CurSpec.take
 split
 ·exact h.on
 ·exact h
theorem Ok.want {c:Cur} (h:Ok c) (k:Int) (s:ByteArray):Ok (want c k s):=by
 unfold CurSpec.want
 split
 ·exact h.on
 ·exact h.fail 2
theorem Ok.nameC {c:Cur} (h:Ok c):Ok (nameC c):=by
 unfold CurSpec.nameC
 split
 ·exact h.on
 ·exact h.fail 2
theorem Ok.numC {c:Cur} (h:Ok c) (m:Int):Ok (numC c m):=by
 unfold CurSpec.numC
 split
 ·exact h.on
 ·exact h.fail _
end Go.Proofs.YtejbpleghjgpbaaGreatDoor.CurSpec
namespace Go.Proofs.YtejbpleghjgpbaaGreatDoor
namespace ExprSpec
open CurSpec TermSpec
structure Sg where
 t:ByteArray
 op:Int
 lev:Int
 left:Int
 right:Int
def sgs:List Sg:=[⟨⟨#[111,114]⟩,20,1,1,2⟩,⟨⟨#[97,110,100]⟩,19,2,2,3⟩,⟨⟨#[61,61]⟩,13,4,5,5⟩,⟨⟨#[33,61]⟩,14,4,5,5⟩,⟨⟨#[60]⟩,15,4,5,5⟩,⟨⟨#[60,61]⟩,16,4,5,5⟩,⟨⟨#[62]⟩,17,4,5,5⟩,⟨⟨#[62,61]⟩,18,4,5,5⟩,⟨⟨#[43]⟩,4,5,5,6⟩,⟨⟨#[45]⟩,5,5,5,6⟩,⟨⟨#[42]⟩,6,6,6,7⟩]
def look (t:ByteArray):Option Sg:=sgs.find? fun s => decide (s.t = t)
def fits (lev k:Int) (s:Sg):Bool:=decide (s.left ≤ lev) && decide (k ≤ s.lev)
def sgn (c:Cur) (lev k:Int):Option Sg:=if (next c).k = 3 ∨ (next c).k = 1 then (look (next c).t).filter (fits lev k) else none
abbrev tNot:ByteArray:=⟨#[110,111,116]⟩
abbrev tNeg:ByteArray:=⟨#[45]⟩
abbrev tTrue:ByteArray:=⟨#[116,114,117,101]⟩
abbrev tFalse:ByteArray:=⟨#[102,97,108,115,101]⟩
abbrev tIn:ByteArray:=⟨#[105,110]⟩
abbrev tMin:ByteArray:=⟨#[109,105,110]⟩
abbrev tMax:ByteArray:=⟨#[109,97,120]⟩
abbrev tOpen:ByteArray:=⟨#[40]⟩
abbrev tClose:ByteArray:=⟨#[41]⟩
abbrev tComma:ByteArray:=⟨#[44]⟩
def opT (o:Int):Tm:=⟨o,0,⟨#[]⟩⟩
abbrev Pa:=Cur × List Tm
section
variable (rec:Cur → Int → Pa)
def two (c:Cur) (o:Int):Pa :=
 let p:=rec (want c 3 tOpen) 1
 let q:=rec (want p.1 3 tComma) 1
 (want q.1 3 tClose,opT o :: (p.2 ++ q.2))
def atom (c:Cur):Pa :=
 if (next c).k = 2 then (numC c 1000000,[⟨1,numN c 1000000,⟨#[]⟩⟩])
 else if isB c 1 tTrue then (on c,[opT 9])
 else if isB c 1 tFalse then (on c,[opT 10])
 else if isB c 1 tIn then (want (nameC (want (on c) 3 tOpen)) 3 tClose,[⟨11,0,nameS (want (on c) 3 tOpen)⟩])
 else if isB c 1 tMin then two rec (on c) 7
 else if isB c 1 tMax then two rec (on c) 8
 else if isB c 3 tOpen then (want (rec (on c) 1).1 3 tClose,(rec (on c) 1).2)
 else (nameC c,[⟨2,0,nameS c⟩])
def hd (c:Cur) (k:Int):Pa × Int :=
 if k ≤ 3 ∧ isB c 1 tNot = true then (((rec (on c) 3).1,opT 12 :: (rec (on c) 3).2),3)
 else if isB c 3 tNeg then (((rec (on c) 7).1,opT 3 :: (rec (on c) 7).2),7)
 else (atom rec c,8)
end
mutual
def S:Nat → Cur → Int → Pa
 | 0,c,_ => (c,[])
 | f + 1,c,k => if c.bad ≠ 0 then (c,[]) else
   let h:=hd (S f) c k
   C f h.2 k h.1.1 h.1.2
def C:Nat → Int → Int → Cur → List Tm → Pa
 | 0,_,_,c,x => (c,x)
 | f + 1,lev,k,c,x =>
   match sgn c lev k with
   | none => (c,x)
   | some s =>
     let p:=S f (on c) s.right
     C f s.lev k p.1 (opT s.op :: (x ++ p.2))
end
theorem S_dead {c:Cur} (f:Nat) (k:Int) (h:c.bad ≠ 0):S f c k = (c,[]):=by
 cases f with
 | zero => rfl
 | succ f => rw [S]; exact if_pos h
theorem S_good {c:Cur} (f:Nat) (k:Int) (h:c.bad = 0):S (f + 1) c k = C f (hd (S f) c k).2 k (hd (S f) c k).1.1 (hd (S f) c k).1.2:=by
 rw [S]; exact if_neg (fun h' => h' h)
theorem C_stop {c:Cur} {lev k:Int} (f:Nat) (x:List Tm) (h:sgn c lev k = none):C f lev k c x = (c,x):=by
 cases f with
 | zero => rfl
 | succ f => rw [C,h]
theorem C_step {c:Cur} {lev k:Int} {s:Sg} (f:Nat) (x:List Tm) (h:sgn c lev k = some s) :
 C (f + 1) lev k c x = C f s.lev k (S f (on c) s.right).1 (opT s.op :: (x ++ (S f (on c) s.right).2)):=by
 rw [C,h]
def first (k:Int):Int:=if k = 4 then 5 else k
def Fit (f:Nat) (c:Cur):Prop:=c.bad = 0 → c.L.length < f
theorem Fit.zero {c:Cur} (h:Fit 0 c):c.bad ≠ 0:=fun h' => absurd (h h') (by omega)
end ExprSpec
end Go.Proofs.YtejbpleghjgpbaaGreatDoor
namespace Go.Proofs.YtejbpleghjgpbaaGreatDoor
namespace ExprSpec
open CurSpec TermSpec
def WF (x:List Tm):Prop:=cnt 1 x = some x.length ∧ x.all mayB = true
theorem cnt_more:∀ {l:List Tm} {k m:Nat} (r:List Tm),cnt k l = some m → cnt k (l ++ r) = some m
 | l,0,m,r,h => by rw [cnt_zero] at h; cases h; rw [cnt_zero]
 | [],k + 1,m,r,h => by cases h
 | t :: l,k + 1,m,r,h => by
   obtain ⟨h0,m',rfl,h'⟩:=cnt_step h
   exact cnt_mk h0 (cnt_more r h')
theorem WF.leaf {t:Tm} (h:ar t.op = 0) (hm:mayB t = true):WF [t]:=by
 refine ⟨?_,by simp [hm]⟩
 refine cnt_mk (m:=0) (by omega) ?_
 rw [show 0 + arN t.op = 0 by unfold arN; omega]
 rfl
theorem WF.un {t:Tm} {a:List Tm} (h:ar t.op = 1) (hm:mayB t = true) (ha:WF a):WF (t :: a):=by
 refine ⟨?_,by rw [List.all_cons,hm,ha.2]; rfl⟩
 refine cnt_mk (m:=a.length) (by omega) ?_
 rw [show 0 + arN t.op = 1 by unfold arN; omega]
 exact ha.1
theorem WF.bin {t:Tm} {a b:List Tm} (h:ar t.op = 2) (hm:mayB t = true) (ha:WF a) (hb:WF b):WF (t :: (a ++ b)):=by
 refine ⟨?_,by rw [List.all_cons,hm,List.all_append,ha.2,hb.2]; rfl⟩
 refine cnt_mk (m:=(a ++ b).length) (by omega) ?_
 rw [show 0 + arN t.op = 1 + 1 by unfold arN; omega,List.length_append]
 refine cnt_join (cnt_more b ha.1) ?_
 rw [List.drop_left]
 exact hb.1
end ExprSpec
end Go.Proofs.YtejbpleghjgpbaaGreatDoor
namespace Go.Proofs.YtejbpleghjgpbaaGreatDoor
namespace ExprSpec
open CurSpec TermSpec NamesSpec
inductive Ex where
 | leaf (t:Tm)
 | un (o:Int) (a:Ex)
 | bin (o:Int) (a b:Ex)
def flat:Ex → List Tm
 | .leaf t => [t]
 | .un o a => opT o :: flat a
 | .bin o a b => opT o :: (flat a ++ flat b)
def Good:Ex → Prop
 | .leaf t => ar t.op = 0 ∧ mayB t = true
 | .un o a => ar o = 1 ∧ Good a
 | .bin o a b => ar o = 2 ∧ Good a ∧ Good b
def sgOf (o:Int):Sg:=(sgs.find? fun s => decide (s.op = o)).getD ⟨⟨#[]⟩,0,0,0,0⟩
def lev:Ex → Int
 | .leaf _ => 8
 | .un o _ => if o = 3 then 7 else 3
 | .bin o _ _ => if o = 7 ∨ o = 8 then 8 else (sgOf o).lev
abbrev Tx:=Int × List UInt8
def bs (l:List UInt8):ByteArray:=⟨l.toArray⟩
def lTrue:List UInt8:=[116,114,117,101]
def lFalse:List UInt8:=[102,97,108,115,101]
def lIn:List UInt8:=[105,110]
def lMin:List UInt8:=[109,105,110]
def lMax:List UInt8:=[109,97,120]
def lNot:List UInt8:=[110,111,116]
def twr (b:Prop) [Decidable b] (x:List Tx):List Tx:=if b then (3,[40]) :: (x ++ [(3,[41])]) else x
def tk:Ex → List Tx
 | .leaf t => if t.op = 1 then [(2,ValSpec.text t.n)] else if t.op = 2 then [(1,t.s.data.toList)] else if t.op = 9 then [(1,lTrue)] else if t.op = 10 then [(1,lFalse)] else [(1,lIn),(3,[40]),(1,t.s.data.toList),(3,[41])]
 | .un o a => if o = 3 then (3,[45]) :: twr (lev a < 7) (tk a) else (1,lNot) :: twr (lev a < 3) (tk a)
 | .bin o a b => if o = 7 then (1,lMin) :: (3,[40]) :: (tk a ++ (3,[44]) :: (tk b ++ [(3,[41])]))
   else if o = 8 then (1,lMax) :: (3,[40]) :: (tk a ++ (3,[44]) :: (tk b ++ [(3,[41])]))
   else twr (lev a < (sgOf o).left) (tk a) ++ ((if (sgOf o).lev ≤ 2 then 1 else 3,(sgOf o).t.data.toList) :: twr (lev b < (sgOf o).right) (tk b))
def Qu (lv:Int) (d:Cur):Prop:=∀ s,sgn d 9 0 = some s → s.left ≤ lv
theorem Qu.mono {lv lv':Int} {d:Cur} (h:Qu lv d) (hl:lv ≤ lv'):Qu lv' d:=fun s hs => by have:=h s hs; omega
end ExprSpec
end Go.Proofs.YtejbpleghjgpbaaGreatDoor
namespace Go.Proofs.YtejbpleghjgpbaaGreatDoor
namespace ExprSpec
open CurSpec TermSpec NamesSpec
theorem may_name {t:Tm} (h2:t.op = 2 ∨ t.op = 11) (hm:mayB t = true):isName t.s.data.toList = true ∧ t = ⟨t.op,0,t.s⟩:=by
 obtain ⟨o,n,s⟩:=t
 dsimp only at h2
 unfold mayB at hm
 dsimp only at hm
 rw [if_neg (by rcases h2 with rfl | rfl <;> decide),if_pos h2] at hm
 simp only [Bool.and_eq_true,decide_eq_true_eq] at hm
 exact ⟨hm.2,by rw [hm.1]⟩
end ExprSpec
end Go.Proofs.YtejbpleghjgpbaaGreatDoor
namespace Go.Proofs.YtejbpleghjgpbaaGreatDoor
open Go.RowKit
def Rdk (k:Nat) (w:World) (v:Value) (n:Nat) (xs:List Value):Prop :=
 ∃ (A:Option Addr) (c:Nat),v = .slice A n c ∧ n ≤ c ∧ xs.length = n * k ∧ (0 < n → ∃ b off,A = some ⟨b,off,none⟩ ∧ b < w.heap.size ∧ ∀ j u,xs[j]? = some u → w.cell? ⟨b,off + j,none⟩ = some u)
section
variable {k n:Nat} {w w':World} {v:Value} {xs:List Value}
theorem Rdk.keep (h:Rdk k w v n xs) (hb:Below w.heap.size w w'):Rdk k w' v n xs:=by
 obtain ⟨A,c,rfl,hc,hl,hA⟩:=h
 refine ⟨A,c,rfl,hc,hl,fun h0 => ?_⟩
 obtain ⟨b,off,rfl,hlt,hcell⟩:=hA h0
 exact ⟨b,off,rfl,Nat.lt_of_lt_of_le hlt hb.size,fun j u hj => (hb.cell (p:=⟨b,off + j,none⟩) hlt).trans (hcell j u hj)⟩
theorem Rdk.alloc (h:Rdk k w v n xs) (o:Obj):Rdk k (w.alloc o) v n xs:=h.keep ((Below.refl _ _).alloc (Nat.le_refl _) _)
theorem Rdk.nil (k:Nat) (w:World):Rdk k w (.slice none 0 0) 0 []:=⟨none,0,rfl,Nat.le_refl _,by simp,fun h => absurd h (by omega)⟩
theorem Rdk.own {base:Nat} {e:TypeId} (h:w.ownsRow base e k v n xs):Rdk k w v n xs:=by
 obtain ⟨hl,hv⟩:=h
 rcases hv with ⟨rfl,rfl⟩ | ⟨g,cap,cur,rfl,hbase,hb,hnc,hcm,hcs,ht⟩
 ·exact ⟨none,0,rfl,Nat.le_refl _,hl,fun h => absurd h (by omega)⟩
 ·refine ⟨_,cap,rfl,hnc,hl,fun _ => ⟨g,0,rfl,(Array.getElem?_eq_some_iff.1 hb).1,fun j u hj => ?_⟩⟩
  have hj':j < xs.length:=(List.getElem?_eq_some_iff.1 hj).1
  rw [← ht,List.getElem?_take_of_lt (by omega),Array.getElem?_toList] at hj
  simp [World.cell?,hb,hj]
end
theorem flat_get {α:Type} {k:Nat} {f:α → List Value} (hf:∀ a,(f a).length = k):∀ {l:List α} {i j:Nat} {a:α},l[i]? = some a → j < k → (l.flatMap f)[i * k + j]? = (f a)[j]?
 | [],_,_,_,h,_ => by simp at h
 | b :: t,0,j,a,h,hj => by
   simp at h; subst h
   rw [List.flatMap_cons,Nat.zero_mul,Nat.zero_add,List.getElem?_append_left (by rw [hf]; exact hj)]
 | b :: t,i + 1,j,a,h,hj => by
   rw [List.flatMap_cons,List.getElem?_append_right (by rw [hf,Nat.add_mul]; omega),hf,show (i + 1) * k + j - k = i * k + j by rw [Nat.add_mul]; omega]
   exact flat_get hf (l:=t) (by simpa using h) hj
theorem flat_length {α:Type} {k:Nat} {f:α → List Value} (hf:∀ a,(f a).length = k) (l:List α):(l.flatMap f).length = l.length * k:=by
 induction l with
 | nil => simp
 | cons b t ih => rw [List.flatMap_cons,List.length_append,hf,ih,List.length_cons,Nat.add_mul]; omega
section
variable {P:Program} (w:World)
theorem run_append_rdk (base:Nat) (t ty e:TypeId) (i:TypeInfo) (z:Value) (k bytes:Nat) (ht:P.underlying t = some (.slice e)) (hi:P.info? e = some i) (hz:i.zero = some z)
 (hsize:i.size = k) (hby:i.bytes = bytes) (hzs:z.cells.size = k) (hk:0 < k)
 (v:Value) (n:Nat) (xs:List Value) (hown:w.ownsRow base e k v n xs) (x:Value) (m:Nat) (news:List Value) (hx:Rdk k w x m news) (h1:∀ u ∈ news,u.oneCell' = true)
 (h63:n + m ≤ maxLen) (hbytes:(n + m) * bytes ≤ 140737488355328) (hbase:base ≤ w.heap.size) :
 ∃ v' w',(Builtin.append_ #[t,t] ty #[v,x]).run P w = .ok v' w' ∧ w'.ownsRow base e k v' (n + m) (xs ++ news) ∧ w.grownBy w' v.ownBlock ∧
   (v'.ownBlock = v.ownBlock ∨ v'.ownBlock = some w.heap.size):=by
 obtain ⟨A,c,rfl,hmc,hl,hA⟩:=hx
 rcases Nat.eq_zero_or_pos m with h0 | h0
 ·subst h0
  have hn:news = []:=List.eq_nil_of_length_eq_zero (by omega)
  subst hn
  rcases A with _ | a
  ·refine ⟨v,w,?_,by simpa using hown,⟨rfl,rfl,rfl,Nat.le_refl _,fun _ _ _ => rfl⟩,.inl rfl⟩
   rcases hown.2 with ⟨rfl,rfl⟩ | ⟨g,cap,cur,rfl,_,_,hnc,_⟩
   ·simp [Builtin.append_,run_underlying ht,sizeOf,typeInfo,hi,Builtin.lenOf,Builtin.firstCells]
   ·simp [Builtin.append_,run_underlying ht,sizeOf,typeInfo,hi,Builtin.lenOf,Builtin.firstCells,hnc,storeCells]
  ·obtain ⟨v',w',hrun,h2,h3,_,h5⟩:=run_append_own_at (P:=P) w base t ty e i z k bytes ht hi hz hsize hby hzs hk v n xs hown a 0 c [] (by simp) (by simp) (by simp) (by simpa using h63) (by simpa using hbytes) hbase
   exact ⟨v',w',hrun,by simpa using h2,h3,h5⟩
 ·obtain ⟨b,off,rfl,hlt,hcell⟩:=hA h0
  obtain ⟨v',w',hrun,h2,h3,_,h5⟩:=run_append_own_at (P:=P) w base t ty e i z k bytes ht hi hz hsize hby hzs hk v n xs hown ⟨b,off,none⟩ m c news hl
   (fun j u hj => by rw [addr_add]; exact hcell j u hj) h1 h63 hbytes hbase
  exact ⟨v',w',hrun,h2,h3,h5⟩
theorem wpList_append_rdk {ops:Array Oper} {rest:List Oper} {o:Oper} {a:Act} {Q:Exit → Act → World → Prop} (hgd:o.guard = none) (s x:Operand) (t:TypeId)
 (ho:o.op = .call { callee:=.builtin .append,args:=#[s,x],argTypes:=#[t,t] })
 (base:Nat) (e:TypeId) (i:TypeInfo) (z:Value) (k bytes:Nat) (ht:P.underlying t = some (.slice e)) (hi:P.info? e = some i) (hz:i.zero = some z)
 (hsize:i.size = k) (hby:i.bytes = bytes) (hzs:z.cells.size = k) (hk:0 < k)
 (v:Value) (n:Nat) (xs:List Value) (hs:a.eval s = v) (hown:w.ownsRow base e k v n xs) (y:Value) (m:Nat) (news:List Value) (hy:a.eval x = y) (hr:Rdk k w y m news) (h1:∀ u ∈ news,u.oneCell' = true)
 (h63:n + m ≤ maxLen) (hbytes:(n + m) * bytes ≤ 140737488355328) (hbase:base ≤ w.heap.size)
 (h:∀ v' w',w'.ownsRow base e k v' (n + m) (xs ++ news) → w.grownBy w' v.ownBlock → (v'.ownBlock = v.ownBlock ∨ v'.ownBlock = some w.heap.size) → wpList P ops Q rest (a.put o.dst v') w'):wpList P ops Q (o :: rest) a w :=
 wpList_plain hgd fun _ hK => by
  obtain ⟨v',w',hrun,h2,h3,h4⟩:=run_append_rdk (P:=P) w base t o.type e i z k bytes ht hi hz hsize hby hzs hk v n xs hown y m news hr h1 h63 hbytes hbase
  unfold Oper.wp execOp
  simp only [ho,resolve,invoke,builtin,Sem.run_bind,Sem.run_pure,Result.andThen_ok,List.map_toArray,List.map_cons,List.map_nil,hs,hy,hrun]
  exact hK _ _ (h v' w' h2 h3 h4)
end
end Go.Proofs.YtejbpleghjgpbaaGreatDoor
namespace Go.Proofs.YtejbpleghjgpbaaGreatDoor
open Go.RowKit
theorem cell_of_block' {w:World} {b:Nat} {cs:Array Value} {t:TypeId} (h:w.heap[b]? = some (.cells cs t (0,0))) {i:Nat} {v:Value} (hi:cs[i]? = some v):w.cell? ⟨b,i,none⟩ = some v:=by simp [World.cell?,h,hi]
theorem free_of_block' {w:World} {b:Nat} {cs:Array Value} {t:TypeId} (h:w.heap[b]? = some (.cells cs t (0,0))) (i:Nat):w.frozen? ⟨b,i,none⟩ = false:=by simp [World.frozen?,h]
theorem block_setCell' {w:World} {b:Nat} {cs:Array Value} {t:TypeId} (h:w.heap[b]? = some (.cells cs t (0,0))) (i:Nat) (u:Value):(w.setCell ⟨b,i,none⟩ u).heap[b]? = some (.cells (cs.setIfInBounds i u) t (0,0)):=by
 have hlt:=(Array.getElem?_eq_some_iff.1 h).1
 have h':w.heap[b] = .cells cs t (0,0):=by simpa [Array.getElem?_eq_getElem hlt] using h
 show (w.heap.modify b _)[b]? = _
 rw [Array.getElem?_eq_getElem (by simpa using hlt),Array.getElem_modify_self,h']
 rfl
theorem but_refl (w:World) (v:Option Nat):w.grownBy w v:=⟨rfl,rfl,rfl,Nat.le_refl _,fun _ _ _ => rfl⟩
theorem but_trans {a b c:World} {B:Nat} (h:a.grownBy b (some B)) (k:b.grownBy c (some B)):a.grownBy c (some B) :=
 ⟨k.os.trans h.os,k.tape.trans h.tape,k.output.trans h.output,Nat.le_trans h.size k.size,fun i hi hn => (k.block i (Nat.lt_of_lt_of_le hi h.size) hn).trans (h.block i hi hn)⟩
theorem but_set {a b:World} {B:Nat} (h:a.grownBy b (some B)) (i:Nat) (u:Value):a.grownBy (b.setCell ⟨B,i,none⟩ u) (some B) :=
 but_trans h ⟨rfl,rfl,rfl,by simp [World.setCell],fun k _ hn => Below.heap_setCell _ _ _ _ (by intro e; exact hn (by rw [e]))⟩
theorem but_set_new {a b:World} {B:Nat} (h:a.grownBy b (some B)) {k:Nat} (hk:a.heap.size ≤ k) (i:Nat) (u:Value):a.grownBy (b.setCell ⟨k,i,none⟩ u) (some B) :=
 ⟨h.os,h.tape,h.output,by simp [World.setCell]; exact h.size,fun j hj hn => (Below.heap_setCell _ _ _ _ (by simp; omega)).trans (h.block j hj hn)⟩
theorem own_keep {w w':World} {base n k:Nat} {e:TypeId} {v:Value} {xs:List Value} (h:w.ownsRow base e k v n xs) (hb:Below w.heap.size w w'):w'.ownsRow base e k v n xs:=by
 refine ⟨h.1,?_⟩
 rcases h.2 with h | ⟨g,cap,cur,h1,h2,h3,h4⟩
 ·exact .inl h
 ·exact .inr ⟨g,cap,cur,h1,h2,(hb.block g (Array.getElem?_eq_some_iff.1 h3).1).trans h3,h4⟩
theorem own_but {w w':World} {base n k B:Nat} {e:TypeId} {v:Value} {xs:List Value} (h:w.ownsRow base e k v n xs) (hb:w.grownBy w' (some B)) (hB:B < base):w'.ownsRow base e k v n xs:=by
 refine ⟨h.1,?_⟩
 rcases h.2 with h | ⟨g,cap,cur,h1,h2,h3,h4⟩
 ·exact .inl h
 ·exact .inr ⟨g,cap,cur,h1,h2,(hb.block g (Array.getElem?_eq_some_iff.1 h3).1 (by simp; omega)).trans h3,h4⟩
theorem own_shape {w:World} {base n k:Nat} {e:TypeId} {v:Value} {xs:List Value} (h:w.ownsRow base e k v n xs):∃ A c,v = .slice A n c:=by
 rcases h.2 with ⟨h1,h2⟩ | ⟨g,cap,cur,h1,_⟩
 ·subst h2
  exact ⟨_,_,h1⟩
 ·exact ⟨_,_,h1⟩
theorem own_weak {w:World} {base base' n k:Nat} {e:TypeId} {v:Value} {xs:List Value} (h:w.ownsRow base e k v n xs) (hb:base' ≤ base):w.ownsRow base' e k v n xs:=by
 refine ⟨h.1,?_⟩
 rcases h.2 with h | ⟨g,cap,cur,h1,h2,h3⟩
 ·exact .inl h
 ·exact .inr ⟨g,cap,cur,h1,by omega,h3⟩
theorem own_block_bd {w:World} {base n k:Nat} {e:TypeId} {v:Value} {xs:List Value} (h:w.ownsRow base e k v n xs):∀ j,v.ownBlock = some j → base ≤ j ∧ j < w.heap.size:=by
 intro j hj
 rcases h.2 with ⟨h1,h2⟩ | ⟨g,cap,cur,h1,h2,h3,h4⟩
 ·subst h1; simp [Value.ownBlock] at hj
 ·subst h1
  simp [Value.ownBlock] at hj
  subst hj
  exact ⟨h2,(Array.getElem?_eq_some_iff.1 h3).1⟩
theorem cells_4 {w:World} {b:Nat} {T:TypeId} {x0 x1 x2 x3:Value} (h:w.heap[b]? = some (.cells #[x0,x1,x2,x3] T (0,0))):w.cell? ⟨b,0,none⟩ = some x0 ∧ w.cell? ⟨b,1,none⟩ = some x1 ∧ w.cell? ⟨b,2,none⟩ = some x2 ∧ w.cell? ⟨b,3,none⟩ = some x3 :=
 ⟨cell_of_block' h (i:=0) rfl,cell_of_block' h (i:=1) rfl,cell_of_block' h (i:=2) rfl,cell_of_block' h (i:=3) rfl⟩
theorem cells_6 {w:World} {b:Nat} {T:TypeId} {x0 x1 x2 x3 x4 x5:Value} (h:w.heap[b]? = some (.cells #[x0,x1,x2,x3,x4,x5] T (0,0))):w.cell? ⟨b,0,none⟩ = some x0 ∧ w.cell? ⟨b,1,none⟩ = some x1 ∧ w.cell? ⟨b,2,none⟩ = some x2 ∧ w.cell? ⟨b,3,none⟩ = some x3 ∧ w.cell? ⟨b,4,none⟩ = some x4 ∧ w.cell? ⟨b,5,none⟩ = some x5 :=
 ⟨cell_of_block' h (i:=0) rfl,cell_of_block' h (i:=1) rfl,cell_of_block' h (i:=2) rfl,cell_of_block' h (i:=3) rfl,cell_of_block' h (i:=4) rfl,cell_of_block' h (i:=5) rfl⟩
end Go.Proofs.YtejbpleghjgpbaaGreatDoor
namespace Go.Proofs.YtejbpleghjgpbaaGreatDoor
open Go.RowKit NamesSpec Go.Lib
set_option maxRecDepth 100000
def RetStrs (W:World) (l:List ByteArray) (e:Ending) (w':World):Prop:=∃ v,e = .returned v ∧ Rd w' v (strV l) ∧ Below W.heap.size W w'
def RetInts (W:World) (l:List Int) (e:Ending) (w':World):Prop:=∃ v,e = .returned v ∧ Rd w' v (intV l) ∧ Below W.heap.size W w'
def PlaceRel (l:List ByteArray) (n:Nat) (s:ByteArray) (i:Value):Prop:=∃ k:Nat,k ≤ n ∧ i = .int .i64 k ∧ s ∉ l.take k
set_option maxHeartbeats 400000 in
theorem rplace_any (v:Value) (l:List ByteArray) (s:ByteArray) (w:World) (h:Rd w v (strV l)) (hm:l.length ≤ 9223372036854775807) :
 Calls Tryz.prog 24 #[v,.string s] w fun e w' => e = .returned (.int .i64 (idxOfS l s)) ∧ w = w':=by
 obtain ⟨A,n,c,rfl,hn,hc,hA⟩:=h.strs
 have HA:=Lib.hid hA
 have HN:=Lib.hid hn
 have hm':n ≤ 9223372036854775807:=by omega
 clear hA hn h hc hm
 go_enter Tryz.func24,Tryz.ntmps24
 go_wp2
 go_loop [5] (fun i => PlaceRel l n s i) (fun i => n - (RowKit.intOf i).toNat)
 case atStart => exact ⟨0,Nat.zero_le _,rfl,by simp⟩
 case round =>
  obtain ⟨k,hk,rfl,hno⟩:=hrel
  by_cases hlt:k < n
  ·obtain ⟨b,off,rfl,hb,hcell⟩:=HA.out (by omega)
   obtain ⟨x,hx⟩:∃ x,l[k]? = some x:=get_some (by have:=HN.out; omega)
   have hck:=hcell k x hx
   have HX:=Lib.hid hx
   have HO:=Lib.hid hno
   clear hcell hx hno
   rcases hxs:(x.toList == s.toList) with _ | _
   ·go_wp2
    go_round
    case rel =>
     refine ⟨k + 1,by omega,by go_num,?_⟩
     rw [take_next HX.out,List.mem_append,List.mem_singleton]
     rintro (h1 | h1)
     ·exact HO.out h1
     ·exact bytes_ne hxs h1.symm
    case measure => simp [RowKit.intOf]; omega
   ·go_wp2
    go_ret
    exact ⟨ret_int (by rw [← bytes_eq hxs] at HO ⊢; exact (place_hit HX.out HO.out).symm),rfl⟩
  ·go_wp2
   go_ret
   have:=HN.out
   exact ⟨ret_int (by rw [List.take_of_length_le (by omega)] at hno; exact (place_miss hno).symm),rfl⟩
def longB (l:List ByteArray) (m:Int):Bool:=l.any fun s => decide (m < (s.size:Int))
def BoolQuiet (W:World) (b:Bool) (e:Ending) (w':World):Prop:=e = .returned (.bool b) ∧ ∃ q,w' = W.drewN q
theorem BoolQuiet.below {W:World} {b:Bool} {e:Ending} {w':World} (h:BoolQuiet W b e w'):e = .returned (.bool b) ∧ Below W.heap.size W w':=by
 obtain ⟨rfl,q,rfl⟩:=h
 exact ⟨rfl,below_drewN (Below.refl _ _) q⟩
end Go.Proofs.YtejbpleghjgpbaaGreatDoor
namespace Go.Proofs.YtejbpleghjgpbaaGreatDoor
open Go.RowKit
def RetI (W:World) (n:Int) (e:Ending) (w':World):Prop:=e = .returned (.int .i64 n) ∧ Below W.heap.size W w'
def RetB (W:World) (b:Bool) (e:Ending) (w':World):Prop:=e = .returned (.bool b) ∧ Below W.heap.size W w'
def SameI (W:World) (n:Int) (e:Ending) (w':World):Prop:=e = .returned (.int .i64 n) ∧ W = w'
def SameB (W:World) (b:Bool) (e:Ending) (w':World):Prop:=e = .returned (.bool b) ∧ W = w'
theorem lit_here {w:World} {cs:Array Value} {xs:List Value} {e:TypeId} {n k:Nat} (hk:k = w.heap.size) (hn:n = xs.length) (hx:cs.toList = xs):Rd (w.alloc (.cells cs e)) (.slice (some ⟨k,0,none⟩) n n) xs:=by
 subst hk; subst hx
 exact Rd.lit (by simpa using hn)
theorem undrawn {w w':World} (h:Below w.drew.heap.size w.drew w'):Below w.heap.size w w':=⟨h.os,h.tape,h.output,h.size,h.block⟩
end Go.Proofs.YtejbpleghjgpbaaGreatDoor
namespace Go.Proofs.YtejbpleghjgpbaaGreatDoor
open Go.RowKit TermSpec
set_option maxRecDepth 100000
def tmV (t:Tm):List Value:=[.int .i64 t.op,.int .i64 t.n,.string t.s]
def tmsV (l:List Tm):List Value:=l.flatMap tmV
theorem tmV_length (t:Tm):(tmV t).length = 3:=rfl
theorem tmsV_length (l:List Tm):(tmsV l).length = l.length * 3:=flat_length tmV_length l
theorem tmsV_get {l:List Tm} {i:Nat} {t:Tm} (h:l[i]? = some t):(tmsV l)[i * 3]? = some (.int .i64 t.op) ∧ (tmsV l)[i * 3 + 1]? = some (.int .i64 t.n) ∧ (tmsV l)[i * 3 + 2]? = some (.string t.s) :=
 ⟨flat_get (j:=0) tmV_length h (by omega),flat_get (j:=1) tmV_length h (by omega),flat_get (j:=2) tmV_length h (by omega)⟩
def Tms (w:World) (v:Value) (l:List Tm):Prop:=∃ n,n = l.length ∧ Rdk 3 w v n (tmsV l)
theorem Tms.keep {w w':World} {v:Value} {l:List Tm} (h:Tms w v l) (hb:Below w.heap.size w w'):Tms w' v l:=by
 obtain ⟨n,hn,h⟩:=h
 exact ⟨n,hn,h.keep hb⟩
theorem Tms.alloc {w:World} {v:Value} {l:List Tm} (h:Tms w v l) (o:Obj):Tms (w.alloc o) v l:=h.keep ((Below.refl _ _).alloc (Nat.le_refl _) _)
theorem Tms.shape {w:World} {v:Value} {l:List Tm} (h:Tms w v l):∃ A n c,v = .slice A n c ∧ n = l.length ∧ n ≤ c:=by
 obtain ⟨n,hn,A,c,hv,hc,_⟩:=h
 exact ⟨A,n,c,hv,hn,hc⟩
theorem Tms.cap {w:World} {A:Option Addr} {n c:Nat} {l:List Tm} (h:Tms w (.slice A n c) l):n ≤ c:=by
 obtain ⟨A',n',c',heq,_,hc⟩:=h.shape
 cases heq
 exact hc
theorem Tms.at_ {w:World} {A:Option Addr} {n c:Nat} {l:List Tm} {i:Nat} {t:Tm} (h:Tms w (.slice A n c) l) (hi:l[i]? = some t) :
 ∃ b off,A = some ⟨b,off,none⟩ ∧ b < w.heap.size ∧ w.cell? ⟨b,off + i * 3,none⟩ = some (.int .i64 t.op) ∧ w.cell? ⟨b,off + i * 3 + 1,none⟩ = some (.int .i64 t.n) ∧ w.cell? ⟨b,off + i * 3 + 2,none⟩ = some (.string t.s):=by
 obtain ⟨m,hm,A',c',heq,hc,hl,hA⟩:=h
 cases heq
 have:=get_lt hi
 obtain ⟨b,off,rfl,hb,hcell⟩:=hA (by omega)
 obtain ⟨g0,g1,g2⟩:=tmsV_get hi
 exact ⟨b,off,rfl,hb,hcell _ _ g0,by rw [Nat.add_assoc]; exact hcell _ _ g1,by rw [Nat.add_assoc]; exact hcell _ _ g2⟩
theorem tms_drop {l:List Tm} {k:Nat}:tmsV (l.drop k) = (tmsV l).drop (k * 3):=by
 induction l generalizing k with
 | nil => simp [tmsV]
 | cons t r ih =>
   cases k with
   | zero => simp
   | succ k =>
     rw [List.drop_succ_cons,ih,show tmsV (t :: r) = tmV t ++ tmsV r from List.flatMap_cons ..,show (k + 1) * 3 = 3 + k * 3 by omega,← List.drop_drop]
     rfl
theorem tms_take {l:List Tm} {k:Nat}:tmsV (l.take k) = (tmsV l).take (k * 3):=by
 induction l generalizing k with
 | nil => simp [tmsV]
 | cons t r ih =>
   cases k with
   | zero => simp [tmsV]
   | succ k =>
     rw [List.take_succ_cons,show tmsV (t :: r.take k) = tmV t ++ tmsV (r.take k) from List.flatMap_cons ..,ih,show tmsV (t :: r) = tmV t ++ tmsV r from List.flatMap_cons ..,show (k + 1) * 3 = 3 + k * 3 by omega,List.take_append,tmV_length]
     rw [show (tmV t).take (3 + k * 3) = tmV t from List.take_of_length_le (by rw [tmV_length]; omega),Nat.add_sub_cancel_left]
theorem Tms.part {w:World} {b off n c c' i j:Nat} {l:List Tm} (h:Tms w (.slice (some ⟨b,off,none⟩) n c) l) (hij:i ≤ j) (hj:j ≤ n) (hc:j - i ≤ c'):Tms w (.slice (some ⟨b,off + i * 3,none⟩) (j - i) c') ((l.drop i).take (j - i)):=by
 obtain ⟨m,hm,A',c2,heq,hcm,hl,hA⟩:=h
 cases heq
 refine ⟨j - i,by rw [List.length_take,List.length_drop]; omega,_,c',rfl,hc,by rw [tmsV_length,List.length_take,List.length_drop]; rw [show min (j - i) (l.length - i) = j - i by omega],fun h0 => ?_⟩
 obtain ⟨b',off',heq,hb,hcell⟩:=hA (by omega)
 cases heq
 refine ⟨b,off + i * 3,rfl,hb,fun q u hq => ?_⟩
 rw [tms_take,tms_drop] at hq
 have hq1:q < (j - i) * 3:=by have:=(List.getElem?_eq_some_iff.1 hq).1; rw [List.length_take] at this; omega
 rw [List.getElem?_take_of_lt hq1,List.getElem?_drop] at hq
 rw [Nat.add_assoc]
 exact hcell _ _ hq
def Small (l:List Tm):Prop:=∀ t ∈ l,t.s.size ≤ 9223372036854775807
end Go.Proofs.YtejbpleghjgpbaaGreatDoor
namespace Go.Proofs.YtejbpleghjgpbaaGreatDoor
open Go.RowKit TermSpec
set_option maxRecDepth 100000
end Go.Proofs.YtejbpleghjgpbaaGreatDoor
namespace Go.Proofs.YtejbpleghjgpbaaGreatDoor
open Go.RowKit TermSpec
end Go.Proofs.YtejbpleghjgpbaaGreatDoor