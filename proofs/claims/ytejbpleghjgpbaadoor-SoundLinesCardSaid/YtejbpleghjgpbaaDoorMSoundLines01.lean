/- ExprSpec, ExprLevel, ExprTree, ExprReads, KitN, KitB, NamesPlace, Posts, TermMem, ExprInsert, ExprInsert2, CurMem, CurAt, CurDead, CurRef, CurLive, CurRefTake, joined. -/
import Derived.Test.YtejbpleghjgpbaaDoorMSoundLines00
import Derived.LoopTactic
import Derived.Test.YtejbpleghjgpbaaDoorRows
import Derived.BigQuiet
import Derived.Deep.QuietTactic
import Derived.Lib.Overlaps
import Derived.Lib.AppendZerosOnto
import Derived.Laws.CopyRow
import Derived.Shelf.Spec.SlicesInsert
import Derived.RegionTactic
import Derived.ChangeAlike
namespace Go.Proofs.YtejbpleghjgpbaaDoor
namespace ExprSpec
open CurSpec TermSpec
structure Sg where
 t:ByteArray
 op:Int
 lev:Int
 left:Int
 right:Int
def sgs:List Sg:=[⟨⟨#[111,114]⟩,20,1,1,2⟩,⟨⟨#[97,110,100]⟩,19,2,2,3⟩,⟨⟨#[61,61]⟩,13,4,5,5⟩,⟨⟨#[33,61]⟩,14,4,5,5⟩,⟨⟨#[60]⟩,15,4,5,5⟩,⟨⟨#[60,61]⟩,16,4,5,5⟩,⟨⟨#[62]⟩,17,4,5,5⟩,⟨⟨#[62,61]⟩,18,4,5,5⟩,⟨⟨#[43]⟩,4,5,5,6⟩,⟨⟨#[45]⟩,5,5,5,6⟩,⟨⟨#[42]⟩,6,6,6,7⟩]
def look (t:ByteArray):Option Sg:=sgs.find? fun s => decide (s.t = t)
def fits (lev k:Int) (s:Sg):Bool:=decide (s.left ≤ lev) && decide (k ≤ s.lev)
def sgn (c:Cur) (lev k:Int):Option Sg:=if (next c).k = 3 ∨ (next c).k = 1 then (look (next c).t).filter (fits lev k) else none
abbrev tNot:ByteArray:=⟨#[110,111,116]⟩
abbrev tNeg:ByteArray:=⟨#[45]⟩
abbrev tTrue:ByteArray:=⟨#[116,114,117,101]⟩
abbrev tFalse:ByteArray:=⟨#[102,97,108,115,101]⟩
abbrev tIn:ByteArray:=⟨#[105,110]⟩
abbrev tMin:ByteArray:=⟨#[109,105,110]⟩
abbrev tMax:ByteArray:=⟨#[109,97,120]⟩
abbrev tOpen:ByteArray:=⟨#[40]⟩
abbrev tClose:ByteArray:=⟨#[41]⟩
abbrev tComma:ByteArray:=⟨#[44]⟩
def opT (o:Int):Tm:=⟨o,0,⟨#[]⟩⟩
abbrev Pa:=Cur × List Tm
section
variable (rec:Cur → Int → Pa)
def two (c:Cur) (o:Int):Pa :=
 let p:=rec (want c 3 tOpen) 1
 let q:=rec (want p.1 3 tComma) 1
 (want q.1 3 tClose,opT o :: (p.2 ++ q.2))
def atom (c:Cur):Pa :=
 if (next c).k = 2 then (numC c 1000000,[⟨1,numN c 1000000,⟨#[]⟩⟩])
 else if isB c 1 tTrue then (on c,[opT 9])
 else if isB c 1 tFalse then (on c,[opT 10])
 else if isB c 1 tIn then (want (nameC (want (on c) 3 tOpen)) 3 tClose,[⟨11,0,nameS (want (on c) 3 tOpen)⟩])
 else if isB c 1 tMin then two rec (on c) 7
 else if isB c 1 tMax then two rec (on c) 8
 else if isB c 3 tOpen then (want (rec (on c) 1).1 3 tClose,(rec (on c) 1).2)
 else (nameC c,[⟨2,0,nameS c⟩])
def hd (c:Cur) (k:Int):Pa × Int :=
 if k ≤ 3 ∧ isB c 1 tNot = true then (((rec (on c) 3).1,opT 12 :: (rec (on c) 3).2),3)
 else if isB c 3 tNeg then (((rec (on c) 7).1,opT 3 :: (rec (on c) 7).2),7)
 else (atom rec c,8)
end
mutual
def S:Nat → Cur → Int → Pa
 | 0,c,_ => (c,[])
 | f + 1,c,k => if c.bad ≠ 0 then (c,[]) else
   let h:=hd (S f) c k
   C f h.2 k h.1.1 h.1.2
def C:Nat → Int → Int → Cur → List Tm → Pa
 | 0,_,_,c,x => (c,x)
 | f + 1,lev,k,c,x =>
   match sgn c lev k with
   | none => (c,x)
   | some s =>
     let p:=S f (on c) s.right
     C f s.lev k p.1 (opT s.op :: (x ++ p.2))
end
theorem S_dead {c:Cur} (f:Nat) (k:Int) (h:c.bad ≠ 0):S f c k = (c,[]):=by
 cases f with
 | zero => rfl
 | succ f => rw [S]; exact if_pos h
theorem S_good {c:Cur} (f:Nat) (k:Int) (h:c.bad = 0):S (f + 1) c k = C f (hd (S f) c k).2 k (hd (S f) c k).1.1 (hd (S f) c k).1.2:=by
 rw [S]; exact if_neg (fun h' => h' h)
theorem C_stop {c:Cur} {lev k:Int} (f:Nat) (x:List Tm) (h:sgn c lev k = none):C f lev k c x = (c,x):=by
 cases f with
 | zero => rfl
 | succ f => rw [C,h]
theorem C_step {c:Cur} {lev k:Int} {s:Sg} (f:Nat) (x:List Tm) (h:sgn c lev k = some s) :
 C (f + 1) lev k c x = C f s.lev k (S f (on c) s.right).1 (opT s.op :: (x ++ (S f (on c) s.right).2)):=by
 rw [C,h]
def first (k:Int):Int:=if k = 4 then 5 else k
def Fit (f:Nat) (c:Cur):Prop:=c.bad = 0 → c.L.length < f
theorem Fit.zero {c:Cur} (h:Fit 0 c):c.bad ≠ 0:=fun h' => absurd (h h') (by omega)
end ExprSpec
end Go.Proofs.YtejbpleghjgpbaaDoor
namespace Go.Proofs.YtejbpleghjgpbaaDoor
namespace ExprSpec
open CurSpec TermSpec
def WF (x:List Tm):Prop:=cnt 1 x = some x.length ∧ x.all mayB = true
theorem cnt_more:∀ {l:List Tm} {k m:Nat} (r:List Tm),cnt k l = some m → cnt k (l ++ r) = some m
 | l,0,m,r,h => by rw [cnt_zero] at h; cases h; rw [cnt_zero]
 | [],k + 1,m,r,h => by cases h
 | t :: l,k + 1,m,r,h => by
   obtain ⟨h0,m',rfl,h'⟩:=cnt_step h
   exact cnt_mk h0 (cnt_more r h')
theorem WF.leaf {t:Tm} (h:ar t.op = 0) (hm:mayB t = true):WF [t]:=by
 refine ⟨?_,by simp [hm]⟩
 refine cnt_mk (m:=0) (by omega) ?_
 rw [show 0 + arN t.op = 0 by unfold arN; omega]
 rfl
theorem WF.un {t:Tm} {a:List Tm} (h:ar t.op = 1) (hm:mayB t = true) (ha:WF a):WF (t :: a):=by
 refine ⟨?_,by rw [List.all_cons,hm,ha.2]; rfl⟩
 refine cnt_mk (m:=a.length) (by omega) ?_
 rw [show 0 + arN t.op = 1 by unfold arN; omega]
 exact ha.1
theorem WF.bin {t:Tm} {a b:List Tm} (h:ar t.op = 2) (hm:mayB t = true) (ha:WF a) (hb:WF b):WF (t :: (a ++ b)):=by
 refine ⟨?_,by rw [List.all_cons,hm,List.all_append,ha.2,hb.2]; rfl⟩
 refine cnt_mk (m:=(a ++ b).length) (by omega) ?_
 rw [show 0 + arN t.op = 1 + 1 by unfold arN; omega,List.length_append]
 refine cnt_join (cnt_more b ha.1) ?_
 rw [List.drop_left]
 exact hb.1
end ExprSpec
end Go.Proofs.YtejbpleghjgpbaaDoor
namespace Go.Proofs.YtejbpleghjgpbaaDoor
namespace ExprSpec
open CurSpec TermSpec NamesSpec
inductive Ex where
 | leaf (t:Tm)
 | un (o:Int) (a:Ex)
 | bin (o:Int) (a b:Ex)
def flat:Ex → List Tm
 | .leaf t => [t]
 | .un o a => opT o :: flat a
 | .bin o a b => opT o :: (flat a ++ flat b)
def Good:Ex → Prop
 | .leaf t => ar t.op = 0 ∧ mayB t = true
 | .un o a => ar o = 1 ∧ Good a
 | .bin o a b => ar o = 2 ∧ Good a ∧ Good b
def sgOf (o:Int):Sg:=(sgs.find? fun s => decide (s.op = o)).getD ⟨⟨#[]⟩,0,0,0,0⟩
def lev:Ex → Int
 | .leaf _ => 8
 | .un o _ => if o = 3 then 7 else 3
 | .bin o _ _ => if o = 7 ∨ o = 8 then 8 else (sgOf o).lev
def bs (l:List UInt8):ByteArray:=⟨l.toArray⟩
def Qu (lv:Int) (d:Cur):Prop:=∀ s,sgn d 9 0 = some s → s.left ≤ lv
theorem Qu.mono {lv lv':Int} {d:Cur} (h:Qu lv d) (hl:lv ≤ lv'):Qu lv' d:=fun s hs => by have:=h s hs; omega
end ExprSpec
end Go.Proofs.YtejbpleghjgpbaaDoor
namespace Go.Proofs.YtejbpleghjgpbaaDoor
namespace ExprSpec
open CurSpec TermSpec NamesSpec
theorem may_name {t:Tm} (h2:t.op = 2 ∨ t.op = 11) (hm:mayB t = true):isName t.s.data.toList = true ∧ t = ⟨t.op,0,t.s⟩:=by
 obtain ⟨o,n,s⟩:=t
 dsimp only at h2
 unfold mayB at hm
 dsimp only at hm
 rw [if_neg (by rcases h2 with rfl | rfl <;> decide),if_pos h2] at hm
 simp only [Bool.and_eq_true,decide_eq_true_eq] at hm
 exact ⟨hm.2,by rw [hm.1]⟩
end ExprSpec
end Go.Proofs.YtejbpleghjgpbaaDoor
namespace Go.Proofs.YtejbpleghjgpbaaDoor
open Go.RowKit
def Rdk (k:Nat) (w:World) (v:Value) (n:Nat) (xs:List Value):Prop :=
 ∃ (A:Option Addr) (c:Nat),v = .slice A n c ∧ n ≤ c ∧ xs.length = n * k ∧ (0 < n → ∃ b off,A = some ⟨b,off,none⟩ ∧ b < w.heap.size ∧ ∀ j u,xs[j]? = some u → w.cell? ⟨b,off + j,none⟩ = some u)
section
variable {k n:Nat} {w w':World} {v:Value} {xs:List Value}
theorem Rdk.keep (h:Rdk k w v n xs) (hb:Below w.heap.size w w'):Rdk k w' v n xs:=by
 obtain ⟨A,c,rfl,hc,hl,hA⟩:=h
 refine ⟨A,c,rfl,hc,hl,fun h0 => ?_⟩
 obtain ⟨b,off,rfl,hlt,hcell⟩:=hA h0
 exact ⟨b,off,rfl,Nat.lt_of_lt_of_le hlt hb.size,fun j u hj => (hb.cell (p:=⟨b,off + j,none⟩) hlt).trans (hcell j u hj)⟩
theorem Rdk.alloc (h:Rdk k w v n xs) (o:Obj):Rdk k (w.alloc o) v n xs:=h.keep ((Below.refl _ _).alloc (Nat.le_refl _) _)
theorem Rdk.nil (k:Nat) (w:World):Rdk k w (.slice none 0 0) 0 []:=⟨none,0,rfl,Nat.le_refl _,by simp,fun h => absurd h (by omega)⟩
theorem Rdk.own {base:Nat} {e:TypeId} (h:w.ownsRow base e k v n xs):Rdk k w v n xs:=by
 obtain ⟨hl,hv⟩:=h
 rcases hv with ⟨rfl,rfl⟩ | ⟨g,cap,cur,rfl,hbase,hb,hnc,hcm,hcs,ht⟩
 ·exact ⟨none,0,rfl,Nat.le_refl _,hl,fun h => absurd h (by omega)⟩
 ·refine ⟨_,cap,rfl,hnc,hl,fun _ => ⟨g,0,rfl,(Array.getElem?_eq_some_iff.1 hb).1,fun j u hj => ?_⟩⟩
  have hj':j < xs.length:=(List.getElem?_eq_some_iff.1 hj).1
  rw [← ht,List.getElem?_take_of_lt (by omega),Array.getElem?_toList] at hj
  simp [World.cell?,hb,hj]
end
theorem flat_get {α:Type} {k:Nat} {f:α → List Value} (hf:∀ a,(f a).length = k):∀ {l:List α} {i j:Nat} {a:α},l[i]? = some a → j < k → (l.flatMap f)[i * k + j]? = (f a)[j]?
 | [],_,_,_,h,_ => by simp at h
 | b :: t,0,j,a,h,hj => by
   simp at h; subst h
   rw [List.flatMap_cons,Nat.zero_mul,Nat.zero_add,List.getElem?_append_left (by rw [hf]; exact hj)]
 | b :: t,i + 1,j,a,h,hj => by
   rw [List.flatMap_cons,List.getElem?_append_right (by rw [hf,Nat.add_mul]; omega),hf,show (i + 1) * k + j - k = i * k + j by rw [Nat.add_mul]; omega]
   exact flat_get hf (l:=t) (by simpa using h) hj
theorem flat_length {α:Type} {k:Nat} {f:α → List Value} (hf:∀ a,(f a).length = k) (l:List α):(l.flatMap f).length = l.length * k:=by
 induction l with
 | nil => simp
 | cons b t ih => rw [List.flatMap_cons,List.length_append,hf,ih,List.length_cons,Nat.add_mul]; omega
section
variable {P:Program} (w:World)
theorem run_append_rdk (base:Nat) (t ty e:TypeId) (i:TypeInfo) (z:Value) (k bytes:Nat) (ht:P.underlying t = some (.slice e)) (hi:P.info? e = some i) (hz:i.zero = some z)
 (hsize:i.size = k) (hby:i.bytes = bytes) (hzs:z.cells.size = k) (hk:0 < k)
 (v:Value) (n:Nat) (xs:List Value) (hown:w.ownsRow base e k v n xs) (x:Value) (m:Nat) (news:List Value) (hx:Rdk k w x m news) (h1:∀ u ∈ news,u.oneCell' = true)
 (h63:n + m ≤ maxLen) (hbytes:(n + m) * bytes ≤ 140737488355328) (hbase:base ≤ w.heap.size) :
 ∃ v' w',(Builtin.append_ #[t,t] ty #[v,x]).run P w = .ok v' w' ∧ w'.ownsRow base e k v' (n + m) (xs ++ news) ∧ w.grownBy w' v.ownBlock ∧
   (v'.ownBlock = v.ownBlock ∨ v'.ownBlock = some w.heap.size):=by
 obtain ⟨A,c,rfl,hmc,hl,hA⟩:=hx
 rcases Nat.eq_zero_or_pos m with h0 | h0
 ·subst h0
  have hn:news = []:=List.eq_nil_of_length_eq_zero (by omega)
  subst hn
  rcases A with _ | a
  ·refine ⟨v,w,?_,by simpa using hown,⟨rfl,rfl,rfl,Nat.le_refl _,fun _ _ _ => rfl⟩,.inl rfl⟩
   rcases hown.2 with ⟨rfl,rfl⟩ | ⟨g,cap,cur,rfl,_,_,hnc,_⟩
   ·simp [Builtin.append_,run_underlying ht,sizeOf,typeInfo,hi,Builtin.lenOf,Builtin.firstCells]
   ·simp [Builtin.append_,run_underlying ht,sizeOf,typeInfo,hi,Builtin.lenOf,Builtin.firstCells,hnc,storeCells]
  ·obtain ⟨v',w',hrun,h2,h3,_,h5⟩:=run_append_own_at (P:=P) w base t ty e i z k bytes ht hi hz hsize hby hzs hk v n xs hown a 0 c [] (by simp) (by simp) (by simp) (by simpa using h63) (by simpa using hbytes) hbase
   exact ⟨v',w',hrun,by simpa using h2,h3,h5⟩
 ·obtain ⟨b,off,rfl,hlt,hcell⟩:=hA h0
  obtain ⟨v',w',hrun,h2,h3,_,h5⟩:=run_append_own_at (P:=P) w base t ty e i z k bytes ht hi hz hsize hby hzs hk v n xs hown ⟨b,off,none⟩ m c news hl
   (fun j u hj => by rw [addr_add]; exact hcell j u hj) h1 h63 hbytes hbase
  exact ⟨v',w',hrun,h2,h3,h5⟩
theorem wpList_append_rdk {ops:Array Oper} {rest:List Oper} {o:Oper} {a:Act} {Q:Exit → Act → World → Prop} (hgd:o.guard = none) (s x:Operand) (t:TypeId)
 (ho:o.op = .call { callee:=.builtin .append,args:=#[s,x],argTypes:=#[t,t] })
 (base:Nat) (e:TypeId) (i:TypeInfo) (z:Value) (k bytes:Nat) (ht:P.underlying t = some (.slice e)) (hi:P.info? e = some i) (hz:i.zero = some z)
 (hsize:i.size = k) (hby:i.bytes = bytes) (hzs:z.cells.size = k) (hk:0 < k)
 (v:Value) (n:Nat) (xs:List Value) (hs:a.eval s = v) (hown:w.ownsRow base e k v n xs) (y:Value) (m:Nat) (news:List Value) (hy:a.eval x = y) (hr:Rdk k w y m news) (h1:∀ u ∈ news,u.oneCell' = true)
 (h63:n + m ≤ maxLen) (hbytes:(n + m) * bytes ≤ 140737488355328) (hbase:base ≤ w.heap.size)
 (h:∀ v' w',w'.ownsRow base e k v' (n + m) (xs ++ news) → w.grownBy w' v.ownBlock → (v'.ownBlock = v.ownBlock ∨ v'.ownBlock = some w.heap.size) → wpList P ops Q rest (a.put o.dst v') w'):wpList P ops Q (o :: rest) a w :=
 wpList_plain hgd fun _ hK => by
  obtain ⟨v',w',hrun,h2,h3,h4⟩:=run_append_rdk (P:=P) w base t o.type e i z k bytes ht hi hz hsize hby hzs hk v n xs hown y m news hr h1 h63 hbytes hbase
  unfold Oper.wp execOp
  simp only [ho,resolve,invoke,builtin,Sem.run_bind,Sem.run_pure,Result.andThen_ok,List.map_toArray,List.map_cons,List.map_nil,hs,hy,hrun]
  exact hK _ _ (h v' w' h2 h3 h4)
end
end Go.Proofs.YtejbpleghjgpbaaDoor
namespace Go.Proofs.YtejbpleghjgpbaaDoor
open Go.RowKit
theorem cell_of_block' {w:World} {b:Nat} {cs:Array Value} {t:TypeId} (h:w.heap[b]? = some (.cells cs t (0,0))) {i:Nat} {v:Value} (hi:cs[i]? = some v):w.cell? ⟨b,i,none⟩ = some v:=by simp [World.cell?,h,hi]
theorem free_of_block' {w:World} {b:Nat} {cs:Array Value} {t:TypeId} (h:w.heap[b]? = some (.cells cs t (0,0))) (i:Nat):w.frozen? ⟨b,i,none⟩ = false:=by simp [World.frozen?,h]
theorem block_setCell' {w:World} {b:Nat} {cs:Array Value} {t:TypeId} (h:w.heap[b]? = some (.cells cs t (0,0))) (i:Nat) (u:Value):(w.setCell ⟨b,i,none⟩ u).heap[b]? = some (.cells (cs.setIfInBounds i u) t (0,0)):=by
 have hlt:=(Array.getElem?_eq_some_iff.1 h).1
 have h':w.heap[b] = .cells cs t (0,0):=by simpa [Array.getElem?_eq_getElem hlt] using h
 show (w.heap.modify b _)[b]? = _
 rw [Array.getElem?_eq_getElem (by simpa using hlt),Array.getElem_modify_self,h']
 rfl
theorem but_refl (w:World) (v:Option Nat):w.grownBy w v:=⟨rfl,rfl,rfl,Nat.le_refl _,fun _ _ _ => rfl⟩
theorem but_trans {a b c:World} {B:Nat} (h:a.grownBy b (some B)) (k:b.grownBy c (some B)):a.grownBy c (some B) :=
 ⟨k.os.trans h.os,k.tape.trans h.tape,k.output.trans h.output,Nat.le_trans h.size k.size,fun i hi hn => (k.block i (Nat.lt_of_lt_of_le hi h.size) hn).trans (h.block i hi hn)⟩
theorem but_set {a b:World} {B:Nat} (h:a.grownBy b (some B)) (i:Nat) (u:Value):a.grownBy (b.setCell ⟨B,i,none⟩ u) (some B) :=
 but_trans h ⟨rfl,rfl,rfl,by simp [World.setCell],fun k _ hn => Below.heap_setCell _ _ _ _ (by intro e; exact hn (by rw [e]))⟩
theorem but_set_new {a b:World} {B:Nat} (h:a.grownBy b (some B)) {k:Nat} (hk:a.heap.size ≤ k) (i:Nat) (u:Value):a.grownBy (b.setCell ⟨k,i,none⟩ u) (some B) :=
 ⟨h.os,h.tape,h.output,by simp [World.setCell]; exact h.size,fun j hj hn => (Below.heap_setCell _ _ _ _ (by simp; omega)).trans (h.block j hj hn)⟩
theorem own_keep {w w':World} {base n k:Nat} {e:TypeId} {v:Value} {xs:List Value} (h:w.ownsRow base e k v n xs) (hb:Below w.heap.size w w'):w'.ownsRow base e k v n xs:=by
 refine ⟨h.1,?_⟩
 rcases h.2 with h | ⟨g,cap,cur,h1,h2,h3,h4⟩
 ·exact .inl h
 ·exact .inr ⟨g,cap,cur,h1,h2,(hb.block g (Array.getElem?_eq_some_iff.1 h3).1).trans h3,h4⟩
theorem own_but {w w':World} {base n k B:Nat} {e:TypeId} {v:Value} {xs:List Value} (h:w.ownsRow base e k v n xs) (hb:w.grownBy w' (some B)) (hB:B < base):w'.ownsRow base e k v n xs:=by
 refine ⟨h.1,?_⟩
 rcases h.2 with h | ⟨g,cap,cur,h1,h2,h3,h4⟩
 ·exact .inl h
 ·exact .inr ⟨g,cap,cur,h1,h2,(hb.block g (Array.getElem?_eq_some_iff.1 h3).1 (by simp; omega)).trans h3,h4⟩
theorem own_shape {w:World} {base n k:Nat} {e:TypeId} {v:Value} {xs:List Value} (h:w.ownsRow base e k v n xs):∃ A c,v = .slice A n c:=by
 rcases h.2 with ⟨h1,h2⟩ | ⟨g,cap,cur,h1,_⟩
 ·subst h2
  exact ⟨_,_,h1⟩
 ·exact ⟨_,_,h1⟩
theorem own_weak {w:World} {base base' n k:Nat} {e:TypeId} {v:Value} {xs:List Value} (h:w.ownsRow base e k v n xs) (hb:base' ≤ base):w.ownsRow base' e k v n xs:=by
 refine ⟨h.1,?_⟩
 rcases h.2 with h | ⟨g,cap,cur,h1,h2,h3⟩
 ·exact .inl h
 ·exact .inr ⟨g,cap,cur,h1,by omega,h3⟩
theorem own_block_bd {w:World} {base n k:Nat} {e:TypeId} {v:Value} {xs:List Value} (h:w.ownsRow base e k v n xs):∀ j,v.ownBlock = some j → base ≤ j ∧ j < w.heap.size:=by
 intro j hj
 rcases h.2 with ⟨h1,h2⟩ | ⟨g,cap,cur,h1,h2,h3,h4⟩
 ·subst h1; simp [Value.ownBlock] at hj
 ·subst h1
  simp [Value.ownBlock] at hj
  subst hj
  exact ⟨h2,(Array.getElem?_eq_some_iff.1 h3).1⟩
theorem cells_4 {w:World} {b:Nat} {T:TypeId} {x0 x1 x2 x3:Value} (h:w.heap[b]? = some (.cells #[x0,x1,x2,x3] T (0,0))):w.cell? ⟨b,0,none⟩ = some x0 ∧ w.cell? ⟨b,1,none⟩ = some x1 ∧ w.cell? ⟨b,2,none⟩ = some x2 ∧ w.cell? ⟨b,3,none⟩ = some x3 :=
 ⟨cell_of_block' h (i:=0) rfl,cell_of_block' h (i:=1) rfl,cell_of_block' h (i:=2) rfl,cell_of_block' h (i:=3) rfl⟩
theorem cells_6 {w:World} {b:Nat} {T:TypeId} {x0 x1 x2 x3 x4 x5:Value} (h:w.heap[b]? = some (.cells #[x0,x1,x2,x3,x4,x5] T (0,0))):w.cell? ⟨b,0,none⟩ = some x0 ∧ w.cell? ⟨b,1,none⟩ = some x1 ∧ w.cell? ⟨b,2,none⟩ = some x2 ∧ w.cell? ⟨b,3,none⟩ = some x3 ∧ w.cell? ⟨b,4,none⟩ = some x4 ∧ w.cell? ⟨b,5,none⟩ = some x5 :=
 ⟨cell_of_block' h (i:=0) rfl,cell_of_block' h (i:=1) rfl,cell_of_block' h (i:=2) rfl,cell_of_block' h (i:=3) rfl,cell_of_block' h (i:=4) rfl,cell_of_block' h (i:=5) rfl⟩
end Go.Proofs.YtejbpleghjgpbaaDoor
namespace Go.Proofs.YtejbpleghjgpbaaDoor
open Go.RowKit NamesSpec Go.Lib
def RetStrs (W:World) (l:List ByteArray) (e:Ending) (w':World):Prop:=∃ v,e = .returned v ∧ Rd w' v (strV l) ∧ Below W.heap.size W w'
def RetInts (W:World) (l:List Int) (e:Ending) (w':World):Prop:=∃ v,e = .returned v ∧ Rd w' v (intV l) ∧ Below W.heap.size W w'
def BoolQuiet (W:World) (b:Bool) (e:Ending) (w':World):Prop:=e = .returned (.bool b) ∧ ∃ q,w' = W.drewN q
theorem BoolQuiet.below {W:World} {b:Bool} {e:Ending} {w':World} (h:BoolQuiet W b e w'):e = .returned (.bool b) ∧ Below W.heap.size W w':=by
 obtain ⟨rfl,q,rfl⟩:=h
 exact ⟨rfl,below_drewN (Below.refl _ _) q⟩
end Go.Proofs.YtejbpleghjgpbaaDoor
namespace Go.Proofs.YtejbpleghjgpbaaDoor
open Go.RowKit
def RetI (W:World) (n:Int) (e:Ending) (w':World):Prop:=e = .returned (.int .i64 n) ∧ Below W.heap.size W w'
def RetB (W:World) (b:Bool) (e:Ending) (w':World):Prop:=e = .returned (.bool b) ∧ Below W.heap.size W w'
def SameI (W:World) (n:Int) (e:Ending) (w':World):Prop:=e = .returned (.int .i64 n) ∧ W = w'
def SameB (W:World) (b:Bool) (e:Ending) (w':World):Prop:=e = .returned (.bool b) ∧ W = w'
theorem lit_here {w:World} {cs:Array Value} {xs:List Value} {e:TypeId} {n k:Nat} (hk:k = w.heap.size) (hn:n = xs.length) (hx:cs.toList = xs):Rd (w.alloc (.cells cs e)) (.slice (some ⟨k,0,none⟩) n n) xs:=by
 subst hk; subst hx
 exact Rd.lit (by simpa using hn)
end Go.Proofs.YtejbpleghjgpbaaDoor
namespace Go.Proofs.YtejbpleghjgpbaaDoor
open Go.RowKit TermSpec
set_option maxRecDepth 100000
def tmV (t:Tm):List Value:=[.int .i64 t.op,.int .i64 t.n,.string t.s]
def tmsV (l:List Tm):List Value:=l.flatMap tmV
theorem tmV_length (t:Tm):(tmV t).length = 3:=rfl
theorem tmsV_length (l:List Tm):(tmsV l).length = l.length * 3:=flat_length tmV_length l
theorem tmsV_get {l:List Tm} {i:Nat} {t:Tm} (h:l[i]? = some t):(tmsV l)[i * 3]? = some (.int .i64 t.op) ∧ (tmsV l)[i * 3 + 1]? = some (.int .i64 t.n) ∧ (tmsV l)[i * 3 + 2]? = some (.string t.s) :=
 ⟨flat_get (j:=0) tmV_length h (by omega),flat_get (j:=1) tmV_length h (by omega),flat_get (j:=2) tmV_length h (by omega)⟩
def Tms (w:World) (v:Value) (l:List Tm):Prop:=∃ n,n = l.length ∧ Rdk 3 w v n (tmsV l)
theorem Tms.keep {w w':World} {v:Value} {l:List Tm} (h:Tms w v l) (hb:Below w.heap.size w w'):Tms w' v l:=by
 obtain ⟨n,hn,h⟩:=h
 exact ⟨n,hn,h.keep hb⟩
theorem Tms.alloc {w:World} {v:Value} {l:List Tm} (h:Tms w v l) (o:Obj):Tms (w.alloc o) v l:=h.keep ((Below.refl _ _).alloc (Nat.le_refl _) _)
theorem Tms.shape {w:World} {v:Value} {l:List Tm} (h:Tms w v l):∃ A n c,v = .slice A n c ∧ n = l.length ∧ n ≤ c:=by
 obtain ⟨n,hn,A,c,hv,hc,_⟩:=h
 exact ⟨A,n,c,hv,hn,hc⟩
theorem Tms.cap {w:World} {A:Option Addr} {n c:Nat} {l:List Tm} (h:Tms w (.slice A n c) l):n ≤ c:=by
 obtain ⟨A',n',c',heq,_,hc⟩:=h.shape
 cases heq
 exact hc
theorem Tms.at_ {w:World} {A:Option Addr} {n c:Nat} {l:List Tm} {i:Nat} {t:Tm} (h:Tms w (.slice A n c) l) (hi:l[i]? = some t) :
 ∃ b off,A = some ⟨b,off,none⟩ ∧ b < w.heap.size ∧ w.cell? ⟨b,off + i * 3,none⟩ = some (.int .i64 t.op) ∧ w.cell? ⟨b,off + i * 3 + 1,none⟩ = some (.int .i64 t.n) ∧ w.cell? ⟨b,off + i * 3 + 2,none⟩ = some (.string t.s):=by
 obtain ⟨m,hm,A',c',heq,hc,hl,hA⟩:=h
 cases heq
 have:=get_lt hi
 obtain ⟨b,off,rfl,hb,hcell⟩:=hA (by omega)
 obtain ⟨g0,g1,g2⟩:=tmsV_get hi
 exact ⟨b,off,rfl,hb,hcell _ _ g0,by rw [Nat.add_assoc]; exact hcell _ _ g1,by rw [Nat.add_assoc]; exact hcell _ _ g2⟩
theorem tms_drop {l:List Tm} {k:Nat}:tmsV (l.drop k) = (tmsV l).drop (k * 3):=by
 induction l generalizing k with
 | nil => simp [tmsV]
 | cons t r ih =>
   cases k with
   | zero => simp
   | succ k =>
     rw [List.drop_succ_cons,ih,show tmsV (t :: r) = tmV t ++ tmsV r from List.flatMap_cons ..,show (k + 1) * 3 = 3 + k * 3 by omega,← List.drop_drop]
     rfl
theorem tms_take {l:List Tm} {k:Nat}:tmsV (l.take k) = (tmsV l).take (k * 3):=by
 induction l generalizing k with
 | nil => simp [tmsV]
 | cons t r ih =>
   cases k with
   | zero => simp [tmsV]
   | succ k =>
     rw [List.take_succ_cons,show tmsV (t :: r.take k) = tmV t ++ tmsV (r.take k) from List.flatMap_cons ..,ih,show tmsV (t :: r) = tmV t ++ tmsV r from List.flatMap_cons ..,show (k + 1) * 3 = 3 + k * 3 by omega,List.take_append,tmV_length]
     rw [show (tmV t).take (3 + k * 3) = tmV t from List.take_of_length_le (by rw [tmV_length]; omega),Nat.add_sub_cancel_left]
theorem Tms.part {w:World} {b off n c c' i j:Nat} {l:List Tm} (h:Tms w (.slice (some ⟨b,off,none⟩) n c) l) (hij:i ≤ j) (hj:j ≤ n) (hc:j - i ≤ c'):Tms w (.slice (some ⟨b,off + i * 3,none⟩) (j - i) c') ((l.drop i).take (j - i)):=by
 obtain ⟨m,hm,A',c2,heq,hcm,hl,hA⟩:=h
 cases heq
 refine ⟨j - i,by rw [List.length_take,List.length_drop]; omega,_,c',rfl,hc,by rw [tmsV_length,List.length_take,List.length_drop]; rw [show min (j - i) (l.length - i) = j - i by omega],fun h0 => ?_⟩
 obtain ⟨b',off',heq,hb,hcell⟩:=hA (by omega)
 cases heq
 refine ⟨b,off + i * 3,rfl,hb,fun q u hq => ?_⟩
 rw [tms_take,tms_drop] at hq
 have hq1:q < (j - i) * 3:=by have:=(List.getElem?_eq_some_iff.1 hq).1; rw [List.length_take] at this; omega
 rw [List.getElem?_take_of_lt hq1,List.getElem?_drop] at hq
 rw [Nat.add_assoc]
 exact hcell _ _ hq
def Small (l:List Tm):Prop:=∀ t ∈ l,t.s.size ≤ 9223372036854775807
end Go.Proofs.YtejbpleghjgpbaaDoor
namespace Go.Proofs.YtejbpleghjgpbaaDoor
open Go.RowKit TermSpec
set_option maxRecDepth 100000
end Go.Proofs.YtejbpleghjgpbaaDoor
namespace Go.Proofs.YtejbpleghjgpbaaDoor
open Go.RowKit TermSpec
end Go.Proofs.YtejbpleghjgpbaaDoor
namespace Go.Proofs.YtejbpleghjgpbaaDoor
open Go.RowKit CurSpec
def tkV (t:Tk):List Value:=[.int .i64 t.k,.string t.t,.int .i64 t.l,.int .i64 t.c]
def tksV (l:List Tk):List Value:=l.flatMap tkV
theorem tkV_length (t:Tk):(tkV t).length = 4:=rfl
theorem tksV_length (l:List Tk):(tksV l).length = l.length * 4:=flat_length tkV_length l
theorem tksV_cons (t:Tk) (l:List Tk):tksV (t :: l) = tkV t ++ tksV l:=by simp [tksV]
theorem tksV_get {l:List Tk} {i:Nat} {t:Tk} (h:l[i]? = some t):(tksV l)[i * 4]? = some (.int .i64 t.k) ∧ (tksV l)[i * 4 + 1]? = some (.string t.t) ∧ (tksV l)[i * 4 + 2]? = some (.int .i64 t.l) ∧ (tksV l)[i * 4 + 3]? = some (.int .i64 t.c) :=
 ⟨flat_get (j:=0) tkV_length h (by omega),flat_get (j:=1) tkV_length h (by omega),flat_get (j:=2) tkV_length h (by omega),flat_get (j:=3) tkV_length h (by omega)⟩
def Toks (w:World) (v:Value) (l:List Tk):Prop:=∃ n,n = l.length ∧ Rdk 4 w v n (tksV l)
theorem Toks.keep {w w':World} {v:Value} {l:List Tk} (h:Toks w v l) (hb:Below w.heap.size w w'):Toks w' v l:=by
 obtain ⟨n,hn,h⟩:=h
 exact ⟨n,hn,h.keep hb⟩
theorem Toks.alloc {w:World} {v:Value} {l:List Tk} (h:Toks w v l) (o:Obj):Toks (w.alloc o) v l:=h.keep ((Below.refl _ _).alloc (Nat.le_refl _) _)
theorem Toks.cons {w:World} {v:Value} {t:Tk} {l:List Tk} (h:Toks w v (t :: l)) :
 ∃ b off n c,v = .slice (some ⟨b,off,none⟩) (n + 1) c ∧ n = l.length ∧ n + 1 ≤ c ∧ b < w.heap.size ∧ w.cell? ⟨b,off,none⟩ = some (.int .i64 t.k) ∧ w.cell? ⟨b,off + 1,none⟩ = some (.string t.t) ∧ w.cell? ⟨b,off + 2,none⟩ = some (.int .i64 t.l) ∧ w.cell? ⟨b,off + 3,none⟩ = some (.int .i64 t.c) ∧
   Toks w (.slice (some ⟨b,if c = 1 then off else off + 4,none⟩) n (c - 1)) l:=by
 obtain ⟨n,rfl,A,c,rfl,hc,hl,hA⟩:=h
 obtain ⟨b,off,rfl,hb,hcell⟩:=hA (by simp)
 have g:=tksV_get (l:=t :: l) (i:=0) rfl
 simp only [List.length_cons] at hc
 refine ⟨b,off,l.length,c,rfl,rfl,hc,hb,hcell 0 _ g.1,hcell 1 _ g.2.1,hcell 2 _ g.2.2.1,hcell 3 _ g.2.2.2,l.length,rfl,_,_,rfl,by omega,tksV_length l,fun h0 => ⟨b,off + 4,?_,hb,fun j u hj => ?_⟩⟩
 ·rw [if_neg (by omega)]
 ·rw [show off + 4 + j = off + (4 + j) by omega]
  refine hcell _ _ ?_
  rw [tksV_cons,List.getElem?_append_right (by rw [tkV_length]; omega),tkV_length,Nat.add_sub_cancel_left,hj]
theorem Toks.shape {w:World} {v:Value} {l:List Tk} (h:Toks w v l):∃ A n c,v = .slice A n c ∧ n = l.length:=by
 obtain ⟨n,hn,A,c,hv,_⟩:=h
 exact ⟨A,n,c,hv,hn⟩
def Blk (w:World) (b n:Nat):Prop:=∃ cs T,w.heap[b]? = some (.cells cs T (0,0)) ∧ cs.size = n
theorem Blk.of {w:World} {b:Nat} {cs:Array Value} {T:TypeId} (h:w.heap[b]? = some (.cells cs T (0,0))):Blk w b cs.size:=⟨cs,T,h,rfl⟩
theorem Blk.set {w:World} {b n:Nat} (h:Blk w b n) (i:Nat) (u:Value):Blk (w.setCell ⟨b,i,none⟩ u) b n:=by
 obtain ⟨cs,T,h,hn⟩:=h
 exact ⟨_,T,block_setCell' h i u,by rw [Array.size_setIfInBounds,hn]⟩
theorem Blk.read {w:World} {b n:Nat} (h:Blk w b n) (i:Nat) (hi:i < n) (u:Value):(w.setCell ⟨b,i,none⟩ u).cell? ⟨b,i,none⟩ = some u:=by
 obtain ⟨cs,T,h,hn⟩:=h
 exact cell_of_block' (block_setCell' h i u) (by rw [Array.getElem?_setIfInBounds_self,if_pos (by omega)])
theorem below_pair (w:World) (o p:Obj):Below w.heap.size w ((w.alloc o).alloc p):=((Below.refl _ _).alloc (Nat.le_refl _) _).alloc (by simp) _
theorem pair_blocks {w w2:World} {o p:Obj} (hb:Below ((w.alloc o).alloc p).heap.size ((w.alloc o).alloc p) w2) :
 w2.heap[w.heap.size]? = some o ∧ w2.heap[w.heap.size + 1]? = some p ∧ Below w.heap.size w w2 ∧ w.heap.size + 1 < w2.heap.size:=by
 have hz:=hb.size
 simp only [World.size_alloc] at hz
 refine ⟨(hb.block _ (by simp; omega)).trans ((heap_alloc_old _ _ (by simp)).trans (heap_alloc_new _ _)),(hb.block _ (by simp)).trans ?_,?_,by omega⟩
 ·have:=heap_alloc_new (w.alloc o) p
  rwa [World.size_alloc] at this
 ·exact (below_pair w o p).trans (hb.mono (by simp; omega))
theorem one_block {w w2:World} {o:Obj} (hb:Below (w.alloc o).heap.size (w.alloc o) w2):w2.heap[w.heap.size]? = some o ∧ Below w.heap.size w w2 ∧ w.heap.size < w2.heap.size:=by
 have hz:=hb.size
 simp only [World.size_alloc] at hz
 exact ⟨(hb.block _ (by simp)).trans (heap_alloc_new _ _),((Below.refl _ _).alloc (Nat.le_refl _) _).trans (hb.mono (by simp)),by omega⟩
theorem block_on {w w2:World} {b:Nat} {o:Obj} (h:w.heap[b]? = some o) (hb:Below w.heap.size w w2):w2.heap[b]? = some o:=(hb.block b (Array.getElem?_eq_some_iff.1 h).1).trans h
theorem blk_of {w:World} {b n:Nat} {cs:Array Value} {T:TypeId} (h:w.heap[b]? = some (.cells cs T (0,0))) (hn:cs.size = n):Blk w b n:=⟨cs,T,h,hn⟩
theorem Blk.other {w:World} {b n c:Nat} (h:Blk w b n) (hne:b ≠ c) (i:Nat) (u:Value):Blk (w.setCell ⟨c,i,none⟩ u) b n:=by
 obtain ⟨cs,T,h,hn⟩:=h
 exact ⟨cs,T,(Below.heap_setCell _ _ _ _ hne).trans h,hn⟩
end Go.Proofs.YtejbpleghjgpbaaDoor
namespace Go.Proofs.YtejbpleghjgpbaaDoor
open Go.RowKit CurSpec
theorem Toks.but {w w':World} {b off n cp B:Nat} {l:List Tk} (h:Toks w (.slice (some ⟨b,off,none⟩) n cp) l) (hb:w.grownBy w' (some B)) (hne:b ≠ B):Toks w' (.slice (some ⟨b,off,none⟩) n cp) l:=by
 obtain ⟨m,hm,A,c,heq,hc,hl,hA⟩:=h
 cases heq
 refine ⟨n,hm,_,cp,rfl,hc,hl,fun h0 => ?_⟩
 obtain ⟨b',off',h1,hlt,hcell⟩:=hA h0
 cases h1
 refine ⟨b,off,rfl,Nat.lt_of_lt_of_le hlt hb.size,fun j u hj => ?_⟩
 rw [← hcell j u hj]
 have:=hb.block b hlt (by simp; omega)
 simp [World.cell?,this]
end Go.Proofs.YtejbpleghjgpbaaDoor
namespace Go.Proofs.YtejbpleghjgpbaaDoor
open Go.RowKit CurSpec
section
end
end Go.Proofs.YtejbpleghjgpbaaDoor
namespace Go.Proofs.YtejbpleghjgpbaaDoor
open Go.RowKit CurSpec
end Go.Proofs.YtejbpleghjgpbaaDoor
namespace Go.Proofs.YtejbpleghjgpbaaDoor
open Go.RowKit CurSpec
theorem but_below {w w':World} {B:Nat} (h:Below w.heap.size w w'):w.grownBy w' (some B):=⟨h.os,h.tape,h.output,h.size,fun i hi _ => h.block i hi⟩
end Go.Proofs.YtejbpleghjgpbaaDoor
namespace Go.Proofs.YtejbpleghjgpbaaDoor
open Go.RowKit CurSpec
end Go.Proofs.YtejbpleghjgpbaaDoor