/- TermSpec, ValSpec, EvalSpec, ActSpec, ExprSpec, ExprLevel, ExprTree, ExprReads, NamesPlace, Posts, TermMem, ExprInsert, ExprInsert2, CurRefTake, joined. -/
import Derived.Test.YtapnomdckglehaaGreatMAtlasTurns00
import Derived.Test.YtapnomdckglehaaGreatRows
import Derived.Test.YtapnomdckglehaaGreatShelf
import Derived.BigQuiet
import Derived.Deep.QuietTactic
import Derived.Lib.Overlaps
import Derived.Lib.AppendZerosOnto
import Derived.Laws.CopyRow
import Derived.Shelf.Spec.SlicesInsert
import Derived.Test.YtapnomdckglehaaGreatMAtlasTurns01
namespace Go.Proofs.YtapnomdckglehaaGreat
namespace TermSpec
open NamesSpec
structure Tm where
 op:Int
 n:Int
 s:ByteArray
def ar (o:Int):Int :=
 if o = 1 ∨ o = 2 ∨ o = 9 ∨ o = 10 ∨ o = 11 then 0 else if o = 3 ∨ o = 12 then 1 else if o = 4 ∨ o = 5 ∨ o = 6 ∨ o = 7 ∨ o = 8 ∨ o = 13 ∨ o = 14 ∨ o = 15 ∨ o = 16 ∨ o = 17 ∨ o = 18 ∨ o = 19 ∨ o = 20 then 2 else -1
def arN (o:Int):Nat:=(ar o).toNat
theorem ar_bd (o:Int):-1 ≤ ar o ∧ ar o ≤ 2:=by unfold ar; (repeat' split) <;> omega
theorem arN_of {o:Int} (h:0 ≤ ar o):(arN o:Int) = ar o:=by unfold arN; omega
def fin:Nat → List Tm → Nat → Int
 | 0,_,p => p
 | _ + 1,[],_ => -1
 | k + 1,t :: r,p => if ar t.op < 0 then -1 else fin (k + arN t.op) r (p + 1)
def cnt:Nat → List Tm → Option Nat
 | 0,_ => some 0
 | _ + 1,[] => none
 | k + 1,t :: r => if ar t.op < 0 then none else (cnt (k + arN t.op) r).map (· + 1)
theorem cnt_zero (l:List Tm):cnt 0 l = some 0:=by cases l <;> rfl
theorem fin_zero (l:List Tm) (p:Nat):fin 0 l p = p:=by cases l <;> rfl
theorem cnt_cons (k:Nat) (t:Tm) (r:List Tm):cnt (k + 1) (t :: r) = if ar t.op < 0 then none else (cnt (k + arN t.op) r).map (· + 1):=rfl
theorem fin_cons (k:Nat) (t:Tm) (r:List Tm) (p:Nat):fin (k + 1) (t :: r) p = if ar t.op < 0 then -1 else fin (k + arN t.op) r (p + 1):=rfl
theorem cnt_step {k m:Nat} {t:Tm} {r:List Tm} (h:cnt (k + 1) (t :: r) = some m):0 ≤ ar t.op ∧ ∃ m',m = m' + 1 ∧ cnt (k + arN t.op) r = some m':=by
 rw [cnt_cons] at h
 split at h
 ·cases h
 ·cases hc:cnt (k + arN t.op) r with
  | none => rw [hc] at h; cases h
  | some m' => rw [hc] at h; cases h; exact ⟨by omega,m',rfl,rfl⟩
theorem cnt_mk {k m:Nat} {t:Tm} {r:List Tm} (h0:0 ≤ ar t.op) (h:cnt (k + arN t.op) r = some m):cnt (k + 1) (t :: r) = some (m + 1):=by
 rw [cnt_cons,if_neg (by omega),h]; rfl
theorem fin_some:∀ {l:List Tm} {k m p:Nat},cnt k l = some m → fin k l p = (p + m:Nat)
 | l,0,m,p,h => by rw [cnt_zero] at h; cases h; rw [fin_zero]; rfl
 | [],k + 1,m,p,h => by cases h
 | t :: r,k + 1,m,p,h => by
   obtain ⟨h0,m',rfl,h'⟩:=cnt_step h
   rw [fin_cons,if_neg (by omega),fin_some h']
   omega
theorem fin_none:∀ {l:List Tm} {k p:Nat},cnt k l = none → fin k l p = -1
 | l,0,p,h => by rw [cnt_zero] at h; cases h
 | [],k + 1,p,h => rfl
 | t :: r,k + 1,p,h => by
   rw [fin_cons]
   split
   ·rfl
   ·rename_i h0
    refine fin_none ?_
    rw [cnt_cons,if_neg h0] at h
    simpa using h
theorem cnt_le:∀ {l:List Tm} {k m:Nat},cnt k l = some m → m ≤ l.length ∧ k ≤ m
 | l,0,m,h => by rw [cnt_zero] at h; cases h; exact ⟨Nat.zero_le _,Nat.le_refl _⟩
 | [],k + 1,m,h => by cases h
 | t :: r,k + 1,m,h => by
   obtain ⟨h0,m',rfl,h'⟩:=cnt_step h
   have:=cnt_le h'
   simp only [List.length_cons]
   omega
theorem cnt_add:∀ (l:List Tm) (a b:Nat),cnt (a + b) l = (cnt a l).bind fun m => (cnt b (l.drop m)).map (m + ·)
 | l,0,b => by rw [cnt_zero,Nat.zero_add]; simp
 | [],a + 1,b => by rw [show a + 1 + b = (a + b) + 1 by omega]; rfl
 | t :: r,a + 1,b => by
   rw [show a + 1 + b = (a + b) + 1 by omega,cnt_cons,cnt_cons]
   split
   ·rfl
   ·rw [show a + b + arN t.op = a + arN t.op + b by omega,cnt_add r (a + arN t.op) b]
    cases cnt (a + arN t.op) r with
    | none => rfl
    | some m =>
      simp only [Option.map_some,Option.bind_some,List.drop_succ_cons,Option.map_map]
      congr 1
      funext x
      simp only [Function.comp]
      omega
theorem cnt_split {l:List Tm} {a b m:Nat} (h:cnt (a + b) l = some m):∃ x y,cnt a l = some x ∧ cnt b (l.drop x) = some y ∧ m = x + y:=by
 rw [cnt_add] at h
 cases ha:cnt a l with
 | none => rw [ha] at h; cases h
 | some x =>
   rw [ha] at h
   simp only [Option.bind_some] at h
   cases hb:cnt b (l.drop x) with
   | none => rw [hb] at h; cases h
   | some y => rw [hb] at h; cases h; exact ⟨x,y,rfl,hb,rfl⟩
theorem cnt_join {l:List Tm} {a b x y:Nat} (h:cnt a l = some x) (h':cnt b (l.drop x) = some y):cnt (a + b) l = some (x + y):=by
 rw [cnt_add,h,Option.bind_some,h']; rfl
def stack {α:Type} (f:Int → List α → α):List Tm → List α
 | [] => []
 | t :: r => f t.op ((stack f r).take (arN t.op)) :: (stack f r).drop (arN t.op)
section
variable {α:Type} {f:Int → List α → α}
theorem stack_cons (t:Tm) (r:List Tm):stack f (t :: r) = f t.op ((stack f r).take (arN t.op)) :: (stack f r).drop (arN t.op):=rfl
theorem stack_drop:∀ {l:List Tm} {k m:Nat},cnt k l = some m → stack f (l.drop m) = (stack f l).drop k
 | l,0,m,h => by rw [cnt_zero] at h; cases h; rfl
 | [],k + 1,m,h => by cases h
 | t :: r,k + 1,m,h => by
   obtain ⟨h0,m',rfl,h'⟩:=cnt_step h
   rw [List.drop_succ_cons,stack_drop h',stack_cons,List.drop_succ_cons,List.drop_drop,Nat.add_comm]
theorem stack_len:∀ {l:List Tm} {k m:Nat},cnt k l = some m → k ≤ (stack f l).length
 | l,0,m,h => Nat.zero_le _
 | [],k + 1,m,h => by cases h
 | t :: r,k + 1,m,h => by
   obtain ⟨h0,m',rfl,h'⟩:=cnt_step h
   have:=stack_len h'
   rw [stack_cons,List.length_cons,List.length_drop]
   omega
end
def come (f:Int → List Int → Int) (l:List Tm):Int:=(stack f l).headD 0
section
variable {f:Int → List Int → Int}
theorem come_cons (t:Tm) (r:List Tm):come f (t :: r) = f t.op ((stack f r).take (arN t.op)):=rfl
theorem stack_get {l:List Tm} {k m:Nat} (h:cnt (k + 1) l = some m):∃ x,cnt k l = some x ∧ (stack f l)[k]? = some (come f (l.drop x)):=by
 obtain ⟨x,y,hx,hy,_⟩:=cnt_split h
 refine ⟨x,hx,?_⟩
 have h1:=stack_len (f:=f) h
 rw [come,stack_drop hx]
 have h2:k < (stack f l).length:=by omega
 rw [List.getElem?_eq_getElem h2,List.drop_eq_getElem_cons h2]
 rfl
theorem stack_take_next {l:List Tm} {k m x:Nat} (h:cnt (k + 1) l = some m) (hx:cnt k l = some x):(stack f l).take (k + 1) = (stack f l).take k ++ [come f (l.drop x)]:=by
 obtain ⟨x',hx',hg⟩:=stack_get (f:=f) h
 rw [hx] at hx'
 cases hx'
 exact take_next hg
end
def belows (l:List Tm) (at_ k:Nat):List Int:=(List.range k).map fun i => ((at_ + 1 + (cnt i (l.drop (at_ + 1))).getD 0:Nat):Int)
theorem belows_length (l:List Tm) (a k:Nat):(belows l a k).length = k:=by simp [belows]
theorem belows_get {l:List Tm} {a k i:Nat} (h:i < k):(belows l a k)[i]? = some ((a + 1 + (cnt i (l.drop (a + 1))).getD 0:Nat):Int):=by
 simp [belows,h]
theorem belows_next (l:List Tm) (a k:Nat):belows l a (k + 1) = belows l a k ++ [((a + 1 + (cnt k (l.drop (a + 1))).getD 0:Nat):Int)]:=by
 unfold belows
 rw [List.range_succ,List.map_append]
 rfl
def endA (l:List Tm) (a:Int):Int:=if a < 0 then -1 else fin 1 (l.drop a.toNat) a.toNat
theorem endA_neg {l:List Tm} {a:Int} (h:a < 0):endA l a = -1:=if_pos h
theorem endA_nat (l:List Tm) (a:Nat):endA l a = fin 1 (l.drop a) a:=by unfold endA; rw [if_neg (by omega)]; rfl
theorem endA_out {l:List Tm} {a:Int} (h:(l.length:Int) ≤ a):endA l a = -1:=by
 unfold endA
 rw [if_neg (by omega),List.drop_eq_nil_of_le (by omega)]
 rfl
theorem drop_get {l:List Tm} {a:Nat} {t:Tm} (h:l[a]? = some t):l.drop a = t :: l.drop (a + 1):=by
 obtain ⟨ha,rfl⟩:=List.getElem?_eq_some_iff.1 h
 exact List.drop_eq_getElem_cons ha
theorem endA_some {l:List Tm} {a m:Nat} (h:cnt 1 (l.drop a) = some m):endA l a = (a + m:Nat):=by rw [endA_nat,fin_some h]
theorem endA_none {l:List Tm} {a:Nat} (h:cnt 1 (l.drop a) = none):endA l a = -1:=by rw [endA_nat,fin_none h]
theorem endA_nn {l:List Tm} {a:Int} (h:0 ≤ endA l a):∃ k m:Nat,a = k ∧ cnt 1 (l.drop k) = some m ∧ endA l a = (k + m:Nat) ∧ 0 < m ∧ k + m ≤ l.length:=by
 by_cases h0:a < 0
 ·rw [endA_neg h0] at h; omega
 ·obtain ⟨k,rfl⟩:=Int.eq_ofNat_of_zero_le (Int.not_lt.1 h0)
  cases hc:cnt 1 (l.drop k) with
  | none => rw [show ((k:Nat):Int) = (k:Int) from rfl,endA_none hc] at h; omega
  | some m =>
    have:=cnt_le hc
    rw [List.length_drop] at this
    exact ⟨k,m,rfl,hc,endA_some hc,by omega,by omega⟩
theorem first_of {l:List Tm} {a m:Nat} (h:cnt 1 (l.drop a) = some m):∃ t m',l[a]? = some t ∧ 0 ≤ ar t.op ∧ m = m' + 1 ∧ cnt (arN t.op) (l.drop (a + 1)) = some m':=by
 cases hd:l.drop a with
 | nil => rw [hd] at h; cases h
 | cons t r =>
   have ha:a < l.length:=by
    rcases Nat.lt_or_ge a l.length with h | h
    ·exact h
    ·rw [List.drop_eq_nil_of_le h] at hd; cases hd
   rw [List.drop_eq_getElem_cons ha] at hd
   injection hd with h1 h2
   subst h1; subst h2
   rw [List.drop_eq_getElem_cons ha] at h
   obtain ⟨h0,m',rfl,h'⟩:=cnt_step h
   exact ⟨_,m',List.getElem?_eq_getElem ha,h0,rfl,by rwa [Nat.zero_add] at h'⟩
def deepest (bs:List Int):Int:=bs.foldl (fun a b => if a < b then b else a) 0
theorem deepest_snoc (bs:List Int) (d:Int):deepest (bs ++ [d]) = if deepest bs < d then d else deepest bs:=by unfold deepest; rw [List.foldl_append]; rfl
def depF (_:Int) (bs:List Int):Int:=deepest bs + 1
theorem deepest_bd {B:Int} (hB:0 ≤ B) (bs:List Int) (h:∀ b ∈ bs,b ≤ B):0 ≤ deepest bs ∧ deepest bs ≤ B:=by
 unfold deepest
 have key:∀ (bs:List Int) (a:Int),0 ≤ a → a ≤ B → (∀ b ∈ bs,b ≤ B) → 0 ≤ bs.foldl (fun a b => if a < b then b else a) a ∧ bs.foldl (fun a b => if a < b then b else a) a ≤ B:=by
  intro bs
  induction bs with
  | nil => intro a h0 h1 _; exact ⟨h0,h1⟩
  | cons b t ih =>
    intro a h0 h1 h2
    have hb:=h2 b (by simp)
    rw [List.foldl_cons]
    refine ih _ ?_ ?_ (fun c hc => h2 c (by simp [hc]))
    ·split <;> omega
    ·split <;> omega
 exact key bs 0 (Int.le_refl 0) hB h
theorem stack_depth:∀ (l:List Tm),∀ d ∈ stack depF l,1 ≤ d ∧ d ≤ l.length
 | [] => by simp [stack]
 | t :: r => by
   intro d hd
   have ih:=stack_depth r
   rw [stack_cons,List.mem_cons] at hd
   rw [List.length_cons]
   rcases hd with rfl | hd
   ·have:=deepest_bd (B:=r.length) (by omega) ((stack depF r).take (arN t.op)) (fun b hb => (ih b (List.mem_of_mem_take hb)).2)
    have e:depF t.op ((stack depF r).take (arN t.op)) = deepest ((stack depF r).take (arN t.op)) + 1:=rfl
    omega
   ·have:=ih d (List.mem_of_mem_drop hd)
    omega
theorem come_depth {l:List Tm} {m:Nat} (h:cnt 1 l = some m):1 ≤ come depF l ∧ come depF l ≤ l.length:=by
 have h1:=stack_len (f:=depF) h
 cases hs:stack depF l with
 | nil => rw [hs] at h1; simp at h1
 | cons d t =>
   have:=stack_depth l d (by rw [hs]; simp)
   rw [come,hs]
   exact this
def ownT (o:Int):Int:=if o = 1 ∨ o = 2 ∨ o = 3 ∨ o = 4 ∨ o = 5 ∨ o = 6 ∨ o = 7 ∨ o = 8 then 1 else 2
def askT (o:Int):Int:=if o = 1 ∨ o = 2 ∨ o = 3 ∨ o = 4 ∨ o = 5 ∨ o = 6 ∨ o = 7 ∨ o = 8 ∨ o = 13 ∨ o = 14 ∨ o = 15 ∨ o = 16 ∨ o = 17 ∨ o = 18 then 1 else 2
def typF (o:Int) (bs:List Int):Int:=if bs.all (fun b => decide (b = askT o)) then ownT o else 0
def wholeB (l:List Tm):Bool:=decide (l.length ≤ 40) && decide (cnt 1 l = some l.length)
theorem wholeB_iff {l:List Tm}:wholeB l = true ↔ l.length ≤ 40 ∧ cnt 1 l = some l.length:=by simp [wholeB]
def tell (f:Int → List Int → Int) (l:List Tm):Int:=if wholeB l then come f l else 0
def depth (l:List Tm):Int:=tell depF l
def typ (l:List Tm):Int:=tell typF l
theorem depth_zero {l:List Tm}:(depth l = 0) ↔ wholeB l = false:=by
 unfold depth tell
 cases h:wholeB l with
 | false => simp
 | true =>
   have:=come_depth (wholeB_iff.1 h).2
   simp
   omega
def mayB (t:Tm):Bool :=
 (if t.op = 1 then decide (0 ≤ t.n) && decide (t.n ≤ 1000000) else decide (t.n = 0)) && (if t.op = 2 ∨ t.op = 11 then isName t.s.data.toList else decide (t.s.size = 0))
def chk (l:List Tm):Int :=
 if 40 < l.length then 8 else if wholeB l = false then 1 else if l.all mayB = false then 1 else if 12 < depth l then 6 else 0
theorem chk_ok {l:List Tm} (h:chk l = 0):wholeB l = true ∧ l.all mayB = true ∧ depth l ≤ 12:=by
 unfold chk at h
 split at h
 ·omega
 split at h
 ·omega
 rename_i h1
 split at h
 ·omega
 rename_i h2
 split at h
 ·omega
 rename_i h3
 exact ⟨by simpa using h1,by simpa using h2,by omega⟩
def namesOf (l:List Tm) (o:Int):List ByteArray:=(l.filter fun t => decide (t.op = o)).map (·.s)
theorem namesOf_yes {l:List Tm} {o:Int} {k:Nat} {t:Tm} (h:l[k]? = some t) (he:t.op = o):namesOf (l.take (k + 1)) o = namesOf (l.take k) o ++ [t.s]:=by
 unfold namesOf; rw [take_next h,List.filter_append,List.map_append]; simp [he]
theorem namesOf_no {l:List Tm} {o:Int} {k:Nat} {t:Tm} (h:l[k]? = some t) (he:t.op ≠ o):namesOf (l.take (k + 1)) o = namesOf (l.take k) o:=by
 unfold namesOf; rw [take_next h,List.filter_append,List.map_append]; simp [he]
theorem namesOf_length (l:List Tm) (o:Int):(namesOf l o).length ≤ l.length:=by
 unfold namesOf; rw [List.length_map]; exact List.length_filter_le _ _
end TermSpec
end Go.Proofs.YtapnomdckglehaaGreat
namespace Go.Proofs.YtapnomdckglehaaGreat
namespace ValSpec
def near (x:Int):Int:=if x < -1000000 then -1000000 else if 1000000 < x then 1000000 else x
def times (a b:Int):Int:=near (near a * near b)
end ValSpec
end Go.Proofs.YtapnomdckglehaaGreat
namespace Go.Proofs.YtapnomdckglehaaGreat
namespace EvalSpec
open TermSpec NamesSpec ValSpec Go.Lib
structure Vr where
 s:ByteArray
 lo:Int
 hi:Int
 ini:Int
structure Ev where
 vars:List Vr
 v0:Int
 v1:Int
 v2:Int
 v3:Int
 ins:List ByteArray
section
variable {e:Ev}
end
section
variable {e:Ev}
end
end EvalSpec
end Go.Proofs.YtapnomdckglehaaGreat
namespace Go.Proofs.YtapnomdckglehaaGreat
namespace ActSpec
open TermSpec NamesSpec ValSpec EvalSpec Go.Lib
structure Ac where
 s:ByteArray
 any:Bool
 x:List Tm
def oneA (a:Ac):Int:=if isName a.s.data.toList = false then 1 else if a.any = false then chk a.x else if a.x.length = 0 then 0 else 1
def firstA:List Ac → Int
 | [] => 0
 | a :: r => if oneA a = 0 then firstA r else oneA a
def chkA (l:List Ac):Int:=if 8 < l.length then 8 else firstA l
theorem firstA_stop {l:List Ac} {k:Nat} {a:Ac} (h:l[k]? = some a) (h0:firstA (l.take k) = 0) (h1:oneA a ≠ 0):firstA l = oneA a:=by
 induction l generalizing k with
 | nil => simp at h
 | cons b r ih =>
   cases k with
   | zero =>
     simp at h
     subst h
     unfold firstA
     rw [if_neg h1]
   | succ k =>
     rw [List.take_succ_cons] at h0
     unfold firstA at h0 ⊢
     split at h0
     ·rename_i hb
      rw [if_pos hb]
      exact ih (by simpa using h) h0
     ·rename_i hb
      exact absurd h0 hb
theorem firstA_next {l:List Ac} {k:Nat} {a:Ac} (h:l[k]? = some a) (h0:firstA (l.take k) = 0) (h1:oneA a = 0):firstA (l.take (k + 1)) = 0:=by
 induction l generalizing k with
 | nil => simp at h
 | cons b r ih =>
   cases k with
   | zero =>
     simp at h
     subst h
     simp [firstA,h1]
   | succ k =>
     rw [List.take_succ_cons] at h0 ⊢
     unfold firstA at h0 ⊢
     split at h0
     ·rename_i hb
      rw [if_pos hb]
      exact ih (by simpa using h) h0
     ·rename_i hb
      exact absurd h0 hb
theorem firstA_all {l:List Ac} (h:firstA l = 0):∀ a ∈ l,oneA a = 0:=by
 induction l with
 | nil => simp
 | cons b r ih =>
   unfold firstA at h
   split at h
   ·rename_i hb
    intro a ha
    rcases List.mem_cons.1 ha with rfl | ha
    ·exact hb
    ·exact ih h a ha
   ·rename_i hb
    exact absurd h hb
structure V4 where
 a:Int
 b:Int
 c:Int
 d:Int
 deriving DecidableEq
def V4.set (x:V4) (i:Nat) (n:Int):V4:=if i = 0 then { x with a:=n } else if i = 1 then { x with b:=n } else if i = 2 then { x with c:=n } else { x with d:=n }
def lessV (x y:V4):Bool:=if x.a ≠ y.a then decide (x.a < y.a) else if x.b ≠ y.b then decide (x.b < y.b) else if x.c ≠ y.c then decide (x.c < y.c) else decide (x.d < y.d)
def ahead (x:V4):List V4 → Nat
 | [] => 0
 | y :: r => if lessV y x then ahead x r + 1 else 0
end ActSpec
end Go.Proofs.YtapnomdckglehaaGreat
namespace Go.Proofs.YtapnomdckglehaaGreat
namespace ExprSpec
open CurSpec TermSpec
structure Sg where
 t:ByteArray
 op:Int
 lev:Int
 left:Int
 right:Int
def sgs:List Sg:=[⟨⟨#[111,114]⟩,20,1,1,2⟩,⟨⟨#[97,110,100]⟩,19,2,2,3⟩,⟨⟨#[61,61]⟩,13,4,5,5⟩,⟨⟨#[33,61]⟩,14,4,5,5⟩,⟨⟨#[60]⟩,15,4,5,5⟩,⟨⟨#[60,61]⟩,16,4,5,5⟩,⟨⟨#[62]⟩,17,4,5,5⟩,⟨⟨#[62,61]⟩,18,4,5,5⟩,⟨⟨#[43]⟩,4,5,5,6⟩,⟨⟨#[45]⟩,5,5,5,6⟩,⟨⟨#[42]⟩,6,6,6,7⟩]
def look (t:ByteArray):Option Sg:=sgs.find? fun s => decide (s.t = t)
def fits (lev k:Int) (s:Sg):Bool:=decide (s.left ≤ lev) && decide (k ≤ s.lev)
def sgn (c:Cur) (lev k:Int):Option Sg:=if (next c).k = 3 ∨ (next c).k = 1 then (look (next c).t).filter (fits lev k) else none
abbrev tNot:ByteArray:=⟨#[110,111,116]⟩
abbrev tNeg:ByteArray:=⟨#[45]⟩
abbrev tTrue:ByteArray:=⟨#[116,114,117,101]⟩
abbrev tFalse:ByteArray:=⟨#[102,97,108,115,101]⟩
abbrev tIn:ByteArray:=⟨#[105,110]⟩
abbrev tMin:ByteArray:=⟨#[109,105,110]⟩
abbrev tMax:ByteArray:=⟨#[109,97,120]⟩
abbrev tOpen:ByteArray:=⟨#[40]⟩
abbrev tClose:ByteArray:=⟨#[41]⟩
abbrev tComma:ByteArray:=⟨#[44]⟩
def opT (o:Int):Tm:=⟨o,0,⟨#[]⟩⟩
abbrev Pa:=Cur × List Tm
section
variable (rec:Cur → Int → Pa)
def two (c:Cur) (o:Int):Pa :=
 let p:=rec (want c 3 tOpen) 1
 let q:=rec (want p.1 3 tComma) 1
 (want q.1 3 tClose,opT o :: (p.2 ++ q.2))
def atom (c:Cur):Pa :=
 if (next c).k = 2 then (numC c 1000000,[⟨1,numN c 1000000,⟨#[]⟩⟩])
 else if isB c 1 tTrue then (on c,[opT 9])
 else if isB c 1 tFalse then (on c,[opT 10])
 else if isB c 1 tIn then (want (nameC (want (on c) 3 tOpen)) 3 tClose,[⟨11,0,nameS (want (on c) 3 tOpen)⟩])
 else if isB c 1 tMin then two rec (on c) 7
 else if isB c 1 tMax then two rec (on c) 8
 else if isB c 3 tOpen then (want (rec (on c) 1).1 3 tClose,(rec (on c) 1).2)
 else (nameC c,[⟨2,0,nameS c⟩])
def hd (c:Cur) (k:Int):Pa × Int :=
 if k ≤ 3 ∧ isB c 1 tNot = true then (((rec (on c) 3).1,opT 12 :: (rec (on c) 3).2),3)
 else if isB c 3 tNeg then (((rec (on c) 7).1,opT 3 :: (rec (on c) 7).2),7)
 else (atom rec c,8)
end
mutual
def S:Nat → Cur → Int → Pa
 | 0,c,_ => (c,[])
 | f + 1,c,k => if c.bad ≠ 0 then (c,[]) else
   let h:=hd (S f) c k
   C f h.2 k h.1.1 h.1.2
def C:Nat → Int → Int → Cur → List Tm → Pa
 | 0,_,_,c,x => (c,x)
 | f + 1,lev,k,c,x =>
   match sgn c lev k with
   | none => (c,x)
   | some s =>
     let p:=S f (on c) s.right
     C f s.lev k p.1 (opT s.op :: (x ++ p.2))
end
theorem S_dead {c:Cur} (f:Nat) (k:Int) (h:c.bad ≠ 0):S f c k = (c,[]):=by
 cases f with
 | zero => rfl
 | succ f => rw [S]; exact if_pos h
theorem S_good {c:Cur} (f:Nat) (k:Int) (h:c.bad = 0):S (f + 1) c k = C f (hd (S f) c k).2 k (hd (S f) c k).1.1 (hd (S f) c k).1.2:=by
 rw [S]; exact if_neg (fun h' => h' h)
theorem C_stop {c:Cur} {lev k:Int} (f:Nat) (x:List Tm) (h:sgn c lev k = none):C f lev k c x = (c,x):=by
 cases f with
 | zero => rfl
 | succ f => rw [C,h]
theorem C_step {c:Cur} {lev k:Int} {s:Sg} (f:Nat) (x:List Tm) (h:sgn c lev k = some s) :
 C (f + 1) lev k c x = C f s.lev k (S f (on c) s.right).1 (opT s.op :: (x ++ (S f (on c) s.right).2)):=by
 rw [C,h]
def first (k:Int):Int:=if k = 4 then 5 else k
def Fit (f:Nat) (c:Cur):Prop:=c.bad = 0 → c.L.length < f
theorem Fit.zero {c:Cur} (h:Fit 0 c):c.bad ≠ 0:=fun h' => absurd (h h') (by omega)
theorem Fit.le {f:Nat} {c d:Cur} (h:Fit f c) (h0:c.bad = 0) (hl:d.L.length ≤ c.L.length):Fit f d:=fun _ => by
 have:=h h0
 omega
end ExprSpec
end Go.Proofs.YtapnomdckglehaaGreat
namespace Go.Proofs.YtapnomdckglehaaGreat
namespace ExprSpec
open CurSpec TermSpec
def WF (x:List Tm):Prop:=cnt 1 x = some x.length ∧ x.all mayB = true
theorem cnt_more:∀ {l:List Tm} {k m:Nat} (r:List Tm),cnt k l = some m → cnt k (l ++ r) = some m
 | l,0,m,r,h => by rw [cnt_zero] at h; cases h; rw [cnt_zero]
 | [],k + 1,m,r,h => by cases h
 | t :: l,k + 1,m,r,h => by
   obtain ⟨h0,m',rfl,h'⟩:=cnt_step h
   exact cnt_mk h0 (cnt_more r h')
theorem WF.leaf {t:Tm} (h:ar t.op = 0) (hm:mayB t = true):WF [t]:=by
 refine ⟨?_,by simp [hm]⟩
 refine cnt_mk (m:=0) (by omega) ?_
 rw [show 0 + arN t.op = 0 by unfold arN; omega]
 rfl
theorem WF.un {t:Tm} {a:List Tm} (h:ar t.op = 1) (hm:mayB t = true) (ha:WF a):WF (t :: a):=by
 refine ⟨?_,by rw [List.all_cons,hm,ha.2]; rfl⟩
 refine cnt_mk (m:=a.length) (by omega) ?_
 rw [show 0 + arN t.op = 1 by unfold arN; omega]
 exact ha.1
theorem WF.bin {t:Tm} {a b:List Tm} (h:ar t.op = 2) (hm:mayB t = true) (ha:WF a) (hb:WF b):WF (t :: (a ++ b)):=by
 refine ⟨?_,by rw [List.all_cons,hm,List.all_append,ha.2,hb.2]; rfl⟩
 refine cnt_mk (m:=(a ++ b).length) (by omega) ?_
 rw [show 0 + arN t.op = 1 + 1 by unfold arN; omega,List.length_append]
 refine cnt_join (cnt_more b ha.1) ?_
 rw [List.drop_left]
 exact hb.1
end ExprSpec
end Go.Proofs.YtapnomdckglehaaGreat
namespace Go.Proofs.YtapnomdckglehaaGreat
namespace ExprSpec
open CurSpec TermSpec NamesSpec
inductive Ex where
 | leaf (t:Tm)
 | un (o:Int) (a:Ex)
 | bin (o:Int) (a b:Ex)
def flat:Ex → List Tm
 | .leaf t => [t]
 | .un o a => opT o :: flat a
 | .bin o a b => opT o :: (flat a ++ flat b)
def Good:Ex → Prop
 | .leaf t => ar t.op = 0 ∧ mayB t = true
 | .un o a => ar o = 1 ∧ Good a
 | .bin o a b => ar o = 2 ∧ Good a ∧ Good b
def sgOf (o:Int):Sg:=(sgs.find? fun s => decide (s.op = o)).getD ⟨⟨#[]⟩,0,0,0,0⟩
def lev:Ex → Int
 | .leaf _ => 8
 | .un o _ => if o = 3 then 7 else 3
 | .bin o _ _ => if o = 7 ∨ o = 8 then 8 else (sgOf o).lev
def bs (l:List UInt8):ByteArray:=⟨l.toArray⟩
def Qu (lv:Int) (d:Cur):Prop:=∀ s,sgn d 9 0 = some s → s.left ≤ lv
theorem Qu.mono {lv lv':Int} {d:Cur} (h:Qu lv d) (hl:lv ≤ lv'):Qu lv' d:=fun s hs => by have:=h s hs; omega
end ExprSpec
end Go.Proofs.YtapnomdckglehaaGreat
namespace Go.Proofs.YtapnomdckglehaaGreat
namespace ExprSpec
open CurSpec TermSpec NamesSpec
theorem may_name {t:Tm} (h2:t.op = 2 ∨ t.op = 11) (hm:mayB t = true):isName t.s.data.toList = true ∧ t = ⟨t.op,0,t.s⟩:=by
 obtain ⟨o,n,s⟩:=t
 dsimp only at h2
 unfold mayB at hm
 dsimp only at hm
 rw [if_neg (by rcases h2 with rfl | rfl <;> decide),if_pos h2] at hm
 simp only [Bool.and_eq_true,decide_eq_true_eq] at hm
 exact ⟨hm.2,by rw [hm.1]⟩
end ExprSpec
end Go.Proofs.YtapnomdckglehaaGreat
namespace Go.Proofs.YtapnomdckglehaaGreat
open Go.RowKit NamesSpec Go.Lib
set_option maxRecDepth 100000
def RetStrs (W:World) (l:List ByteArray) (e:Ending) (w':World):Prop:=∃ v,e = .returned v ∧ Rd w' v (strV l) ∧ Below W.heap.size W w'
def RetInts (W:World) (l:List Int) (e:Ending) (w':World):Prop:=∃ v,e = .returned v ∧ Rd w' v (intV l) ∧ Below W.heap.size W w'
def PlaceRel (l:List ByteArray) (n:Nat) (s:ByteArray) (i:Value):Prop:=∃ k:Nat,k ≤ n ∧ i = .int .i64 k ∧ s ∉ l.take k
set_option maxHeartbeats 400000 in
theorem rplace_any (v:Value) (l:List ByteArray) (s:ByteArray) (w:World) (h:Rd w v (strV l)) (hm:l.length ≤ 9223372036854775807) :
 Calls Tryz.prog 45 #[v,.string s] w fun e w' => e = .returned (.int .i64 (idxOfS l s)) ∧ w = w':=by
 obtain ⟨A,n,c,rfl,hn,hc,hA⟩:=h.strs
 have HA:=Lib.hid hA
 have HN:=Lib.hid hn
 have hm':n ≤ 9223372036854775807:=by omega
 clear hA hn h hc hm
 go_enter Tryz.func45,Tryz.ntmps45
 go_wp2
 go_loop [5] (fun i => PlaceRel l n s i) (fun i => n - (RowKit.intOf i).toNat)
 case atStart => exact ⟨0,Nat.zero_le _,rfl,by simp⟩
 case round =>
  obtain ⟨k,hk,rfl,hno⟩:=hrel
  by_cases hlt:k < n
  ·obtain ⟨b,off,rfl,hb,hcell⟩:=HA.out (by omega)
   obtain ⟨x,hx⟩:∃ x,l[k]? = some x:=get_some (by have:=HN.out; omega)
   have hck:=hcell k x hx
   have HX:=Lib.hid hx
   have HO:=Lib.hid hno
   clear hcell hx hno
   rcases hxs:(x.toList == s.toList) with _ | _
   ·go_wp2
    go_round
    case rel =>
     refine ⟨k + 1,by omega,by go_num,?_⟩
     rw [take_next HX.out,List.mem_append,List.mem_singleton]
     rintro (h1 | h1)
     ·exact HO.out h1
     ·exact bytes_ne hxs h1.symm
    case measure => simp [RowKit.intOf]; omega
   ·go_wp2
    go_ret
    exact ⟨ret_int (by rw [← bytes_eq hxs] at HO ⊢; exact (place_hit HX.out HO.out).symm),rfl⟩
  ·go_wp2
   go_ret
   have:=HN.out
   exact ⟨ret_int (by rw [List.take_of_length_le (by omega)] at hno; exact (place_miss hno).symm),rfl⟩
theorem nplace_any (v:Value) (l:List ByteArray) (s:ByteArray) (w:World) (h:Rd w v (strV l)) (hm:l.length ≤ 9223372036854775807) :
 Calls Tryz.prog 37 #[v,.string s] w fun e w' => e = .returned (.int .i64 (idxOfS l s)) ∧ w = w':=by
 obtain ⟨A,n,c,rfl,hn,hc,hA⟩:=h.strs
 rcases Nat.eq_zero_or_pos n with h0 | h0
 ·subst h0
  obtain rfl:l = []:=List.eq_nil_of_length_eq_zero hn
  clear h hn hc hA hm
  go_enter Tryz.func37,Tryz.ntmps37
  go_wp2_with (go_at_call 70; refine (Tryz.slices_Index_string_empty _ _ _ _).mono ?_; rintro e w' ⟨rfl,rfl⟩)
  go_ret
  exact ⟨rfl,rfl⟩
 ·obtain ⟨b,off,rfl,hb,hcell⟩:=hA h0
  have H:=Lib.hid (Tryz.slices_Index_string b off n c l s w (by omega) (by omega) (fun j hj => by
   obtain ⟨x,hx⟩:=get_some hj
   rw [hcell j x hx,getD_of hx]))
  have HN:=Lib.hid hn
  clear h hn hc hA hm hcell
  go_enter Tryz.func37,Tryz.ntmps37
  go_wp2_with (go_at_call 70; refine H.out.mono ?_; rintro e w' ⟨rfl,rfl⟩)
  go_ret
  exact ⟨ret_int (by rw [← HN.out,List.take_of_length_le (Nat.le_refl _)]),rfl⟩
def longB (l:List ByteArray) (m:Int):Bool:=l.any fun s => decide (m < (s.size:Int))
def sameS (a b:List ByteArray):Bool:=decide (a = b)
theorem same_step {α:Type} {a b:List α} {k:Nat} {x y:α} (h:a.take k = b.take k) (hx:a[k]? = some x) (hy:b[k]? = some y):a.take (k + 1) = b.take (k + 1) ↔ x = y:=by
 rw [take_next hx,take_next hy,h]; simp
theorem same_ne {α:Type} {a b:List α} {k:Nat} {x y:α} (hx:a[k]? = some x) (hy:b[k]? = some y) (h:x ≠ y):a ≠ b:=by
 rintro rfl
 rw [hx] at hy
 exact h (by injection hy)
def SameRel {α:Type} (W:World) (a b:List α) (n:Nat) (i:Value) (w:World):Prop:=∃ (k q:Nat),k ≤ n ∧ i = .int .i64 k ∧ a.take k = b.take k ∧ w = W.drewN q
def BoolQuiet (W:World) (b:Bool) (e:Ending) (w':World):Prop:=e = .returned (.bool b) ∧ ∃ q,w' = W.drewN q
theorem BoolQuiet.below {W:World} {b:Bool} {e:Ending} {w':World} (h:BoolQuiet W b e w'):e = .returned (.bool b) ∧ Below W.heap.size W w':=by
 obtain ⟨rfl,q,rfl⟩:=h
 exact ⟨rfl,below_drewN (Below.refl _ _) q⟩
set_option maxHeartbeats 800000 in
theorem texts_any (v u:Value) (a b:List ByteArray) (w:World) (h:Rd w v (strV a)) (h':Rd w u (strV b)) (hm:a.length ≤ 9223372036854775807) :
 Calls Tryz.prog 14 #[v,u] w (BoolQuiet w (sameS a b)):=by
 obtain ⟨A,n,c,rfl,hn,hc,hA⟩:=h.strs
 obtain ⟨B,m,d,rfl,hn',hd,hB⟩:=h'.strs
 have HA:=Lib.hid hA
 have HB:=Lib.hid hB
 have hm':n ≤ 9223372036854775807:=by omega
 by_cases hnm:n = m
 ·subst hnm
  have HN:=Lib.hid hn
  have HN':=Lib.hid hn'
  clear hA hn h hc hm hB hn' h' hd
  go_enter Tryz.func14,Tryz.ntmps14
  go_wp2
  go_loopw [5] (fun i wr => SameRel w a b n i wr) (fun i _ => n - (RowKit.intOf i).toNat)
  case atStart => exact ⟨0,0,Nat.zero_le _,rfl,by simp,rfl⟩
  case round =>
   obtain ⟨k,q,hk,rfl,hsm,rfl⟩:=hrel
   by_cases hlt:k < n
   ·obtain ⟨b1,off1,rfl,hb1,hcell1⟩:=HA.out (by omega)
    obtain ⟨b2,off2,rfl,hb2,hcell2⟩:=HB.out (by omega)
    obtain ⟨x,hx⟩:∃ x,a[k]? = some x:=get_some (by have:=HN.out; omega)
    obtain ⟨y,hy⟩:∃ y,b[k]? = some y:=get_some (by have:=HN'.out; omega)
    have hck1:=hcell1 k x hx
    have hck2:=hcell2 k y hy
    have hltI:(k:Int) < (n:Int):=by omega
    have HX:=Lib.hid hx
    have HY:=Lib.hid hy
    have HS:=Lib.hid hsm
    clear hcell1 hcell2 hx hy hsm
    rcases hxy:(x.toList == y.toList) with _ | _
    ·have hxy':(x.toList != y.toList) = true:=by simp [bne,hxy]
     go_wp2
     go_quiet (fail)
     go_wp2
     go_ret
     exact ⟨ret_bool (by unfold sameS; exact (decide_eq_false (same_ne HX.out HY.out (bytes_ne hxy))).symm),_,World.drewN_drewN _ _ _⟩
    ·have hxy':(x.toList != y.toList) = false:=by simp [bne,hxy]
     go_wp2
     go_quiet (fail)
     go_wp2
     go_roundw
     case rel => exact ⟨k + 1,_,by omega,by go_num,(same_step HS.out HX.out HY.out).2 (bytes_eq hxy),rfl⟩
     case measure => simp [RowKit.intOf]; omega
   ·go_wp2
    go_ret
    have e1:=HN.out
    have e2:=HN'.out
    exact ⟨ret_bool (by rw [List.take_of_length_le (by omega),List.take_of_length_le (by omega)] at hsm; unfold sameS; exact (decide_eq_true hsm).symm),_,rfl⟩
 ·have HE:Hid (sameS a b = false):=Lib.hid (decide_eq_false (fun e => hnm (by rw [← hn,← hn',e])))
  have hne:¬ (n:Int) = (m:Int):=by omega
  clear hA hn h hc hm hB hn' h' hd HA HB
  go_enter Tryz.func14,Tryz.ntmps14
  go_wp2
  go_ret
  exact ⟨ret_bool HE.out.symm,0,rfl⟩
end Go.Proofs.YtapnomdckglehaaGreat
namespace Go.Proofs.YtapnomdckglehaaGreat
open Go.RowKit
def RetI (W:World) (n:Int) (e:Ending) (w':World):Prop:=e = .returned (.int .i64 n) ∧ Below W.heap.size W w'
def RetB (W:World) (b:Bool) (e:Ending) (w':World):Prop:=e = .returned (.bool b) ∧ Below W.heap.size W w'
def SameI (W:World) (n:Int) (e:Ending) (w':World):Prop:=e = .returned (.int .i64 n) ∧ W = w'
def SameB (W:World) (b:Bool) (e:Ending) (w':World):Prop:=e = .returned (.bool b) ∧ W = w'
theorem lit_here {w:World} {cs:Array Value} {xs:List Value} {e:TypeId} {n k:Nat} (hk:k = w.heap.size) (hn:n = xs.length) (hx:cs.toList = xs):Rd (w.alloc (.cells cs e)) (.slice (some ⟨k,0,none⟩) n n) xs:=by
 subst hk; subst hx
 exact Rd.lit (by simpa using hn)
end Go.Proofs.YtapnomdckglehaaGreat
namespace Go.Proofs.YtapnomdckglehaaGreat
open Go.RowKit TermSpec
set_option maxRecDepth 100000
def tmV (t:Tm):List Value:=[.int .i64 t.op,.int .i64 t.n,.string t.s]
def tmsV (l:List Tm):List Value:=l.flatMap tmV
theorem tmV_length (t:Tm):(tmV t).length = 3:=rfl
theorem tmsV_length (l:List Tm):(tmsV l).length = l.length * 3:=flat_length tmV_length l
theorem tmV_one (t:Tm):∀ u ∈ tmV t,u.oneCell' = true:=by simp [tmV,Value.oneCell']
theorem tmsV_one (l:List Tm):∀ u ∈ tmsV l,u.oneCell' = true:=by
 intro u hu
 obtain ⟨t,_,h⟩:=List.mem_flatMap.1 hu
 exact tmV_one t u h
theorem tmsV_get {l:List Tm} {i:Nat} {t:Tm} (h:l[i]? = some t):(tmsV l)[i * 3]? = some (.int .i64 t.op) ∧ (tmsV l)[i * 3 + 1]? = some (.int .i64 t.n) ∧ (tmsV l)[i * 3 + 2]? = some (.string t.s) :=
 ⟨flat_get (j:=0) tmV_length h (by omega),flat_get (j:=1) tmV_length h (by omega),flat_get (j:=2) tmV_length h (by omega)⟩
def Tms (w:World) (v:Value) (l:List Tm):Prop:=∃ n,n = l.length ∧ Rdk 3 w v n (tmsV l)
theorem Tms.keep {w w':World} {v:Value} {l:List Tm} (h:Tms w v l) (hb:Below w.heap.size w w'):Tms w' v l:=by
 obtain ⟨n,hn,h⟩:=h
 exact ⟨n,hn,h.keep hb⟩
theorem Tms.alloc {w:World} {v:Value} {l:List Tm} (h:Tms w v l) (o:Obj):Tms (w.alloc o) v l:=h.keep ((Below.refl _ _).alloc (Nat.le_refl _) _)
theorem Tms.shape {w:World} {v:Value} {l:List Tm} (h:Tms w v l):∃ A n c,v = .slice A n c ∧ n = l.length ∧ n ≤ c:=by
 obtain ⟨n,hn,A,c,hv,hc,_⟩:=h
 exact ⟨A,n,c,hv,hn,hc⟩
theorem Tms.cap {w:World} {A:Option Addr} {n c:Nat} {l:List Tm} (h:Tms w (.slice A n c) l):n ≤ c:=by
 obtain ⟨A',n',c',heq,_,hc⟩:=h.shape
 cases heq
 exact hc
theorem Tms.at_ {w:World} {A:Option Addr} {n c:Nat} {l:List Tm} {i:Nat} {t:Tm} (h:Tms w (.slice A n c) l) (hi:l[i]? = some t) :
 ∃ b off,A = some ⟨b,off,none⟩ ∧ b < w.heap.size ∧ w.cell? ⟨b,off + i * 3,none⟩ = some (.int .i64 t.op) ∧ w.cell? ⟨b,off + i * 3 + 1,none⟩ = some (.int .i64 t.n) ∧ w.cell? ⟨b,off + i * 3 + 2,none⟩ = some (.string t.s):=by
 obtain ⟨m,hm,A',c',heq,hc,hl,hA⟩:=h
 cases heq
 have:=get_lt hi
 obtain ⟨b,off,rfl,hb,hcell⟩:=hA (by omega)
 obtain ⟨g0,g1,g2⟩:=tmsV_get hi
 exact ⟨b,off,rfl,hb,hcell _ _ g0,by rw [Nat.add_assoc]; exact hcell _ _ g1,by rw [Nat.add_assoc]; exact hcell _ _ g2⟩
theorem tms_drop {l:List Tm} {k:Nat}:tmsV (l.drop k) = (tmsV l).drop (k * 3):=by
 induction l generalizing k with
 | nil => simp [tmsV]
 | cons t r ih =>
   cases k with
   | zero => simp
   | succ k =>
     rw [List.drop_succ_cons,ih,show tmsV (t :: r) = tmV t ++ tmsV r from List.flatMap_cons ..,show (k + 1) * 3 = 3 + k * 3 by omega,← List.drop_drop]
     rfl
theorem tms_take {l:List Tm} {k:Nat}:tmsV (l.take k) = (tmsV l).take (k * 3):=by
 induction l generalizing k with
 | nil => simp [tmsV]
 | cons t r ih =>
   cases k with
   | zero => simp [tmsV]
   | succ k =>
     rw [List.take_succ_cons,show tmsV (t :: r.take k) = tmV t ++ tmsV (r.take k) from List.flatMap_cons ..,ih,show tmsV (t :: r) = tmV t ++ tmsV r from List.flatMap_cons ..,show (k + 1) * 3 = 3 + k * 3 by omega,List.take_append,tmV_length]
     rw [show (tmV t).take (3 + k * 3) = tmV t from List.take_of_length_le (by rw [tmV_length]; omega),Nat.add_sub_cancel_left]
theorem Tms.part {w:World} {b off n c c' i j:Nat} {l:List Tm} (h:Tms w (.slice (some ⟨b,off,none⟩) n c) l) (hij:i ≤ j) (hj:j ≤ n) (hc:j - i ≤ c'):Tms w (.slice (some ⟨b,off + i * 3,none⟩) (j - i) c') ((l.drop i).take (j - i)):=by
 obtain ⟨m,hm,A',c2,heq,hcm,hl,hA⟩:=h
 cases heq
 refine ⟨j - i,by rw [List.length_take,List.length_drop]; omega,_,c',rfl,hc,by rw [tmsV_length,List.length_take,List.length_drop]; rw [show min (j - i) (l.length - i) = j - i by omega],fun h0 => ?_⟩
 obtain ⟨b',off',heq,hb,hcell⟩:=hA (by omega)
 cases heq
 refine ⟨b,off + i * 3,rfl,hb,fun q u hq => ?_⟩
 rw [tms_take,tms_drop] at hq
 have hq1:q < (j - i) * 3:=by have:=(List.getElem?_eq_some_iff.1 hq).1; rw [List.length_take] at this; omega
 rw [List.getElem?_take_of_lt hq1,List.getElem?_drop] at hq
 rw [Nat.add_assoc]
 exact hcell _ _ hq
def Small (l:List Tm):Prop:=∀ t ∈ l,t.s.size ≤ 9223372036854775807
end Go.Proofs.YtapnomdckglehaaGreat
namespace Go.Proofs.YtapnomdckglehaaGreat
open Go.RowKit TermSpec
set_option maxRecDepth 100000
end Go.Proofs.YtapnomdckglehaaGreat
namespace Go.Proofs.YtapnomdckglehaaGreat
open Go.RowKit TermSpec
end Go.Proofs.YtapnomdckglehaaGreat
namespace Go.Proofs.YtapnomdckglehaaGreat
open Go.RowKit CurSpec
end Go.Proofs.YtapnomdckglehaaGreat