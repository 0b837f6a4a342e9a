/- TermSpec, TermMem, EvalSpec, EvalOps, KitC, EvalMem, ActSpec, ActMem, ActCmp, joined. -/
import Derived.Test.YtckojimeglkobaaGreatDoorMConfFills00
import Derived.Test.YtckojimeglkobaaGreatDoorRows
import Derived.BigQuiet
import Derived.Lib.QuietBelow
import Derived.Lib.Small
namespace Go.Proofs.YtckojimeglkobaaGreatDoor
namespace TermSpec
open NamesSpec
structure Tm where
 op:Int
 n:Int
 s:ByteArray
def ar (o:Int):Int :=
 if o = 1 ∨ o = 2 ∨ o = 9 ∨ o = 10 ∨ o = 11 then 0 else if o = 3 ∨ o = 12 then 1 else if o = 4 ∨ o = 5 ∨ o = 6 ∨ o = 7 ∨ o = 8 ∨ o = 13 ∨ o = 14 ∨ o = 15 ∨ o = 16 ∨ o = 17 ∨ o = 18 ∨ o = 19 ∨ o = 20 then 2 else -1
def arN (o:Int):Nat:=(ar o).toNat
theorem ar_bd (o:Int):-1 ≤ ar o ∧ ar o ≤ 2:=by unfold ar; (repeat' split) <;> omega
theorem arN_of {o:Int} (h:0 ≤ ar o):(arN o:Int) = ar o:=by unfold arN; omega
theorem ar_out {o:Int} (h:o < 1 ∨ 20 < o):ar o = -1:=by unfold ar; rw [if_neg (by omega),if_neg (by omega),if_neg (by omega)]
theorem ar_in {o:Int}:0 ≤ ar o ↔ 1 ≤ o ∧ o ≤ 20:=by unfold ar; (repeat' split) <;> omega
def fin:Nat → List Tm → Nat → Int
 | 0,_,p => p
 | _ + 1,[],_ => -1
 | k + 1,t :: r,p => if ar t.op < 0 then -1 else fin (k + arN t.op) r (p + 1)
def cnt:Nat → List Tm → Option Nat
 | 0,_ => some 0
 | _ + 1,[] => none
 | k + 1,t :: r => if ar t.op < 0 then none else (cnt (k + arN t.op) r).map (· + 1)
theorem cnt_zero (l:List Tm):cnt 0 l = some 0:=by cases l <;> rfl
theorem fin_zero (l:List Tm) (p:Nat):fin 0 l p = p:=by cases l <;> rfl
theorem cnt_cons (k:Nat) (t:Tm) (r:List Tm):cnt (k + 1) (t :: r) = if ar t.op < 0 then none else (cnt (k + arN t.op) r).map (· + 1):=rfl
theorem fin_cons (k:Nat) (t:Tm) (r:List Tm) (p:Nat):fin (k + 1) (t :: r) p = if ar t.op < 0 then -1 else fin (k + arN t.op) r (p + 1):=rfl
theorem cnt_step {k m:Nat} {t:Tm} {r:List Tm} (h:cnt (k + 1) (t :: r) = some m):0 ≤ ar t.op ∧ ∃ m',m = m' + 1 ∧ cnt (k + arN t.op) r = some m':=by
 rw [cnt_cons] at h
 split at h
 ·cases h
 ·cases hc:cnt (k + arN t.op) r with
  | none => rw [hc] at h; cases h
  | some m' => rw [hc] at h; cases h; exact ⟨by omega,m',rfl,rfl⟩
theorem cnt_mk {k m:Nat} {t:Tm} {r:List Tm} (h0:0 ≤ ar t.op) (h:cnt (k + arN t.op) r = some m):cnt (k + 1) (t :: r) = some (m + 1):=by
 rw [cnt_cons,if_neg (by omega),h]; rfl
theorem fin_some:∀ {l:List Tm} {k m p:Nat},cnt k l = some m → fin k l p = (p + m:Nat)
 | l,0,m,p,h => by rw [cnt_zero] at h; cases h; rw [fin_zero]; rfl
 | [],k + 1,m,p,h => by cases h
 | t :: r,k + 1,m,p,h => by
   obtain ⟨h0,m',rfl,h'⟩:=cnt_step h
   rw [fin_cons,if_neg (by omega),fin_some h']
   omega
theorem fin_none:∀ {l:List Tm} {k p:Nat},cnt k l = none → fin k l p = -1
 | l,0,p,h => by rw [cnt_zero] at h; cases h
 | [],k + 1,p,h => rfl
 | t :: r,k + 1,p,h => by
   rw [fin_cons]
   split
   ·rfl
   ·rename_i h0
    refine fin_none ?_
    rw [cnt_cons,if_neg h0] at h
    simpa using h
theorem cnt_le:∀ {l:List Tm} {k m:Nat},cnt k l = some m → m ≤ l.length ∧ k ≤ m
 | l,0,m,h => by rw [cnt_zero] at h; cases h; exact ⟨Nat.zero_le _,Nat.le_refl _⟩
 | [],k + 1,m,h => by cases h
 | t :: r,k + 1,m,h => by
   obtain ⟨h0,m',rfl,h'⟩:=cnt_step h
   have:=cnt_le h'
   simp only [List.length_cons]
   omega
theorem cnt_add:∀ (l:List Tm) (a b:Nat),cnt (a + b) l = (cnt a l).bind fun m => (cnt b (l.drop m)).map (m + ·)
 | l,0,b => by rw [cnt_zero,Nat.zero_add]; simp
 | [],a + 1,b => by rw [show a + 1 + b = (a + b) + 1 by omega]; rfl
 | t :: r,a + 1,b => by
   rw [show a + 1 + b = (a + b) + 1 by omega,cnt_cons,cnt_cons]
   split
   ·rfl
   ·rw [show a + b + arN t.op = a + arN t.op + b by omega,cnt_add r (a + arN t.op) b]
    cases cnt (a + arN t.op) r with
    | none => rfl
    | some m =>
      simp only [Option.map_some,Option.bind_some,List.drop_succ_cons,Option.map_map]
      congr 1
      funext x
      simp only [Function.comp]
      omega
theorem cnt_split {l:List Tm} {a b m:Nat} (h:cnt (a + b) l = some m):∃ x y,cnt a l = some x ∧ cnt b (l.drop x) = some y ∧ m = x + y:=by
 rw [cnt_add] at h
 cases ha:cnt a l with
 | none => rw [ha] at h; cases h
 | some x =>
   rw [ha] at h
   simp only [Option.bind_some] at h
   cases hb:cnt b (l.drop x) with
   | none => rw [hb] at h; cases h
   | some y => rw [hb] at h; cases h; exact ⟨x,y,rfl,hb,rfl⟩
theorem cnt_join {l:List Tm} {a b x y:Nat} (h:cnt a l = some x) (h':cnt b (l.drop x) = some y):cnt (a + b) l = some (x + y):=by
 rw [cnt_add,h,Option.bind_some,h']; rfl
theorem cnt_stop {l:List Tm} {a b x:Nat} (h:cnt a l = some x) (h':cnt b (l.drop x) = none):cnt (a + b) l = none:=by
 rw [cnt_add,h,Option.bind_some,h']; rfl
theorem cnt_none {l:List Tm} {a:Nat} (h:cnt a l = none) (b:Nat):cnt (a + b) l = none:=by rw [cnt_add,h]; rfl
theorem cnt_valid:∀ {l:List Tm} {k m:Nat},cnt k l = some m → ∀ t ∈ l.take m,0 ≤ ar t.op
 | l,0,m,h => by rw [cnt_zero] at h; cases h; simp
 | [],k + 1,m,h => by cases h
 | t :: r,k + 1,m,h => by
   obtain ⟨h0,m',rfl,h'⟩:=cnt_step h
   intro u hu
   rw [List.take_succ_cons,List.mem_cons] at hu
   rcases hu with rfl | hu
   ·exact h0
   ·exact cnt_valid h' u hu
def stack {α:Type} (f:Int → List α → α):List Tm → List α
 | [] => []
 | t :: r => f t.op ((stack f r).take (arN t.op)) :: (stack f r).drop (arN t.op)
section
variable {α:Type} {f:Int → List α → α}
theorem stack_cons (t:Tm) (r:List Tm):stack f (t :: r) = f t.op ((stack f r).take (arN t.op)) :: (stack f r).drop (arN t.op):=rfl
theorem stack_drop:∀ {l:List Tm} {k m:Nat},cnt k l = some m → stack f (l.drop m) = (stack f l).drop k
 | l,0,m,h => by rw [cnt_zero] at h; cases h; rfl
 | [],k + 1,m,h => by cases h
 | t :: r,k + 1,m,h => by
   obtain ⟨h0,m',rfl,h'⟩:=cnt_step h
   rw [List.drop_succ_cons,stack_drop h',stack_cons,List.drop_succ_cons,List.drop_drop,Nat.add_comm]
theorem stack_len:∀ {l:List Tm} {k m:Nat},cnt k l = some m → k ≤ (stack f l).length
 | l,0,m,h => Nat.zero_le _
 | [],k + 1,m,h => by cases h
 | t :: r,k + 1,m,h => by
   obtain ⟨h0,m',rfl,h'⟩:=cnt_step h
   have:=stack_len h'
   rw [stack_cons,List.length_cons,List.length_drop]
   omega
end
def come (f:Int → List Int → Int) (l:List Tm):Int:=(stack f l).headD 0
section
variable {f:Int → List Int → Int}
theorem come_cons (t:Tm) (r:List Tm):come f (t :: r) = f t.op ((stack f r).take (arN t.op)):=rfl
theorem stack_get {l:List Tm} {k m:Nat} (h:cnt (k + 1) l = some m):∃ x,cnt k l = some x ∧ (stack f l)[k]? = some (come f (l.drop x)):=by
 obtain ⟨x,y,hx,hy,_⟩:=cnt_split h
 refine ⟨x,hx,?_⟩
 have h1:=stack_len (f:=f) h
 rw [come,stack_drop hx]
 have h2:k < (stack f l).length:=by omega
 rw [List.getElem?_eq_getElem h2,List.drop_eq_getElem_cons h2]
 rfl
theorem stack_take_next {l:List Tm} {k m x:Nat} (h:cnt (k + 1) l = some m) (hx:cnt k l = some x):(stack f l).take (k + 1) = (stack f l).take k ++ [come f (l.drop x)]:=by
 obtain ⟨x',hx',hg⟩:=stack_get (f:=f) h
 rw [hx] at hx'
 cases hx'
 exact take_next hg
end
def belows (l:List Tm) (at_ k:Nat):List Int:=(List.range k).map fun i => ((at_ + 1 + (cnt i (l.drop (at_ + 1))).getD 0:Nat):Int)
theorem belows_length (l:List Tm) (a k:Nat):(belows l a k).length = k:=by simp [belows]
theorem belows_get {l:List Tm} {a k i:Nat} (h:i < k):(belows l a k)[i]? = some ((a + 1 + (cnt i (l.drop (a + 1))).getD 0:Nat):Int):=by
 simp [belows,h]
theorem belows_next (l:List Tm) (a k:Nat):belows l a (k + 1) = belows l a k ++ [((a + 1 + (cnt k (l.drop (a + 1))).getD 0:Nat):Int)]:=by
 unfold belows
 rw [List.range_succ,List.map_append]
 rfl
def endA (l:List Tm) (a:Int):Int:=if a < 0 then -1 else fin 1 (l.drop a.toNat) a.toNat
theorem endA_neg {l:List Tm} {a:Int} (h:a < 0):endA l a = -1:=if_pos h
theorem endA_nat (l:List Tm) (a:Nat):endA l a = fin 1 (l.drop a) a:=by unfold endA; rw [if_neg (by omega)]; rfl
theorem endA_out {l:List Tm} {a:Int} (h:(l.length:Int) ≤ a):endA l a = -1:=by
 unfold endA
 rw [if_neg (by omega),List.drop_eq_nil_of_le (by omega)]
 rfl
theorem drop_get {l:List Tm} {a:Nat} {t:Tm} (h:l[a]? = some t):l.drop a = t :: l.drop (a + 1):=by
 obtain ⟨ha,rfl⟩:=List.getElem?_eq_some_iff.1 h
 exact List.drop_eq_getElem_cons ha
theorem endA_bad {l:List Tm} {a:Nat} {t:Tm} (h:l[a]? = some t) (h0:ar t.op < 0):endA l a = -1:=by
 rw [endA_nat,drop_get h,fin_cons,if_pos h0]
theorem endA_at {l:List Tm} {a:Nat} {t:Tm} (h:l[a]? = some t) (h0:0 ≤ ar t.op):endA l a = fin (arN t.op) (l.drop (a + 1)) (a + 1):=by
 rw [endA_nat,drop_get h,fin_cons,if_neg (by omega),Nat.zero_add]
theorem endA_some {l:List Tm} {a m:Nat} (h:cnt 1 (l.drop a) = some m):endA l a = (a + m:Nat):=by rw [endA_nat,fin_some h]
theorem endA_none {l:List Tm} {a:Nat} (h:cnt 1 (l.drop a) = none):endA l a = -1:=by rw [endA_nat,fin_none h]
theorem endA_nn {l:List Tm} {a:Int} (h:0 ≤ endA l a):∃ k m:Nat,a = k ∧ cnt 1 (l.drop k) = some m ∧ endA l a = (k + m:Nat) ∧ 0 < m ∧ k + m ≤ l.length:=by
 by_cases h0:a < 0
 ·rw [endA_neg h0] at h; omega
 ·obtain ⟨k,rfl⟩:=Int.eq_ofNat_of_zero_le (Int.not_lt.1 h0)
  cases hc:cnt 1 (l.drop k) with
  | none => rw [show ((k:Nat):Int) = (k:Int) from rfl,endA_none hc] at h; omega
  | some m =>
    have:=cnt_le hc
    rw [List.length_drop] at this
    exact ⟨k,m,rfl,hc,endA_some hc,by omega,by omega⟩
theorem first_of {l:List Tm} {a m:Nat} (h:cnt 1 (l.drop a) = some m):∃ t m',l[a]? = some t ∧ 0 ≤ ar t.op ∧ m = m' + 1 ∧ cnt (arN t.op) (l.drop (a + 1)) = some m':=by
 cases hd:l.drop a with
 | nil => rw [hd] at h; cases h
 | cons t r =>
   have ha:a < l.length:=by
    rcases Nat.lt_or_ge a l.length with h | h
    ·exact h
    ·rw [List.drop_eq_nil_of_le h] at hd; cases hd
   rw [List.drop_eq_getElem_cons ha] at hd
   injection hd with h1 h2
   subst h1; subst h2
   rw [List.drop_eq_getElem_cons ha] at h
   obtain ⟨h0,m',rfl,h'⟩:=cnt_step h
   exact ⟨_,m',List.getElem?_eq_getElem ha,h0,rfl,by rwa [Nat.zero_add] at h'⟩
def deepest (bs:List Int):Int:=bs.foldl (fun a b => if a < b then b else a) 0
theorem deepest_snoc (bs:List Int) (d:Int):deepest (bs ++ [d]) = if deepest bs < d then d else deepest bs:=by unfold deepest; rw [List.foldl_append]; rfl
def depF (_:Int) (bs:List Int):Int:=deepest bs + 1
theorem deepest_bd {B:Int} (hB:0 ≤ B) (bs:List Int) (h:∀ b ∈ bs,b ≤ B):0 ≤ deepest bs ∧ deepest bs ≤ B:=by
 unfold deepest
 have key:∀ (bs:List Int) (a:Int),0 ≤ a → a ≤ B → (∀ b ∈ bs,b ≤ B) → 0 ≤ bs.foldl (fun a b => if a < b then b else a) a ∧ bs.foldl (fun a b => if a < b then b else a) a ≤ B:=by
  intro bs
  induction bs with
  | nil => intro a h0 h1 _; exact ⟨h0,h1⟩
  | cons b t ih =>
    intro a h0 h1 h2
    have hb:=h2 b (by simp)
    rw [List.foldl_cons]
    refine ih _ ?_ ?_ (fun c hc => h2 c (by simp [hc]))
    ·split <;> omega
    ·split <;> omega
 exact key bs 0 (Int.le_refl 0) hB h
theorem stack_depth:∀ (l:List Tm),∀ d ∈ stack depF l,1 ≤ d ∧ d ≤ l.length
 | [] => by simp [stack]
 | t :: r => by
   intro d hd
   have ih:=stack_depth r
   rw [stack_cons,List.mem_cons] at hd
   rw [List.length_cons]
   rcases hd with rfl | hd
   ·have:=deepest_bd (B:=r.length) (by omega) ((stack depF r).take (arN t.op)) (fun b hb => (ih b (List.mem_of_mem_take hb)).2)
    have e:depF t.op ((stack depF r).take (arN t.op)) = deepest ((stack depF r).take (arN t.op)) + 1:=rfl
    omega
   ·have:=ih d (List.mem_of_mem_drop hd)
    omega
theorem come_depth {l:List Tm} {m:Nat} (h:cnt 1 l = some m):1 ≤ come depF l ∧ come depF l ≤ l.length:=by
 have h1:=stack_len (f:=depF) h
 cases hs:stack depF l with
 | nil => rw [hs] at h1; simp at h1
 | cons d t =>
   have:=stack_depth l d (by rw [hs]; simp)
   rw [come,hs]
   exact this
def ownT (o:Int):Int:=if o = 1 ∨ o = 2 ∨ o = 3 ∨ o = 4 ∨ o = 5 ∨ o = 6 ∨ o = 7 ∨ o = 8 then 1 else 2
def askT (o:Int):Int:=if o = 1 ∨ o = 2 ∨ o = 3 ∨ o = 4 ∨ o = 5 ∨ o = 6 ∨ o = 7 ∨ o = 8 ∨ o = 13 ∨ o = 14 ∨ o = 15 ∨ o = 16 ∨ o = 17 ∨ o = 18 then 1 else 2
def typF (o:Int) (bs:List Int):Int:=if bs.all (fun b => decide (b = askT o)) then ownT o else 0
def wholeB (l:List Tm):Bool:=decide (l.length ≤ 40) && decide (cnt 1 l = some l.length)
theorem wholeB_iff {l:List Tm}:wholeB l = true ↔ l.length ≤ 40 ∧ cnt 1 l = some l.length:=by simp [wholeB]
def tell (f:Int → List Int → Int) (l:List Tm):Int:=if wholeB l then come f l else 0
def depth (l:List Tm):Int:=tell depF l
def typ (l:List Tm):Int:=tell typF l
theorem depth_zero {l:List Tm}:(depth l = 0) ↔ wholeB l = false:=by
 unfold depth tell
 cases h:wholeB l with
 | false => simp
 | true =>
   have:=come_depth (wholeB_iff.1 h).2
   simp
   omega
def mayB (t:Tm):Bool :=
 (if t.op = 1 then decide (0 ≤ t.n) && decide (t.n ≤ 1000000) else decide (t.n = 0)) && (if t.op = 2 ∨ t.op = 11 then isName t.s.data.toList else decide (t.s.size = 0))
def chk (l:List Tm):Int :=
 if 40 < l.length then 8 else if wholeB l = false then 1 else if l.all mayB = false then 1 else if 12 < depth l then 6 else 0
theorem chk_ok {l:List Tm} (h:chk l = 0):wholeB l = true ∧ l.all mayB = true ∧ depth l ≤ 12:=by
 unfold chk at h
 split at h
 ·omega
 split at h
 ·omega
 rename_i h1
 split at h
 ·omega
 rename_i h2
 split at h
 ·omega
 rename_i h3
 exact ⟨by simpa using h1,by simpa using h2,by omega⟩
def namesOf (l:List Tm) (o:Int):List ByteArray:=(l.filter fun t => decide (t.op = o)).map (·.s)
theorem namesOf_yes {l:List Tm} {o:Int} {k:Nat} {t:Tm} (h:l[k]? = some t) (he:t.op = o):namesOf (l.take (k + 1)) o = namesOf (l.take k) o ++ [t.s]:=by
 unfold namesOf; rw [take_next h,List.filter_append,List.map_append]; simp [he]
theorem namesOf_no {l:List Tm} {o:Int} {k:Nat} {t:Tm} (h:l[k]? = some t) (he:t.op ≠ o):namesOf (l.take (k + 1)) o = namesOf (l.take k) o:=by
 unfold namesOf; rw [take_next h,List.filter_append,List.map_append]; simp [he]
theorem namesOf_length (l:List Tm) (o:Int):(namesOf l o).length ≤ l.length:=by
 unfold namesOf; rw [List.length_map]; exact List.length_filter_le _ _
end TermSpec
end Go.Proofs.YtckojimeglkobaaGreatDoor
namespace Go.Proofs.YtckojimeglkobaaGreatDoor
open Go.RowKit TermSpec
set_option maxRecDepth 100000
def tmV (t:Tm):List Value:=[.int .i64 t.op,.int .i64 t.n,.string t.s]
def tmsV (l:List Tm):List Value:=l.flatMap tmV
theorem tmV_length (t:Tm):(tmV t).length = 3:=rfl
theorem tmsV_length (l:List Tm):(tmsV l).length = l.length * 3:=flat_length tmV_length l
theorem tmV_one (t:Tm):∀ u ∈ tmV t,u.oneCell' = true:=by simp [tmV,Value.oneCell']
theorem tmsV_one (l:List Tm):∀ u ∈ tmsV l,u.oneCell' = true:=by
 intro u hu
 obtain ⟨t,_,h⟩:=List.mem_flatMap.1 hu
 exact tmV_one t u h
theorem tmsV_get {l:List Tm} {i:Nat} {t:Tm} (h:l[i]? = some t):(tmsV l)[i * 3]? = some (.int .i64 t.op) ∧ (tmsV l)[i * 3 + 1]? = some (.int .i64 t.n) ∧ (tmsV l)[i * 3 + 2]? = some (.string t.s) :=
 ⟨flat_get (j:=0) tmV_length h (by omega),flat_get (j:=1) tmV_length h (by omega),flat_get (j:=2) tmV_length h (by omega)⟩
def Tms (w:World) (v:Value) (l:List Tm):Prop:=∃ n,n = l.length ∧ Rdk 3 w v n (tmsV l)
theorem Tms.keep {w w':World} {v:Value} {l:List Tm} (h:Tms w v l) (hb:Below w.heap.size w w'):Tms w' v l:=by
 obtain ⟨n,hn,h⟩:=h
 exact ⟨n,hn,h.keep hb⟩
theorem Tms.alloc {w:World} {v:Value} {l:List Tm} (h:Tms w v l) (o:Obj):Tms (w.alloc o) v l:=h.keep ((Below.refl _ _).alloc (Nat.le_refl _) _)
theorem Tms.shape {w:World} {v:Value} {l:List Tm} (h:Tms w v l):∃ A n c,v = .slice A n c ∧ n = l.length ∧ n ≤ c:=by
 obtain ⟨n,hn,A,c,hv,hc,_⟩:=h
 exact ⟨A,n,c,hv,hn,hc⟩
theorem Tms.cap {w:World} {A:Option Addr} {n c:Nat} {l:List Tm} (h:Tms w (.slice A n c) l):n ≤ c:=by
 obtain ⟨A',n',c',heq,_,hc⟩:=h.shape
 cases heq
 exact hc
theorem Tms.at_ {w:World} {A:Option Addr} {n c:Nat} {l:List Tm} {i:Nat} {t:Tm} (h:Tms w (.slice A n c) l) (hi:l[i]? = some t) :
 ∃ b off,A = some ⟨b,off,none⟩ ∧ b < w.heap.size ∧ w.cell? ⟨b,off + i * 3,none⟩ = some (.int .i64 t.op) ∧ w.cell? ⟨b,off + i * 3 + 1,none⟩ = some (.int .i64 t.n) ∧ w.cell? ⟨b,off + i * 3 + 2,none⟩ = some (.string t.s):=by
 obtain ⟨m,hm,A',c',heq,hc,hl,hA⟩:=h
 cases heq
 have:=get_lt hi
 obtain ⟨b,off,rfl,hb,hcell⟩:=hA (by omega)
 obtain ⟨g0,g1,g2⟩:=tmsV_get hi
 exact ⟨b,off,rfl,hb,hcell _ _ g0,by rw [Nat.add_assoc]; exact hcell _ _ g1,by rw [Nat.add_assoc]; exact hcell _ _ g2⟩
theorem tms_drop {l:List Tm} {k:Nat}:tmsV (l.drop k) = (tmsV l).drop (k * 3):=by
 induction l generalizing k with
 | nil => simp [tmsV]
 | cons t r ih =>
   cases k with
   | zero => simp
   | succ k =>
     rw [List.drop_succ_cons,ih,show tmsV (t :: r) = tmV t ++ tmsV r from List.flatMap_cons ..,show (k + 1) * 3 = 3 + k * 3 by omega,← List.drop_drop]
     rfl
theorem tms_take {l:List Tm} {k:Nat}:tmsV (l.take k) = (tmsV l).take (k * 3):=by
 induction l generalizing k with
 | nil => simp [tmsV]
 | cons t r ih =>
   cases k with
   | zero => simp [tmsV]
   | succ k =>
     rw [List.take_succ_cons,show tmsV (t :: r.take k) = tmV t ++ tmsV (r.take k) from List.flatMap_cons ..,ih,show tmsV (t :: r) = tmV t ++ tmsV r from List.flatMap_cons ..,show (k + 1) * 3 = 3 + k * 3 by omega,List.take_append,tmV_length]
     rw [show (tmV t).take (3 + k * 3) = tmV t from List.take_of_length_le (by rw [tmV_length]; omega),Nat.add_sub_cancel_left]
theorem Tms.part {w:World} {b off n c c' i j:Nat} {l:List Tm} (h:Tms w (.slice (some ⟨b,off,none⟩) n c) l) (hij:i ≤ j) (hj:j ≤ n) (hc:j - i ≤ c'):Tms w (.slice (some ⟨b,off + i * 3,none⟩) (j - i) c') ((l.drop i).take (j - i)):=by
 obtain ⟨m,hm,A',c2,heq,hcm,hl,hA⟩:=h
 cases heq
 refine ⟨j - i,by rw [List.length_take,List.length_drop]; omega,_,c',rfl,hc,by rw [tmsV_length,List.length_take,List.length_drop]; rw [show min (j - i) (l.length - i) = j - i by omega],fun h0 => ?_⟩
 obtain ⟨b',off',heq,hb,hcell⟩:=hA (by omega)
 cases heq
 refine ⟨b,off + i * 3,rfl,hb,fun q u hq => ?_⟩
 rw [tms_take,tms_drop] at hq
 have hq1:q < (j - i) * 3:=by have:=(List.getElem?_eq_some_iff.1 hq).1; rw [List.length_take] at this; omega
 rw [List.getElem?_take_of_lt hq1,List.getElem?_drop] at hq
 rw [Nat.add_assoc]
 exact hcell _ _ hq
def Small (l:List Tm):Prop:=∀ t ∈ l,t.s.size ≤ 9223372036854775807
end Go.Proofs.YtckojimeglkobaaGreatDoor
namespace Go.Proofs.YtckojimeglkobaaGreatDoor
namespace EvalSpec
open TermSpec NamesSpec ValSpec Go.Lib
structure Vr where
 s:ByteArray
 lo:Int
 hi:Int
 ini:Int
structure Ev where
 vars:List Vr
 v0:Int
 v1:Int
 v2:Int
 v3:Int
 ins:List ByteArray
def vnames (e:Ev):List ByteArray:=e.vars.map (·.s)
def valAt (e:Ev) (p:Int):Int:=if p = 0 then e.v0 else if p = 1 then e.v1 else if p = 2 then e.v2 else e.v3
def tru (b:Bool):Int:=if b then 1 else 0
def ev1 (o x:Int):Int:=if o = 3 then 0 - x else tru (x == 0)
def ev0 (e:Ev) (t:Tm):Int:=if t.op = 1 then t.n else if t.op = 2 then near (valAt e (idxOfS (vnames e) t.s)) else if t.op = 11 then tru (decide (0 ≤ idxOfS e.ins t.s)) else tru (t.op == 9)
section
variable {e:Ev}
end
section
variable {e:Ev}
end
end EvalSpec
end Go.Proofs.YtckojimeglkobaaGreatDoor
namespace Go.Proofs.YtckojimeglkobaaGreatDoor
open Go.RowKit TermSpec EvalSpec ValSpec
end Go.Proofs.YtckojimeglkobaaGreatDoor
namespace Go.Proofs.YtckojimeglkobaaGreatDoor
namespace KitC
open Go.RowKit
theorem below_one (w:World) (o:Obj):Below w.heap.size w (w.alloc o):=(Below.refl _ _).alloc (Nat.le_refl _) _
theorem below_pair (w:World) (o p:Obj):Below w.heap.size w ((w.alloc o).alloc p):=((Below.refl _ _).alloc (Nat.le_refl _) _).alloc (by simp) _
theorem pair_blocks {w w2:World} {o p:Obj} (hb:Below ((w.alloc o).alloc p).heap.size ((w.alloc o).alloc p) w2) :
 w2.heap[w.heap.size]? = some o ∧ w2.heap[w.heap.size + 1]? = some p ∧ Below w.heap.size w w2 ∧ w.heap.size + 1 < w2.heap.size:=by
 have hz:=hb.size
 simp only [World.size_alloc] at hz
 refine ⟨(hb.block _ (by simp; omega)).trans ((heap_alloc_old _ _ (by simp)).trans (heap_alloc_new _ _)),(hb.block _ (by simp)).trans ?_,?_,by omega⟩
 ·have:=heap_alloc_new (w.alloc o) p
  rwa [World.size_alloc] at this
 ·exact (below_pair w o p).trans (hb.mono (by simp; omega))
theorem one_block {w w2:World} {o:Obj} (hb:Below (w.alloc o).heap.size (w.alloc o) w2):w2.heap[w.heap.size]? = some o ∧ Below w.heap.size w w2 ∧ w.heap.size < w2.heap.size:=by
 have hz:=hb.size
 simp only [World.size_alloc] at hz
 exact ⟨(hb.block _ (by simp)).trans (heap_alloc_new _ _),((Below.refl _ _).alloc (Nat.le_refl _) _).trans (hb.mono (by simp)),by omega⟩
theorem block_on {w w2:World} {b:Nat} {o:Obj} (h:w.heap[b]? = some o) (hb:Below w.heap.size w w2):w2.heap[b]? = some o:=(hb.block b (Array.getElem?_eq_some_iff.1 h).1).trans h
end KitC
end Go.Proofs.YtckojimeglkobaaGreatDoor
namespace Go.Proofs.YtckojimeglkobaaGreatDoor
open Go.RowKit TermSpec EvalSpec NamesSpec Go.Lib
structure EP where
 vA:Option Addr
 vn:Nat
 vc:Nat
 iA:Option Addr
 im:Nat
 ic:Nat
def vrV (v:Vr):List Value:=[.string v.s,.int .i64 v.lo,.int .i64 v.hi,.int .i64 v.ini]
def vrsV (l:List Vr):List Value:=l.flatMap vrV
theorem vrV_length (v:Vr):(vrV v).length = 4:=rfl
theorem vrsV_get {l:List Vr} {i:Nat} {v:Vr} (h:l[i]? = some v):(vrsV l)[i * 4]? = some (.string v.s) ∧ (vrsV l)[i * 4 + 1]? = some (.int .i64 v.lo) ∧ (vrsV l)[i * 4 + 2]? = some (.int .i64 v.hi) ∧ (vrsV l)[i * 4 + 3]? = some (.int .i64 v.ini) :=
 ⟨flat_get (j:=0) vrV_length h (by omega),flat_get (j:=1) vrV_length h (by omega),flat_get (j:=2) vrV_length h (by omega),flat_get (j:=3) vrV_length h (by omega)⟩
def VarsIn (w:World) (A:Option Addr) (n c:Nat) (l:List Vr):Prop:=n = l.length ∧ Rdk 4 w (.slice A n c) n (vrsV l)
theorem VarsIn.keep {w w':World} {A:Option Addr} {n c:Nat} {l:List Vr} (h:VarsIn w A n c l) (hb:Below w.heap.size w w'):VarsIn w' A n c l:=⟨h.1,h.2.keep hb⟩
theorem VarsIn.at_ {w:World} {A:Option Addr} {n c:Nat} {l:List Vr} {i:Nat} {v:Vr} (h:VarsIn w A n c l) (hi:l[i]? = some v) :
 ∃ b off,A = some ⟨b,off,none⟩ ∧ b < w.heap.size ∧ w.cell? ⟨b,off + i * 4,none⟩ = some (.string v.s) ∧ w.cell? ⟨b,off + i * 4 + 1,none⟩ = some (.int .i64 v.lo) ∧ w.cell? ⟨b,off + i * 4 + 2,none⟩ = some (.int .i64 v.hi) ∧ w.cell? ⟨b,off + i * 4 + 3,none⟩ = some (.int .i64 v.ini):=by
 obtain ⟨hn,A',c',heq,hc,hl,hA⟩:=h
 cases heq
 have:=get_lt hi
 obtain ⟨b,off,rfl,hb,hcell⟩:=hA (by omega)
 obtain ⟨g0,g1,g2,g3⟩:=vrsV_get hi
 exact ⟨b,off,rfl,hb,hcell _ _ g0,by rw [Nat.add_assoc]; exact hcell _ _ g1,by rw [Nat.add_assoc]; exact hcell _ _ g2,by rw [Nat.add_assoc]; exact hcell _ _ g3⟩
theorem VarsIn.cap {w:World} {A:Option Addr} {n c:Nat} {l:List Vr} (h:VarsIn w A n c l):n ≤ c:=by
 obtain ⟨hn,A',c',heq,hc,hl,hA⟩:=h
 cases heq
 exact hc
structure EnvIn (w:World) (p:EP) (e:Ev):Prop where
 vars:VarsIn w p.vA p.vn p.vc e.vars
 ins:Rd w (.slice p.iA p.im p.ic) (strV e.ins)
 vbd:e.vars.length ≤ 9223372036854775807
 ibd:e.ins.length ≤ 9223372036854775807
theorem EnvIn.keep {w w':World} {p:EP} {e:Ev} (h:EnvIn w p e) (hb:Below w.heap.size w w'):EnvIn w' p e:=⟨h.vars.keep hb,h.ins.keep hb,h.vbd,h.ibd⟩
end Go.Proofs.YtckojimeglkobaaGreatDoor
namespace Go.Proofs.YtckojimeglkobaaGreatDoor
namespace ActSpec
open TermSpec NamesSpec ValSpec EvalSpec Go.Lib
structure Ac where
 s:ByteArray
 any:Bool
 x:List Tm
def oneA (a:Ac):Int:=if isName a.s.data.toList = false then 1 else if a.any = false then chk a.x else if a.x.length = 0 then 0 else 1
def firstA:List Ac → Int
 | [] => 0
 | a :: r => if oneA a = 0 then firstA r else oneA a
def chkA (l:List Ac):Int:=if 8 < l.length then 8 else firstA l
theorem firstA_stop {l:List Ac} {k:Nat} {a:Ac} (h:l[k]? = some a) (h0:firstA (l.take k) = 0) (h1:oneA a ≠ 0):firstA l = oneA a:=by
 induction l generalizing k with
 | nil => simp at h
 | cons b r ih =>
   cases k with
   | zero =>
     simp at h
     subst h
     unfold firstA
     rw [if_neg h1]
   | succ k =>
     rw [List.take_succ_cons] at h0
     unfold firstA at h0 ⊢
     split at h0
     ·rename_i hb
      rw [if_pos hb]
      exact ih (by simpa using h) h0
     ·rename_i hb
      exact absurd h0 hb
theorem firstA_next {l:List Ac} {k:Nat} {a:Ac} (h:l[k]? = some a) (h0:firstA (l.take k) = 0) (h1:oneA a = 0):firstA (l.take (k + 1)) = 0:=by
 induction l generalizing k with
 | nil => simp at h
 | cons b r ih =>
   cases k with
   | zero =>
     simp at h
     subst h
     simp [firstA,h1]
   | succ k =>
     rw [List.take_succ_cons] at h0 ⊢
     unfold firstA at h0 ⊢
     split at h0
     ·rename_i hb
      rw [if_pos hb]
      exact ih (by simpa using h) h0
     ·rename_i hb
      exact absurd h0 hb
theorem firstA_all {l:List Ac} (h:firstA l = 0):∀ a ∈ l,oneA a = 0:=by
 induction l with
 | nil => simp
 | cons b r ih =>
   unfold firstA at h
   split at h
   ·rename_i hb
    intro a ha
    rcases List.mem_cons.1 ha with rfl | ha
    ·exact hb
    ·exact ih h a ha
   ·rename_i hb
    exact absurd h hb
structure V4 where
 a:Int
 b:Int
 c:Int
 d:Int
 deriving DecidableEq
def V4.get (x:V4) (i:Nat):Int:=if i = 0 then x.a else if i = 1 then x.b else if i = 2 then x.c else x.d
def V4.set (x:V4) (i:Nat) (n:Int):V4:=if i = 0 then { x with a:=n } else if i = 1 then { x with b:=n } else if i = 2 then { x with c:=n } else { x with d:=n }
def lessV (x y:V4):Bool:=if x.a ≠ y.a then decide (x.a < y.a) else if x.b ≠ y.b then decide (x.b < y.b) else if x.c ≠ y.c then decide (x.c < y.c) else decide (x.d < y.d)
def ahead (x:V4):List V4 → Nat
 | [] => 0
 | y :: r => if lessV y x then ahead x r + 1 else 0
end ActSpec
end Go.Proofs.YtckojimeglkobaaGreatDoor
namespace Go.Proofs.YtckojimeglkobaaGreatDoor
open Go.RowKit Go.Sort TermSpec EvalSpec ActSpec
set_option maxRecDepth 100000
def v4V (x:V4):List Value:=[.int .i64 x.a,.int .i64 x.b,.int .i64 x.c,.int .i64 x.d]
def v4sV (l:List V4):List Value:=l.flatMap v4V
theorem v4V_length (x:V4):(v4V x).length = 4:=rfl
theorem v4sV_append (a b:List V4):v4sV a ++ v4sV b = v4sV (a ++ b):=by unfold v4sV; rw [List.flatMap_append]
theorem v4sV_get {l:List V4} {i:Nat} {x:V4} (h:l[i]? = some x):(v4sV l)[i * 4]? = some (.int .i64 x.a) ∧ (v4sV l)[i * 4 + 1]? = some (.int .i64 x.b) ∧ (v4sV l)[i * 4 + 2]? = some (.int .i64 x.c) ∧ (v4sV l)[i * 4 + 3]? = some (.int .i64 x.d) :=
 ⟨flat_get (j:=0) v4V_length h (by omega),flat_get (j:=1) v4V_length h (by omega),flat_get (j:=2) v4V_length h (by omega),flat_get (j:=3) v4V_length h (by omega)⟩
abbrev v4A (x:V4):Value:=.agg #[.int .i64 x.a,.int .i64 x.b,.int .i64 x.c,.int .i64 x.d]
def V4s (w:World) (v:Value) (l:List V4):Prop:=∃ n,n = l.length ∧ Rdk 4 w v n (v4sV l)
theorem V4s.keep {w w':World} {v:Value} {l:List V4} (h:V4s w v l) (hb:Below w.heap.size w w'):V4s w' v l:=by
 obtain ⟨n,hn,h⟩:=h
 exact ⟨n,hn,h.keep hb⟩
theorem V4s.shape {w:World} {v:Value} {l:List V4} (h:V4s w v l):∃ A n c,v = .slice A n c ∧ n = l.length ∧ n ≤ c:=by
 obtain ⟨n,hn,A,c,hv,hc,_⟩:=h
 exact ⟨A,n,c,hv,hn,hc⟩
theorem V4s.at_ {w:World} {A:Option Addr} {n c:Nat} {l:List V4} {i:Nat} {x:V4} (h:V4s w (.slice A n c) l) (hi:l[i]? = some x) :
 ∃ b off,A = some ⟨b,off,none⟩ ∧ b < w.heap.size ∧ w.cell? ⟨b,off + i * 4,none⟩ = some (.int .i64 x.a) ∧ w.cell? ⟨b,off + i * 4 + 1,none⟩ = some (.int .i64 x.b) ∧ w.cell? ⟨b,off + i * 4 + 2,none⟩ = some (.int .i64 x.c) ∧ w.cell? ⟨b,off + i * 4 + 3,none⟩ = some (.int .i64 x.d):=by
 obtain ⟨m,hm,A',c',heq,hc,hl,hA⟩:=h
 cases heq
 have:=get_lt hi
 obtain ⟨b,off,rfl,hb,hcell⟩:=hA (by omega)
 obtain ⟨g0,g1,g2,g3⟩:=v4sV_get hi
 exact ⟨b,off,rfl,hb,hcell _ _ g0,by rw [Nat.add_assoc]; exact hcell _ _ g1,by rw [Nat.add_assoc]; exact hcell _ _ g2,by rw [Nat.add_assoc]; exact hcell _ _ g3⟩
end Go.Proofs.YtckojimeglkobaaGreatDoor
namespace Go.Proofs.YtckojimeglkobaaGreatDoor
open Go.RowKit Go.Sort TermSpec EvalSpec ActSpec
set_option maxRecDepth 100000
abbrev v4O (x:V4):Obj:=.cells #[.int .i64 x.a,.int .i64 x.b,.int .i64 x.c,.int .i64 x.d] 28
end Go.Proofs.YtckojimeglkobaaGreatDoor