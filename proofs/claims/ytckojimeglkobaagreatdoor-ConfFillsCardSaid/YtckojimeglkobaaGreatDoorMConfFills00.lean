/- ValSpec, ValCalls, Kit, KitN, KitB, NamesSpec, NamesPlace, Posts, joined. -/
import Derived.Test.YtckojimeglkobaaGreatDoorRows
import Derived.WalkKit
import Derived.WalkSpells
import Derived.WalkLawsBesides
import Derived.Lib.Hide
import Derived.Lib.SlicesS
import Derived.Maps.AppendAt
import Derived.Deep.AppendLies
import Derived.Deep.Draws
import Derived.Sort.OwnSorted
import Derived.LoopTactic
import Derived.Lib.SlicesCompact
import Derived.Sort.Walk0
import Derived.BigQuiet
import Derived.Deep.QuietTactic
namespace Go.Proofs.YtckojimeglkobaaGreatDoor
namespace ValSpec
def near (x:Int):Int:=if x < -1000000 then -1000000 else if 1000000 < x then 1000000 else x
def times (a b:Int):Int:=near (near a * near b)
end ValSpec
end Go.Proofs.YtckojimeglkobaaGreatDoor
namespace Go.Proofs.YtckojimeglkobaaGreatDoor
open Go.RowKit ValSpec
end Go.Proofs.YtckojimeglkobaaGreatDoor
namespace Go.Proofs.YtckojimeglkobaaGreatDoor
open Go.RowKit
def Rd (w:World) (v:Value) (xs:List Value):Prop :=
 ∃ (A:Option Addr) (n c:Nat),v = .slice A n c ∧ n = xs.length ∧ n ≤ c ∧ (0 < n → ∃ b off,A = some ⟨b,off,none⟩ ∧ b < w.heap.size ∧ ∀ j u,xs[j]? = some u → w.cell? ⟨b,off + j,none⟩ = some u)
section
variable {w w':World} {v:Value} {xs:List Value}
theorem Rd.of_keep (h:Rd w v xs) (hs:w.heap.size ≤ w'.heap.size) (hk:∀ p:Addr,p.block < w.heap.size → w'.cell? p = w.cell? p):Rd w' v xs:=by
 obtain ⟨A,n,c,rfl,hn,hc,hA⟩:=h
 refine ⟨A,n,c,rfl,hn,hc,fun h0 => ?_⟩
 obtain ⟨b,off,rfl,hlt,hcell⟩:=hA h0
 exact ⟨b,off,rfl,Nat.lt_of_lt_of_le hlt hs,fun j u hj => (hk ⟨b,off + j,none⟩ hlt).trans (hcell j u hj)⟩
theorem Rd.keep (h:Rd w v xs) (hb:Below w.heap.size w w'):Rd w' v xs:=h.of_keep hb.size fun _ hp => hb.cell hp
theorem Rd.drewN (h:Rd w v xs) (k:Nat):Rd (w.drewN k) v xs:=h
theorem Rd.alloc (h:Rd w v xs) (o:Obj):Rd (w.alloc o) v xs:=h.keep ((Below.refl _ _).alloc (Nat.le_refl _) _)
theorem Rd.nil (w:World):Rd w (.slice none 0 0) []:=⟨none,0,0,rfl,rfl,Nat.le_refl _,fun h => absurd h (by omega)⟩
theorem Rd.own {base n:Nat} {e:TypeId} (h:w.ownsRow base e 1 v n xs):Rd w v xs:=by
 obtain ⟨hl,hv⟩:=h
 rw [Nat.mul_one] at hl
 rcases hv with ⟨rfl,rfl⟩ | ⟨g,cap,cur,rfl,hbase,hb,hnc,hcm,hcs,ht⟩
 ·exact ⟨none,0,0,rfl,hl.symm,Nat.le_refl _,fun h => absurd h (by omega)⟩
 ·refine ⟨_,n,cap,rfl,hl.symm,hnc,fun _ => ⟨g,0,rfl,(Array.getElem?_eq_some_iff.1 hb).1,fun j u hj => ?_⟩⟩
  have hj':j < xs.length:=(List.getElem?_eq_some_iff.1 hj).1
  rw [← ht,Nat.mul_one,List.getElem?_take_of_lt (by omega),Array.getElem?_toList] at hj
  simp [World.cell?,hb,hj]
theorem Rd.cells {b off n c:Nat} (hn:n = xs.length) (hc:n ≤ c) (hb:b < w.heap.size) (h:∀ j u,xs[j]? = some u → w.cell? ⟨b,off + j,none⟩ = some u):Rd w (.slice (some ⟨b,off,none⟩) n c) xs :=
 ⟨_,n,c,rfl,hn,hc,fun _ => ⟨b,off,rfl,hb,h⟩⟩
end
theorem addr_add (b off j:Nat):(⟨b,off,none⟩:Addr).add j = ⟨b,off + j,none⟩:=by unfold Addr.add; split <;> simp_all
section
variable {P:Program} (w:World)
theorem run_append_rd (base:Nat) (t ty e:TypeId) (i:TypeInfo) (z:Value) (bytes:Nat) (ht:P.underlying t = some (.slice e)) (hi:P.info? e = some i) (hz:i.zero = some z)
 (hsize:i.size = 1) (hby:i.bytes = bytes) (hzs:z.cells.size = 1)
 (v:Value) (n:Nat) (xs:List Value) (hown:w.ownsRow base e 1 v n xs) (x:Value) (news:List Value) (hx:Rd w x news) (h1:∀ u ∈ news,u.oneCell' = true)
 (h63:n + news.length ≤ maxLen) (hbytes:(n + news.length) * bytes ≤ 140737488355328) (hbase:base ≤ w.heap.size) :
 ∃ v' w',(Builtin.append_ #[t,t] ty #[v,x]).run P w = .ok v' w' ∧ w'.ownsRow base e 1 v' (n + news.length) (xs ++ news) ∧ w.grownBy w' v.ownBlock ∧
   (v'.ownBlock = v.ownBlock ∨ v'.ownBlock = some w.heap.size):=by
 obtain ⟨A,m,c,rfl,hm,hmc,hA⟩:=hx
 subst hm
 rcases Nat.eq_zero_or_pos news.length with h0 | h0
 ·have hn:news = []:=List.eq_nil_of_length_eq_zero h0
  subst hn
  rcases A with _ | a
  ·refine ⟨v,w,?_,by simpa using hown,⟨rfl,rfl,rfl,Nat.le_refl _,fun _ _ _ => rfl⟩,.inl rfl⟩
   rcases hown.2 with ⟨rfl,rfl⟩ | ⟨g,cap,cur,rfl,_,_,hnc,_⟩
   ·simp [Builtin.append_,run_underlying ht,sizeOf,typeInfo,hi,Builtin.lenOf,Builtin.firstCells]
   ·simp [Builtin.append_,run_underlying ht,sizeOf,typeInfo,hi,Builtin.lenOf,Builtin.firstCells,hnc,storeCells]
  ·obtain ⟨v',w',hrun,h2,h3,_,h5⟩:=run_append_own_at (P:=P) w base t ty e i z 1 bytes ht hi hz hsize hby hzs (by omega) v n xs hown a 0 c [] rfl (by simp) (by simp) (by simpa using h63) (by simpa using hbytes) hbase
   exact ⟨v',w',hrun,by simpa using h2,h3,h5⟩
 ·obtain ⟨b,off,rfl,hlt,hcell⟩:=hA h0
  obtain ⟨v',w',hrun,h2,h3,_,h5⟩:=run_append_own_at (P:=P) w base t ty e i z 1 bytes ht hi hz hsize hby hzs (by omega) v n xs hown ⟨b,off,none⟩ news.length c news (by simp)
   (fun j u hj => by rw [addr_add]; exact hcell j u hj) h1 h63 hbytes hbase
  exact ⟨v',w',hrun,h2,h3,h5⟩
theorem wpList_append_rd {ops:Array Oper} {rest:List Oper} {o:Oper} {a:Act} {Q:Exit → Act → World → Prop} (hgd:o.guard = none) (s x:Operand) (t:TypeId)
 (ho:o.op = .call { callee:=.builtin .append,args:=#[s,x],argTypes:=#[t,t] })
 (base:Nat) (e:TypeId) (i:TypeInfo) (z:Value) (bytes:Nat) (ht:P.underlying t = some (.slice e)) (hi:P.info? e = some i) (hz:i.zero = some z)
 (hsize:i.size = 1) (hby:i.bytes = bytes) (hzs:z.cells.size = 1)
 (v:Value) (n:Nat) (xs:List Value) (hs:a.eval s = v) (hown:w.ownsRow base e 1 v n xs) (y:Value) (news:List Value) (hy:a.eval x = y) (hr:Rd w y news) (h1:∀ u ∈ news,u.oneCell' = true)
 (h63:n + news.length ≤ maxLen) (hbytes:(n + news.length) * bytes ≤ 140737488355328) (hbase:base ≤ w.heap.size)
 (h:∀ v' w',w'.ownsRow base e 1 v' (n + news.length) (xs ++ news) → w.grownBy w' v.ownBlock → (v'.ownBlock = v.ownBlock ∨ v'.ownBlock = some w.heap.size) → wpList P ops Q rest (a.put o.dst v') w'):wpList P ops Q (o :: rest) a w :=
 wpList_plain hgd fun _ hK => by
  obtain ⟨v',w',hrun,h2,h3,h4⟩:=run_append_rd (P:=P) w base t o.type e i z bytes ht hi hz hsize hby hzs v n xs hown y news hr h1 h63 hbytes hbase
  unfold Oper.wp execOp
  simp only [ho,resolve,invoke,builtin,Sem.run_bind,Sem.run_pure,Result.andThen_ok,List.map_toArray,List.map_cons,List.map_nil,hs,hy,hrun]
  exact hK _ _ (h v' w' h2 h3 h4)
end
def strV (l:List ByteArray):List Value:=l.map .string
def intV (l:List Int):List Value:=l.map (.int .i64)
@[simp] theorem strV_length (l:List ByteArray):(strV l).length = l.length:=by simp [strV]
@[simp] theorem intV_length (l:List Int):(intV l).length = l.length:=by simp [intV]
theorem strV_get (l:List ByteArray) (j:Nat):(strV l)[j]? = l[j]?.map .string:=by simp [strV]
theorem intV_get (l:List Int) (j:Nat):(intV l)[j]? = l[j]?.map (.int .i64):=by simp [intV]
theorem strV_one (l:List ByteArray):∀ u ∈ strV l,u.oneCell' = true:=by
 intro u hu
 obtain ⟨s,_,rfl⟩:=List.mem_map.1 hu
 rfl
theorem intV_one (l:List Int):∀ u ∈ intV l,u.oneCell' = true:=by
 intro u hu
 obtain ⟨s,_,rfl⟩:=List.mem_map.1 hu
 rfl
theorem strV_append (a b:List ByteArray):strV a ++ strV b = strV (a ++ b):=by simp [strV]
theorem intV_append (a b:List Int):intV a ++ intV b = intV (a ++ b):=by simp [intV]
theorem Rd.strs {w:World} {v:Value} {l:List ByteArray} (h:Rd w v (strV l)) :
 ∃ (A:Option Addr) (n c:Nat),v = .slice A n c ∧ l.length = n ∧ n ≤ c ∧ (0 < n → ∃ b off,A = some ⟨b,off,none⟩ ∧ b < w.heap.size ∧ ∀ j s,l[j]? = some s → w.cell? ⟨b,off + j,none⟩ = some (.string s)):=by
 obtain ⟨A,n,c,rfl,hn,hc,hA⟩:=h
 refine ⟨A,n,c,rfl,by simpa using hn.symm,hc,fun h0 => ?_⟩
 obtain ⟨b,off,rfl,hb,hcell⟩:=hA h0
 exact ⟨b,off,rfl,hb,fun j s hj => hcell j _ (by rw [strV_get,hj]; rfl)⟩
theorem Rd.ints {w:World} {v:Value} {l:List Int} (h:Rd w v (intV l)) :
 ∃ (A:Option Addr) (n c:Nat),v = .slice A n c ∧ l.length = n ∧ n ≤ c ∧ (0 < n → ∃ b off,A = some ⟨b,off,none⟩ ∧ b < w.heap.size ∧ ∀ j s,l[j]? = some s → w.cell? ⟨b,off + j,none⟩ = some (.int .i64 s)):=by
 obtain ⟨A,n,c,rfl,hn,hc,hA⟩:=h
 refine ⟨A,n,c,rfl,by simpa using hn.symm,hc,fun h0 => ?_⟩
 obtain ⟨b,off,rfl,hb,hcell⟩:=hA h0
 exact ⟨b,off,rfl,hb,fun j s hj => hcell j _ (by rw [intV_get,hj]; rfl)⟩
theorem Rd.lit {w:World} {cs:Array Value} {e:TypeId} {n:Nat} (hn:n = cs.size):Rd (w.alloc (.cells cs e)) (.slice (some ⟨w.heap.size,0,none⟩) n n) cs.toList :=
 Rd.cells (by simpa using hn) (Nat.le_refl _) (by simp) fun j u hj => by
  rw [Array.getElem?_toList] at hj
  rw [World.cell?_alloc_at _ _ _ _ rfl]
  simpa using hj
theorem ret_bool {a b:Bool} (h:a = b):Ending.returned (.bool a) = .returned (.bool b):=by rw [h]
theorem ret_int {a b:Int} (h:a = b):Ending.returned (.int .i64 a) = .returned (.int .i64 b):=by rw [h]
theorem bytes_ne {x y:ByteArray} (h:(x.toList == y.toList) = false):x ≠ y:=(Lib.bytes_beq_false_iff x y).1 h
theorem bytes_eq {x y:ByteArray} (h:(x.toList == y.toList) = true):x = y:=(Lib.bytes_beq_iff x y).1 h
theorem below_two' {a b c:World} (h:Below a.heap.size a b) (k:Below b.heap.size b c):Below a.heap.size a c:=h.trans (k.mono h.size)
theorem below_drewN {B:Nat} {a w:World} (h:Below B a w) (n:Nat):Below B a (w.drewN n):=⟨h.os,h.tape,h.output,h.size,h.block⟩
theorem get_lt {α:Type} {l:List α} {k:Nat} {x:α} (h:l[k]? = some x):k < l.length:=(List.getElem?_eq_some_iff.1 h).1
theorem get_some {α:Type} {l:List α} {k:Nat} (h:k < l.length):∃ x,l[k]? = some x:=⟨l[k],List.getElem?_eq_getElem h⟩
theorem take_next {α:Type} {l:List α} {k:Nat} {x:α} (h:l[k]? = some x):l.take (k + 1) = l.take k ++ [x]:=by rw [List.take_add_one,h]; rfl
end Go.Proofs.YtckojimeglkobaaGreatDoor
namespace Go.Proofs.YtckojimeglkobaaGreatDoor
open Go.RowKit
def Rdk (k:Nat) (w:World) (v:Value) (n:Nat) (xs:List Value):Prop :=
 ∃ (A:Option Addr) (c:Nat),v = .slice A n c ∧ n ≤ c ∧ xs.length = n * k ∧ (0 < n → ∃ b off,A = some ⟨b,off,none⟩ ∧ b < w.heap.size ∧ ∀ j u,xs[j]? = some u → w.cell? ⟨b,off + j,none⟩ = some u)
section
variable {k n:Nat} {w w':World} {v:Value} {xs:List Value}
theorem Rdk.keep (h:Rdk k w v n xs) (hb:Below w.heap.size w w'):Rdk k w' v n xs:=by
 obtain ⟨A,c,rfl,hc,hl,hA⟩:=h
 refine ⟨A,c,rfl,hc,hl,fun h0 => ?_⟩
 obtain ⟨b,off,rfl,hlt,hcell⟩:=hA h0
 exact ⟨b,off,rfl,Nat.lt_of_lt_of_le hlt hb.size,fun j u hj => (hb.cell (p:=⟨b,off + j,none⟩) hlt).trans (hcell j u hj)⟩
theorem Rdk.alloc (h:Rdk k w v n xs) (o:Obj):Rdk k (w.alloc o) v n xs:=h.keep ((Below.refl _ _).alloc (Nat.le_refl _) _)
theorem Rdk.nil (k:Nat) (w:World):Rdk k w (.slice none 0 0) 0 []:=⟨none,0,rfl,Nat.le_refl _,by simp,fun h => absurd h (by omega)⟩
theorem Rdk.own {base:Nat} {e:TypeId} (h:w.ownsRow base e k v n xs):Rdk k w v n xs:=by
 obtain ⟨hl,hv⟩:=h
 rcases hv with ⟨rfl,rfl⟩ | ⟨g,cap,cur,rfl,hbase,hb,hnc,hcm,hcs,ht⟩
 ·exact ⟨none,0,rfl,Nat.le_refl _,hl,fun h => absurd h (by omega)⟩
 ·refine ⟨_,cap,rfl,hnc,hl,fun _ => ⟨g,0,rfl,(Array.getElem?_eq_some_iff.1 hb).1,fun j u hj => ?_⟩⟩
  have hj':j < xs.length:=(List.getElem?_eq_some_iff.1 hj).1
  rw [← ht,List.getElem?_take_of_lt (by omega),Array.getElem?_toList] at hj
  simp [World.cell?,hb,hj]
end
theorem flat_get {α:Type} {k:Nat} {f:α → List Value} (hf:∀ a,(f a).length = k):∀ {l:List α} {i j:Nat} {a:α},l[i]? = some a → j < k → (l.flatMap f)[i * k + j]? = (f a)[j]?
 | [],_,_,_,h,_ => by simp at h
 | b :: t,0,j,a,h,hj => by
   simp at h; subst h
   rw [List.flatMap_cons,Nat.zero_mul,Nat.zero_add,List.getElem?_append_left (by rw [hf]; exact hj)]
 | b :: t,i + 1,j,a,h,hj => by
   rw [List.flatMap_cons,List.getElem?_append_right (by rw [hf,Nat.add_mul]; omega),hf,show (i + 1) * k + j - k = i * k + j by rw [Nat.add_mul]; omega]
   exact flat_get hf (l:=t) (by simpa using h) hj
theorem flat_length {α:Type} {k:Nat} {f:α → List Value} (hf:∀ a,(f a).length = k) (l:List α):(l.flatMap f).length = l.length * k:=by
 induction l with
 | nil => simp
 | cons b t ih => rw [List.flatMap_cons,List.length_append,hf,ih,List.length_cons,Nat.add_mul]; omega
section
variable {P:Program} (w:World)
theorem run_append_rdk (base:Nat) (t ty e:TypeId) (i:TypeInfo) (z:Value) (k bytes:Nat) (ht:P.underlying t = some (.slice e)) (hi:P.info? e = some i) (hz:i.zero = some z)
 (hsize:i.size = k) (hby:i.bytes = bytes) (hzs:z.cells.size = k) (hk:0 < k)
 (v:Value) (n:Nat) (xs:List Value) (hown:w.ownsRow base e k v n xs) (x:Value) (m:Nat) (news:List Value) (hx:Rdk k w x m news) (h1:∀ u ∈ news,u.oneCell' = true)
 (h63:n + m ≤ maxLen) (hbytes:(n + m) * bytes ≤ 140737488355328) (hbase:base ≤ w.heap.size) :
 ∃ v' w',(Builtin.append_ #[t,t] ty #[v,x]).run P w = .ok v' w' ∧ w'.ownsRow base e k v' (n + m) (xs ++ news) ∧ w.grownBy w' v.ownBlock ∧
   (v'.ownBlock = v.ownBlock ∨ v'.ownBlock = some w.heap.size):=by
 obtain ⟨A,c,rfl,hmc,hl,hA⟩:=hx
 rcases Nat.eq_zero_or_pos m with h0 | h0
 ·subst h0
  have hn:news = []:=List.eq_nil_of_length_eq_zero (by omega)
  subst hn
  rcases A with _ | a
  ·refine ⟨v,w,?_,by simpa using hown,⟨rfl,rfl,rfl,Nat.le_refl _,fun _ _ _ => rfl⟩,.inl rfl⟩
   rcases hown.2 with ⟨rfl,rfl⟩ | ⟨g,cap,cur,rfl,_,_,hnc,_⟩
   ·simp [Builtin.append_,run_underlying ht,sizeOf,typeInfo,hi,Builtin.lenOf,Builtin.firstCells]
   ·simp [Builtin.append_,run_underlying ht,sizeOf,typeInfo,hi,Builtin.lenOf,Builtin.firstCells,hnc,storeCells]
  ·obtain ⟨v',w',hrun,h2,h3,_,h5⟩:=run_append_own_at (P:=P) w base t ty e i z k bytes ht hi hz hsize hby hzs hk v n xs hown a 0 c [] (by simp) (by simp) (by simp) (by simpa using h63) (by simpa using hbytes) hbase
   exact ⟨v',w',hrun,by simpa using h2,h3,h5⟩
 ·obtain ⟨b,off,rfl,hlt,hcell⟩:=hA h0
  obtain ⟨v',w',hrun,h2,h3,_,h5⟩:=run_append_own_at (P:=P) w base t ty e i z k bytes ht hi hz hsize hby hzs hk v n xs hown ⟨b,off,none⟩ m c news hl
   (fun j u hj => by rw [addr_add]; exact hcell j u hj) h1 h63 hbytes hbase
  exact ⟨v',w',hrun,h2,h3,h5⟩
theorem wpList_append_rdk {ops:Array Oper} {rest:List Oper} {o:Oper} {a:Act} {Q:Exit → Act → World → Prop} (hgd:o.guard = none) (s x:Operand) (t:TypeId)
 (ho:o.op = .call { callee:=.builtin .append,args:=#[s,x],argTypes:=#[t,t] })
 (base:Nat) (e:TypeId) (i:TypeInfo) (z:Value) (k bytes:Nat) (ht:P.underlying t = some (.slice e)) (hi:P.info? e = some i) (hz:i.zero = some z)
 (hsize:i.size = k) (hby:i.bytes = bytes) (hzs:z.cells.size = k) (hk:0 < k)
 (v:Value) (n:Nat) (xs:List Value) (hs:a.eval s = v) (hown:w.ownsRow base e k v n xs) (y:Value) (m:Nat) (news:List Value) (hy:a.eval x = y) (hr:Rdk k w y m news) (h1:∀ u ∈ news,u.oneCell' = true)
 (h63:n + m ≤ maxLen) (hbytes:(n + m) * bytes ≤ 140737488355328) (hbase:base ≤ w.heap.size)
 (h:∀ v' w',w'.ownsRow base e k v' (n + m) (xs ++ news) → w.grownBy w' v.ownBlock → (v'.ownBlock = v.ownBlock ∨ v'.ownBlock = some w.heap.size) → wpList P ops Q rest (a.put o.dst v') w'):wpList P ops Q (o :: rest) a w :=
 wpList_plain hgd fun _ hK => by
  obtain ⟨v',w',hrun,h2,h3,h4⟩:=run_append_rdk (P:=P) w base t o.type e i z k bytes ht hi hz hsize hby hzs hk v n xs hown y m news hr h1 h63 hbytes hbase
  unfold Oper.wp execOp
  simp only [ho,resolve,invoke,builtin,Sem.run_bind,Sem.run_pure,Result.andThen_ok,List.map_toArray,List.map_cons,List.map_nil,hs,hy,hrun]
  exact hK _ _ (h v' w' h2 h3 h4)
end
end Go.Proofs.YtckojimeglkobaaGreatDoor
namespace Go.Proofs.YtckojimeglkobaaGreatDoor
open Go.RowKit
theorem cell_of_block' {w:World} {b:Nat} {cs:Array Value} {t:TypeId} (h:w.heap[b]? = some (.cells cs t (0,0))) {i:Nat} {v:Value} (hi:cs[i]? = some v):w.cell? ⟨b,i,none⟩ = some v:=by simp [World.cell?,h,hi]
theorem free_of_block' {w:World} {b:Nat} {cs:Array Value} {t:TypeId} (h:w.heap[b]? = some (.cells cs t (0,0))) (i:Nat):w.frozen? ⟨b,i,none⟩ = false:=by simp [World.frozen?,h]
theorem block_setCell' {w:World} {b:Nat} {cs:Array Value} {t:TypeId} (h:w.heap[b]? = some (.cells cs t (0,0))) (i:Nat) (u:Value):(w.setCell ⟨b,i,none⟩ u).heap[b]? = some (.cells (cs.setIfInBounds i u) t (0,0)):=by
 have hlt:=(Array.getElem?_eq_some_iff.1 h).1
 have h':w.heap[b] = .cells cs t (0,0):=by simpa [Array.getElem?_eq_getElem hlt] using h
 show (w.heap.modify b _)[b]? = _
 rw [Array.getElem?_eq_getElem (by simpa using hlt),Array.getElem_modify_self,h']
 rfl
theorem but_refl (w:World) (v:Option Nat):w.grownBy w v:=⟨rfl,rfl,rfl,Nat.le_refl _,fun _ _ _ => rfl⟩
theorem but_trans {a b c:World} {B:Nat} (h:a.grownBy b (some B)) (k:b.grownBy c (some B)):a.grownBy c (some B) :=
 ⟨k.os.trans h.os,k.tape.trans h.tape,k.output.trans h.output,Nat.le_trans h.size k.size,fun i hi hn => (k.block i (Nat.lt_of_lt_of_le hi h.size) hn).trans (h.block i hi hn)⟩
theorem but_set {a b:World} {B:Nat} (h:a.grownBy b (some B)) (i:Nat) (u:Value):a.grownBy (b.setCell ⟨B,i,none⟩ u) (some B) :=
 but_trans h ⟨rfl,rfl,rfl,by simp [World.setCell],fun k _ hn => Below.heap_setCell _ _ _ _ (by intro e; exact hn (by rw [e]))⟩
theorem but_set_new {a b:World} {B:Nat} (h:a.grownBy b (some B)) {k:Nat} (hk:a.heap.size ≤ k) (i:Nat) (u:Value):a.grownBy (b.setCell ⟨k,i,none⟩ u) (some B) :=
 ⟨h.os,h.tape,h.output,by simp [World.setCell]; exact h.size,fun j hj hn => (Below.heap_setCell _ _ _ _ (by simp; omega)).trans (h.block j hj hn)⟩
theorem but_drew {a b:World} {B:Nat} (h:a.grownBy b (some B)):a.grownBy b.drew (some B):=⟨h.os,h.tape,h.output,h.size,h.block⟩
theorem own_keep {w w':World} {base n k:Nat} {e:TypeId} {v:Value} {xs:List Value} (h:w.ownsRow base e k v n xs) (hb:Below w.heap.size w w'):w'.ownsRow base e k v n xs:=by
 refine ⟨h.1,?_⟩
 rcases h.2 with h | ⟨g,cap,cur,h1,h2,h3,h4⟩
 ·exact .inl h
 ·exact .inr ⟨g,cap,cur,h1,h2,(hb.block g (Array.getElem?_eq_some_iff.1 h3).1).trans h3,h4⟩
theorem own_but {w w':World} {base n k B:Nat} {e:TypeId} {v:Value} {xs:List Value} (h:w.ownsRow base e k v n xs) (hb:w.grownBy w' (some B)) (hB:B < base):w'.ownsRow base e k v n xs:=by
 refine ⟨h.1,?_⟩
 rcases h.2 with h | ⟨g,cap,cur,h1,h2,h3,h4⟩
 ·exact .inl h
 ·exact .inr ⟨g,cap,cur,h1,h2,(hb.block g (Array.getElem?_eq_some_iff.1 h3).1 (by simp; omega)).trans h3,h4⟩
theorem own_shape {w:World} {base n k:Nat} {e:TypeId} {v:Value} {xs:List Value} (h:w.ownsRow base e k v n xs):∃ A c,v = .slice A n c:=by
 rcases h.2 with ⟨h1,h2⟩ | ⟨g,cap,cur,h1,_⟩
 ·subst h2
  exact ⟨_,_,h1⟩
 ·exact ⟨_,_,h1⟩
theorem own_weak {w:World} {base base' n k:Nat} {e:TypeId} {v:Value} {xs:List Value} (h:w.ownsRow base e k v n xs) (hb:base' ≤ base):w.ownsRow base' e k v n xs:=by
 refine ⟨h.1,?_⟩
 rcases h.2 with h | ⟨g,cap,cur,h1,h2,h3⟩
 ·exact .inl h
 ·exact .inr ⟨g,cap,cur,h1,by omega,h3⟩
theorem own_block_bd {w:World} {base n k:Nat} {e:TypeId} {v:Value} {xs:List Value} (h:w.ownsRow base e k v n xs):∀ j,v.ownBlock = some j → base ≤ j ∧ j < w.heap.size:=by
 intro j hj
 rcases h.2 with ⟨h1,h2⟩ | ⟨g,cap,cur,h1,h2,h3,h4⟩
 ·subst h1; simp [Value.ownBlock] at hj
 ·subst h1
  simp [Value.ownBlock] at hj
  subst hj
  exact ⟨h2,(Array.getElem?_eq_some_iff.1 h3).1⟩
theorem cells_4 {w:World} {b:Nat} {T:TypeId} {x0 x1 x2 x3:Value} (h:w.heap[b]? = some (.cells #[x0,x1,x2,x3] T (0,0))):w.cell? ⟨b,0,none⟩ = some x0 ∧ w.cell? ⟨b,1,none⟩ = some x1 ∧ w.cell? ⟨b,2,none⟩ = some x2 ∧ w.cell? ⟨b,3,none⟩ = some x3 :=
 ⟨cell_of_block' h (i:=0) rfl,cell_of_block' h (i:=1) rfl,cell_of_block' h (i:=2) rfl,cell_of_block' h (i:=3) rfl⟩
theorem free_4 {w:World} {b:Nat} {T:TypeId} {cs:Array Value} (h:w.heap[b]? = some (.cells cs T (0,0))):w.frozen? ⟨b,0,none⟩ = false ∧ w.frozen? ⟨b,1,none⟩ = false ∧ w.frozen? ⟨b,2,none⟩ = false ∧ w.frozen? ⟨b,3,none⟩ = false :=
 ⟨free_of_block' h 0,free_of_block' h 1,free_of_block' h 2,free_of_block' h 3⟩
theorem cells_6 {w:World} {b:Nat} {T:TypeId} {x0 x1 x2 x3 x4 x5:Value} (h:w.heap[b]? = some (.cells #[x0,x1,x2,x3,x4,x5] T (0,0))):w.cell? ⟨b,0,none⟩ = some x0 ∧ w.cell? ⟨b,1,none⟩ = some x1 ∧ w.cell? ⟨b,2,none⟩ = some x2 ∧ w.cell? ⟨b,3,none⟩ = some x3 ∧ w.cell? ⟨b,4,none⟩ = some x4 ∧ w.cell? ⟨b,5,none⟩ = some x5 :=
 ⟨cell_of_block' h (i:=0) rfl,cell_of_block' h (i:=1) rfl,cell_of_block' h (i:=2) rfl,cell_of_block' h (i:=3) rfl,cell_of_block' h (i:=4) rfl,cell_of_block' h (i:=5) rfl⟩
end Go.Proofs.YtckojimeglkobaaGreatDoor
namespace Go.Proofs.YtckojimeglkobaaGreatDoor
namespace NamesSpec
open Go.Lib
def kw:List (List UInt8):=[[99,104,97,114,116],[101,118,101,110,116],[118,97,114],[108,101,97,102],[111,114],[97,110,100],[101,110,116,101,114],[101,120,105,116],[111,110],[97,117,116,111],[97,110,121],[105,110],[109,105,110],[109,97,120],[110,111,116],[116,114,117,101],[102,97,108,115,101]]
def kwS:List ByteArray:=[⟨#[99,104,97,114,116]⟩,⟨#[101,118,101,110,116]⟩,⟨#[118,97,114]⟩,⟨#[108,101,97,102]⟩,⟨#[111,114]⟩,⟨#[97,110,100]⟩,⟨#[101,110,116,101,114]⟩,⟨#[101,120,105,116]⟩,⟨#[111,110]⟩,⟨#[97,117,116,111]⟩,⟨#[97,110,121]⟩,⟨#[105,110]⟩,⟨#[109,105,110]⟩,⟨#[109,97,120]⟩,⟨#[110,111,116]⟩,⟨#[116,114,117,101]⟩,⟨#[102,97,108,115,101]⟩]
def isKw (l:List UInt8):Bool:=kw.contains l
def letter (c:UInt8):Bool:=97 ≤ c && c ≤ 122
def later (c:UInt8):Bool:=letter c || (48 ≤ c && c ≤ 57) || c == 95
def isName (l:List UInt8):Bool:=decide (0 < l.length) && decide (l.length ≤ 12) && !isKw l && l.all later && l.head?.any letter
theorem isName_size {l:List UInt8} (h:l.length = 0 ∨ 12 < l.length):isName l = false:=by
 unfold isName
 rcases h with h | h
 ·rw [h]; rfl
 ·rw [decide_eq_false (show ¬ l.length ≤ 12 by omega)]; simp
theorem isName_kw {l:List UInt8} (h:isKw l = true):isName l = false:=by unfold isName; rw [h]; simp
theorem isName_later {l:List UInt8} {k:Nat} {c:UInt8} (hc:l[k]? = some c) (h:later c = false):isName l = false:=by
 have:l.all later = false:=by
  rw [List.all_eq_false]
  exact ⟨c,List.mem_of_getElem? hc,by simp [h]⟩
 unfold isName; rw [this]; simp
theorem isName_head {l:List UInt8} {c:UInt8} (hc:l[0]? = some c) (h:letter c = false):isName l = false:=by
 have:l.head?.any letter = false:=by rw [List.head?_eq_getElem?,hc]; simpa using h
 unfold isName; rw [this]; simp
theorem isName_yes {l:List UInt8} (h1:0 < l.length) (h2:l.length ≤ 12) (h3:isKw l = false) (h4:l.all later = true) (h5:∀ c,l[0]? = some c → letter c = true):isName l = true:=by
 have h6:l.head?.any letter = true:=by
  cases l with
  | nil => simp at h1
  | cons c t => simpa using h5 c rfl
 unfold isName; rw [decide_eq_true h1,decide_eq_true h2,h3,h4,h6]; rfl
theorem letter_later {c:UInt8} (h:letter c = true):later c = true:=by unfold later; rw [h]; rfl
theorem kwS_mem (s:ByteArray):s ∈ kwS ↔ isKw s.data.toList = true:=by
 have e:kwS.map (·.data.toList) = kw:=by decide
 unfold isKw
 rw [List.contains_iff_mem,← e,List.mem_map]
 constructor
 ·intro h; exact ⟨s,h,rfl⟩
 ·rintro ⟨x,hx,he⟩
  have:x = s:=ByteArray.ext (Array.toList_inj.mp he)
  exact this ▸ hx
def hasS (l:List ByteArray) (s:ByteArray):Bool:=l.any fun x => decide (x = s)
theorem hasS_iff {l:List ByteArray} {s:ByteArray}:hasS l s = true ↔ s ∈ l:=by
 unfold hasS
 rw [List.any_eq_true]
 constructor
 ·rintro ⟨x,hx,he⟩
  exact of_decide_eq_true he ▸ hx
 ·intro h
  exact ⟨s,h,decide_eq_true rfl⟩
theorem place_ge (l:List ByteArray) (s:ByteArray):decide (0 ≤ idxOfS l s) = hasS l s:=by
 rw [Bool.eq_iff_iff,hasS_iff]; simp [idxOfS_nonneg_iff]
theorem place_kw (s:ByteArray):decide (0 ≤ idxOfS kwS s) = isKw s.data.toList:=by
 rw [place_ge,Bool.eq_iff_iff,hasS_iff,kwS_mem]
theorem place_hit {l:List ByteArray} {k:Nat} {s:ByteArray} (h:l[k]? = some s) (hn:s ∉ l.take k):idxOfS l s = k:=by
 have hk:=get_lt h
 have:=idxOfS_hit l l.length k s hk (Nat.le_refl _) (by rw [List.getD_eq_getElem?_getD,h]; rfl) (fun j hj he => hn (by
  rw [List.mem_iff_getElem?]
  refine ⟨j,?_⟩
  rw [List.getElem?_take_of_lt hj]
  rw [List.getD_eq_getElem?_getD,List.getElem?_eq_getElem (by omega)] at he
  rw [List.getElem?_eq_getElem (by omega)]
  simpa using he))
 rwa [List.take_of_length_le (Nat.le_refl _)] at this
theorem place_miss {l:List ByteArray} {s:ByteArray} (h:s ∉ l):idxOfS l s = -1:=by
 have:=idxOfS_miss l l.length s (fun j hj he => h (by
  rw [List.mem_iff_getElem?]
  refine ⟨j,?_⟩
  rw [List.getD_eq_getElem?_getD,List.getElem?_eq_getElem hj] at he
  rw [List.getElem?_eq_getElem hj]
  simpa using he))
 rwa [List.take_of_length_le (Nat.le_refl _)] at this
theorem first_at {l:List ByteArray} {s:ByteArray} (h:s ∈ l):∃ k:Nat,l[k]? = some s ∧ s ∉ l.take k:=by
 induction l with
 | nil => simp at h
 | cons a t ih =>
   by_cases ha:a = s
   ·exact ⟨0,by simp [ha],by simp⟩
   ·have ht:s ∈ t:=by
     rcases List.mem_cons.1 h with h | h
     ·exact absurd h.symm ha
     ·exact h
    obtain ⟨k,h1,h2⟩:=ih ht
    refine ⟨k + 1,by simpa using h1,?_⟩
    rw [List.take_succ_cons,List.mem_cons]
    rintro (h3 | h3)
    ·exact ha h3.symm
    ·exact h2 h3
theorem place_bd (l:List ByteArray) (s:ByteArray):-1 ≤ idxOfS l s ∧ idxOfS l s ≤ l.length:=by
 by_cases h:s ∈ l
 ·obtain ⟨k,h1,h2⟩:=first_at h
  rw [place_hit h1 h2]
  have:=get_lt h1
  omega
 ·rw [place_miss h]; omega
def twinsTo (l:List ByteArray) (k:Nat):List Int:=((List.range k).filter fun i => hasS (l.take i) (l.getD i ByteArray.empty)).map fun (i:Nat) => (i:Int)
def twins (l:List ByteArray):List Int:=twinsTo l l.length
theorem getD_of {l:List ByteArray} {k:Nat} {s:ByteArray} (h:l[k]? = some s):l.getD k ByteArray.empty = s:=by rw [List.getD_eq_getElem?_getD,h]; rfl
theorem twinsTo_yes {l:List ByteArray} {k:Nat} {s:ByteArray} (h:l[k]? = some s) (hm:hasS (l.take k) s = true):twinsTo l (k + 1) = twinsTo l k ++ [(k:Int)]:=by
 unfold twinsTo
 rw [List.range_succ,List.filter_append,List.map_append,List.filter_cons,getD_of h,if_pos hm]
 rfl
theorem twinsTo_no {l:List ByteArray} {k:Nat} {s:ByteArray} (h:l[k]? = some s) (hm:hasS (l.take k) s = false):twinsTo l (k + 1) = twinsTo l k:=by
 unfold twinsTo
 rw [List.range_succ,List.filter_append,List.map_append,List.filter_cons,getD_of h,if_neg (by rw [hm]; simp)]
 simp
theorem twinsTo_length (l:List ByteArray) (k:Nat):(twinsTo l k).length ≤ k:=by
 unfold twinsTo
 rw [List.length_map]
 exact Nat.le_trans (List.length_filter_le _ _) (Nat.le_of_eq List.length_range)
def times (l:List ByteArray) (s:ByteArray):Int:=((l.filter fun x => decide (x = s)).length:Nat)
theorem times_snoc (l:List ByteArray) (x s:ByteArray):times (l ++ [x]) s = times l s + (if x = s then 1 else 0):=by
 unfold times
 rw [List.filter_append,List.length_append]
 by_cases h:x = s <;> simp [h]
theorem times_bd (l:List ByteArray) (s:ByteArray):0 ≤ times l s ∧ times l s ≤ l.length:=by
 unfold times
 have:=List.length_filter_le (fun x => decide (x = s)) l
 omega
theorem times_has (l:List ByteArray) (s:ByteArray):decide (0 < times l s) = hasS l s:=by
 unfold times hasS
 rw [Bool.eq_iff_iff,decide_eq_true_iff,List.any_eq_true,Int.natCast_pos,List.length_pos_iff_exists_mem]
 constructor
 ·rintro ⟨x,hx⟩
  exact ⟨x,(List.mem_filter.1 hx).1,(List.mem_filter.1 hx).2⟩
 ·rintro ⟨x,hx,he⟩
  exact ⟨x,List.mem_filter.2 ⟨hx,he⟩⟩
end NamesSpec
end Go.Proofs.YtckojimeglkobaaGreatDoor
namespace Go.Proofs.YtckojimeglkobaaGreatDoor
open Go.RowKit NamesSpec Go.Lib
set_option maxRecDepth 100000
def RetStrs (W:World) (l:List ByteArray) (e:Ending) (w':World):Prop:=∃ v,e = .returned v ∧ Rd w' v (strV l) ∧ Below W.heap.size W w'
def RetInts (W:World) (l:List Int) (e:Ending) (w':World):Prop:=∃ v,e = .returned v ∧ Rd w' v (intV l) ∧ Below W.heap.size W w'
def PlaceRel (l:List ByteArray) (n:Nat) (s:ByteArray) (i:Value):Prop:=∃ k:Nat,k ≤ n ∧ i = .int .i64 k ∧ s ∉ l.take k
set_option maxHeartbeats 400000 in
theorem rplace_any (v:Value) (l:List ByteArray) (s:ByteArray) (w:World) (h:Rd w v (strV l)) (hm:l.length ≤ 9223372036854775807) :
 Calls Tryz.prog 43 #[v,.string s] w fun e w' => e = .returned (.int .i64 (idxOfS l s)) ∧ w = w':=by
 obtain ⟨A,n,c,rfl,hn,hc,hA⟩:=h.strs
 have HA:=Lib.hid hA
 have HN:=Lib.hid hn
 have hm':n ≤ 9223372036854775807:=by omega
 clear hA hn h hc hm
 go_enter Tryz.func43,Tryz.ntmps43
 go_wp2
 go_loop [5] (fun i => PlaceRel l n s i) (fun i => n - (RowKit.intOf i).toNat)
 case atStart => exact ⟨0,Nat.zero_le _,rfl,by simp⟩
 case round =>
  obtain ⟨k,hk,rfl,hno⟩:=hrel
  by_cases hlt:k < n
  ·obtain ⟨b,off,rfl,hb,hcell⟩:=HA.out (by omega)
   obtain ⟨x,hx⟩:∃ x,l[k]? = some x:=get_some (by have:=HN.out; omega)
   have hck:=hcell k x hx
   have HX:=Lib.hid hx
   have HO:=Lib.hid hno
   clear hcell hx hno
   rcases hxs:(x.toList == s.toList) with _ | _
   ·go_wp2
    go_round
    case rel =>
     refine ⟨k + 1,by omega,by go_num,?_⟩
     rw [take_next HX.out,List.mem_append,List.mem_singleton]
     rintro (h1 | h1)
     ·exact HO.out h1
     ·exact bytes_ne hxs h1.symm
    case measure => simp [RowKit.intOf]; omega
   ·go_wp2
    go_ret
    exact ⟨ret_int (by rw [← bytes_eq hxs] at HO ⊢; exact (place_hit HX.out HO.out).symm),rfl⟩
  ·go_wp2
   go_ret
   have:=HN.out
   exact ⟨ret_int (by rw [List.take_of_length_le (by omega)] at hno; exact (place_miss hno).symm),rfl⟩
def longB (l:List ByteArray) (m:Int):Bool:=l.any fun s => decide (m < (s.size:Int))
def BoolQuiet (W:World) (b:Bool) (e:Ending) (w':World):Prop:=e = .returned (.bool b) ∧ ∃ q,w' = W.drewN q
theorem BoolQuiet.below {W:World} {b:Bool} {e:Ending} {w':World} (h:BoolQuiet W b e w'):e = .returned (.bool b) ∧ Below W.heap.size W w':=by
 obtain ⟨rfl,q,rfl⟩:=h
 exact ⟨rfl,below_drewN (Below.refl _ _) q⟩
end Go.Proofs.YtckojimeglkobaaGreatDoor
namespace Go.Proofs.YtckojimeglkobaaGreatDoor
open Go.RowKit
def RetI (W:World) (n:Int) (e:Ending) (w':World):Prop:=e = .returned (.int .i64 n) ∧ Below W.heap.size W w'
def RetB (W:World) (b:Bool) (e:Ending) (w':World):Prop:=e = .returned (.bool b) ∧ Below W.heap.size W w'
def SameI (W:World) (n:Int) (e:Ending) (w':World):Prop:=e = .returned (.int .i64 n) ∧ W = w'
def SameB (W:World) (b:Bool) (e:Ending) (w':World):Prop:=e = .returned (.bool b) ∧ W = w'
theorem lit_here {w:World} {cs:Array Value} {xs:List Value} {e:TypeId} {n k:Nat} (hk:k = w.heap.size) (hn:n = xs.length) (hx:cs.toList = xs):Rd (w.alloc (.cells cs e)) (.slice (some ⟨k,0,none⟩) n n) xs:=by
 subst hk; subst hx
 exact Rd.lit (by simpa using hn)
end Go.Proofs.YtckojimeglkobaaGreatDoor