/- Kit, NamesSpec, TermSpec, ValSpec, EvalSpec, ActSpec, joined. -/
import Derived.WalkKit
import Derived.WalkSpells
import Derived.WalkLawsBesides
import Derived.Lib.Hide
import Derived.Lib.SlicesS
import Derived.Maps.AppendAt
import Derived.Deep.AppendLies
import Derived.Deep.Draws
import Derived.Sort.OwnSorted
import Derived.Lib.SlicesCompact
import Derived.Sort.Walk0
namespace Go.Proofs.YtejbpleghjgpbaaGreatDoor
open Go.RowKit
def Rd (w:World) (v:Value) (xs:List Value):Prop :=
 ∃ (A:Option Addr) (n c:Nat),v = .slice A n c ∧ n = xs.length ∧ n ≤ c ∧ (0 < n → ∃ b off,A = some ⟨b,off,none⟩ ∧ b < w.heap.size ∧ ∀ j u,xs[j]? = some u → w.cell? ⟨b,off + j,none⟩ = some u)
section
variable {w w':World} {v:Value} {xs:List Value}
theorem Rd.of_keep (h:Rd w v xs) (hs:w.heap.size ≤ w'.heap.size) (hk:∀ p:Addr,p.block < w.heap.size → w'.cell? p = w.cell? p):Rd w' v xs:=by
 obtain ⟨A,n,c,rfl,hn,hc,hA⟩:=h
 refine ⟨A,n,c,rfl,hn,hc,fun h0 => ?_⟩
 obtain ⟨b,off,rfl,hlt,hcell⟩:=hA h0
 exact ⟨b,off,rfl,Nat.lt_of_lt_of_le hlt hs,fun j u hj => (hk ⟨b,off + j,none⟩ hlt).trans (hcell j u hj)⟩
theorem Rd.keep (h:Rd w v xs) (hb:Below w.heap.size w w'):Rd w' v xs:=h.of_keep hb.size fun _ hp => hb.cell hp
theorem Rd.drewN (h:Rd w v xs) (k:Nat):Rd (w.drewN k) v xs:=h
theorem Rd.alloc (h:Rd w v xs) (o:Obj):Rd (w.alloc o) v xs:=h.keep ((Below.refl _ _).alloc (Nat.le_refl _) _)
theorem Rd.nil (w:World):Rd w (.slice none 0 0) []:=⟨none,0,0,rfl,rfl,Nat.le_refl _,fun h => absurd h (by omega)⟩
theorem Rd.own {base n:Nat} {e:TypeId} (h:w.ownsRow base e 1 v n xs):Rd w v xs:=by
 obtain ⟨hl,hv⟩:=h
 rw [Nat.mul_one] at hl
 rcases hv with ⟨rfl,rfl⟩ | ⟨g,cap,cur,rfl,hbase,hb,hnc,hcm,hcs,ht⟩
 ·exact ⟨none,0,0,rfl,hl.symm,Nat.le_refl _,fun h => absurd h (by omega)⟩
 ·refine ⟨_,n,cap,rfl,hl.symm,hnc,fun _ => ⟨g,0,rfl,(Array.getElem?_eq_some_iff.1 hb).1,fun j u hj => ?_⟩⟩
  have hj':j < xs.length:=(List.getElem?_eq_some_iff.1 hj).1
  rw [← ht,Nat.mul_one,List.getElem?_take_of_lt (by omega),Array.getElem?_toList] at hj
  simp [World.cell?,hb,hj]
theorem Rd.cells {b off n c:Nat} (hn:n = xs.length) (hc:n ≤ c) (hb:b < w.heap.size) (h:∀ j u,xs[j]? = some u → w.cell? ⟨b,off + j,none⟩ = some u):Rd w (.slice (some ⟨b,off,none⟩) n c) xs :=
 ⟨_,n,c,rfl,hn,hc,fun _ => ⟨b,off,rfl,hb,h⟩⟩
end
theorem addr_add (b off j:Nat):(⟨b,off,none⟩:Addr).add j = ⟨b,off + j,none⟩:=by unfold Addr.add; split <;> simp_all
section
variable {P:Program} (w:World)
theorem run_append_rd (base:Nat) (t ty e:TypeId) (i:TypeInfo) (z:Value) (bytes:Nat) (ht:P.underlying t = some (.slice e)) (hi:P.info? e = some i) (hz:i.zero = some z)
 (hsize:i.size = 1) (hby:i.bytes = bytes) (hzs:z.cells.size = 1)
 (v:Value) (n:Nat) (xs:List Value) (hown:w.ownsRow base e 1 v n xs) (x:Value) (news:List Value) (hx:Rd w x news) (h1:∀ u ∈ news,u.oneCell' = true)
 (h63:n + news.length ≤ maxLen) (hbytes:(n + news.length) * bytes ≤ 140737488355328) (hbase:base ≤ w.heap.size) :
 ∃ v' w',(Builtin.append_ #[t,t] ty #[v,x]).run P w = .ok v' w' ∧ w'.ownsRow base e 1 v' (n + news.length) (xs ++ news) ∧ w.grownBy w' v.ownBlock ∧
   (v'.ownBlock = v.ownBlock ∨ v'.ownBlock = some w.heap.size):=by
 obtain ⟨A,m,c,rfl,hm,hmc,hA⟩:=hx
 subst hm
 rcases Nat.eq_zero_or_pos news.length with h0 | h0
 ·have hn:news = []:=List.eq_nil_of_length_eq_zero h0
  subst hn
  rcases A with _ | a
  ·refine ⟨v,w,?_,by simpa using hown,⟨rfl,rfl,rfl,Nat.le_refl _,fun _ _ _ => rfl⟩,.inl rfl⟩
   rcases hown.2 with ⟨rfl,rfl⟩ | ⟨g,cap,cur,rfl,_,_,hnc,_⟩
   ·simp [Builtin.append_,run_underlying ht,sizeOf,typeInfo,hi,Builtin.lenOf,Builtin.firstCells]
   ·simp [Builtin.append_,run_underlying ht,sizeOf,typeInfo,hi,Builtin.lenOf,Builtin.firstCells,hnc,storeCells]
  ·obtain ⟨v',w',hrun,h2,h3,_,h5⟩:=run_append_own_at (P:=P) w base t ty e i z 1 bytes ht hi hz hsize hby hzs (by omega) v n xs hown a 0 c [] rfl (by simp) (by simp) (by simpa using h63) (by simpa using hbytes) hbase
   exact ⟨v',w',hrun,by simpa using h2,h3,h5⟩
 ·obtain ⟨b,off,rfl,hlt,hcell⟩:=hA h0
  obtain ⟨v',w',hrun,h2,h3,_,h5⟩:=run_append_own_at (P:=P) w base t ty e i z 1 bytes ht hi hz hsize hby hzs (by omega) v n xs hown ⟨b,off,none⟩ news.length c news (by simp)
   (fun j u hj => by rw [addr_add]; exact hcell j u hj) h1 h63 hbytes hbase
  exact ⟨v',w',hrun,h2,h3,h5⟩
theorem wpList_append_rd {ops:Array Oper} {rest:List Oper} {o:Oper} {a:Act} {Q:Exit → Act → World → Prop} (hgd:o.guard = none) (s x:Operand) (t:TypeId)
 (ho:o.op = .call { callee:=.builtin .append,args:=#[s,x],argTypes:=#[t,t] })
 (base:Nat) (e:TypeId) (i:TypeInfo) (z:Value) (bytes:Nat) (ht:P.underlying t = some (.slice e)) (hi:P.info? e = some i) (hz:i.zero = some z)
 (hsize:i.size = 1) (hby:i.bytes = bytes) (hzs:z.cells.size = 1)
 (v:Value) (n:Nat) (xs:List Value) (hs:a.eval s = v) (hown:w.ownsRow base e 1 v n xs) (y:Value) (news:List Value) (hy:a.eval x = y) (hr:Rd w y news) (h1:∀ u ∈ news,u.oneCell' = true)
 (h63:n + news.length ≤ maxLen) (hbytes:(n + news.length) * bytes ≤ 140737488355328) (hbase:base ≤ w.heap.size)
 (h:∀ v' w',w'.ownsRow base e 1 v' (n + news.length) (xs ++ news) → w.grownBy w' v.ownBlock → (v'.ownBlock = v.ownBlock ∨ v'.ownBlock = some w.heap.size) → wpList P ops Q rest (a.put o.dst v') w'):wpList P ops Q (o :: rest) a w :=
 wpList_plain hgd fun _ hK => by
  obtain ⟨v',w',hrun,h2,h3,h4⟩:=run_append_rd (P:=P) w base t o.type e i z bytes ht hi hz hsize hby hzs v n xs hown y news hr h1 h63 hbytes hbase
  unfold Oper.wp execOp
  simp only [ho,resolve,invoke,builtin,Sem.run_bind,Sem.run_pure,Result.andThen_ok,List.map_toArray,List.map_cons,List.map_nil,hs,hy,hrun]
  exact hK _ _ (h v' w' h2 h3 h4)
end
def strV (l:List ByteArray):List Value:=l.map .string
def intV (l:List Int):List Value:=l.map (.int .i64)
@[simp] theorem strV_length (l:List ByteArray):(strV l).length = l.length:=by simp [strV]
@[simp] theorem intV_length (l:List Int):(intV l).length = l.length:=by simp [intV]
theorem strV_get (l:List ByteArray) (j:Nat):(strV l)[j]? = l[j]?.map .string:=by simp [strV]
theorem intV_get (l:List Int) (j:Nat):(intV l)[j]? = l[j]?.map (.int .i64):=by simp [intV]
theorem strV_one (l:List ByteArray):∀ u ∈ strV l,u.oneCell' = true:=by
 intro u hu
 obtain ⟨s,_,rfl⟩:=List.mem_map.1 hu
 rfl
theorem intV_one (l:List Int):∀ u ∈ intV l,u.oneCell' = true:=by
 intro u hu
 obtain ⟨s,_,rfl⟩:=List.mem_map.1 hu
 rfl
theorem strV_append (a b:List ByteArray):strV a ++ strV b = strV (a ++ b):=by simp [strV]
theorem intV_append (a b:List Int):intV a ++ intV b = intV (a ++ b):=by simp [intV]
theorem Rd.strs {w:World} {v:Value} {l:List ByteArray} (h:Rd w v (strV l)) :
 ∃ (A:Option Addr) (n c:Nat),v = .slice A n c ∧ l.length = n ∧ n ≤ c ∧ (0 < n → ∃ b off,A = some ⟨b,off,none⟩ ∧ b < w.heap.size ∧ ∀ j s,l[j]? = some s → w.cell? ⟨b,off + j,none⟩ = some (.string s)):=by
 obtain ⟨A,n,c,rfl,hn,hc,hA⟩:=h
 refine ⟨A,n,c,rfl,by simpa using hn.symm,hc,fun h0 => ?_⟩
 obtain ⟨b,off,rfl,hb,hcell⟩:=hA h0
 exact ⟨b,off,rfl,hb,fun j s hj => hcell j _ (by rw [strV_get,hj]; rfl)⟩
theorem Rd.ints {w:World} {v:Value} {l:List Int} (h:Rd w v (intV l)) :
 ∃ (A:Option Addr) (n c:Nat),v = .slice A n c ∧ l.length = n ∧ n ≤ c ∧ (0 < n → ∃ b off,A = some ⟨b,off,none⟩ ∧ b < w.heap.size ∧ ∀ j s,l[j]? = some s → w.cell? ⟨b,off + j,none⟩ = some (.int .i64 s)):=by
 obtain ⟨A,n,c,rfl,hn,hc,hA⟩:=h
 refine ⟨A,n,c,rfl,by simpa using hn.symm,hc,fun h0 => ?_⟩
 obtain ⟨b,off,rfl,hb,hcell⟩:=hA h0
 exact ⟨b,off,rfl,hb,fun j s hj => hcell j _ (by rw [intV_get,hj]; rfl)⟩
theorem Rd.lit {w:World} {cs:Array Value} {e:TypeId} {n:Nat} (hn:n = cs.size):Rd (w.alloc (.cells cs e)) (.slice (some ⟨w.heap.size,0,none⟩) n n) cs.toList :=
 Rd.cells (by simpa using hn) (Nat.le_refl _) (by simp) fun j u hj => by
  rw [Array.getElem?_toList] at hj
  rw [World.cell?_alloc_at _ _ _ _ rfl]
  simpa using hj
theorem ret_bool {a b:Bool} (h:a = b):Ending.returned (.bool a) = .returned (.bool b):=by rw [h]
theorem ret_int {a b:Int} (h:a = b):Ending.returned (.int .i64 a) = .returned (.int .i64 b):=by rw [h]
theorem bytes_ne {x y:ByteArray} (h:(x.toList == y.toList) = false):x ≠ y:=(Lib.bytes_beq_false_iff x y).1 h
theorem bytes_eq {x y:ByteArray} (h:(x.toList == y.toList) = true):x = y:=(Lib.bytes_beq_iff x y).1 h
theorem below_two' {a b c:World} (h:Below a.heap.size a b) (k:Below b.heap.size b c):Below a.heap.size a c:=h.trans (k.mono h.size)
theorem below_drewN {B:Nat} {a w:World} (h:Below B a w) (n:Nat):Below B a (w.drewN n):=⟨h.os,h.tape,h.output,h.size,h.block⟩
theorem get_lt {α:Type} {l:List α} {k:Nat} {x:α} (h:l[k]? = some x):k < l.length:=(List.getElem?_eq_some_iff.1 h).1
theorem get_some {α:Type} {l:List α} {k:Nat} (h:k < l.length):∃ x,l[k]? = some x:=⟨l[k],List.getElem?_eq_getElem h⟩
theorem take_next {α:Type} {l:List α} {k:Nat} {x:α} (h:l[k]? = some x):l.take (k + 1) = l.take k ++ [x]:=by rw [List.take_add_one,h]; rfl
end Go.Proofs.YtejbpleghjgpbaaGreatDoor
namespace Go.Proofs.YtejbpleghjgpbaaGreatDoor
namespace NamesSpec
open Go.Lib
def kw:List (List UInt8):=[[99,104,97,114,116],[101,118,101,110,116],[118,97,114],[108,101,97,102],[111,114],[97,110,100],[101,110,116,101,114],[101,120,105,116],[111,110],[97,117,116,111],[97,110,121],[105,110],[109,105,110],[109,97,120],[110,111,116],[116,114,117,101],[102,97,108,115,101]]
def kwS:List ByteArray:=[⟨#[99,104,97,114,116]⟩,⟨#[101,118,101,110,116]⟩,⟨#[118,97,114]⟩,⟨#[108,101,97,102]⟩,⟨#[111,114]⟩,⟨#[97,110,100]⟩,⟨#[101,110,116,101,114]⟩,⟨#[101,120,105,116]⟩,⟨#[111,110]⟩,⟨#[97,117,116,111]⟩,⟨#[97,110,121]⟩,⟨#[105,110]⟩,⟨#[109,105,110]⟩,⟨#[109,97,120]⟩,⟨#[110,111,116]⟩,⟨#[116,114,117,101]⟩,⟨#[102,97,108,115,101]⟩]
def isKw (l:List UInt8):Bool:=kw.contains l
def letter (c:UInt8):Bool:=97 ≤ c && c ≤ 122
def later (c:UInt8):Bool:=letter c || (48 ≤ c && c ≤ 57) || c == 95
def isName (l:List UInt8):Bool:=decide (0 < l.length) && decide (l.length ≤ 12) && !isKw l && l.all later && l.head?.any letter
theorem isName_size {l:List UInt8} (h:l.length = 0 ∨ 12 < l.length):isName l = false:=by
 unfold isName
 rcases h with h | h
 ·rw [h]; rfl
 ·rw [decide_eq_false (show ¬ l.length ≤ 12 by omega)]; simp
theorem isName_kw {l:List UInt8} (h:isKw l = true):isName l = false:=by unfold isName; rw [h]; simp
theorem isName_later {l:List UInt8} {k:Nat} {c:UInt8} (hc:l[k]? = some c) (h:later c = false):isName l = false:=by
 have:l.all later = false:=by
  rw [List.all_eq_false]
  exact ⟨c,List.mem_of_getElem? hc,by simp [h]⟩
 unfold isName; rw [this]; simp
theorem isName_head {l:List UInt8} {c:UInt8} (hc:l[0]? = some c) (h:letter c = false):isName l = false:=by
 have:l.head?.any letter = false:=by rw [List.head?_eq_getElem?,hc]; simpa using h
 unfold isName; rw [this]; simp
theorem isName_yes {l:List UInt8} (h1:0 < l.length) (h2:l.length ≤ 12) (h3:isKw l = false) (h4:l.all later = true) (h5:∀ c,l[0]? = some c → letter c = true):isName l = true:=by
 have h6:l.head?.any letter = true:=by
  cases l with
  | nil => simp at h1
  | cons c t => simpa using h5 c rfl
 unfold isName; rw [decide_eq_true h1,decide_eq_true h2,h3,h4,h6]; rfl
theorem letter_later {c:UInt8} (h:letter c = true):later c = true:=by unfold later; rw [h]; rfl
theorem kwS_mem (s:ByteArray):s ∈ kwS ↔ isKw s.data.toList = true:=by
 have e:kwS.map (·.data.toList) = kw:=by decide
 unfold isKw
 rw [List.contains_iff_mem,← e,List.mem_map]
 constructor
 ·intro h; exact ⟨s,h,rfl⟩
 ·rintro ⟨x,hx,he⟩
  have:x = s:=ByteArray.ext (Array.toList_inj.mp he)
  exact this ▸ hx
def hasS (l:List ByteArray) (s:ByteArray):Bool:=l.any fun x => decide (x = s)
theorem hasS_iff {l:List ByteArray} {s:ByteArray}:hasS l s = true ↔ s ∈ l:=by
 unfold hasS
 rw [List.any_eq_true]
 constructor
 ·rintro ⟨x,hx,he⟩
  exact of_decide_eq_true he ▸ hx
 ·intro h
  exact ⟨s,h,decide_eq_true rfl⟩
theorem place_ge (l:List ByteArray) (s:ByteArray):decide (0 ≤ idxOfS l s) = hasS l s:=by
 rw [Bool.eq_iff_iff,hasS_iff]; simp [idxOfS_nonneg_iff]
theorem place_kw (s:ByteArray):decide (0 ≤ idxOfS kwS s) = isKw s.data.toList:=by
 rw [place_ge,Bool.eq_iff_iff,hasS_iff,kwS_mem]
theorem place_hit {l:List ByteArray} {k:Nat} {s:ByteArray} (h:l[k]? = some s) (hn:s ∉ l.take k):idxOfS l s = k:=by
 have hk:=get_lt h
 have:=idxOfS_hit l l.length k s hk (Nat.le_refl _) (by rw [List.getD_eq_getElem?_getD,h]; rfl) (fun j hj he => hn (by
  rw [List.mem_iff_getElem?]
  refine ⟨j,?_⟩
  rw [List.getElem?_take_of_lt hj]
  rw [List.getD_eq_getElem?_getD,List.getElem?_eq_getElem (by omega)] at he
  rw [List.getElem?_eq_getElem (by omega)]
  simpa using he))
 rwa [List.take_of_length_le (Nat.le_refl _)] at this
theorem place_miss {l:List ByteArray} {s:ByteArray} (h:s ∉ l):idxOfS l s = -1:=by
 have:=idxOfS_miss l l.length s (fun j hj he => h (by
  rw [List.mem_iff_getElem?]
  refine ⟨j,?_⟩
  rw [List.getD_eq_getElem?_getD,List.getElem?_eq_getElem hj] at he
  rw [List.getElem?_eq_getElem hj]
  simpa using he))
 rwa [List.take_of_length_le (Nat.le_refl _)] at this
theorem first_at {l:List ByteArray} {s:ByteArray} (h:s ∈ l):∃ k:Nat,l[k]? = some s ∧ s ∉ l.take k:=by
 induction l with
 | nil => simp at h
 | cons a t ih =>
   by_cases ha:a = s
   ·exact ⟨0,by simp [ha],by simp⟩
   ·have ht:s ∈ t:=by
     rcases List.mem_cons.1 h with h | h
     ·exact absurd h.symm ha
     ·exact h
    obtain ⟨k,h1,h2⟩:=ih ht
    refine ⟨k + 1,by simpa using h1,?_⟩
    rw [List.take_succ_cons,List.mem_cons]
    rintro (h3 | h3)
    ·exact ha h3.symm
    ·exact h2 h3
theorem place_bd (l:List ByteArray) (s:ByteArray):-1 ≤ idxOfS l s ∧ idxOfS l s ≤ l.length:=by
 by_cases h:s ∈ l
 ·obtain ⟨k,h1,h2⟩:=first_at h
  rw [place_hit h1 h2]
  have:=get_lt h1
  omega
 ·rw [place_miss h]; omega
def twinsTo (l:List ByteArray) (k:Nat):List Int:=((List.range k).filter fun i => hasS (l.take i) (l.getD i ByteArray.empty)).map fun (i:Nat) => (i:Int)
def twins (l:List ByteArray):List Int:=twinsTo l l.length
theorem getD_of {l:List ByteArray} {k:Nat} {s:ByteArray} (h:l[k]? = some s):l.getD k ByteArray.empty = s:=by rw [List.getD_eq_getElem?_getD,h]; rfl
theorem twinsTo_yes {l:List ByteArray} {k:Nat} {s:ByteArray} (h:l[k]? = some s) (hm:hasS (l.take k) s = true):twinsTo l (k + 1) = twinsTo l k ++ [(k:Int)]:=by
 unfold twinsTo
 rw [List.range_succ,List.filter_append,List.map_append,List.filter_cons,getD_of h,if_pos hm]
 rfl
theorem twinsTo_no {l:List ByteArray} {k:Nat} {s:ByteArray} (h:l[k]? = some s) (hm:hasS (l.take k) s = false):twinsTo l (k + 1) = twinsTo l k:=by
 unfold twinsTo
 rw [List.range_succ,List.filter_append,List.map_append,List.filter_cons,getD_of h,if_neg (by rw [hm]; simp)]
 simp
theorem twinsTo_length (l:List ByteArray) (k:Nat):(twinsTo l k).length ≤ k:=by
 unfold twinsTo
 rw [List.length_map]
 exact Nat.le_trans (List.length_filter_le _ _) (Nat.le_of_eq List.length_range)
def times (l:List ByteArray) (s:ByteArray):Int:=((l.filter fun x => decide (x = s)).length:Nat)
theorem times_snoc (l:List ByteArray) (x s:ByteArray):times (l ++ [x]) s = times l s + (if x = s then 1 else 0):=by
 unfold times
 rw [List.filter_append,List.length_append]
 by_cases h:x = s <;> simp [h]
theorem times_bd (l:List ByteArray) (s:ByteArray):0 ≤ times l s ∧ times l s ≤ l.length:=by
 unfold times
 have:=List.length_filter_le (fun x => decide (x = s)) l
 omega
theorem times_has (l:List ByteArray) (s:ByteArray):decide (0 < times l s) = hasS l s:=by
 unfold times hasS
 rw [Bool.eq_iff_iff,decide_eq_true_iff,List.any_eq_true,Int.natCast_pos,List.length_pos_iff_exists_mem]
 constructor
 ·rintro ⟨x,hx⟩
  exact ⟨x,(List.mem_filter.1 hx).1,(List.mem_filter.1 hx).2⟩
 ·rintro ⟨x,hx,he⟩
  exact ⟨x,List.mem_filter.2 ⟨hx,he⟩⟩
end NamesSpec
end Go.Proofs.YtejbpleghjgpbaaGreatDoor
namespace Go.Proofs.YtejbpleghjgpbaaGreatDoor
namespace TermSpec
open NamesSpec
structure Tm where
 op:Int
 n:Int
 s:ByteArray
def ar (o:Int):Int :=
 if o = 1 ∨ o = 2 ∨ o = 9 ∨ o = 10 ∨ o = 11 then 0 else if o = 3 ∨ o = 12 then 1 else if o = 4 ∨ o = 5 ∨ o = 6 ∨ o = 7 ∨ o = 8 ∨ o = 13 ∨ o = 14 ∨ o = 15 ∨ o = 16 ∨ o = 17 ∨ o = 18 ∨ o = 19 ∨ o = 20 then 2 else -1
def arN (o:Int):Nat:=(ar o).toNat
theorem ar_bd (o:Int):-1 ≤ ar o ∧ ar o ≤ 2:=by unfold ar; (repeat' split) <;> omega
theorem arN_of {o:Int} (h:0 ≤ ar o):(arN o:Int) = ar o:=by unfold arN; omega
theorem ar_out {o:Int} (h:o < 1 ∨ 20 < o):ar o = -1:=by unfold ar; rw [if_neg (by omega),if_neg (by omega),if_neg (by omega)]
theorem ar_in {o:Int}:0 ≤ ar o ↔ 1 ≤ o ∧ o ≤ 20:=by unfold ar; (repeat' split) <;> omega
def fin:Nat → List Tm → Nat → Int
 | 0,_,p => p
 | _ + 1,[],_ => -1
 | k + 1,t :: r,p => if ar t.op < 0 then -1 else fin (k + arN t.op) r (p + 1)
def cnt:Nat → List Tm → Option Nat
 | 0,_ => some 0
 | _ + 1,[] => none
 | k + 1,t :: r => if ar t.op < 0 then none else (cnt (k + arN t.op) r).map (· + 1)
theorem cnt_zero (l:List Tm):cnt 0 l = some 0:=by cases l <;> rfl
theorem fin_zero (l:List Tm) (p:Nat):fin 0 l p = p:=by cases l <;> rfl
theorem cnt_cons (k:Nat) (t:Tm) (r:List Tm):cnt (k + 1) (t :: r) = if ar t.op < 0 then none else (cnt (k + arN t.op) r).map (· + 1):=rfl
theorem fin_cons (k:Nat) (t:Tm) (r:List Tm) (p:Nat):fin (k + 1) (t :: r) p = if ar t.op < 0 then -1 else fin (k + arN t.op) r (p + 1):=rfl
theorem cnt_step {k m:Nat} {t:Tm} {r:List Tm} (h:cnt (k + 1) (t :: r) = some m):0 ≤ ar t.op ∧ ∃ m',m = m' + 1 ∧ cnt (k + arN t.op) r = some m':=by
 rw [cnt_cons] at h
 split at h
 ·cases h
 ·cases hc:cnt (k + arN t.op) r with
  | none => rw [hc] at h; cases h
  | some m' => rw [hc] at h; cases h; exact ⟨by omega,m',rfl,rfl⟩
theorem cnt_mk {k m:Nat} {t:Tm} {r:List Tm} (h0:0 ≤ ar t.op) (h:cnt (k + arN t.op) r = some m):cnt (k + 1) (t :: r) = some (m + 1):=by
 rw [cnt_cons,if_neg (by omega),h]; rfl
theorem fin_some:∀ {l:List Tm} {k m p:Nat},cnt k l = some m → fin k l p = (p + m:Nat)
 | l,0,m,p,h => by rw [cnt_zero] at h; cases h; rw [fin_zero]; rfl
 | [],k + 1,m,p,h => by cases h
 | t :: r,k + 1,m,p,h => by
   obtain ⟨h0,m',rfl,h'⟩:=cnt_step h
   rw [fin_cons,if_neg (by omega),fin_some h']
   omega
theorem fin_none:∀ {l:List Tm} {k p:Nat},cnt k l = none → fin k l p = -1
 | l,0,p,h => by rw [cnt_zero] at h; cases h
 | [],k + 1,p,h => rfl
 | t :: r,k + 1,p,h => by
   rw [fin_cons]
   split
   ·rfl
   ·rename_i h0
    refine fin_none ?_
    rw [cnt_cons,if_neg h0] at h
    simpa using h
theorem cnt_le:∀ {l:List Tm} {k m:Nat},cnt k l = some m → m ≤ l.length ∧ k ≤ m
 | l,0,m,h => by rw [cnt_zero] at h; cases h; exact ⟨Nat.zero_le _,Nat.le_refl _⟩
 | [],k + 1,m,h => by cases h
 | t :: r,k + 1,m,h => by
   obtain ⟨h0,m',rfl,h'⟩:=cnt_step h
   have:=cnt_le h'
   simp only [List.length_cons]
   omega
theorem cnt_add:∀ (l:List Tm) (a b:Nat),cnt (a + b) l = (cnt a l).bind fun m => (cnt b (l.drop m)).map (m + ·)
 | l,0,b => by rw [cnt_zero,Nat.zero_add]; simp
 | [],a + 1,b => by rw [show a + 1 + b = (a + b) + 1 by omega]; rfl
 | t :: r,a + 1,b => by
   rw [show a + 1 + b = (a + b) + 1 by omega,cnt_cons,cnt_cons]
   split
   ·rfl
   ·rw [show a + b + arN t.op = a + arN t.op + b by omega,cnt_add r (a + arN t.op) b]
    cases cnt (a + arN t.op) r with
    | none => rfl
    | some m =>
      simp only [Option.map_some,Option.bind_some,List.drop_succ_cons,Option.map_map]
      congr 1
      funext x
      simp only [Function.comp]
      omega
theorem cnt_split {l:List Tm} {a b m:Nat} (h:cnt (a + b) l = some m):∃ x y,cnt a l = some x ∧ cnt b (l.drop x) = some y ∧ m = x + y:=by
 rw [cnt_add] at h
 cases ha:cnt a l with
 | none => rw [ha] at h; cases h
 | some x =>
   rw [ha] at h
   simp only [Option.bind_some] at h
   cases hb:cnt b (l.drop x) with
   | none => rw [hb] at h; cases h
   | some y => rw [hb] at h; cases h; exact ⟨x,y,rfl,hb,rfl⟩
theorem cnt_join {l:List Tm} {a b x y:Nat} (h:cnt a l = some x) (h':cnt b (l.drop x) = some y):cnt (a + b) l = some (x + y):=by
 rw [cnt_add,h,Option.bind_some,h']; rfl
theorem cnt_stop {l:List Tm} {a b x:Nat} (h:cnt a l = some x) (h':cnt b (l.drop x) = none):cnt (a + b) l = none:=by
 rw [cnt_add,h,Option.bind_some,h']; rfl
theorem cnt_none {l:List Tm} {a:Nat} (h:cnt a l = none) (b:Nat):cnt (a + b) l = none:=by rw [cnt_add,h]; rfl
theorem cnt_valid:∀ {l:List Tm} {k m:Nat},cnt k l = some m → ∀ t ∈ l.take m,0 ≤ ar t.op
 | l,0,m,h => by rw [cnt_zero] at h; cases h; simp
 | [],k + 1,m,h => by cases h
 | t :: r,k + 1,m,h => by
   obtain ⟨h0,m',rfl,h'⟩:=cnt_step h
   intro u hu
   rw [List.take_succ_cons,List.mem_cons] at hu
   rcases hu with rfl | hu
   ·exact h0
   ·exact cnt_valid h' u hu
def stack {α:Type} (f:Int → List α → α):List Tm → List α
 | [] => []
 | t :: r => f t.op ((stack f r).take (arN t.op)) :: (stack f r).drop (arN t.op)
section
variable {α:Type} {f:Int → List α → α}
theorem stack_cons (t:Tm) (r:List Tm):stack f (t :: r) = f t.op ((stack f r).take (arN t.op)) :: (stack f r).drop (arN t.op):=rfl
theorem stack_drop:∀ {l:List Tm} {k m:Nat},cnt k l = some m → stack f (l.drop m) = (stack f l).drop k
 | l,0,m,h => by rw [cnt_zero] at h; cases h; rfl
 | [],k + 1,m,h => by cases h
 | t :: r,k + 1,m,h => by
   obtain ⟨h0,m',rfl,h'⟩:=cnt_step h
   rw [List.drop_succ_cons,stack_drop h',stack_cons,List.drop_succ_cons,List.drop_drop,Nat.add_comm]
theorem stack_len:∀ {l:List Tm} {k m:Nat},cnt k l = some m → k ≤ (stack f l).length
 | l,0,m,h => Nat.zero_le _
 | [],k + 1,m,h => by cases h
 | t :: r,k + 1,m,h => by
   obtain ⟨h0,m',rfl,h'⟩:=cnt_step h
   have:=stack_len h'
   rw [stack_cons,List.length_cons,List.length_drop]
   omega
end
def come (f:Int → List Int → Int) (l:List Tm):Int:=(stack f l).headD 0
section
variable {f:Int → List Int → Int}
theorem come_cons (t:Tm) (r:List Tm):come f (t :: r) = f t.op ((stack f r).take (arN t.op)):=rfl
theorem stack_get {l:List Tm} {k m:Nat} (h:cnt (k + 1) l = some m):∃ x,cnt k l = some x ∧ (stack f l)[k]? = some (come f (l.drop x)):=by
 obtain ⟨x,y,hx,hy,_⟩:=cnt_split h
 refine ⟨x,hx,?_⟩
 have h1:=stack_len (f:=f) h
 rw [come,stack_drop hx]
 have h2:k < (stack f l).length:=by omega
 rw [List.getElem?_eq_getElem h2,List.drop_eq_getElem_cons h2]
 rfl
theorem stack_take_next {l:List Tm} {k m x:Nat} (h:cnt (k + 1) l = some m) (hx:cnt k l = some x):(stack f l).take (k + 1) = (stack f l).take k ++ [come f (l.drop x)]:=by
 obtain ⟨x',hx',hg⟩:=stack_get (f:=f) h
 rw [hx] at hx'
 cases hx'
 exact take_next hg
end
def belows (l:List Tm) (at_ k:Nat):List Int:=(List.range k).map fun i => ((at_ + 1 + (cnt i (l.drop (at_ + 1))).getD 0:Nat):Int)
theorem belows_length (l:List Tm) (a k:Nat):(belows l a k).length = k:=by simp [belows]
theorem belows_get {l:List Tm} {a k i:Nat} (h:i < k):(belows l a k)[i]? = some ((a + 1 + (cnt i (l.drop (a + 1))).getD 0:Nat):Int):=by
 simp [belows,h]
theorem belows_next (l:List Tm) (a k:Nat):belows l a (k + 1) = belows l a k ++ [((a + 1 + (cnt k (l.drop (a + 1))).getD 0:Nat):Int)]:=by
 unfold belows
 rw [List.range_succ,List.map_append]
 rfl
def endA (l:List Tm) (a:Int):Int:=if a < 0 then -1 else fin 1 (l.drop a.toNat) a.toNat
theorem endA_neg {l:List Tm} {a:Int} (h:a < 0):endA l a = -1:=if_pos h
theorem endA_nat (l:List Tm) (a:Nat):endA l a = fin 1 (l.drop a) a:=by unfold endA; rw [if_neg (by omega)]; rfl
theorem endA_out {l:List Tm} {a:Int} (h:(l.length:Int) ≤ a):endA l a = -1:=by
 unfold endA
 rw [if_neg (by omega),List.drop_eq_nil_of_le (by omega)]
 rfl
theorem drop_get {l:List Tm} {a:Nat} {t:Tm} (h:l[a]? = some t):l.drop a = t :: l.drop (a + 1):=by
 obtain ⟨ha,rfl⟩:=List.getElem?_eq_some_iff.1 h
 exact List.drop_eq_getElem_cons ha
theorem endA_bad {l:List Tm} {a:Nat} {t:Tm} (h:l[a]? = some t) (h0:ar t.op < 0):endA l a = -1:=by
 rw [endA_nat,drop_get h,fin_cons,if_pos h0]
theorem endA_at {l:List Tm} {a:Nat} {t:Tm} (h:l[a]? = some t) (h0:0 ≤ ar t.op):endA l a = fin (arN t.op) (l.drop (a + 1)) (a + 1):=by
 rw [endA_nat,drop_get h,fin_cons,if_neg (by omega),Nat.zero_add]
theorem endA_some {l:List Tm} {a m:Nat} (h:cnt 1 (l.drop a) = some m):endA l a = (a + m:Nat):=by rw [endA_nat,fin_some h]
theorem endA_none {l:List Tm} {a:Nat} (h:cnt 1 (l.drop a) = none):endA l a = -1:=by rw [endA_nat,fin_none h]
theorem endA_nn {l:List Tm} {a:Int} (h:0 ≤ endA l a):∃ k m:Nat,a = k ∧ cnt 1 (l.drop k) = some m ∧ endA l a = (k + m:Nat) ∧ 0 < m ∧ k + m ≤ l.length:=by
 by_cases h0:a < 0
 ·rw [endA_neg h0] at h; omega
 ·obtain ⟨k,rfl⟩:=Int.eq_ofNat_of_zero_le (Int.not_lt.1 h0)
  cases hc:cnt 1 (l.drop k) with
  | none => rw [show ((k:Nat):Int) = (k:Int) from rfl,endA_none hc] at h; omega
  | some m =>
    have:=cnt_le hc
    rw [List.length_drop] at this
    exact ⟨k,m,rfl,hc,endA_some hc,by omega,by omega⟩
theorem first_of {l:List Tm} {a m:Nat} (h:cnt 1 (l.drop a) = some m):∃ t m',l[a]? = some t ∧ 0 ≤ ar t.op ∧ m = m' + 1 ∧ cnt (arN t.op) (l.drop (a + 1)) = some m':=by
 cases hd:l.drop a with
 | nil => rw [hd] at h; cases h
 | cons t r =>
   have ha:a < l.length:=by
    rcases Nat.lt_or_ge a l.length with h | h
    ·exact h
    ·rw [List.drop_eq_nil_of_le h] at hd; cases hd
   rw [List.drop_eq_getElem_cons ha] at hd
   injection hd with h1 h2
   subst h1; subst h2
   rw [List.drop_eq_getElem_cons ha] at h
   obtain ⟨h0,m',rfl,h'⟩:=cnt_step h
   exact ⟨_,m',List.getElem?_eq_getElem ha,h0,rfl,by rwa [Nat.zero_add] at h'⟩
def deepest (bs:List Int):Int:=bs.foldl (fun a b => if a < b then b else a) 0
theorem deepest_snoc (bs:List Int) (d:Int):deepest (bs ++ [d]) = if deepest bs < d then d else deepest bs:=by unfold deepest; rw [List.foldl_append]; rfl
def depF (_:Int) (bs:List Int):Int:=deepest bs + 1
theorem deepest_bd {B:Int} (hB:0 ≤ B) (bs:List Int) (h:∀ b ∈ bs,b ≤ B):0 ≤ deepest bs ∧ deepest bs ≤ B:=by
 unfold deepest
 have key:∀ (bs:List Int) (a:Int),0 ≤ a → a ≤ B → (∀ b ∈ bs,b ≤ B) → 0 ≤ bs.foldl (fun a b => if a < b then b else a) a ∧ bs.foldl (fun a b => if a < b then b else a) a ≤ B:=by
  intro bs
  induction bs with
  | nil => intro a h0 h1 _; exact ⟨h0,h1⟩
  | cons b t ih =>
    intro a h0 h1 h2
    have hb:=h2 b (by simp)
    rw [List.foldl_cons]
    refine ih _ ?_ ?_ (fun c hc => h2 c (by simp [hc]))
    ·split <;> omega
    ·split <;> omega
 exact key bs 0 (Int.le_refl 0) hB h
theorem stack_depth:∀ (l:List Tm),∀ d ∈ stack depF l,1 ≤ d ∧ d ≤ l.length
 | [] => by simp [stack]
 | t :: r => by
   intro d hd
   have ih:=stack_depth r
   rw [stack_cons,List.mem_cons] at hd
   rw [List.length_cons]
   rcases hd with rfl | hd
   ·have:=deepest_bd (B:=r.length) (by omega) ((stack depF r).take (arN t.op)) (fun b hb => (ih b (List.mem_of_mem_take hb)).2)
    have e:depF t.op ((stack depF r).take (arN t.op)) = deepest ((stack depF r).take (arN t.op)) + 1:=rfl
    omega
   ·have:=ih d (List.mem_of_mem_drop hd)
    omega
theorem come_depth {l:List Tm} {m:Nat} (h:cnt 1 l = some m):1 ≤ come depF l ∧ come depF l ≤ l.length:=by
 have h1:=stack_len (f:=depF) h
 cases hs:stack depF l with
 | nil => rw [hs] at h1; simp at h1
 | cons d t =>
   have:=stack_depth l d (by rw [hs]; simp)
   rw [come,hs]
   exact this
def ownT (o:Int):Int:=if o = 1 ∨ o = 2 ∨ o = 3 ∨ o = 4 ∨ o = 5 ∨ o = 6 ∨ o = 7 ∨ o = 8 then 1 else 2
def askT (o:Int):Int:=if o = 1 ∨ o = 2 ∨ o = 3 ∨ o = 4 ∨ o = 5 ∨ o = 6 ∨ o = 7 ∨ o = 8 ∨ o = 13 ∨ o = 14 ∨ o = 15 ∨ o = 16 ∨ o = 17 ∨ o = 18 then 1 else 2
def typF (o:Int) (bs:List Int):Int:=if bs.all (fun b => decide (b = askT o)) then ownT o else 0
def wholeB (l:List Tm):Bool:=decide (l.length ≤ 40) && decide (cnt 1 l = some l.length)
theorem wholeB_iff {l:List Tm}:wholeB l = true ↔ l.length ≤ 40 ∧ cnt 1 l = some l.length:=by simp [wholeB]
def tell (f:Int → List Int → Int) (l:List Tm):Int:=if wholeB l then come f l else 0
def depth (l:List Tm):Int:=tell depF l
def typ (l:List Tm):Int:=tell typF l
theorem depth_zero {l:List Tm}:(depth l = 0) ↔ wholeB l = false:=by
 unfold depth tell
 cases h:wholeB l with
 | false => simp
 | true =>
   have:=come_depth (wholeB_iff.1 h).2
   simp
   omega
def mayB (t:Tm):Bool :=
 (if t.op = 1 then decide (0 ≤ t.n) && decide (t.n ≤ 1000000) else decide (t.n = 0)) && (if t.op = 2 ∨ t.op = 11 then isName t.s.data.toList else decide (t.s.size = 0))
def chk (l:List Tm):Int :=
 if 40 < l.length then 8 else if wholeB l = false then 1 else if l.all mayB = false then 1 else if 12 < depth l then 6 else 0
theorem chk_ok {l:List Tm} (h:chk l = 0):wholeB l = true ∧ l.all mayB = true ∧ depth l ≤ 12:=by
 unfold chk at h
 split at h
 ·omega
 split at h
 ·omega
 rename_i h1
 split at h
 ·omega
 rename_i h2
 split at h
 ·omega
 rename_i h3
 exact ⟨by simpa using h1,by simpa using h2,by omega⟩
def namesOf (l:List Tm) (o:Int):List ByteArray:=(l.filter fun t => decide (t.op = o)).map (·.s)
theorem namesOf_yes {l:List Tm} {o:Int} {k:Nat} {t:Tm} (h:l[k]? = some t) (he:t.op = o):namesOf (l.take (k + 1)) o = namesOf (l.take k) o ++ [t.s]:=by
 unfold namesOf; rw [take_next h,List.filter_append,List.map_append]; simp [he]
theorem namesOf_no {l:List Tm} {o:Int} {k:Nat} {t:Tm} (h:l[k]? = some t) (he:t.op ≠ o):namesOf (l.take (k + 1)) o = namesOf (l.take k) o:=by
 unfold namesOf; rw [take_next h,List.filter_append,List.map_append]; simp [he]
theorem namesOf_length (l:List Tm) (o:Int):(namesOf l o).length ≤ l.length:=by
 unfold namesOf; rw [List.length_map]; exact List.length_filter_le _ _
end TermSpec
end Go.Proofs.YtejbpleghjgpbaaGreatDoor
namespace Go.Proofs.YtejbpleghjgpbaaGreatDoor
namespace ValSpec
def near (x:Int):Int:=if x < -1000000 then -1000000 else if 1000000 < x then 1000000 else x
def times (a b:Int):Int:=near (near a * near b)
end ValSpec
end Go.Proofs.YtejbpleghjgpbaaGreatDoor
namespace Go.Proofs.YtejbpleghjgpbaaGreatDoor
namespace EvalSpec
open TermSpec NamesSpec ValSpec Go.Lib
structure Vr where
 s:ByteArray
 lo:Int
 hi:Int
 ini:Int
structure Ev where
 vars:List Vr
 v0:Int
 v1:Int
 v2:Int
 v3:Int
 ins:List ByteArray
def vnames (e:Ev):List ByteArray:=e.vars.map (·.s)
def valAt (e:Ev) (p:Int):Int:=if p = 0 then e.v0 else if p = 1 then e.v1 else if p = 2 then e.v2 else e.v3
def tru (b:Bool):Int:=if b then 1 else 0
def ev1 (o x:Int):Int:=if o = 3 then 0 - x else tru (x == 0)
def ev0 (e:Ev) (t:Tm):Int:=if t.op = 1 then t.n else if t.op = 2 then near (valAt e (idxOfS (vnames e) t.s)) else if t.op = 11 then tru (decide (0 ≤ idxOfS e.ins t.s)) else tru (t.op == 9)
section
variable {e:Ev}
end
section
variable {e:Ev}
end
end EvalSpec
end Go.Proofs.YtejbpleghjgpbaaGreatDoor
namespace Go.Proofs.YtejbpleghjgpbaaGreatDoor
namespace ActSpec
open TermSpec NamesSpec ValSpec EvalSpec Go.Lib
structure Ac where
 s:ByteArray
 any:Bool
 x:List Tm
def oneA (a:Ac):Int:=if isName a.s.data.toList = false then 1 else if a.any = false then chk a.x else if a.x.length = 0 then 0 else 1
def firstA:List Ac → Int
 | [] => 0
 | a :: r => if oneA a = 0 then firstA r else oneA a
def chkA (l:List Ac):Int:=if 8 < l.length then 8 else firstA l
theorem firstA_stop {l:List Ac} {k:Nat} {a:Ac} (h:l[k]? = some a) (h0:firstA (l.take k) = 0) (h1:oneA a ≠ 0):firstA l = oneA a:=by
 induction l generalizing k with
 | nil => simp at h
 | cons b r ih =>
   cases k with
   | zero =>
     simp at h
     subst h
     unfold firstA
     rw [if_neg h1]
   | succ k =>
     rw [List.take_succ_cons] at h0
     unfold firstA at h0 ⊢
     split at h0
     ·rename_i hb
      rw [if_pos hb]
      exact ih (by simpa using h) h0
     ·rename_i hb
      exact absurd h0 hb
theorem firstA_next {l:List Ac} {k:Nat} {a:Ac} (h:l[k]? = some a) (h0:firstA (l.take k) = 0) (h1:oneA a = 0):firstA (l.take (k + 1)) = 0:=by
 induction l generalizing k with
 | nil => simp at h
 | cons b r ih =>
   cases k with
   | zero =>
     simp at h
     subst h
     simp [firstA,h1]
   | succ k =>
     rw [List.take_succ_cons] at h0 ⊢
     unfold firstA at h0 ⊢
     split at h0
     ·rename_i hb
      rw [if_pos hb]
      exact ih (by simpa using h) h0
     ·rename_i hb
      exact absurd h0 hb
theorem firstA_all {l:List Ac} (h:firstA l = 0):∀ a ∈ l,oneA a = 0:=by
 induction l with
 | nil => simp
 | cons b r ih =>
   unfold firstA at h
   split at h
   ·rename_i hb
    intro a ha
    rcases List.mem_cons.1 ha with rfl | ha
    ·exact hb
    ·exact ih h a ha
   ·rename_i hb
    exact absurd h hb
structure V4 where
 a:Int
 b:Int
 c:Int
 d:Int
 deriving DecidableEq
def V4.set (x:V4) (i:Nat) (n:Int):V4:=if i = 0 then { x with a:=n } else if i = 1 then { x with b:=n } else if i = 2 then { x with c:=n } else { x with d:=n }
def lessV (x y:V4):Bool:=if x.a ≠ y.a then decide (x.a < y.a) else if x.b ≠ y.b then decide (x.b < y.b) else if x.c ≠ y.c then decide (x.c < y.c) else decide (x.d < y.d)
def ahead (x:V4):List V4 → Nat
 | [] => 0
 | y :: r => if lessV y x then ahead x r + 1 else 0
end ActSpec
end Go.Proofs.YtejbpleghjgpbaaGreatDoor