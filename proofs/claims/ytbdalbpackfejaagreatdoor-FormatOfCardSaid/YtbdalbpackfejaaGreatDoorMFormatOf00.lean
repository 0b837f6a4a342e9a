/- Kit, NamesSpec, TermSpec, ValSpec, EvalSpec, ActSpec, ValTextSpec, CurSpec, ExprSpec, joined. -/
import Derived.WalkSpells
import Derived.WalkLawsBesides
import Derived.Lib.Hide
import Derived.Lib.SlicesS
import Derived.Deep.AppendLies
import Derived.Sort.OwnSorted
import Derived.Lib.SlicesCompact
import Derived.Sort.Walk0
set_option maxHeartbeats 16000000
set_option maxRecDepth 100000
namespace Go.Proofs.YtbdalbpackfejaaGreatDoor
section
open Go.RowKit
def Rd (w:World) (v:Value) (xs:List Value):Prop :=
 ∃ (A:Option Addr) (n c:Nat),v = .slice A n c/\n=xs.length/\n<=c/\(0<n->∃ b off,A=some ⟨b,off,none⟩/\b<w.heap.size/\∀ j u,xs[j]?=some u->w.cell? ⟨b,off+j,none⟩=some u)
section
variable {w w':World} {v:Value} {xs:List Value}
theorem Rd.of_keep (h:Rd w v xs) (hs:w.heap.size <= w'.heap.size) (hk:∀ p:Addr,p.block < w.heap.size -> w'.cell? p = w.cell? p):Rd w' v xs:=by
 obtain ⟨A,n,c,rfl,hn,hc,hA⟩:=h;refine ⟨A,n,c,rfl,hn,hc,fun h0=>?_⟩;obtain ⟨b,off,rfl,hlt,hcell⟩:=hA h0;exact ⟨b,off,rfl,Nat.lt_of_lt_of_le hlt hs,fun j u hj=>(hk ⟨b,off+j,none⟩ hlt).trans (hcell j u hj)⟩
theorem Rd.keep (h:Rd w v xs) (hb:Below w.heap.size w w'):Rd w' v xs:=h.of_keep hb.size fun _ hp=>hb.cell hp
theorem Rd.drewN (h:Rd w v xs) (k:Nat):Rd (w.drewN k) v xs:=h
theorem Rd.alloc (h:Rd w v xs) (o:Obj):Rd (w.alloc o) v xs:=h.keep ((Below.refl _ _).alloc (Nat.le_refl _) _)
theorem Rd.nil (w:World):Rd w (.slice none 0 0) []:=⟨none,0,0,rfl,rfl,Nat.le_refl _,fun h=>absurd h (by omega)⟩
theorem Rd.own {base n:Nat} {e:TypeId} (h:w.ownsRow base e 1 v n xs):Rd w v xs:=by
 obtain ⟨hl,hv⟩:=h;rw [Nat.mul_one] at hl
 rcases hv with ⟨rfl,rfl⟩ | ⟨g,cap,cur,rfl,hbase,hb,hnc,hcm,hcs,ht⟩
 ·exact ⟨none,0,0,rfl,hl.symm,Nat.le_refl _,fun h=>absurd h (by omega)⟩
 ·refine ⟨_,n,cap,rfl,hl.symm,hnc,fun _ => ⟨g,0,rfl,(Array.getElem?_eq_some_iff.1 hb).1,fun j u hj => ?_⟩⟩
  have hj':j<xs.length:=(List.getElem?_eq_some_iff.1 hj).1;rw [<- ht,Nat.mul_one,List.getElem?_take_of_lt (by omega),Array.getElem?_toList] at hj;simp [World.cell?,hb,hj]
theorem Rd.cells {b off n c:Nat} (hn:n = xs.length) (hc:n <= c) (hb:b < w.heap.size) (h:∀ j u,xs[j]? = some u -> w.cell? ⟨b,off + j,none⟩ = some u):Rd w (.slice (some ⟨b,off,none⟩) n c) xs :=
 ⟨_,n,c,rfl,hn,hc,fun _=>⟨b,off,rfl,hb,h⟩⟩
end
theorem addr_add (b off j:Nat):(⟨b,off,none⟩:Addr).add j=⟨b,off+j,none⟩:=by unfold Addr.add; split<;>simp_all
section
variable {P:Program} (w:World)
theorem Qe4 (base:Nat) (t ty e:TypeId) (i:TypeInfo) (z:Value) (bytes:Nat) (ht:P.underlying t = some (.slice e)) (hi:P.info? e = some i) (hz:i.zero = some z)
 (hsize:i.size=1) (hby:i.bytes=bytes) (hzs:z.cells.size=1)
 (v:Value) (n:Nat) (xs:List Value) (hown:w.ownsRow base e 1 v n xs) (x:Value) (news:List Value) (hx:Rd w x news) (h1:∀ u∈news,u.oneCell'=true)
 (h63:n+news.length<=maxLen) (hbytes:(n+news.length)*bytes<=140737488355328) (hbase:base<=w.heap.size) :
 ∃ v' w',(Builtin.append_ #[t,t] ty #[v,x]).run P w = .ok v' w' /\ w'.ownsRow base e 1 v' (n + news.length) (xs ++ news) /\ w.grownBy w' v.ownBlock /\
   (v'.ownBlock=v.ownBlock\/v'.ownBlock=some w.heap.size):=by
 obtain ⟨A,m,c,rfl,hm,hmc,hA⟩:=hx;subst hm
 rcases Nat.eq_zero_or_pos news.length with h0 | h0
 ·have hn:news = []:=List.eq_nil_of_length_eq_zero h0
  subst hn
  rcases A with _ | a
  ·refine ⟨v,w,?_,by simpa using hown,⟨rfl,rfl,rfl,Nat.le_refl _,fun _ _ _ => rfl⟩,.inl rfl⟩
   rcases hown.2 with ⟨rfl,rfl⟩ | ⟨g,cap,cur,rfl,_,_,hnc,_⟩
   ·simp [Builtin.append_,run_underlying ht,sizeOf,typeInfo,hi,Builtin.lenOf,Builtin.firstCells]
   ·simp [Builtin.append_,run_underlying ht,sizeOf,typeInfo,hi,Builtin.lenOf,Builtin.firstCells,hnc,storeCells]
  ·obtain ⟨v',w',hrun,h2,h3,_,h5⟩:=run_append_own_at (P:=P) w base t ty e i z 1 bytes ht hi hz hsize hby hzs (by omega) v n xs hown a 0 c [] rfl (by simp) (by simp) (by simpa using h63) (by simpa using hbytes) hbase
   exact ⟨v',w',hrun,by simpa using h2,h3,h5⟩
 ·obtain ⟨b,off,rfl,hlt,hcell⟩:=hA h0
  obtain ⟨v',w',hrun,h2,h3,_,h5⟩:=run_append_own_at (P:=P) w base t ty e i z 1 bytes ht hi hz hsize hby hzs (by omega) v n xs hown ⟨b,off,none⟩ news.length c news (by simp)
   (fun j u hj=>by rw [addr_add]; exact hcell j u hj) h1 h63 hbytes hbase
  exact ⟨v',w',hrun,h2,h3,h5⟩
theorem QK {ops:Array Oper} {rest:List Oper} {o:Oper} {a:Act} {Q:Exit -> Act -> World -> Prop} (hgd:o.guard = none) (s x:Operand) (t:TypeId)
 (ho:o.op = .call { callee:=.builtin .append,args:=#[s,x],argTypes:=#[t,t] })
 (base:Nat) (e:TypeId) (i:TypeInfo) (z:Value) (bytes:Nat) (ht:P.underlying t=some (.slice e)) (hi:P.info? e=some i) (hz:i.zero=some z)
 (hsize:i.size=1) (hby:i.bytes=bytes) (hzs:z.cells.size=1)
 (v:Value) (n:Nat) (xs:List Value) (hs:a.eval s=v) (hown:w.ownsRow base e 1 v n xs) (y:Value) (news:List Value) (hy:a.eval x=y) (hr:Rd w y news) (h1:∀ u∈news,u.oneCell'=true)
 (h63:n+news.length<=maxLen) (hbytes:(n+news.length)*bytes<=140737488355328) (hbase:base<=w.heap.size)
 (h:∀ v' w',w'.ownsRow base e 1 v' (n+news.length) (xs++news)->w.grownBy w' v.ownBlock->(v'.ownBlock=v.ownBlock\/v'.ownBlock=some w.heap.size)->wpList P ops Q rest (a.put o.dst v') w'):wpList P ops Q (o::rest) a w :=
 wpList_plain hgd fun _ hK => by
  obtain ⟨v',w',hrun,h2,h3,h4⟩:=Qe4 (P:=P) w base t o.type e i z bytes ht hi hz hsize hby hzs v n xs hown y news hr h1 h63 hbytes hbase;unfold Oper.wp execOp;simp only [ho,resolve,invoke,builtin,Sem.run_bind,Sem.run_pure,Result.andThen_ok,List.map_toArray,List.map_cons,List.map_nil,hs,hy,hrun];exact hK _ _ (h v' w' h2 h3 h4)
end
def strV (l:List ByteArray):List Value:=l.map .string
def intV (l:List Int):List Value:=l.map (.int .i64)
@[simp] theorem strV_length (l:List ByteArray):(strV l).length=l.length:=by simp [strV]
@[simp] theorem intV_length (l:List Int):(intV l).length=l.length:=by simp [intV]
theorem Qht (l:List ByteArray) (j:Nat):(strV l)[j]?=l[j]?.map .string:=by simp [strV]
theorem intV_get (l:List Int) (j:Nat):(intV l)[j]?=l[j]?.map (.int .i64):=by simp [intV]
theorem Qcn (l:List ByteArray):∀ u ∈ strV l,u.oneCell' = true:=by
 intro u hu;obtain ⟨s,_,rfl⟩:=List.mem_map.1 hu
 rfl
theorem ZC (l:List Int):∀ u ∈ intV l,u.oneCell' = true:=by
 intro u hu;obtain ⟨s,_,rfl⟩:=List.mem_map.1 hu
 rfl
theorem Qc7 (a b:List ByteArray):strV a++strV b=strV (a++b):=by simp [strV]
theorem Qdt (a b:List Int):intV a++intV b=intV (a++b):=by simp [intV]
theorem Rd.strs {w:World} {v:Value} {l:List ByteArray} (h:Rd w v (strV l)) :
 ∃ (A:Option Addr) (n c:Nat),v = .slice A n c/\l.length=n/\n<=c/\(0<n->∃ b off,A=some ⟨b,off,none⟩/\b<w.heap.size/\∀ j s,l[j]?=some s->w.cell? ⟨b,off+j,none⟩=some (.string s)):=by
 obtain ⟨A,n,c,rfl,hn,hc,hA⟩:=h;refine ⟨A,n,c,rfl,by simpa using hn.symm,hc,fun h0=>?_⟩;obtain ⟨b,off,rfl,hb,hcell⟩:=hA h0;exact ⟨b,off,rfl,hb,fun j s hj=>hcell j _ (by rw [Qht,hj]; rfl)⟩
theorem Rd.ints {w:World} {v:Value} {l:List Int} (h:Rd w v (intV l)) :
 ∃ (A:Option Addr) (n c:Nat),v = .slice A n c/\l.length=n/\n<=c/\(0<n->∃ b off,A=some ⟨b,off,none⟩/\b<w.heap.size/\∀ j s,l[j]?=some s->w.cell? ⟨b,off+j,none⟩=some (.int .i64 s)):=by
 obtain ⟨A,n,c,rfl,hn,hc,hA⟩:=h;refine ⟨A,n,c,rfl,by simpa using hn.symm,hc,fun h0=>?_⟩;obtain ⟨b,off,rfl,hb,hcell⟩:=hA h0;exact ⟨b,off,rfl,hb,fun j s hj=>hcell j _ (by rw [intV_get,hj]; rfl)⟩
theorem Rd.lit {w:World} {cs:Array Value} {e:TypeId} {n:Nat} (hn:n = cs.size):Rd (w.alloc (.cells cs e)) (.slice (some ⟨w.heap.size,0,none⟩) n n) cs.toList :=
 Rd.cells (by simpa using hn) (Nat.le_refl _) (by simp) fun j u hj => by
  rw [Array.getElem?_toList] at hj;rw [World.cell?_alloc_at _ _ _ _ rfl]
  simpa using hj
theorem Qg {a b:Bool} (h:a=b):Ending.returned (.bool a) = .returned (.bool b):=by rw [h]
theorem Qo {a b:Int} (h:a=b):Ending.returned (.int .i64 a) = .returned (.int .i64 b):=by rw [h]
theorem Qii {x y:ByteArray} (h:(x.toList==y.toList)=false):x≠y:=(Lib.bytes_beq_false_iff x y).1 h
theorem ZB {x y:ByteArray} (h:(x.toList==y.toList)=true):x=y:=(Lib.bytes_beq_iff x y).1 h
theorem Qa {a b c:World} (h:Below a.heap.size a b) (k:Below b.heap.size b c):Below a.heap.size a c:=h.trans (k.mono h.size)
theorem below_drewN {B:Nat} {a w:World} (h:Below B a w) (n:Nat):Below B a (w.drewN n):=⟨h.os,h.tape,h.output,h.size,h.block⟩
theorem Ja {α:Type} {l:List α} {k:Nat} {x:α} (h:l[k]?=some x):k<l.length:=(List.getElem?_eq_some_iff.1 h).1
theorem Qp {α:Type} {l:List α} {k:Nat} (h:k<l.length):∃ x,l[k]?=some x:=⟨l[k],List.getElem?_eq_getElem h⟩
theorem QA {α:Type} {l:List α} {k:Nat} {x:α} (h:l[k]?=some x):l.take (k+1)=l.take k++[x]:=by rw [List.take_add_one,h]; rfl
end
section
namespace NamesSpec
open Go.Lib
def kw:List (List UInt8):=[[99,104,97,114,116],[101,118,101,110,116],[118,97,114],[108,101,97,102],[111,114],[97,110,100],[101,110,116,101,114],[101,120,105,116],[111,110],[97,117,116,111],[97,110,121],[105,110],[109,105,110],[109,97,120],[110,111,116],[116,114,117,101],[102,97,108,115,101]]
def kwS:List ByteArray:=[⟨#[99,104,97,114,116]⟩,⟨#[101,118,101,110,116]⟩,⟨#[118,97,114]⟩,⟨#[108,101,97,102]⟩,⟨#[111,114]⟩,⟨#[97,110,100]⟩,⟨#[101,110,116,101,114]⟩,⟨#[101,120,105,116]⟩,⟨#[111,110]⟩,⟨#[97,117,116,111]⟩,⟨#[97,110,121]⟩,⟨#[105,110]⟩,⟨#[109,105,110]⟩,⟨#[109,97,120]⟩,⟨#[110,111,116]⟩,⟨#[116,114,117,101]⟩,⟨#[102,97,108,115,101]⟩]
def isKw (l:List UInt8):Bool:=kw.contains l
def letter (c:UInt8):Bool:=97<=c&&c<=122
def later (c:UInt8):Bool:=letter c||(48<=c&&c<=57)||c==95
def isName (l:List UInt8):Bool:=decide (0<l.length)&&decide (l.length<=12) && !isKw l&&l.all later&&l.head?.any letter
theorem ZZ {l:List UInt8} (h:l.length = 0 \/ 12 < l.length):isName l = false:=by
 unfold isName
 rcases h with h | h
 ·rw [h]; rfl
 ·rw [decide_eq_false (show ¬ l.length<=12 by omega)]; simp
theorem QfJ {l:List UInt8} (h:isKw l=true):isName l=false:=by unfold isName; rw [h]; simp
theorem QbY {l:List UInt8} {k:Nat} {c:UInt8} (hc:l[k]? = some c) (h:later c = false):isName l = false:=by
 have:l.all later = false:=by
  rw [List.all_eq_false];exact ⟨c,List.mem_of_getElem? hc,by simp [h]⟩
 unfold isName; rw [this]; simp
theorem Qc8 {l:List UInt8} {c:UInt8} (hc:l[0]? = some c) (h:letter c = false):isName l = false:=by
 have:l.head?.any letter=false:=by rw [List.head?_eq_getElem?,hc]; simpa using h
 unfold isName; rw [this]; simp
theorem QeC {l:List UInt8} (h1:0 < l.length) (h2:l.length <= 12) (h3:isKw l = false) (h4:l.all later = true) (h5:∀ c,l[0]? = some c -> letter c = true):isName l = true:=by
 have h6:l.head?.any letter = true:=by
  cases l with
  | nil => simp at h1
  | cons c t => simpa using h5 c rfl
 unfold isName; rw [decide_eq_true h1,decide_eq_true h2,h3,h4,h6]; rfl
theorem JO {c:UInt8} (h:letter c=true):later c=true:=by unfold later; rw [h]; rfl
theorem kwS_mem (s:ByteArray):s ∈ kwS ↔ isKw s.data.toList = true:=by
 have e:kwS.map (·.data.toList)=kw:=by decide
 unfold isKw;rw [List.contains_iff_mem,<- e,List.mem_map]
 constructor
 ·intro h; exact ⟨s,h,rfl⟩
 ·rintro ⟨x,hx,he⟩
  have:x=s:=ByteArray.ext (Array.toList_inj.mp he);exact this ▸ hx
def hasS (l:List ByteArray) (s:ByteArray):Bool:=l.any fun x=>decide (x=s)
theorem Qhk {l:List ByteArray} {s:ByteArray}:hasS l s = true ↔ s ∈ l:=by
 unfold hasS;rw [List.any_eq_true]
 constructor
 ·rintro ⟨x,hx,he⟩
  exact of_decide_eq_true he ▸ hx
 ·intro h
  exact ⟨s,h,decide_eq_true rfl⟩
theorem place_ge (l:List ByteArray) (s:ByteArray):decide (0 <= idxOfS l s) = hasS l s:=by
 rw [Bool.eq_iff_iff,Qhk]; simp [idxOfS_nonneg_iff]
theorem place_kw (s:ByteArray):decide (0 <= idxOfS kwS s) = isKw s.data.toList:=by
 rw [place_ge,Bool.eq_iff_iff,Qhk,kwS_mem]
theorem Qfq {l:List ByteArray} {k:Nat} {s:ByteArray} (h:l[k]? = some s) (hn:s ∉ l.take k):idxOfS l s = k:=by
 have hk:=Ja h
 have:=idxOfS_hit l l.length k s hk (Nat.le_refl _) (by rw [List.getD_eq_getElem?_getD,h]; rfl) (fun j hj he => hn (by
  rw [List.mem_iff_getElem?];refine ⟨j,?_⟩;rw [List.getElem?_take_of_lt hj];rw [List.getD_eq_getElem?_getD,List.getElem?_eq_getElem (by omega)] at he;rw [List.getElem?_eq_getElem (by omega)]
  simpa using he))
 rwa [List.take_of_length_le (Nat.le_refl _)] at this
theorem Qee {l:List ByteArray} {s:ByteArray} (h:s ∉ l):idxOfS l s = -1:=by
 have:=idxOfS_miss l l.length s (fun j hj he => h (by
  rw [List.mem_iff_getElem?];refine ⟨j,?_⟩;rw [List.getD_eq_getElem?_getD,List.getElem?_eq_getElem hj] at he;rw [List.getElem?_eq_getElem hj]
  simpa using he))
 rwa [List.take_of_length_le (Nat.le_refl _)] at this
theorem first_at {l:List ByteArray} {s:ByteArray} (h:s ∈ l):∃ k:Nat,l[k]? = some s /\ s ∉ l.take k:=by
 induction l with
 | nil => simp at h
 | cons a t ih =>
   by_cases ha:a=s
   ·exact ⟨0,by simp [ha],by simp⟩
   ·have ht:s ∈ t:=by
     rcases List.mem_cons.1 h with h | h
     ·exact absurd h.symm ha
     ·exact h
    obtain ⟨k,h1,h2⟩:=ih ht;refine ⟨k+1,by simpa using h1,?_⟩;rw [List.take_succ_cons,List.mem_cons];rintro (h3 | h3)
    ·exact ha h3.symm
    ·exact h2 h3
end NamesSpec
end
section
namespace TermSpec
open NamesSpec
structure Tm where
 op:Int
 n:Int
 s:ByteArray
def ar (o:Int):Int :=
 if o=1\/o=2\/o=9\/o=10\/o=11 then 0 else if o=3\/o=12 then 1 else if o=4\/o=5\/o=6\/o=7\/o=8\/o=13\/o=14\/o=15\/o=16\/o=17\/o=18\/o=19\/o=20 then 2 else -1
def arN (o:Int):Nat:=(ar o).toNat
theorem Qdp (o:Int):-1<=ar o/\ar o<=2:=by unfold ar; (repeat' split)<;>omega
theorem QaU {o:Int} (h:0<=ar o):(arN o:Int)=ar o:=by unfold arN; omega
theorem ar_out {o:Int} (h:o<1\/20<o):ar o = -1:=by unfold ar; rw [if_neg (by omega),if_neg (by omega),if_neg (by omega)]
def fin:Nat -> List Tm -> Nat -> Int
 | 0,_,p => p
 | _ + 1,[],_ => -1
 | k + 1,t :: r,p => if ar t.op < 0 then -1 else fin (k + arN t.op) r (p + 1)
def cnt:Nat -> List Tm -> Option Nat
 | 0,_ => some 0
 | _ + 1,[] => none
 | k + 1,t :: r => if ar t.op < 0 then none else (cnt (k + arN t.op) r).map (· + 1)
theorem Jq (l:List Tm):cnt 0 l=some 0:=by cases l<;>rfl
theorem Qhr (l:List Tm) (p:Nat):fin 0 l p=p:=by cases l<;>rfl
theorem Qbi (k:Nat) (t:Tm) (r:List Tm):cnt (k+1) (t::r)=if ar t.op<0 then none else (cnt (k+arN t.op) r).map (·+1):=rfl
theorem Qat (k:Nat) (t:Tm) (r:List Tm) (p:Nat):fin (k+1) (t::r) p=if ar t.op<0 then -1 else fin (k+arN t.op) r (p+1):=rfl
theorem Zr {k m:Nat} {t:Tm} {r:List Tm} (h:cnt (k + 1) (t :: r) = some m):0 <= ar t.op /\ ∃ m',m = m' + 1 /\ cnt (k + arN t.op) r = some m':=by
 rw [Qbi] at h
 split at h
 ·cases h
 ·cases hc:cnt (k + arN t.op) r with
  | none => rw [hc] at h; cases h
  | some m' => rw [hc] at h; cases h; exact ⟨by omega,m',rfl,rfl⟩
theorem QgC {k m:Nat} {t:Tm} {r:List Tm} (h0:0 <= ar t.op) (h:cnt (k + arN t.op) r = some m):cnt (k + 1) (t :: r) = some (m + 1):=by
 rw [Qbi,if_neg (by omega),h]; rfl
theorem QdO:∀ {l:List Tm} {k m p:Nat},cnt k l = some m -> fin k l p = (p + m:Nat)
 | l,0,m,p,h => by rw [Jq] at h; cases h; rw [Qhr]; rfl
 | [],k + 1,m,p,h => by cases h
 | t :: r,k + 1,m,p,h => by
   obtain ⟨h0,m',rfl,h'⟩:=Zr h;rw [Qat,if_neg (by omega),QdO h'];omega
theorem Qej:∀ {l:List Tm} {k p:Nat},cnt k l = none -> fin k l p = -1
 | l,0,p,h => by rw [Jq] at h; cases h
 | [],k + 1,p,h => rfl
 | t :: r,k + 1,p,h => by
   rw [Qat]
   split
   ·rfl
   ·rename_i h0
    refine Qej ?_;rw [Qbi,if_neg h0] at h
    simpa using h
theorem QdQ:∀ {l:List Tm} {k m:Nat},cnt k l = some m -> m <= l.length /\ k <= m
 | l,0,m,h => by rw [Jq] at h; cases h; exact ⟨Nat.zero_le _,Nat.le_refl _⟩
 | [],k + 1,m,h => by cases h
 | t :: r,k + 1,m,h => by
   obtain ⟨h0,m',rfl,h'⟩:=Zr h;have:=QdQ h';simp only [List.length_cons];omega
theorem Qb5:∀ (l:List Tm) (a b:Nat),cnt (a + b) l = (cnt a l).bind fun m => (cnt b (l.drop m)).map (m + ·)
 | l,0,b => by rw [Jq,Nat.zero_add]; simp
 | [],a + 1,b => by rw [show a + 1 + b = (a + b) + 1 by omega]; rfl
 | t :: r,a + 1,b => by
   rw [show a+1+b=(a+b)+1 by omega,Qbi,Qbi]
   split
   ·rfl
   ·rw [show a + b + arN t.op = a + arN t.op + b by omega,Qb5 r (a + arN t.op) b]
    cases cnt (a+arN t.op) r with
    | none => rfl
    | some m =>
      simp only [Option.map_some,Option.bind_some,List.drop_succ_cons,Option.map_map]
      congr 1
      funext x
      simp only [Function.comp];omega
theorem Qao {l:List Tm} {a b m:Nat} (h:cnt (a + b) l = some m):∃ x y,cnt a l = some x /\ cnt b (l.drop x) = some y /\ m = x + y:=by
 rw [Qb5] at h
 cases ha:cnt a l with
 | none => rw [ha] at h; cases h
 | some x =>
   rw [ha] at h;simp only [Option.bind_some] at h
   cases hb:cnt b (l.drop x) with
   | none => rw [hb] at h; cases h
   | some y => rw [hb] at h; cases h; exact ⟨x,y,rfl,hb,rfl⟩
theorem Qhg {l:List Tm} {a b x y:Nat} (h:cnt a l = some x) (h':cnt b (l.drop x) = some y):cnt (a + b) l = some (x + y):=by
 rw [Qb5,h,Option.bind_some,h']; rfl
theorem cnt_stop {l:List Tm} {a b x:Nat} (h:cnt a l = some x) (h':cnt b (l.drop x) = none):cnt (a + b) l = none:=by
 rw [Qb5,h,Option.bind_some,h']; rfl
theorem cnt_none {l:List Tm} {a:Nat} (h:cnt a l=none) (b:Nat):cnt (a+b) l=none:=by rw [Qb5,h]; rfl
theorem QfI:∀ {l:List Tm} {k m:Nat},cnt k l = some m -> ∀ t ∈ l.take m,0 <= ar t.op
 | l,0,m,h => by rw [Jq] at h; cases h; simp
 | [],k + 1,m,h => by cases h
 | t :: r,k + 1,m,h => by
   obtain ⟨h0,m',rfl,h'⟩:=Zr h;intro u hu;rw [List.take_succ_cons,List.mem_cons] at hu
   rcases hu with rfl | hu
   ·exact h0
   ·exact QfI h' u hu
def stack {α:Type} (f:Int -> List α -> α):List Tm -> List α
 | [] => []
 | t :: r => f t.op ((stack f r).take (arN t.op)) :: (stack f r).drop (arN t.op)
section
variable {α:Type} {f:Int->List α->α}
theorem QbK (t:Tm) (r:List Tm):stack f (t::r)=f t.op ((stack f r).take (arN t.op))::(stack f r).drop (arN t.op):=rfl
theorem QdS:∀ {l:List Tm} {k m:Nat},cnt k l = some m -> stack f (l.drop m) = (stack f l).drop k
 | l,0,m,h => by rw [Jq] at h; cases h; rfl
 | [],k + 1,m,h => by cases h
 | t :: r,k + 1,m,h => by
   obtain ⟨h0,m',rfl,h'⟩:=Zr h;rw [List.drop_succ_cons,QdS h',QbK,List.drop_succ_cons,List.drop_drop,Nat.add_comm]
theorem Qbl:∀ {l:List Tm} {k m:Nat},cnt k l = some m -> k <= (stack f l).length
 | l,0,m,h => Nat.zero_le _
 | [],k + 1,m,h => by cases h
 | t :: r,k + 1,m,h => by
   obtain ⟨h0,m',rfl,h'⟩:=Zr h;have:=Qbl h';rw [QbK,List.length_cons,List.length_drop];omega
end
def come (f:Int->List Int->Int) (l:List Tm):Int:=(stack f l).headD 0
section
variable {f:Int->List Int->Int}
theorem come_cons (t:Tm) (r:List Tm):come f (t::r)=f t.op ((stack f r).take (arN t.op)):=rfl
theorem stack_get {l:List Tm} {k m:Nat} (h:cnt (k + 1) l = some m):∃ x,cnt k l = some x /\ (stack f l)[k]? = some (come f (l.drop x)):=by
 obtain ⟨x,y,hx,hy,_⟩:=Qao h;refine ⟨x,hx,?_⟩;have h1:=Qbl (f:=f) h;rw [come,QdS hx];have h2:k<(stack f l).length:=by omega
 rw [List.getElem?_eq_getElem h2,List.drop_eq_getElem_cons h2]
 rfl
theorem Qdv {l:List Tm} {k m x:Nat} (h:cnt (k + 1) l = some m) (hx:cnt k l = some x):(stack f l).take (k + 1) = (stack f l).take k ++ [come f (l.drop x)]:=by
 obtain ⟨x',hx',hg⟩:=stack_get (f:=f) h;rw [hx] at hx'
 cases hx'
 exact QA hg
end
def belows (l:List Tm) (at_ k:Nat):List Int:=(List.range k).map fun i=>((at_+1+(cnt i (l.drop (at_+1))).getD 0:Nat):Int)
theorem Zh (l:List Tm) (a k:Nat):(belows l a k).length=k:=by simp [belows]
theorem QiR {l:List Tm} {a k i:Nat} (h:i < k):(belows l a k)[i]? = some ((a + 1 + (cnt i (l.drop (a + 1))).getD 0:Nat):Int):=by
 simp [belows,h]
theorem Qbh (l:List Tm) (a:Nat):belows l a 0=[]:=rfl
theorem ZX (l:List Tm) (a k:Nat):belows l a (k + 1) = belows l a k ++ [((a + 1 + (cnt k (l.drop (a + 1))).getD 0:Nat):Int)]:=by
 unfold belows;rw [List.range_succ,List.map_append]
 rfl
def endA (l:List Tm) (a:Int):Int:=if a<0 then -1 else fin 1 (l.drop a.toNat) a.toNat
theorem QeX {l:List Tm} {a:Int} (h:a<0):endA l a = -1:=if_pos h
theorem QaZ (l:List Tm) (a:Nat):endA l a=fin 1 (l.drop a) a:=by unfold endA; rw [if_neg (by omega)]; rfl
theorem Qh6 {l:List Tm} {a:Int} (h:(l.length:Int) <= a):endA l a = -1:=by
 unfold endA;rw [if_neg (by omega),List.drop_eq_nil_of_le (by omega)]
 rfl
theorem Qbd {l:List Tm} {a:Nat} {t:Tm} (h:l[a]? = some t):l.drop a = t :: l.drop (a + 1):=by
 obtain ⟨ha,rfl⟩:=List.getElem?_eq_some_iff.1 h;exact List.drop_eq_getElem_cons ha
theorem endA_bad {l:List Tm} {a:Nat} {t:Tm} (h:l[a]? = some t) (h0:ar t.op < 0):endA l a = -1:=by
 rw [QaZ,Qbd h,Qat,if_pos h0]
theorem endA_at {l:List Tm} {a:Nat} {t:Tm} (h:l[a]? = some t) (h0:0 <= ar t.op):endA l a = fin (arN t.op) (l.drop (a + 1)) (a + 1):=by
 rw [QaZ,Qbd h,Qat,if_neg (by omega),Nat.zero_add]
theorem Zb {l:List Tm} {a m:Nat} (h:cnt 1 (l.drop a)=some m):endA l a=(a+m:Nat):=by rw [QaZ,QdO h]
theorem endA_none {l:List Tm} {a:Nat} (h:cnt 1 (l.drop a)=none):endA l a = -1:=by rw [QaZ,Qej h]
theorem ZY {l:List Tm} {a:Int} (h:0 <= endA l a):∃ k m:Nat,a = k /\ cnt 1 (l.drop k) = some m /\ endA l a = (k + m:Nat) /\ 0 < m /\ k + m <= l.length:=by
 by_cases h0:a<0
 ·rw [QeX h0] at h; omega
 ·obtain ⟨k,rfl⟩:=Int.eq_ofNat_of_zero_le (Int.not_lt.1 h0)
  cases hc:cnt 1 (l.drop k) with
  | none => rw [show ((k:Nat):Int) = (k:Int) from rfl,endA_none hc] at h; omega
  | some m =>
    have:=QdQ hc;rw [List.length_drop] at this;exact ⟨k,m,rfl,hc,Zb hc,by omega,by omega⟩
theorem Qcb {l:List Tm} {a m:Nat} (h:cnt 1 (l.drop a) = some m):∃ t m',l[a]? = some t /\ 0 <= ar t.op /\ m = m' + 1 /\ cnt (arN t.op) (l.drop (a + 1)) = some m':=by
 cases hd:l.drop a with
 | nil => rw [hd] at h; cases h
 | cons t r =>
   have ha:a < l.length:=by
    rcases Nat.lt_or_ge a l.length with h | h
    ·exact h
    ·rw [List.drop_eq_nil_of_le h] at hd; cases hd
   rw [List.drop_eq_getElem_cons ha] at hd
   injection hd with h1 h2
   subst h1; subst h2;rw [List.drop_eq_getElem_cons ha] at h;obtain ⟨h0,m',rfl,h'⟩:=Zr h;exact ⟨_,m',List.getElem?_eq_getElem ha,h0,rfl,by rwa [Nat.zero_add] at h'⟩
def deepest (bs:List Int):Int:=bs.foldl (fun a b=>if a<b then b else a) 0
theorem Qcm (bs:List Int) (d:Int):deepest (bs++[d])=if deepest bs<d then d else deepest bs:=by unfold deepest; rw [List.foldl_append]; rfl
def depF (_:Int) (bs:List Int):Int:=deepest bs+1
theorem QbR {B:Int} (hB:0 <= B) (bs:List Int) (h:∀ b ∈ bs,b <= B):0 <= deepest bs /\ deepest bs <= B:=by
 unfold deepest
 have key:∀ (bs:List Int) (a:Int),0 <= a -> a <= B -> (∀ b ∈ bs,b <= B) -> 0 <= bs.foldl (fun a b => if a < b then b else a) a /\ bs.foldl (fun a b => if a < b then b else a) a <= B:=by
  intro bs
  induction bs with
  | nil => intro a h0 h1 _; exact ⟨h0,h1⟩
  | cons b t ih =>
    intro a h0 h1 h2;have hb:=h2 b (by simp);rw [List.foldl_cons];refine ih _ ?_ ?_ (fun c hc=>h2 c (by simp [hc]))
    ·split<;>omega
    ·split<;>omega
 exact key bs 0 (Int.le_refl 0) hB h
theorem ZV:∀ (l:List Tm),∀ d ∈ stack depF l,1 <= d /\ d <= l.length
 | [] => by simp [stack]
 | t :: r => by
   intro d hd;have ih:=ZV r;rw [QbK,List.mem_cons] at hd;rw [List.length_cons]
   rcases hd with rfl | hd
   ·have:=QbR (B:=r.length) (by omega) ((stack depF r).take (arN t.op)) (fun b hb => (ih b (List.mem_of_mem_take hb)).2)
    have e:depF t.op ((stack depF r).take (arN t.op))=deepest ((stack depF r).take (arN t.op))+1:=rfl;omega
   ·have:=ih d (List.mem_of_mem_drop hd)
    omega
theorem QeK {l:List Tm} {m:Nat} (h:cnt 1 l = some m):1 <= come depF l /\ come depF l <= l.length:=by
 have h1:=Qbl (f:=depF) h
 cases hs:stack depF l with
 | nil => rw [hs] at h1; simp at h1
 | cons d t =>
   have:=ZV l d (by rw [hs]; simp);rw [come,hs];exact this
def wholeB (l:List Tm):Bool:=decide (l.length<=40)&&decide (cnt 1 l=some l.length)
theorem Q6 {l:List Tm}:wholeB l=true↔l.length<=40/\cnt 1 l=some l.length:=by simp [wholeB]
def tell (f:Int->List Int->Int) (l:List Tm):Int:=if wholeB l then come f l else 0
def depth (l:List Tm):Int:=tell depF l
theorem Qjr {l:List Tm}:(depth l = 0) ↔ wholeB l = false:=by
 unfold depth tell
 cases h:wholeB l with
 | false => simp
 | true =>
   have:=QeK (Q6.1 h).2;simp;omega
def mayB (t:Tm):Bool :=
 (if t.op=1 then decide (0<=t.n)&&decide (t.n<=1000000) else decide (t.n=0))&&(if t.op=2\/t.op=11 then isName t.s.data.toList else decide (t.s.size=0))
def chk (l:List Tm):Int :=
 if 40<l.length then 8 else if wholeB l=false then 1 else if l.all mayB=false then 1 else if 12<depth l then 6 else 0
theorem ZE {l:List Tm} (h:chk l = 0):wholeB l = true /\ l.all mayB = true /\ depth l <= 12:=by
 unfold chk at h
 split at h
 ·omega
 split at h
 ·omega
 rename_i h1
 split at h
 ·omega
 rename_i h2
 split at h
 ·omega
 rename_i h3
 exact ⟨by simpa using h1,by simpa using h2,by omega⟩
end TermSpec
end
section
namespace ValSpec
def near (x:Int):Int:=if x < -1000000 then -1000000 else if 1000000<x then 1000000 else x
end ValSpec
end
section
namespace EvalSpec
open TermSpec NamesSpec ValSpec Go.Lib
structure Vr where
 s:ByteArray
 lo:Int
 hi:Int
 ini:Int
structure Ev where
 vars:List Vr
 v0:Int
 v1:Int
 v2:Int
 v3:Int
 ins:List ByteArray
def vnames (e:Ev):List ByteArray:=e.vars.map (·.s)
def valAt (e:Ev) (p:Int):Int:=if p=0 then e.v0 else if p=1 then e.v1 else if p=2 then e.v2 else e.v3
def tru (b:Bool):Int:=if b then 1 else 0
def cmp (o a b:Int):Bool:=if o=13 then a==b else if o=14 then a != b else if o=15 then decide (a<b) else if o=16 then decide (a<=b) else if o=17 then decide (b<a) else decide (b<=a)
def ev2 (o x y:Int):Int :=
 if o=4 then near (x+y) else if o=5 then near (x-y) else if o=6 then near (x*y) else if o=7 then (if x<y then x else y) else if o=8 then (if y<x then x else y)
 else if o=19 then tru (x==1&&y==1) else if o=20 then tru (x==1||y==1) else tru (cmp o x y)
def ev1 (o x:Int):Int:=if o=3 then 0-x else tru (x==0)
def ev0 (e:Ev) (t:Tm):Int:=if t.op=1 then t.n else if t.op=2 then near (valAt e (idxOfS (vnames e) t.s)) else if t.op=11 then tru (decide (0<=idxOfS e.ins t.s)) else tru (t.op==9)
def evT (e:Ev) (t:Tm) (x y:Int):Int:=if ar t.op=0 then ev0 e t else if ar t.op=1 then ev1 t.op x else ev2 t.op x y
section
variable {e:Ev}
end
section
variable {e:Ev}
end
end EvalSpec
end
section
namespace ActSpec
open TermSpec NamesSpec ValSpec EvalSpec Go.Lib
structure Ac where
 s:ByteArray
 any:Bool
 x:List Tm
def oneA (a:Ac):Int:=if isName a.s.data.toList=false then 1 else if a.any=false then chk a.x else if a.x.length=0 then 0 else 1
def firstA:List Ac -> Int
 | [] => 0
 | a :: r => if oneA a = 0 then firstA r else oneA a
def chkA (l:List Ac):Int:=if 8<l.length then 8 else firstA l
theorem Qh3 {l:List Ac} {k:Nat} {a:Ac} (h:l[k]? = some a) (h0:firstA (l.take k) = 0) (h1:oneA a ≠ 0):firstA l = oneA a:=by
 induction l generalizing k with
 | nil => simp at h
 | cons b r ih =>
   cases k with
   | zero =>
     simp at h;subst h;unfold firstA;rw [if_neg h1]
   | succ k =>
     rw [List.take_succ_cons] at h0;unfold firstA at h0 ⊢
     split at h0
     ·rename_i hb
      rw [if_pos hb];exact ih (by simpa using h) h0
     ·rename_i hb
      exact absurd h0 hb
theorem Qhj {l:List Ac} {k:Nat} {a:Ac} (h:l[k]? = some a) (h0:firstA (l.take k) = 0) (h1:oneA a = 0):firstA (l.take (k + 1)) = 0:=by
 induction l generalizing k with
 | nil => simp at h
 | cons b r ih =>
   cases k with
   | zero =>
     simp at h;subst h;simp [firstA,h1]
   | succ k =>
     rw [List.take_succ_cons] at h0 ⊢;unfold firstA at h0 ⊢
     split at h0
     ·rename_i hb
      rw [if_pos hb];exact ih (by simpa using h) h0
     ·rename_i hb
      exact absurd h0 hb
structure V4 where
 a:Int
 b:Int
 c:Int
 d:Int
 deriving DecidableEq
def V4.set (x:V4) (i:Nat) (n:Int):V4:=if i=0 then { x with a:=n } else if i=1 then { x with b:=n } else if i=2 then { x with c:=n } else { x with d:=n }
def lessV (x y:V4):Bool:=if x.a≠y.a then decide (x.a<y.a) else if x.b≠y.b then decide (x.b<y.b) else if x.c≠y.c then decide (x.c<y.c) else decide (x.d<y.d)
def ahead (x:V4):List V4 -> Nat
 | [] => 0
 | y :: r => if lessV y x then ahead x r + 1 else 0
end ActSpec
end
section
namespace ValSpec
def isDig (c:UInt8):Bool:=decide (48<=(c.toNat:Int)/\(c.toNat:Int)<=57)
def isNum (l:List UInt8):Bool:=!l.isEmpty && !(l.head?==some 48&&decide (1<l.length))&&l.all isDig
def says (l:List UInt8):Int:=l.foldl (fun n c=>10*n+((c.toNat:Int)-48)) 0
def getN (l:List UInt8):Int:=if isNum l then (if 1000000<says l then 0 else says l) else 0
def getE (l:List UInt8):Int:=if isNum l then (if 1000000<says l then 3 else 0) else 2
theorem Qe9 (l:List UInt8) (c:UInt8):says (l++[c])=10*says l+((c.toNat:Int)-48):=by simp [says,List.foldl_append]
theorem fold_ge (l:List UInt8) (h:l.all isDig = true):∀ n:Int,0 <= n -> n <= l.foldl (fun n c => 10 * n + ((c.toNat:Int) - 48)) n:=by
 induction l with
 | nil => intro n _; exact Int.le_refl _
 | cons c l ih =>
   intro n hn;simp only [List.all_cons,Bool.and_eq_true] at h;have hc:48<=(c.toNat:Int)/\(c.toNat:Int)<=57:=by simpa [isDig] using h.1
   have:=ih h.2 (10*n+((c.toNat:Int)-48)) (by omega);simp only [List.foldl_cons];omega
theorem Qbb (l:List UInt8) (h:l.all isDig=true):0<=says l:=fold_ge l h 0 (Int.le_refl _)
theorem Qes (l m:List UInt8) (h:(l ++ m).all isDig = true):says l <= says (l ++ m):=by
 rw [List.all_append,Bool.and_eq_true] at h;unfold says;rw [List.foldl_append];exact fold_ge m h.2 _ (Qbb l h.1)
theorem Qf5 (l:List UInt8) (k:Nat) (h:l.all isDig = true):says (l.take k) <= says l:=by
 have:=Qes (l.take k) (l.drop k) (by rw [List.take_append_drop]; exact h)
 rwa [List.take_append_drop] at this
theorem Qah {l:List UInt8} (k:Nat) (h:l.all isDig = true):(l.take k).all isDig = true:=by
 rw [List.all_eq_true] at h ⊢;exact fun x hx=>h x (List.mem_of_mem_take hx)
theorem dig_bd {c:UInt8} (h:isDig c=true):48<=(c.toNat:Int)/\(c.toNat:Int)<=57:=by simpa [isDig] using h
theorem dig_mk {c:UInt8} (h1:48<=(c.toNat:Int)) (h2:(c.toNat:Int)<=57):isDig c=true:=by simp [isDig,h1,h2]
theorem Qeg {c:UInt8} (h1:(c.toNat:Int)<48):isDig c=false:=by simp [isDig]; omega
theorem Qd1 {c:UInt8} (h1:57<(c.toNat:Int)):isDig c=false:=by simp [isDig]; omega
theorem Qc4 {l:List UInt8} (h:isNum l=true):l.all isDig=true:=by simp [isNum] at h; simp [List.all_eq_true]; exact h.2
def digs (n:Nat):List UInt8:=if n<10 then [UInt8.ofNat (48+n)] else digs (n / 10)++[UInt8.ofNat (48+n % 10)]
termination_by n
decreasing_by omega
def text (n:Int):List UInt8:=if n<0 then 45::digs n.natAbs else digs n.natAbs
theorem QaR {n:Nat} (h:n<10):digs n=[UInt8.ofNat (48+n)]:=by rw [digs,if_pos h]
theorem QdE {n:Nat} (h:¬ n<10):digs n=digs (n / 10)++[UInt8.ofNat (48+n % 10)]:=by rw [digs,if_neg h]
theorem byte_nat {d:Nat} (h:d<208):(UInt8.ofNat (48+d)).toNat=48+d:=by simp [UInt8.toNat_ofNat']; omega
theorem Qcl:∀ (k n:Nat),n < 10 ^ (k + 1) -> (digs n).length <= k + 1:=by
 intro k
 induction k with
 | zero => intro n h; rw [QaR (by omega)]; simp
 | succ k ih =>
   intro n h
   by_cases h':n<10
   ·rw [QaR h']; simp
   ·rw [QdE h',List.length_append]
    have:n / 10<10 ^ (k+1):=by rw [Nat.div_lt_iff_lt_mul (by omega)]; rwa [Nat.pow_succ] at h
    have:=ih _ this;simp; omega
end ValSpec
end
section
namespace CurSpec
open NamesSpec ValSpec
structure Tk where
 k:Int
 t:ByteArray
 l:Int
 c:Int
def tz:Tk:=⟨0,⟨#[]⟩,0,0⟩
structure Cur where
 L:List Tk
 w1:Int
 w2:Int
 a1:Int
 a2:Int
 bad:Int
def next (c:Cur):Tk:=if c.bad=0 then (match c.L with | []=>⟨0,⟨#[]⟩,c.w1,c.w2⟩ | t::_=>t) else tz
def on (c:Cur):Cur:=match c.L with | []=>c | t::r=>⟨r,t.l,t.c,c.a1,c.a2,c.bad⟩
def fail (c:Cur) (e:Int):Cur:=if c.bad=0/\e≠0 then ⟨c.L,c.w1,c.w2,(next c).l,(next c).c,e⟩ else c
def isB (c:Cur) (k:Int) (s:ByteArray):Bool:=decide (c.bad=0)&&(decide ((next c).k=k)&&decide ((next c).t=s))
def take (c:Cur) (k:Int) (s:ByteArray):Cur:=if isB c k s then on c else c
def want (c:Cur) (k:Int) (s:ByteArray):Cur:=if isB c k s then on c else fail c 2
def nameB (c:Cur):Bool:=decide (c.bad=0)&&(decide ((next c).k=1)&&isName (next c).t.data.toList)
def nameC (c:Cur):Cur:=if nameB c then on c else fail c 2
def nameS (c:Cur):ByteArray:=if nameB c then (next c).t else ⟨#[]⟩
def numE (c:Cur) (m:Int):Int:=if c.bad=0/\(next c).k=2 then (if getE (next c).t.data.toList=0 then (if m<getN (next c).t.data.toList then 3 else 0) else getE (next c).t.data.toList) else 2
def numC (c:Cur) (m:Int):Cur:=if numE c m=0 then on c else fail c (numE c m)
def numN (c:Cur) (m:Int):Int:=if numE c m=0 then getN (next c).t.data.toList else 0
def full:List Tk -> Int -> Int -> List Tk
 | [],a,b => [⟨0,⟨#[]⟩,a,b⟩]
 | t :: r,_,_ => t :: full r t.l t.c
theorem Qdn:∀ (L:List Tk) (a b:Int),(full L a b).length = L.length + 1
 | [],_,_ => rfl
 | _ :: r,_,_ => by rw [full,List.length_cons,Qdn r,List.length_cons]
theorem on_nil {c:Cur} (h:c.L.length = 0):on c = c:=by
 unfold on;rw [List.eq_nil_of_length_eq_zero h]
theorem on_full {c:Cur} (h:0 < c.L.length):full c.L c.w1 c.w2 = (full c.L c.w1 c.w2).headD tz :: full (on c).L (on c).w1 (on c).w2:=by
 obtain ⟨L,w1,w2,a1,a2,bad⟩:=c
 cases L with
 | nil => simp at h
 | cons t r => rfl
theorem JL (c:Cur):(on c).bad = c.bad /\ (on c).a1 = c.a1 /\ (on c).a2 = c.a2:=by
 unfold on
 split<;>exact ⟨rfl,rfl,rfl⟩
theorem QeJ (c:Cur):(on c).L.length = c.L.length - 1:=by
 unfold on
 split
 ·rename_i h; rw [h]; rfl
 ·rename_i h; rw [h]; rfl
theorem Qb9 {c:Cur} {e:Int} (h:c.bad=0) (he:e≠0):fail c e=⟨c.L,c.w1,c.w2,(next c).l,(next c).c,e⟩:=if_pos ⟨h,he⟩
theorem JM (c:Cur):fail c 0=c:=if_neg (fun h=>h.2 rfl)
theorem Jo {c:Cur} (e:Int) (h:c.bad≠0):fail c e=c:=if_neg (fun h'=>h h'.1)
theorem QP {c:Cur} (k:Int) (s:ByteArray) (h:c.bad≠0):isB c k s=false:=by simp [isB,h]
theorem J8 {c:Cur} (h:c.bad≠0):next c=tz:=if_neg h
theorem Qe8 {c:Cur} (m:Int) (h:c.bad≠0):numE c m=2:=if_neg (fun h'=>h h'.1)
theorem QaQ {c:Cur} (h:c.bad≠0):nameB c=false:=by simp [nameB,h]
def Ok (c:Cur):Prop:=∀ t∈c.L,t.t.size<=9223372036854775807
theorem Ok.next {c:Cur} (h:Ok c):(next c).t.size <= 9223372036854775807:=by
 obtain ⟨L,w1,w2,a1,a2,bad⟩:=c;unfold CurSpec.next
 split
 ·cases L with
  | nil => exact (by decide:(⟨#[]⟩:ByteArray).size <= 9223372036854775807)
  | cons t r => exact h t (by simp)
 ·exact (by decide:(⟨#[]⟩:ByteArray).size<=9223372036854775807)
theorem Ok.on {c:Cur} (h:Ok c):Ok (on c):=by
 obtain ⟨L,w1,w2,a1,a2,bad⟩:=c
 cases L with
 | nil => exact h
 | cons t r => exact fun x hx => h x (by simp [CurSpec.on] at hx ⊢; exact .inr hx)
theorem Ok.fail {c:Cur} (h:Ok c) (e:Int):Ok (fail c e):=by
 unfold CurSpec.fail
 split
 ·exact h
 ·exact h
theorem Ok.take {c:Cur} (h:Ok c) (k:Int) (s:ByteArray):Ok (take c k s):=by
 unfold CurSpec.take
 split
 ·exact h.on
 ·exact h
theorem Ok.want {c:Cur} (h:Ok c) (k:Int) (s:ByteArray):Ok (want c k s):=by
 unfold CurSpec.want
 split
 ·exact h.on
 ·exact h.fail 2
theorem Ok.nameC {c:Cur} (h:Ok c):Ok (nameC c):=by
 unfold CurSpec.nameC
 split
 ·exact h.on
 ·exact h.fail 2
theorem Ok.numC {c:Cur} (h:Ok c) (m:Int):Ok (numC c m):=by
 unfold CurSpec.numC
 split
 ·exact h.on
 ·exact h.fail _
end CurSpec
end
section
namespace ExprSpec
open CurSpec TermSpec
structure Sg where
 t:ByteArray
 op:Int
 lev:Int
 left:Int
 right:Int
def sgs:List Sg:=[⟨⟨#[111,114]⟩,20,1,1,2⟩,⟨⟨#[97,110,100]⟩,19,2,2,3⟩,⟨⟨#[61,61]⟩,13,4,5,5⟩,⟨⟨#[33,61]⟩,14,4,5,5⟩,⟨⟨#[60]⟩,15,4,5,5⟩,⟨⟨#[60,61]⟩,16,4,5,5⟩,⟨⟨#[62]⟩,17,4,5,5⟩,⟨⟨#[62,61]⟩,18,4,5,5⟩,⟨⟨#[43]⟩,4,5,5,6⟩,⟨⟨#[45]⟩,5,5,5,6⟩,⟨⟨#[42]⟩,6,6,6,7⟩]
def look (t:ByteArray):Option Sg:=sgs.find? fun s=>decide (s.t=t)
def fits (lev k:Int) (s:Sg):Bool:=decide (s.left<=lev)&&decide (k<=s.lev)
def sgn (c:Cur) (lev k:Int):Option Sg:=if (next c).k=3\/(next c).k=1 then (look (next c).t).filter (fits lev k) else none
abbrev tNot:ByteArray:=⟨#[110,111,116]⟩
abbrev tNeg:ByteArray:=⟨#[45]⟩
abbrev tTrue:ByteArray:=⟨#[116,114,117,101]⟩
abbrev tFalse:ByteArray:=⟨#[102,97,108,115,101]⟩
abbrev tIn:ByteArray:=⟨#[105,110]⟩
abbrev tMin:ByteArray:=⟨#[109,105,110]⟩
abbrev tMax:ByteArray:=⟨#[109,97,120]⟩
abbrev tOpen:ByteArray:=⟨#[40]⟩
abbrev tClose:ByteArray:=⟨#[41]⟩
abbrev tComma:ByteArray:=⟨#[44]⟩
def opT (o:Int):Tm:=⟨o,0,⟨#[]⟩⟩
abbrev Pa:=Cur × List Tm
section
variable (rec:Cur->Int->Pa)
def two (c:Cur) (o:Int):Pa :=
 let p:=rec (want c 3 tOpen) 1
 let q:=rec (want p.1 3 tComma) 1
 (want q.1 3 tClose,opT o::(p.2++q.2))
def atom (c:Cur):Pa :=
 if (next c).k=2 then (numC c 1000000,[⟨1,numN c 1000000,⟨#[]⟩⟩])
 else if isB c 1 tTrue then (on c,[opT 9])
 else if isB c 1 tFalse then (on c,[opT 10])
 else if isB c 1 tIn then (want (nameC (want (on c) 3 tOpen)) 3 tClose,[⟨11,0,nameS (want (on c) 3 tOpen)⟩])
 else if isB c 1 tMin then two rec (on c) 7
 else if isB c 1 tMax then two rec (on c) 8
 else if isB c 3 tOpen then (want (rec (on c) 1).1 3 tClose,(rec (on c) 1).2)
 else (nameC c,[⟨2,0,nameS c⟩])
def hd (c:Cur) (k:Int):Pa × Int :=
 if k<=3/\isB c 1 tNot=true then (((rec (on c) 3).1,opT 12::(rec (on c) 3).2),3)
 else if isB c 3 tNeg then (((rec (on c) 7).1,opT 3::(rec (on c) 7).2),7)
 else (atom rec c,8)
end
mutual
def S:Nat -> Cur -> Int -> Pa
 | 0,c,_ => (c,[])
 | f + 1,c,k => if c.bad ≠ 0 then (c,[]) else
   let h:=hd (S f) c k
   C f h.2 k h.1.1 h.1.2
def C:Nat -> Int -> Int -> Cur -> List Tm -> Pa
 | 0,_,_,c,x => (c,x)
 | f + 1,lev,k,c,x =>
   match sgn c lev k with
   | none => (c,x)
   | some s =>
     let p:=S f (on c) s.right
     C f s.lev k p.1 (opT s.op::(x++p.2))
end
theorem Z5 {c:Cur} (f:Nat) (k:Int) (h:c.bad ≠ 0):S f c k = (c,[]):=by
 cases f with
 | zero => rfl
 | succ f => rw [S]; exact if_pos h
theorem ZI {c:Cur} (f:Nat) (k:Int) (h:c.bad = 0):S (f + 1) c k = C f (hd (S f) c k).2 k (hd (S f) c k).1.1 (hd (S f) c k).1.2:=by
 rw [S]; exact if_neg (fun h'=>h' h)
theorem QY {c:Cur} {lev k:Int} (f:Nat) (x:List Tm) (h:sgn c lev k = none):C f lev k c x = (c,x):=by
 cases f with
 | zero => rfl
 | succ f => rw [C,h]
theorem J2 {c:Cur} {lev k:Int} {s:Sg} (f:Nat) (x:List Tm) (h:sgn c lev k = some s) :
 C (f+1) lev k c x=C f s.lev k (S f (on c) s.right).1 (opT s.op::(x++(S f (on c) s.right).2)):=by
 rw [C,h]
def first (k:Int):Int:=if k=4 then 5 else k
theorem Qb6:∀ s∈sgs,s.right=s.lev+1/\s.left=first s.lev/\(s.lev=1\/s.lev=2\/s.lev=4\/s.lev=5\/s.lev=6)/\ar s.op=2/\s.t.size≠0:=by decide
theorem Qeo {t:ByteArray} {s:Sg} (h:look t = some s):s ∈ sgs /\ s.t = t:=by
 have:=List.find?_some h;exact ⟨List.mem_of_find?_eq_some h,by simpa using this⟩
theorem QZ {c:Cur} {lev k:Int} {s:Sg} (h:sgn c lev k = some s):look (next c).t = some s /\ ((next c).k = 3 \/ (next c).k = 1) /\ s.left <= lev /\ k <= s.lev /\ s ∈ sgs:=by
 unfold sgn at h
 split at h
 ·rename_i hk
  rw [Option.filter_eq_some_iff] at h;obtain ⟨h1,h2⟩:=h;unfold fits at h2;simp only [Bool.and_eq_true,decide_eq_true_eq] at h2;exact ⟨h1,hk,h2.1,h2.2,(Qeo h1).1⟩
 ·cases h
theorem Qa0 {c:Cur} {lev k:Int} {s:Sg} (h1:look (next c).t = some s) (h2:(next c).k = 3 \/ (next c).k = 1) (h3:s.left <= lev) (h4:k <= s.lev):sgn c lev k = some s:=by
 unfold sgn;rw [if_pos h2,h1,Option.filter_eq_some_iff];exact ⟨rfl,by simp [fits,h3,h4]⟩
theorem JG {c:Cur} {lev k:Int} (h:∀ s,sgn c lev k = some s -> False):sgn c lev k = none:=by
 cases hs:sgn c lev k with
 | none => rfl
 | some s => exact absurd hs (fun h' => h s h')
theorem Jp {c:Cur} (lev k:Int) (h:c.bad ≠ 0):sgn c lev k = none:=by
 unfold sgn;rw [J8 h]
 rfl
theorem Qet {c:Cur} {lev k:Int} {s:Sg} (h:sgn c lev k = some s):c.bad = 0:=by
 by_cases h0:c.bad=0
 ·exact h0
 ·rw [Jp lev k h0] at h; cases h
theorem Zf {c:Cur} (h:(next c).k ≠ 0):c.bad = 0 /\ (on c).L.length + 1 = c.L.length /\ (on c).bad = 0:=by
 have h0:c.bad = 0:=by
  by_cases h0:c.bad=0
  ·exact h0
  ·rw [J8 h0] at h; exact absurd rfl h
 refine ⟨h0,?_,(JL c).1.trans h0⟩;obtain ⟨L,w1,w2,a1,a2,bad⟩:=c
 cases L with
 | nil => unfold next at h; rw [if_pos h0] at h; exact absurd rfl h
 | cons t r => rfl
theorem Qab {c:Cur} {lev k:Int} {s:Sg} (h:sgn c lev k = some s):c.bad = 0 /\ (on c).L.length + 1 = c.L.length /\ (on c).bad = 0:=by
 obtain ⟨_,h2,_⟩:=QZ h;exact Zf (by omega)
theorem Qr {c:Cur} {k:Int} {s:ByteArray} (h:isB c k s = true):c.bad = 0 /\ (next c).k = k /\ (next c).t = s:=by
 unfold isB at h;simp only [Bool.and_eq_true,decide_eq_true_eq] at h;exact h
theorem Qv {c:Cur} {k:Int} {s:ByteArray} (h:isB c k s = true) (hk:k ≠ 0):c.bad = 0 /\ (on c).L.length + 1 = c.L.length /\ (on c).bad = 0:=by
 obtain ⟨_,h1,_⟩:=Qr h;exact Zf (by omega)
theorem ZL (c:Cur) (e:Int):(fail c e).L=c.L:=by unfold fail; split<;>rfl
theorem QT (c:Cur) (k:Int) (s:ByteArray):(want c k s).L.length <= c.L.length:=by
 unfold want
 split
 ·rw [QeJ]; omega
 ·rw [ZL]; exact Nat.le_refl _
theorem QcT (c:Cur):(nameC c).L.length <= c.L.length:=by
 unfold nameC
 split
 ·rw [QeJ]; omega
 ·rw [ZL]; exact Nat.le_refl _
theorem Qhx (c:Cur) (m:Int):(numC c m).L.length <= c.L.length:=by
 unfold numC
 split
 ·rw [QeJ]; omega
 ·rw [ZL]; exact Nat.le_refl _
theorem QB {c:Cur} {e:Int} (he:e ≠ 0):(fail c e).bad ≠ 0:=by
 by_cases h:c.bad=0
 ·rw [Qb9 h he]; exact he
 ·rw [Jo e h]; exact h
theorem QW {c:Cur} {k:Int} {s:ByteArray} (h:(want c k s).bad = 0):isB c k s = true /\ want c k s = on c:=by
 unfold want at h ⊢
 split
 ·rename_i hb; exact ⟨hb,rfl⟩
 ·rename_i hb; rw [if_neg hb] at h; exact absurd h (QB (by decide))
theorem ZM {c:Cur} (h:(nameC c).bad = 0):nameB c = true /\ nameC c = on c:=by
 unfold nameC at h ⊢
 split
 ·rename_i hb; exact ⟨hb,rfl⟩
 ·rename_i hb; rw [if_neg hb] at h; exact absurd h (QB (by decide))
theorem Qfs {c:Cur} {m:Int} (h:(numC c m).bad = 0):numE c m = 0 /\ numC c m = on c:=by
 unfold numC at h ⊢
 split
 ·rename_i hb; exact ⟨hb,rfl⟩
 ·rename_i hb; rw [if_neg hb] at h; exact absurd h (QB hb)
theorem QaJ {c:Cur} (h:nameB c = true):c.bad = 0 /\ (next c).k = 1 /\ NamesSpec.isName (next c).t.data.toList = true:=by
 unfold nameB at h;simp only [Bool.and_eq_true,decide_eq_true_eq] at h;exact h
theorem QfD {c:Cur} {m:Int} (h:numE c m = 0):c.bad = 0 /\ (next c).k = 2:=by
 unfold numE at h
 split at h
 ·assumption
 ·omega
theorem QV {c:Cur} (k:Int) (s:ByteArray) (h:c.bad ≠ 0):want c k s = c:=by
 unfold want;rw [if_neg (by rw [QP k s h]; decide),Jo _ h]
def Less (rec:Cur->Int->Pa):Prop:=∀ d j,(rec d j).1.L.length<=d.L.length/\((rec d j).1.bad=0->d.bad=0)
theorem Qf9 {rec:Cur -> Int -> Pa} (H:Less rec) (c:Cur) (o:Int):(two rec c o).1.L.length <= c.L.length /\ ((two rec c o).1.bad = 0 -> c.bad = 0):=by
 unfold two;dsimp only;have h1:=QT c 3 tOpen;have h2:=(H (want c 3 tOpen) 1).1;have h3:=QT (rec (want c 3 tOpen) 1).1 3 tComma;have h4:=(H (want (rec (want c 3 tOpen) 1).1 3 tComma) 1).1;have h5:=QT (rec (want (rec (want c 3 tOpen) 1).1 3 tComma) 1).1 3 tClose;refine ⟨by omega,fun h=>?_⟩;have g1:=(Qr (QW h).1).1;have g2:=(H _ _).2 g1;have g3:=(Qr (QW g2).1).1;have g4:=(H _ _).2 g3;exact (Qr (QW g4).1).1
theorem atom_len {rec:Cur -> Int -> Pa} (H:Less rec) (c:Cur):(atom rec c).1.L.length <= c.L.length /\ ((atom rec c).1.bad = 0 -> (atom rec c).1.L.length < c.L.length):=by
 unfold atom
 split
 ·refine ⟨Qhx _ _,fun h => ?_⟩
  obtain ⟨h1,h2⟩:=Qfs h;have:=(Zf (c:=c) (by have:=(QfD h1).2; omega)).2.1;dsimp only;rw [h2]; omega
 split
 ·rename_i hb
  have:=Qv hb (by decide);exact ⟨by dsimp only; omega,fun _=>by dsimp only; omega⟩
 split
 ·rename_i hb
  have:=Qv hb (by decide);exact ⟨by dsimp only; omega,fun _=>by dsimp only; omega⟩
 split
 ·rename_i hb
  have:=Qv hb (by decide);have h1:=QT (on c) 3 tOpen;have h2:=QcT (want (on c) 3 tOpen);have h3:=QT (nameC (want (on c) 3 tOpen)) 3 tClose;exact ⟨by dsimp only; omega,fun _=>by dsimp only; omega⟩
 split
 ·rename_i hb
  have:=Qv hb (by decide);have h1:=(Qf9 H (on c) 7).1;exact ⟨by omega,fun _=>by omega⟩
 split
 ·rename_i hb
  have:=Qv hb (by decide);have h1:=(Qf9 H (on c) 8).1;exact ⟨by omega,fun _=>by omega⟩
 split
 ·rename_i hb
  have:=Qv hb (by decide);have h1:=(H (on c) 1).1;have h2:=QT (rec (on c) 1).1 3 tClose;exact ⟨by dsimp only; omega,fun _=>by dsimp only; omega⟩
 ·refine ⟨QcT _,fun h => ?_⟩
  obtain ⟨h1,h2⟩:=ZM h;have:=(Zf (c:=c) (by have:=(QaJ h1).2.1; omega)).2.1;dsimp only;rw [h2]; omega
theorem hd_len {rec:Cur -> Int -> Pa} (H:Less rec) (c:Cur) (k:Int):(hd rec c k).1.1.L.length <= c.L.length /\ ((hd rec c k).1.1.bad = 0 -> (hd rec c k).1.1.L.length < c.L.length):=by
 unfold hd
 split
 ·rename_i hb
  have:=Qv hb.2 (by decide);have h1:=(H (on c) 3).1;exact ⟨by dsimp only; omega,fun _=>by dsimp only; omega⟩
 split
 ·rename_i hb
  have:=Qv hb (by decide);have h1:=(H (on c) 7).1;exact ⟨by dsimp only; omega,fun _=>by dsimp only; omega⟩
 ·exact atom_len H c
theorem QbX:∀ f,Less (S f) /\ ∀ lev k c x,(C f lev k c x).1.L.length <= c.L.length /\ ((C f lev k c x).1.bad = 0 -> c.bad = 0)
 | 0 => ⟨fun d j => ⟨Nat.le_refl _,id⟩,fun lev k c x => ⟨Nat.le_refl _,id⟩⟩
 | f + 1 => by
   obtain ⟨ih1,ih2⟩:=QbX f;refine ⟨fun d j=>?_,fun lev k c x=>?_⟩
   ·by_cases h:d.bad = 0
    ·rw [ZI f j h]
     exact ⟨Nat.le_trans (ih2 _ _ _ _).1 (hd_len ih1 d j).1,fun _=>h⟩
    ·rw [Z5 _ j h]; exact ⟨Nat.le_refl _,id⟩
   ·cases hs:sgn c lev k with
    | none => rw [QY _ x hs]; exact ⟨Nat.le_refl _,id⟩
    | some s =>
      rw [J2 f x hs];have h1:=Qab hs;have h2:=(ih1 (on c) s.right).1;have h3:=ih2 s.lev k (S f (on c) s.right).1 (opT s.op::(x++(S f (on c) s.right).2));exact ⟨by omega,fun _=>h1.1⟩
theorem Q5 (f:Nat):Less (S f):=(QbX f).1
theorem C_len (f:Nat) (lev k:Int) (c:Cur) (x:List Tm):(C f lev k c x).1.L.length<=c.L.length:=((QbX f).2 lev k c x).1
def Fit (f:Nat) (c:Cur):Prop:=c.bad=0->c.L.length<f
theorem Fit.zero {c:Cur} (h:Fit 0 c):c.bad≠0:=fun h'=>absurd (h h') (by omega)
theorem Fit.fitHd {f:Nat} {c:Cur} (h:Fit (f + 1) c) (h0:c.bad = 0) (k:Int):Fit f (hd (S f) c k).1.1:=fun hb => by
 have:=(hd_len (Q5 f) c k).2 hb;have:=h h0;omega
theorem Fit.fitOn {f:Nat} {c:Cur} {lev k:Int} {s:Sg} (h:Fit (f + 1) c) (hs:sgn c lev k = some s):Fit f (on c):=fun _ => by
 have:=Qab hs;have:=h this.1;omega
theorem Fit.fitStep {f:Nat} {c:Cur} {lev k:Int} {s:Sg} (h:Fit (f + 1) c) (hs:sgn c lev k = some s) (j:Int):Fit f (S f (on c) j).1:=fun _ => by
 have:=(Q5 f (on c) j).1;have:=Qab hs;have:=h this.1;omega
theorem Fit.le {f:Nat} {c d:Cur} (h:Fit f c) (h0:c.bad = 0) (hl:d.L.length <= c.L.length):Fit f d:=fun _ => by
 have:=h h0;omega
theorem Qfo {rec rec':Cur -> Int -> Pa} {c:Cur} {n:Nat} (H:∀ d j,(d.bad = 0 -> d.L.length < n) -> rec d j = rec' d j) (HL:Less rec) (hc:c.bad = 0 -> c.L.length < n) (o:Int):two rec c o = two rec' c o:=by
 unfold two
 have e1:rec (want c 3 tOpen) 1 = rec' (want c 3 tOpen) 1:=H _ _ (fun hb => by
  have h1:=QW hb;have:=QT c 3 tOpen;have:=hc (Qr h1.1).1;omega)
 have e2:rec (want (rec (want c 3 tOpen) 1).1 3 tComma) 1 = rec' (want (rec (want c 3 tOpen) 1).1 3 tComma) 1:=H _ _ (fun hb => by
  have h1:=Qr (QW hb).1;have h2:=HL (want c 3 tOpen) 1;have h3:=Qr (QW (h2.2 h1.1)).1;have:=QT c 3 tOpen;have:=QT (rec (want c 3 tOpen) 1).1 3 tComma;have:=hc h3.1;omega)
 dsimp only;rw [e2,e1]
theorem hd_congr {rec rec':Cur -> Int -> Pa} {c:Cur} (H:∀ d j,(d.bad = 0 -> d.L.length < c.L.length) -> rec d j = rec' d j) (HL:Less rec) (k:Int):hd rec c k = hd rec' c k:=by
 have ho:∀ {k:Int} {s:ByteArray},isB c k s = true -> k ≠ 0 -> (on c).bad = 0 -> (on c).L.length < c.L.length:=fun hb hk _ => by
  have:=Qv hb hk;omega
 unfold hd
 split
 ·rename_i hb
  rw [H (on c) 3 (ho hb.2 (by decide))]
 split
 ·rename_i hb
  rw [H (on c) 7 (ho hb (by decide))]
 ·congr 1
  unfold atom
  split
  ·rfl
  split
  ·rfl
  split
  ·rfl
  split
  ·rfl
  split
  ·rename_i hb; exact Qfo H HL (ho hb (by decide)) 7
  split
  ·rename_i hb; exact Qfo H HL (ho hb (by decide)) 8
  split
  ·rename_i hb; rw [H (on c) 1 (ho hb (by decide))]
  ·rfl
theorem QeD:∀ f g,(∀ c k,Fit f c -> Fit g c -> S f c k = S g c k) /\ (∀ lev k c x,Fit f c -> Fit g c -> C f lev k c x = C g lev k c x)
 | 0,g => ⟨fun c k h _ => by rw [Z5 0 k h.zero,Z5 g k h.zero],fun lev k c x h _ => by rw [QY 0 x (Jp lev k h.zero),QY g x (Jp lev k h.zero)]⟩
 | f + 1,0 => ⟨fun c k _ h => by rw [Z5 0 k h.zero,Z5 (f + 1) k h.zero],fun lev k c x _ h => by rw [QY 0 x (Jp lev k h.zero),QY (f + 1) x (Jp lev k h.zero)]⟩
 | f + 1,g + 1 => by
   obtain ⟨ih1,ih2⟩:=QeD f g;refine ⟨fun c k hf hg=>?_,fun lev k c x hf hg=>?_⟩
   ·by_cases h:c.bad = 0
    ·have e:hd (S f) c k = hd (S g) c k:=hd_congr (fun d j hd => ih1 d j (fun hb => by have:=hd hb; have:=hf h; omega) (fun hb => by have:=hd hb; have:=hg h; omega)) (Q5 f) k
     rw [ZI f k h,ZI g k h,e];exact ih2 _ _ _ _ (by rw [<- e]; exact hf.fitHd h k) (hg.fitHd h k)
    ·rw [Z5 _ k h,Z5 _ k h]
   ·cases hs:sgn c lev k with
    | none => rw [QY _ x hs,QY _ x hs]
    | some s =>
      rw [J2 f x hs,J2 g x hs,ih1 (on c) s.right (hf.fitOn hs) (hg.fitOn hs)];exact ih2 _ _ _ _ (by rw [<- ih1 (on c) s.right (hf.fitOn hs) (hg.fitOn hs)]; exact hf.fitStep hs _) (hg.fitStep hs _)
theorem S_same {f g:Nat} {c:Cur} (k:Int) (hf:Fit f c) (hg:Fit g c):S f c k=S g c k:=(QeD f g).1 c k hf hg
theorem C_same {f g:Nat} {c:Cur} (lev k:Int) (x:List Tm) (hf:Fit f c) (hg:Fit g c):C f lev k c x=C g lev k c x:=(QeD f g).2 lev k c x hf hg
end ExprSpec
end
end Go.Proofs.YtbdalbpackfejaaGreatDoor
