/- RulesSpec, SoundSpec, RulesMem, EvalOps, KitC, EvalMem, ActIn, ActMem, ActVar, ShapeMem, joined. -/
import Derived.Test.YtejbpleghjgpbaaDoorMSoundLines04
import Derived.Test.YtejbpleghjgpbaaDoorMSoundLines00
import Derived.Test.YtejbpleghjgpbaaDoorRows
import Derived.Test.YtejbpleghjgpbaaDoorMSoundLines01
import Derived.Laws.Tables
import Derived.Test.YtejbpleghjgpbaaDoorMSoundLines02
import Derived.BigQuiet
import Derived.Lib.QuietBelow
import Derived.Test.YtejbpleghjgpbaaDoorMSoundLines03
namespace Go.Proofs.YtejbpleghjgpbaaDoor
namespace RulesSpec
open CurSpec TermSpec EvalSpec NamesSpec ActSpec TransSpec SynSpec PrintSpec
open ShapeSpec (Sh kids)
structure Fw where
 r:Int
 i:Int
 p:Int
def oneF (b:Bool) (f:Fw):List Fw:=if b then [f] else []
def itemsF (r:Int) (l:List Int):List Fw:=l.map fun i => ⟨r,i,0⟩
def plTo (f:Nat → Bool):Nat → List Int
 | 0 => []
 | k + 1 => plTo f k ++ if f k then [(k:Int)] else []
theorem plTo_yes {f:Nat → Bool} {k:Nat} (h:f k = true):plTo f (k + 1) = plTo f k ++ [(k:Int)]:=by show plTo f k ++ _ = _; rw [if_pos h]
theorem plTo_no {f:Nat → Bool} {k:Nat} (h:f k = false):plTo f (k + 1) = plTo f k:=by show plTo f k ++ _ = _; rw [if_neg (by simp [h]),List.append_nil]
theorem plTo_length (f:Nat → Bool) (k:Nat):(plTo f k).length ≤ k:=by
 induction k with
 | zero => exact Nat.le_refl _
 | succ k ih =>
   cases h:f k with
   | true => rw [plTo_yes h,List.length_append]; simp; exact ih
   | false => rw [plTo_no h]; omega
theorem itemsF_append (r:Int) (a b:List Int):itemsF r (a ++ b) = itemsF r a ++ itemsF r b:=List.map_append ..
theorem itemsF_length (r:Int) (l:List Int):(itemsF r l).length = l.length:=List.length_map _
def vnC (x:Cx):List ByteArray:=x.vars.map (·.s)
def snC (x:Cx):List ByteArray:=x.sts.map (·.s)
def termR (vs ss:List ByteArray) (t:Tm):Bool:=(!decide (t.op = 2) || hasS vs t.s) && (!decide (t.op = 11) || hasS ss t.s)
def exprR (vs ss:List ByteArray) (l:List Tm) (ty:Int):Bool:=l.all (termR vs ss) && decide (typ l = ty)
def allIn (l all:List ByteArray):Bool:=l.all (hasS all)
theorem names_in (vs ss:List ByteArray) (l:List Tm):l.all (termR vs ss) = (allIn (namesOf l 2) vs && allIn (namesOf l 11) ss):=by
 induction l with
 | nil => rfl
 | cons t r ih =>
   have e:∀ (o:Int) (q:List ByteArray),allIn (namesOf (t :: r) o) q = ((!decide (t.op = o) || hasS q t.s) && allIn (namesOf r o) q):=by
    intro o q
    unfold allIn namesOf
    rw [List.filter_cons]
    by_cases h:t.op = o <;> simp [h]
   rw [List.all_cons,ih,e,e]
   unfold termR
   cases (!decide (t.op = 2) || hasS vs t.s) <;> cases (!decide (t.op = 11) || hasS ss t.s) <;> cases allIn (namesOf r 2) vs <;> cases allIn (namesOf r 11) ss <;> rfl
theorem exprR_is (vs ss:List ByteArray) (l:List Tm) (ty:Int):exprR vs ss l ty = (decide (typ l = ty) && (allIn (namesOf l 2) vs && allIn (namesOf l 11) ss)):=by
 unfold exprR
 rw [names_in,Bool.and_comm]
def actR (vs ss:List ByteArray) (any:Bool) (a:Ac):Bool:=hasS vs a.s && (if a.any then any else exprR vs ss a.x 1)
def actsR (vs ss:List ByteArray) (any:Bool) (l:List Ac):Bool:=l.all (actR vs ss any)
def noneAny (l:List Ac):Bool:=l.all fun a => !a.any
theorem edge_is (vs ss:List ByteArray) (l:List Ac):actsR vs ss false l = (noneAny l && actsR vs ss true l):=by
 induction l with
 | nil => rfl
 | cons a r ih =>
   unfold actsR noneAny at ih ⊢
   rw [List.all_cons,List.all_cons,List.all_cons,ih]
   unfold actR
   cases a.any <;> cases hasS vs a.s <;> cases exprR vs ss a.x 1 <;> cases (r.all fun a => !a.any) <;> simp
def rangeR (v:Vr):Bool:=decide (v.lo ≤ v.ini) && (decide (v.ini ≤ v.hi) && decide (v.hi - v.lo < 64))
def illB (l:List Vr) (i:Nat):Bool:=(l[i]?).any fun v => !rangeR v
theorem illB_at {l:List Vr} {i:Nat} {v:Vr} (h:l[i]? = some v):illB l i = !rangeR v:=by unfold illB; rw [h]; rfl
def mustK (k:Int):Int:=if k = 2 then 1 else if k = 3 then 2 else 0
def loneB (l:List Sh) (i:Nat):Bool:=decide (((kids l i).length:Int) < mustK (ShapeSpec.kind l i))
def brT (es vs ss:List ByteArray) (rule:Int) (t:Tr):Bool :=
 if rule = 6 then !decide (t.ev.size = 0) && !hasS es t.ev else if rule = 7 then !decide (t.tg.size = 0) && !hasS ss t.tg else
 if rule = 8 then !decide (t.g.length = 0) && !exprR vs ss t.g 2 else if rule = 9 then !actsR vs ss true t.acts else false
def brS (es vs ss:List ByteArray) (rule:Int) (s:Sx):List Bool :=
 if rule = 10 then [!actsR vs ss false s.en,!actsR vs ss false s.ex] else s.tr.map (brT es vs ss rule)
def flTo (rule:Int) (i:Nat) (bs:List Bool):Nat → List Fw
 | 0 => []
 | k + 1 => flTo rule i bs k ++ oneF ((bs[k]?).getD false) ⟨rule,i,k⟩
theorem flTo_yes {rule:Int} {i k:Nat} {bs:List Bool} (h:bs[k]? = some true):flTo rule i bs (k + 1) = flTo rule i bs k ++ [⟨rule,i,k⟩]:=by show flTo rule i bs k ++ _ = _; rw [h]; rfl
theorem flTo_no {rule:Int} {i k:Nat} {bs:List Bool} (h:bs[k]? = some false):flTo rule i bs (k + 1) = flTo rule i bs k:=by show flTo rule i bs k ++ _ = _; rw [h]; exact List.append_nil _
theorem flTo_length (rule:Int) (i:Nat) (bs:List Bool) (k:Nat):(flTo rule i bs k).length ≤ k:=by
 induction k with
 | zero => exact Nat.le_refl _
 | succ k ih =>
   have:flTo rule i bs (k + 1) = flTo rule i bs k ++ oneF ((bs[k]?).getD false) ⟨rule,i,k⟩:=rfl
   rw [this,List.length_append]
   have:(oneF ((bs[k]?).getD false) (⟨rule,i,k⟩:Fw)).length ≤ 1:=by unfold oneF; split <;> simp
   omega
def ptTo (es vs ss:List ByteArray) (rule:Int) (l:List Sx):Nat → List Fw
 | 0 => []
 | n + 1 => ptTo es vs ss rule l n ++ (l[n]?).elim [] fun s => flTo rule n (brS es vs ss rule s) (brS es vs ss rule s).length
theorem ptTo_next {es vs ss:List ByteArray} {rule:Int} {l:List Sx} {n:Nat} {s:Sx} (h:l[n]? = some s) :
 ptTo es vs ss rule l (n + 1) = ptTo es vs ss rule l n ++ flTo rule n (brS es vs ss rule s) (brS es vs ss rule s).length:=by
 show ptTo es vs ss rule l n ++ _ = _
 rw [h]
 rfl
theorem ptTo_length {es vs ss:List ByteArray} {rule:Int} {l:List Sx} (hl:∀ s ∈ l,s.tr.length ≤ 100) (n:Nat):(ptTo es vs ss rule l n).length ≤ n * 100:=by
 induction n with
 | zero => exact Nat.le_refl _
 | succ n ih =>
   cases h:l[n]? with
   | none =>
     show (ptTo es vs ss rule l n ++ (l[n]?).elim _ _).length ≤ _
     rw [h]
     simp
     omega
   | some s =>
     rw [ptTo_next h,List.length_append]
     have h1:=flTo_length rule n (brS es vs ss rule s) (brS es vs ss rule s).length
     have h2:(brS es vs ss rule s).length ≤ 100:=by
      unfold brS
      split
      ·simp
      ·rw [List.length_map]; exact hl s (List.mem_of_getElem? h)
     omega
def brk (x:Cx) (rule:Int):List Fw :=
 if rule = 1 then itemsF 1 (twins x.evs) else if rule = 2 then itemsF 2 (twins (vnC x)) else if rule = 3 then itemsF 3 (plTo (illB x.vars) x.vars.length) else
 if rule = 4 then itemsF 4 (twins (snC x)) else if rule = 5 then itemsF 5 (plTo (loneB (x.sts.map shOf)) x.sts.length) else ptTo x.evs (vnC x) (snC x) rule x.sts x.sts.length
end RulesSpec
end Go.Proofs.YtejbpleghjgpbaaDoor
namespace Go.Proofs.YtejbpleghjgpbaaDoor
namespace SoundSpec
open NamesSpec SynSpec RulesSpec PrintSpec
def allTo (x:Cx):Nat → List Fw
 | 0 => []
 | k + 1 => allTo x k ++ brk x ((k:Int) + 1)
def flawsC (x:Cx):List Fw:=allTo x 10
theorem allTo_next (x:Cx) (k:Nat):allTo x (k + 1) = allTo x k ++ brk x ((k:Int) + 1):=rfl
theorem allTo_length {x:Cx} {n:Nat} (h:∀ r,(brk x r).length ≤ n) (k:Nat):(allTo x k).length ≤ k * n:=by
 induction k with
 | zero => exact Nat.zero_le _
 | succ k ih =>
   rw [allTo_next,List.length_append,Nat.succ_mul]
   have:=h ((k:Int) + 1)
   omega
def soundC (x:Cx):Bool:=mayC x && decide ((flawsC x).length = 0)
def wordsR:List ByteArray:=[⟨#[]⟩,⟨#[101,118,101,110,116]⟩,⟨#[118,97,114]⟩,⟨#[114,97,110,103,101]⟩,⟨#[110,97,109,101]⟩,⟨#[107,105,100,115]⟩,⟨#[111,110]⟩,⟨#[116,97,114,103,101,116]⟩,⟨#[103,117,97,114,100]⟩,⟨#[97,99,116,115]⟩,⟨#[101,100,103,101]⟩]
def wordR (r:Int):ByteArray:=if 1 ≤ r ∧ r ≤ 10 then wordsR.getD r.toNat ⟨#[]⟩ else ⟨#[]⟩
def lineR (r:Int):ByteArray:=if 1 ≤ r ∧ r ≤ 10 then wordR r else ⟨#[63]⟩
def lineF (f:Fw):ByteArray:=lineR f.r ++ ⟨#[32]⟩ ++ ⟨(ValSpec.text f.i).toArray⟩ ++ ⟨#[32]⟩ ++ ⟨(ValSpec.text f.p).toArray⟩
theorem ptext_len (n:Int) (h1:-9223372036854775808 ≤ n) (h2:n ≤ 9223372036854775807):(ValSpec.text n).length ≤ 20:=by
 have h:=ValSpec.digs_len 18 n.natAbs (by omega)
 unfold ValSpec.text
 split <;> simp <;> omega
theorem ptext_size (n:Int) (h1:-9223372036854775808 ≤ n) (h2:n ≤ 9223372036854775807):(⟨(ValSpec.text n).toArray⟩:ByteArray).size ≤ 20:=by
 rw [show (⟨(ValSpec.text n).toArray⟩:ByteArray).size = (ValSpec.text n).length from rfl]
 exact ptext_len n h1 h2
theorem lineR_size (r:Int):(lineR r).size ≤ 6:=by
 by_cases h:1 ≤ r ∧ r ≤ 10
 ·rcases (show r = 1 ∨ r = 2 ∨ r = 3 ∨ r = 4 ∨ r = 5 ∨ r = 6 ∨ r = 7 ∨ r = 8 ∨ r = 9 ∨ r = 10 by omega) with rfl | rfl | rfl | rfl | rfl | rfl | rfl | rfl | rfl | rfl <;> decide
 ·unfold lineR
  rw [if_neg h]
  decide
end SoundSpec
end Go.Proofs.YtejbpleghjgpbaaDoor
namespace Go.Proofs.YtejbpleghjgpbaaDoor
open Go.RowKit RulesSpec
set_option maxRecDepth 100000
def fwV (f:Fw):List Value:=[.int .i64 f.r,.int .i64 f.i,.int .i64 f.p]
def fwsV (l:List Fw):List Value:=l.flatMap fwV
theorem fwV_length (f:Fw):(fwV f).length = 3:=rfl
theorem fwsV_one (l:List Fw):∀ u ∈ fwsV l,u.oneCell' = true:=by
 intro u hu
 obtain ⟨f,_,h⟩:=List.mem_flatMap.1 hu
 simp only [fwV,List.mem_cons,List.not_mem_nil,or_false] at h
 rcases h with rfl | rfl | rfl <;> rfl
theorem fwsV_append (a b:List Fw):fwsV a ++ fwsV b = fwsV (a ++ b):=by unfold fwsV; rw [List.flatMap_append]
def Fws (w:World) (v:Value) (l:List Fw):Prop:=Rdk 3 w v l.length (fwsV l)
theorem Fws.keep {w w':World} {v:Value} {l:List Fw} (h:Fws w v l) (hb:Below w.heap.size w w'):Fws w' v l:=Rdk.keep h hb
theorem Fws.shape {w:World} {v:Value} {l:List Fw} (h:Fws w v l):∃ A n c,v = .slice A n c ∧ n = l.length:=by
 obtain ⟨A,c,hv,_⟩:=h
 exact ⟨A,_,c,hv,rfl⟩
theorem Fws.len {w:World} {A:Option Addr} {n c:Nat} {l:List Fw} (h:Fws w (.slice A n c) l):n = l.length:=by
 obtain ⟨A,c,hv,_⟩:=h
 cases hv
 rfl
theorem Fws.at_ {w:World} {A:Option Addr} {n c:Nat} {l:List Fw} {i:Nat} {f:Fw} (h:Fws w (.slice A n c) l) (hi:l[i]? = some f) :
 ∃ b off,A = some ⟨b,off,none⟩ ∧ b < w.heap.size ∧ w.cell? ⟨b,off + i * 3,none⟩ = some (.int .i64 f.r) ∧ w.cell? ⟨b,off + i * 3 + 1,none⟩ = some (.int .i64 f.i) ∧ w.cell? ⟨b,off + i * 3 + 2,none⟩ = some (.int .i64 f.p):=by
 obtain ⟨A',c',heq,hc,hl,hA⟩:=h
 cases heq
 have:=get_lt hi
 obtain ⟨b,off,rfl,hb,hcell⟩:=hA (by omega)
 exact ⟨b,off,rfl,hb,hcell _ _ (flat_get (j:=0) fwV_length hi (by omega)),by rw [Nat.add_assoc]; exact hcell _ _ (flat_get (j:=1) fwV_length hi (by omega)),by rw [Nat.add_assoc]; exact hcell _ _ (flat_get (j:=2) fwV_length hi (by omega))⟩
theorem fw_lit {w:World} {cs:Array Value} {f:Fw} {e:TypeId} {k:Nat} (hk:k = w.heap.size) (hx:cs.toList = fwV f):Rdk 3 (w.alloc (.cells cs e)) (.slice (some ⟨k,0,none⟩) 1 1) 1 (fwsV [f]):=by
 subst hk
 refine ⟨_,1,rfl,Nat.le_refl _,rfl,fun _ => ⟨w.heap.size,0,rfl,by simp,fun j u hj => ?_⟩⟩
 rw [show fwsV [f] = fwV f from List.append_nil _,← hx,Array.getElem?_toList] at hj
 rw [World.cell?_alloc_at _ _ _ _ rfl]
 simpa using hj
def RowF (W wr:World) (p:Value) (xs:List Fw):Prop:=wr.ownsRow W.heap.size 29 3 p xs.length (fwsV xs) ∧ Below W.heap.size W wr
theorem RowF.nil (W wr:World) (hb:Below W.heap.size W wr):RowF W wr (.slice none 0 0) []:=⟨World.ownsRow_nil _ _ _ _,hb⟩
theorem RowF.keep {W w w':World} {p:Value} {xs:List Fw} (h:RowF W w p xs) (hb:Below w.heap.size w w'):RowF W w' p xs:=⟨own_keep h.1 hb,below_two' h.2 hb⟩
theorem RowF.add {W wr w2:World} {p p':Value} {xs:List Fw} {f:Fw} {o:Obj} (h:RowF W wr p xs) (hrow:w2.ownsRow W.heap.size 29 3 p' (xs.length + 1) (fwsV xs ++ fwsV [f])) (hg:(wr.alloc o).grownBy w2 p.ownBlock):RowF W w2 p' (xs ++ [f]):=by
 refine ⟨?_,(h.2.alloc h.2.size o).grown hg (by have:=h.2.size; simp; omega) (fun j hj => (own_block_bd h.1 j hj).1)⟩
 rw [← fwsV_append,List.length_append]
 exact hrow
theorem RowF.fws {W wr:World} {p:Value} {xs:List Fw} (h:RowF W wr p xs):Fws wr p xs:=Rdk.own h.1
def RetFw (W:World) (l:List Fw) (e:Ending) (w':World):Prop:=∃ A n c,e = .returned (.slice A n c) ∧ n = l.length ∧ Fws w' (.slice A n c) l ∧ Below W.heap.size W w'
theorem RowF.ret {W wr:World} {p:Value} {xs:List Fw} (h:RowF W wr p xs):RetFw W xs (.returned p) wr:=by
 obtain ⟨A,n,c,rfl,hn⟩:=h.fws.shape
 exact ⟨A,n,c,rfl,hn,h.fws,h.2⟩
theorem inf_flaw:(Tryd.prog.info? 29).map (fun i => (i.zero,i.size,i.bytes)) = some (some (.agg #[.int .i64 0,.int .i64 0,.int .i64 0]),3,24):=by kernel_rfl
theorem fw_two (a b:Int) (w:World):(Instr.build 29 #[(0,.int .i64 a),(1,.int .i64 b)]).run Tryd.prog w = .ok (.agg #[.int .i64 a,.int .i64 b,.int .i64 0]) w:=run_build w 29 _ _ (by kernel_rfl)
theorem fw_three (a b c:Int) (w:World):(Instr.build 29 #[(0,.int .i64 a),(1,.int .i64 b),(2,.int .i64 c)]).run Tryd.prog w = .ok (.agg #[.int .i64 a,.int .i64 b,.int .i64 c]) w:=run_build w 29 _ _ (by kernel_rfl)
end Go.Proofs.YtejbpleghjgpbaaDoor
namespace Go.Proofs.YtejbpleghjgpbaaDoor
open Go.RowKit TermSpec EvalSpec ValSpec
end Go.Proofs.YtejbpleghjgpbaaDoor
namespace Go.Proofs.YtejbpleghjgpbaaDoor
namespace KitC
open Go.RowKit
theorem below_one (w:World) (o:Obj):Below w.heap.size w (w.alloc o):=(Below.refl _ _).alloc (Nat.le_refl _) _
theorem below_pair (w:World) (o p:Obj):Below w.heap.size w ((w.alloc o).alloc p):=((Below.refl _ _).alloc (Nat.le_refl _) _).alloc (by simp) _
theorem pair_blocks {w w2:World} {o p:Obj} (hb:Below ((w.alloc o).alloc p).heap.size ((w.alloc o).alloc p) w2) :
 w2.heap[w.heap.size]? = some o ∧ w2.heap[w.heap.size + 1]? = some p ∧ Below w.heap.size w w2 ∧ w.heap.size + 1 < w2.heap.size:=by
 have hz:=hb.size
 simp only [World.size_alloc] at hz
 refine ⟨(hb.block _ (by simp; omega)).trans ((heap_alloc_old _ _ (by simp)).trans (heap_alloc_new _ _)),(hb.block _ (by simp)).trans ?_,?_,by omega⟩
 ·have:=heap_alloc_new (w.alloc o) p
  rwa [World.size_alloc] at this
 ·exact (below_pair w o p).trans (hb.mono (by simp; omega))
theorem one_block {w w2:World} {o:Obj} (hb:Below (w.alloc o).heap.size (w.alloc o) w2):w2.heap[w.heap.size]? = some o ∧ Below w.heap.size w w2 ∧ w.heap.size < w2.heap.size:=by
 have hz:=hb.size
 simp only [World.size_alloc] at hz
 exact ⟨(hb.block _ (by simp)).trans (heap_alloc_new _ _),((Below.refl _ _).alloc (Nat.le_refl _) _).trans (hb.mono (by simp)),by omega⟩
theorem block_on {w w2:World} {b:Nat} {o:Obj} (h:w.heap[b]? = some o) (hb:Below w.heap.size w w2):w2.heap[b]? = some o:=(hb.block b (Array.getElem?_eq_some_iff.1 h).1).trans h
end KitC
end Go.Proofs.YtejbpleghjgpbaaDoor
namespace Go.Proofs.YtejbpleghjgpbaaDoor
open Go.RowKit TermSpec EvalSpec NamesSpec Go.Lib
structure EP where
 vA:Option Addr
 vn:Nat
 vc:Nat
 iA:Option Addr
 im:Nat
 ic:Nat
def vrV (v:Vr):List Value:=[.string v.s,.int .i64 v.lo,.int .i64 v.hi,.int .i64 v.ini]
def vrsV (l:List Vr):List Value:=l.flatMap vrV
theorem vrV_length (v:Vr):(vrV v).length = 4:=rfl
theorem vrsV_get {l:List Vr} {i:Nat} {v:Vr} (h:l[i]? = some v):(vrsV l)[i * 4]? = some (.string v.s) ∧ (vrsV l)[i * 4 + 1]? = some (.int .i64 v.lo) ∧ (vrsV l)[i * 4 + 2]? = some (.int .i64 v.hi) ∧ (vrsV l)[i * 4 + 3]? = some (.int .i64 v.ini) :=
 ⟨flat_get (j:=0) vrV_length h (by omega),flat_get (j:=1) vrV_length h (by omega),flat_get (j:=2) vrV_length h (by omega),flat_get (j:=3) vrV_length h (by omega)⟩
def VarsIn (w:World) (A:Option Addr) (n c:Nat) (l:List Vr):Prop:=n = l.length ∧ Rdk 4 w (.slice A n c) n (vrsV l)
theorem VarsIn.keep {w w':World} {A:Option Addr} {n c:Nat} {l:List Vr} (h:VarsIn w A n c l) (hb:Below w.heap.size w w'):VarsIn w' A n c l:=⟨h.1,h.2.keep hb⟩
theorem VarsIn.at_ {w:World} {A:Option Addr} {n c:Nat} {l:List Vr} {i:Nat} {v:Vr} (h:VarsIn w A n c l) (hi:l[i]? = some v) :
 ∃ b off,A = some ⟨b,off,none⟩ ∧ b < w.heap.size ∧ w.cell? ⟨b,off + i * 4,none⟩ = some (.string v.s) ∧ w.cell? ⟨b,off + i * 4 + 1,none⟩ = some (.int .i64 v.lo) ∧ w.cell? ⟨b,off + i * 4 + 2,none⟩ = some (.int .i64 v.hi) ∧ w.cell? ⟨b,off + i * 4 + 3,none⟩ = some (.int .i64 v.ini):=by
 obtain ⟨hn,A',c',heq,hc,hl,hA⟩:=h
 cases heq
 have:=get_lt hi
 obtain ⟨b,off,rfl,hb,hcell⟩:=hA (by omega)
 obtain ⟨g0,g1,g2,g3⟩:=vrsV_get hi
 exact ⟨b,off,rfl,hb,hcell _ _ g0,by rw [Nat.add_assoc]; exact hcell _ _ g1,by rw [Nat.add_assoc]; exact hcell _ _ g2,by rw [Nat.add_assoc]; exact hcell _ _ g3⟩
theorem VarsIn.cap {w:World} {A:Option Addr} {n c:Nat} {l:List Vr} (h:VarsIn w A n c l):n ≤ c:=by
 obtain ⟨hn,A',c',heq,hc,hl,hA⟩:=h
 cases heq
 exact hc
structure EnvIn (w:World) (p:EP) (e:Ev):Prop where
 vars:VarsIn w p.vA p.vn p.vc e.vars
 ins:Rd w (.slice p.iA p.im p.ic) (strV e.ins)
 vbd:e.vars.length ≤ 9223372036854775807
 ibd:e.ins.length ≤ 9223372036854775807
theorem EnvIn.keep {w w':World} {p:EP} {e:Ev} (h:EnvIn w p e) (hb:Below w.heap.size w w'):EnvIn w' p e:=⟨h.vars.keep hb,h.ins.keep hb,h.vbd,h.ibd⟩
end Go.Proofs.YtejbpleghjgpbaaDoor
namespace Go.Proofs.YtejbpleghjgpbaaDoor
open Go.RowKit TermSpec EvalSpec ActSpec NamesSpec
structure AP where
 a:Ac
 xA:Option Addr
 xn:Nat
 xc:Nat
def acV (p:AP):List Value:=[.string p.a.s,.bool p.a.any,.slice p.xA p.xn p.xc]
def acsV (l:List AP):List Value:=l.flatMap acV
theorem acV_length (p:AP):(acV p).length = 3:=rfl
theorem acsV_append (a b:List AP):acsV a ++ acsV b = acsV (a ++ b):=by unfold acsV; rw [List.flatMap_append]
theorem acsV_get {l:List AP} {i:Nat} {p:AP} (h:l[i]? = some p):(acsV l)[i * 3]? = some (.string p.a.s) ∧ (acsV l)[i * 3 + 1]? = some (.bool p.a.any) ∧ (acsV l)[i * 3 + 2]? = some (.slice p.xA p.xn p.xc) :=
 ⟨flat_get (j:=0) acV_length h (by omega),flat_get (j:=1) acV_length h (by omega),flat_get (j:=2) acV_length h (by omega)⟩
def Acs (w:World) (v:Value) (l:List Ac):Prop:=∃ ps:List AP,ps.map (·.a) = l ∧ Rdk 3 w v l.length (acsV ps) ∧ ∀ p ∈ ps,Tms w (.slice p.xA p.xn p.xc) p.a.x
theorem Acs.keep {w w':World} {v:Value} {l:List Ac} (h:Acs w v l) (hb:Below w.heap.size w w'):Acs w' v l:=by
 obtain ⟨ps,hm,hr,hx⟩:=h
 exact ⟨ps,hm,hr.keep hb,fun p hp => (hx p hp).keep hb⟩
theorem Acs.shape {w:World} {v:Value} {l:List Ac} (h:Acs w v l):∃ A n c,v = .slice A n c ∧ n = l.length ∧ n ≤ c:=by
 obtain ⟨ps,hm,⟨A,c,hv,hc,_⟩,_⟩:=h
 exact ⟨A,_,c,hv,rfl,hc⟩
theorem Acs.len {w:World} {A:Option Addr} {n c:Nat} {l:List Ac} (h:Acs w (.slice A n c) l):n = l.length ∧ n ≤ c:=by
 obtain ⟨A',n',c',heq,hn,hc⟩:=h.shape
 cases heq
 exact ⟨hn,hc⟩
theorem Acs.at_ {w:World} {A:Option Addr} {n c:Nat} {l:List Ac} {i:Nat} {a:Ac} (h:Acs w (.slice A n c) l) (hi:l[i]? = some a) :
 ∃ b off xA xn xc,A = some ⟨b,off,none⟩ ∧ b < w.heap.size ∧ Tms w (.slice xA xn xc) a.x ∧ w.cell? ⟨b,off + i * 3,none⟩ = some (.string a.s) ∧ w.cell? ⟨b,off + i * 3 + 1,none⟩ = some (.bool a.any) ∧ w.cell? ⟨b,off + i * 3 + 2,none⟩ = some (.slice xA xn xc):=by
 obtain ⟨ps,hm,⟨A',c',heq,hc,hl,hA⟩,hx⟩:=h
 cases heq
 subst hm
 have:=get_lt hi
 obtain ⟨b,off,rfl,hb,hcell⟩:=hA (by omega)
 rw [List.getElem?_map] at hi
 cases hp:ps[i]? with
 | none => rw [hp] at hi; cases hi
 | some p =>
   rw [hp] at hi
   cases hi
   obtain ⟨g0,g1,g2⟩:=acsV_get hp
   exact ⟨b,off,p.xA,p.xn,p.xc,rfl,hb,hx p (List.mem_of_getElem? hp),hcell _ _ g0,by rw [Nat.add_assoc]; exact hcell _ _ g1,by rw [Nat.add_assoc]; exact hcell _ _ g2⟩
def SmallA (a:Ac):Prop:=a.s.size ≤ 9223372036854775807 ∧ Small a.x ∧ a.x.length ≤ 4398046511104
theorem oneA_name {a:Ac} (h:isName a.s.data.toList = false):oneA a = 1:=by unfold oneA; rw [if_pos h]
theorem oneA_expr {a:Ac} (h:isName a.s.data.toList = true) (h2:a.any = false):oneA a = chk a.x:=by unfold oneA; rw [if_neg (by simp [h]),if_pos h2]
theorem oneA_any {a:Ac} (h:isName a.s.data.toList = true) (h2:a.any = true):oneA a = if a.x.length = 0 then 0 else 1:=by unfold oneA; rw [if_neg (by simp [h]),if_neg (by simp [h2])]
end Go.Proofs.YtejbpleghjgpbaaDoor
namespace Go.Proofs.YtejbpleghjgpbaaDoor
open Go.RowKit Go.Sort TermSpec EvalSpec ActSpec
def v4V (x:V4):List Value:=[.int .i64 x.a,.int .i64 x.b,.int .i64 x.c,.int .i64 x.d]
def v4sV (l:List V4):List Value:=l.flatMap v4V
theorem v4V_length (x:V4):(v4V x).length = 4:=rfl
theorem v4sV_get {l:List V4} {i:Nat} {x:V4} (h:l[i]? = some x):(v4sV l)[i * 4]? = some (.int .i64 x.a) ∧ (v4sV l)[i * 4 + 1]? = some (.int .i64 x.b) ∧ (v4sV l)[i * 4 + 2]? = some (.int .i64 x.c) ∧ (v4sV l)[i * 4 + 3]? = some (.int .i64 x.d) :=
 ⟨flat_get (j:=0) v4V_length h (by omega),flat_get (j:=1) v4V_length h (by omega),flat_get (j:=2) v4V_length h (by omega),flat_get (j:=3) v4V_length h (by omega)⟩
def V4s (w:World) (v:Value) (l:List V4):Prop:=∃ n,n = l.length ∧ Rdk 4 w v n (v4sV l)
theorem V4s.keep {w w':World} {v:Value} {l:List V4} (h:V4s w v l) (hb:Below w.heap.size w w'):V4s w' v l:=by
 obtain ⟨n,hn,h⟩:=h
 exact ⟨n,hn,h.keep hb⟩
theorem V4s.shape {w:World} {v:Value} {l:List V4} (h:V4s w v l):∃ A n c,v = .slice A n c ∧ n = l.length ∧ n ≤ c:=by
 obtain ⟨n,hn,A,c,hv,hc,_⟩:=h
 exact ⟨A,n,c,hv,hn,hc⟩
theorem V4s.at_ {w:World} {A:Option Addr} {n c:Nat} {l:List V4} {i:Nat} {x:V4} (h:V4s w (.slice A n c) l) (hi:l[i]? = some x) :
 ∃ b off,A = some ⟨b,off,none⟩ ∧ b < w.heap.size ∧ w.cell? ⟨b,off + i * 4,none⟩ = some (.int .i64 x.a) ∧ w.cell? ⟨b,off + i * 4 + 1,none⟩ = some (.int .i64 x.b) ∧ w.cell? ⟨b,off + i * 4 + 2,none⟩ = some (.int .i64 x.c) ∧ w.cell? ⟨b,off + i * 4 + 3,none⟩ = some (.int .i64 x.d):=by
 obtain ⟨m,hm,A',c',heq,hc,hl,hA⟩:=h
 cases heq
 have:=get_lt hi
 obtain ⟨b,off,rfl,hb,hcell⟩:=hA (by omega)
 obtain ⟨g0,g1,g2,g3⟩:=v4sV_get hi
 exact ⟨b,off,rfl,hb,hcell _ _ g0,by rw [Nat.add_assoc]; exact hcell _ _ g1,by rw [Nat.add_assoc]; exact hcell _ _ g2,by rw [Nat.add_assoc]; exact hcell _ _ g3⟩
end Go.Proofs.YtejbpleghjgpbaaDoor
namespace Go.Proofs.YtejbpleghjgpbaaDoor
open Go.RowKit TermSpec EvalSpec ActSpec NamesSpec Go.Lib
def VFit (v:Vr):Prop:=-9223372036854775808 ≤ v.lo ∧ v.lo ≤ 9223372036854775807 ∧ -9223372036854775808 ≤ v.hi ∧ v.hi ≤ 9223372036854775807
theorem u64_span {lo hi:Int} (h1:-9223372036854775808 ≤ lo) (h2:hi ≤ 9223372036854775807) (h:lo ≤ hi):IntKind.u64.wrap (IntKind.u64.wrap hi - IntKind.u64.wrap lo) = hi - lo:=by
 simp only [IntKind.wrap_u64]
 omega
end Go.Proofs.YtejbpleghjgpbaaDoor
namespace Go.Proofs.YtejbpleghjgpbaaDoor
open Go.RowKit ShapeSpec
structure StC where
 s:ByteArray
 sh:Sh
 a3:Option Addr
 n3:Nat
 c3:Nat
 a4:Option Addr
 n4:Nat
 c4:Nat
 a5:Option Addr
 n5:Nat
 c5:Nat
def stV (t:StC):List Value:=[.string t.s,.int .i64 t.sh.kind,.int .i64 t.sh.par,.slice t.a3 t.n3 t.c3,.slice t.a4 t.n4 t.c4,.slice t.a5 t.n5 t.c5]
def stsV (l:List StC):List Value:=l.flatMap stV
theorem stV_length (t:StC):(stV t).length = 6:=rfl
def Sts (w:World) (v:Value) (l:List Sh):Prop:=∃ xs:List StC,l = xs.map (·.sh) ∧ Rdk 6 w v l.length (stsV xs)
theorem Sts.keep {w w':World} {v:Value} {l:List Sh} (h:Sts w v l) (hb:Below w.heap.size w w'):Sts w' v l:=by
 obtain ⟨xs,hx,h⟩:=h
 exact ⟨xs,hx,h.keep hb⟩
theorem Sts.alloc {w:World} {v:Value} {l:List Sh} (h:Sts w v l) (o:Obj):Sts (w.alloc o) v l:=h.keep ((Below.refl _ _).alloc (Nat.le_refl _) _)
theorem Sts.shape {w:World} {v:Value} {l:List Sh} (h:Sts w v l):∃ A n c,v = .slice A n c ∧ n = l.length ∧ n ≤ c:=by
 obtain ⟨xs,hx,A,c,hv,hc,_⟩:=h
 exact ⟨A,_,c,hv,rfl,hc⟩
theorem Sts.all {w:World} {A:Option Addr} {n c:Nat} {l:List Sh} {i:Nat} {t:Sh} (h:Sts w (.slice A n c) l) (hi:l[i]? = some t) :
 ∃ b off s a3 n3 c3 a4 n4 c4 a5 n5 c5,A = some ⟨b,off,none⟩ ∧ b < w.heap.size ∧ w.cell? ⟨b,off + i * 6,none⟩ = some (.string s) ∧ w.cell? ⟨b,off + i * 6 + 1,none⟩ = some (.int .i64 t.kind) ∧ w.cell? ⟨b,off + i * 6 + 2,none⟩ = some (.int .i64 t.par) ∧
   w.cell? ⟨b,off + i * 6 + 3,none⟩ = some (.slice a3 n3 c3) ∧ w.cell? ⟨b,off + i * 6 + 4,none⟩ = some (.slice a4 n4 c4) ∧ w.cell? ⟨b,off + i * 6 + 5,none⟩ = some (.slice a5 n5 c5):=by
 obtain ⟨xs,rfl,A',c',heq,hc,hl,hA⟩:=h
 cases heq
 have hlt:=get_lt hi
 rw [List.getElem?_map] at hi
 obtain ⟨x,hx,rfl⟩:=Option.map_eq_some_iff.1 hi
 obtain ⟨b,off,rfl,hb,hcell⟩:=hA (by omega)
 refine ⟨b,off,x.s,x.a3,x.n3,x.c3,x.a4,x.n4,x.c4,x.a5,x.n5,x.c5,rfl,hb,?_,?_,?_,?_,?_,?_⟩
 ·exact hcell _ _ (flat_get (j:=0) stV_length hx (by omega))
 ·rw [Nat.add_assoc]; exact hcell _ _ (flat_get (j:=1) stV_length hx (by omega))
 ·rw [Nat.add_assoc]; exact hcell _ _ (flat_get (j:=2) stV_length hx (by omega))
 ·rw [Nat.add_assoc]; exact hcell _ _ (flat_get (j:=3) stV_length hx (by omega))
 ·rw [Nat.add_assoc]; exact hcell _ _ (flat_get (j:=4) stV_length hx (by omega))
 ·rw [Nat.add_assoc]; exact hcell _ _ (flat_get (j:=5) stV_length hx (by omega))
theorem Sts.at_ {w:World} {A:Option Addr} {n c:Nat} {l:List Sh} {i:Nat} (h:Sts w (.slice A n c) l) (hi:i < n) :
 ∃ b off,A = some ⟨b,off,none⟩ ∧ b < w.heap.size ∧ w.cell? ⟨b,off + i * 6 + 1,none⟩ = some (.int .i64 (kind l i)) ∧ w.cell? ⟨b,off + i * 6 + 2,none⟩ = some (.int .i64 (par l i)):=by
 obtain ⟨_,m,_,heq,hm,_⟩:=h.shape
 cases heq
 obtain ⟨t,ht⟩:∃ t,l[i]? = some t:=get_some (by omega)
 obtain ⟨b,off,s,a3,n3,c3,a4,n4,c4,a5,n5,c5,rfl,hb,h0,h1,h2,_⟩:=h.all ht
 rw [kind_at ht,par_at ht]
 exact ⟨b,off,rfl,hb,h1,h2⟩
theorem Sts.len {w:World} {A:Option Addr} {n c:Nat} {l:List Sh} (h:Sts w (.slice A n c) l):n = l.length:=by
 obtain ⟨_,m,_,heq,hm,_⟩:=h.shape
 cases heq
 exact hm
end Go.Proofs.YtejbpleghjgpbaaDoor