/- RulesSpec, SoundSpec, RulesMem, ActMem, ActVar, ShapeKids, RulesItems, joined. -/
import Derived.Test.YtapnomdckglehaaGreatMAtlasTurns11
import Derived.Test.YtapnomdckglehaaGreatMAtlasTurns00
import Derived.Test.YtapnomdckglehaaGreatRows
import Derived.Test.YtapnomdckglehaaGreatMAtlasTurns02
import Derived.Laws.Tables
import Derived.Test.YtapnomdckglehaaGreatMAtlasTurns04
import Derived.BigQuiet
import Derived.Lib.QuietBelow
import Derived.Test.YtapnomdckglehaaGreatMAtlasTurns05
import Derived.Test.YtapnomdckglehaaGreatMAtlasTurns09
import Derived.Deep.DeepFit
namespace Go.Proofs.YtapnomdckglehaaGreat
namespace RulesSpec
open CurSpec TermSpec EvalSpec NamesSpec ActSpec TransSpec SynSpec PrintSpec
open ShapeSpec (Sh kids)
structure Fw where
 r:Int
 i:Int
 p:Int
def oneF (b:Bool) (f:Fw):List Fw:=if b then [f] else []
def itemsF (r:Int) (l:List Int):List Fw:=l.map fun i => ⟨r,i,0⟩
def plTo (f:Nat → Bool):Nat → List Int
 | 0 => []
 | k + 1 => plTo f k ++ if f k then [(k:Int)] else []
theorem plTo_yes {f:Nat → Bool} {k:Nat} (h:f k = true):plTo f (k + 1) = plTo f k ++ [(k:Int)]:=by show plTo f k ++ _ = _; rw [if_pos h]
theorem plTo_no {f:Nat → Bool} {k:Nat} (h:f k = false):plTo f (k + 1) = plTo f k:=by show plTo f k ++ _ = _; rw [if_neg (by simp [h]),List.append_nil]
theorem plTo_length (f:Nat → Bool) (k:Nat):(plTo f k).length ≤ k:=by
 induction k with
 | zero => exact Nat.le_refl _
 | succ k ih =>
   cases h:f k with
   | true => rw [plTo_yes h,List.length_append]; simp; exact ih
   | false => rw [plTo_no h]; omega
theorem itemsF_append (r:Int) (a b:List Int):itemsF r (a ++ b) = itemsF r a ++ itemsF r b:=List.map_append ..
theorem itemsF_length (r:Int) (l:List Int):(itemsF r l).length = l.length:=List.length_map _
def vnC (x:Cx):List ByteArray:=x.vars.map (·.s)
def snC (x:Cx):List ByteArray:=x.sts.map (·.s)
def termR (vs ss:List ByteArray) (t:Tm):Bool:=(!decide (t.op = 2) || hasS vs t.s) && (!decide (t.op = 11) || hasS ss t.s)
def exprR (vs ss:List ByteArray) (l:List Tm) (ty:Int):Bool:=l.all (termR vs ss) && decide (typ l = ty)
def allIn (l all:List ByteArray):Bool:=l.all (hasS all)
theorem names_in (vs ss:List ByteArray) (l:List Tm):l.all (termR vs ss) = (allIn (namesOf l 2) vs && allIn (namesOf l 11) ss):=by
 induction l with
 | nil => rfl
 | cons t r ih =>
   have e:∀ (o:Int) (q:List ByteArray),allIn (namesOf (t :: r) o) q = ((!decide (t.op = o) || hasS q t.s) && allIn (namesOf r o) q):=by
    intro o q
    unfold allIn namesOf
    rw [List.filter_cons]
    by_cases h:t.op = o <;> simp [h]
   rw [List.all_cons,ih,e,e]
   unfold termR
   cases (!decide (t.op = 2) || hasS vs t.s) <;> cases (!decide (t.op = 11) || hasS ss t.s) <;> cases allIn (namesOf r 2) vs <;> cases allIn (namesOf r 11) ss <;> rfl
theorem exprR_is (vs ss:List ByteArray) (l:List Tm) (ty:Int):exprR vs ss l ty = (decide (typ l = ty) && (allIn (namesOf l 2) vs && allIn (namesOf l 11) ss)):=by
 unfold exprR
 rw [names_in,Bool.and_comm]
def actR (vs ss:List ByteArray) (any:Bool) (a:Ac):Bool:=hasS vs a.s && (if a.any then any else exprR vs ss a.x 1)
def actsR (vs ss:List ByteArray) (any:Bool) (l:List Ac):Bool:=l.all (actR vs ss any)
def noneAny (l:List Ac):Bool:=l.all fun a => !a.any
theorem edge_is (vs ss:List ByteArray) (l:List Ac):actsR vs ss false l = (noneAny l && actsR vs ss true l):=by
 induction l with
 | nil => rfl
 | cons a r ih =>
   unfold actsR noneAny at ih ⊢
   rw [List.all_cons,List.all_cons,List.all_cons,ih]
   unfold actR
   cases a.any <;> cases hasS vs a.s <;> cases exprR vs ss a.x 1 <;> cases (r.all fun a => !a.any) <;> simp
def rangeR (v:Vr):Bool:=decide (v.lo ≤ v.ini) && (decide (v.ini ≤ v.hi) && decide (v.hi - v.lo < 64))
def illB (l:List Vr) (i:Nat):Bool:=(l[i]?).any fun v => !rangeR v
theorem illB_at {l:List Vr} {i:Nat} {v:Vr} (h:l[i]? = some v):illB l i = !rangeR v:=by unfold illB; rw [h]; rfl
def mustK (k:Int):Int:=if k = 2 then 1 else if k = 3 then 2 else 0
def loneB (l:List Sh) (i:Nat):Bool:=decide (((kids l i).length:Int) < mustK (ShapeSpec.kind l i))
def brT (es vs ss:List ByteArray) (rule:Int) (t:Tr):Bool :=
 if rule = 6 then !decide (t.ev.size = 0) && !hasS es t.ev else if rule = 7 then !decide (t.tg.size = 0) && !hasS ss t.tg else
 if rule = 8 then !decide (t.g.length = 0) && !exprR vs ss t.g 2 else if rule = 9 then !actsR vs ss true t.acts else false
def brS (es vs ss:List ByteArray) (rule:Int) (s:Sx):List Bool :=
 if rule = 10 then [!actsR vs ss false s.en,!actsR vs ss false s.ex] else s.tr.map (brT es vs ss rule)
def flTo (rule:Int) (i:Nat) (bs:List Bool):Nat → List Fw
 | 0 => []
 | k + 1 => flTo rule i bs k ++ oneF ((bs[k]?).getD false) ⟨rule,i,k⟩
theorem flTo_yes {rule:Int} {i k:Nat} {bs:List Bool} (h:bs[k]? = some true):flTo rule i bs (k + 1) = flTo rule i bs k ++ [⟨rule,i,k⟩]:=by show flTo rule i bs k ++ _ = _; rw [h]; rfl
theorem flTo_no {rule:Int} {i k:Nat} {bs:List Bool} (h:bs[k]? = some false):flTo rule i bs (k + 1) = flTo rule i bs k:=by show flTo rule i bs k ++ _ = _; rw [h]; exact List.append_nil _
theorem flTo_length (rule:Int) (i:Nat) (bs:List Bool) (k:Nat):(flTo rule i bs k).length ≤ k:=by
 induction k with
 | zero => exact Nat.le_refl _
 | succ k ih =>
   have:flTo rule i bs (k + 1) = flTo rule i bs k ++ oneF ((bs[k]?).getD false) ⟨rule,i,k⟩:=rfl
   rw [this,List.length_append]
   have:(oneF ((bs[k]?).getD false) (⟨rule,i,k⟩:Fw)).length ≤ 1:=by unfold oneF; split <;> simp
   omega
def ptTo (es vs ss:List ByteArray) (rule:Int) (l:List Sx):Nat → List Fw
 | 0 => []
 | n + 1 => ptTo es vs ss rule l n ++ (l[n]?).elim [] fun s => flTo rule n (brS es vs ss rule s) (brS es vs ss rule s).length
theorem ptTo_next {es vs ss:List ByteArray} {rule:Int} {l:List Sx} {n:Nat} {s:Sx} (h:l[n]? = some s) :
 ptTo es vs ss rule l (n + 1) = ptTo es vs ss rule l n ++ flTo rule n (brS es vs ss rule s) (brS es vs ss rule s).length:=by
 show ptTo es vs ss rule l n ++ _ = _
 rw [h]
 rfl
theorem ptTo_length {es vs ss:List ByteArray} {rule:Int} {l:List Sx} (hl:∀ s ∈ l,s.tr.length ≤ 100) (n:Nat):(ptTo es vs ss rule l n).length ≤ n * 100:=by
 induction n with
 | zero => exact Nat.le_refl _
 | succ n ih =>
   cases h:l[n]? with
   | none =>
     show (ptTo es vs ss rule l n ++ (l[n]?).elim _ _).length ≤ _
     rw [h]
     simp
     omega
   | some s =>
     rw [ptTo_next h,List.length_append]
     have h1:=flTo_length rule n (brS es vs ss rule s) (brS es vs ss rule s).length
     have h2:(brS es vs ss rule s).length ≤ 100:=by
      unfold brS
      split
      ·simp
      ·rw [List.length_map]; exact hl s (List.mem_of_getElem? h)
     omega
def brk (x:Cx) (rule:Int):List Fw :=
 if rule = 1 then itemsF 1 (twins x.evs) else if rule = 2 then itemsF 2 (twins (vnC x)) else if rule = 3 then itemsF 3 (plTo (illB x.vars) x.vars.length) else
 if rule = 4 then itemsF 4 (twins (snC x)) else if rule = 5 then itemsF 5 (plTo (loneB (x.sts.map shOf)) x.sts.length) else ptTo x.evs (vnC x) (snC x) rule x.sts x.sts.length
end RulesSpec
end Go.Proofs.YtapnomdckglehaaGreat
namespace Go.Proofs.YtapnomdckglehaaGreat
namespace SoundSpec
open NamesSpec SynSpec RulesSpec PrintSpec
def allTo (x:Cx):Nat → List Fw
 | 0 => []
 | k + 1 => allTo x k ++ brk x ((k:Int) + 1)
def flawsC (x:Cx):List Fw:=allTo x 10
theorem allTo_next (x:Cx) (k:Nat):allTo x (k + 1) = allTo x k ++ brk x ((k:Int) + 1):=rfl
theorem allTo_length {x:Cx} {n:Nat} (h:∀ r,(brk x r).length ≤ n) (k:Nat):(allTo x k).length ≤ k * n:=by
 induction k with
 | zero => exact Nat.zero_le _
 | succ k ih =>
   rw [allTo_next,List.length_append,Nat.succ_mul]
   have:=h ((k:Int) + 1)
   omega
def soundC (x:Cx):Bool:=mayC x && decide ((flawsC x).length = 0)
end SoundSpec
end Go.Proofs.YtapnomdckglehaaGreat
namespace Go.Proofs.YtapnomdckglehaaGreat
open Go.RowKit RulesSpec
set_option maxRecDepth 100000
def fwV (f:Fw):List Value:=[.int .i64 f.r,.int .i64 f.i,.int .i64 f.p]
def fwsV (l:List Fw):List Value:=l.flatMap fwV
theorem fwV_length (f:Fw):(fwV f).length = 3:=rfl
theorem fwsV_one (l:List Fw):∀ u ∈ fwsV l,u.oneCell' = true:=by
 intro u hu
 obtain ⟨f,_,h⟩:=List.mem_flatMap.1 hu
 simp only [fwV,List.mem_cons,List.not_mem_nil,or_false] at h
 rcases h with rfl | rfl | rfl <;> rfl
theorem fwsV_append (a b:List Fw):fwsV a ++ fwsV b = fwsV (a ++ b):=by unfold fwsV; rw [List.flatMap_append]
def Fws (w:World) (v:Value) (l:List Fw):Prop:=Rdk 3 w v l.length (fwsV l)
theorem Fws.keep {w w':World} {v:Value} {l:List Fw} (h:Fws w v l) (hb:Below w.heap.size w w'):Fws w' v l:=Rdk.keep h hb
theorem Fws.shape {w:World} {v:Value} {l:List Fw} (h:Fws w v l):∃ A n c,v = .slice A n c ∧ n = l.length:=by
 obtain ⟨A,c,hv,_⟩:=h
 exact ⟨A,_,c,hv,rfl⟩
theorem Fws.len {w:World} {A:Option Addr} {n c:Nat} {l:List Fw} (h:Fws w (.slice A n c) l):n = l.length:=by
 obtain ⟨A,c,hv,_⟩:=h
 cases hv
 rfl
theorem Fws.at_ {w:World} {A:Option Addr} {n c:Nat} {l:List Fw} {i:Nat} {f:Fw} (h:Fws w (.slice A n c) l) (hi:l[i]? = some f) :
 ∃ b off,A = some ⟨b,off,none⟩ ∧ b < w.heap.size ∧ w.cell? ⟨b,off + i * 3,none⟩ = some (.int .i64 f.r) ∧ w.cell? ⟨b,off + i * 3 + 1,none⟩ = some (.int .i64 f.i) ∧ w.cell? ⟨b,off + i * 3 + 2,none⟩ = some (.int .i64 f.p):=by
 obtain ⟨A',c',heq,hc,hl,hA⟩:=h
 cases heq
 have:=get_lt hi
 obtain ⟨b,off,rfl,hb,hcell⟩:=hA (by omega)
 exact ⟨b,off,rfl,hb,hcell _ _ (flat_get (j:=0) fwV_length hi (by omega)),by rw [Nat.add_assoc]; exact hcell _ _ (flat_get (j:=1) fwV_length hi (by omega)),by rw [Nat.add_assoc]; exact hcell _ _ (flat_get (j:=2) fwV_length hi (by omega))⟩
theorem fw_lit {w:World} {cs:Array Value} {f:Fw} {e:TypeId} {k:Nat} (hk:k = w.heap.size) (hx:cs.toList = fwV f):Rdk 3 (w.alloc (.cells cs e)) (.slice (some ⟨k,0,none⟩) 1 1) 1 (fwsV [f]):=by
 subst hk
 refine ⟨_,1,rfl,Nat.le_refl _,rfl,fun _ => ⟨w.heap.size,0,rfl,by simp,fun j u hj => ?_⟩⟩
 rw [show fwsV [f] = fwV f from List.append_nil _,← hx,Array.getElem?_toList] at hj
 rw [World.cell?_alloc_at _ _ _ _ rfl]
 simpa using hj
def RowF (W wr:World) (p:Value) (xs:List Fw):Prop:=wr.ownsRow W.heap.size 110 3 p xs.length (fwsV xs) ∧ Below W.heap.size W wr
theorem RowF.nil (W wr:World) (hb:Below W.heap.size W wr):RowF W wr (.slice none 0 0) []:=⟨World.ownsRow_nil _ _ _ _,hb⟩
theorem RowF.keep {W w w':World} {p:Value} {xs:List Fw} (h:RowF W w p xs) (hb:Below w.heap.size w w'):RowF W w' p xs:=⟨own_keep h.1 hb,below_two' h.2 hb⟩
theorem RowF.add {W wr w2:World} {p p':Value} {xs:List Fw} {f:Fw} {o:Obj} (h:RowF W wr p xs) (hrow:w2.ownsRow W.heap.size 110 3 p' (xs.length + 1) (fwsV xs ++ fwsV [f])) (hg:(wr.alloc o).grownBy w2 p.ownBlock):RowF W w2 p' (xs ++ [f]):=by
 refine ⟨?_,(h.2.alloc h.2.size o).grown hg (by have:=h.2.size; simp; omega) (fun j hj => (own_block_bd h.1 j hj).1)⟩
 rw [← fwsV_append,List.length_append]
 exact hrow
theorem RowF.fws {W wr:World} {p:Value} {xs:List Fw} (h:RowF W wr p xs):Fws wr p xs:=Rdk.own h.1
def RetFw (W:World) (l:List Fw) (e:Ending) (w':World):Prop:=∃ A n c,e = .returned (.slice A n c) ∧ n = l.length ∧ Fws w' (.slice A n c) l ∧ Below W.heap.size W w'
theorem RowF.ret {W wr:World} {p:Value} {xs:List Fw} (h:RowF W wr p xs):RetFw W xs (.returned p) wr:=by
 obtain ⟨A,n,c,rfl,hn⟩:=h.fws.shape
 exact ⟨A,n,c,rfl,hn,h.fws,h.2⟩
theorem inf_flaw:(Tryz.prog.info? 110).map (fun i => (i.zero,i.size,i.bytes)) = some (some (.agg #[.int .i64 0,.int .i64 0,.int .i64 0]),3,24):=by kernel_rfl
theorem fw_two (a b:Int) (w:World):(Instr.build 110 #[(0,.int .i64 a),(1,.int .i64 b)]).run Tryz.prog w = .ok (.agg #[.int .i64 a,.int .i64 b,.int .i64 0]) w:=run_build w 110 _ _ (by kernel_rfl)
theorem fw_three (a b c:Int) (w:World):(Instr.build 110 #[(0,.int .i64 a),(1,.int .i64 b),(2,.int .i64 c)]).run Tryz.prog w = .ok (.agg #[.int .i64 a,.int .i64 b,.int .i64 c]) w:=run_build w 110 _ _ (by kernel_rfl)
end Go.Proofs.YtapnomdckglehaaGreat
namespace Go.Proofs.YtapnomdckglehaaGreat
open Go.RowKit Go.Sort TermSpec EvalSpec ActSpec
def v4V (x:V4):List Value:=[.int .i64 x.a,.int .i64 x.b,.int .i64 x.c,.int .i64 x.d]
def v4sV (l:List V4):List Value:=l.flatMap v4V
theorem v4V_length (x:V4):(v4V x).length = 4:=rfl
theorem v4sV_get {l:List V4} {i:Nat} {x:V4} (h:l[i]? = some x):(v4sV l)[i * 4]? = some (.int .i64 x.a) ∧ (v4sV l)[i * 4 + 1]? = some (.int .i64 x.b) ∧ (v4sV l)[i * 4 + 2]? = some (.int .i64 x.c) ∧ (v4sV l)[i * 4 + 3]? = some (.int .i64 x.d) :=
 ⟨flat_get (j:=0) v4V_length h (by omega),flat_get (j:=1) v4V_length h (by omega),flat_get (j:=2) v4V_length h (by omega),flat_get (j:=3) v4V_length h (by omega)⟩
def V4s (w:World) (v:Value) (l:List V4):Prop:=∃ n,n = l.length ∧ Rdk 4 w v n (v4sV l)
theorem V4s.keep {w w':World} {v:Value} {l:List V4} (h:V4s w v l) (hb:Below w.heap.size w w'):V4s w' v l:=by
 obtain ⟨n,hn,h⟩:=h
 exact ⟨n,hn,h.keep hb⟩
theorem V4s.shape {w:World} {v:Value} {l:List V4} (h:V4s w v l):∃ A n c,v = .slice A n c ∧ n = l.length ∧ n ≤ c:=by
 obtain ⟨n,hn,A,c,hv,hc,_⟩:=h
 exact ⟨A,n,c,hv,hn,hc⟩
theorem V4s.at_ {w:World} {A:Option Addr} {n c:Nat} {l:List V4} {i:Nat} {x:V4} (h:V4s w (.slice A n c) l) (hi:l[i]? = some x) :
 ∃ b off,A = some ⟨b,off,none⟩ ∧ b < w.heap.size ∧ w.cell? ⟨b,off + i * 4,none⟩ = some (.int .i64 x.a) ∧ w.cell? ⟨b,off + i * 4 + 1,none⟩ = some (.int .i64 x.b) ∧ w.cell? ⟨b,off + i * 4 + 2,none⟩ = some (.int .i64 x.c) ∧ w.cell? ⟨b,off + i * 4 + 3,none⟩ = some (.int .i64 x.d):=by
 obtain ⟨m,hm,A',c',heq,hc,hl,hA⟩:=h
 cases heq
 have:=get_lt hi
 obtain ⟨b,off,rfl,hb,hcell⟩:=hA (by omega)
 obtain ⟨g0,g1,g2,g3⟩:=v4sV_get hi
 exact ⟨b,off,rfl,hb,hcell _ _ g0,by rw [Nat.add_assoc]; exact hcell _ _ g1,by rw [Nat.add_assoc]; exact hcell _ _ g2,by rw [Nat.add_assoc]; exact hcell _ _ g3⟩
end Go.Proofs.YtapnomdckglehaaGreat
namespace Go.Proofs.YtapnomdckglehaaGreat
open Go.RowKit TermSpec EvalSpec ActSpec NamesSpec Go.Lib
def VFit (v:Vr):Prop:=-9223372036854775808 ≤ v.lo ∧ v.lo ≤ 9223372036854775807 ∧ -9223372036854775808 ≤ v.hi ∧ v.hi ≤ 9223372036854775807
theorem u64_span {lo hi:Int} (h1:-9223372036854775808 ≤ lo) (h2:hi ≤ 9223372036854775807) (h:lo ≤ hi):IntKind.u64.wrap (IntKind.u64.wrap hi - IntKind.u64.wrap lo) = hi - lo:=by
 simp only [IntKind.wrap_u64]
 omega
end Go.Proofs.YtapnomdckglehaaGreat
namespace Go.Proofs.YtapnomdckglehaaGreat
open Go.RowKit ShapeSpec
set_option maxRecDepth 100000
def RetRowI (W:World) (xs:List Int) (e:Ending) (w':World):Prop:=∃ A n c,e = .returned (.slice A n c) ∧ n = xs.length ∧ RowI W w' (.slice A n c) xs
def KidQ (W:World) (l:List Sh) (i n:Nat) (p v:Value) (wr:World):Prop:=∃ k:Nat,k ≤ n ∧ v = .int .i64 k ∧ RowI W wr p (kidsTo l i k)
set_option maxHeartbeats 4000000 in
theorem shkids_row (A:Option Addr) (n c:Nat) (l:List Sh) (i:Int) (w:World) (h:Sts w (.slice A n c) l) (hm:n ≤ 9223372036854775807) :
 Calls Tryz.prog 65 #[.slice A n c,.int .i64 i] w (RetRowI w (kidsA l i)):=by
 have hn:=h.len
 have HH:=Lib.hid (has_any A n c l i w h hm)
 cases hb:hasB l i with
 | false =>
   rw [hb] at HH
   have HE:Hid (kidsA l i = []):=Lib.hid (if_neg (by simp [hb]))
   rw [HE.out]
   clear h hn hb HE
   go_enter Tryz.func65,Tryz.ntmps65
   go_wp2_with (go_at_call 90; (with_reducible refine HH.out.mono ?_))
   rintro e w1 ⟨rfl,hb1⟩
   go_wp2_with fail
   go_ret
   exact ⟨none,0,0,rfl,rfl,RowI.nil _ _ hb1⟩
 | true =>
   rw [hb] at HH
   obtain ⟨a,rfl,ha,han,hn60,hsu⟩:=has_at hn hb
   have HE:Hid (kidsA l (a:Int) = kidsTo l a n):=Lib.hid (by unfold kidsA; rw [if_pos hb,hn]; rfl)
   rw [HE.out]
   have HT:=Lib.hid h
   have HN:=Lib.hid hn
   obtain ⟨i0,hi,hz0,hz1,hz2⟩:=info_parts inf_int
   have HI:=Lib.hid (And.intro hi (And.intro hz0 (And.intro hz1 hz2)))
   clear h hn hb HE ha hsu hi hz0 hz1 hz2
   go_enter Tryz.func65,Tryz.ntmps65
   go_wp2_with (go_at_call 90; (with_reducible refine HH.out.mono ?_))
   rintro e w1 ⟨rfl,hb1⟩
   have HB1:=Lib.hid hb1
   clear hb1
   go_wp2_with fail
   go_loopw [5,14] (fun p v wr => KidQ w l a n p v wr) (fun _ v _ => n - (intOf v).toNat)
   case atStart => exact ⟨0,Nat.zero_le _,rfl,RowI.nil _ _ HB1.out⟩
   case round =>
    obtain ⟨k,hk,rfl,hrow⟩:=hrel
    have HR:=Lib.hid hrow
    clear hrow
    by_cases hlt:k < n
    ·have hltI:(k:Int) < n:=by omega
     obtain ⟨t,ht⟩:∃ t,l[k]? = some t:=get_some (by rw [← HN.out]; exact hlt)
     have HT1:=Lib.hid (HT.out.keep HR.out.2)
     obtain ⟨b,off,s,a3,n3,c3,a4,n4,c4,a5,n5,c5,rfl,hb,c0,c1,c2,c3',c4',c5'⟩:=HT1.out.all ht
     have HP:=Lib.hid (par_at ht)
     obtain ⟨q,hq⟩:∃ q,q = t.par:=⟨_,rfl⟩
     rw [← hq] at c2 HP
     have HRA:=Lib.hid (fun (o:Obj) => HR.out.keep ((Below.refl _ _).alloc (Nat.le_refl _) o))
     have HSZ:Hid (w.heap.size ≤ wr.heap.size):=Lib.hid HR.out.2.size
     have hkl:=kids_le l a k
     have HL1:Hid ((kidsTo l a k).length + (intV [(k:Int)]).length ≤ maxLen):=Lib.hid (by simp [maxLen]; omega)
     have HL2:Hid (((kidsTo l a k).length + (intV [(k:Int)]).length) * 8 ≤ 140737488355328):=Lib.hid (by simp; omega)
     clear ht hq hkl
     by_cases hqa:q = a
     ·have g1:(q == (a:Int)) = true:=by simpa using hqa
      have HS:Hid (kidsTo l a (k + 1) = kidsTo l a k ++ [(k:Int)]):=Lib.hid (kids_yes (HP.out.trans hqa))
      clear hqa
      go_wp2_with (at_builtin; refine wpList_append_rd _ rfl (.tmp 23) (.tmp 25) _ rfl w.heap.size 3 i0 (.int .i64 0) 8 Tryz.underlying40 HI.out.1 HI.out.2.1 HI.out.2.2.1 HI.out.2.2.2 rfl _ _ _ rfl (((HRA.out _).1).alloc _) _ (intV [(k:Int)]) rfl (lit_here (by simp) rfl rfl) (intV_one _) HL1.out HL2.out ?_ ?_; (have:=HSZ.out; simp; omega); intro p2 w2 hrow2 hg2 _; have HR2:=Lib.hid (RowI.add (HRA.out _) hrow2 hg2); clear hrow2 hg2)
      go_roundw
      case rel => exact ⟨k + 1,by omega,by simp,by rw [HS.out]; exact HR2.out⟩
      case measure => simp [intOf]; omega
     ·have g1:(q == (a:Int)) = false:=by simpa using hqa
      have HS:Hid (kidsTo l a (k + 1) = kidsTo l a k):=Lib.hid (kids_no (by rw [HP.out]; exact hqa))
      clear hqa
      go_wp2_with fail
      go_roundw
      case rel => exact ⟨k + 1,by omega,by simp,by rw [HS.out]; exact HRA.out _⟩
      case measure => simp [intOf]; omega
    ·obtain rfl:k = n:=by omega
     go_wp2_with fail
     go_ret
     obtain ⟨A2,c2,hp⟩:=own_shape HR.out.1
     exact ⟨A2,_,c2,congrArg Ending.returned hp,rfl,hp ▸ HR.out⟩
end Go.Proofs.YtapnomdckglehaaGreat
namespace Go.Proofs.YtapnomdckglehaaGreat
open Go.RowKit TermSpec NamesSpec EvalSpec ActSpec TransSpec SynSpec RulesSpec PrintSpec
open ShapeSpec (Sh kids kidsTo)
set_option maxRecDepth 100000
def ItRel (W:World) (r:Int) (l:List Int) (n:Nat) (p i:Value) (wr:World):Prop:=∃ k:Nat,k ≤ n ∧ i = .int .i64 k ∧ Hid (RowF W wr p (itemsF r (l.take k)))
set_option maxHeartbeats 2000000 in
theorem items_any (r:Int) (v:Value) (l:List Int) (w:World) (h:Rd w v (intV l)) (hl:l.length ≤ 1000000):Calls Tryz.prog 96 #[.int .i64 r,v] w (RetFw w (itemsF r l)):=by
 obtain ⟨A,n,c,rfl,hn,hc,hA⟩:=h.ints
 have HA:=Lib.hid hA
 have HN:=Lib.hid hn
 have hm':n ≤ 1000000:=by omega
 have hfb:=fw_two
 obtain ⟨i0,hi,hz0,hz1,hz2⟩:=info_parts inf_flaw
 have HI:=Lib.hid (And.intro hi (And.intro hz0 (And.intro hz1 hz2)))
 clear h hl hn hc hA hi hz0 hz1 hz2
 go_enter Tryz.func96,Tryz.ntmps96
 go_wp2_with fail
 go_loopw [5,10] (fun p i wr => ItRel w r l n p i wr) (fun _ i _ => n - (intOf i).toNat)
 case atStart => exact ⟨0,Nat.zero_le _,rfl,Lib.hid (RowF.nil _ _ (Below.refl _ _))⟩
 case round =>
  obtain ⟨k,hk,rfl,HR⟩:=hrel
  by_cases hlt:k < n
  ·obtain ⟨b,off,rfl,hb,hcell⟩:=HA.out (by omega)
   obtain ⟨x,hx⟩:∃ x,l[k]? = some x:=get_some (by have:=HN.out; omega)
   have hck:wr.cell? ⟨b,off + k,none⟩ = some (.int .i64 x):=(HR.out.2.cell (by exact hb)).trans (hcell k x hx)
   have HY:Hid (itemsF r (l.take (k + 1)) = itemsF r (l.take k) ++ [⟨r,x,0⟩]):=Lib.hid (by rw [take_next hx,itemsF_append]; rfl)
   have hll:(itemsF r (l.take k)).length ≤ k:=by rw [itemsF_length]; exact List.length_take_le _ _
   have HL1:Hid ((itemsF r (l.take k)).length + 1 ≤ maxLen):=Lib.hid (by simp [maxLen]; omega)
   have HL2:Hid (((itemsF r (l.take k)).length + 1) * 24 ≤ 140737488355328):=Lib.hid (by omega)
   have HSZ:Hid (w.heap.size ≤ wr.heap.size):=Lib.hid HR.out.2.size
   clear hcell hx hll
   go_wp2_with (at_builtin; refine wpList_append_rdk _ rfl (.tmp 14) (.tmp 18) _ rfl w.heap.size 110 i0 (.agg #[.int .i64 0,.int .i64 0,.int .i64 0]) 3 24 Tryz.underlying79 HI.out.1 HI.out.2.1 HI.out.2.2.1 HI.out.2.2.2 rfl (by decide) _ _ _ rfl (HR.out.1.alloc _) _ 1 (fwsV [⟨r,x,0⟩]) rfl (fw_lit rfl rfl) (fwsV_one _) HL1.out HL2.out ?_ ?_; (have:=HSZ.out; simp; omega); intro p2 w2 hrow2 hg2 _; have HR2:=Lib.hid (RowF.add HR.out hrow2 hg2); clear hrow2 hg2)
   go_roundw
   case rel => exact ⟨k + 1,hlt,by simp,Lib.hid (by rw [HY.out]; exact HR2.out)⟩
   case measure => simp [intOf]; omega
  ·obtain rfl:k = n:=by omega
   go_wp2_with fail
   go_ret
   have hr:=HR.out
   rw [List.take_of_length_le (by have:=HN.out; omega)] at hr
   exact hr.ret
def PlRel (W:World) (f:Nat → Bool) (n:Nat) (p i:Value) (wr:World):Prop:=∃ k:Nat,k ≤ n ∧ i = .int .i64 k ∧ Hid (RowI W wr p (plTo f k))
set_option maxRecDepth 100000 in
set_option maxHeartbeats 4000000 in
theorem ill_any (A:Option Addr) (n c:Nat) (l:List Vr) (w:World) (h:RdV w (.slice A n c) l) (hm:n ≤ 1000000) (hf:∀ v ∈ l,VFit v) :
 Calls Tryz.prog 100 #[.slice A n c] w (RetInts w (plTo (illB l) l.length)):=by
 have hn:=h.len.1
 have HV:=Lib.hid (fun W (hW:Below w.heap.size w W) => RdV.vars (w:=W) (Rdk.keep h hW))
 have HN:=Lib.hid hn
 have HF:=Lib.hid hf
 obtain ⟨i0,hi,hz0,hz1,hz2⟩:=info_parts inf_int
 have HI:=Lib.hid (And.intro hi (And.intro hz0 (And.intro hz1 hz2)))
 rw [← hn]
 clear h hn hf hi hz0 hz1 hz2
 go_enter Tryz.func100,Tryz.ntmps100
 go_wp2_with fail
 go_loopw [3,8] (fun p i wr => PlRel w (illB l) n p i wr) (fun _ i _ => n - (intOf i).toNat)
 case atStart => exact ⟨0,Nat.zero_le _,rfl,Lib.hid (RowI.nil _ _ (Below.refl _ _))⟩
 case round =>
  obtain ⟨k,hk,rfl,HR⟩:=hrel
  by_cases hlt:k < n
  ·obtain ⟨v,hv⟩:∃ v,l[k]? = some v:=get_some (by rw [← HN.out]; exact hlt)
   obtain ⟨b,off,rfl,hb,c0,c1,c2,c3⟩:=VarsIn.at_ (HV.out _ HR.out.2) hv
   have HIL:=Lib.hid (illB_at hv)
   have hvf:=HF.out v (List.mem_of_getElem? hv)
   have hll:=plTo_length (illB l) k
   have HL1:Hid ((plTo (illB l) k).length + (intV [(k:Int)]).length ≤ maxLen):=Lib.hid (by simp [maxLen]; omega)
   have HL2:Hid (((plTo (illB l) k).length + (intV [(k:Int)]).length) * 8 ≤ 140737488355328):=Lib.hid (by simp; omega)
   have HSZ:Hid (w.heap.size ≤ wr.heap.size):=Lib.hid HR.out.2.size
   obtain ⟨s,lo,hi',ini⟩:=v
   simp only at c0 c1 c2 c3
   have HRA:=Lib.hid (HR.out.keep (KitC.below_one wr (.cells #[.string s,.int .i64 lo,.int .i64 hi',.int .i64 ini] 68)))
   have HOK:Hid (rangeR ⟨s,lo,hi',ini⟩ = (decide (lo ≤ ini) && (decide (ini ≤ hi') && decide (hi' - lo < 64)))):=Lib.hid rfl
   have HYES:=Lib.hid (fun h => plTo_yes (f:=illB l) (k:=k) h)
   have HNO:=Lib.hid (fun h => plTo_no (f:=illB l) (k:=k) h)
   clear hv hll
   by_cases e1:hi' < lo
   ·have g1:decide (hi' < lo) = true:=by simpa using e1
    have HS:=Lib.hid (HYES.out (by rw [HIL.out,HOK.out]; simp; omega))
    clear e1 hvf
    go_wp2_with (at_builtin; refine wpList_append_rd _ rfl (.tmp 42) (.tmp 44) _ rfl w.heap.size 3 i0 (.int .i64 0) 8 Tryz.underlying40 HI.out.1 HI.out.2.1 HI.out.2.2.1 HI.out.2.2.2 rfl _ _ _ rfl (HRA.out.1.alloc _) _ (intV [(k:Int)]) rfl (lit_here (by simp) rfl rfl) (intV_one _) HL1.out HL2.out ?_ ?_; (have:=HSZ.out; simp; omega); intro p2 w2 hrow2 hg2 _; have HR2:=Lib.hid (RowI.add HRA.out hrow2 hg2); clear hrow2 hg2)
    go_roundw
    case rel => exact ⟨k + 1,hlt,by simp,Lib.hid (by rw [HS.out]; exact HR2.out)⟩
    case measure => simp [intOf]; omega
   have g1:decide (hi' < lo) = false:=by simpa using e1
   have hwr:=u64_span hvf.1 hvf.2.2.2 (by omega:lo ≤ hi')
   have hkeep:=hvf
   clear hvf
   by_cases e2:64 ≤ hi' - lo
   ·have g2:decide (64 ≤ hi' - lo) = true:=by simpa using e2
    have HS:=Lib.hid (HYES.out (by rw [HIL.out,HOK.out]; simp; omega))
    clear e1 e2 hkeep
    go_wp2_with (at_builtin; refine wpList_append_rd _ rfl (.tmp 42) (.tmp 44) _ rfl w.heap.size 3 i0 (.int .i64 0) 8 Tryz.underlying40 HI.out.1 HI.out.2.1 HI.out.2.2.1 HI.out.2.2.2 rfl _ _ _ rfl (HRA.out.1.alloc _) _ (intV [(k:Int)]) rfl (lit_here (by simp) rfl rfl) (intV_one _) HL1.out HL2.out ?_ ?_; (have:=HSZ.out; simp; omega); intro p2 w2 hrow2 hg2 _; have HR2:=Lib.hid (RowI.add HRA.out hrow2 hg2); clear hrow2 hg2)
    go_roundw
    case rel => exact ⟨k + 1,hlt,by simp,Lib.hid (by rw [HS.out]; exact HR2.out)⟩
    case measure => simp [intOf]; omega
   have g2:decide (64 ≤ hi' - lo) = false:=by simpa using e2
   by_cases e3:ini < lo
   ·have g3:decide (ini < lo) = true:=by simpa using e3
    have HS:=Lib.hid (HYES.out (by rw [HIL.out,HOK.out]; simp; omega))
    clear e1 e2 e3 hkeep
    go_wp2_with (at_builtin; refine wpList_append_rd _ rfl (.tmp 42) (.tmp 44) _ rfl w.heap.size 3 i0 (.int .i64 0) 8 Tryz.underlying40 HI.out.1 HI.out.2.1 HI.out.2.2.1 HI.out.2.2.2 rfl _ _ _ rfl (HRA.out.1.alloc _) _ (intV [(k:Int)]) rfl (lit_here (by simp) rfl rfl) (intV_one _) HL1.out HL2.out ?_ ?_; (have:=HSZ.out; simp; omega); intro p2 w2 hrow2 hg2 _; have HR2:=Lib.hid (RowI.add HRA.out hrow2 hg2); clear hrow2 hg2)
    go_roundw
    case rel => exact ⟨k + 1,hlt,by simp,Lib.hid (by rw [HS.out]; exact HR2.out)⟩
    case measure => simp [intOf]; omega
   have g3:decide (ini < lo) = false:=by simpa using e3
   by_cases e4:hi' < ini
   ·have g4:decide (hi' < ini) = true:=by simpa using e4
    have HS:=Lib.hid (HYES.out (by rw [HIL.out,HOK.out]; simp; omega))
    clear e1 e2 e3 e4 hkeep
    go_wp2_with (at_builtin; refine wpList_append_rd _ rfl (.tmp 42) (.tmp 44) _ rfl w.heap.size 3 i0 (.int .i64 0) 8 Tryz.underlying40 HI.out.1 HI.out.2.1 HI.out.2.2.1 HI.out.2.2.2 rfl _ _ _ rfl (HRA.out.1.alloc _) _ (intV [(k:Int)]) rfl (lit_here (by simp) rfl rfl) (intV_one _) HL1.out HL2.out ?_ ?_; (have:=HSZ.out; simp; omega); intro p2 w2 hrow2 hg2 _; have HR2:=Lib.hid (RowI.add HRA.out hrow2 hg2); clear hrow2 hg2)
    go_roundw
    case rel => exact ⟨k + 1,hlt,by simp,Lib.hid (by rw [HS.out]; exact HR2.out)⟩
    case measure => simp [intOf]; omega
   have g4:decide (hi' < ini) = false:=by simpa using e4
   have HS:=Lib.hid (HNO.out (by rw [HIL.out,HOK.out]; simp; omega))
   clear e1 e2 e3 e4 hkeep
   go_wp2_with fail
   go_roundw
   case rel => exact ⟨k + 1,hlt,by simp,Lib.hid (by rw [HS.out]; exact HRA.out)⟩
   case measure => simp [intOf]; omega
  ·obtain rfl:k = n:=by omega
   go_wp2_with fail
   go_ret
   exact HR.out.ret
theorem kids_of {l:List Sh} {i:Nat} (hc:ShapeSpec.chk l = 0) (hi:i < l.length):kidsA l i = kids l i:=by
 unfold kidsA
 rw [if_pos (by simp [hasB,hc,hi])]
 rfl
theorem loneB_at {l:List Sh} {i:Nat} {k:Int} {ks:List Int} (hk:ShapeSpec.kind l i = k) (hs:kids l i = ks):loneB l i = decide ((ks.length:Int) < mustK k):=by unfold loneB; rw [hk,hs]
set_option maxRecDepth 100000 in
set_option maxHeartbeats 4000000 in
theorem lonely_any (A:Option Addr) (n c:Nat) (l:List Sx) (w:World) (h:StsP w (.slice A n c) l) (hm:n ≤ 1000000) (hc:ShapeSpec.chk (l.map shOf) = 0) :
 Calls Tryz.prog 103 #[.slice A n c] w (RetInts w (plTo (loneB (l.map shOf)) l.length)):=by
 have hn:=h.len.1
 have HV:=Lib.hid (fun W (hW:Below w.heap.size w W) => h.keep hW)
 have HK:=Lib.hid (fun (i:Nat) W (hW:Below w.heap.size w W) => shkids_row A n c (l.map shOf) (i:Int) W (h.keep hW).sts (by omega))
 have HKI:=Lib.hid (fun (i:Nat) (hi:i < n) => kids_of (i:=i) hc (by rw [List.length_map,← hn]; exact hi))
 have HN:=Lib.hid hn
 obtain ⟨i0,hi,hz0,hz1,hz2⟩:=info_parts inf_int
 have HI:=Lib.hid (And.intro hi (And.intro hz0 (And.intro hz1 hz2)))
 rw [← hn]
 clear h hn hc hi hz0 hz1 hz2
 go_enter Tryz.func103,Tryz.ntmps103
 go_wp2_with fail
 go_loopw [3,9] (fun p i wr => PlRel w (loneB (l.map shOf)) n p i wr) (fun _ i _ => n - (intOf i).toNat)
 case atStart => exact ⟨0,Nat.zero_le _,rfl,Lib.hid (RowI.nil _ _ (Below.refl _ _))⟩
 case round =>
  obtain ⟨k,hk,rfl,HR⟩:=hrel
  by_cases hlt:k < n
  ·obtain ⟨v,hv⟩:∃ v,l[k]? = some v:=get_some (by rw [← HN.out]; exact hlt)
   obtain ⟨b,off,a3,n3,m3,a4,n4,m4,a5,n5,m5,heq,hb,c0,c1,c2,c3,c4,c5,-,-,-⟩:=(HV.out _ HR.out.2).at_ hv
   have HIL:=Lib.hid (loneB_at (l:=l.map shOf) (i:=k) (k:=v.kind) (ks:=kids (l.map shOf) k) (by rw [ShapeSpec.kind_at (by rw [List.getElem?_map,hv]; rfl)]; rfl) rfl)
   have hll:=plTo_length (loneB (l.map shOf)) k
   have HL1:Hid ((plTo (loneB (l.map shOf)) k).length + (intV [(k:Int)]).length ≤ maxLen):=Lib.hid (by simp [maxLen]; omega)
   have HL2:Hid (((plTo (loneB (l.map shOf)) k).length + (intV [(k:Int)]).length) * 8 ≤ 140737488355328):=Lib.hid (by simp; omega)
   have HKK:=Lib.hid (HK.out k)
   rw [HKI.out k hlt] at HKK
   obtain ⟨ks,hks⟩:∃ ks,ks = kids (l.map shOf) k:=⟨_,rfl⟩
   have hkl:ks.length ≤ 1000000:=by rw [hks]; have:=ShapeSpec.kids_le (l.map shOf) k (l.map shOf).length; rw [List.length_map] at this; have h2:=HN.out; show (kidsTo _ _ _).length ≤ _; rw [List.length_map]; omega
   rw [← hks] at HIL HKK
   obtain ⟨s,kd,pr,en,ex,tr⟩:=v
   simp only at c0 c1 c2 HIL
   have HRA:=Lib.hid (HR.out.keep (KitC.below_one wr (.cells #[.string s,.int .i64 kd,.int .i64 pr,.slice a3 n3 m3,.slice a4 n4 m4,.slice a5 n5 m5] 72)))
   have HYES:=Lib.hid (fun h => plTo_yes (f:=loneB (l.map shOf)) (k:=k) h)
   have HNO:=Lib.hid (fun h => plTo_no (f:=loneB (l.map shOf)) (k:=k) h)
   clear hv hll hks
   subst heq
   by_cases k2:kd = 2
   ·subst k2
    by_cases e:ks.length < 1
    ·have g1:decide ((ks.length:Int) < 1) = true:=by simp; omega
     have HS:=Lib.hid (HYES.out (by rw [HIL.out]; show decide ((ks.length:Int) < 1) = true; simp; omega))
     clear e
     go_wp2_with (go_at_call 65; go_fit (HKK.out _ HRA.out.2))
     rintro e w3 ⟨A3,n3',c3',rfl,hn3,hrk⟩
     have HR3:=Lib.hid (HRA.out.keep hrk.2)
     have HSZ:Hid (w.heap.size ≤ w3.heap.size):=Lib.hid HR3.out.2.size
     subst hn3
     clear hrk
     go_wp2_with (at_builtin; refine wpList_append_rd _ rfl (.tmp 30) (.tmp 32) _ rfl w.heap.size 3 i0 (.int .i64 0) 8 Tryz.underlying40 HI.out.1 HI.out.2.1 HI.out.2.2.1 HI.out.2.2.2 rfl _ _ _ rfl (HR3.out.1.alloc _) _ (intV [(k:Int)]) rfl (lit_here rfl rfl rfl) (intV_one _) HL1.out HL2.out ?_ ?_; (have:=HSZ.out; simp; omega); intro p2 w2 hrow2 hg2 _; have HR2:=Lib.hid (RowI.add HR3.out hrow2 hg2); clear hrow2 hg2)
     go_roundw
     case rel => exact ⟨k + 1,hlt,by simp,Lib.hid (by rw [HS.out]; exact HR2.out)⟩
     case measure => simp [intOf]; omega
    ·have g1:decide ((ks.length:Int) < 1) = false:=by simp; omega
     have HS:=Lib.hid (HNO.out (by rw [HIL.out]; show decide ((ks.length:Int) < 1) = false; simp; omega))
     clear e
     go_wp2_with (go_at_call 65; go_fit (HKK.out _ HRA.out.2))
     rintro e w3 ⟨A3,n3',c3',rfl,hn3,hrk⟩
     have HR3:=Lib.hid (HRA.out.keep hrk.2)
     have HSZ:Hid (w.heap.size ≤ w3.heap.size):=Lib.hid HR3.out.2.size
     subst hn3
     clear hrk
     go_wp2_with fail
     go_roundw
     case rel => exact ⟨k + 1,hlt,by simp,Lib.hid (by rw [HS.out]; exact HR3.out)⟩
     case measure => simp [intOf]; omega
   by_cases k3:kd = 3
   ·subst k3
    by_cases e:ks.length < 2
    ·have g1:decide ((ks.length:Int) < 2) = true:=by simp; omega
     have HS:=Lib.hid (HYES.out (by rw [HIL.out]; show decide ((ks.length:Int) < 2) = true; simp; omega))
     clear e
     go_wp2_with (go_at_call 65; go_fit (HKK.out _ HRA.out.2))
     rintro e w3 ⟨A3,n3',c3',rfl,hn3,hrk⟩
     have HR3:=Lib.hid (HRA.out.keep hrk.2)
     have HSZ:Hid (w.heap.size ≤ w3.heap.size):=Lib.hid HR3.out.2.size
     subst hn3
     clear hrk
     go_wp2_with (at_builtin; refine wpList_append_rd _ rfl (.tmp 30) (.tmp 32) _ rfl w.heap.size 3 i0 (.int .i64 0) 8 Tryz.underlying40 HI.out.1 HI.out.2.1 HI.out.2.2.1 HI.out.2.2.2 rfl _ _ _ rfl (HR3.out.1.alloc _) _ (intV [(k:Int)]) rfl (lit_here rfl rfl rfl) (intV_one _) HL1.out HL2.out ?_ ?_; (have:=HSZ.out; simp; omega); intro p2 w2 hrow2 hg2 _; have HR2:=Lib.hid (RowI.add HR3.out hrow2 hg2); clear hrow2 hg2)
     go_roundw
     case rel => exact ⟨k + 1,hlt,by simp,Lib.hid (by rw [HS.out]; exact HR2.out)⟩
     case measure => simp [intOf]; omega
    ·have g1:decide ((ks.length:Int) < 2) = false:=by simp; omega
     have HS:=Lib.hid (HNO.out (by rw [HIL.out]; show decide ((ks.length:Int) < 2) = false; simp; omega))
     clear e
     go_wp2_with (go_at_call 65; go_fit (HKK.out _ HRA.out.2))
     rintro e w3 ⟨A3,n3',c3',rfl,hn3,hrk⟩
     have HR3:=Lib.hid (HRA.out.keep hrk.2)
     have HSZ:Hid (w.heap.size ≤ w3.heap.size):=Lib.hid HR3.out.2.size
     subst hn3
     clear hrk
     go_wp2_with fail
     go_roundw
     case rel => exact ⟨k + 1,hlt,by simp,Lib.hid (by rw [HS.out]; exact HR3.out)⟩
     case measure => simp [intOf]; omega
   have g2:(kd == 2) = false:=by simpa using k2
   have g3:(kd == 3) = false:=by simpa using k3
   have HS:=Lib.hid (HNO.out (by rw [HIL.out]; unfold mustK; rw [if_neg k2,if_neg k3]; simp))
   clear k2 k3
   go_wp2_with fail
   go_roundw
   case rel => exact ⟨k + 1,hlt,by simp,Lib.hid (by rw [HS.out]; exact HRA.out)⟩
   case measure => simp [intOf]; omega
  ·obtain rfl:k = n:=by omega
   go_wp2_with fail
   go_ret
   exact HR.out.ret
end Go.Proofs.YtapnomdckglehaaGreat