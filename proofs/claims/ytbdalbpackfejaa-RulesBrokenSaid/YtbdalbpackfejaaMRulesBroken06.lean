/- ActIn, ActMem, ActVar, ShapeMem, ShapeProg, ShapeTell, joined. -/
import Derived.Test.YtbdalbpackfejaaMRulesBroken05
import Derived.Test.YtbdalbpackfejaaMRulesBroken00
import Derived.Test.YtbdalbpackfejaaMRulesBroken02
import Derived.BigQuiet
import Derived.Lib.QuietBelow
import Derived.Test.YtbdalbpackfejaaRows
import Derived.Test.YtbdalbpackfejaaMRulesBroken01
import Derived.Test.YtbdalbpackfejaaMRulesBroken03
namespace Go.Proofs.Ytbdalbpackfejaa
open Go.RowKit TermSpec EvalSpec ActSpec NamesSpec
set_option maxRecDepth 100000
structure AP where
 a:Ac
 xA:Option Addr
 xn:Nat
 xc:Nat
def acV (p:AP):List Value:=[.string p.a.s,.bool p.a.any,.slice p.xA p.xn p.xc]
def acsV (l:List AP):List Value:=l.flatMap acV
theorem acV_length (p:AP):(acV p).length = 3:=rfl
theorem acsV_append (a b:List AP):acsV a ++ acsV b = acsV (a ++ b):=by unfold acsV; rw [List.flatMap_append]
theorem acsV_get {l:List AP} {i:Nat} {p:AP} (h:l[i]? = some p):(acsV l)[i * 3]? = some (.string p.a.s) ∧ (acsV l)[i * 3 + 1]? = some (.bool p.a.any) ∧ (acsV l)[i * 3 + 2]? = some (.slice p.xA p.xn p.xc) :=
 ⟨flat_get (j:=0) acV_length h (by omega),flat_get (j:=1) acV_length h (by omega),flat_get (j:=2) acV_length h (by omega)⟩
def Acs (w:World) (v:Value) (l:List Ac):Prop:=∃ ps:List AP,ps.map (·.a) = l ∧ Rdk 3 w v l.length (acsV ps) ∧ ∀ p ∈ ps,Tms w (.slice p.xA p.xn p.xc) p.a.x
theorem Acs.keep {w w':World} {v:Value} {l:List Ac} (h:Acs w v l) (hb:Below w.heap.size w w'):Acs w' v l:=by
 obtain ⟨ps,hm,hr,hx⟩:=h
 exact ⟨ps,hm,hr.keep hb,fun p hp => (hx p hp).keep hb⟩
theorem Acs.shape {w:World} {v:Value} {l:List Ac} (h:Acs w v l):∃ A n c,v = .slice A n c ∧ n = l.length ∧ n ≤ c:=by
 obtain ⟨ps,hm,⟨A,c,hv,hc,_⟩,_⟩:=h
 exact ⟨A,_,c,hv,rfl,hc⟩
theorem Acs.len {w:World} {A:Option Addr} {n c:Nat} {l:List Ac} (h:Acs w (.slice A n c) l):n = l.length ∧ n ≤ c:=by
 obtain ⟨A',n',c',heq,hn,hc⟩:=h.shape
 cases heq
 exact ⟨hn,hc⟩
theorem Acs.at_ {w:World} {A:Option Addr} {n c:Nat} {l:List Ac} {i:Nat} {a:Ac} (h:Acs w (.slice A n c) l) (hi:l[i]? = some a) :
 ∃ b off xA xn xc,A = some ⟨b,off,none⟩ ∧ b < w.heap.size ∧ Tms w (.slice xA xn xc) a.x ∧ w.cell? ⟨b,off + i * 3,none⟩ = some (.string a.s) ∧ w.cell? ⟨b,off + i * 3 + 1,none⟩ = some (.bool a.any) ∧ w.cell? ⟨b,off + i * 3 + 2,none⟩ = some (.slice xA xn xc):=by
 obtain ⟨ps,hm,⟨A',c',heq,hc,hl,hA⟩,hx⟩:=h
 cases heq
 subst hm
 have:=get_lt hi
 obtain ⟨b,off,rfl,hb,hcell⟩:=hA (by omega)
 rw [List.getElem?_map] at hi
 cases hp:ps[i]? with
 | none => rw [hp] at hi; cases hi
 | some p =>
   rw [hp] at hi
   cases hi
   obtain ⟨g0,g1,g2⟩:=acsV_get hp
   exact ⟨b,off,p.xA,p.xn,p.xc,rfl,hb,hx p (List.mem_of_getElem? hp),hcell _ _ g0,by rw [Nat.add_assoc]; exact hcell _ _ g1,by rw [Nat.add_assoc]; exact hcell _ _ g2⟩
def SmallA (a:Ac):Prop:=a.s.size ≤ 9223372036854775807 ∧ Small a.x ∧ a.x.length ≤ 4398046511104
theorem oneA_name {a:Ac} (h:isName a.s.data.toList = false):oneA a = 1:=by unfold oneA; rw [if_pos h]
theorem oneA_expr {a:Ac} (h:isName a.s.data.toList = true) (h2:a.any = false):oneA a = chk a.x:=by unfold oneA; rw [if_neg (by simp [h]),if_pos h2]
theorem oneA_any {a:Ac} (h:isName a.s.data.toList = true) (h2:a.any = true):oneA a = if a.x.length = 0 then 0 else 1:=by unfold oneA; rw [if_neg (by simp [h]),if_neg (by simp [h2])]
set_option maxHeartbeats 1000000 in
theorem rone_act (a:Ac) (A:Option Addr) (n c:Nat) (hs:SmallA a) (w:World) (h:Tms w (.slice A n c) a.x) :
 Calls Try.prog 36 #[.agg #[.string a.s,.bool a.any,.slice A n c]] w (RetI w (oneA a)):=by
 obtain ⟨A',n',c',heq,hn,hnc⟩:=h.shape
 cases heq
 have HIS:=Lib.hid (fun w => ris_any a.s w hs.1)
 have HC:=Lib.hid (fun w h => rcheck_any A n c a.x hn (by have:=hs.2.2; omega) hs.2.1 w h)
 have HT:=Lib.hid h
 obtain ⟨q,hq⟩:∃ q,q = isName a.s.data.toList:=⟨_,rfl⟩
 rw [← hq] at HIS
 obtain ⟨r,hr⟩:∃ r,r = oneA a:=⟨_,rfl⟩
 rw [← hr]
 rcases hb:q with _ | _
 ·rw [hb] at HIS hq
  have HR:=Lib.hid (hr.trans (oneA_name hq.symm))
  obtain ⟨s,any,x⟩:=a
  simp only at HIS HC HT hn ⊢
  clear hs h hq hr hb hn
  go_enter Try.func36,Try.ntmps36
  go_wp2_with (go_at_call 15; (with_reducible refine (HIS.out _).mono ?_))
  rintro e2 w2 ⟨rfl,hb2⟩
  have HB2:=Lib.hid (below_two' (KitC.below_one _ _) hb2)
  clear hb2
  go_wp2_with fail
  go_ret
  exact ⟨ret_int HR.out.symm,HB2.out⟩
 ·rw [hb] at HIS hq
  rcases ha:a.any with _ | _
  ·have HR:=Lib.hid (hr.trans (oneA_expr hq.symm ha))
   obtain ⟨s,any,x⟩:=a
   simp only at HIS HC HT HR hn ha ⊢
   subst ha
   obtain ⟨m,hm⟩:∃ m,m = chk x:=⟨_,rfl⟩
   rw [← hm] at HR HC
   clear hs h hq hr hb hn hm
   go_enter Try.func36,Try.ntmps36
   go_wp2_with (go_at_call 15; (with_reducible refine (HIS.out _).mono ?_))
   rintro e2 w2 ⟨rfl,hb2⟩
   obtain ⟨B2,hbb,_⟩:=KitC.one_block hb2
   have HB2:=Lib.hid hbb
   obtain ⟨c0,c1,c2⟩:=cells_3 B2
   clear hb2 hbb B2
   go_wp2_with (go_at_call 37; (with_reducible refine (HC.out _ (HT.out.keep HB2.out)).mono ?_))
   rintro e2 w3 ⟨rfl,hb3⟩
   have HB3:=Lib.hid (below_two' HB2.out hb3)
   clear hb3
   go_wp2_with fail
   go_ret
   exact ⟨ret_int HR.out.symm,HB3.out⟩
  ·have HR0:=Lib.hid (hr.trans (oneA_any hq.symm ha))
   rw [← hn] at HR0
   obtain ⟨s,any,x⟩:=a
   simp only at HIS HC HT hn ha ⊢
   subst ha
   by_cases h0:n = 0
   ·have HR:Hid (r = 0):=Lib.hid (by rw [HR0.out,if_pos h0])
    have g:decide (0 < n) = false:=by simp; omega
    clear hs h hq hr hb hn h0 HR0
    go_enter Try.func36,Try.ntmps36
    go_wp2_with (go_at_call 15; (with_reducible refine (HIS.out _).mono ?_))
    rintro e2 w2 ⟨rfl,hb2⟩
    obtain ⟨B2,hbb,_⟩:=KitC.one_block hb2
    have HB2:=Lib.hid hbb
    obtain ⟨c0,c1,c2⟩:=cells_3 B2
    clear hb2 hbb B2
    go_wp2_with fail
    go_ret
    exact ⟨ret_int HR.out.symm,HB2.out⟩
   ·have HR:Hid (r = 1):=Lib.hid (by rw [HR0.out,if_neg h0])
    have g:decide (0 < n) = true:=by simp; omega
    clear hs h hq hr hb hn h0 HR0
    go_enter Try.func36,Try.ntmps36
    go_wp2_with (go_at_call 15; (with_reducible refine (HIS.out _).mono ?_))
    rintro e2 w2 ⟨rfl,hb2⟩
    obtain ⟨B2,hbb,_⟩:=KitC.one_block hb2
    have HB2:=Lib.hid hbb
    obtain ⟨c0,c1,c2⟩:=cells_3 B2
    clear hb2 hbb B2
    go_wp2_with fail
    go_ret
    exact ⟨ret_int HR.out.symm,HB2.out⟩
end Go.Proofs.Ytbdalbpackfejaa
namespace Go.Proofs.Ytbdalbpackfejaa
open Go.RowKit Go.Sort TermSpec EvalSpec ActSpec
def v4V (x:V4):List Value:=[.int .i64 x.a,.int .i64 x.b,.int .i64 x.c,.int .i64 x.d]
def v4sV (l:List V4):List Value:=l.flatMap v4V
theorem v4V_length (x:V4):(v4V x).length = 4:=rfl
theorem v4sV_get {l:List V4} {i:Nat} {x:V4} (h:l[i]? = some x):(v4sV l)[i * 4]? = some (.int .i64 x.a) ∧ (v4sV l)[i * 4 + 1]? = some (.int .i64 x.b) ∧ (v4sV l)[i * 4 + 2]? = some (.int .i64 x.c) ∧ (v4sV l)[i * 4 + 3]? = some (.int .i64 x.d) :=
 ⟨flat_get (j:=0) v4V_length h (by omega),flat_get (j:=1) v4V_length h (by omega),flat_get (j:=2) v4V_length h (by omega),flat_get (j:=3) v4V_length h (by omega)⟩
def V4s (w:World) (v:Value) (l:List V4):Prop:=∃ n,n = l.length ∧ Rdk 4 w v n (v4sV l)
theorem V4s.keep {w w':World} {v:Value} {l:List V4} (h:V4s w v l) (hb:Below w.heap.size w w'):V4s w' v l:=by
 obtain ⟨n,hn,h⟩:=h
 exact ⟨n,hn,h.keep hb⟩
theorem V4s.shape {w:World} {v:Value} {l:List V4} (h:V4s w v l):∃ A n c,v = .slice A n c ∧ n = l.length ∧ n ≤ c:=by
 obtain ⟨n,hn,A,c,hv,hc,_⟩:=h
 exact ⟨A,n,c,hv,hn,hc⟩
theorem V4s.at_ {w:World} {A:Option Addr} {n c:Nat} {l:List V4} {i:Nat} {x:V4} (h:V4s w (.slice A n c) l) (hi:l[i]? = some x) :
 ∃ b off,A = some ⟨b,off,none⟩ ∧ b < w.heap.size ∧ w.cell? ⟨b,off + i * 4,none⟩ = some (.int .i64 x.a) ∧ w.cell? ⟨b,off + i * 4 + 1,none⟩ = some (.int .i64 x.b) ∧ w.cell? ⟨b,off + i * 4 + 2,none⟩ = some (.int .i64 x.c) ∧ w.cell? ⟨b,off + i * 4 + 3,none⟩ = some (.int .i64 x.d):=by
 obtain ⟨m,hm,A',c',heq,hc,hl,hA⟩:=h
 cases heq
 have:=get_lt hi
 obtain ⟨b,off,rfl,hb,hcell⟩:=hA (by omega)
 obtain ⟨g0,g1,g2,g3⟩:=v4sV_get hi
 exact ⟨b,off,rfl,hb,hcell _ _ g0,by rw [Nat.add_assoc]; exact hcell _ _ g1,by rw [Nat.add_assoc]; exact hcell _ _ g2,by rw [Nat.add_assoc]; exact hcell _ _ g3⟩
end Go.Proofs.Ytbdalbpackfejaa
namespace Go.Proofs.Ytbdalbpackfejaa
open Go.RowKit TermSpec EvalSpec ActSpec NamesSpec Go.Lib
def VFit (v:Vr):Prop:=-9223372036854775808 ≤ v.lo ∧ v.lo ≤ 9223372036854775807 ∧ -9223372036854775808 ≤ v.hi ∧ v.hi ≤ 9223372036854775807
theorem u64_span {lo hi:Int} (h1:-9223372036854775808 ≤ lo) (h2:hi ≤ 9223372036854775807) (h:lo ≤ hi):IntKind.u64.wrap (IntKind.u64.wrap hi - IntKind.u64.wrap lo) = hi - lo:=by
 simp only [IntKind.wrap_u64]
 omega
end Go.Proofs.Ytbdalbpackfejaa
namespace Go.Proofs.Ytbdalbpackfejaa
open Go.RowKit ShapeSpec
structure StC where
 s:ByteArray
 sh:Sh
 a3:Option Addr
 n3:Nat
 c3:Nat
 a4:Option Addr
 n4:Nat
 c4:Nat
 a5:Option Addr
 n5:Nat
 c5:Nat
def stV (t:StC):List Value:=[.string t.s,.int .i64 t.sh.kind,.int .i64 t.sh.par,.slice t.a3 t.n3 t.c3,.slice t.a4 t.n4 t.c4,.slice t.a5 t.n5 t.c5]
def stsV (l:List StC):List Value:=l.flatMap stV
theorem stV_length (t:StC):(stV t).length = 6:=rfl
def Sts (w:World) (v:Value) (l:List Sh):Prop:=∃ xs:List StC,l = xs.map (·.sh) ∧ Rdk 6 w v l.length (stsV xs)
theorem Sts.keep {w w':World} {v:Value} {l:List Sh} (h:Sts w v l) (hb:Below w.heap.size w w'):Sts w' v l:=by
 obtain ⟨xs,hx,h⟩:=h
 exact ⟨xs,hx,h.keep hb⟩
theorem Sts.alloc {w:World} {v:Value} {l:List Sh} (h:Sts w v l) (o:Obj):Sts (w.alloc o) v l:=h.keep ((Below.refl _ _).alloc (Nat.le_refl _) _)
theorem Sts.shape {w:World} {v:Value} {l:List Sh} (h:Sts w v l):∃ A n c,v = .slice A n c ∧ n = l.length ∧ n ≤ c:=by
 obtain ⟨xs,hx,A,c,hv,hc,_⟩:=h
 exact ⟨A,_,c,hv,rfl,hc⟩
theorem Sts.all {w:World} {A:Option Addr} {n c:Nat} {l:List Sh} {i:Nat} {t:Sh} (h:Sts w (.slice A n c) l) (hi:l[i]? = some t) :
 ∃ b off s a3 n3 c3 a4 n4 c4 a5 n5 c5,A = some ⟨b,off,none⟩ ∧ b < w.heap.size ∧ w.cell? ⟨b,off + i * 6,none⟩ = some (.string s) ∧ w.cell? ⟨b,off + i * 6 + 1,none⟩ = some (.int .i64 t.kind) ∧ w.cell? ⟨b,off + i * 6 + 2,none⟩ = some (.int .i64 t.par) ∧
   w.cell? ⟨b,off + i * 6 + 3,none⟩ = some (.slice a3 n3 c3) ∧ w.cell? ⟨b,off + i * 6 + 4,none⟩ = some (.slice a4 n4 c4) ∧ w.cell? ⟨b,off + i * 6 + 5,none⟩ = some (.slice a5 n5 c5):=by
 obtain ⟨xs,rfl,A',c',heq,hc,hl,hA⟩:=h
 cases heq
 have hlt:=get_lt hi
 rw [List.getElem?_map] at hi
 obtain ⟨x,hx,rfl⟩:=Option.map_eq_some_iff.1 hi
 obtain ⟨b,off,rfl,hb,hcell⟩:=hA (by omega)
 refine ⟨b,off,x.s,x.a3,x.n3,x.c3,x.a4,x.n4,x.c4,x.a5,x.n5,x.c5,rfl,hb,?_,?_,?_,?_,?_,?_⟩
 ·exact hcell _ _ (flat_get (j:=0) stV_length hx (by omega))
 ·rw [Nat.add_assoc]; exact hcell _ _ (flat_get (j:=1) stV_length hx (by omega))
 ·rw [Nat.add_assoc]; exact hcell _ _ (flat_get (j:=2) stV_length hx (by omega))
 ·rw [Nat.add_assoc]; exact hcell _ _ (flat_get (j:=3) stV_length hx (by omega))
 ·rw [Nat.add_assoc]; exact hcell _ _ (flat_get (j:=4) stV_length hx (by omega))
 ·rw [Nat.add_assoc]; exact hcell _ _ (flat_get (j:=5) stV_length hx (by omega))
theorem Sts.at_ {w:World} {A:Option Addr} {n c:Nat} {l:List Sh} {i:Nat} (h:Sts w (.slice A n c) l) (hi:i < n) :
 ∃ b off,A = some ⟨b,off,none⟩ ∧ b < w.heap.size ∧ w.cell? ⟨b,off + i * 6 + 1,none⟩ = some (.int .i64 (kind l i)) ∧ w.cell? ⟨b,off + i * 6 + 2,none⟩ = some (.int .i64 (par l i)):=by
 obtain ⟨_,m,_,heq,hm,_⟩:=h.shape
 cases heq
 obtain ⟨t,ht⟩:∃ t,l[i]? = some t:=get_some (by omega)
 obtain ⟨b,off,s,a3,n3,c3,a4,n4,c4,a5,n5,c5,rfl,hb,h0,h1,h2,_⟩:=h.all ht
 rw [kind_at ht,par_at ht]
 exact ⟨b,off,rfl,hb,h1,h2⟩
theorem Sts.len {w:World} {A:Option Addr} {n c:Nat} {l:List Sh} (h:Sts w (.slice A n c) l):n = l.length:=by
 obtain ⟨_,m,_,heq,hm,_⟩:=h.shape
 cases heq
 exact hm
end Go.Proofs.Ytbdalbpackfejaa
namespace Go.Proofs.Ytbdalbpackfejaa
open Go.RowKit ShapeSpec
set_option maxRecDepth 100000
def AtUp (n:Nat) (i:Value) (Q:Int → Prop):Prop:=∃ j:Int,i = .int .i64 j ∧ j < n ∧ Q j
def DepQ (l:List Sh) (d:Nat) (v:Value) (j:Int):Prop:=∃ k:Nat,v = .int .i64 k ∧ ((0 ≤ j ∧ k + (up l j.toNat).length + 1 = d) ∨ (j = -1 ∧ k = d))
theorem depQ_bd {l:List Sh} {d k:Nat} {j:Int} (h:(0 ≤ j ∧ k + (up l j.toNat).length + 1 = d) ∨ (j = -1 ∧ k = d)):k ≤ d:=by omega
theorem depQ_next {l:List Sh} {n d k j:Nat} (hs:SU l n) (hj:j < n) (h:k + (up l j).length + 1 = d):par l j < n ∧ par l j < j ∧ DepQ l d (.int .i64 ((k:Int) + 1)) (par l j):=by
 rcases Nat.eq_zero_or_pos j with h0 | h0
 ·subst h0
  have hr:=hs.root hj
  rw [show up l 0 = [] from rfl] at h
  rw [hr]
  exact ⟨by omega,by omega,k + 1,by simp,.inr ⟨rfl,by simpa using h⟩⟩
 ·obtain ⟨p,hp,hlt,hup,_⟩:=hs.parn hj h0
  rw [hp]
  rw [hup,sf,List.length_cons] at h
  exact ⟨by omega,by omega,k + 1,by simp,.inl ⟨by omega,by simp; omega⟩⟩
set_option maxHeartbeats 1000000 in
theorem shdepth_any (A:Option Addr) (n c:Nat) (l:List Sh) (i:Nat) (w:World) (h:Sts w (.slice A n c) l) (hs:SU l n) (hi:i < n) (hm:n ≤ 1000000) :
 Calls Try.prog 63 #[.slice A n c,.int .i64 i] w (SameI w ((up l i).length + 1:Nat)):=by
 have HT:=Lib.hid h
 have HS:=Lib.hid hs
 have hul:=up_length_le l i
 obtain ⟨d,hd⟩:∃ d,d = (up l i).length + 1:=⟨_,rfl⟩
 rw [← hd]
 have hdm:d ≤ 1000001:=by omega
 have HD:=Lib.hid hd
 clear h hs hd hul
 go_enter Try.func63,Try.ntmps63
 go_wp2_with fail
 go_loop [1,5] (fun i v => AtUp n i (DepQ l d v)) (fun i _ => (intOf i + 1).toNat)
 case atStart => exact ⟨i,rfl,by omega,0,rfl,.inl ⟨by omega,by rw [HD.out]; simp⟩⟩
 case round =>
  obtain ⟨j,rfl,hj,k,rfl,hq⟩:=hrel
  have hk:=depQ_bd hq
  rcases hq with ⟨h0,hq⟩ | ⟨rfl,hq⟩
  ·obtain ⟨j,rfl⟩:=Int.eq_ofNat_of_zero_le h0
   obtain ⟨b,off,rfl,hb,c1,c2⟩:=HT.out.at_ (i:=j) (by omega)
   obtain ⟨hp1,hp2,hp3⟩:=depQ_next (j:=j) HS.out (by omega) hq
   have HP:=Lib.hid hp3
   obtain ⟨p,hp⟩:∃ p,p = par l j:=⟨_,rfl⟩
   rw [← hp] at c2 hp1 hp2 HP
   clear hq hp hp3 c1
   go_wp2_with fail
   go_round
   case rel => exact ⟨p,rfl,hp1,HP.out⟩
   case measure => simp [intOf]; omega
  ·subst hq
   go_wp2_with fail
   go_ret
   exact ⟨rfl,rfl⟩
def HangQ (l:List Sh) (i q:Nat) (v:Value):Prop:=∃ j:Nat,v = .int .i64 j ∧ j < i ∧ (q ∈ sf l (i - 1) ↔ q ∈ sf l j)
theorem hangQ_next {l:List Sh} {n i j q:Nat} (hs:SU l n) (hi:i ≤ n) (hj:j < i) (hq:q < j) (h:q ∈ sf l (i - 1) ↔ q ∈ sf l j):0 ≤ par l j ∧ par l j < j ∧ HangQ l i q (.int .i64 (par l j)):=by
 obtain ⟨p,hp,hlt,hup,_⟩:=hs.parn (show j < n by omega) (by omega)
 rw [hp]
 refine ⟨by omega,by omega,p,rfl,by omega,h.trans ?_⟩
 rw [← hup]
 exact ⟨fun hm => sf_up hm (by omega),up_in⟩
theorem hang_zero {l:List Sh}:hangB l 0 = decide (par l 0 = -1):=rfl
theorem hang_neg {l:List Sh} {i:Nat} (h0:i ≠ 0) (h:par l i < 0):hangB l i = false:=by
 unfold hangB
 rw [if_neg h0,decide_eq_false (show ¬ 0 ≤ par l i by omega)]
 rfl
theorem hang_at {l:List Sh} {i q:Nat} (h0:i ≠ 0) (h:par l i = q) (hm:q ∈ sf l (i - 1)):hangB l i = decide (kind l q ≠ 1):=by
 have:=sf_le hm
 unfold hangB
 rw [if_neg h0,h,decide_eq_true (show (0:Int) ≤ q by omega),decide_eq_true (show (q:Int) < i by omega),show ((q:Nat):Int).toNat = q from rfl,decide_eq_true hm]
 simp
theorem hang_off {l:List Sh} {i q:Nat} (h0:i ≠ 0) (h:par l i = q) (hm:q ∉ sf l (i - 1)):hangB l i = false:=by
 unfold hangB
 rw [if_neg h0,h,show ((q:Nat):Int).toNat = q from rfl,decide_eq_false hm]
 simp
set_option maxHeartbeats 2000000 in
theorem hangs_any (A:Option Addr) (n c:Nat) (l:List Sh) (i:Nat) (w:World) (h:Sts w (.slice A n c) l) (hs:SU l i) (hi:i < n) (hm:n ≤ 1000000) :
 Calls Try.prog 67 #[.slice A n c,.int .i64 i] w (SameB w (hangB l i)):=by
 have HT:=Lib.hid h
 have HS:=Lib.hid hs
 obtain ⟨b,off,rfl,hb,c1,c2⟩:=h.at_ hi
 clear h hs c1
 obtain ⟨p,hp⟩:∃ p,p = par l i:=⟨_,rfl⟩
 rw [← hp] at c2
 have HP:=Lib.hid hp
 clear hp
 rcases Nat.eq_zero_or_pos i with h0 | h0
 ·subst h0
  have HH:Hid (hangB l 0 = decide (p = -1)):=Lib.hid (by rw [hang_zero,← HP.out])
  obtain ⟨r,hr⟩:∃ r,r = hangB l 0:=⟨_,rfl⟩
  rw [← hr] at HH ⊢
  clear hr
  have c2':w.cell? ⟨b,off + 2,none⟩ = some (.int .i64 p):=by simpa using c2
  clear c2
  by_cases hpp:p = -1
  ·have g1:(p == -1) = true:=by simpa using hpp
   have HR:Hid (r = true):=Lib.hid (by rw [HH.out]; simpa using hpp)
   clear hpp
   go_enter Try.func67,Try.ntmps67
   go_wp2_with fail
   go_ret
   exact ⟨ret_bool HR.out.symm,rfl⟩
  ·have g1:(p == -1) = false:=by simpa using hpp
   have HR:Hid (r = false):=Lib.hid (by rw [HH.out]; simpa using hpp)
   clear hpp
   go_enter Try.func67,Try.ntmps67
   go_wp2_with fail
   go_ret
   exact ⟨ret_bool HR.out.symm,rfl⟩
 ·have h0':i ≠ 0:=by omega
  have g0:((i:Int) == 0) = false:=by simp; omega
  by_cases hneg:p < 0
  ·have HR:Hid (hangB l i = false):=Lib.hid (hang_neg h0' (by rw [← HP.out]; exact hneg))
   clear h0'
   go_enter Try.func67,Try.ntmps67
   go_wp2_with fail
   go_ret
   exact ⟨ret_bool HR.out.symm,rfl⟩
  ·obtain ⟨q,rfl⟩:=Int.eq_ofNat_of_zero_le (Int.not_lt.1 hneg)
   have HA:Hid (q ∈ sf l (i - 1) → hangB l i = decide (kind l q ≠ 1)):=Lib.hid (hang_at h0' HP.out.symm)
   have HO:Hid (q ∉ sf l (i - 1) → hangB l i = false):=Lib.hid (hang_off h0' HP.out.symm)
   obtain ⟨r,hr⟩:∃ r,r = hangB l i:=⟨_,rfl⟩
   rw [← hr] at HA HO ⊢
   have hi1:1 ≤ (i:Int):=by omega
   clear hneg hr h0' h0
   go_enter Try.func67,Try.ntmps67
   go_wp2_with fail
   go_loop [6] (fun v => HangQ l i q v) (fun v => (intOf v).toNat)
   case atStart => exact ⟨i - 1,by congr 1; omega,by omega,Iff.rfl⟩
   case round =>
    obtain ⟨j,rfl,hj,hiff⟩:=hrel
    have HI:=Lib.hid hiff
    clear hiff
    rcases Nat.lt_trichotomy j q with hlt | heq | hgt
    ·have HR:Hid (r = false):=Lib.hid (HO.out (fun hm => by have:=sf_le (HI.out.1 hm); omega))
     have g1:((j:Int) == (q:Int)) = false:=by simp; omega
     have g2:(j == q) = false:=by simp; omega
     have g3:decide (q < j) = false:=decide_eq_false (by omega)
     go_wp2_with fail
     go_ret
     exact ⟨ret_bool HR.out.symm,rfl⟩
    ·subst heq
     obtain ⟨_,_,heq,_,c1,_⟩:=HT.out.at_ (i:=j) (by omega)
     cases heq
     have HR:Hid (r = decide (kind l j ≠ 1)):=Lib.hid (HA.out (HI.out.2 (sf_self _ _)))
     obtain ⟨kd,hkd⟩:∃ kd,kd = kind l j:=⟨_,rfl⟩
     rw [← hkd] at HR c1
     have hji:(j:Int) < n:=by omega
     have hjn:j < n:=by omega
     clear hkd
     by_cases hk1:kd = 1
     ·have g1:(kd != 1) = false:=by simpa using hk1
      have HR2:Hid (r = false):=Lib.hid (by rw [HR.out]; simpa using hk1)
      clear hk1
      go_wp2_with fail
      go_ret
      exact ⟨ret_bool HR2.out.symm,rfl⟩
     ·have g1:(kd != 1) = true:=by simpa using hk1
      have HR2:Hid (r = true):=Lib.hid (by rw [HR.out]; simpa using hk1)
      clear hk1
      go_wp2_with fail
      go_ret
      exact ⟨ret_bool HR2.out.symm,rfl⟩
    ·obtain ⟨_,_,heq,_,_,c2'⟩:=HT.out.at_ (i:=j) (by omega)
     cases heq
     obtain ⟨hp1,hp2,hp3⟩:=hangQ_next HS.out (Nat.le_refl _) hj hgt HI.out
     have HN:=Lib.hid hp3
     obtain ⟨p',hp'⟩:∃ p',p' = par l j:=⟨_,rfl⟩
     rw [← hp'] at c2' hp1 hp2 HN
     have hjn:j < n:=by omega
     clear hp' hp3
     go_wp2_with fail
     go_round
     case rel => exact HN.out
     case measure => simp [intOf]; omega
theorem good_kind {l:List Sh} {i:Nat} (h:kind l i < 1 ∨ 3 < kind l i):goodB l i = false:=by
 unfold goodB
 rcases h with h | h
 ·rw [decide_eq_false (show ¬ 1 ≤ kind l i by omega)]
  rfl
 ·rw [decide_eq_false (show ¬ kind l i ≤ 3 by omega)]
  simp
theorem good_hang {l:List Sh} {i:Nat} (h1:1 ≤ kind l i) (h2:kind l i ≤ 3):goodB l i = hangB l i:=by
 unfold goodB
 rw [decide_eq_true h1,decide_eq_true h2]
 rfl
def StandRel (W:World) (l:List Sh) (n:Nat) (v:Value) (wr:World):Prop:=∃ k:Nat,k ≤ n ∧ v = .int .i64 k ∧ SU l k ∧ Below W.heap.size W wr
set_option maxHeartbeats 4000000 in
theorem stand_any (A:Option Addr) (n c:Nat) (l:List Sh) (w:World) (h:Sts w (.slice A n c) l) (hm:n ≤ 1000000) :
 Calls Try.prog 62 #[.slice A n c] w (RetB w (standB l)):=by
 have HT:=Lib.hid h
 have HN:=Lib.hid h.len
 have HF:=Lib.hid (fun i (hi:i < l.length) (hg:goodB l i = false) => stand_not hi hg)
 have HO:=Lib.hid (fun (h0:0 < l.length) (hs:SU l l.length) => stand_of h0 hs)
 have HZ:Hid (l.length = 0 → standB l = false):=Lib.hid (fun e => by cases l with | nil => rfl | cons => simp at e)
 obtain ⟨r,hr⟩:∃ r,r = standB l:=⟨_,rfl⟩
 rw [← hr] at HF HO HZ ⊢
 clear h hr
 go_enter Try.func62,Try.ntmps62
 go_wp2_with fail
 go_loopw [7] (fun v wr => StandRel w l n v wr) (fun v _ => n - (intOf v).toNat)
 case atStart => exact ⟨0,Nat.zero_le _,rfl,SU.zero l,Below.refl _ _⟩
 case round =>
  obtain ⟨k,hk,rfl,hsu,hbw⟩:=hrel
  have HSU:=Lib.hid hsu
  have HBW:=Lib.hid hbw
  clear hsu hbw
  by_cases hlt:k < n
  ·have hltI:(k:Int) < n:=by omega
   have HT1:=Lib.hid (HT.out.keep HBW.out)
   obtain ⟨t,ht⟩:∃ t,l[k]? = some t:=get_some (by rw [← HN.out]; exact hlt)
   obtain ⟨b,off,s,a3,n3,c3,a4,n4,c4,a5,n5,c5,rfl,hb,c0,c1,c2,c3',c4',c5'⟩:=HT1.out.all ht
   have hkd:=kind_at ht
   obtain ⟨kd,hkd'⟩:∃ kd,kd = t.kind:=⟨_,rfl⟩
   rw [← hkd'] at hkd c1
   have HK:=Lib.hid hkd
   have HB1:Hid (∀ o:Obj,Below w.heap.size w (wr.alloc o)):=Lib.hid (fun o => HBW.out.alloc HBW.out.size o)
   have HHG:=Lib.hid (fun w1 h => hangs_any (some ⟨b,off,none⟩) n c l k w1 h HSU.out hlt hm)
   obtain ⟨q,hq⟩:∃ q,q = t.par:=⟨_,rfl⟩
   rw [← hq] at c2
   clear ht hkd hkd' hq
   rcases Int.lt_trichotomy kd 1 with h1 | h1 | h1
   ·have HR:Hid (r = false):=Lib.hid (HF.out k (by rw [← HN.out]; exact hlt) (good_kind (.inl (by rw [HK.out]; exact h1))))
    have g1:decide (kd < 1) = true:=decide_eq_true h1
    go_wp2_with fail
    go_ret
    exact ⟨ret_bool HR.out.symm,HB1.out _⟩
   all_goals
    by_cases h3:3 < kd
    ·first
      | (exfalso; omega)
      | (have HR:Hid (r = false):=Lib.hid (HF.out k (by rw [← HN.out]; exact hlt) (good_kind (.inr (by rw [HK.out]; exact h3))))
         have g1:decide (kd < 1) = false:=decide_eq_false (by omega)
         have g3:decide (3 < kd) = true:=decide_eq_true h3
         go_wp2_with fail
         go_ret
         exact ⟨ret_bool HR.out.symm,HB1.out _⟩)
    ·have HG:Hid (goodB l k = hangB l k):=Lib.hid (good_hang (by rw [HK.out]; omega) (by rw [HK.out]; omega))
     obtain ⟨g,hg⟩:∃ g,g = hangB l k:=⟨_,rfl⟩
     rw [← hg] at HG HHG
     have g1:decide (kd < 1) = false:=decide_eq_false (by omega)
     have g3:decide (3 < kd) = false:=decide_eq_false h3
     clear hg h1 h3
     have HTA:Hid (∀ o:Obj,Sts (wr.alloc o) (.slice (some ⟨b,off,none⟩) n c) l):=Lib.hid (fun o => HT1.out.alloc o)
     cases g with
     | true =>
       go_wp2_with (go_at_call 67; (with_reducible refine (HHG.out _ (HTA.out _)).mono ?_); rintro e w' ⟨rfl,rfl⟩)
       go_roundw
       case rel => exact ⟨k + 1,by omega,by simp,HSU.out.next HG.out,HB1.out _⟩
       case measure => simp [intOf]; omega
     | false =>
       have HR:Hid (r = false):=Lib.hid (HF.out k (by rw [← HN.out]; exact hlt) HG.out)
       go_wp2_with (go_at_call 67; (with_reducible refine (HHG.out _ (HTA.out _)).mono ?_); rintro e w' ⟨rfl,rfl⟩)
       go_ret
       exact ⟨ret_bool HR.out.symm,HB1.out _⟩
  ·obtain rfl:k = n:=by omega
   rcases Nat.eq_zero_or_pos k with h0 | h0
   ·subst h0
    have HR:Hid (r = false):=Lib.hid (HZ.out HN.out.symm)
    go_wp2_with fail
    go_ret
    exact ⟨ret_bool HR.out.symm,HBW.out⟩
   ·have HR:Hid (r = true):=Lib.hid (HO.out (by rw [← HN.out]; exact h0) (by rw [← HN.out]; exact HSU.out))
    have hkI:0 < (k:Int):=by omega
    go_wp2_with fail
    go_ret
    exact ⟨ret_bool HR.out.symm,HBW.out⟩
theorem deep_not {l:List Sh} {i:Nat} (hi:i < l.length) (h:11 < (up l i).length):deepB l = true:=by
 simp only [deepB,List.any_eq_true,List.mem_range,decide_eq_true_eq]
 exact ⟨i,hi,h⟩
theorem deep_of {l:List Sh} (h:∀ i,i < l.length → ¬ 11 < (up l i).length):deepB l = false:=by
 simp only [deepB,List.any_eq_false,List.mem_range,decide_eq_true_eq]
 exact h
theorem shchk_full {l:List Sh} (h:60 < l.length):chk l = 8:=if_pos h
theorem chk_arg {l:List Sh} (h:¬ 60 < l.length) (hs:standB l = false):chk l = 1:=by unfold chk; rw [if_neg h,if_pos hs]
theorem chk_deep {l:List Sh} (h:¬ 60 < l.length) (hs:standB l = true):chk l = if deepB l = true then 6 else 0:=by unfold chk; rw [if_neg h,if_neg (by simp [hs])]
def DeepQ (l:List Sh) (n:Nat) (v:Value):Prop:=∃ k:Nat,k ≤ n ∧ v = .int .i64 k ∧ ∀ i,i < k → ¬ 11 < (up l i).length
set_option maxHeartbeats 2000000 in
theorem shpcheck_any (A:Option Addr) (n c:Nat) (l:List Sh) (w:World) (h:Sts w (.slice A n c) l) (hm:n ≤ 9223372036854775807) :
 Calls Try.prog 57 #[.slice A n c] w (RetI w (chk l)):=by
 have hn:=h.len
 by_cases h60:60 < n
 ·have HR:Hid (chk l = 8):=Lib.hid (shchk_full (by omega))
  have h60':(60:Int) < n:=by omega
  clear h hn
  go_enter Try.func57,Try.ntmps57
  go_wp2_with fail
  go_ret
  exact ⟨ret_int HR.out.symm,Below.refl _ _⟩
 ·have h60':¬ (60:Int) < n:=by omega
  have HST:=Lib.hid (stand_any A n c l w h (by omega))
  have HA:Hid (standB l = false → chk l = 1):=Lib.hid (chk_arg (by omega))
  have HD:Hid (standB l = true → chk l = if deepB l = true then 6 else 0):=Lib.hid (chk_deep (by omega))
  cases hs:standB l with
  | false =>
    rw [hs] at HST
    have HR:Hid (chk l = 1):=Lib.hid (HA.out hs)
    clear h hn HA HD hs
    go_enter Try.func57,Try.ntmps57
    go_wp2_with (go_at_call 62; (with_reducible refine HST.out.mono ?_))
    rintro e w1 ⟨rfl,hb⟩
    go_wp2_with fail
    go_ret
    exact ⟨ret_int HR.out.symm,hb⟩
  | true =>
    rw [hs] at HST
    have HSU:Hid (SU l n):=Lib.hid (by rw [hn]; exact (stand_su hs).2)
    have HR:Hid (chk l = if deepB l = true then 6 else 0):=Lib.hid (HD.out hs)
    have HT:=Lib.hid h
    have HN:=Lib.hid hn
    clear h hn HA HD hs
    go_enter Try.func57,Try.ntmps57
    go_wp2_with (go_at_call 62; (with_reducible refine HST.out.mono ?_))
    rintro e w1 ⟨rfl,hb⟩
    have HT1:=Lib.hid (HT.out.keep hb)
    have HB:=Lib.hid hb
    clear hb
    go_wp2_with fail
    go_loop [12] (fun v => DeepQ l n v) (fun v => n - (intOf v).toNat)
    case atStart => exact ⟨0,Nat.zero_le _,rfl,fun i hi => absurd hi (by omega)⟩
    case round =>
     obtain ⟨k,hk,rfl,hq⟩:=hrel
     have HQ:=Lib.hid hq
     clear hq
     by_cases hlt:k < n
     ·have HDP:=Lib.hid (shdepth_any A n c l k w1 HT1.out HSU.out hlt (by omega))
      have hul:=up_length_le l k
      obtain ⟨u,hu⟩:∃ u,u = (up l k).length:=⟨_,rfl⟩
      rw [← hu] at HDP hul
      have HU:=Lib.hid hu
      have hltI:(k:Int) < n:=by omega
      clear hu
      by_cases hd:11 < u
      ·have HX:Hid (chk l = 6):=Lib.hid (by rw [HR.out,if_pos (deep_not (by rw [← HN.out]; exact hlt) (by rw [← HU.out]; exact hd))])
       have hd1:(12:Int) < ((u + 1:Nat):Int):=by omega
       have hd2:12 < u + 1:=by omega
       go_wp2_with (go_at_call 63; (with_reducible refine HDP.out.mono ?_); rintro e w' ⟨rfl,rfl⟩)
       go_ret
       exact ⟨ret_int HX.out.symm,HB.out⟩
      ·have hd1:¬ (12:Int) < ((u + 1:Nat):Int):=by omega
       have hd2:¬ 12 < u + 1:=by omega
       go_wp2_with (go_at_call 63; (with_reducible refine HDP.out.mono ?_); rintro e w' ⟨rfl,rfl⟩)
       go_round
       case rel => exact ⟨k + 1,by omega,by simp,fun i hi => by
        by_cases e:i = k
        ·rw [e,← HU.out]; exact hd
        ·exact HQ.out i (by omega)⟩
       case measure => simp [intOf]; omega
     ·obtain rfl:k = n:=by omega
      have HX:Hid (chk l = 0):=Lib.hid (by rw [HR.out,if_neg (by rw [deep_of (fun i hi => HQ.out i (by rw [HN.out]; exact hi))]; simp)])
      go_wp2_with fail
      go_ret
      exact ⟨ret_int HX.out.symm,HB.out⟩
def hasB (l:List Sh) (i:Int):Bool:=decide (0 ≤ i) && decide (i < l.length) && (chk l == 0)
theorem has_yes {l:List Sh} {i:Int} (h:hasB l i = true):∃ k:Nat,i = k ∧ k < l.length ∧ chk l = 0:=by
 simp [hasB] at h
 obtain ⟨⟨h1,h2⟩,h3⟩:=h
 exact ⟨i.toNat,by omega,by omega,h3⟩
set_option maxHeartbeats 1000000 in
theorem has_any (A:Option Addr) (n c:Nat) (l:List Sh) (i:Int) (w:World) (h:Sts w (.slice A n c) l) (hm:n ≤ 9223372036854775807) :
 Calls Try.prog 50 #[.slice A n c,.int .i64 i] w (RetB w (hasB l i)):=by
 have hn:=h.len
 have HC:=Lib.hid (shpcheck_any A n c l w h hm)
 obtain ⟨ch,hch⟩:∃ ch,ch = chk l:=⟨_,rfl⟩
 rw [← hch] at HC
 have HH:Hid (hasB l i = (decide (0 ≤ i) && decide (i < n) && (ch == 0))):=Lib.hid (by rw [hn,hch]; rfl)
 obtain ⟨r,hr⟩:∃ r,r = hasB l i:=⟨_,rfl⟩
 rw [← hr] at HH ⊢
 clear h hn hch hr
 by_cases h0:0 ≤ i
 ·have g0:decide (0 ≤ i) = true:=decide_eq_true h0
  by_cases h1:i < n
  ·have g1:decide (i < n) = true:=decide_eq_true h1
   have HR:Hid (r = (ch == 0)):=Lib.hid (by rw [HH.out,g0,g1]; rfl)
   by_cases hc:ch = 0
   ·have gc:(ch == 0) = true:=by simpa using hc
    have HR2:Hid (r = true):=Lib.hid (HR.out.trans gc)
    clear hc
    go_enter Try.func50,Try.ntmps50
    go_wp2_with (go_at_call 57; (with_reducible refine HC.out.mono ?_))
    rintro e w1 ⟨rfl,hb⟩
    go_wp2_with fail
    go_ret
    exact ⟨ret_bool HR2.out.symm,hb⟩
   ·have gc:(ch == 0) = false:=by simpa using hc
    have HR2:Hid (r = false):=Lib.hid (HR.out.trans gc)
    clear hc
    go_enter Try.func50,Try.ntmps50
    go_wp2_with (go_at_call 57; (with_reducible refine HC.out.mono ?_))
    rintro e w1 ⟨rfl,hb⟩
    go_wp2_with fail
    go_ret
    exact ⟨ret_bool HR2.out.symm,hb⟩
  ·have g1:decide (i < n) = false:=decide_eq_false h1
   have HR:Hid (r = false):=Lib.hid (by rw [HH.out,g0,g1]; rfl)
   go_enter Try.func50,Try.ntmps50
   go_wp2_with fail
   go_ret
   exact ⟨ret_bool HR.out.symm,Below.refl _ _⟩
 ·have g0:decide (0 ≤ i) = false:=decide_eq_false h0
  have HR:Hid (r = false):=Lib.hid (by rw [HH.out,g0]; rfl)
  go_enter Try.func50,Try.ntmps50
  go_wp2_with fail
  go_ret
  exact ⟨ret_bool HR.out.symm,Below.refl _ _⟩
end Go.Proofs.Ytbdalbpackfejaa
namespace Go.Proofs.Ytbdalbpackfejaa
open Go.RowKit ShapeSpec
set_option maxRecDepth 100000
def kidsA (l:List Sh) (i:Int):List Int:=if hasB l i = true then kids l i.toNat else []
theorem has_at {l:List Sh} {n:Nat} {i:Int} (hn:n = l.length) (h:hasB l i = true):∃ k:Nat,i = k ∧ i.toNat = k ∧ k < n ∧ n ≤ 60 ∧ SU l n:=by
 obtain ⟨k,rfl,hk,hc⟩:=has_yes h
 subst hn
 exact ⟨k,rfl,rfl,hk,(chk_ok hc).1,chk_su hc⟩
end Go.Proofs.Ytbdalbpackfejaa