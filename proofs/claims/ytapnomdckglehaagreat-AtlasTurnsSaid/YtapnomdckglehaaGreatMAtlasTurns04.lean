/- ExprText, ActTextSpec, ExprBetween, ExprMid, ExprLast, ActReadSpec, TransSpec, SynSpec, EvalOps, EvalMem, TermLits, TermCome, TermRefDeep, joined. -/
import Derived.Test.YtapnomdckglehaaGreatMAtlasTurns02
import Derived.Test.YtapnomdckglehaaGreatMAtlasTurns03
import Derived.Deep.RegionHeld3
import Derived.Lib.Join
import Derived.Test.YtapnomdckglehaaGreatMAtlasTurns00
namespace Go.Proofs.YtapnomdckglehaaGreat
open Go.RowKit CurSpec TermSpec ExprSpec
namespace ExprSpec
end ExprSpec
end Go.Proofs.YtapnomdckglehaaGreat
namespace Go.Proofs.YtapnomdckglehaaGreat
namespace ActSpec
open TermSpec EvalSpec NamesSpec ExprSpec
structure Ta where
 s:ByteArray
 any:Bool
 e:Ex
def Ta.ac (t:Ta):Ac:=⟨t.s,t.any,if t.any then [] else flat t.e⟩
def Ta.Ok (t:Ta):Prop:=isName t.s.data.toList = true ∧ (t.any = false → ExprSpec.Good t.e ∧ chk (flat t.e) = 0)
end ActSpec
end Go.Proofs.YtapnomdckglehaaGreat
namespace Go.Proofs.YtapnomdckglehaaGreat
open Go.RowKit CurSpec TermSpec ExprSpec
end Go.Proofs.YtapnomdckglehaaGreat
namespace Go.Proofs.YtapnomdckglehaaGreat
open Go.RowKit CurSpec TermSpec ExprSpec NamesSpec
def Inv (P:Cur → Prop):Prop:=(∀ c,P c → P (on c)) ∧ ∀ c e,P c → P (fail c e)
theorem Inv.want {P:Cur → Prop} (h:Inv P) {c:Cur} (hc:P c) (k:Int) (s:ByteArray):P (want c k s):=by
 unfold CurSpec.want
 split
 ·exact h.1 _ hc
 ·exact h.2 _ _ hc
theorem Inv.nameC {P:Cur → Prop} (h:Inv P) {c:Cur} (hc:P c):P (nameC c):=by
 unfold CurSpec.nameC
 split
 ·exact h.1 _ hc
 ·exact h.2 _ _ hc
theorem Inv.numC {P:Cur → Prop} (h:Inv P) {c:Cur} (hc:P c) (m:Int):P (numC c m):=by
 unfold CurSpec.numC
 split
 ·exact h.1 _ hc
 ·exact h.2 _ _ hc
theorem Inv.hd {P:Cur → Prop} (h:Inv P) {rec:Cur → Int → Pa} (hr:∀ c k,P c → P (rec c k).1) {c:Cur} (hc:P c) (k:Int):P (hd rec c k).1.1:=by
 have two_ok:∀ c o,P c → P (two rec c o).1:=fun c o hc => h.want (hr _ _ (h.want (hr _ _ (h.want hc _ _)) _ _)) _ _
 unfold ExprSpec.hd
 split
 ·exact hr _ _ (h.1 _ hc)
 split
 ·exact hr _ _ (h.1 _ hc)
 ·dsimp only
  unfold atom
  split
  ·exact h.numC hc _
  split
  ·exact h.1 _ hc
  split
  ·exact h.1 _ hc
  split
  ·exact h.want (h.nameC (h.want (h.1 _ hc) _ _)) _ _
  split
  ·exact two_ok _ _ (h.1 _ hc)
  split
  ·exact two_ok _ _ (h.1 _ hc)
  split
  ·exact h.want (hr _ _ (h.1 _ hc)) _ _
  ·exact h.nameC hc
theorem Inv.all {P:Cur → Prop} (h:Inv P):∀ f,(∀ c k,P c → P (S f c k).1) ∧ ∀ lev k c x,P c → P (C f lev k c x).1
 | 0 => ⟨fun c k hc => hc,fun lev k c x hc => hc⟩
 | f + 1 => by
   obtain ⟨ih1,ih2⟩:=Inv.all h f
   refine ⟨fun c k hc => ?_,fun lev k c x hc => ?_⟩
   ·by_cases h0:c.bad = 0
    ·rw [S_good f k h0]
     exact ih2 _ _ _ _ (h.hd ih1 hc k)
    ·rw [S_dead _ k h0]; exact hc
   ·cases hs:sgn c lev k with
    | none => rw [C_stop _ x hs]; exact hc
    | some s => rw [C_step f x hs]; exact ih2 _ _ _ _ (ih1 _ _ (h.1 _ hc))
def CapD (c:Cur) (pre x l:List Tm):Prop:=pre.length ≤ l.length ∧ (c.bad = 0 → (if pre.length + x.length ≤ 41 then l = pre ++ x else l.length = 41))
theorem CapD.start (c:Cur) (pre:List Tm) (h:pre.length ≤ 41):CapD c pre [] pre:=⟨Nat.le_refl _,fun _ => by simp [h]⟩
theorem CapD.to {c d:Cur} {pre x l:List Tm} (h:CapD c pre x l) (hd:d.bad = 0 → c.bad = 0):CapD d pre x l:=⟨h.1,fun h' => h.2 (hd h')⟩
theorem CapD.ins {c d:Cur} {pre x l:List Tm} (t:Tm) (hl:l.length ≤ 41) (hd:d.bad = 0 → c.bad = 0) (h:CapD c pre x l):CapD d pre (t :: x) (ins l pre.length t):=by
 obtain ⟨h1,h2⟩:=h
 refine ⟨?_,fun hb => ?_⟩
 ·unfold Go.Proofs.YtapnomdckglehaaGreat.ins
  split
  ·simp only [List.length_append,List.length_take,List.length_cons,List.length_drop]; omega
  ·exact h1
 ·have h3:=h2 (hd hb)
  unfold Go.Proofs.YtapnomdckglehaaGreat.ins
  by_cases h40:l.length ≤ 40
  ·rw [if_pos h40]
   by_cases hp:pre.length + x.length ≤ 41
   ·rw [if_pos hp] at h3
    subst h3
    rw [List.length_append] at h40
    rw [if_pos (by simp only [List.length_cons]; omega),List.take_left,List.drop_left]
   ·rw [if_neg hp] at h3; omega
  ·rw [if_neg h40]
   by_cases hp:pre.length + x.length ≤ 41
   ·rw [if_pos hp] at h3
    subst h3
    rw [List.length_append] at h40 hl
    rw [if_neg (by simp only [List.length_cons]; omega),List.length_append]
    omega
   ·rw [if_neg (by simp only [List.length_cons]; omega)]; omega
end Go.Proofs.YtapnomdckglehaaGreat
namespace Go.Proofs.YtapnomdckglehaaGreat
open Go.RowKit CurSpec TermSpec ExprSpec NamesSpec
end Go.Proofs.YtapnomdckglehaaGreat
namespace Go.Proofs.YtapnomdckglehaaGreat
namespace ActSpec
open CurSpec TermSpec EvalSpec NamesSpec ExprSpec
end ActSpec
end Go.Proofs.YtapnomdckglehaaGreat
namespace Go.Proofs.YtapnomdckglehaaGreat
namespace TransSpec
open CurSpec TermSpec EvalSpec NamesSpec ExprSpec ActSpec
structure Tr where
 ev:ByteArray
 g:List Tm
 acts:List Ac
 tg:ByteArray
def okN (s:ByteArray):Bool:=decide (s.size = 0) || isName s.data.toList
def chkT (t:Tr):Int:=if okN t.ev = false ∨ okN t.tg = false then 1 else if t.g.length ≠ 0 ∧ chk t.g ≠ 0 then chk t.g else chkA t.acts
abbrev wEnd:ByteArray:=⟨#[59]⟩
structure Tt where
 ev:ByteArray
 g:Option Ex
 ts:List Ta
 tg:ByteArray
def gFlat:Option Ex → List Tm
 | none => []
 | some e => flat e
def Tt.tr (x:Tt):Tr:=⟨x.ev,gFlat x.g,x.ts.map Ta.ac,x.tg⟩
structure Tt.Ok (x:Tt):Prop where
 ev:okN x.ev = true
 tg:okN x.tg = true
 g:∀ e,x.g = some e → ExprSpec.Good e ∧ chk (flat e) = 0
 ts:∀ t ∈ x.ts,t.Ok
 few:x.ts.length ≤ 8
theorem chkA_ok {l:List Ac} (h:chkA l = 0):l.length ≤ 8 ∧ firstA l = 0:=by
 unfold chkA at h
 split at h
 ·cases h
 ·exact ⟨by omega,h⟩
end TransSpec
end Go.Proofs.YtapnomdckglehaaGreat
namespace Go.Proofs.YtapnomdckglehaaGreat
namespace SynSpec
open CurSpec TermSpec EvalSpec NamesSpec ExprSpec ActSpec TransSpec
structure Sx where
 s:ByteArray
 kind:Int
 par:Int
 en:List Ac
 ex:List Ac
 tr:List Tr
structure Cx where
 s:ByteArray
 evs:List ByteArray
 vars:List Vr
 sts:List Sx
abbrev zeroC:Cx:=⟨⟨#[]⟩,[],[],[]⟩
section
variable {α:Type} {q:Cur → Bool} {st:Cur → List α → Cur × List α}
def left (c:Cur):Nat:=if c.bad = 0 then c.L.length + 1 else 0
end
abbrev wVar:ByteArray:=⟨#[118,97,114]⟩
abbrev wMin:ByteArray:=⟨#[45]⟩
abbrev wDots:ByteArray:=⟨#[46,46]⟩
abbrev wIs:ByteArray:=⟨#[61]⟩
def intR (c:Cur):Cur × Int:=if isB c 3 wMin = true then (numC (on c) 1000,- numN (on c) 1000) else (numC c 1000,numN c 1000)
def varR (c:Cur):Cur × Vr :=
 (want (intR (want (intR (want (intR (nameC (want c 1 wVar))).1 3 wDots)).1 3 wIs)).1 3 wEnd,
  ⟨nameS (want c 1 wVar),(intR (nameC (want c 1 wVar))).2,(intR (want (intR (nameC (want c 1 wVar))).1 3 wDots)).2,(intR (want (intR (want (intR (nameC (want c 1 wVar))).1 3 wDots)).1 3 wIs)).2⟩)
def fullO {α:Type} (n:Nat) (c:Cur) (out:List α):Cur:=if out.length = n then fail c 8 else c
def stV (c:Cur) (out:List Vr):Cur × List Vr:=((varR (fullO 4 c out)).1,out ++ [(varR (fullO 4 c out)).2])
def room (many deep:Int):Int:=if many = 60 then 8 else if 12 < deep then 6 else 0
structure To (c d:Cur):Prop where
 len:d.L.length ≤ c.L.length
 bad:c.bad ≠ 0 → d.bad ≠ 0
 ok:Ok c → Ok d
theorem To.refl (c:Cur):To c c:=⟨Nat.le_refl _,id,id⟩
theorem To.trans {a b c:Cur} (h:To a b) (g:To b c):To a c:=⟨Nat.le_trans g.len h.len,fun h' => g.bad (h.bad h'),fun h' => g.ok (h.ok h')⟩
def FewS (n:Nat) (c:Cur) (out:List Sx):Prop:=n + out.length ≤ 61 ∧ (n + out.length = 61 → c.bad ≠ 0)
theorem FewS.to {n:Nat} {c d:Cur} {out:List Sx} (h:FewS n c out) (t:To c d):FewS n d out:=⟨h.1,fun h' => t.bad (h.2 h')⟩
def StartS (n:Nat) (c:Cur):Prop:=n ≤ 60 ∧ (n = 60 → c.bad ≠ 0)
theorem StartS.to {n:Nat} {c d:Cur} (h:StartS n c) (t:To c d):StartS n d:=⟨h.1,fun h' => t.bad (h.2 h')⟩
theorem StartS.few {n:Nat} {c:Cur} (h:StartS n c):FewS (n + 1) c []:=⟨by have:=h.1; simp; omega,fun h' => h.2 (by simp at h'; omega)⟩
end SynSpec
end Go.Proofs.YtapnomdckglehaaGreat
namespace Go.Proofs.YtapnomdckglehaaGreat
open Go.RowKit TermSpec EvalSpec ValSpec
end Go.Proofs.YtapnomdckglehaaGreat
namespace Go.Proofs.YtapnomdckglehaaGreat
open Go.RowKit TermSpec EvalSpec NamesSpec Go.Lib
structure EP where
 vA:Option Addr
 vn:Nat
 vc:Nat
 iA:Option Addr
 im:Nat
 ic:Nat
def vrV (v:Vr):List Value:=[.string v.s,.int .i64 v.lo,.int .i64 v.hi,.int .i64 v.ini]
def vrsV (l:List Vr):List Value:=l.flatMap vrV
theorem vrV_length (v:Vr):(vrV v).length = 4:=rfl
theorem vrsV_get {l:List Vr} {i:Nat} {v:Vr} (h:l[i]? = some v):(vrsV l)[i * 4]? = some (.string v.s) ∧ (vrsV l)[i * 4 + 1]? = some (.int .i64 v.lo) ∧ (vrsV l)[i * 4 + 2]? = some (.int .i64 v.hi) ∧ (vrsV l)[i * 4 + 3]? = some (.int .i64 v.ini) :=
 ⟨flat_get (j:=0) vrV_length h (by omega),flat_get (j:=1) vrV_length h (by omega),flat_get (j:=2) vrV_length h (by omega),flat_get (j:=3) vrV_length h (by omega)⟩
def VarsIn (w:World) (A:Option Addr) (n c:Nat) (l:List Vr):Prop:=n = l.length ∧ Rdk 4 w (.slice A n c) n (vrsV l)
theorem VarsIn.keep {w w':World} {A:Option Addr} {n c:Nat} {l:List Vr} (h:VarsIn w A n c l) (hb:Below w.heap.size w w'):VarsIn w' A n c l:=⟨h.1,h.2.keep hb⟩
theorem VarsIn.at_ {w:World} {A:Option Addr} {n c:Nat} {l:List Vr} {i:Nat} {v:Vr} (h:VarsIn w A n c l) (hi:l[i]? = some v) :
 ∃ b off,A = some ⟨b,off,none⟩ ∧ b < w.heap.size ∧ w.cell? ⟨b,off + i * 4,none⟩ = some (.string v.s) ∧ w.cell? ⟨b,off + i * 4 + 1,none⟩ = some (.int .i64 v.lo) ∧ w.cell? ⟨b,off + i * 4 + 2,none⟩ = some (.int .i64 v.hi) ∧ w.cell? ⟨b,off + i * 4 + 3,none⟩ = some (.int .i64 v.ini):=by
 obtain ⟨hn,A',c',heq,hc,hl,hA⟩:=h
 cases heq
 have:=get_lt hi
 obtain ⟨b,off,rfl,hb,hcell⟩:=hA (by omega)
 obtain ⟨g0,g1,g2,g3⟩:=vrsV_get hi
 exact ⟨b,off,rfl,hb,hcell _ _ g0,by rw [Nat.add_assoc]; exact hcell _ _ g1,by rw [Nat.add_assoc]; exact hcell _ _ g2,by rw [Nat.add_assoc]; exact hcell _ _ g3⟩
theorem VarsIn.cap {w:World} {A:Option Addr} {n c:Nat} {l:List Vr} (h:VarsIn w A n c l):n ≤ c:=by
 obtain ⟨hn,A',c',heq,hc,hl,hA⟩:=h
 cases heq
 exact hc
structure EnvIn (w:World) (p:EP) (e:Ev):Prop where
 vars:VarsIn w p.vA p.vn p.vc e.vars
 ins:Rd w (.slice p.iA p.im p.ic) (strV e.ins)
 vbd:e.vars.length ≤ 9223372036854775807
 ibd:e.ins.length ≤ 9223372036854775807
theorem EnvIn.keep {w w':World} {p:EP} {e:Ev} (h:EnvIn w p e) (hb:Below w.heap.size w w'):EnvIn w' p e:=⟨h.vars.keep hb,h.ins.keep hb,h.vbd,h.ibd⟩
end Go.Proofs.YtapnomdckglehaaGreat
namespace Go.Proofs.YtapnomdckglehaaGreat
open Go.RowKit TermSpec
set_option maxRecDepth 100000
theorem max_if (a b:Int):max a b = if a < b then b else a:=by split <;> omega
def DeepRel (bs:List Int) (n:Nat) (v i:Value):Prop:=∃ k:Nat,k ≤ n ∧ i = .int .i64 k ∧ v = .int .i64 (deepest (bs.take k))
set_option maxHeartbeats 1000000 in
theorem deplit_any (o:Int) (v:Value) (bs:List Int) (w:World) (h:Rd w v (intV bs)) (hm:bs.length ≤ 4611686018427387903) (hb:∀ b ∈ bs,b ≤ 4611686018427387903) :
 Calls Tryz.prog 188 #[.int .i64 o,v] w (SameI w (depF o bs)):=by
 obtain ⟨A,n,c,rfl,hn,hc,hA⟩:=h.ints
 have HA:=Lib.hid hA
 have HN:=Lib.hid hn
 have HB:=Lib.hid hb
 have hm':n ≤ 4611686018427387903:=by omega
 clear hA hn h hc hm hb
 go_enter Tryz.func188,Tryz.ntmps188
 go_wp2_with fail
 go_loop [5,7,10] (fun v _ i => DeepRel bs n v i) (fun _ _ i => n - (intOf i).toNat)
 case atStart => exact ⟨0,Nat.zero_le _,rfl,rfl⟩
 case round =>
  obtain ⟨k,hk,rfl,rfl⟩:=hrel
  obtain ⟨g0,g1⟩:=deepest_bd (B:=4611686018427387903) (by omega) (bs.take k) (fun b h => HB.out b (List.mem_of_mem_take h))
  by_cases hlt:k < n
  ·obtain ⟨b,off,rfl,hb,hcell⟩:=HA.out (by omega)
   obtain ⟨x,hx⟩:∃ x,bs[k]? = some x:=get_some (by have:=HN.out; omega)
   have hck:=hcell k x hx
   have HS:Hid (deepest (bs.take (k + 1)) = if deepest (bs.take k) < x then x else deepest (bs.take k)):=Lib.hid (by rw [take_next hx,deepest_snoc])
   obtain ⟨d,hd⟩:∃ d,d = deepest (bs.take k):=⟨_,rfl⟩
   rw [← hd] at HS g0 g1 ⊢
   clear hcell hx hd
   go_wp2_with fail
   go_round
   case rel => exact ⟨k + 1,hlt,by simp,by rw [HS.out,← max_if]⟩
   case measure => simp [intOf]; omega
  ·go_wp2_with fail
   go_ret
   exact ⟨ret_int (by rw [List.take_of_length_le (by rw [HN.out]; omega)]; rfl),rfl⟩
def AllRel (bs:List Int) (n:Nat) (q:Int) (i:Value):Prop:=∃ k:Nat,k ≤ n ∧ i = .int .i64 k ∧ (bs.take k).all (fun b => decide (b = q)) = true
theorem all_no {bs:List Int} {k:Nat} {q x:Int} (hx:bs[k]? = some x) (h:x ≠ q):bs.all (fun b => decide (b = q)) = false:=by
 rw [List.all_eq_false]
 exact ⟨x,List.mem_of_getElem? hx,by simpa using h⟩
theorem typF_of {o:Int} {bs:List Int} {b:Bool} (h:bs.all (fun b => decide (b = askT o)) = b):typF o bs = if b then ownT o else 0:=by unfold typF; rw [h]
set_option maxHeartbeats 1000000 in
theorem typlit_any (o:Int) (v:Value) (bs:List Int) (w:World) (h:Rd w v (intV bs)) (hm:bs.length ≤ 4611686018427387903) :
 Calls Tryz.prog 186 #[.int .i64 o,v] w (SameI w (typF o bs)):=by
 obtain ⟨A,n,c,rfl,hn,hc,hA⟩:=h.ints
 have HA:=Lib.hid hA
 have HN:=Lib.hid hn
 have HT:=Lib.hid (fun b h => typF_of (o:=o) (bs:=bs) (b:=b) h)
 have HC:=Lib.hid (fun w => types_any o w)
 obtain ⟨q,hq⟩:∃ q,q = askT o:=⟨_,rfl⟩
 obtain ⟨z,hz⟩:∃ z,z = ownT o:=⟨_,rfl⟩
 rw [← hq,← hz] at HC HT
 have hm':n ≤ 4611686018427387903:=by omega
 clear hA hn h hc hm hq hz
 go_enter Tryz.func186,Tryz.ntmps186
 go_wp2_with (go_at_call 187; (with_reducible refine (HC.out _).mono ?_); rintro e w' ⟨rfl,rfl⟩)
 go_loop [8,16] (fun _ i => AllRel bs n q i) (fun _ i => n - (intOf i).toNat)
 case atStart => exact ⟨0,Nat.zero_le _,rfl,rfl⟩
 case round =>
  obtain ⟨k,hk,rfl,hall⟩:=hrel
  have HL:=Lib.hid hall
  clear hall
  by_cases hlt:k < n
  ·obtain ⟨b,off,rfl,hb,hcell⟩:=HA.out (by omega)
   obtain ⟨x,hx⟩:∃ x,bs[k]? = some x:=get_some (by have:=HN.out; omega)
   have hck:=hcell k x hx
   have HX:=Lib.hid hx
   clear hcell hx
   by_cases hxq:x = q
   ·have g:(x != q) = false:=by simp [hxq]
    have HQ:=Lib.hid hxq
    clear hxq
    go_wp2_with fail
    go_round
    case rel => exact ⟨k + 1,hlt,by simp,by rw [take_next HX.out,List.all_append,HL.out]; simpa using HQ.out⟩
    case measure => simp [intOf]; omega
   ·have g:(x != q) = true:=by simp [hxq]
    have HQ:=Lib.hid hxq
    clear hxq
    go_wp2_with fail
    go_ret
    exact ⟨ret_int (by rw [HT.out _ (all_no HX.out HQ.out)]; rfl),rfl⟩
  ·go_wp2_with fail
   go_ret
   exact ⟨ret_int (by
    have h:=HL.out
    rw [List.take_of_length_le (by rw [HN.out]; omega)] at h
    rw [HT.out _ h]; rfl),rfl⟩
end Go.Proofs.YtapnomdckglehaaGreat
namespace Go.Proofs.YtapnomdckglehaaGreat
open Go.RowKit TermSpec
set_option maxRecDepth 100000
theorem below_place {l:List Tm} {a q m k:Nat} (h:cnt q (l.drop (a + 1)) = some m) (hk:k < q) :
 ∃ x,(belows l a q)[k]? = some ((a + 1 + x:Nat):Int) ∧ 0 ≤ endA l ((a + 1 + x:Nat):Int) ∧ a + 1 + x ≤ max l.length (a + 1) ∧ (∀ f,(stack f (l.drop (a + 1))).take (k + 1) = (stack f (l.drop (a + 1))).take k ++ [come f (l.drop (a + 1 + x))]):=by
 have h':=h
 rw [show q = (k + 1) + (q - (k + 1)) by omega] at h'
 obtain ⟨z,_,hz,_,_⟩:=cnt_split h'
 obtain ⟨x,y,hx,hy,_⟩:=cnt_split hz
 have hle:=(cnt_le hx).1
 rw [List.length_drop] at hle
 refine ⟨x,?_,?_,by omega,fun f => ?_⟩
 ·rw [belows_get hk,hx]; rfl
 ·have:=(below_next h hk).1
  rw [hx] at this
  simp only [Option.getD_some] at this
  rw [this]; omega
 ·have:=stack_take_next (f:=f) hz hx
  rwa [List.drop_drop] at this
theorem come_at {f:Int → List Int → Int} {l:List Tm} {a:Nat} {t:Tm} (ht:l[a]? = some t):come f (l.drop a) = f t.op ((stack f (l.drop (a + 1))).take (arN t.op)):=by rw [drop_get ht,come_cons]
def ComeRel (f:Int → List Int → Int) (W:World) (l:List Tm) (a q:Nat) (p i:Value) (wr:World):Prop :=
 ∃ k:Nat,k ≤ q ∧ i = .int .i64 k ∧ RowI W wr p ((stack f (l.drop (a + 1))).take k)
def IHDep (A:Option Addr) (n c:Nat) (l:List Tm) (K:Nat):Prop:=∀ (a:Nat) (w:World),n ≤ a + K → Tms w (.slice A n c) l → 0 ≤ endA l a → Calls Tryz.prog 190 #[.slice A n c,.int .i64 a,.func (.func 188) #[] #[]] w (RetI w (come depF (l.drop a)))
set_option maxHeartbeats 2000000 in
theorem comeDep_step (A:Option Addr) (n c:Nat) (l:List Tm) (K:Nat) (hn:n = l.length) (hn62:n ≤ 70368744177664) (ih:IHDep A n c l K) (a:Nat) (w:World) (hK:n ≤ a + (K + 1)) (h:Tms w (.slice A n c) l) (he:0 ≤ endA l a) :
 Calls Tryz.prog 190 #[.slice A n c,.int .i64 a,.func (.func 188) #[] #[]] w (RetI w (come depF (l.drop a))):=by
 obtain ⟨k0,m0,hk0,hc0,_,_,_⟩:=endA_nn he
 obtain rfl:k0 = a:=by omega
 obtain ⟨t,m,ht,h0,_,hm⟩:=first_of hc0
 have han:=get_lt ht
 have HT:=Lib.hid h
 have HM:=Lib.hid hm
 have HIH:=Lib.hid ih
 have HBL:=Lib.hid (below_yes A n c l k0 w h hn hn62 t ht he)
 obtain ⟨b,off,rfl,hb,c0,-,-⟩:=h.at_ ht
 have HCELL:=Lib.hid c0
 have HCM:=Lib.hid (come_at (f:=depF) ht)
 have hq:=(ar_bd t.op).2
 have e0:=arN_of h0
 have hsl:=stack_len (f:=depF) hm
 have hdb:∀ b ∈ (stack depF (l.drop (k0 + 1))).take (arN t.op),b ≤ 4611686018427387903:=fun b hb => by
  have h1:=(stack_depth _ b (List.mem_of_mem_take hb)).2
  rw [List.length_drop] at h1
  omega
 have hdl:((stack depF (l.drop (k0 + 1))).take (arN t.op)).length ≤ 4611686018427387903:=by rw [List.length_take]; omega
 have HDB:=Lib.hid (And.intro hdl hdb)
 clear hdb hdl
 obtain ⟨o,ho⟩:∃ o,o = t.op:=⟨_,rfl⟩
 rw [← ho] at HBL HCELL HCM hq e0 HM hsl c0 HDB
 obtain ⟨q,hqe⟩:∃ q,q = arN o:=⟨_,rfl⟩
 rw [← hqe] at HBL HCM e0 HM hsl HDB
 have hq2:q ≤ 2:=by omega
 have hal:k0 < n:=by omega
 have hal':(k0:Int) < n:=by omega
 have hlen:l.length = n:=hn.symm
 obtain ⟨i0,hi,hz0,hz1,hz2⟩:=info_parts inf_int
 have HI:=Lib.hid (And.intro hi (And.intro hz0 (And.intro hz1 hz2)))
 have HLEN:=Lib.hid hlen
 have HSL:=Lib.hid hsl
 clear ht ho hqe hn h hc0 hk0 hm he h0 e0 han hi hz0 hz1 hz2 hq c0 ih hlen hsl
 go_enter Tryz.func190,Tryz.ntmps190
 go_wp2_with (go_at_call 192; (with_reducible refine HBL.out.mono ?_))
 rintro e w1 ⟨v2,rfl,hr2,hb1⟩
 obtain ⟨A2,n2,c2,rfl,hn2,hc2,hA2⟩:=hr2.ints
 rw [belows_length] at hn2
 obtain rfl:q = n2:=hn2
 have HA2:=Lib.hid hA2
 have HB1:=Lib.hid hb1
 clear hr2 hc2 hA2 hb1
 go_wp2_with fail
 go_loopw [7,9,14] (fun p _ i wr => ComeRel depF w1 l k0 q p i wr) (fun _ _ i _ => 3 - (intOf i).toNat)
 case atStart => exact ⟨0,Nat.zero_le _,rfl,RowI.nil _ _ (Below.refl _ _)⟩
 case round =>
  obtain ⟨k,hk,rfl,hrow⟩:=hrel
  have hbw:=below_two' HB1.out hrow.2
  have HR:=Lib.hid hrow
  have HBW:=Lib.hid hbw
  clear hrow hbw
  by_cases hlt:k < q
  ·obtain ⟨b2,off2,rfl,hb2,hcell⟩:=HA2.out (by omega)
   obtain ⟨x,hx,hex,hbx,hst⟩:=below_place HM.out hlt
   have hck:=(HR.out.2.cell (p:=⟨b2,off2 + k,none⟩) (by exact hb2)).trans (hcell k _ hx)
   have HST:=Lib.hid (hst depF)
   rw [HLEN.out] at hbx
   have HCI:=Lib.hid (HIH.out (k0 + 1 + x) wr (by omega) (HT.out.keep HBW.out) hex)
   obtain ⟨y,hy⟩:∃ y,y = come depF (l.drop (k0 + 1 + x)):=⟨_,rfl⟩
   rw [← hy] at HST HCI
   obtain ⟨p,hp⟩:∃ p,p = k0 + 1 + x:=⟨_,rfl⟩
   rw [← hp] at HCI hck
   have hl:((stack depF (l.drop (k0 + 1))).take k).length = k:=by rw [List.length_take]; have:=HSL.out; omega
   have HL1:Hid (((stack depF (l.drop (k0 + 1))).take k).length + (intV [(y:Int)]).length ≤ maxLen):=Lib.hid (by rw [hl]; simp [maxLen]; omega)
   have HL2:Hid ((((stack depF (l.drop (k0 + 1))).take k).length + (intV [(y:Int)]).length) * 8 ≤ 140737488355328):=Lib.hid (by rw [hl]; simp; omega)
   clear hx hex hbx hst hcell hl hy hp
   go_wp2_with (go_at_call 190; (with_reducible refine HCI.out.mono ?_))
   rintro e w3 ⟨rfl,hb3⟩
   have HR3:=Lib.hid (HR.out.keep hb3)
   have HRA:=Lib.hid HR3.out.1
   have HSZ:Hid (w1.heap.size ≤ w3.heap.size):=Lib.hid HR3.out.2.size
   clear hb3 hck
   go_wp2_with (at_builtin; refine wpList_append_rd _ rfl (.tmp 18) (.tmp 23) _ rfl w1.heap.size 3 i0 (.int .i64 0) 8 Tryz.underlying40 HI.out.1 HI.out.2.1 HI.out.2.2.1 HI.out.2.2.2 rfl _ _ _ rfl (HRA.out.alloc _) _ (intV [(y:Int)]) rfl (Rd.lit (cs:=#[.int .i64 y]) rfl) (intV_one _) HL1.out HL2.out ?_ ?_; (have:=HSZ.out; simp; omega); intro p2 w4 hrow2 hg2 _; have HR4:=Lib.hid (RowI.add HR3.out hrow2 hg2); clear hrow2 hg2)
   go_roundw
   case rel => exact ⟨k + 1,hlt,by simp,by rw [HST.out]; exact HR4.out⟩
   case measure => simp [intOf]; omega
  ·obtain rfl:k = q:=by omega
   obtain ⟨A3,n3,c3,rfl,hn3⟩:∃ A n c,u7 = .slice A n c ∧ True:=by
    obtain ⟨A,c,h⟩:=own_shape HR.out.1
    exact ⟨A,_,c,h,trivial⟩
   have c0:wr.cell? ⟨b,off + k0 * 3,none⟩ = some (.int .i64 o):=(HBW.out.cell (by exact hb)).trans HCELL.out
   have HLT:=Lib.hid (deplit_any o (.slice A3 n3 c3) _ wr HR.out.read HDB.out.1 HDB.out.2)
   go_wp2_with (go_at_call 188; (with_reducible refine HLT.out.mono ?_); rintro e w' ⟨rfl,rfl⟩)
   go_ret
   exact ⟨ret_int HCM.out.symm,HBW.out⟩
theorem comeDep_all (A:Option Addr) (n c:Nat) (l:List Tm) (hn:n = l.length) (hn62:n ≤ 70368744177664) (K:Nat):IHDep A n c l K:=by
 induction K with
 | zero =>
   intro a w hK _ he
   obtain ⟨k,m,hk,_,h1,h2,h3⟩:=endA_nn he
   omega
 | succ K ih => exact fun a w hK h he => comeDep_step A n c l K hn hn62 ih a w hK h he
theorem comeDep_any (A:Option Addr) (n c:Nat) (l:List Tm) (hn:n = l.length) (hn62:n ≤ 70368744177664) (a:Nat) (w:World) (h:Tms w (.slice A n c) l) (he:0 ≤ endA l a) :
 Calls Tryz.prog 190 #[.slice A n c,.int .i64 a,.func (.func 188) #[] #[]] w (RetI w (come depF (l.drop a))):=comeDep_all A n c l hn hn62 n a w (by omega) h he
def IHTyp (A:Option Addr) (n c:Nat) (l:List Tm) (K:Nat):Prop:=∀ (a:Nat) (w:World),n ≤ a + K → Tms w (.slice A n c) l → 0 ≤ endA l a → Calls Tryz.prog 190 #[.slice A n c,.int .i64 a,.func (.func 186) #[] #[]] w (RetI w (come typF (l.drop a)))
set_option maxHeartbeats 2000000 in
theorem comeTyp_step (A:Option Addr) (n c:Nat) (l:List Tm) (K:Nat) (hn:n = l.length) (hn62:n ≤ 70368744177664) (ih:IHTyp A n c l K) (a:Nat) (w:World) (hK:n ≤ a + (K + 1)) (h:Tms w (.slice A n c) l) (he:0 ≤ endA l a) :
 Calls Tryz.prog 190 #[.slice A n c,.int .i64 a,.func (.func 186) #[] #[]] w (RetI w (come typF (l.drop a))):=by
 obtain ⟨k0,m0,hk0,hc0,_,_,_⟩:=endA_nn he
 obtain rfl:k0 = a:=by omega
 obtain ⟨t,m,ht,h0,_,hm⟩:=first_of hc0
 have han:=get_lt ht
 have HT:=Lib.hid h
 have HM:=Lib.hid hm
 have HIH:=Lib.hid ih
 have HBL:=Lib.hid (below_yes A n c l k0 w h hn hn62 t ht he)
 obtain ⟨b,off,rfl,hb,c0,-,-⟩:=h.at_ ht
 have HCELL:=Lib.hid c0
 have HCM:=Lib.hid (come_at (f:=typF) ht)
 have hq:=(ar_bd t.op).2
 have e0:=arN_of h0
 have hsl:=stack_len (f:=typF) hm
 have hdl:((stack typF (l.drop (k0 + 1))).take (arN t.op)).length ≤ 4611686018427387903:=by rw [List.length_take]; omega
 have HDB:=Lib.hid hdl
 clear hdl
 obtain ⟨o,ho⟩:∃ o,o = t.op:=⟨_,rfl⟩
 rw [← ho] at HBL HCELL HCM hq e0 HM hsl c0 HDB
 obtain ⟨q,hqe⟩:∃ q,q = arN o:=⟨_,rfl⟩
 rw [← hqe] at HBL HCM e0 HM hsl HDB
 have hq2:q ≤ 2:=by omega
 have hal:k0 < n:=by omega
 have hal':(k0:Int) < n:=by omega
 have hlen:l.length = n:=hn.symm
 obtain ⟨i0,hi,hz0,hz1,hz2⟩:=info_parts inf_int
 have HI:=Lib.hid (And.intro hi (And.intro hz0 (And.intro hz1 hz2)))
 have HLEN:=Lib.hid hlen
 have HSL:=Lib.hid hsl
 clear ht ho hqe hn h hc0 hk0 hm he h0 e0 han hi hz0 hz1 hz2 hq c0 ih hlen hsl
 go_enter Tryz.func190,Tryz.ntmps190
 go_wp2_with (go_at_call 192; (with_reducible refine HBL.out.mono ?_))
 rintro e w1 ⟨v2,rfl,hr2,hb1⟩
 obtain ⟨A2,n2,c2,rfl,hn2,hc2,hA2⟩:=hr2.ints
 rw [belows_length] at hn2
 obtain rfl:q = n2:=hn2
 have HA2:=Lib.hid hA2
 have HB1:=Lib.hid hb1
 clear hr2 hc2 hA2 hb1
 go_wp2_with fail
 go_loopw [7,9,14] (fun p _ i wr => ComeRel typF w1 l k0 q p i wr) (fun _ _ i _ => 3 - (intOf i).toNat)
 case atStart => exact ⟨0,Nat.zero_le _,rfl,RowI.nil _ _ (Below.refl _ _)⟩
 case round =>
  obtain ⟨k,hk,rfl,hrow⟩:=hrel
  have hbw:=below_two' HB1.out hrow.2
  have HR:=Lib.hid hrow
  have HBW:=Lib.hid hbw
  clear hrow hbw
  by_cases hlt:k < q
  ·obtain ⟨b2,off2,rfl,hb2,hcell⟩:=HA2.out (by omega)
   obtain ⟨x,hx,hex,hbx,hst⟩:=below_place HM.out hlt
   have hck:=(HR.out.2.cell (p:=⟨b2,off2 + k,none⟩) (by exact hb2)).trans (hcell k _ hx)
   have HST:=Lib.hid (hst typF)
   rw [HLEN.out] at hbx
   have HCI:=Lib.hid (HIH.out (k0 + 1 + x) wr (by omega) (HT.out.keep HBW.out) hex)
   obtain ⟨y,hy⟩:∃ y,y = come typF (l.drop (k0 + 1 + x)):=⟨_,rfl⟩
   rw [← hy] at HST HCI
   obtain ⟨p,hp⟩:∃ p,p = k0 + 1 + x:=⟨_,rfl⟩
   rw [← hp] at HCI hck
   have hl:((stack typF (l.drop (k0 + 1))).take k).length = k:=by rw [List.length_take]; have:=HSL.out; omega
   have HL1:Hid (((stack typF (l.drop (k0 + 1))).take k).length + (intV [(y:Int)]).length ≤ maxLen):=Lib.hid (by rw [hl]; simp [maxLen]; omega)
   have HL2:Hid ((((stack typF (l.drop (k0 + 1))).take k).length + (intV [(y:Int)]).length) * 8 ≤ 140737488355328):=Lib.hid (by rw [hl]; simp; omega)
   clear hx hex hbx hst hcell hl hy hp
   go_wp2_with (go_at_call 190; (with_reducible refine HCI.out.mono ?_))
   rintro e w3 ⟨rfl,hb3⟩
   have HR3:=Lib.hid (HR.out.keep hb3)
   have HRA:=Lib.hid HR3.out.1
   have HSZ:Hid (w1.heap.size ≤ w3.heap.size):=Lib.hid HR3.out.2.size
   clear hb3 hck
   go_wp2_with (at_builtin; refine wpList_append_rd _ rfl (.tmp 18) (.tmp 23) _ rfl w1.heap.size 3 i0 (.int .i64 0) 8 Tryz.underlying40 HI.out.1 HI.out.2.1 HI.out.2.2.1 HI.out.2.2.2 rfl _ _ _ rfl (HRA.out.alloc _) _ (intV [(y:Int)]) rfl (Rd.lit (cs:=#[.int .i64 y]) rfl) (intV_one _) HL1.out HL2.out ?_ ?_; (have:=HSZ.out; simp; omega); intro p2 w4 hrow2 hg2 _; have HR4:=Lib.hid (RowI.add HR3.out hrow2 hg2); clear hrow2 hg2)
   go_roundw
   case rel => exact ⟨k + 1,hlt,by simp,by rw [HST.out]; exact HR4.out⟩
   case measure => simp [intOf]; omega
  ·obtain rfl:k = q:=by omega
   obtain ⟨A3,n3,c3,rfl,hn3⟩:∃ A n c,u7 = .slice A n c ∧ True:=by
    obtain ⟨A,c,h⟩:=own_shape HR.out.1
    exact ⟨A,_,c,h,trivial⟩
   have c0:wr.cell? ⟨b,off + k0 * 3,none⟩ = some (.int .i64 o):=(HBW.out.cell (by exact hb)).trans HCELL.out
   have HLT:=Lib.hid (typlit_any o (.slice A3 n3 c3) _ wr HR.out.read HDB.out)
   go_wp2_with (go_at_call 186; (with_reducible refine HLT.out.mono ?_); rintro e w' ⟨rfl,rfl⟩)
   go_ret
   exact ⟨ret_int HCM.out.symm,HBW.out⟩
theorem comeTyp_all (A:Option Addr) (n c:Nat) (l:List Tm) (hn:n = l.length) (hn62:n ≤ 70368744177664) (K:Nat):IHTyp A n c l K:=by
 induction K with
 | zero =>
   intro a w hK _ he
   obtain ⟨k,m,hk,_,h1,h2,h3⟩:=endA_nn he
   omega
 | succ K ih => exact fun a w hK h he => comeTyp_step A n c l K hn hn62 ih a w hK h he
theorem comeTyp_any (A:Option Addr) (n c:Nat) (l:List Tm) (hn:n = l.length) (hn62:n ≤ 70368744177664) (a:Nat) (w:World) (h:Tms w (.slice A n c) l) (he:0 ≤ endA l a) :
 Calls Tryz.prog 190 #[.slice A n c,.int .i64 a,.func (.func 186) #[] #[]] w (RetI w (come typF (l.drop a))):=comeTyp_all A n c l hn hn62 n a w (by omega) h he
end Go.Proofs.YtapnomdckglehaaGreat
namespace Go.Proofs.YtapnomdckglehaaGreat
open Go.RowKit TermSpec
set_option maxRecDepth 100000
end Go.Proofs.YtapnomdckglehaaGreat