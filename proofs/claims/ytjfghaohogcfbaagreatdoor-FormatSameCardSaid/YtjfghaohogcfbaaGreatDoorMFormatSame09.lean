/- ActReadSpec, TransSpec, SynSpec, joined. -/
import Derived.Test.YtjfghaohogcfbaaGreatDoorMFormatSame00
import Derived.Test.YtjfghaohogcfbaaGreatDoorMFormatSame08
import Derived.Test.YtjfghaohogcfbaaGreatDoorMFormatSame07
namespace Go.Proofs.YtjfghaohogcfbaaGreatDoor
namespace ActSpec
open CurSpec TermSpec EvalSpec NamesSpec ExprSpec
abbrev wAny:ByteArray:=⟨#[97,110,121]⟩
abbrev wSet:ByteArray:=⟨#[58,61]⟩
abbrev wCom:ByteArray:=⟨#[44]⟩
def rdE (c:Cur):Pa:=readP (c.L.length + 1) c
theorem fit_self (c:Cur):Fit (c.L.length + 1) c:=fun _ => Nat.lt_succ_self _
def oneR (c:Cur):Cur × Ac :=
 if isB c 1 wAny = true then (nameC (on c),⟨nameS (on c),true,[]⟩)
 else ((rdE (want (nameC c) 3 wSet)).1,⟨nameS c,false,(rdE (want (nameC c) 3 wSet)).2⟩)
def fullR (c:Cur) (out:List Ac):Cur:=if out.length = 8 then fail c 8 else c
def stepR (c:Cur) (out:List Ac):Cur × List Ac:=((oneR (fullR c out)).1,out ++ [(oneR (fullR c out)).2])
def goR:Nat → Cur → List Ac → Cur × List Ac
 | 0,c,out => (c,out)
 | f + 1,c,out => if isB (stepR c out).1 3 wCom = true then goR f (on (stepR c out).1) (stepR c out).2 else stepR c out
def allR (c:Cur) (out:List Ac):Cur × List Ac:=goR (c.L.length + 1) c out
def tailR (c:Cur) (out:List Ac):Cur × List Ac:=if isB c 3 wCom = true then allR (on c) out else (c,out)
def readA (c:Cur):Cur × List Ac:=if (allR c []).1.bad = 0 then allR c [] else ((allR c []).1,[])
theorem fail_L (c:Cur) (e:Int):(fail c e).L = c.L ∧ (c.bad ≠ 0 → (fail c e).bad ≠ 0) ∧ (e ≠ 0 → (fail c e).bad ≠ 0):=by
 unfold fail
 split
 ·rename_i h
  exact ⟨rfl,fun h' => absurd h.1 h',fun he => he⟩
 ·rename_i h
  exact ⟨rfl,id,fun he hb => h ⟨hb,he⟩⟩
theorem on_le (c:Cur):(on c).L.length ≤ c.L.length:=by rw [on_len]; omega
theorem nameC_le (c:Cur):(nameC c).L.length ≤ c.L.length ∧ (c.bad ≠ 0 → (nameC c).bad ≠ 0):=by
 unfold nameC
 split
 ·exact ⟨on_le c,fun h => by rw [(on_bad c).1]; exact h⟩
 ·rw [(fail_L c 2).1]; exact ⟨Nat.le_refl _,(fail_L c 2).2.1⟩
theorem want_le (c:Cur) (k:Int) (s:ByteArray):(want c k s).L.length ≤ c.L.length ∧ (c.bad ≠ 0 → (want c k s).bad ≠ 0):=by
 unfold want
 split
 ·exact ⟨on_le c,fun h => by rw [(on_bad c).1]; exact h⟩
 ·rw [(fail_L c 2).1]; exact ⟨Nat.le_refl _,(fail_L c 2).2.1⟩
theorem rdE_le (c:Cur):(rdE c).1.L.length ≤ c.L.length ∧ (c.bad ≠ 0 → (rdE c).1.bad ≠ 0):=by
 unfold rdE readP
 have h:=S_less (c.L.length + 1) c 1
 dsimp only
 split
 ·rw [(fail_L _ _).1]
  rename_i h0
  exact ⟨h.1,fun hc => absurd (h.2 h0) hc⟩
 ·rename_i h0
  exact ⟨h.1,fun _ => h0⟩
theorem oneR_le (c:Cur):(oneR c).1.L.length ≤ c.L.length ∧ (c.bad ≠ 0 → (oneR c).1.bad ≠ 0):=by
 unfold oneR
 split
 ·have h1:=nameC_le (on c)
  exact ⟨Nat.le_trans h1.1 (on_le c),fun h => h1.2 (by rw [(on_bad c).1]; exact h)⟩
 ·have h1:=rdE_le (want (nameC c) 3 wSet)
  have h2:=want_le (nameC c) 3 wSet
  have h3:=nameC_le c
  exact ⟨Nat.le_trans h1.1 (Nat.le_trans h2.1 h3.1),fun h => h1.2 (h2.2 (h3.2 h))⟩
theorem fullR_le (c:Cur) (out:List Ac):(fullR c out).L.length ≤ c.L.length ∧ (c.bad ≠ 0 → (fullR c out).bad ≠ 0) ∧ (out.length = 8 → (fullR c out).bad ≠ 0):=by
 unfold fullR
 split
 ·rw [(fail_L c 8).1]
  exact ⟨Nat.le_refl _,(fail_L c 8).2.1,fun _ => (fail_L c 8).2.2 (by decide)⟩
 ·rename_i h
  exact ⟨Nat.le_refl _,id,fun h' => absurd h' h⟩
theorem stepR_le (c:Cur) (out:List Ac):(stepR c out).1.L.length ≤ c.L.length ∧ (c.bad ≠ 0 → (stepR c out).1.bad ≠ 0) ∧ (out.length = 8 → (stepR c out).1.bad ≠ 0) ∧ (stepR c out).2.length = out.length + 1:=by
 have h1:=oneR_le (fullR c out)
 have h2:=fullR_le c out
 exact ⟨Nat.le_trans h1.1 h2.1,fun h => h1.2 (h2.2.1 h),fun h => h1.2 (h2.2.2 h),by simp [stepR]⟩
theorem goR_same:∀ (f g:Nat) (c:Cur) (out:List Ac),c.L.length < f → c.L.length < g → goR f c out = goR g c out
 | 0,_,_,_,h,_ => absurd h (by omega)
 | _ + 1,0,_,_,_,h => absurd h (by omega)
 | f + 1,g + 1,c,out,hf,hg => by
   unfold goR
   split
   ·rename_i hb
    have h1:=isB_real hb (by decide)
    have h2:=(stepR_le c out).1
    exact goR_same f g _ _ (by omega) (by omega)
   ·rfl
theorem allR_step (c:Cur) (out:List Ac):allR c out = tailR (stepR c out).1 (stepR c out).2:=by
 unfold allR tailR
 rw [goR]
 split
 ·rename_i hb
  have h1:=isB_real hb (by decide)
  have h2:=(stepR_le c out).1
  exact goR_same _ _ _ _ (by omega) (by omega)
 ·rfl
theorem tailR_yes {c:Cur} {out:List Ac} (h:isB c 3 wCom = true):tailR c out = tailR (stepR (on c) out).1 (stepR (on c) out).2:=by
 rw [← allR_step]
 unfold tailR
 rw [if_pos h]
theorem tailR_no {c:Cur} {out:List Ac} (h:¬ isB c 3 wCom = true):tailR c out = (c,out):=by unfold tailR; rw [if_neg h]
theorem readP_ok (f:Nat) {c:Cur} (h:Ok c):Ok (readP f c).1:=by
 unfold readP
 have:=ok_S f 1 h
 dsimp only
 split
 ·exact this.fail _
 ·exact this
theorem oneR_ok {c:Cur} (h:Ok c):Ok (oneR c).1:=by
 unfold oneR
 split
 ·exact h.on.nameC
 ·exact readP_ok _ (h.nameC.want _ _)
theorem fullR_ok {c:Cur} (out:List Ac) (h:Ok c):Ok (fullR c out):=by
 unfold fullR
 split
 ·exact h.fail _
 ·exact h
theorem stepR_ok {c:Cur} (out:List Ac) (h:Ok c):Ok (stepR c out).1:=oneR_ok (fullR_ok out h)
def Few9 (c:Cur) (out:List Ac):Prop:=out.length ≤ 9 ∧ (out.length = 9 → c.bad ≠ 0)
theorem few9_step {c:Cur} {out:List Ac} (h:Few9 c out) (hb:isB c 3 wCom = true):Few9 (stepR (on c) out).1 (stepR (on c) out).2:=by
 have h0:=(isB_real hb (by decide)).1
 have h1:=stepR_le (on c) out
 have h8:out.length ≤ 8:=by
  rcases Nat.lt_or_ge out.length 9 with h' | h'
  ·omega
  ·exact absurd h0 (h.2 (by have:=h.1; omega))
 exact ⟨by rw [h1.2.2.2]; omega,fun h9 => h1.2.2.1 (by rw [h1.2.2.2] at h9; omega)⟩
end ActSpec
end Go.Proofs.YtjfghaohogcfbaaGreatDoor
namespace Go.Proofs.YtjfghaohogcfbaaGreatDoor
namespace TransSpec
open CurSpec TermSpec EvalSpec NamesSpec ExprSpec ActSpec
structure Tr where
 ev:ByteArray
 g:List Tm
 acts:List Ac
 tg:ByteArray
abbrev zeroT:Tr:=⟨⟨#[]⟩,[],[],⟨#[]⟩⟩
def okN (s:ByteArray):Bool:=decide (s.size = 0) || isName s.data.toList
def chkT (t:Tr):Int:=if okN t.ev = false ∨ okN t.tg = false then 1 else if t.g.length ≠ 0 ∧ chk t.g ≠ 0 then chk t.g else chkA t.acts
abbrev wOn:ByteArray:=⟨#[111,110]⟩
abbrev wAuto:ByteArray:=⟨#[97,117,116,111]⟩
abbrev wBra:ByteArray:=⟨#[91]⟩
abbrev wKet:ByteArray:=⟨#[93]⟩
abbrev wDo:ByteArray:=⟨#[47]⟩
abbrev wTo:ByteArray:=⟨#[45,62]⟩
abbrev wEnd:ByteArray:=⟨#[59]⟩
def hdT (c:Cur):Cur × ByteArray:=if isB c 1 wAuto = true then (on c,⟨#[]⟩) else (nameC (want c 1 wOn),nameS (want c 1 wOn))
def guT (c:Cur):Cur × List Tm:=if isB c 3 wBra = true then (want (rdE (on c)).1 3 wKet,(rdE (on c)).2) else (c,[])
def acT (c:Cur):Cur × List Ac:=if isB c 3 wDo = true then readA (on c) else (c,[])
def tgT (c:Cur):Cur × ByteArray:=if isB c 3 wTo = true then (nameC (on c),nameS (on c)) else (c,⟨#[]⟩)
def seqT (c:Cur):Cur × Tr:=(want (tgT (acT (guT (hdT c).1).1).1).1 3 wEnd,⟨(hdT c).2,(guT (hdT c).1).2,(acT (guT (hdT c).1).1).2,(tgT (acT (guT (hdT c).1).1).1).2⟩)
def readT (c:Cur):Cur × Tr:=((seqT c).1,if (seqT c).1.bad = 0 then (seqT c).2 else zeroT)
theorem rdE_ok {c:Cur} (h:Ok c):Ok (rdE c).1:=readP_ok _ h
theorem goR_ok:∀ (f:Nat) {c:Cur} (out:List Ac),Ok c → Ok (goR f c out).1
 | 0,_,_,h => h
 | f + 1,c,out,h => by
   unfold goR
   split
   ·exact goR_ok f _ (stepR_ok out h).on
   ·exact stepR_ok out h
theorem readA_ok {c:Cur} (h:Ok c):Ok (readA c).1:=by
 unfold readA allR
 split <;> exact goR_ok _ _ h
theorem hdT_ok {c:Cur} (h:Ok c):Ok (hdT c).1:=by
 unfold hdT
 split
 ·exact h.on
 ·exact (h.want _ _).nameC
theorem guT_ok {c:Cur} (h:Ok c):Ok (guT c).1:=by
 unfold guT
 split
 ·exact (rdE_ok h.on).want _ _
 ·exact h
theorem acT_ok {c:Cur} (h:Ok c):Ok (acT c).1:=by
 unfold acT
 split
 ·exact readA_ok h.on
 ·exact h
theorem tgT_ok {c:Cur} (h:Ok c):Ok (tgT c).1:=by
 unfold tgT
 split
 ·exact h.on.nameC
 ·exact h
theorem readT_ok {c:Cur} (h:Ok c):Ok (readT c).1:=(tgT_ok (acT_ok (guT_ok (hdT_ok h)))).want _ _
theorem goR_le:∀ (f:Nat) (c:Cur) (out:List Ac),(goR f c out).1.L.length ≤ c.L.length ∧ (c.bad ≠ 0 → (goR f c out).1.bad ≠ 0)
 | 0,_,_ => ⟨Nat.le_refl _,id⟩
 | f + 1,c,out => by
   have h1:=stepR_le c out
   unfold goR
   split
   ·rename_i hb
    have h2:=goR_le f (on (stepR c out).1) (stepR c out).2
    exact ⟨Nat.le_trans h2.1 (Nat.le_trans (on_le _) h1.1),fun h => absurd (isB_real hb (by decide)).1 (h1.2.1 h)⟩
   ·exact ⟨h1.1,h1.2.1⟩
theorem readA_le (c:Cur):(readA c).1.L.length ≤ c.L.length ∧ (c.bad ≠ 0 → (readA c).1.bad ≠ 0):=by
 unfold readA allR
 split <;> exact goR_le _ _ _
theorem hdT_le (c:Cur):(hdT c).1.L.length ≤ c.L.length ∧ (c.bad ≠ 0 → (hdT c).1.bad ≠ 0):=by
 unfold hdT
 split
 ·exact ⟨on_le c,fun h => by rw [(on_bad c).1]; exact h⟩
 ·have h1:=nameC_le (want c 1 wOn)
  have h2:=want_le c 1 wOn
  exact ⟨Nat.le_trans h1.1 h2.1,fun h => h1.2 (h2.2 h)⟩
theorem guT_le (c:Cur):(guT c).1.L.length ≤ c.L.length ∧ (c.bad ≠ 0 → (guT c).1.bad ≠ 0):=by
 unfold guT
 split
 ·have h1:=want_le (rdE (on c)).1 3 wKet
  have h2:=rdE_le (on c)
  exact ⟨Nat.le_trans h1.1 (Nat.le_trans h2.1 (on_le c)),fun h => h1.2 (h2.2 (by rw [(on_bad c).1]; exact h))⟩
 ·exact ⟨Nat.le_refl _,id⟩
theorem acT_le (c:Cur):(acT c).1.L.length ≤ c.L.length ∧ (c.bad ≠ 0 → (acT c).1.bad ≠ 0):=by
 unfold acT
 split
 ·have h2:=readA_le (on c)
  exact ⟨Nat.le_trans h2.1 (on_le c),fun h => h2.2 (by rw [(on_bad c).1]; exact h)⟩
 ·exact ⟨Nat.le_refl _,id⟩
theorem tgT_le (c:Cur):(tgT c).1.L.length ≤ c.L.length ∧ (c.bad ≠ 0 → (tgT c).1.bad ≠ 0):=by
 unfold tgT
 split
 ·have h2:=nameC_le (on c)
  exact ⟨Nat.le_trans h2.1 (on_le c),fun h => h2.2 (by rw [(on_bad c).1]; exact h)⟩
 ·exact ⟨Nat.le_refl _,id⟩
theorem readT_le (c:Cur):(readT c).1.L.length ≤ c.L.length ∧ (c.bad ≠ 0 → (readT c).1.bad ≠ 0):=by
 have h1:=hdT_le c
 have h2:=guT_le (hdT c).1
 have h3:=acT_le (guT (hdT c).1).1
 have h4:=tgT_le (acT (guT (hdT c).1).1).1
 have h5:=want_le (tgT (acT (guT (hdT c).1).1).1).1 3 wEnd
 exact ⟨Nat.le_trans h5.1 (Nat.le_trans h4.1 (Nat.le_trans h3.1 (Nat.le_trans h2.1 h1.1))),fun h => h5.2 (h4.2 (h3.2 (h2.2 (h1.2 h))))⟩
structure Tt where
 ev:ByteArray
 g:Option Ex
 ts:List Ta
 tg:ByteArray
def gFlat:Option Ex → List Tm
 | none => []
 | some e => flat e
def Tt.tr (x:Tt):Tr:=⟨x.ev,gFlat x.g,x.ts.map Ta.ac,x.tg⟩
structure Tt.Ok (x:Tt):Prop where
 ev:okN x.ev = true
 tg:okN x.tg = true
 g:∀ e,x.g = some e → ExprSpec.Good e ∧ chk (flat e) = 0
 ts:∀ t ∈ x.ts,t.Ok
 few:x.ts.length ≤ 8
theorem flat_pos (e:Ex):(flat e).length ≠ 0:=by
 obtain ⟨t,r,h,-⟩:=flat_first e
 rw [h,List.length_cons]
 omega
theorem tt_chk {x:Tt} (h:x.Ok):chkT x.tr = 0:=by
 obtain ⟨ev,g,ts,tg⟩:=x
 obtain ⟨h1,h2,h3,h4,h5⟩:=h
 simp only at h1 h2 h3 h4 h5
 unfold chkT Tt.tr
 simp only
 rw [if_neg (by rw [h1,h2]; simp),if_neg ?_]
 ·unfold chkA
  rw [if_neg (by rw [List.length_map]; omega)]
  exact tas_first h4
 ·rintro ⟨h0,hg⟩
  cases g with
  | none => exact h0 rfl
  | some e => exact hg (h3 e rfl).2
def headB (x:Tt):ByteArray:=if x.ev.size = 0 then wAuto else ⟨#[111,110,32]⟩ ++ x.ev
def guardB:Option Ex → ByteArray
 | none => ⟨#[]⟩
 | some e => ⟨#[32,91]⟩ ++ tx e ++ ⟨#[93]⟩
def actsB (ts:List Ta):ByteArray:=if ts = [] then ⟨#[]⟩ else ⟨#[32,47,32]⟩ ++ putB ts
def tgB (s:ByteArray):ByteArray:=if s.size = 0 then ⟨#[]⟩ else ⟨#[32,45,62,32]⟩ ++ s
def txT (x:Tt):ByteArray:=headB x ++ guardB x.g ++ actsB x.ts ++ tgB x.tg ++ ⟨#[59]⟩
theorem okN_size {s:ByteArray} (h:okN s = true):s.size ≤ 12:=by
 unfold okN at h
 rw [Bool.or_eq_true,decide_eq_true_eq] at h
 rcases h with h | h
 ·omega
 ·exact name_size h
theorem ex_few {e:Ex} (h:chk (flat e) = 0):(flat e).length ≤ 40:=(wholeB_iff.1 (chk_ok h).1).1
theorem headB_size {x:Tt} (h:x.Ok):(headB x).size ≤ 20:=by
 have:=okN_size h.ev
 unfold headB
 split
 ·show 4 ≤ 20
  omega
 ·rw [ByteArray.size_append]
  show 3 + _ ≤ _
  omega
theorem guardB_size {g:Option Ex} (h:∀ e,g = some e → ExprSpec.Good e ∧ chk (flat e) = 0):(guardB g).size ≤ 1203:=by
 cases g with
 | none => show 0 ≤ _; omega
 | some e =>
   obtain ⟨h1,h2⟩:=h e rfl
   have h3:=tx_size h1
   have h4:=ex_few h2
   unfold guardB
   rw [ByteArray.size_append,ByteArray.size_append]
   show 2 + _ + 1 ≤ _
   omega
theorem actsB_size {ts:List Ta} (h:∀ t ∈ ts,t.Ok) (h8:ts.length ≤ 8):(actsB ts).size ≤ 10419:=by
 have:=putB_size h
 unfold actsB
 split
 ·show 0 ≤ _
  omega
 ·rw [ByteArray.size_append]
  show 3 + _ ≤ _
  omega
theorem tgB_size {s:ByteArray} (h:okN s = true):(tgB s).size ≤ 16:=by
 have:=okN_size h
 unfold tgB
 split
 ·show 0 ≤ _
  omega
 ·rw [ByteArray.size_append]
  show 4 + _ ≤ _
  omega
theorem txT_size {x:Tt} (h:x.Ok):(txT x).size ≤ 11659:=by
 have h1:=headB_size h
 have h2:=guardB_size h.g
 have h3:=actsB_size h.ts h.few
 have h4:=tgB_size h.tg
 unfold txT
 simp only [ByteArray.size_append]
 show _ + _ + _ + _ + 1 ≤ _
 omega
end TransSpec
end Go.Proofs.YtjfghaohogcfbaaGreatDoor
namespace Go.Proofs.YtjfghaohogcfbaaGreatDoor
namespace SynSpec
open CurSpec TermSpec EvalSpec NamesSpec ExprSpec ActSpec TransSpec
structure Sx where
 s:ByteArray
 kind:Int
 par:Int
 en:List Ac
 ex:List Ac
 tr:List Tr
structure Cx where
 s:ByteArray
 evs:List ByteArray
 vars:List Vr
 sts:List Sx
abbrev zeroC:Cx:=⟨⟨#[]⟩,[],[],[]⟩
def loopR {α:Type} (q:Cur → Bool) (st:Cur → List α → Cur × List α):Nat → Cur → List α → Cur × List α
 | 0,c,out => (c,out)
 | f + 1,c,out => if q c = true then loopR q st f (st c out).1 (st c out).2 else (c,out)
def loopT {α:Type} (q:Cur → Bool) (st:Cur → List α → Cur × List α) (c:Cur) (out:List α):Cur × List α:=loopR q st (c.L.length + 1) c out
structure Goes {α:Type} (q:Cur → Bool) (st:Cur → List α → Cur × List α):Prop where
 real:∀ {c},q c = true → c.bad = 0 ∧ 0 < c.L.length
 less:∀ {c} (out),q c = true → (st c out).1.L.length < c.L.length ∨ (st c out).1.bad ≠ 0
 le:∀ c out,(st c out).1.L.length ≤ c.L.length ∧ (c.bad ≠ 0 → (st c out).1.bad ≠ 0)
section
variable {α:Type} {q:Cur → Bool} {st:Cur → List α → Cur × List α}
theorem loopR_no {c:Cur} (out:List α) (f:Nat) (h:¬ q c = true):loopR q st f c out = (c,out):=by
 cases f with
 | zero => rfl
 | succ f => rw [loopR,if_neg h]
theorem loopR_same (G:Goes q st):∀ (f g:Nat) (c:Cur) (out:List α),c.L.length < f → c.L.length < g → loopR q st f c out = loopR q st g c out
 | 0,_,_,_,h,_ => absurd h (by omega)
 | _ + 1,0,_,_,_,h => absurd h (by omega)
 | f + 1,g + 1,c,out,hf,hg => by
   unfold loopR
   split
   ·rename_i hb
    rcases G.less out hb with h | h
    ·exact loopR_same G f g _ _ (by omega) (by omega)
    ·have h':¬ q (st c out).1 = true:=fun h' => h (G.real h').1
     rw [loopR_no _ _ h',loopR_no _ _ h']
   ·rfl
theorem loopT_yes (G:Goes q st) {c:Cur} {out:List α} (h:q c = true):loopT q st c out = loopT q st (st c out).1 (st c out).2:=by
 unfold loopT
 rw [loopR,if_pos h]
 rcases G.less out h with h1 | h1
 ·exact loopR_same G _ _ _ _ (by omega) (by omega)
 ·have h':¬ q (st c out).1 = true:=fun h' => h1 (G.real h').1
  rw [loopR_no _ _ h',loopR_no _ _ h']
theorem loopT_no {c:Cur} {out:List α} (h:¬ q c = true):loopT q st c out = (c,out):=loopR_no _ _ h
theorem loopR_ind (P:Cur → List α → Prop) (hp:∀ c out,q c = true → P c out → P (st c out).1 (st c out).2):∀ (f:Nat) (c:Cur) (out:List α),P c out → P (loopR q st f c out).1 (loopR q st f c out).2
 | 0,_,_,h => h
 | f + 1,c,out,h => by
   unfold loopR
   split
   ·rename_i hb
    exact loopR_ind P hp f _ _ (hp c out hb h)
   ·exact h
theorem loopT_ind (P:Cur → List α → Prop) (hp:∀ c out,q c = true → P c out → P (st c out).1 (st c out).2) {c:Cur} {out:List α} (h:P c out):P (loopT q st c out).1 (loopT q st c out).2:=loopR_ind P hp _ c out h
def left (c:Cur):Nat:=if c.bad = 0 then c.L.length + 1 else 0
theorem left_less (G:Goes q st) {c:Cur} (out:List α) (h:q c = true):left (st c out).1 < left c:=by
 have h0:=(G.real h).1
 unfold left
 rw [if_pos h0]
 split
 ·rename_i h1
  rcases G.less out h with h2 | h2
  ·omega
  ·exact absurd h1 h2
 ·omega
end
abbrev wChart:ByteArray:=⟨#[99,104,97,114,116]⟩
abbrev wEvent:ByteArray:=⟨#[101,118,101,110,116]⟩
abbrev wVar:ByteArray:=⟨#[118,97,114]⟩
abbrev wLeaf:ByteArray:=⟨#[108,101,97,102]⟩
abbrev wOr:ByteArray:=⟨#[111,114]⟩
abbrev wAnd:ByteArray:=⟨#[97,110,100]⟩
abbrev wEnter:ByteArray:=⟨#[101,110,116,101,114]⟩
abbrev wExit:ByteArray:=⟨#[101,120,105,116]⟩
abbrev wOpen:ByteArray:=⟨#[123]⟩
abbrev wShut:ByteArray:=⟨#[125]⟩
abbrev wMin:ByteArray:=⟨#[45]⟩
abbrev wDots:ByteArray:=⟨#[46,46]⟩
abbrev wIs:ByteArray:=⟨#[61]⟩
def fullE (c:Cur) (out:List ByteArray):Cur:=if out.length = 8 ∧ nameB c = true then fail c 8 else c
def qE (c:Cur):Bool:=isB c 3 wCom
def stE (c:Cur) (out:List ByteArray):Cur × List ByteArray:=(nameC (fullE (on c) out),out ++ [nameS (fullE (on c) out)])
def evR (c:Cur):Cur × List ByteArray :=
 if isB c 1 wEvent = true then (want (loopT qE stE (nameC (on c)) [nameS (on c)]).1 3 wEnd,(loopT qE stE (nameC (on c)) [nameS (on c)]).2) else (c,[])
def intR (c:Cur):Cur × Int:=if isB c 3 wMin = true then (numC (on c) 1000,- numN (on c) 1000) else (numC c 1000,numN c 1000)
def varR (c:Cur):Cur × Vr :=
 (want (intR (want (intR (want (intR (nameC (want c 1 wVar))).1 3 wDots)).1 3 wIs)).1 3 wEnd,
  ⟨nameS (want c 1 wVar),(intR (nameC (want c 1 wVar))).2,(intR (want (intR (nameC (want c 1 wVar))).1 3 wDots)).2,(intR (want (intR (want (intR (nameC (want c 1 wVar))).1 3 wDots)).1 3 wIs)).2⟩)
def fullO {α:Type} (n:Nat) (c:Cur) (out:List α):Cur:=if out.length = n then fail c 8 else c
def qV (c:Cur):Bool:=isB c 1 wVar
def stV (c:Cur) (out:List Vr):Cur × List Vr:=((varR (fullO 4 c out)).1,out ++ [(varR (fullO 4 c out)).2])
def vaR (c:Cur):Cur × List Vr:=loopT qV stV c []
def acX (c:Cur) (w:ByteArray):Cur × List Ac:=if isB c 1 w = true then (want (readA (on c)).1 3 wEnd,(readA (on c)).2) else (c,[])
def qT (c:Cur):Bool:=isB c 1 wOn || isB c 1 wAuto
def stT (c:Cur) (out:List Tr):Cur × List Tr:=((readT (fullO 16 c out)).1,out ++ [(readT (fullO 16 c out)).2])
def trX (c:Cur):Cur × List Tr:=loopT qT stT c []
def kdR (c:Cur):Cur × Int:=if isB c 1 wLeaf = true then (on c,1) else if isB c 1 wOr = true then (on c,2) else (want c 1 wAnd,3)
def headR (c:Cur) (par:Int):Cur × Sx:=(nameC (kdR c).1,⟨nameS (kdR c).1,(kdR c).2,par,[],[],[]⟩)
def qS (c:Cur):Bool:=isB c 1 wLeaf || (isB c 1 wOr || isB c 1 wAnd)
def insR (c:Cur):Cur × (List Ac × List Ac × List Tr) :=
 ((trX (acX (acX (want c 3 wOpen) wEnter).1 wExit).1).1,(acX (want c 3 wOpen) wEnter).2,(acX (acX (want c 3 wOpen) wEnter).1 wExit).2,(trX (acX (acX (want c 3 wOpen) wEnter).1 wExit).1).2)
def setI (s:Sx) (i:List Ac × List Ac × List Tr):Sx:=⟨s.s,s.kind,s.par,i.1,i.2.1,i.2.2⟩
def bodyS (kids:Cur → Cur × List Sx) (par:Int) (c:Cur):Cur × List Sx :=
 if isB (headR c par).1 3 wEnd = true then (on (headR c par).1,[(headR c par).2])
 else if (headR c par).2.kind = 1 then (want (insR (headR c par).1).1 3 wShut,[setI (headR c par).2 (insR (headR c par).1).2])
 else (want (kids (insR (headR c par).1).1).1 3 wShut,setI (headR c par).2 (insR (headR c par).1).2 :: (kids (insR (headR c par).1).1).2)
def room (many deep:Int):Int:=if many = 60 then 8 else if 12 < deep then 6 else 0
def stS (rd:Nat → Int → Cur → Cur × List Sx) (k n:Nat) (c:Cur) (out:List Sx):Cur × List Sx :=
 ((rd (n + 1 + out.length) n (fail c (room (n + 1 + out.length:Nat) (13 - k)))).1,out ++ (rd (n + 1 + out.length) n (fail c (room (n + 1 + out.length:Nat) (13 - k)))).2)
def kidsR (rd:Nat → Int → Cur → Cur × List Sx) (k n:Nat) (c:Cur):Cur × List Sx:=loopT qS (stS rd k n) c []
def stR:Nat → Nat → Int → Cur → Cur × List Sx
 | 0,_,par,c => bodyS (fun d => (d,[])) par c
 | k + 1,n,par,c => bodyS (kidsR (stR k) k n) par c
def seqC (c:Cur):Cur × Cx :=
 (want (stR 12 0 (-1) (vaR (evR (want (nameC (want c 1 wChart)) 3 wOpen)).1).1).1 3 wShut,
  ⟨nameS (want c 1 wChart),(evR (want (nameC (want c 1 wChart)) 3 wOpen)).2,(vaR (evR (want (nameC (want c 1 wChart)) 3 wOpen)).1).2,(stR 12 0 (-1) (vaR (evR (want (nameC (want c 1 wChart)) 3 wOpen)).1).1).2⟩)
def readC (c:Cur):Cur × Cx:=((seqC c).1,if (seqC c).1.bad = 0 then (seqC c).2 else zeroC)
structure To (c d:Cur):Prop where
 len:d.L.length ≤ c.L.length
 bad:c.bad ≠ 0 → d.bad ≠ 0
 ok:Ok c → Ok d
theorem To.refl (c:Cur):To c c:=⟨Nat.le_refl _,id,id⟩
theorem To.trans {a b c:Cur} (h:To a b) (g:To b c):To a c:=⟨Nat.le_trans g.len h.len,fun h' => g.bad (h.bad h'),fun h' => g.ok (h.ok h')⟩
theorem to_on (c:Cur):To c (on c):=⟨on_le c,fun h => by rw [(on_bad c).1]; exact h,fun h => h.on⟩
theorem to_fail (c:Cur) (e:Int):To c (fail c e):=⟨by rw [(fail_L c e).1]; exact Nat.le_refl _,(fail_L c e).2.1,fun h => h.fail e⟩
theorem to_want (c:Cur) (k:Int) (s:ByteArray):To c (want c k s):=⟨(want_le c k s).1,(want_le c k s).2,fun h => h.want k s⟩
theorem to_nameC (c:Cur):To c (nameC c):=⟨(nameC_le c).1,(nameC_le c).2,fun h => h.nameC⟩
theorem to_numC (c:Cur) (m:Int):To c (numC c m):=by
 unfold numC
 split
 ·exact to_on c
 ·exact to_fail c _
theorem to_readA (c:Cur):To c (readA c).1:=⟨(readA_le c).1,(readA_le c).2,fun h => readA_ok h⟩
theorem to_readT (c:Cur):To c (readT c).1:=⟨(readT_le c).1,(readT_le c).2,fun h => readT_ok h⟩
theorem to_loop {α:Type} {q:Cur → Bool} {st:Cur → List α → Cur × List α} (hs:∀ d out,To d (st d out).1) (c:Cur) (out:List α):To c (loopT q st c out).1 :=
 loopT_ind (q:=q) (st:=st) (fun d _ => To c d) (fun d o _ h => h.trans (hs d o)) (To.refl c)
theorem to_fullE (c:Cur) (out:List ByteArray):To c (fullE c out):=by
 unfold fullE
 split
 ·exact to_fail c 8
 ·exact To.refl c
theorem to_fullO {α:Type} (n:Nat) (c:Cur) (out:List α):To c (fullO n c out):=by
 unfold fullO
 split
 ·exact to_fail c 8
 ·exact To.refl c
theorem to_stE (c:Cur) (out:List ByteArray):To c (stE c out).1:=(to_on c).trans ((to_fullE _ _).trans (to_nameC _))
theorem to_evR (c:Cur):To c (evR c).1:=by
 unfold evR
 split
 ·exact (to_on c).trans ((to_nameC _).trans ((to_loop to_stE _ _).trans (to_want _ _ _)))
 ·exact To.refl c
theorem to_intR (c:Cur):To c (intR c).1:=by
 unfold intR
 split
 ·exact (to_on c).trans (to_numC _ _)
 ·exact to_numC _ _
theorem to_varR' (c:Cur):To (want c 1 wVar) (varR c).1 :=
 (to_nameC _).trans ((to_intR _).trans ((to_want _ _ _).trans ((to_intR _).trans ((to_want _ _ _).trans ((to_intR _).trans (to_want _ _ _))))))
theorem to_varR (c:Cur):To c (varR c).1:=(to_want _ _ _).trans (to_varR' c)
theorem to_stV (c:Cur) (out:List Vr):To c (stV c out).1:=(to_fullO 4 c out).trans (to_varR _)
theorem to_vaR (c:Cur):To c (vaR c).1:=to_loop to_stV c []
theorem to_acX (c:Cur) (w:ByteArray):To c (acX c w).1:=by
 unfold acX
 split
 ·exact (to_on c).trans ((to_readA _).trans (to_want _ _ _))
 ·exact To.refl c
theorem to_stT (c:Cur) (out:List Tr):To c (stT c out).1:=(to_fullO 16 c out).trans (to_readT _)
theorem to_trX (c:Cur):To c (trX c).1:=to_loop to_stT c []
theorem to_kdR (c:Cur):To c (kdR c).1:=by
 unfold kdR
 split
 ·exact to_on c
 ·split
  ·exact to_on c
  ·exact to_want _ _ _
theorem to_headR (c:Cur) (par:Int):To (kdR c).1 (headR c par).1:=to_nameC _
theorem to_insR (c:Cur):To c (insR c).1:=(to_want _ _ _).trans ((to_acX _ _).trans ((to_acX _ _).trans (to_trX _)))
theorem to_bodyS' {kids:Cur → Cur × List Sx} (hk:∀ d,To d (kids d).1) (par:Int) (c:Cur):To (kdR c).1 (bodyS kids par c).1:=by
 unfold bodyS
 split
 ·exact (to_headR c par).trans (to_on _)
 ·split
  ·exact (to_headR c par).trans ((to_insR _).trans (to_want _ _ _))
  ·exact (to_headR c par).trans ((to_insR _).trans ((hk _).trans (to_want _ _ _)))
theorem to_stS {rd:Nat → Int → Cur → Cur × List Sx} (hr:∀ n par d,To d (rd n par d).1) (k n:Nat) (c:Cur) (out:List Sx):To c (stS rd k n c out).1:=(to_fail _ _).trans (hr _ _ _)
theorem to_stR':∀ (k n:Nat) (par:Int) (c:Cur),To (kdR c).1 (stR k n par c).1
 | 0,_,par,c => to_bodyS' (fun d => To.refl d) par c
 | k + 1,n,par,c => to_bodyS' (fun d => to_loop (to_stS (fun n' par' d' => (to_kdR d').trans (to_stR' k n' par' d')) k n) d []) par c
theorem to_stR (k n:Nat) (par:Int) (c:Cur):To c (stR k n par c).1:=(to_kdR c).trans (to_stR' k n par c)
theorem fail_bad (c:Cur) {e:Int} (he:e ≠ 0):(fail c e).bad ≠ 0:=(fail_L c e).2.2 he
theorem want_yes {c:Cur} {k:Int} {s:ByteArray} (h:isB c k s = true):want c k s = on c:=by unfold want; rw [if_pos h]
theorem word_real {c:Cur} {s:ByteArray} (h:isB c 1 s = true):c.bad = 0 ∧ 0 < c.L.length ∧ (on c).L.length < c.L.length:=by
 obtain ⟨h1,h2,-⟩:=isB_real h (by decide)
 exact ⟨h1,by omega,by omega⟩
theorem goes_E:Goes qE stE where
 real:=fun {c} h => by obtain ⟨h1,h2,-⟩:=isB_real h (by decide); exact ⟨h1,by omega⟩
 less:=fun {c} out h => by
  obtain ⟨h1,h2,-⟩:=isB_real h (by decide)
  have h3:=((to_fullE (on c) out).trans (to_nameC _)).len
  exact .inl (by show (nameC (fullE (on c) out)).L.length < _; omega)
 le:=fun c out => ⟨(to_stE c out).len,(to_stE c out).bad⟩
theorem goes_V:Goes qV stV where
 real:=fun {c} h => ⟨(word_real h).1,(word_real h).2.1⟩
 less:=fun {c} out h => by
  by_cases h4:out.length = 4
  ·exact .inr ((to_varR _).bad (by unfold fullO; rw [if_pos h4]; exact fail_bad c (by decide)))
  ·refine .inl ?_
   have h2:=(to_varR' c).len
   rw [want_yes h] at h2
   show (varR (fullO 4 c out)).1.L.length < _
   unfold fullO
   rw [if_neg h4]
   have:=(word_real h).2.2
   omega
 le:=fun c out => ⟨(to_stV c out).len,(to_stV c out).bad⟩
theorem to_readT' {c:Cur} (h:qT c = true):(readT c).1.L.length < c.L.length:=by
 have h1:(hdT c).1.L.length < c.L.length:=by
  unfold hdT
  split
  ·rename_i ha
   exact (word_real ha).2.2
  ·rename_i ha
   have ho:isB c 1 wOn = true:=by unfold qT at h; simpa [ha] using h
   rw [want_yes ho]
   exact Nat.lt_of_le_of_lt (to_nameC _).len (word_real ho).2.2
 have h2:=guT_le (hdT c).1
 have h3:=acT_le (guT (hdT c).1).1
 have h4:=tgT_le (acT (guT (hdT c).1).1).1
 have h5:=want_le (tgT (acT (guT (hdT c).1).1).1).1 3 wEnd
 exact Nat.lt_of_le_of_lt (Nat.le_trans h5.1 (Nat.le_trans h4.1 (Nat.le_trans h3.1 h2.1))) h1
theorem goes_T:Goes qT stT where
 real:=fun {c} h => by
  unfold qT at h
  rw [Bool.or_eq_true] at h
  rcases h with h | h <;> exact ⟨(word_real h).1,(word_real h).2.1⟩
 less:=fun {c} out h => by
  by_cases h4:out.length = 16
  ·exact .inr ((to_readT _).bad (by unfold fullO; rw [if_pos h4]; exact fail_bad c (by decide)))
  ·refine .inl ?_
   show (readT (fullO 16 c out)).1.L.length < _
   unfold fullO
   rw [if_neg h4]
   exact to_readT' h
 le:=fun c out => ⟨(to_stT c out).len,(to_stT c out).bad⟩
theorem qS_real {c:Cur} (h:qS c = true):c.bad = 0 ∧ 0 < c.L.length ∧ (kdR c).1 = on c ∧ (on c).L.length < c.L.length:=by
 have h':isB c 1 wLeaf = true ∨ isB c 1 wOr = true ∨ isB c 1 wAnd = true:=by unfold qS at h; rw [Bool.or_eq_true,Bool.or_eq_true] at h; exact h
 have hr:c.bad = 0 ∧ 0 < c.L.length ∧ (on c).L.length < c.L.length:=by rcases h' with h | h | h <;> exact word_real h
 refine ⟨hr.1,hr.2.1,?_,hr.2.2⟩
 unfold kdR
 split
 ·rfl
 ·split
  ·rfl
  ·rename_i h1 h2
   rcases h' with h | h | h
   ·exact absurd h h1
   ·exact absurd h h2
   ·exact want_yes h
theorem goes_S (k n:Nat):Goes qS (stS (stR k) k n) where
 real:=fun {c} h => ⟨(qS_real h).1,(qS_real h).2.1⟩
 less:=fun {c} out h => by
  by_cases h0:room (n + 1 + out.length:Nat) (13 - k) = 0
  ·refine .inl ?_
   show (stR k (n + 1 + out.length) n (fail c (room (n + 1 + out.length:Nat) (13 - k)))).1.L.length < _
   rw [h0,fail_zero]
   have h1:=(to_stR' k (n + 1 + out.length) n c).len
   rw [(qS_real h).2.2.1] at h1
   have:=(qS_real h).2.2.2
   omega
  ·exact .inr ((to_stR _ _ _ _).bad (fail_bad c h0))
 le:=fun c out => ⟨(to_stS (to_stR k) k n c out).len,(to_stS (to_stR k) k n c out).bad⟩
def Few {α:Type} (n:Nat) (c:Cur) (out:List α):Prop:=out.length ≤ n + 1 ∧ (out.length = n + 1 → c.bad ≠ 0)
theorem few_E {c:Cur} {out:List ByteArray} (h:qE c = true) (hf:Few 8 c out):Few 8 (stE c out).1 (stE c out).2:=by
 have h0:=(isB_real h (by decide)).1
 have h8:out.length ≤ 8:=by
  rcases Nat.lt_or_ge out.length 9 with h' | h'
  ·omega
  ·exact absurd h0 (hf.2 (by have:=hf.1; omega))
 refine ⟨by simp [stE]; omega,fun h9 => ?_⟩
 have h9':out.length = 8:=by simp [stE] at h9; omega
 show (nameC (fullE (on c) out)).bad ≠ 0
 unfold fullE
 by_cases hn:nameB (on c) = true
 ·rw [if_pos ⟨h9',hn⟩]
  exact (to_nameC _).bad (fail_bad _ (by decide))
 ·rw [if_neg (fun h' => hn h'.2)]
  unfold nameC
  rw [if_neg hn]
  exact fail_bad _ (by decide)
theorem few_O {α:Type} {n:Nat} {c:Cur} {out:List α} {d:Cur} {x:α} (h0:c.bad = 0) (hf:Few n c out) (hd:To (fullO n c out) d):Few n d (out ++ [x]):=by
 have h8:out.length ≤ n:=by
  rcases Nat.lt_or_ge out.length (n + 1) with h' | h'
  ·omega
  ·exact absurd h0 (hf.2 (by have:=hf.1; omega))
 refine ⟨by simp; omega,fun h9 => ?_⟩
 have h9':out.length = n:=by simp at h9; omega
 refine hd.bad ?_
 unfold fullO
 rw [if_pos h9']
 exact fail_bad _ (by decide)
theorem few_V {c:Cur} {out:List Vr} (h:qV c = true) (hf:Few 4 c out):Few 4 (stV c out).1 (stV c out).2:=few_O (word_real h).1 hf (to_varR _)
theorem few_T {c:Cur} {out:List Tr} (h:qT c = true) (hf:Few 16 c out):Few 16 (stT c out).1 (stT c out).2:=few_O (goes_T.real h).1 hf (to_readT _)
def FewS (n:Nat) (c:Cur) (out:List Sx):Prop:=n + out.length ≤ 61 ∧ (n + out.length = 61 → c.bad ≠ 0)
theorem FewS.to {n:Nat} {c d:Cur} {out:List Sx} (h:FewS n c out) (t:To c d):FewS n d out:=⟨h.1,fun h' => t.bad (h.2 h')⟩
def StartS (n:Nat) (c:Cur):Prop:=n ≤ 60 ∧ (n = 60 → c.bad ≠ 0)
theorem StartS.to {n:Nat} {c d:Cur} (h:StartS n c) (t:To c d):StartS n d:=⟨h.1,fun h' => t.bad (h.2 h')⟩
theorem StartS.few {n:Nat} {c:Cur} (h:StartS n c):FewS (n + 1) c []:=⟨by have:=h.1; simp; omega,fun h' => h.2 (by simp at h'; omega)⟩
theorem few_body {kids:Cur → Cur × List Sx} (n:Nat) (ht:∀ d,To d (kids d).1) (hk:∀ d,FewS (n + 1) d [] → FewS (n + 1) (kids d).1 (kids d).2) (par:Int) (c:Cur) (h:StartS n c):FewS n (bodyS kids par c).1 (bodyS kids par c).2:=by
 have hb:=(to_kdR c).trans (to_bodyS' ht par c)
 have hone:∀ s:Sx,FewS n (bodyS kids par c).1 [s]:=fun s => ⟨by have:=h.1; simp; omega,fun h' => hb.bad (h.2 (by simp at h'; omega))⟩
 unfold bodyS at hone ⊢
 split at hone
 ·rename_i h1
  rw [if_pos h1]
  exact hone _
 ·rename_i h1
  rw [if_neg h1]
  split at hone
  ·rename_i h2
   rw [if_pos h2]
   exact hone _
  ·rename_i h2
   rw [if_neg h2]
   have h3:=(hk _ (h.few.to ((to_kdR c).trans ((to_headR c par).trans (to_insR _))))).to (to_want _ 3 wShut)
   exact ⟨by have:=h3.1; simp at this ⊢; omega,fun h' => h3.2 (by simp at h' ⊢; omega)⟩
theorem few_stS {rd:Nat → Int → Cur → Cur × List Sx} {k n:Nat} (hr:∀ m par d,StartS m d → FewS m (rd m par d).1 (rd m par d).2) {c:Cur} {out:List Sx} (h:qS c = true) (hf:FewS (n + 1) c out) :
 StartS (n + 1 + out.length) (fail c (room (n + 1 + out.length:Nat) (13 - k))) ∧ FewS (n + 1) (stS rd k n c out).1 (stS rd k n c out).2:=by
 have h0:=(qS_real h).1
 have h60:n + 1 + out.length ≤ 60:=by
  rcases Nat.lt_or_ge (n + 1 + out.length) 61 with h' | h'
  ·omega
  ·exact absurd h0 (hf.2 (by have:=hf.1; omega))
 have hst:StartS (n + 1 + out.length) (fail c (room (n + 1 + out.length:Nat) (13 - k))):=⟨h60,fun h' => fail_bad c (by unfold room; rw [if_pos (by rw [h']; rfl)]; decide)⟩
 have h1:=hr _ n _ hst
 exact ⟨hst,by have:=h1.1; simp only [stS,List.length_append]; omega,fun h' => h1.2 (by simp only [stS,List.length_append] at h'; omega)⟩
theorem few_stR:∀ (k n:Nat) (par:Int) (c:Cur),StartS n c → FewS n (stR k n par c).1 (stR k n par c).2
 | 0,n,par,c,h => few_body n (fun d => To.refl d) (fun _ h => h) par c h
 | k + 1,n,par,c,h => few_body n (fun d => to_loop (to_stS (to_stR k) k n) d []) (fun _d hd => loopT_ind (q:=qS) (st:=stS (stR k) k n) (FewS (n + 1)) (fun _c' _o hq ho => (few_stS (few_stR k) hq ho).2) hd) par c h
end SynSpec
end Go.Proofs.YtjfghaohogcfbaaGreatDoor