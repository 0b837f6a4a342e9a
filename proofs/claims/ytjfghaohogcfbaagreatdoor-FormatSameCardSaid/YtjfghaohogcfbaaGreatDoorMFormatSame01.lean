/- CurSpec, ExprSpec, ExprLevel, ExprTree, ExprReads, KitN, joined. -/
import Derived.Test.YtjfghaohogcfbaaGreatDoorMFormatSame00
namespace Go.Proofs.YtjfghaohogcfbaaGreatDoor.CurSpec
open NamesSpec ValSpec
structure Tk where
 k:Int
 t:ByteArray
 l:Int
 c:Int
def tz:Tk:=⟨0,⟨#[]⟩,0,0⟩
structure Cur where
 L:List Tk
 w1:Int
 w2:Int
 a1:Int
 a2:Int
 bad:Int
def next (c:Cur):Tk:=if c.bad = 0 then (match c.L with | [] => ⟨0,⟨#[]⟩,c.w1,c.w2⟩ | t :: _ => t) else tz
def on (c:Cur):Cur:=match c.L with | [] => c | t :: r => ⟨r,t.l,t.c,c.a1,c.a2,c.bad⟩
def fail (c:Cur) (e:Int):Cur:=if c.bad = 0 ∧ e ≠ 0 then ⟨c.L,c.w1,c.w2,(next c).l,(next c).c,e⟩ else c
def isB (c:Cur) (k:Int) (s:ByteArray):Bool:=decide (c.bad = 0) && (decide ((next c).k = k) && decide ((next c).t = s))
def take (c:Cur) (k:Int) (s:ByteArray):Cur:=if isB c k s then on c else c
def want (c:Cur) (k:Int) (s:ByteArray):Cur:=if isB c k s then on c else fail c 2
def nameB (c:Cur):Bool:=decide (c.bad = 0) && (decide ((next c).k = 1) && isName (next c).t.data.toList)
def nameC (c:Cur):Cur:=if nameB c then on c else fail c 2
def nameS (c:Cur):ByteArray:=if nameB c then (next c).t else ⟨#[]⟩
def numE (c:Cur) (m:Int):Int:=if c.bad = 0 ∧ (next c).k = 2 then (if getE (next c).t.data.toList = 0 then (if m < getN (next c).t.data.toList then 3 else 0) else getE (next c).t.data.toList) else 2
def numC (c:Cur) (m:Int):Cur:=if numE c m = 0 then on c else fail c (numE c m)
def numN (c:Cur) (m:Int):Int:=if numE c m = 0 then getN (next c).t.data.toList else 0
def full:List Tk → Int → Int → List Tk
 | [],a,b => [⟨0,⟨#[]⟩,a,b⟩]
 | t :: r,_,_ => t :: full r t.l t.c
theorem full_length:∀ (L:List Tk) (a b:Int),(full L a b).length = L.length + 1
 | [],_,_ => rfl
 | _ :: r,_,_ => by rw [full,List.length_cons,full_length r,List.length_cons]
theorem on_nil {c:Cur} (h:c.L.length = 0):on c = c:=by
 unfold on
 rw [List.eq_nil_of_length_eq_zero h]
theorem on_full {c:Cur} (h:0 < c.L.length):full c.L c.w1 c.w2 = (full c.L c.w1 c.w2).headD tz :: full (on c).L (on c).w1 (on c).w2:=by
 obtain ⟨L,w1,w2,a1,a2,bad⟩:=c
 cases L with
 | nil => simp at h
 | cons t r => rfl
theorem on_bad (c:Cur):(on c).bad = c.bad ∧ (on c).a1 = c.a1 ∧ (on c).a2 = c.a2:=by
 unfold on
 split <;> exact ⟨rfl,rfl,rfl⟩
theorem on_len (c:Cur):(on c).L.length = c.L.length - 1:=by
 unfold on
 split
 ·rename_i h; rw [h]; rfl
 ·rename_i h; rw [h]; rfl
theorem fail_yes {c:Cur} {e:Int} (h:c.bad = 0) (he:e ≠ 0):fail c e = ⟨c.L,c.w1,c.w2,(next c).l,(next c).c,e⟩:=if_pos ⟨h,he⟩
theorem fail_zero (c:Cur):fail c 0 = c:=if_neg (fun h => h.2 rfl)
theorem fail_dead {c:Cur} (e:Int) (h:c.bad ≠ 0):fail c e = c:=if_neg (fun h' => h h'.1)
theorem isB_dead {c:Cur} (k:Int) (s:ByteArray) (h:c.bad ≠ 0):isB c k s = false:=by simp [isB,h]
theorem next_dead {c:Cur} (h:c.bad ≠ 0):next c = tz:=if_neg h
theorem nameB_dead {c:Cur} (h:c.bad ≠ 0):nameB c = false:=by simp [nameB,h]
def Ok (c:Cur):Prop:=∀ t ∈ c.L,t.t.size ≤ 9223372036854775807
theorem Ok.next {c:Cur} (h:Ok c):(next c).t.size ≤ 9223372036854775807:=by
 obtain ⟨L,w1,w2,a1,a2,bad⟩:=c
 unfold CurSpec.next
 split
 ·cases L with
  | nil => exact (by decide:(⟨#[]⟩:ByteArray).size ≤ 9223372036854775807)
  | cons t r => exact h t (by simp)
 ·exact (by decide:(⟨#[]⟩:ByteArray).size ≤ 9223372036854775807)
theorem Ok.on {c:Cur} (h:Ok c):Ok (on c):=by
 obtain ⟨L,w1,w2,a1,a2,bad⟩:=c
 cases L with
 | nil => exact h
 | cons t r => exact fun x hx => h x (by simp [CurSpec.on] at hx ⊢; exact .inr hx)
theorem Ok.fail {c:Cur} (h:Ok c) (e:Int):Ok (fail c e):=by
 unfold CurSpec.fail
 split
 ·exact h
 ·exact h
theorem Ok.take {c:Cur} (h:Ok c) (k:Int) (s:ByteArray):Ok (take c k s):=by
 unfold CurSpec.take
 split
 ·exact h.on
 ·exact h
theorem Ok.want {c:Cur} (h:Ok c) (k:Int) (s:ByteArray):Ok (want c k s):=by
 unfold CurSpec.want
 split
 ·exact h.on
 ·exact h.fail 2
theorem Ok.nameC {c:Cur} (h:Ok c):Ok (nameC c):=by
 unfold CurSpec.nameC
 split
 ·exact h.on
 ·exact h.fail 2
theorem Ok.numC {c:Cur} (h:Ok c) (m:Int):Ok (numC c m):=by
 unfold CurSpec.numC
 split
 ·exact h.on
 ·exact h.fail _
end Go.Proofs.YtjfghaohogcfbaaGreatDoor.CurSpec
namespace Go.Proofs.YtjfghaohogcfbaaGreatDoor
namespace ExprSpec
open CurSpec TermSpec
structure Sg where
 t:ByteArray
 op:Int
 lev:Int
 left:Int
 right:Int
def sgs:List Sg:=[⟨⟨#[111,114]⟩,20,1,1,2⟩,⟨⟨#[97,110,100]⟩,19,2,2,3⟩,⟨⟨#[61,61]⟩,13,4,5,5⟩,⟨⟨#[33,61]⟩,14,4,5,5⟩,⟨⟨#[60]⟩,15,4,5,5⟩,⟨⟨#[60,61]⟩,16,4,5,5⟩,⟨⟨#[62]⟩,17,4,5,5⟩,⟨⟨#[62,61]⟩,18,4,5,5⟩,⟨⟨#[43]⟩,4,5,5,6⟩,⟨⟨#[45]⟩,5,5,5,6⟩,⟨⟨#[42]⟩,6,6,6,7⟩]
def look (t:ByteArray):Option Sg:=sgs.find? fun s => decide (s.t = t)
def fits (lev k:Int) (s:Sg):Bool:=decide (s.left ≤ lev) && decide (k ≤ s.lev)
def sgn (c:Cur) (lev k:Int):Option Sg:=if (next c).k = 3 ∨ (next c).k = 1 then (look (next c).t).filter (fits lev k) else none
abbrev tNot:ByteArray:=⟨#[110,111,116]⟩
abbrev tNeg:ByteArray:=⟨#[45]⟩
abbrev tTrue:ByteArray:=⟨#[116,114,117,101]⟩
abbrev tFalse:ByteArray:=⟨#[102,97,108,115,101]⟩
abbrev tIn:ByteArray:=⟨#[105,110]⟩
abbrev tMin:ByteArray:=⟨#[109,105,110]⟩
abbrev tMax:ByteArray:=⟨#[109,97,120]⟩
abbrev tOpen:ByteArray:=⟨#[40]⟩
abbrev tClose:ByteArray:=⟨#[41]⟩
abbrev tComma:ByteArray:=⟨#[44]⟩
def opT (o:Int):Tm:=⟨o,0,⟨#[]⟩⟩
abbrev Pa:=Cur × List Tm
section
variable (rec:Cur → Int → Pa)
def two (c:Cur) (o:Int):Pa :=
 let p:=rec (want c 3 tOpen) 1
 let q:=rec (want p.1 3 tComma) 1
 (want q.1 3 tClose,opT o :: (p.2 ++ q.2))
def atom (c:Cur):Pa :=
 if (next c).k = 2 then (numC c 1000000,[⟨1,numN c 1000000,⟨#[]⟩⟩])
 else if isB c 1 tTrue then (on c,[opT 9])
 else if isB c 1 tFalse then (on c,[opT 10])
 else if isB c 1 tIn then (want (nameC (want (on c) 3 tOpen)) 3 tClose,[⟨11,0,nameS (want (on c) 3 tOpen)⟩])
 else if isB c 1 tMin then two rec (on c) 7
 else if isB c 1 tMax then two rec (on c) 8
 else if isB c 3 tOpen then (want (rec (on c) 1).1 3 tClose,(rec (on c) 1).2)
 else (nameC c,[⟨2,0,nameS c⟩])
def hd (c:Cur) (k:Int):Pa × Int :=
 if k ≤ 3 ∧ isB c 1 tNot = true then (((rec (on c) 3).1,opT 12 :: (rec (on c) 3).2),3)
 else if isB c 3 tNeg then (((rec (on c) 7).1,opT 3 :: (rec (on c) 7).2),7)
 else (atom rec c,8)
end
mutual
def S:Nat → Cur → Int → Pa
 | 0,c,_ => (c,[])
 | f + 1,c,k => if c.bad ≠ 0 then (c,[]) else
   let h:=hd (S f) c k
   C f h.2 k h.1.1 h.1.2
def C:Nat → Int → Int → Cur → List Tm → Pa
 | 0,_,_,c,x => (c,x)
 | f + 1,lev,k,c,x =>
   match sgn c lev k with
   | none => (c,x)
   | some s =>
     let p:=S f (on c) s.right
     C f s.lev k p.1 (opT s.op :: (x ++ p.2))
end
theorem S_dead {c:Cur} (f:Nat) (k:Int) (h:c.bad ≠ 0):S f c k = (c,[]):=by
 cases f with
 | zero => rfl
 | succ f => rw [S]; exact if_pos h
theorem S_good {c:Cur} (f:Nat) (k:Int) (h:c.bad = 0):S (f + 1) c k = C f (hd (S f) c k).2 k (hd (S f) c k).1.1 (hd (S f) c k).1.2:=by
 rw [S]; exact if_neg (fun h' => h' h)
theorem C_stop {c:Cur} {lev k:Int} (f:Nat) (x:List Tm) (h:sgn c lev k = none):C f lev k c x = (c,x):=by
 cases f with
 | zero => rfl
 | succ f => rw [C,h]
theorem C_step {c:Cur} {lev k:Int} {s:Sg} (f:Nat) (x:List Tm) (h:sgn c lev k = some s) :
 C (f + 1) lev k c x = C f s.lev k (S f (on c) s.right).1 (opT s.op :: (x ++ (S f (on c) s.right).2)):=by
 rw [C,h]
def first (k:Int):Int:=if k = 4 then 5 else k
theorem look_mem {t:ByteArray} {s:Sg} (h:look t = some s):s ∈ sgs ∧ s.t = t:=by
 have:=List.find?_some h
 exact ⟨List.mem_of_find?_eq_some h,by simpa using this⟩
theorem sgn_some {c:Cur} {lev k:Int} {s:Sg} (h:sgn c lev k = some s):look (next c).t = some s ∧ ((next c).k = 3 ∨ (next c).k = 1) ∧ s.left ≤ lev ∧ k ≤ s.lev ∧ s ∈ sgs:=by
 unfold sgn at h
 split at h
 ·rename_i hk
  rw [Option.filter_eq_some_iff] at h
  obtain ⟨h1,h2⟩:=h
  unfold fits at h2
  simp only [Bool.and_eq_true,decide_eq_true_eq] at h2
  exact ⟨h1,hk,h2.1,h2.2,(look_mem h1).1⟩
 ·cases h
theorem sgn_mk {c:Cur} {lev k:Int} {s:Sg} (h1:look (next c).t = some s) (h2:(next c).k = 3 ∨ (next c).k = 1) (h3:s.left ≤ lev) (h4:k ≤ s.lev):sgn c lev k = some s:=by
 unfold sgn
 rw [if_pos h2,h1,Option.filter_eq_some_iff]
 exact ⟨rfl,by simp [fits,h3,h4]⟩
theorem sgn_none {c:Cur} {lev k:Int} (h:∀ s,sgn c lev k = some s → False):sgn c lev k = none:=by
 cases hs:sgn c lev k with
 | none => rfl
 | some s => exact absurd hs (fun h' => h s h')
theorem sgn_dead {c:Cur} (lev k:Int) (h:c.bad ≠ 0):sgn c lev k = none:=by
 unfold sgn
 rw [next_dead h]
 rfl
theorem sgn_good {c:Cur} {lev k:Int} {s:Sg} (h:sgn c lev k = some s):c.bad = 0:=by
 by_cases h0:c.bad = 0
 ·exact h0
 ·rw [sgn_dead lev k h0] at h; cases h
theorem next_real {c:Cur} (h:(next c).k ≠ 0):c.bad = 0 ∧ (on c).L.length + 1 = c.L.length ∧ (on c).bad = 0:=by
 have h0:c.bad = 0:=by
  by_cases h0:c.bad = 0
  ·exact h0
  ·rw [next_dead h0] at h; exact absurd rfl h
 refine ⟨h0,?_,(on_bad c).1.trans h0⟩
 obtain ⟨L,w1,w2,a1,a2,bad⟩:=c
 cases L with
 | nil => unfold next at h; rw [if_pos h0] at h; exact absurd rfl h
 | cons t r => rfl
theorem sgn_real {c:Cur} {lev k:Int} {s:Sg} (h:sgn c lev k = some s):c.bad = 0 ∧ (on c).L.length + 1 = c.L.length ∧ (on c).bad = 0:=by
 obtain ⟨_,h2,_⟩:=sgn_some h
 exact next_real (by omega)
theorem isB_next {c:Cur} {k:Int} {s:ByteArray} (h:isB c k s = true):c.bad = 0 ∧ (next c).k = k ∧ (next c).t = s:=by
 unfold isB at h
 simp only [Bool.and_eq_true,decide_eq_true_eq] at h
 exact h
theorem isB_real {c:Cur} {k:Int} {s:ByteArray} (h:isB c k s = true) (hk:k ≠ 0):c.bad = 0 ∧ (on c).L.length + 1 = c.L.length ∧ (on c).bad = 0:=by
 obtain ⟨_,h1,_⟩:=isB_next h
 exact next_real (by omega)
theorem fail_len (c:Cur) (e:Int):(fail c e).L = c.L:=by unfold fail; split <;> rfl
theorem want_len (c:Cur) (k:Int) (s:ByteArray):(want c k s).L.length ≤ c.L.length:=by
 unfold want
 split
 ·rw [on_len]; omega
 ·rw [fail_len]; exact Nat.le_refl _
theorem nameC_len (c:Cur):(nameC c).L.length ≤ c.L.length:=by
 unfold nameC
 split
 ·rw [on_len]; omega
 ·rw [fail_len]; exact Nat.le_refl _
theorem numC_len (c:Cur) (m:Int):(numC c m).L.length ≤ c.L.length:=by
 unfold numC
 split
 ·rw [on_len]; omega
 ·rw [fail_len]; exact Nat.le_refl _
theorem fail_bad {c:Cur} {e:Int} (he:e ≠ 0):(fail c e).bad ≠ 0:=by
 by_cases h:c.bad = 0
 ·rw [fail_yes h he]; exact he
 ·rw [fail_dead e h]; exact h
theorem want_good {c:Cur} {k:Int} {s:ByteArray} (h:(want c k s).bad = 0):isB c k s = true ∧ want c k s = on c:=by
 unfold want at h ⊢
 split
 ·rename_i hb; exact ⟨hb,rfl⟩
 ·rename_i hb; rw [if_neg hb] at h; exact absurd h (fail_bad (by decide))
theorem nameC_good {c:Cur} (h:(nameC c).bad = 0):nameB c = true ∧ nameC c = on c:=by
 unfold nameC at h ⊢
 split
 ·rename_i hb; exact ⟨hb,rfl⟩
 ·rename_i hb; rw [if_neg hb] at h; exact absurd h (fail_bad (by decide))
theorem numC_good {c:Cur} {m:Int} (h:(numC c m).bad = 0):numE c m = 0 ∧ numC c m = on c:=by
 unfold numC at h ⊢
 split
 ·rename_i hb; exact ⟨hb,rfl⟩
 ·rename_i hb; rw [if_neg hb] at h; exact absurd h (fail_bad hb)
theorem nameB_next {c:Cur} (h:nameB c = true):c.bad = 0 ∧ (next c).k = 1 ∧ NamesSpec.isName (next c).t.data.toList = true:=by
 unfold nameB at h
 simp only [Bool.and_eq_true,decide_eq_true_eq] at h
 exact h
theorem numE_next {c:Cur} {m:Int} (h:numE c m = 0):c.bad = 0 ∧ (next c).k = 2:=by
 unfold numE at h
 split at h
 ·assumption
 ·omega
def Less (rec:Cur → Int → Pa):Prop:=∀ d j,(rec d j).1.L.length ≤ d.L.length ∧ ((rec d j).1.bad = 0 → d.bad = 0)
theorem two_len {rec:Cur → Int → Pa} (H:Less rec) (c:Cur) (o:Int):(two rec c o).1.L.length ≤ c.L.length ∧ ((two rec c o).1.bad = 0 → c.bad = 0):=by
 unfold two
 dsimp only
 have h1:=want_len c 3 tOpen
 have h2:=(H (want c 3 tOpen) 1).1
 have h3:=want_len (rec (want c 3 tOpen) 1).1 3 tComma
 have h4:=(H (want (rec (want c 3 tOpen) 1).1 3 tComma) 1).1
 have h5:=want_len (rec (want (rec (want c 3 tOpen) 1).1 3 tComma) 1).1 3 tClose
 refine ⟨by omega,fun h => ?_⟩
 have g1:=(isB_next (want_good h).1).1
 have g2:=(H _ _).2 g1
 have g3:=(isB_next (want_good g2).1).1
 have g4:=(H _ _).2 g3
 exact (isB_next (want_good g4).1).1
theorem atom_len {rec:Cur → Int → Pa} (H:Less rec) (c:Cur):(atom rec c).1.L.length ≤ c.L.length ∧ ((atom rec c).1.bad = 0 → (atom rec c).1.L.length < c.L.length):=by
 unfold atom
 split
 ·refine ⟨numC_len _ _,fun h => ?_⟩
  obtain ⟨h1,h2⟩:=numC_good h
  have:=(next_real (c:=c) (by have:=(numE_next h1).2; omega)).2.1
  dsimp only
  rw [h2]; omega
 split
 ·rename_i hb
  have:=isB_real hb (by decide)
  exact ⟨by dsimp only; omega,fun _ => by dsimp only; omega⟩
 split
 ·rename_i hb
  have:=isB_real hb (by decide)
  exact ⟨by dsimp only; omega,fun _ => by dsimp only; omega⟩
 split
 ·rename_i hb
  have:=isB_real hb (by decide)
  have h1:=want_len (on c) 3 tOpen
  have h2:=nameC_len (want (on c) 3 tOpen)
  have h3:=want_len (nameC (want (on c) 3 tOpen)) 3 tClose
  exact ⟨by dsimp only; omega,fun _ => by dsimp only; omega⟩
 split
 ·rename_i hb
  have:=isB_real hb (by decide)
  have h1:=(two_len H (on c) 7).1
  exact ⟨by omega,fun _ => by omega⟩
 split
 ·rename_i hb
  have:=isB_real hb (by decide)
  have h1:=(two_len H (on c) 8).1
  exact ⟨by omega,fun _ => by omega⟩
 split
 ·rename_i hb
  have:=isB_real hb (by decide)
  have h1:=(H (on c) 1).1
  have h2:=want_len (rec (on c) 1).1 3 tClose
  exact ⟨by dsimp only; omega,fun _ => by dsimp only; omega⟩
 ·refine ⟨nameC_len _,fun h => ?_⟩
  obtain ⟨h1,h2⟩:=nameC_good h
  have:=(next_real (c:=c) (by have:=(nameB_next h1).2.1; omega)).2.1
  dsimp only
  rw [h2]; omega
theorem hd_len {rec:Cur → Int → Pa} (H:Less rec) (c:Cur) (k:Int):(hd rec c k).1.1.L.length ≤ c.L.length ∧ ((hd rec c k).1.1.bad = 0 → (hd rec c k).1.1.L.length < c.L.length):=by
 unfold hd
 split
 ·rename_i hb
  have:=isB_real hb.2 (by decide)
  have h1:=(H (on c) 3).1
  exact ⟨by dsimp only; omega,fun _ => by dsimp only; omega⟩
 split
 ·rename_i hb
  have:=isB_real hb (by decide)
  have h1:=(H (on c) 7).1
  exact ⟨by dsimp only; omega,fun _ => by dsimp only; omega⟩
 ·exact atom_len H c
theorem len_all:∀ f,Less (S f) ∧ ∀ lev k c x,(C f lev k c x).1.L.length ≤ c.L.length ∧ ((C f lev k c x).1.bad = 0 → c.bad = 0)
 | 0 => ⟨fun d j => ⟨Nat.le_refl _,id⟩,fun lev k c x => ⟨Nat.le_refl _,id⟩⟩
 | f + 1 => by
   obtain ⟨ih1,ih2⟩:=len_all f
   refine ⟨fun d j => ?_,fun lev k c x => ?_⟩
   ·by_cases h:d.bad = 0
    ·rw [S_good f j h]
     exact ⟨Nat.le_trans (ih2 _ _ _ _).1 (hd_len ih1 d j).1,fun _ => h⟩
    ·rw [S_dead _ j h]; exact ⟨Nat.le_refl _,id⟩
   ·cases hs:sgn c lev k with
    | none => rw [C_stop _ x hs]; exact ⟨Nat.le_refl _,id⟩
    | some s =>
      rw [C_step f x hs]
      have h1:=sgn_real hs
      have h2:=(ih1 (on c) s.right).1
      have h3:=ih2 s.lev k (S f (on c) s.right).1 (opT s.op :: (x ++ (S f (on c) s.right).2))
      exact ⟨by omega,fun _ => h1.1⟩
theorem S_less (f:Nat):Less (S f):=(len_all f).1
def Fit (f:Nat) (c:Cur):Prop:=c.bad = 0 → c.L.length < f
theorem Fit.zero {c:Cur} (h:Fit 0 c):c.bad ≠ 0:=fun h' => absurd (h h') (by omega)
theorem Fit.fitHd {f:Nat} {c:Cur} (h:Fit (f + 1) c) (h0:c.bad = 0) (k:Int):Fit f (hd (S f) c k).1.1:=fun hb => by
 have:=(hd_len (S_less f) c k).2 hb
 have:=h h0
 omega
theorem Fit.fitOn {f:Nat} {c:Cur} {lev k:Int} {s:Sg} (h:Fit (f + 1) c) (hs:sgn c lev k = some s):Fit f (on c):=fun _ => by
 have:=sgn_real hs
 have:=h this.1
 omega
theorem Fit.fitStep {f:Nat} {c:Cur} {lev k:Int} {s:Sg} (h:Fit (f + 1) c) (hs:sgn c lev k = some s) (j:Int):Fit f (S f (on c) j).1:=fun _ => by
 have:=(S_less f (on c) j).1
 have:=sgn_real hs
 have:=h this.1
 omega
theorem Fit.le {f:Nat} {c d:Cur} (h:Fit f c) (h0:c.bad = 0) (hl:d.L.length ≤ c.L.length):Fit f d:=fun _ => by
 have:=h h0
 omega
end ExprSpec
end Go.Proofs.YtjfghaohogcfbaaGreatDoor
namespace Go.Proofs.YtjfghaohogcfbaaGreatDoor
namespace ExprSpec
open CurSpec TermSpec
def WF (x:List Tm):Prop:=cnt 1 x = some x.length ∧ x.all mayB = true
theorem cnt_more:∀ {l:List Tm} {k m:Nat} (r:List Tm),cnt k l = some m → cnt k (l ++ r) = some m
 | l,0,m,r,h => by rw [cnt_zero] at h; cases h; rw [cnt_zero]
 | [],k + 1,m,r,h => by cases h
 | t :: l,k + 1,m,r,h => by
   obtain ⟨h0,m',rfl,h'⟩:=cnt_step h
   exact cnt_mk h0 (cnt_more r h')
theorem WF.leaf {t:Tm} (h:ar t.op = 0) (hm:mayB t = true):WF [t]:=by
 refine ⟨?_,by simp [hm]⟩
 refine cnt_mk (m:=0) (by omega) ?_
 rw [show 0 + arN t.op = 0 by unfold arN; omega]
 rfl
theorem WF.un {t:Tm} {a:List Tm} (h:ar t.op = 1) (hm:mayB t = true) (ha:WF a):WF (t :: a):=by
 refine ⟨?_,by rw [List.all_cons,hm,ha.2]; rfl⟩
 refine cnt_mk (m:=a.length) (by omega) ?_
 rw [show 0 + arN t.op = 1 by unfold arN; omega]
 exact ha.1
theorem WF.bin {t:Tm} {a b:List Tm} (h:ar t.op = 2) (hm:mayB t = true) (ha:WF a) (hb:WF b):WF (t :: (a ++ b)):=by
 refine ⟨?_,by rw [List.all_cons,hm,List.all_append,ha.2,hb.2]; rfl⟩
 refine cnt_mk (m:=(a ++ b).length) (by omega) ?_
 rw [show 0 + arN t.op = 1 + 1 by unfold arN; omega,List.length_append]
 refine cnt_join (cnt_more b ha.1) ?_
 rw [List.drop_left]
 exact hb.1
theorem may_op {o:Int} (h1:o ≠ 1) (h2:o ≠ 2) (h11:o ≠ 11):mayB (opT o) = true:=by
 show ((if o = 1 then _ else decide ((0:Int) = 0)) && (if o = 2 ∨ o = 11 then _ else decide ((⟨#[]⟩:ByteArray).size = 0))) = true
 rw [if_neg h1,if_neg (fun h => h.elim h2 h11)]
 rfl
theorem getN_bd (l:List UInt8):0 ≤ ValSpec.getN l ∧ ValSpec.getN l ≤ 1000000:=by
 unfold ValSpec.getN
 split
 ·rename_i h
  split
  ·omega
  ·exact ⟨ValSpec.says_nonneg l (ValSpec.isNum_all h),by omega⟩
 ·omega
def Few (c:Cur) (p:Pa):Prop:=p.2.length + 2 * p.1.L.length ≤ 2 * c.L.length + 1
def readP (f:Nat) (c:Cur):Pa :=
 let p:=S f c 1
 if p.1.bad = 0 then (fail p.1 (chk p.2),if chk p.2 = 0 then p.2 else []) else (p.1,[])
end ExprSpec
end Go.Proofs.YtjfghaohogcfbaaGreatDoor
namespace Go.Proofs.YtjfghaohogcfbaaGreatDoor
namespace ExprSpec
open CurSpec TermSpec NamesSpec
inductive Ex where
 | leaf (t:Tm)
 | un (o:Int) (a:Ex)
 | bin (o:Int) (a b:Ex)
def flat:Ex → List Tm
 | .leaf t => [t]
 | .un o a => opT o :: flat a
 | .bin o a b => opT o :: (flat a ++ flat b)
def Good:Ex → Prop
 | .leaf t => ar t.op = 0 ∧ mayB t = true
 | .un o a => ar o = 1 ∧ Good a
 | .bin o a b => ar o = 2 ∧ Good a ∧ Good b
theorem flat_wf:∀ {e:Ex},Good e → WF (flat e)
 | .leaf t,h => WF.leaf h.1 h.2
 | .un o a,h => WF.un h.1 (may_op (by rintro rfl; exact absurd h.1 (by decide)) (by rintro rfl; exact absurd h.1 (by decide)) (by rintro rfl; exact absurd h.1 (by decide))) (flat_wf h.2)
 | .bin o a b,h => WF.bin h.1 (may_op (by rintro rfl; exact absurd h.1 (by decide)) (by rintro rfl; exact absurd h.1 (by decide)) (by rintro rfl; exact absurd h.1 (by decide))) (flat_wf h.2.1) (flat_wf h.2.2)
def sgOf (o:Int):Sg:=(sgs.find? fun s => decide (s.op = o)).getD ⟨⟨#[]⟩,0,0,0,0⟩
def lev:Ex → Int
 | .leaf _ => 8
 | .un o _ => if o = 3 then 7 else 3
 | .bin o _ _ => if o = 7 ∨ o = 8 then 8 else (sgOf o).lev
abbrev Tx:=Int × List UInt8
def bs (l:List UInt8):ByteArray:=⟨l.toArray⟩
def lTrue:List UInt8:=[116,114,117,101]
def lFalse:List UInt8:=[102,97,108,115,101]
def lIn:List UInt8:=[105,110]
def lMin:List UInt8:=[109,105,110]
def lMax:List UInt8:=[109,97,120]
def lNot:List UInt8:=[110,111,116]
def twr (b:Prop) [Decidable b] (x:List Tx):List Tx:=if b then (3,[40]) :: (x ++ [(3,[41])]) else x
def tk:Ex → List Tx
 | .leaf t => if t.op = 1 then [(2,ValSpec.text t.n)] else if t.op = 2 then [(1,t.s.data.toList)] else if t.op = 9 then [(1,lTrue)] else if t.op = 10 then [(1,lFalse)] else [(1,lIn),(3,[40]),(1,t.s.data.toList),(3,[41])]
 | .un o a => if o = 3 then (3,[45]) :: twr (lev a < 7) (tk a) else (1,lNot) :: twr (lev a < 3) (tk a)
 | .bin o a b => if o = 7 then (1,lMin) :: (3,[40]) :: (tk a ++ (3,[44]) :: (tk b ++ [(3,[41])]))
   else if o = 8 then (1,lMax) :: (3,[40]) :: (tk a ++ (3,[44]) :: (tk b ++ [(3,[41])]))
   else twr (lev a < (sgOf o).left) (tk a) ++ ((if (sgOf o).lev ≤ 2 then 1 else 3,(sgOf o).t.data.toList) :: twr (lev b < (sgOf o).right) (tk b))
def Qu (lv:Int) (d:Cur):Prop:=∀ s,sgn d 9 0 = some s → s.left ≤ lv
theorem Qu.mono {lv lv':Int} {d:Cur} (h:Qu lv d) (hl:lv ≤ lv'):Qu lv' d:=fun s hs => by have:=h s hs; omega
theorem sgOf_mem {o:Int} (ho:ar o = 2) (h7:¬ (o = 7 ∨ o = 8)):sgOf o ∈ sgs ∧ (sgOf o).op = o:=by
 have h1:o = 4 ∨ o = 5 ∨ o = 6 ∨ o = 13 ∨ o = 14 ∨ o = 15 ∨ o = 16 ∨ o = 17 ∨ o = 18 ∨ o = 19 ∨ o = 20:=by
  unfold ar at ho
  split at ho
  ·omega
  split at ho
  ·omega
  split at ho
  ·omega
  ·omega
 rcases h1 with rfl | rfl | rfl | rfl | rfl | rfl | rfl | rfl | rfl | rfl | rfl <;> exact ⟨by unfold sgOf sgs; simp,rfl⟩
end ExprSpec
end Go.Proofs.YtjfghaohogcfbaaGreatDoor
namespace Go.Proofs.YtjfghaohogcfbaaGreatDoor
namespace ExprSpec
open CurSpec TermSpec NamesSpec
theorem empty_of {s:ByteArray} (h:s.size = 0):s = ⟨#[]⟩:=by
 apply ByteArray.ext
 apply Array.eq_empty_of_size_eq_zero
 exact h
theorem may_num {t:Tm} (h1:t.op = 1) (hm:mayB t = true):(0 ≤ t.n ∧ t.n ≤ 1000000) ∧ t = ⟨1,t.n,⟨#[]⟩⟩:=by
 obtain ⟨o,n,s⟩:=t
 dsimp only at h1
 subst h1
 have hm':(decide (0 ≤ n) && decide (n ≤ 1000000) && decide (s.size = 0)) = true:=hm
 simp only [Bool.and_eq_true,decide_eq_true_eq] at hm'
 exact ⟨hm'.1,by rw [empty_of hm'.2]⟩
theorem may_name {t:Tm} (h2:t.op = 2 ∨ t.op = 11) (hm:mayB t = true):isName t.s.data.toList = true ∧ t = ⟨t.op,0,t.s⟩:=by
 obtain ⟨o,n,s⟩:=t
 dsimp only at h2
 unfold mayB at hm
 dsimp only at hm
 rw [if_neg (by rcases h2 with rfl | rfl <;> decide),if_pos h2] at hm
 simp only [Bool.and_eq_true,decide_eq_true_eq] at hm
 exact ⟨hm.2,by rw [hm.1]⟩
theorem may_word {t:Tm} (h9:t.op = 9 ∨ t.op = 10) (hm:mayB t = true):t = opT t.op:=by
 obtain ⟨o,n,s⟩:=t
 dsimp only at h9
 unfold mayB at hm
 dsimp only at hm
 rw [if_neg (by rcases h9 with rfl | rfl <;> decide),if_neg (by rcases h9 with rfl | rfl <;> decide)] at hm
 simp only [Bool.and_eq_true,decide_eq_true_eq] at hm
 rw [hm.1,empty_of hm.2]
 rfl
theorem leaf_ops {o:Int} (h:ar o = 0):o = 1 ∨ o = 2 ∨ o = 9 ∨ o = 10 ∨ o = 11:=by
 unfold ar at h
 split at h
 ·assumption
 split at h
 ·omega
 split at h
 ·omega
 ·omega
theorem want_yes {c:Cur} {k:Int} {w:List UInt8} {ww:ByteArray} (h:isB c k (bs w) = true) (hw:bs w = ww):want c k ww = on c:=by
 subst hw
 unfold want
 rw [if_pos h]
theorem bin_ops {o:Int} (_h:ar o = 2):o = 7 ∨ o = 8 ∨ ¬ (o = 7 ∨ o = 8):=by omega
end ExprSpec
end Go.Proofs.YtjfghaohogcfbaaGreatDoor
namespace Go.Proofs.YtjfghaohogcfbaaGreatDoor
open Go.RowKit
def Rdk (k:Nat) (w:World) (v:Value) (n:Nat) (xs:List Value):Prop :=
 ∃ (A:Option Addr) (c:Nat),v = .slice A n c ∧ n ≤ c ∧ xs.length = n * k ∧ (0 < n → ∃ b off,A = some ⟨b,off,none⟩ ∧ b < w.heap.size ∧ ∀ j u,xs[j]? = some u → w.cell? ⟨b,off + j,none⟩ = some u)
section
variable {k n:Nat} {w w':World} {v:Value} {xs:List Value}
theorem Rdk.keep (h:Rdk k w v n xs) (hb:Below w.heap.size w w'):Rdk k w' v n xs:=by
 obtain ⟨A,c,rfl,hc,hl,hA⟩:=h
 refine ⟨A,c,rfl,hc,hl,fun h0 => ?_⟩
 obtain ⟨b,off,rfl,hlt,hcell⟩:=hA h0
 exact ⟨b,off,rfl,Nat.lt_of_lt_of_le hlt hb.size,fun j u hj => (hb.cell (p:=⟨b,off + j,none⟩) hlt).trans (hcell j u hj)⟩
theorem Rdk.alloc (h:Rdk k w v n xs) (o:Obj):Rdk k (w.alloc o) v n xs:=h.keep ((Below.refl _ _).alloc (Nat.le_refl _) _)
theorem Rdk.nil (k:Nat) (w:World):Rdk k w (.slice none 0 0) 0 []:=⟨none,0,rfl,Nat.le_refl _,by simp,fun h => absurd h (by omega)⟩
theorem Rdk.own {base:Nat} {e:TypeId} (h:w.ownsRow base e k v n xs):Rdk k w v n xs:=by
 obtain ⟨hl,hv⟩:=h
 rcases hv with ⟨rfl,rfl⟩ | ⟨g,cap,cur,rfl,hbase,hb,hnc,hcm,hcs,ht⟩
 ·exact ⟨none,0,rfl,Nat.le_refl _,hl,fun h => absurd h (by omega)⟩
 ·refine ⟨_,cap,rfl,hnc,hl,fun _ => ⟨g,0,rfl,(Array.getElem?_eq_some_iff.1 hb).1,fun j u hj => ?_⟩⟩
  have hj':j < xs.length:=(List.getElem?_eq_some_iff.1 hj).1
  rw [← ht,List.getElem?_take_of_lt (by omega),Array.getElem?_toList] at hj
  simp [World.cell?,hb,hj]
end
theorem flat_get {α:Type} {k:Nat} {f:α → List Value} (hf:∀ a,(f a).length = k):∀ {l:List α} {i j:Nat} {a:α},l[i]? = some a → j < k → (l.flatMap f)[i * k + j]? = (f a)[j]?
 | [],_,_,_,h,_ => by simp at h
 | b :: t,0,j,a,h,hj => by
   simp at h; subst h
   rw [List.flatMap_cons,Nat.zero_mul,Nat.zero_add,List.getElem?_append_left (by rw [hf]; exact hj)]
 | b :: t,i + 1,j,a,h,hj => by
   rw [List.flatMap_cons,List.getElem?_append_right (by rw [hf,Nat.add_mul]; omega),hf,show (i + 1) * k + j - k = i * k + j by rw [Nat.add_mul]; omega]
   exact flat_get hf (l:=t) (by simpa using h) hj
theorem flat_length {α:Type} {k:Nat} {f:α → List Value} (hf:∀ a,(f a).length = k) (l:List α):(l.flatMap f).length = l.length * k:=by
 induction l with
 | nil => simp
 | cons b t ih => rw [List.flatMap_cons,List.length_append,hf,ih,List.length_cons,Nat.add_mul]; omega
section
variable {P:Program} (w:World)
theorem run_append_rdk (base:Nat) (t ty e:TypeId) (i:TypeInfo) (z:Value) (k bytes:Nat) (ht:P.underlying t = some (.slice e)) (hi:P.info? e = some i) (hz:i.zero = some z)
 (hsize:i.size = k) (hby:i.bytes = bytes) (hzs:z.cells.size = k) (hk:0 < k)
 (v:Value) (n:Nat) (xs:List Value) (hown:w.ownsRow base e k v n xs) (x:Value) (m:Nat) (news:List Value) (hx:Rdk k w x m news) (h1:∀ u ∈ news,u.oneCell' = true)
 (h63:n + m ≤ maxLen) (hbytes:(n + m) * bytes ≤ 140737488355328) (hbase:base ≤ w.heap.size) :
 ∃ v' w',(Builtin.append_ #[t,t] ty #[v,x]).run P w = .ok v' w' ∧ w'.ownsRow base e k v' (n + m) (xs ++ news) ∧ w.grownBy w' v.ownBlock ∧
   (v'.ownBlock = v.ownBlock ∨ v'.ownBlock = some w.heap.size):=by
 obtain ⟨A,c,rfl,hmc,hl,hA⟩:=hx
 rcases Nat.eq_zero_or_pos m with h0 | h0
 ·subst h0
  have hn:news = []:=List.eq_nil_of_length_eq_zero (by omega)
  subst hn
  rcases A with _ | a
  ·refine ⟨v,w,?_,by simpa using hown,⟨rfl,rfl,rfl,Nat.le_refl _,fun _ _ _ => rfl⟩,.inl rfl⟩
   rcases hown.2 with ⟨rfl,rfl⟩ | ⟨g,cap,cur,rfl,_,_,hnc,_⟩
   ·simp [Builtin.append_,run_underlying ht,sizeOf,typeInfo,hi,Builtin.lenOf,Builtin.firstCells]
   ·simp [Builtin.append_,run_underlying ht,sizeOf,typeInfo,hi,Builtin.lenOf,Builtin.firstCells,hnc,storeCells]
  ·obtain ⟨v',w',hrun,h2,h3,_,h5⟩:=run_append_own_at (P:=P) w base t ty e i z k bytes ht hi hz hsize hby hzs hk v n xs hown a 0 c [] (by simp) (by simp) (by simp) (by simpa using h63) (by simpa using hbytes) hbase
   exact ⟨v',w',hrun,by simpa using h2,h3,h5⟩
 ·obtain ⟨b,off,rfl,hlt,hcell⟩:=hA h0
  obtain ⟨v',w',hrun,h2,h3,_,h5⟩:=run_append_own_at (P:=P) w base t ty e i z k bytes ht hi hz hsize hby hzs hk v n xs hown ⟨b,off,none⟩ m c news hl
   (fun j u hj => by rw [addr_add]; exact hcell j u hj) h1 h63 hbytes hbase
  exact ⟨v',w',hrun,h2,h3,h5⟩
theorem wpList_append_rdk {ops:Array Oper} {rest:List Oper} {o:Oper} {a:Act} {Q:Exit → Act → World → Prop} (hgd:o.guard = none) (s x:Operand) (t:TypeId)
 (ho:o.op = .call { callee:=.builtin .append,args:=#[s,x],argTypes:=#[t,t] })
 (base:Nat) (e:TypeId) (i:TypeInfo) (z:Value) (k bytes:Nat) (ht:P.underlying t = some (.slice e)) (hi:P.info? e = some i) (hz:i.zero = some z)
 (hsize:i.size = k) (hby:i.bytes = bytes) (hzs:z.cells.size = k) (hk:0 < k)
 (v:Value) (n:Nat) (xs:List Value) (hs:a.eval s = v) (hown:w.ownsRow base e k v n xs) (y:Value) (m:Nat) (news:List Value) (hy:a.eval x = y) (hr:Rdk k w y m news) (h1:∀ u ∈ news,u.oneCell' = true)
 (h63:n + m ≤ maxLen) (hbytes:(n + m) * bytes ≤ 140737488355328) (hbase:base ≤ w.heap.size)
 (h:∀ v' w',w'.ownsRow base e k v' (n + m) (xs ++ news) → w.grownBy w' v.ownBlock → (v'.ownBlock = v.ownBlock ∨ v'.ownBlock = some w.heap.size) → wpList P ops Q rest (a.put o.dst v') w'):wpList P ops Q (o :: rest) a w :=
 wpList_plain hgd fun _ hK => by
  obtain ⟨v',w',hrun,h2,h3,h4⟩:=run_append_rdk (P:=P) w base t o.type e i z k bytes ht hi hz hsize hby hzs hk v n xs hown y m news hr h1 h63 hbytes hbase
  unfold Oper.wp execOp
  simp only [ho,resolve,invoke,builtin,Sem.run_bind,Sem.run_pure,Result.andThen_ok,List.map_toArray,List.map_cons,List.map_nil,hs,hy,hrun]
  exact hK _ _ (h v' w' h2 h3 h4)
end
end Go.Proofs.YtjfghaohogcfbaaGreatDoor