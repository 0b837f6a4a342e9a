/- ExprScan, ActScan, joined. -/
import Derived.Test.YtjfghaohogcfbaaGreatDoorMFormatTwice08
import Derived.Test.YtjfghaohogcfbaaGreatDoorMFormatTwice16
import Derived.Test.YtjfghaohogcfbaaGreatDoorMFormatTwice10
namespace Go.Proofs.YtjfghaohogcfbaaGreatDoor
namespace ExprSpec
open CurSpec TermSpec ScanSpec
theorem byte_all {P:UInt8 → Prop} (h:∀ n:Fin 256,P (UInt8.ofNat n.val)) (c:UInt8):P c:=by
 have:=h ⟨c.toNat,c.toNat_lt⟩
 simpa using this
theorem b_letter (c:UInt8):NamesSpec.letter c = true → clsB c = 1:=byte_all (P:=fun c => NamesSpec.letter c = true → clsB c = 1) (by decide +kernel) c
theorem b_later (c:UInt8):NamesSpec.later c = true → isWord c = true:=byte_all (P:=fun c => NamesSpec.later c = true → isWord c = true) (by decide +kernel) c
theorem b_dig (c:UInt8):ValSpec.isDig c = true → clsB c = 2 ∧ isNum c = true:=byte_all (P:=fun c => ValSpec.isDig c = true → clsB c = 2 ∧ isNum c = true) (by decide +kernel) c
def Stop (r:List UInt8):Prop:=∀ c,r.head? = some c → isWord c = false ∧ isNum c = false ∧ clsB c ≠ 1 ∧ clsB c ≠ 3
theorem stop_of {a:UInt8} (h:isWord a = false ∧ isNum a = false ∧ clsB a ≠ 1 ∧ clsB a ≠ 3) (r:List UInt8):Stop (a :: r):=by intro c hc; cases hc; exact h
theorem stop_32 (r:List UInt8):Stop (32 :: r):=stop_of (by decide) r
theorem stop_40 (r:List UInt8):Stop (40 :: r):=stop_of (by decide) r
theorem stop_41 (r:List UInt8):Stop (41 :: r):=stop_of (by decide) r
theorem stop_44 (r:List UInt8):Stop (44 :: r):=stop_of (by decide) r
theorem run_all {p:UInt8 → Bool}:∀ {s r:List UInt8},s.all p = true → (∀ c,r.head? = some c → p c = false) → run p (s ++ r) = s.length
 | [],[],_,_ => rfl
 | [],c :: r,_,h => by rw [List.nil_append,run,if_neg (by rw [h c rfl]; decide)]; rfl
 | a :: s,r,h,hr => by
   rw [List.all_cons,Bool.and_eq_true] at h
   rw [List.cons_append,run,if_pos h.1,run_all h.2 hr]
   rfl
theorem one_word {a:UInt8} {t r:List UInt8} (ha:clsB a = 1) (hw:(a :: t).all isWord = true) (hl:(a :: t).length ≤ 12) (hs:Stop r):ScanSpec.one (a :: t ++ r) = (1,(a :: t).length,0):=by
 have hr:=run_all hw (fun c hc => (hs c hc).1)
 unfold ScanSpec.one
 rw [if_pos (show cls (a :: t ++ r) 0 = 1 from ha),hr,if_neg (by omega)]
theorem cls_past (s r:List UInt8) (hs:Stop r):cls (s ++ r) s.length ≠ 1 ∧ cls (s ++ r) s.length ≠ 3:=by
 unfold cls
 rw [List.getElem?_append_right (Nat.le_refl _),Nat.sub_self]
 cases r with
 | nil => simp
 | cons c r => exact (hs c rfl).2.2
theorem one_num {a:UInt8} {t r:List UInt8} (ha:clsB a = 2) (hw:(a :: t).all isNum = true) (hl:(a :: t).length ≤ 9) (hs:Stop r):ScanSpec.one (a :: t ++ r) = (2,(a :: t).length,0):=by
 have hr:=run_all hw (fun c hc => (hs c hc).2.1)
 have hc:=cls_past (a :: t) r hs
 have h2:cls (a :: t ++ r) 0 = 2:=ha
 unfold ScanSpec.one
 rw [if_neg (by omega),if_pos h2,hr,if_neg (by omega),if_neg (by omega)]
theorem one_mark {s r:List UInt8} (hc:cls (s ++ r) 0 = 0) (h0:0 < s.length) (hm:markLen (s ++ r) = s.length):ScanSpec.one (s ++ r) = (3,s.length,0):=by
 unfold ScanSpec.one
 rw [if_neg (by omega),if_neg (by omega),hm,if_neg (by omega)]
def Sc (l:List UInt8):Nat → List Tx → Nat → Prop
 | i,[],j => i = j
 | i,(k,s) :: r,j => i < l.length ∧ ScanSpec.one (l.drop i) = (k,s.length,0) ∧ (l.drop i).take s.length = s ∧ 0 < s.length ∧ Sc l (gap l (i + s.length)) r j
theorem sc_app {l:List UInt8}:∀ {a b:List Tx} {i j k:Nat},Sc l i a j → Sc l j b k → Sc l i (a ++ b) k
 | [],b,i,j,k,h,h' => by cases h; exact h'
 | (_,_) :: a,b,i,j,k,h,h' => ⟨h.1,h.2.1,h.2.2.1,h.2.2.2.1,sc_app h.2.2.2.2 h'⟩
theorem drop_lt {l:List UInt8} {i:Nat} {c:UInt8} {r:List UInt8} (h:l.drop i = c :: r):i < l.length:=by
 have:=congrArg List.length h
 rw [List.length_drop,List.length_cons] at this
 omega
theorem drop_past {l:List UInt8} {i:Nat} {s r:List UInt8} (h:l.drop i = s ++ r):l.drop (i + s.length) = r:=by
 rw [← List.drop_drop,h,List.drop_left]
theorem sc_one {l:List UInt8} {i:Nat} {k:Int} {s r:List UInt8} (h:l.drop i = s ++ r) (h0:0 < s.length) (ho:ScanSpec.one (s ++ r) = (k,s.length,0)):Sc l i [(k,s)] (gap l (i + s.length)):=by
 refine ⟨?_,by rw [h]; exact ho,by rw [h,List.take_left],h0,rfl⟩
 match s,h0 with
 | a :: s,_ => exact drop_lt h
abbrev Sol (c:UInt8):Prop:=clsB c ≠ 4 ∧ clsB c ≠ 5 ∧ c ≠ 62
theorem cls_head {l:List UInt8} {i:Nat} {c:UInt8} {r:List UInt8} (h:l.drop i = c :: r):cls l i = clsB c:=by
 have:(l.drop i)[0]? = some c:=by rw [h]; rfl
 rw [List.getElem?_drop] at this
 exact cls_some this
theorem gap_here {l:List UInt8} {i:Nat} {c:UInt8} {r:List UInt8} (h:l.drop i = c :: r) (hs:Sol c):gap l i = i:=gap_stop (by rw [cls_head h]; exact hs.1) (by rw [cls_head h]; exact hs.2.1)
theorem gap_one {l:List UInt8} {i:Nat} {c:UInt8} {r:List UInt8} (h:l.drop i = 32 :: c :: r) (hs:Sol c):gap l i = i + 1:=by
 rw [← gap_blank (l:=l) (i:=i) (by rw [cls_head h]; rfl)]
 exact gap_here (drop_past (s:=[32]) h) hs
theorem bytes_app (a b:ByteArray):(a ++ b).data.toList = a.data.toList ++ b.data.toList:=by simp [ByteArray.data_append]
abbrev T (s:ByteArray):List UInt8:=s.data.toList
theorem bk_yes {b:Prop} [Decidable b] (h:b) (s:ByteArray):T (bk b s) = 40 :: (T s ++ [41]):=by
 rw [show bk b s = (⟨#[40]⟩ ++ s) ++ ⟨#[41]⟩ from if_pos h,T,bytes_app,bytes_app]
 rfl
theorem bk_no {b:Prop} [Decidable b] (h:¬ b) (s:ByteArray):T (bk b s) = T s:=by rw [show bk b s = s from if_neg h]
def Fst (s:List UInt8):Prop:=∃ c r,s = c :: r ∧ Sol c
theorem fst_bk {b:Prop} [Decidable b] {s:ByteArray} (h:Fst (T s)):Fst (T (bk b s)):=by
 by_cases hb:b
 ·rw [bk_yes hb]; exact ⟨40,_,rfl,by decide⟩
 ·rw [bk_no hb]; exact h
theorem fst_app {a b:List UInt8} (h:Fst a):Fst (a ++ b):=by
 obtain ⟨c,r,rfl,hc⟩:=h
 exact ⟨c,r ++ b,rfl,hc⟩
theorem sol_1 (c:UInt8):clsB c = 1 ∨ clsB c = 2 → Sol c:=byte_all (P:=fun c => clsB c = 1 ∨ clsB c = 2 → clsB c ≠ 4 ∧ clsB c ≠ 5 ∧ c ≠ 62) (by decide +kernel) c
theorem name_parts {s:List UInt8} (h:NamesSpec.isName s = true):∃ a t,s = a :: t ∧ clsB a = 1 ∧ (a :: t).all isWord = true ∧ (a :: t).length ≤ 12:=by
 unfold NamesSpec.isName at h
 simp only [Bool.and_eq_true,decide_eq_true_eq] at h
 obtain ⟨⟨⟨⟨h1,h2⟩,_⟩,h4⟩,h5⟩:=h
 match s,h1 with
 | a :: t,_ =>
   refine ⟨a,t,rfl,b_letter a (by simpa using h5),?_,h2⟩
   rw [List.all_eq_true] at h4 ⊢
   exact fun c hc => b_later c (h4 c hc)
theorem text_parts {n:Int} (h:0 ≤ n ∧ n ≤ 1000000):∃ a t,ValSpec.text n = a :: t ∧ clsB a = 2 ∧ (a :: t).all isNum = true ∧ (a :: t).length ≤ 9:=by
 have hl:(ValSpec.text n).length ≤ 9:=by
  unfold ValSpec.text
  rw [if_neg (by omega)]
  have:=ValSpec.digs_len 6 n.natAbs (by omega)
  omega
 have ha:(ValSpec.text n).all ValSpec.isDig = true:=by
  unfold ValSpec.text
  rw [if_neg (by omega)]
  exact ValSpec.digs_all _
 have hn:ValSpec.text n ≠ []:=by
  unfold ValSpec.text
  rw [if_neg (by omega)]
  exact ValSpec.digs_ne _
 match hs:ValSpec.text n,hn with
 | a :: t,_ =>
   rw [hs] at hl ha
   rw [List.all_eq_true] at ha
   refine ⟨a,t,rfl,(b_dig a (ha a (by simp))).1,?_,hl⟩
   rw [List.all_eq_true]
   exact fun c hc => (b_dig c (ha c hc)).2
theorem tx_fst:∀ {e:Ex},Good e → Fst (T (tx e))
 | .leaf t,h => by
   unfold tx
   rcases leaf_ops h.1 with h1 | h1 | h1 | h1 | h1
   ·rw [if_pos h1]
    obtain ⟨a,r,hs,ha,_⟩:=text_parts (may_num h1 h.2).1
    exact ⟨a,r,by rw [← hs,T,list_bs],sol_1 a (.inr ha)⟩
   ·rw [if_neg (by omega),if_pos h1]
    obtain ⟨a,r,hs,ha,_⟩:=name_parts (may_name (.inl h1) h.2).1
    exact ⟨a,r,hs,sol_1 a (.inl ha)⟩
   ·rw [if_neg (by omega),if_neg (by omega),if_pos h1]
    exact ⟨116,[114,117,101],rfl,by decide⟩
   ·rw [if_neg (by omega),if_neg (by omega),if_neg (by omega),if_pos h1]
    exact ⟨102,[97,108,115,101],rfl,by decide⟩
   ·rw [if_neg (by omega),if_neg (by omega),if_neg (by omega),if_neg (by omega),T,bytes_app,bytes_app]
    exact ⟨105,_,rfl,by decide⟩
 | .un o a,h => by
   unfold tx
   split
   ·rw [T,bytes_app]; exact ⟨45,_,rfl,by decide⟩
   ·rw [T,bytes_app]; exact ⟨110,_,rfl,by decide⟩
 | .bin o a b,h => by
   have ih:=tx_fst h.2.1
   unfold tx
   split
   ·simp only [T,bytes_app]; exact ⟨109,_,rfl,by decide⟩
   split
   ·simp only [T,bytes_app]; exact ⟨109,_,rfl,by decide⟩
   ·simp only [T,bytes_app]
    exact fst_app (fst_app (fst_app (fst_app (fst_bk ih))))
def Scs (s:ByteArray) (ts:List Tx):Prop:=∀ l i r,l.drop i = T s ++ r → Stop r → Sc l i ts (gap l (i + (T s).length))
theorem one_open (r:List UInt8):ScanSpec.one ([40] ++ r) = (3,[(40:UInt8)].length,0):=one_mark rfl (by decide) (by simp [markLen,marks,List.isPrefixOf])
theorem one_close (r:List UInt8):ScanSpec.one ([41] ++ r) = (3,[(41:UInt8)].length,0):=one_mark rfl (by decide) (by simp [markLen,marks,List.isPrefixOf])
theorem one_comma (r:List UInt8):ScanSpec.one ([44] ++ r) = (3,[(44:UInt8)].length,0):=one_mark rfl (by decide) (by simp [markLen,marks,List.isPrefixOf])
theorem one_neg {c:UInt8} (r:List UInt8) (h:c ≠ 62):ScanSpec.one ([45] ++ c :: r) = (3,[(45:UInt8)].length,0):=one_mark rfl (by decide) (by
 have:(62 == c) = false:=by simpa using fun e:62 = c => h e.symm
 simp [markLen,marks,List.isPrefixOf,this])
theorem scs_bk {b:Prop} [Decidable b] {s:ByteArray} {ts:List Tx} (hf:Fst (T s)) (h:Scs s ts):Scs (bk b s) (twr b ts):=by
 intro l i r hd hr
 by_cases hb:b
 ·rw [bk_yes hb] at hd ⊢
  rw [show twr b ts = (3,[40]) :: (ts ++ [(3,[41])]) from if_pos hb]
  obtain ⟨c,q,hc,hsol⟩:=hf
  have h0:l.drop i = [40] ++ (T s ++ ([41] ++ r)):=by rw [hd]; simp
  have h1:l.drop (i + 1) = T s ++ ([41] ++ r):=drop_past (s:=[40]) h0
  have g1:gap l (i + 1) = i + 1:=gap_here (c:=c) (r:=q ++ ([41] ++ r)) (by rw [h1,hc]; rfl) hsol
  have s1:=sc_one h0 (by decide) (one_open _)
  rw [show i + [(40:UInt8)].length = i + 1 from rfl,g1] at s1
  have s2:=h l (i + 1) ([41] ++ r) h1 (stop_41 r)
  have h2:l.drop (i + 1 + (T s).length) = [41] ++ r:=drop_past h1
  rw [gap_here (c:=41) (r:=r) h2 (by decide)] at s2
  have s3:=sc_one h2 (by decide) (one_close _)
  have:=sc_app s1 (sc_app s2 s3)
  rwa [show i + 1 + (T s).length + [(41:UInt8)].length = i + (40 :: (T s ++ [41])).length by simp; omega] at this
 ·rw [bk_no hb] at hd ⊢
  rw [show twr b ts = ts from if_neg hb]
  exact h l i r hd hr
theorem sc_word {l:List UInt8} {i:Nat} {s r:List UInt8} (h:l.drop i = s ++ r) (hs:∃ a t,s = a :: t ∧ clsB a = 1 ∧ (a :: t).all isWord = true ∧ (a :: t).length ≤ 12) (hr:Stop r):Sc l i [(1,s)] (gap l (i + s.length)):=by
 obtain ⟨a,t,rfl,ha,hw,hl⟩:=hs
 exact sc_one h (by simp) (one_word ha hw hl hr)
theorem scs_leaf {t:Tm} (h:Good (.leaf t)):Scs (tx (.leaf t)) (tk (.leaf t)):=by
 intro l i r hd hr
 unfold tx at hd ⊢
 unfold tk
 rcases leaf_ops h.1 with h1 | h1 | h1 | h1 | h1
 ·rw [if_pos h1] at hd ⊢
  rw [if_pos h1]
  obtain ⟨a,q,hs,ha,hn,hl⟩:=text_parts (may_num h1 h.2).1
  rw [T,list_bs] at hd ⊢
  rw [hs] at hd ⊢
  exact sc_one hd (by simp) (one_num ha hn hl hr)
 ·rw [if_neg (by omega),if_pos h1] at hd ⊢
  rw [if_neg (by omega),if_pos h1]
  exact sc_word hd (name_parts (may_name (.inl h1) h.2).1) hr
 ·rw [if_neg (by omega),if_neg (by omega),if_pos h1] at hd ⊢
  rw [if_neg (by omega),if_neg (by omega),if_pos h1]
  exact sc_word hd ⟨116,[114,117,101],rfl,by decide,by decide,by decide⟩ hr
 ·rw [if_neg (by omega),if_neg (by omega),if_neg (by omega),if_pos h1] at hd ⊢
  rw [if_neg (by omega),if_neg (by omega),if_neg (by omega),if_pos h1]
  exact sc_word hd ⟨102,[97,108,115,101],rfl,by decide,by decide,by decide⟩ hr
 ·rw [if_neg (by omega),if_neg (by omega),if_neg (by omega),if_neg (by omega)] at hd ⊢
  rw [if_neg (by omega),if_neg (by omega),if_neg (by omega),if_neg (by omega)]
  have hn:=name_parts (may_name (.inr h1) h.2).1
  rw [T,bytes_app,bytes_app] at hd ⊢
  generalize t.s.data.toList = s at hd hn ⊢
  obtain ⟨a,q,hs,ha,hw,hl⟩:=hn
  have h0:l.drop i = [105,110] ++ ([40] ++ (s ++ ([41] ++ r))):=by
   rw [hd]; simp
  have hh1:l.drop (i + 2) = [40] ++ (s ++ ([41] ++ r)):=drop_past (s:=[105,110]) h0
  have hh2:l.drop (i + 2 + 1) = s ++ ([41] ++ r):=drop_past (s:=[40]) hh1
  have hh3:l.drop (i + 2 + 1 + s.length) = [41] ++ r:=drop_past hh2
  have s0:=sc_word h0 ⟨105,[110],rfl,by decide,by decide,by decide⟩ (stop_40 _)
  rw [show i + [(105:UInt8),110].length = i + 2 from rfl,gap_here (c:=40) hh1 (by decide)] at s0
  have s1:=sc_one hh1 (by decide) (one_open _)
  rw [show i + 2 + [(40:UInt8)].length = i + 2 + 1 from rfl,gap_here (c:=a) (r:=q ++ ([41] ++ r)) (by rw [hh2,hs]; rfl) (sol_1 a (.inl ha))] at s1
  have s2:=sc_word hh2 ⟨a,q,hs,ha,hw,hl⟩ (stop_41 r)
  rw [gap_here (c:=41) hh3 (by decide)] at s2
  have s3:=sc_one hh3 (by decide) (one_close _)
  have:=sc_app s0 (sc_app s1 (sc_app s2 s3))
  rwa [show i + 2 + 1 + s.length + [(41:UInt8)].length = i + (([105,110,40]:List UInt8) ++ s ++ [41]).length by simp; omega] at this
theorem scs_un {o:Int} {a:Ex} (h:Good (.un o a)) (ih:Scs (tx a) (tk a)):Scs (tx (.un o a)) (tk (.un o a)):=by
 intro l i r hd hr
 have hf:=tx_fst h.2
 have e1:tx (.un o a) = if o = 3 then ⟨#[45]⟩ ++ bk (lev a < 7) (tx a) else ⟨#[110,111,116,32]⟩ ++ bk (lev a < 3) (tx a):=rfl
 have e2:tk (.un o a) = if o = 3 then (3,[45]) :: twr (lev a < 7) (tk a) else (1,lNot) :: twr (lev a < 3) (tk a):=rfl
 rw [e1] at hd ⊢
 rw [e2]
 by_cases ho:o = 3
 ·rw [if_pos ho] at hd ⊢
  rw [if_pos ho]
  have hb:=scs_bk (b:=lev a < 7) hf ih
  obtain ⟨c,q,hc,hsol⟩:=fst_bk (b:=lev a < 7) hf
  rw [T,bytes_app] at hd ⊢
  have h0:l.drop i = [45] ++ (T (bk (lev a < 7) (tx a)) ++ r):=by rw [hd]; simp
  have h1:l.drop (i + 1) = T (bk (lev a < 7) (tx a)) ++ r:=drop_past (s:=[45]) h0
  have s0:=sc_one (k:=3) h0 (by decide) (by rw [hc]; exact one_neg _ hsol.2.2)
  rw [show i + [(45:UInt8)].length = i + 1 from rfl,gap_here (c:=c) (r:=q ++ r) (by rw [h1,hc]; rfl) hsol] at s0
  have:=sc_app s0 (hb l (i + 1) r h1 hr)
  rwa [show i + 1 + (T (bk (lev a < 7) (tx a))).length = i + (([45]:List UInt8) ++ T (bk (lev a < 7) (tx a))).length by simp; omega] at this
 ·rw [if_neg ho] at hd ⊢
  rw [if_neg ho]
  have hb:=scs_bk (b:=lev a < 3) hf ih
  obtain ⟨c,q,hc,hsol⟩:=fst_bk (b:=lev a < 3) hf
  rw [T,bytes_app] at hd ⊢
  have h0:l.drop i = lNot ++ ([32] ++ (T (bk (lev a < 3) (tx a)) ++ r)):=by rw [hd]; simp [lNot]
  have h1:l.drop (i + 3) = [32] ++ (T (bk (lev a < 3) (tx a)) ++ r):=drop_past (s:=lNot) h0
  have h2:l.drop (i + 3 + 1) = T (bk (lev a < 3) (tx a)) ++ r:=drop_past (s:=[32]) h1
  have s0:=sc_word h0 ⟨110,[111,116],rfl,by decide,by decide,by decide⟩ (stop_32 _)
  rw [show i + lNot.length = i + 3 from rfl,gap_one (c:=c) (r:=q ++ r) (by rw [h1,hc]; rfl) hsol] at s0
  have:=sc_app s0 (hb l (i + 3 + 1) r h2 hr)
  rwa [show i + 3 + 1 + (T (bk (lev a < 3) (tx a))).length = i + (([110,111,116,32]:List UInt8) ++ T (bk (lev a < 3) (tx a))).length by simp; omega] at this
theorem scs_two {w:List UInt8} {a b:Ex} (ha:Good a) (hb:Good b) (iha:Scs (tx a) (tk a)) (ihb:Scs (tx b) (tk b)) (hw:∃ x t,w = x :: t ∧ clsB x = 1 ∧ (x :: t).all isWord = true ∧ (x :: t).length ≤ 12) {l:List UInt8} {i:Nat} {r:List UInt8}
 (hd:l.drop i = w ++ ([40] ++ (T (tx a) ++ ([44] ++ ([32] ++ (T (tx b) ++ ([41] ++ r))))))) :
 Sc l i ((1,w) :: (3,[40]) :: (tk a ++ (3,[44]) :: (tk b ++ [(3,[41])]))) (gap l (i + w.length + 1 + (T (tx a)).length + 1 + 1 + (T (tx b)).length + 1)):=by
 obtain ⟨c,q,hc,hsol⟩:=tx_fst ha
 obtain ⟨d,p,hp,hsol'⟩:=tx_fst hb
 have h1:=drop_past hd
 have h2:=drop_past h1
 have h3:=drop_past h2
 have h4:=drop_past h3
 have h5:=drop_past h4
 have h6:=drop_past h5
 have s0:=sc_word hd hw (stop_40 _)
 rw [gap_here (c:=40) h1 (by decide)] at s0
 have s1:=sc_one h1 (by decide) (one_open _)
 rw [gap_here (c:=c) (r:=q ++ ([44] ++ ([32] ++ (T (tx b) ++ ([41] ++ r))))) (by rw [h2,hc]; rfl) hsol] at s1
 have s2:=iha _ _ _ h2 (stop_44 _)
 rw [gap_here (c:=44) h3 (by decide)] at s2
 have s3:=sc_one h3 (by decide) (one_comma _)
 rw [gap_one (c:=d) (r:=p ++ ([41] ++ r)) (by rw [h4,hp]; rfl) hsol'] at s3
 have s4:=ihb _ _ _ h5 (stop_41 _)
 rw [gap_here (c:=41) h6 (by decide)] at s4
 have s5:=sc_one h6 (by decide) (one_close _)
 exact sc_app s0 (sc_app s1 (sc_app s2 (sc_app s3 (sc_app s4 s5))))
theorem sg_one:∀ s ∈ sgs,∀ r,ScanSpec.one (s.t.data.toList ++ 32 :: r) = ((if s.lev ≤ 2 then 1 else 3),s.t.data.toList.length,0):=by
 intro s hs r
 unfold sgs at hs
 simp only [List.mem_cons,List.not_mem_nil,or_false] at hs
 rcases hs with rfl | rfl | rfl | rfl | rfl | rfl | rfl | rfl | rfl | rfl | rfl
 ·exact one_word (a:=111) (t:=[114]) rfl (by decide) (by decide) (stop_32 r)
 ·exact one_word (a:=97) (t:=[110,100]) rfl (by decide) (by decide) (stop_32 r)
 all_goals exact one_mark rfl (by decide) (by simp [markLen,marks,List.isPrefixOf])
theorem gap_one' {l:List UInt8} {i:Nat} {c:UInt8} {r:List UInt8} (h:l.drop i = 32 :: c :: r) (h4:clsB c ≠ 4) (h5:clsB c ≠ 5):gap l i = i + 1:=by
 rw [← gap_blank (l:=l) (i:=i) (by rw [cls_head h]; rfl)]
 have h1:l.drop (i + 1) = c :: r:=drop_past (s:=[32]) h
 exact gap_stop (by rw [cls_head h1]; exact h4) (by rw [cls_head h1]; exact h5)
theorem sg_fst:∀ s ∈ sgs,∃ c r,s.t.data.toList = c :: r ∧ clsB c ≠ 4 ∧ clsB c ≠ 5:=by
 intro s hs
 unfold sgs at hs
 simp only [List.mem_cons,List.not_mem_nil,or_false] at hs
 rcases hs with rfl | rfl | rfl | rfl | rfl | rfl | rfl | rfl | rfl | rfl | rfl
 all_goals exact ⟨_,_,rfl,by decide,by decide⟩
theorem scs_bin {o:Int} {a b:Ex} (h:Good (.bin o a b)) (iha:Scs (tx a) (tk a)) (ihb:Scs (tx b) (tk b)):Scs (tx (.bin o a b)) (tk (.bin o a b)):=by
 intro l i r hd hr
 have e1:tx (.bin o a b) = if o = 7 then (((⟨#[109,105,110,40]⟩ ++ tx a) ++ ⟨#[44,32]⟩) ++ tx b) ++ ⟨#[41]⟩
  else if o = 8 then (((⟨#[109,97,120,40]⟩ ++ tx a) ++ ⟨#[44,32]⟩) ++ tx b) ++ ⟨#[41]⟩
  else (((bk (lev a < (sgOf o).left) (tx a) ++ ⟨#[32]⟩) ++ (sgOf o).t) ++ ⟨#[32]⟩) ++ bk (lev b < (sgOf o).right) (tx b):=rfl
 have e2:tk (.bin o a b) = if o = 7 then (1,lMin) :: (3,[40]) :: (tk a ++ (3,[44]) :: (tk b ++ [(3,[41])]))
  else if o = 8 then (1,lMax) :: (3,[40]) :: (tk a ++ (3,[44]) :: (tk b ++ [(3,[41])]))
  else twr (lev a < (sgOf o).left) (tk a) ++ ((if (sgOf o).lev ≤ 2 then 1 else 3,(sgOf o).t.data.toList) :: twr (lev b < (sgOf o).right) (tk b)):=rfl
 rw [e1] at hd ⊢
 rw [e2]
 by_cases h7:o = 7
 ·rw [if_pos h7] at hd ⊢
  rw [if_pos h7]
  simp only [T,bytes_app] at hd ⊢
  have:=scs_two (w:=lMin) h.2.1 h.2.2 iha ihb ⟨109,[105,110],rfl,by decide,by decide,by decide⟩ (l:=l) (i:=i) (r:=r) (by rw [hd]; simp [lMin])
  rwa [show i + lMin.length + 1 + (T (tx a)).length + 1 + 1 + (T (tx b)).length + 1 = i + (([109,105,110,40]:List UInt8) ++ T (tx a) ++ [44,32] ++ T (tx b) ++ [41]).length by simp [lMin]; omega] at this
 by_cases h8:o = 8
 ·rw [if_neg h7,if_pos h8] at hd ⊢
  rw [if_neg h7,if_pos h8]
  simp only [T,bytes_app] at hd ⊢
  have:=scs_two (w:=lMax) h.2.1 h.2.2 iha ihb ⟨109,[97,120],rfl,by decide,by decide,by decide⟩ (l:=l) (i:=i) (r:=r) (by rw [hd]; simp [lMax])
  rwa [show i + lMax.length + 1 + (T (tx a)).length + 1 + 1 + (T (tx b)).length + 1 = i + (([109,97,120,40]:List UInt8) ++ T (tx a) ++ [44,32] ++ T (tx b) ++ [41]).length by simp [lMax]; omega] at this
 ·rw [if_neg h7,if_neg h8] at hd ⊢
  rw [if_neg h7,if_neg h8]
  have hm:=(sgOf_mem h.1 (by omega)).1
  obtain ⟨s,hs⟩:∃ s,s = sgOf o:=⟨_,rfl⟩
  rw [← hs] at hd hm ⊢
  have ba:=scs_bk (b:=lev a < s.left) (tx_fst h.2.1) iha
  have bb:=scs_bk (b:=lev b < s.right) (tx_fst h.2.2) ihb
  obtain ⟨d,p,hp,hsol⟩:=fst_bk (b:=lev b < s.right) (tx_fst h.2.2)
  obtain ⟨c,q,hc,h4',h5'⟩:=sg_fst s hm
  have ho:=sg_one s hm
  simp only [T,bytes_app] at hd ⊢
  have h0:l.drop i = T (bk (lev a < s.left) (tx a)) ++ ([32] ++ (T s.t ++ ([32] ++ (T (bk (lev b < s.right) (tx b)) ++ r)))):=by rw [hd]; simp
  have h1:=drop_past h0
  have h2:=drop_past h1
  have h3:=drop_past h2
  have h4:=drop_past h3
  have s0:=ba _ _ _ h0 (stop_32 _)
  rw [gap_one' (c:=c) (r:=q ++ ([32] ++ (T (bk (lev b < s.right) (tx b)) ++ r))) (by rw [h1,show T s.t = c :: q from hc]; rfl) h4' h5'] at s0
  have s1:=sc_one h2 (by rw [show T s.t = c :: q from hc]; simp) (ho _)
  rw [gap_one (c:=d) (r:=p ++ r) (by rw [h3,hp]; rfl) hsol] at s1
  have s2:=bb _ _ _ h4 hr
  have:=sc_app s0 (sc_app s1 s2)
  rwa [show i + (T (bk (lev a < s.left) (tx a))).length + [(32:UInt8)].length + (T s.t).length + [(32:UInt8)].length + (T (bk (lev b < s.right) (tx b))).length = i + (T (bk (lev a < s.left) (tx a)) ++ [32] ++ T s.t ++ [32] ++ T (bk (lev b < s.right) (tx b))).length by simp; omega] at this
theorem scs_all:∀ e:Ex,Good e → Scs (tx e) (tk e)
 | .leaf _,h => scs_leaf h
 | .un _ a,h => scs_un h (scs_all a h.2)
 | .bin _ a b,h => scs_bin h (scs_all a h.2.1) (scs_all b h.2.2)
def toksAt (l:List UInt8):Nat → List Tx → List Tok
 | _,[] => []
 | i,(k,s) :: r => ⟨k,i,s.length⟩ :: toksAt l (gap l (i + s.length)) r
theorem scan_sc {l:List UInt8}:∀ (ts:List Tx) (i j f:Nat) (acc:List Tok),Sc l i ts j → l.length ≤ j → l.length ≤ i + f → acc.length + ts.length ≤ 4000 → scanGo l f i acc = (acc ++ toksAt l i ts ++ [⟨0,j,0⟩],0,0)
 | [],i,j,f,acc,h,hj,_,_ => by
   cases h
   cases f with
   | zero => simp [scanGo,toksAt]
   | succ f => rw [scanGo,if_pos hj]; simp [toksAt]
 | (k,s) :: r,i,j,f,acc,⟨h1,h2,h3,h4,h5⟩,hj,hf,ha => by
   cases f with
   | zero => omega
   | succ f =>
     rw [List.length_cons] at ha
     have hle:i + s.length ≤ l.length:=by
      have:=congrArg List.length h3
      rw [List.length_take,List.length_drop] at this
      omega
     have hg:=(gap_bd hle).1
     rw [scanGo,if_neg (by omega),h2]
     dsimp only
     rw [if_neg (by simp),if_neg (by omega),scan_sc r _ j f _ h5 hj (by omega) (by rw [List.length_append,List.length_singleton]; omega)]
     simp [toksAt]
theorem nx_toks {s:ByteArray}:∀ (ts:List Tx) (i j:Nat) (c:Cur) (tl:List Tk),Sc (T s) i ts j → c.bad = 0 → c.L = (toksAt (T s) i ts).map (tokOf s) ++ tl → Nx c ts ∧ (onN ts.length c).L = tl
 | [],i,j,c,tl,_,_,hc => ⟨trivial,hc⟩
 | (k,x) :: r,i,j,c,tl,⟨h1,h2,h3,h4,h5⟩,hb,hc => by
   rw [toksAt,List.map_cons,List.cons_append] at hc
   have hon:on c = ⟨(toksAt (T s) (gap (T s) (i + x.length)) r).map (tokOf s) ++ tl,(tokOf s ⟨k,i,x.length⟩).l,(tokOf s ⟨k,i,x.length⟩).c,c.a1,c.a2,c.bad⟩:=by unfold on; rw [hc]
   have hnx:next c = tokOf s ⟨k,i,x.length⟩:=by unfold next; rw [if_pos hb,hc]
   have ih:=nx_toks r _ j (on c) tl h5 (by rw [hon]; exact hb) (by rw [hon])
   refine ⟨⟨by rw [hnx]; rfl,?_,ih.1⟩,ih.2⟩
   rw [hnx]
   show s.extract i (i + x.length) = bs x
   apply ByteArray.ext
   apply Array.toList_inj.mp
   rw [ByteArray.data_extract,Array.toList_extract,List.extract_eq_take_drop,show i + x.length - i = x.length by omega]
   exact h3
theorem tk_len:∀ {e:Ex},Good e → (tk e).length ≤ 6 * (flat e).length
 | .leaf t,h => by
   show _ ≤ 6
   unfold tk
   repeat' split
   all_goals simp
 | .un o a,h => by
   have ih:=tk_len h.2
   show _ ≤ 6 * ((flat a).length + 1)
   unfold tk twr
   repeat' split
   all_goals simp only [List.length_cons,List.length_append,List.length_nil]; omega
 | .bin o a b,h => by
   have iha:=tk_len h.2.1
   have ihb:=tk_len h.2.2
   show _ ≤ 6 * ((flat a ++ flat b).length + 1)
   rw [List.length_append]
   unfold tk twr
   repeat' split
   all_goals simp only [List.length_cons,List.length_append,List.length_nil]; omega
end ExprSpec
end Go.Proofs.YtjfghaohogcfbaaGreatDoor
namespace Go.Proofs.YtjfghaohogcfbaaGreatDoor
namespace ActSpec
open CurSpec TermSpec EvalSpec NamesSpec ExprSpec ScanSpec
def tkA (t:Ta):List Tx:=if t.any then [(1,[97,110,121]),(1,T t.s)] else (1,T t.s) :: (3,[58,61]) :: tk t.e
def tkL:List Ta → List Tx
 | [] => []
 | [t] => tkA t
 | t :: u :: r => tkA t ++ (3,[44]) :: tkL (u :: r)
theorem txA_any {t:Ta} (h:t.any = true):T (txA t) = [97,110,121] ++ ([32] ++ T t.s):=by
 unfold txA
 rw [if_pos h,T,bytes_app]
 rfl
theorem txA_set {t:Ta} (h:t.any = false):T (txA t) = T t.s ++ ([32] ++ ([58,61] ++ ([32] ++ T (tx t.e)))):=by
 unfold txA
 rw [if_neg (by rw [h]; decide),T,bytes_app,bytes_app]
 simp
theorem txA_fst {t:Ta} (h:t.Ok):Fst (T (txA t)):=by
 rcases ha:t.any with _ | _
 ·rw [txA_set ha]
  obtain ⟨a,q,hs,hc,_⟩:=name_parts h.1
  rw [show T t.s = a :: q from hs]
  exact ⟨a,_,rfl,sol_1 a (.inl hc)⟩
 ·rw [txA_any ha]
  exact ⟨97,_,rfl,by decide⟩
theorem one_set (r:List UInt8):ScanSpec.one ([58,61] ++ r) = (3,[(58:UInt8),61].length,0):=ExprSpec.one_mark rfl (by decide) (by simp [markLen,marks,List.isPrefixOf])
theorem scs_act {t:Ta} (h:t.Ok):Scs (txA t) (tkA t):=by
 intro l i r hd hr
 unfold tkA
 have hn:=name_parts h.1
 rcases ha:t.any with _ | _
 ·rw [txA_set ha] at hd ⊢
  rw [if_neg (by decide)]
  obtain ⟨hg,-⟩:=h.2 ha
  obtain ⟨c,q,hc,hsol⟩:=tx_fst hg
  have h0:l.drop i = T t.s ++ ([32] ++ ([58,61] ++ ([32] ++ (T (tx t.e) ++ r)))):=by rw [hd]; simp
  have h1:=drop_past h0
  have h2:=drop_past h1
  have h3:=drop_past h2
  have h4:=drop_past h3
  have s0:=sc_word h0 hn (stop_32 _)
  rw [gap_one' (c:=58) (r:=[61] ++ ([32] ++ (T (tx t.e) ++ r))) h1 (by decide) (by decide)] at s0
  have s1:=sc_one h2 (by decide) (one_set _)
  rw [gap_one (c:=c) (r:=q ++ r) (by rw [h3,hc]; rfl) hsol] at s1
  have s2:=scs_all t.e hg _ _ _ h4 hr
  have:=sc_app s0 (sc_app s1 s2)
  rwa [show i + (T t.s).length + [(32:UInt8)].length + [(58:UInt8),61].length + [(32:UInt8)].length + (T (tx t.e)).length = i + (T t.s ++ ([32] ++ ([58,61] ++ ([32] ++ T (tx t.e))))).length by simp; omega] at this
 ·rw [txA_any ha] at hd ⊢
  rw [if_pos rfl]
  have h0:l.drop i = [97,110,121] ++ ([32] ++ (T t.s ++ r)):=by rw [hd]; simp
  have h1:=drop_past h0
  have h2:=drop_past h1
  obtain ⟨a,q,hs,hca,hw,hl⟩:=hn
  have s0:=sc_word h0 ⟨97,[110,121],rfl,by decide,by decide,by decide⟩ (stop_32 _)
  rw [gap_one (c:=a) (r:=q ++ r) (by rw [h1,show T t.s = a :: q from hs]; rfl) (sol_1 a (.inl hca))] at s0
  have s1:=sc_word h2 ⟨a,q,hs,hca,hw,hl⟩ hr
  have:=sc_app s0 s1
  rwa [show i + [(97:UInt8),110,121].length + [(32:UInt8)].length + (T t.s).length = i + ([97,110,121] ++ ([32] ++ T t.s)).length by simp; omega] at this
theorem putT_cons (t u:Ta) (r:List Ta):putT (t :: u :: r) = T (txA t) ++ ([44] ++ ([32] ++ putT (u :: r))):=by
 unfold putT
 rw [List.map_cons,Lib.join_cons,List.map_cons,Lib.join_cons]
 simp [Lib.joinTail]
theorem putT_one (t:Ta):putT [t] = T (txA t):=by unfold putT; rw [List.map_cons,List.map_nil,Lib.join_one]
theorem putT_fst {t:Ta} (h:t.Ok) (r:List Ta):Fst (putT (t :: r)):=by
 cases r with
 | nil => rw [putT_one]; exact txA_fst h
 | cons u r => rw [putT_cons]; exact fst_app (txA_fst h)
theorem sc_acts {l:List UInt8}:∀ {ts:List Ta} {i:Nat} {r:List UInt8},ts ≠ [] → (∀ t ∈ ts,t.Ok) → l.drop i = putT ts ++ r → Stop r → Sc l i (tkL ts) (gap l (i + (putT ts).length))
 | [],_,_,h,_,_,_ => absurd rfl h
 | [t],i,r,_,h,hd,hr => by
   rw [putT_one] at hd ⊢
   exact scs_act (h t (by simp)) l i r hd hr
 | t :: u :: q,i,r,_,h,hd,hr => by
   rw [putT_cons] at hd ⊢
   have h0:l.drop i = T (txA t) ++ ([44] ++ ([32] ++ (putT (u :: q) ++ r))):=by rw [hd]; simp
   have h1:=drop_past h0
   have h2:=drop_past h1
   have h3:=drop_past h2
   obtain ⟨c,z,hc,hsol⟩:=putT_fst (h u (by simp)) q
   have s0:=scs_act (h t (by simp)) l i _ h0 (stop_44 _)
   rw [gap_here (c:=44) h1 (by decide)] at s0
   have s1:=sc_one h1 (by decide) (one_comma _)
   rw [gap_one (c:=c) (r:=z ++ r) (by rw [h2,hc]; rfl) hsol] at s1
   have s2:=sc_acts (ts:=u :: q) (by simp) (fun v hv => h v (by simp only [List.mem_cons] at hv ⊢; exact .inr hv)) h3 hr
   have:=sc_app s0 (sc_app s1 s2)
   rwa [show i + (T (txA t)).length + [(44:UInt8)].length + [(32:UInt8)].length + (putT (u :: q)).length = i + (T (txA t) ++ ([44] ++ ([32] ++ putT (u :: q)))).length by simp; omega] at this
def Past (c:Cur):Prop:=(next c).k = 0 ∨ ((next c).k = 3 ∧ ExprSpec.look (next c).t = none)
theorem past_mark {c:Cur} {s:ByteArray} (h1:(next c).k = 3) (h2:(next c).t = s) (h:ExprSpec.look s = none):Past c:=.inr ⟨h1,by rw [h2]; exact h⟩
theorem past_sign {c:Cur} (h:Past c) (L k:Int):sgn c L k = none:=by
 rcases h with h | h
 ·exact end_sign h L k
 ·refine sgn_none fun s hs => ?_
  have h1:=(sgn_some hs).1
  rw [h.2] at h1
  cases h1
theorem rdE_tree {e:Ex} (hg:ExprSpec.Good e) (hk:chk (flat e) = 0) {c:Cur} (h0:c.bad = 0) (hn:Nx c (tk e)) (hp:Past (onN (tk e).length c)):rdE c = (onN (tk e).length c,flat e):=by
 have hbad:(onN (tk e).length c).bad = 0:=by rw [onN_bad]; exact h0
 have hq:Qu (lev e) (onN (tk e).length c):=fun s hs => by rw [past_sign hp] at hs; cases hs
 have hR:S (c.L.length + 1) c 1 = (onN (tk e).length c,flat e):=by
  rw [reads_all e hg c _ 1 h0 hn hq (by decide) (lev_pos hg).1 (by decide) (fit_self c)]
  exact C_stop _ _ (past_sign hp _ _)
 unfold rdE readP
 rw [hR]
 dsimp only
 rw [if_pos hbad,hk,fail_zero,if_pos rfl]
theorem bs_T (s:ByteArray):bs (T s) = s:=by apply ByteArray.ext; simp [bs]
theorem name_yes {c:Cur} {s:ByteArray} (h0:c.bad = 0) (h1:(next c).k = 1) (h2:(next c).t = bs (T s)) (hn:isName s.data.toList = true):nameC c = on c ∧ nameS c = s:=by
 rw [bs_T] at h2
 have hb:nameB c = true:=by unfold nameB; rw [h2]; simp [h0,h1,hn]
 unfold nameC nameS
 rw [if_pos hb,if_pos hb]
 exact ⟨rfl,h2⟩
theorem oneR_act {t:Ta} (h:t.Ok) {c:Cur} (h0:c.bad = 0) (hn:Nx c (tkA t)) (hp:Past (onN (tkA t).length c)):oneR c = (onN (tkA t).length c,t.ac):=by
 have h0':(on c).bad = 0:=by rw [(on_bad c).1]; exact h0
 rcases ha:t.any with _ | _
 ·have hk:tkA t = (1,T t.s) :: (3,[58,61]) :: tk t.e:=by unfold tkA; rw [if_neg (by rw [ha]; decide)]
  rw [hk] at hn hp ⊢
  obtain ⟨hg,hck⟩:=h.2 ha
  obtain ⟨h1,h2,h3,h4,h5⟩:=hn
  obtain ⟨hc,hs⟩:=name_yes h0 h1 h2 h.1
  have hna:¬ isB c 1 wAny = true:=isB_ne (by rw [h2,bs_T]; exact name_ne h.1 (by decide))
  have hw:want (on c) 3 wSet = on (on c):=if_pos (isB_yes' h0' h3 h4)
  have hac:t.ac = ⟨t.s,false,flat t.e⟩:=by unfold Ta.ac; rw [ha]; rfl
  unfold oneR
  rw [if_neg hna,hc,hs,hw,rdE_tree hg hck (c:=on (on c)) (by rw [(on_bad _).1]; exact h0') h5 hp,hac]
  rfl
 ·have hk:tkA t = [(1,[97,110,121]),(1,T t.s)]:=by unfold tkA; rw [if_pos ha]
  rw [hk] at hn ⊢
  obtain ⟨h1,h2,h3,h4,-⟩:=hn
  obtain ⟨hc,hs⟩:=name_yes h0' h3 h4 h.1
  have hya:isB c 1 wAny = true:=isB_yes' h0 h1 h2
  have hac:t.ac = ⟨t.s,true,[]⟩:=by unfold Ta.ac; rw [ha]; rfl
  unfold oneR
  rw [if_pos hya,hc,hs,hac]
  rfl
theorem allR_acts:∀ {ts:List Ta} {c:Cur} {out:List Ac},ts ≠ [] → (∀ t ∈ ts,t.Ok) → out.length + ts.length ≤ 8 → c.bad = 0 → Nx c (tkL ts) → Past (onN (tkL ts).length c) → ¬ isB (onN (tkL ts).length c) 3 wCom = true → allR c out = (onN (tkL ts).length c,out ++ ts.map Ta.ac)
 | [],_,_,h,_,_,_,_,_,_ => absurd rfl h
 | [t],c,out,_,h,h8,h0,hn,hp,hnc => by
   have h8':out.length < 8:=by simp only [List.length_cons,List.length_nil] at h8; omega
   have h1:=oneR_act (h t (by simp)) h0 hn hp
   have hs:stepR c out = (onN (tkA t).length c,out ++ [t.ac]):=by
    unfold stepR fullR
    rw [if_neg (by omega),h1]
   rw [allR_step,hs]
   exact tailR_no (c:=onN (tkA t).length c) (out:=out ++ [t.ac]) hnc
 | t :: u :: r,c,out,_,h,h8,h0,hn,hp,hnc => by
   have h8':out.length < 8:=by simp only [List.length_cons] at h8; omega
   rw [show tkL (t :: u :: r) = tkA t ++ (3,[44]) :: tkL (u :: r) from rfl] at hn hp hnc ⊢
   rw [nx_app] at hn
   obtain ⟨hn1,hn2,hn3,hn4⟩:=hn
   have h1:=oneR_act (h t (by simp)) h0 hn1 (past_mark hn2 hn3 (by decide))
   have hbad:(onN (tkA t).length c).bad = 0:=by rw [onN_bad]; exact h0
   have hs:stepR c out = (onN (tkA t).length c,out ++ [t.ac]):=by
    unfold stepR fullR
    rw [if_neg (by omega),h1]
   have hL:∀ x,onN (tkA t ++ (3,[44]) :: tkL (u :: r)).length x = onN (tkL (u :: r)).length (on (onN (tkA t).length x)):=fun x => by
    rw [List.length_append,List.length_cons,onN_add]
    rfl
   rw [hL] at hp hnc ⊢
   rw [allR_step,hs]
   unfold tailR
   dsimp only
   have hyc:isB (onN (tkA t).length c) 3 wCom = true:=isB_yes' hbad hn2 hn3
   rw [if_pos hyc,allR_acts (ts:=u :: r) (by simp) (fun v hv => h v (by simp only [List.mem_cons] at hv ⊢; exact .inr hv)) (by rw [List.length_append]; simp only [List.length_cons,List.length_nil] at h8 ⊢; omega) (by rw [(on_bad _).1]; exact hbad) hn4 hp hnc]
   simp
end ActSpec
end Go.Proofs.YtjfghaohogcfbaaGreatDoor