/- FormMay, KitC, joined. -/
import Derived.Test.YtjfghaohogcfbaaGreatDoorMFormatTwice18
import Derived.Test.YtjfghaohogcfbaaGreatDoorMFormatTwice02
namespace Go.Proofs.YtjfghaohogcfbaaGreatDoor
namespace PrintSpec
open CurSpec TermSpec EvalSpec NamesSpec ExprSpec ScanSpec ActSpec TransSpec SynSpec
open ShapeSpec (Sh up sf SU)
theorem good_of {c d:Cur} (t:To c d) (h:d.bad = 0):c.bad = 0:=Decidable.byContradiction fun h' => t.bad h' h
theorem name_good {c:Cur} (h:(nameC c).bad = 0):c.bad = 0 ∧ isName (nameS c).data.toList = true:=by
 refine ⟨good_of (to_nameC c) h,?_⟩
 unfold nameC at h
 by_cases hn:nameB c = true
 ·unfold nameS
  rw [if_pos hn]
  simp only [nameB,Bool.and_eq_true,decide_eq_true_eq] at hn
  exact hn.2.2
 ·rw [if_neg hn] at h
  exact absurd h (fail_bad c (by decide))
theorem num_good {c:Cur} (h:(numC c 1000).bad = 0):0 ≤ numN c 1000 ∧ numN c 1000 ≤ 1000:=by
 unfold numC at h
 by_cases hn:numE c 1000 = 0
 ·have h0:=(getN_bd (next c).t.data.toList).1
  unfold numN
  rw [if_pos hn]
  unfold numE at hn
  split at hn
  ·split at hn
   ·split at hn
    ·cases hn
    ·omega
   ·rename_i h1
    exact absurd hn h1
  ·cases hn
 ·rw [if_neg hn] at h
  exact absurd h (fail_bad c hn)
theorem int_good {c:Cur} (h:(intR c).1.bad = 0):smallV (intR c).2 = true:=by
 unfold intR at h ⊢
 unfold smallV
 simp only [Bool.and_eq_true,decide_eq_true_eq]
 by_cases hm:isB c 3 wMin = true
 ·rw [if_pos hm] at h ⊢
  have:=num_good h
  show -1000 ≤ - numN (on c) 1000 ∧ - numN (on c) 1000 ≤ 1000
  omega
 ·rw [if_neg hm] at h ⊢
  have:=num_good h
  show -1000 ≤ numN c 1000 ∧ numN c 1000 ≤ 1000
  omega
theorem expr_good {c:Cur} (h:(rdE c).1.bad = 0):chk (rdE c).2 = 0:=by
 unfold rdE readP at h ⊢
 dsimp only at h ⊢
 by_cases h0:(S (c.L.length + 1) c 1).1.bad = 0
 ·rw [if_pos h0] at h ⊢
  by_cases hk:chk (S (c.L.length + 1) c 1).2 = 0
  ·dsimp only
   rw [if_pos hk]
   exact hk
  ·exact absurd h (fail_bad _ hk)
 ·rw [if_neg h0] at h
  exact absurd h h0
theorem to_rdE (c:Cur):To c (rdE c).1:=⟨(rdE_le c).1,(rdE_le c).2,fun h => rdE_ok h⟩
theorem act_good {c:Cur} (h:(oneR c).1.bad = 0):oneA (oneR c).2 = 0:=by
 unfold oneR at h ⊢
 by_cases ha:isB c 1 wAny = true
 ·rw [if_pos ha] at h ⊢
  have:=(name_good h).2
  unfold oneA
  simp [this]
 ·rw [if_neg ha] at h ⊢
  have h1:=expr_good h
  have h2:=(name_good (good_of (to_want _ _ _) (good_of (to_rdE _) h))).2
  unfold oneA
  simp [h1,h2]
theorem goR_good:∀ (f:Nat) (c:Cur) (out:List Ac),out.length ≤ 8 → (∀ a ∈ out,oneA a = 0) → (goR f c out).1.bad = 0 → (goR f c out).2.length ≤ 8 ∧ ∀ a ∈ (goR f c out).2,oneA a = 0
 | 0,c,out,h8,ha,_ => ⟨h8,ha⟩
 | f + 1,c,out,h8,ha,h => by
   have key:(stepR c out).1.bad = 0 → (stepR c out).2.length ≤ 8 ∧ ∀ a ∈ (stepR c out).2,oneA a = 0:=fun h0 => by
    have h1:=stepR_le c out
    refine ⟨?_,fun a hin => ?_⟩
    ·rw [h1.2.2.2]
     have:out.length ≠ 8:=fun e => h1.2.2.1 e h0
     omega
    ·rcases List.mem_append.1 hin with hin | hin
     ·exact ha a hin
     ·rw [List.mem_singleton.1 hin]
      exact act_good h0
   unfold goR at h ⊢
   by_cases hb:isB (stepR c out).1 3 wCom = true
   ·rw [if_pos hb] at h ⊢
    obtain ⟨k1,k2⟩:=key (isB_real hb (by decide)).1
    exact goR_good f _ _ k1 k2 h
   ·rw [if_neg hb] at h ⊢
    exact key h
theorem firstA_zero:∀ {l:List Ac},(∀ a ∈ l,oneA a = 0) → firstA l = 0
 | [],_ => rfl
 | a :: r,h => by
   rw [firstA,if_pos (h a (by simp))]
   exact firstA_zero fun b hb => h b (by simp [hb])
theorem readA_good (c:Cur):chkA (readA c).2 = 0:=by
 unfold readA
 by_cases h0:(allR c []).1.bad = 0
 ·rw [if_pos h0]
  obtain ⟨k1,k2⟩:=goR_good (c.L.length + 1) c [] (by simp) (by simp) h0
  unfold chkA
  rw [if_neg (by show ¬ 8 < (goR (c.L.length + 1) c []).2.length; omega)]
  exact firstA_zero k2
 ·rw [if_neg h0]
  rfl
theorem to_guT (c:Cur):To c (guT c).1:=⟨(guT_le c).1,(guT_le c).2,fun h => guT_ok h⟩
theorem to_acT (c:Cur):To c (acT c).1:=⟨(acT_le c).1,(acT_le c).2,fun h => acT_ok h⟩
theorem to_tgT (c:Cur):To c (tgT c).1:=⟨(tgT_le c).1,(tgT_le c).2,fun h => tgT_ok h⟩
theorem okN_of {s:ByteArray} (h:isName s.data.toList = true):okN s = true:=by unfold okN; rw [h,Bool.or_true]
theorem trans_good {c:Cur} (h:(readT c).1.bad = 0):chkT (readT c).2 = 0:=by
 have h':(seqT c).1.bad = 0:=h
 unfold readT
 dsimp only
 rw [if_pos h']
 have h4:(tgT (acT (guT (hdT c).1).1).1).1.bad = 0:=good_of (to_want _ _ _) h'
 have h3:(acT (guT (hdT c).1).1).1.bad = 0:=good_of (to_tgT _) h4
 have h2:(guT (hdT c).1).1.bad = 0:=good_of (to_acT _) h3
 have h1:(hdT c).1.bad = 0:=good_of (to_guT _) h2
 have e1:okN (hdT c).2 = true:=by
  unfold hdT at h1 ⊢
  by_cases ha:isB c 1 wAuto = true
  ·rw [if_pos ha]; rfl
  ·rw [if_neg ha] at h1 ⊢
   exact okN_of (name_good h1).2
 have e2:okN (tgT (acT (guT (hdT c).1).1).1).2 = true:=by
  unfold tgT at h4 ⊢
  by_cases ha:isB (acT (guT (hdT c).1).1).1 3 wTo = true
  ·rw [if_pos ha] at h4 ⊢
   exact okN_of (name_good h4).2
  ·rw [if_neg ha]; rfl
 have e3:(guT (hdT c).1).2.length ≠ 0 → chk (guT (hdT c).1).2 = 0:=by
  unfold guT at h2 ⊢
  by_cases ha:isB (hdT c).1 3 wBra = true
  ·rw [if_pos ha] at h2 ⊢
   exact fun _ => expr_good (good_of (to_want _ _ _) h2)
  ·rw [if_neg ha]
   exact fun h0 => absurd rfl h0
 have e4:chkA (acT (guT (hdT c).1).1).2 = 0:=by
  unfold acT at h3 ⊢
  by_cases ha:isB (guT (hdT c).1).1 3 wDo = true
  ·rw [if_pos ha] at h3 ⊢
   exact readA_good _
  ·rw [if_neg ha]; rfl
 unfold seqT chkT
 dsimp only
 rw [if_neg (by rw [e1,e2]; simp),if_neg (fun hh => hh.2 (e3 hh.1))]
 exact e4
theorem loop_good {α:Type} {q:Cur → Bool} {st:Cur → List α → Cur × List α} (G:Goes q st) (Q:List α → Prop) (hs:∀ c out,q c = true → Q out → (st c out).1.bad = 0 → Q (st c out).2) {c:Cur} {out:List α} (h0:c.bad = 0 → Q out) (h:(loopT q st c out).1.bad = 0):Q (loopT q st c out).2 :=
 loopT_ind (q:=q) (st:=st) (fun d o => d.bad = 0 → Q o) (fun d o hq ho hb => hs d o hq (ho (G.real hq).1) hb) h0 h
theorem ev_good {c:Cur} (h:(evR c).1.bad = 0):(evR c).2.length ≤ 8 ∧ ∀ e ∈ (evR c).2,isName e.data.toList = true:=by
 unfold evR at h ⊢
 by_cases ha:isB c 1 wEvent = true
 ·rw [if_pos ha] at h ⊢
  have h1:(loopT qE stE (nameC (on c)) [nameS (on c)]).1.bad = 0:=good_of (to_want _ _ _) h
  have hf:=loopT_ind (q:=qE) (st:=stE) (Few 8) (fun d o hq ho => few_E hq ho) (c:=nameC (on c)) (out:=[nameS (on c)]) ⟨by simp,fun h9 => by simp at h9⟩
  refine ⟨?_,?_⟩
  ·have:=hf.1
   rcases Nat.lt_or_ge (loopT qE stE (nameC (on c)) [nameS (on c)]).2.length 9 with h' | h'
   ·show (loopT qE stE (nameC (on c)) [nameS (on c)]).2.length ≤ 8
    omega
   ·exact absurd h1 (hf.2 (by omega))
  ·refine loop_good goes_E (fun o => ∀ e ∈ o,isName e.data.toList = true) (fun d o _ ho hb e he => ?_) (fun hb e he => ?_) h1
   ·rcases List.mem_append.1 he with he | he
    ·exact ho e he
    ·rw [List.mem_singleton.1 he]
     exact (name_good hb).2
   ·rw [List.mem_singleton.1 he]
    exact (name_good hb).2
 ·rw [if_neg ha]
  exact ⟨by simp,by simp⟩
theorem var_good {c:Cur} (h:(varR c).1.bad = 0):okV (varR c).2 = true:=by
 have h4:=good_of (to_want _ _ _) (show (want (intR (want (intR (want (intR (nameC (want c 1 wVar))).1 3 wDots)).1 3 wIs)).1 3 wEnd).bad = 0 from h)
 have h3:=good_of (to_want _ _ _) (good_of (to_intR _) h4)
 have h2:=good_of (to_want _ _ _) (good_of (to_intR _) h3)
 have h1:=good_of (to_intR _) h2
 unfold okV varR
 simp only [Bool.and_eq_true]
 exact ⟨(name_good h1).2,int_good h2,int_good h3,int_good h4⟩
theorem va_good {c:Cur} (h:(vaR c).1.bad = 0):(vaR c).2.length ≤ 4 ∧ ∀ v ∈ (vaR c).2,okV v = true:=by
 have hf:=loopT_ind (q:=qV) (st:=SynSpec.stV) (Few 4) (fun d o hq ho => few_V hq ho) (c:=c) (out:=[]) ⟨by simp,fun h9 => by simp at h9⟩
 refine ⟨?_,?_⟩
 ·have:=hf.1
  rcases Nat.lt_or_ge (vaR c).2.length 5 with h' | h'
  ·omega
  ·exact absurd h (hf.2 (by show (vaR c).2.length = 5; exact Nat.le_antisymm this h'))
 ·refine loop_good goes_V (fun o => ∀ v ∈ o,okV v = true) (fun d o _ ho hb v hv => ?_) (fun _ v hv => by simp at hv) h
  rcases List.mem_append.1 hv with hv | hv
  ·exact ho v hv
  ·rw [List.mem_singleton.1 hv]
   exact var_good hb
theorem acX_good {c:Cur} {w:ByteArray}:chkA (acX c w).2 = 0:=by
 unfold acX
 by_cases ha:isB c 1 w = true
 ·rw [if_pos ha]
  exact readA_good _
 ·rw [if_neg ha]; rfl
theorem trX_good {c:Cur} (h:(trX c).1.bad = 0):(trX c).2.length ≤ 16 ∧ ∀ t ∈ (trX c).2,chkT t = 0:=by
 have hf:=loopT_ind (q:=qT) (st:=SynSpec.stT) (Few 16) (fun d o hq ho => few_T hq ho) (c:=c) (out:=[]) ⟨by simp,fun h9 => by simp at h9⟩
 refine ⟨?_,?_⟩
 ·have:=hf.1
  rcases Nat.lt_or_ge (trX c).2.length 17 with h' | h'
  ·omega
  ·exact absurd h (hf.2 (by show (trX c).2.length = 17; exact Nat.le_antisymm this h'))
 ·refine loop_good goes_T (fun o => ∀ t ∈ o,chkT t = 0) (fun d o _ ho hb t ht => ?_) (fun _ v hv => by simp at hv) h
  rcases List.mem_append.1 ht with ht | ht
  ·exact ho t ht
  ·rw [List.mem_singleton.1 ht]
   exact trans_good hb
theorem kd_cases (c:Cur):1 ≤ (kdR c).2 ∧ (kdR c).2 ≤ 3:=by
 unfold kdR
 split
 ·exact ⟨by simp,by simp⟩
 ·split
  ·exact ⟨by simp,by simp⟩
  ·exact ⟨by simp,by simp⟩
theorem ins_good {c:Cur} {par:Int} (h1:(headR c par).1.bad = 0) (h:(insR (headR c par).1).1.bad = 0):okS (setI (headR c par).2 (insR (headR c par).1).2) = true:=by
 have t1:=trX_good h
 have nm:=(name_good (show (nameC (kdR c).1).bad = 0 from h1)).2
 unfold okS
 simp only [Bool.and_eq_true,decide_eq_true_eq,List.all_eq_true]
 exact ⟨nm,acX_good,acX_good,t1.1,t1.2⟩
theorem head_good {c:Cur} {par:Int} (h1:(headR c par).1.bad = 0):okS (headR c par).2 = true:=by
 have nm:=(name_good (show (nameC (kdR c).1).bad = 0 from h1)).2
 unfold okS
 simp only [Bool.and_eq_true,decide_eq_true_eq,List.all_eq_true]
 exact ⟨nm,rfl,rfl,by show (0:Nat) ≤ 16; omega,fun t ht => absurd ht (by simp [headR])⟩
theorem body_ok {kids:Cur → Cur × List Sx} (ht:∀ d,To d (kids d).1) (hk:∀ d,(kids d).1.bad = 0 → ∀ s ∈ (kids d).2,okS s = true) (par:Int) (c:Cur) (h:(bodyS kids par c).1.bad = 0):∀ s ∈ (bodyS kids par c).2,okS s = true:=by
 unfold bodyS at h ⊢
 by_cases h1:isB (headR c par).1 3 wEnd = true
 ·rw [if_pos h1] at h ⊢
  intro s hs
  rw [List.mem_singleton.1 hs]
  exact head_good (good_of (to_on _) h)
 ·rw [if_neg h1] at h ⊢
  by_cases h2:(headR c par).2.kind = 1
  ·rw [if_pos h2] at h ⊢
   intro s hs
   rw [List.mem_singleton.1 hs]
   have h3:=good_of (to_want _ _ _) h
   exact ins_good (good_of (to_insR _) h3) h3
  ·rw [if_neg h2] at h ⊢
   have h4:=good_of (to_want _ _ _) h
   have h3:=good_of (ht _) h4
   intro s hs
   rcases List.mem_cons.1 hs with rfl | hs
   ·exact ins_good (good_of (to_insR _) h3) h3
   ·exact hk _ h4 s hs
theorem states_ok:∀ (k n:Nat) (par:Int) (c:Cur),(stR k n par c).1.bad = 0 → ∀ s ∈ (stR k n par c).2,okS s = true
 | 0,n,par,c,h => body_ok (fun d => To.refl d) (fun d _ s hs => absurd hs (by simp)) par c h
 | k + 1,n,par,c,h => by
   refine body_ok (fun d => to_loop (to_stS (to_stR k) k n) d []) (fun d hd => ?_) par c h
   refine loop_good (goes_S k n) (fun o => ∀ s ∈ o,okS s = true) (fun d' o _ ho hb s hs => ?_) (fun _ s hs => absurd hs (by simp)) hd
   rcases List.mem_append.1 hs with hs | hs
   ·exact ho s hs
   ·exact states_ok k _ _ _ hb s hs
theorem par_app {A B:List Sh} {i:Nat} (h:i < A.length):ShapeSpec.par (A ++ B) i = ShapeSpec.par A i:=by unfold ShapeSpec.par; rw [List.getElem?_append_left h]
theorem kind_app {A B:List Sh} {i:Nat} (h:i < A.length):ShapeSpec.kind (A ++ B) i = ShapeSpec.kind A i:=by unfold ShapeSpec.kind; rw [List.getElem?_append_left h]
theorem up_app {A B:List Sh}:∀ {i:Nat},i < A.length → up (A ++ B) i = up A i:=by
 intro i
 induction i using Nat.strongRecOn with
 | ind i ih =>
   intro h
   have hp:ShapeSpec.par (A ++ B) i = ShapeSpec.par A i:=par_app h
   by_cases h0:0 ≤ ShapeSpec.par A i ∧ ShapeSpec.par A i < i
   ·rw [ShapeSpec.up_par (l:=A ++ B) (by omega) (by omega),ShapeSpec.up_par h0.1 h0.2,hp,ih _ (by omega) (by omega)]
   ·rw [ShapeSpec.up_no (l:=A ++ B) (by rw [hp]; exact h0),ShapeSpec.up_no h0]
theorem sf_app {A B:List Sh} {i:Nat} (h:i < A.length):sf (A ++ B) i = sf A i:=by unfold sf; rw [up_app h]
theorem good_app {A B:List Sh} {i:Nat} (h:i < A.length):ShapeSpec.goodB (A ++ B) i = ShapeSpec.goodB A i:=by
 have hp:ShapeSpec.par (A ++ B) i = ShapeSpec.par A i:=par_app h
 have hk:ShapeSpec.kind (A ++ B) i = ShapeSpec.kind A i:=kind_app h
 unfold ShapeSpec.goodB ShapeSpec.hangB
 rw [hp,hk]
 by_cases h0:i = 0
 ·rw [if_pos h0,if_pos h0]
 ·rw [if_neg h0,if_neg h0,sf_app (i:=i - 1) (by omega)]
  by_cases h1:0 ≤ ShapeSpec.par A i ∧ ShapeSpec.par A i < i
  ·rw [kind_app (A:=A) (i:=(ShapeSpec.par A i).toNat) (by omega)]
  ·rcases Nat.lt_or_ge 0 0 with h2 | _
   ·omega
   ·by_cases h2:0 ≤ ShapeSpec.par A i
    ·have h3:¬ ShapeSpec.par A i < i:=fun h3 => h1 ⟨h2,h3⟩
     simp [h3]
    ·simp [h2]
structure Stood (n:Nat) (sh:List Sh):Prop where
 su:SU sh sh.length
 deep:∀ i,i < sh.length → (up sh i).length ≤ 11
 within:∀ i,n ≤ i → i < sh.length → n ∈ sf sh i
def HangAt (pre:List Sh) (par:Int) (dep:Nat):Prop :=
 (pre = [] ∧ par = -1 ∧ dep = 0) ∨ ∃ p:Nat,par = p ∧ p < pre.length ∧ ShapeSpec.kind pre p ≠ 1 ∧ p ∈ sf pre (pre.length - 1) ∧ (up pre p).length + 1 = dep
theorem stood_one {pre:List Sh} {kind par:Int} {dep:Nat} (hs:SU pre pre.length) (hd:∀ i,i < pre.length → (up pre i).length ≤ 11) (hh:HangAt pre par dep) (hdep:dep ≤ 11) (h1:1 ≤ kind) (h3:kind ≤ 3) :
 Stood pre.length (pre ++ [⟨kind,par⟩]) ∧ (up (pre ++ [⟨kind,par⟩]) pre.length).length = dep:=by
 have hat:(pre ++ [(⟨kind,par⟩:Sh)])[pre.length]? = some ⟨kind,par⟩:=by simp
 have hk:=ShapeSpec.kind_at hat
 have hp:=ShapeSpec.par_at hat
 have hlen:(pre ++ [(⟨kind,par⟩:Sh)]).length = pre.length + 1:=by simp
 have hup:(up (pre ++ [⟨kind,par⟩]) pre.length).length = dep:=by
  rcases hh with ⟨rfl,hpar,rfl⟩ | ⟨p,hpar,hpl,-,-,hdp⟩
  ·rfl
  ·rw [ShapeSpec.up_of (hp.trans hpar) hpl,sf_app hpl]
   exact hdp
 have hgood:ShapeSpec.goodB (pre ++ [⟨kind,par⟩]) pre.length = true:=by
  unfold ShapeSpec.goodB ShapeSpec.hangB
  rw [hk,hp]
  rcases hh with ⟨rfl,hpar,-⟩ | ⟨p,hpar,hpl,hkp,hin,-⟩
  ·simp [h1,h3,hpar]
  ·have hne:¬ pre.length = 0:=by omega
   have e1:(Int.toNat par) = p:=by omega
   simp only
   rw [if_neg hne,e1,kind_app hpl,sf_app (i:=pre.length - 1) (by omega)]
   simp only [Bool.and_eq_true,decide_eq_true_eq]
   exact ⟨⟨h1,h3⟩,⟨⟨by omega,by omega⟩,hkp⟩,hin⟩
 refine ⟨⟨fun i hi => ?_,fun i hi => ?_,fun i h1 hi => ?_⟩,hup⟩
 ·rw [hlen] at hi
  by_cases e:i = pre.length
  ·rw [e]; exact hgood
  ·rw [good_app (by omega)]
   exact hs i (by omega)
 ·rw [hlen] at hi
  by_cases e:i = pre.length
  ·rw [e,hup]; exact hdep
  ·rw [up_app (by omega)]
   exact hd i (by omega)
 ·rw [hlen] at hi
  obtain rfl:i = pre.length:=by omega
  exact ShapeSpec.sf_self _ _
theorem fail_good {c:Cur} {e:Int} (h:(fail c e).bad = 0):e = 0:=Decidable.byContradiction fun he => absurd h (fail_bad c he)
def Stands (rd:Nat → Int → Cur → Cur × List Sx) (dep:Nat):Prop:=∀ (pre:List Sh) (par:Int) (c:Cur),SU pre pre.length → (∀ i,i < pre.length → (up pre i).length ≤ 11) → HangAt pre par dep → (rd pre.length par c).1.bad = 0 →
 Stood pre.length (pre ++ (rd pre.length par c).2.map shOf) ∧ pre.length < (pre ++ (rd pre.length par c).2.map shOf).length ∧ ShapeSpec.par (pre ++ (rd pre.length par c).2.map shOf) pre.length = par
theorem body_stood {kids:Cur → Cur × List Sx} {dep:Nat} {pre:List Sh} {par:Int} (hs:SU pre pre.length) (hd:∀ i,i < pre.length → (up pre i).length ≤ 11) (hh:HangAt pre par dep) (hdep:dep ≤ 11)
 (hk:∀ (s:Sx) (d:Cur),s.kind ≠ 1 → Stood pre.length (pre ++ [shOf s]) → (up (pre ++ [shOf s]) pre.length).length = dep → (kids d).1.bad = 0 → Stood pre.length ((pre ++ [shOf s]) ++ (kids d).2.map shOf)) (c:Cur) (h:(bodyS kids par c).1.bad = 0) :
 Stood pre.length (pre ++ (bodyS kids par c).2.map shOf) ∧ pre.length < (pre ++ (bodyS kids par c).2.map shOf).length ∧ ShapeSpec.par (pre ++ (bodyS kids par c).2.map shOf) pre.length = par:=by
 obtain ⟨k1,k3⟩:=kd_cases c
 have hone:=stood_one hs hd hh hdep k1 k3
 have hp:∀ B:List Sh,ShapeSpec.par (pre ++ ([⟨(kdR c).2,par⟩] ++ B)) pre.length = par:=fun B => by
  unfold ShapeSpec.par
  simp
 unfold bodyS at h ⊢
 by_cases h1:isB (headR c par).1 3 wEnd = true
 ·rw [if_pos h1]
  refine ⟨hone.1,by simp,?_⟩
  have:=hp []
  rw [List.append_nil] at this
  exact this
 ·rw [if_neg h1] at h ⊢
  by_cases h2:(headR c par).2.kind = 1
  ·rw [if_pos h2]
   refine ⟨hone.1,by simp,?_⟩
   have:=hp []
   rw [List.append_nil] at this
   exact this
  ·rw [if_neg h2] at h ⊢
   have h4:=good_of (to_want _ _ _) h
   have h5:=hk (setI (headR c par).2 (insR (headR c par).1).2) _ h2 hone.1 hone.2 h4
   have e:pre ++ List.map shOf (setI (headR c par).2 (insR (headR c par).1).2 :: (kids (insR (headR c par).1).1).2) = (pre ++ [shOf (setI (headR c par).2 (insR (headR c par).1).2)]) ++ (kids (insR (headR c par).1).1).2.map shOf:=by simp
   refine ⟨?_,by simp,hp _⟩
   show Stood pre.length (pre ++ List.map shOf (setI (headR c par).2 (insR (headR c par).1).2 :: (kids (insR (headR c par).1).1).2))
   rw [e]
   exact h5
theorem states_stand:∀ (k:Nat),1 ≤ k → k ≤ 12 → Stands (stR k) (12 - k)
 | 0,h,_ => absurd h (by omega)
 | k + 1,_,hk12 => by
   intro pre par c hs hd hh h
   refine body_stood hs hd hh (by omega) (fun s d hk1 hst hup hb => ?_) c h
   have hlen:(pre ++ [shOf s]).length = pre.length + 1:=by simp
   have key:(loopT qS (stS (stR k) k pre.length) d []).1.bad = 0 → Stood pre.length ((pre ++ [shOf s]) ++ (loopT qS (stS (stR k) k pre.length) d []).2.map shOf):=fun hbad => by
    refine loop_good (goes_S k pre.length) (fun o => Stood pre.length ((pre ++ [shOf s]) ++ o.map shOf)) (fun c' o _ ho hb' => ?_) (fun _ => by simpa using hst) hbad
    obtain ⟨A,hA⟩:∃ A,A = (pre ++ [shOf s]) ++ o.map shOf:=⟨_,rfl⟩
    rw [← hA] at ho
    have hAl:A.length = pre.length + 1 + o.length:=by rw [hA]; simp; omega
    have hin:pre.length < (pre ++ [shOf s]).length:=by omega
    have hb2:(stR k (pre.length + 1 + o.length) pre.length (fail c' (room (pre.length + 1 + o.length:Nat) (13 - k)))).1.bad = 0:=hb'
    have hroom:=fail_good (good_of (to_stR _ _ _ _) hb2)
    have hk0:1 ≤ k:=by
     rcases Nat.eq_zero_or_pos k with rfl | h0
     ·unfold room at hroom
      split at hroom
      ·cases hroom
      ·rw [if_pos (show (12:Int) < 13 - ((0:Nat):Int) by omega)] at hroom
       cases hroom
     ·exact h0
    have hupA:(up A pre.length).length = 12 - (k + 1):=by rw [hA,up_app hin]; exact hup
    have hkA:ShapeSpec.kind A pre.length ≠ 1:=by
     rw [hA,kind_app hin]
     unfold ShapeSpec.kind
     simpa [shOf] using hk1
    rw [← hAl] at hb2
    have ih:=states_stand k hk0 (by omega) A (pre.length:Int) _ ho.su ho.deep (.inr ⟨pre.length,rfl,by omega,hkA,ho.within (A.length - 1) (by omega) (by omega),by omega⟩) hb2
    obtain ⟨i1,i2,i3⟩:=ih
    have e:(pre ++ [shOf s]) ++ (o ++ (stR k A.length pre.length (fail c' (room (pre.length + 1 + o.length:Nat) (13 - k)))).2).map shOf = A ++ (stR k A.length pre.length (fail c' (room (pre.length + 1 + o.length:Nat) (13 - k)))).2.map shOf:=by rw [hA]; simp
    show Stood pre.length ((pre ++ [shOf s]) ++ (o ++ (stR k (pre.length + 1 + o.length) pre.length (fail c' (room (pre.length + 1 + o.length:Nat) (13 - k)))).2).map shOf)
    rw [← hAl] at e ⊢
    rw [e]
    refine ⟨i1.su,i1.deep,fun i h1 h2 => ?_⟩
    rcases Nat.lt_or_ge i A.length with hi | hi
    ·rw [sf_app hi]
     exact ho.within i h1 hi
    ·have h5:=i1.within i hi h2
     refine ShapeSpec.sf_sub h5 ?_
     have:up (A ++ (stR k A.length pre.length (fail c' (room A.length (13 - k)))).2.map shOf) A.length = sf (A ++ (stR k A.length pre.length (fail c' (room A.length (13 - k)))).2.map shOf) pre.length:=ShapeSpec.up_of i3 (by omega)
     exact ShapeSpec.up_in (by rw [this]; exact ShapeSpec.sf_self _ _)
   exact key hb
theorem read_may {c:Cur} (h:(readC c).1.bad = 0):mayC (readC c).2 = true:=by
 have h':(seqC c).1.bad = 0:=h
 have e:(readC c).2 = (seqC c).2:=by
  unfold readC
  dsimp only
  rw [if_pos h']
 rw [e]
 have h5:(stR 12 0 (-1) (vaR (evR (want (nameC (want c 1 wChart)) 3 wOpen)).1).1).1.bad = 0:=good_of (to_want _ _ _) h'
 have h4:=good_of (to_stR _ _ _ _) h5
 have h3:=good_of (to_vaR _) h4
 have h2:=good_of (to_evR _) h3
 have h1:=good_of (to_want _ _ _) h2
 have nm:=(name_good h1).2
 obtain ⟨e1,e2⟩:=ev_good h3
 obtain ⟨v1,v2⟩:=va_good h4
 have so:=states_ok _ _ _ _ h5
 obtain ⟨st,hpos,-⟩:=states_stand 12 (by omega) (by omega) [] (-1) (vaR (evR (want (nameC (want c 1 wChart)) 3 wOpen)).1).1 (fun i hi => absurd hi (by simp)) (fun i hi => absurd hi (by simp)) (.inl ⟨rfl,rfl,rfl⟩) h5
 have hf:=few_stR 12 0 (-1) (vaR (evR (want (nameC (want c 1 wChart)) 3 wOpen)).1).1 ⟨by omega,fun h => by omega⟩
 obtain ⟨L,hL⟩:∃ L,L = (stR 12 0 (-1) (vaR (evR (want (nameC (want c 1 wChart)) 3 wOpen)).1).1).2:=⟨_,rfl⟩
 have h60:L.length ≤ 60:=by
  have:=hf.1
  rw [← hL] at this
  rcases Nat.lt_or_ge L.length 61 with h' | h'
  ·omega
  ·exact absurd h5 (hf.2 (by rw [← hL]; omega))
 have hsh:ShapeSpec.chk (L.map shOf) = 0:=by
  have st':Stood 0 (L.map shOf):=by rw [hL]; simpa using st
  have hp':0 < (L.map shOf).length:=by rw [hL]; simpa using hpos
  unfold ShapeSpec.chk
  rw [if_neg (by rw [List.length_map]; omega),if_neg (by rw [ShapeSpec.stand_of hp' st'.su]; decide),if_neg]
  simp only [ShapeSpec.deepB,Bool.not_eq_true,List.any_eq_false,List.mem_range,decide_eq_true_eq]
  intro i hi
  have:=st'.deep i hi
  omega
 simp only [mayC,Bool.and_eq_true,decide_eq_true_eq,List.all_eq_true]
 refine ⟨nm,e1,v1,?_,e2,v2,so⟩
 show ShapeSpec.chk ((stR 12 0 (-1) (vaR (evR (want (nameC (want c 1 wChart)) 3 wOpen)).1).1).2.map shOf) = 0
 rw [← hL]
 exact hsh
end PrintSpec
end Go.Proofs.YtjfghaohogcfbaaGreatDoor
namespace Go.Proofs.YtjfghaohogcfbaaGreatDoor
namespace KitC
open Go.RowKit
theorem below_one (w:World) (o:Obj):Below w.heap.size w (w.alloc o):=(Below.refl _ _).alloc (Nat.le_refl _) _
theorem below_pair (w:World) (o p:Obj):Below w.heap.size w ((w.alloc o).alloc p):=((Below.refl _ _).alloc (Nat.le_refl _) _).alloc (by simp) _
theorem pair_blocks {w w2:World} {o p:Obj} (hb:Below ((w.alloc o).alloc p).heap.size ((w.alloc o).alloc p) w2) :
 w2.heap[w.heap.size]? = some o ∧ w2.heap[w.heap.size + 1]? = some p ∧ Below w.heap.size w w2 ∧ w.heap.size + 1 < w2.heap.size:=by
 have hz:=hb.size
 simp only [World.size_alloc] at hz
 refine ⟨(hb.block _ (by simp; omega)).trans ((heap_alloc_old _ _ (by simp)).trans (heap_alloc_new _ _)),(hb.block _ (by simp)).trans ?_,?_,by omega⟩
 ·have:=heap_alloc_new (w.alloc o) p
  rwa [World.size_alloc] at this
 ·exact (below_pair w o p).trans (hb.mono (by simp; omega))
theorem one_block {w w2:World} {o:Obj} (hb:Below (w.alloc o).heap.size (w.alloc o) w2):w2.heap[w.heap.size]? = some o ∧ Below w.heap.size w w2 ∧ w.heap.size < w2.heap.size:=by
 have hz:=hb.size
 simp only [World.size_alloc] at hz
 exact ⟨(hb.block _ (by simp)).trans (heap_alloc_new _ _),((Below.refl _ _).alloc (Nat.le_refl _) _).trans (hb.mono (by simp)),by omega⟩
theorem block_on {w w2:World} {b:Nat} {o:Obj} (h:w.heap[b]? = some o) (hb:Below w.heap.size w w2):w2.heap[b]? = some o:=(hb.block b (Array.getElem?_eq_some_iff.1 h).1).trans h
end KitC
end Go.Proofs.YtjfghaohogcfbaaGreatDoor