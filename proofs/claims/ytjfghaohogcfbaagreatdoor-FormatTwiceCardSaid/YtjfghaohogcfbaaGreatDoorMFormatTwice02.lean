/- ExprReads, KitN, KitB, joined. -/
import Derived.Test.YtjfghaohogcfbaaGreatDoorMFormatTwice01
import Derived.Test.YtjfghaohogcfbaaGreatDoorMFormatTwice00
import Derived.LoopTactic
namespace Go.Proofs.YtjfghaohogcfbaaGreatDoor
namespace ExprSpec
open CurSpec TermSpec NamesSpec
theorem bs_list (s:ByteArray):bs s.data.toList = s:=rfl
theorem list_bs (l:List UInt8):(bs l).data.toList = l:=by simp [bs]
theorem empty_of {s:ByteArray} (h:s.size = 0):s = ⟨#[]⟩:=by
 apply ByteArray.ext
 apply Array.eq_empty_of_size_eq_zero
 exact h
theorem may_num {t:Tm} (h1:t.op = 1) (hm:mayB t = true):(0 ≤ t.n ∧ t.n ≤ 1000000) ∧ t = ⟨1,t.n,⟨#[]⟩⟩:=by
 obtain ⟨o,n,s⟩:=t
 dsimp only at h1
 subst h1
 have hm':(decide (0 ≤ n) && decide (n ≤ 1000000) && decide (s.size = 0)) = true:=hm
 simp only [Bool.and_eq_true,decide_eq_true_eq] at hm'
 exact ⟨hm'.1,by rw [empty_of hm'.2]⟩
theorem may_name {t:Tm} (h2:t.op = 2 ∨ t.op = 11) (hm:mayB t = true):isName t.s.data.toList = true ∧ t = ⟨t.op,0,t.s⟩:=by
 obtain ⟨o,n,s⟩:=t
 dsimp only at h2
 unfold mayB at hm
 dsimp only at hm
 rw [if_neg (by rcases h2 with rfl | rfl <;> decide),if_pos h2] at hm
 simp only [Bool.and_eq_true,decide_eq_true_eq] at hm
 exact ⟨hm.2,by rw [hm.1]⟩
theorem may_word {t:Tm} (h9:t.op = 9 ∨ t.op = 10) (hm:mayB t = true):t = opT t.op:=by
 obtain ⟨o,n,s⟩:=t
 dsimp only at h9
 unfold mayB at hm
 dsimp only at hm
 rw [if_neg (by rcases h9 with rfl | rfl <;> decide),if_neg (by rcases h9 with rfl | rfl <;> decide)] at hm
 simp only [Bool.and_eq_true,decide_eq_true_eq] at hm
 rw [hm.1,empty_of hm.2]
 rfl
theorem leaf_ops {o:Int} (h:ar o = 0):o = 1 ∨ o = 2 ∨ o = 9 ∨ o = 10 ∨ o = 11:=by
 unfold ar at h
 split at h
 ·assumption
 split at h
 ·omega
 split at h
 ·omega
 ·omega
theorem isB_yes' {c:Cur} {k:Int} {s:ByteArray} (h0:c.bad = 0) (h1:(next c).k = k) (h2:(next c).t = s):isB c k s = true:=by simp [isB,h0,h1,h2]
theorem isB_ne {c:Cur} {k:Int} {s:ByteArray} (h:(next c).t ≠ s):¬ isB c k s = true:=fun hb => h (isB_next hb).2.2
theorem isB_nk {c:Cur} {k:Int} {s:ByteArray} (h:(next c).k ≠ k):¬ isB c k s = true:=fun hb => h (isB_next hb).2.1
theorem name_ne {s w:ByteArray} (h:isName s.data.toList = true) (hw:isName w.data.toList = false):s ≠ w:=by
 rintro rfl
 rw [h] at hw
 cases hw
theorem hd_atom {rec:Cur → Int → Pa} {c:Cur} {k:Int} (h1:¬ isB c 1 tNot = true) (h3:¬ isB c 3 tNeg = true):hd rec c k = (atom rec c,8):=by
 unfold hd
 rw [if_neg (fun h => h1 h.2),if_neg h3]
theorem want_yes {c:Cur} {k:Int} {w:List UInt8} {ww:ByteArray} (h:isB c k (bs w) = true) (hw:bs w = ww):want c k ww = on c:=by
 subst hw
 unfold want
 rw [if_pos h]
theorem reads_leaf {t:Tm} (h:Good (.leaf t)):Reads (.leaf t):=by
 intro c f k h0 hn hq hk1 hk hk7 hf
 obtain ⟨ha,hm⟩:=h
 cases f with
 | zero => exact absurd h0 hf.zero
 | succ f =>
   have key:(hd (S f) c k = ((onN (tk (.leaf t)).length c,[t]),8)) → S (f + 1) c k = C (f + 1) (lev (.leaf t)) k (onN (tk (.leaf t)).length c) (flat (.leaf t)):=by
    intro hh
    rw [S_good f k h0,hh]
    have hf1:=hf.fitHd h0 k
    rw [hh] at hf1
    exact C_fit _ _ _ hf1 (fit_on _ hf)
   apply key
   rcases leaf_ops ha with h1 | h1 | h1 | h1 | h1
   ·obtain ⟨hb,ht⟩:=may_num h1 hm
    have e:tk (.leaf t) = [(2,ValSpec.text t.n)]:=if_pos h1
    rw [e] at hn ⊢
    have hk2:(next c).k = 2:=hn.1
    have hl:(next c).t.data.toList = ValSpec.text t.n:=by rw [hn.2.1,list_bs]
    have hg:=(ValSpec.get_put t.n).2 hb
    have hE:numE c 1000000 = 0:=by
     unfold numE
     rw [if_pos ⟨h0,hk2⟩,hl,if_pos hg.2,hg.1,if_neg (by omega)]
    have hN:numN c 1000000 = t.n:=by unfold numN; rw [if_pos hE,hl,hg.1]
    have hC:numC c 1000000 = on c:=by unfold numC; rw [if_pos hE]
    rw [hd_atom (isB_nk (by omega)) (isB_nk (by omega))]
    unfold atom
    rw [if_pos hk2,hC,hN,← ht]
    rfl
   ·obtain ⟨hnm,ht⟩:=may_name (.inl h1) hm
    have e:tk (.leaf t) = [(1,t.s.data.toList)]:=by unfold tk; rw [if_neg (by omega),if_pos h1]
    rw [e] at hn ⊢
    have hk1':(next c).k = 1:=hn.1
    have hts:(next c).t = t.s:=hn.2.1
    have hw:∀ w:ByteArray,isName w.data.toList = false → ¬ isB c 1 w = true:=fun w hw => isB_ne (by rw [hts]; exact name_ne hnm hw)
    have hB:nameB c = true:=by unfold nameB; rw [decide_eq_true h0,decide_eq_true hk1',hts,hnm]; rfl
    have hC:nameC c = on c:=by unfold nameC; rw [if_pos hB]
    have hS:nameS c = t.s:=by unfold nameS; rw [if_pos hB,hts]
    rw [hd_atom (hw _ (by decide)) (isB_nk (by omega))]
    unfold atom
    rw [if_neg (by omega),if_neg (hw _ (by decide)),if_neg (hw _ (by decide)),if_neg (hw _ (by decide)),if_neg (hw _ (by decide)),if_neg (hw _ (by decide)),if_neg (isB_nk (by omega)),hC,hS]
    rw [h1] at ht
    rw [← ht]
    rfl
   ·have ht:=may_word (.inl h1) hm
    have e:tk (.leaf t) = [(1,lTrue)]:=by unfold tk; rw [if_neg (by omega),if_neg (by omega),if_pos h1]
    rw [e] at hn ⊢
    have hb:isB c 1 tTrue = true:=nx_isB h0 hn
    rw [hd_atom (isB_ne (by rw [hn.2.1]; decide)) (isB_nk (by rw [hn.1]; decide))]
    unfold atom
    rw [if_neg (by rw [hn.1]; decide),if_pos hb]
    rw [h1] at ht
    rw [← ht]
    rfl
   ·have ht:=may_word (.inr h1) hm
    have e:tk (.leaf t) = [(1,lFalse)]:=by unfold tk; rw [if_neg (by omega),if_neg (by omega),if_neg (by omega),if_pos h1]
    rw [e] at hn ⊢
    have hb:isB c 1 tFalse = true:=nx_isB h0 hn
    rw [hd_atom (isB_ne (by rw [hn.2.1]; decide)) (isB_nk (by rw [hn.1]; decide))]
    unfold atom
    rw [if_neg (by rw [hn.1]; decide),if_neg (isB_ne (by rw [hn.2.1]; decide)),if_pos hb]
    rw [h1] at ht
    rw [← ht]
    rfl
   ·obtain ⟨hnm,ht⟩:=may_name (.inr h1) hm
    have e:tk (.leaf t) = [(1,lIn),(3,[40]),(1,t.s.data.toList),(3,[41])]:=by unfold tk; rw [if_neg (by omega),if_neg (by omega),if_neg (by omega),if_neg (by omega)]
    rw [e] at hn ⊢
    obtain ⟨n1,n2,n4,n5,n7,n8,n10,n11,_⟩:=hn
    have hb:isB c 1 tIn = true:=isB_yes' h0 n1 n2
    have h01:(on c).bad = 0:=(on_bad c).1.trans h0
    have hw1:want (on c) 3 tOpen = on (on c):=want_yes (isB_yes' h01 n4 n5) rfl
    have h02:(on (on c)).bad = 0:=(on_bad _).1.trans h01
    have hB:nameB (on (on c)) = true:=by unfold nameB; rw [decide_eq_true h02,decide_eq_true n7,n8,bs_list,hnm]; rfl
    have hC:nameC (on (on c)) = on (on (on c)):=by unfold nameC; rw [if_pos hB]
    have hS:nameS (on (on c)) = t.s:=by unfold nameS; rw [if_pos hB,n8,bs_list]
    have h03:(on (on (on c))).bad = 0:=(on_bad _).1.trans h02
    have hw2:want (on (on (on c))) 3 tClose = on (on (on (on c))):=want_yes (isB_yes' h03 n10 n11) rfl
    rw [hd_atom (isB_ne (by rw [n2]; decide)) (isB_nk (by rw [n1]; decide))]
    unfold atom
    rw [if_neg (by rw [n1]; decide),if_neg (isB_ne (by rw [n2]; decide)),if_neg (isB_ne (by rw [n2]; decide)),if_pos hb,hw1,hC,hS,hw2]
    rw [h1] at ht
    rw [← ht]
    rfl
theorem reads_un {o:Int} {a:Ex} (h:Good (.un o a)) (ih:Reads a):Reads (.un o a):=by
 intro c f k h0 hn hq hk1 hk hk7 hf
 have hla:=lev_pos h.2
 have ho:o = 3 ∨ o = 12:=by
  have h1:=h.1
  unfold ar at h1
  split at h1
  ·omega
  split at h1
  ·assumption
  split at h1 <;> omega
 cases f with
 | zero => exact absurd h0 hf.zero
 | succ f =>
   have hlev:lev (.un o a) = if o = 3 then 7 else 3:=rfl
   have htk:tk (.un o a) = if o = 3 then (3,[45]) :: twr (lev a < 7) (tk a) else (1,lNot) :: twr (lev a < 3) (tk a):=rfl
   rw [hlev] at hk hq ⊢
   rw [htk] at hn hq ⊢
   rcases ho with rfl | rfl
   ·rw [if_pos rfl] at hk hq hn ⊢
    rw [if_pos rfl]
    rw [if_pos rfl] at hq
    have hb:isB c 3 tNeg = true:=nx_isB h0 hn
    have hrl:=isB_real hb (by decide)
    have hfo:Fit f (on c):=fun _ => by have:=hf h0; omega
    have e1:onN ((3,[45]) :: twr (lev a < 7) (tk a):List Tx).length c = onN (twr (lev a < 7) (tk a)).length (on c):=rfl
    rw [e1] at hq ⊢
    have hS:S f (on c) 7 = (onN (twr (lev a < 7) (tk a)).length (on c),flat a):=by
     rw [reads_twr ih hrl.2.2 hn.2.2 (fun hnl => hq.mono (by omega)) (by decide) (by decide) (by decide) hla.1 hfo]
     exact C_stop f _ (stop_7 _ _)
    have hH:hd (S f) c k = ((onN (twr (lev a < 7) (tk a)).length (on c),opT 3 :: flat a),7):=by
     unfold hd
     rw [if_neg (fun h' => isB_nk (c:=c) (k:=1) (s:=tNot) (by rw [hn.1]; decide) h'.2),if_pos hb,hS]
    rw [S_good f k h0,hH]
    refine C_fit _ _ _ (fit_on _ hfo) ?_
    rw [← e1]
    exact fit_on _ hf
   ·rw [if_neg (by decide)] at hk hq hn ⊢
    rw [if_neg (by decide)]
    rw [if_neg (by decide)] at hq
    have hb:isB c 1 tNot = true:=nx_isB h0 hn
    have hrl:=isB_real hb (by decide)
    have hfo:Fit f (on c):=fun _ => by have:=hf h0; omega
    have e1:onN ((1,lNot) :: twr (lev a < 3) (tk a):List Tx).length c = onN (twr (lev a < 3) (tk a)).length (on c):=rfl
    rw [e1] at hq ⊢
    have hS:S f (on c) 3 = (onN (twr (lev a < 3) (tk a)).length (on c),flat a):=by
     rw [reads_twr ih hrl.2.2 hn.2.2 (fun hnl => hq.mono (by omega)) (by decide) (by decide) (by decide) hla.1 hfo]
     refine C_stop f _ (qu_stop hq (fun s hm h1 h2 => ?_))
     have:=sg_lev hm
     omega
    have hH:hd (S f) c k = ((onN (twr (lev a < 3) (tk a)).length (on c),opT 12 :: flat a),3):=by
     unfold hd
     rw [if_pos ⟨hk,hb⟩,hS]
    rw [S_good f k h0,hH]
    refine C_fit _ _ _ (fit_on _ hfo) ?_
    rw [← e1]
    exact fit_on _ hf
theorem bin_ops {o:Int} (_h:ar o = 2):o = 7 ∨ o = 8 ∨ ¬ (o = 7 ∨ o = 8):=by omega
theorem look_sg {o:Int} (ho:ar o = 2) (h7:¬ (o = 7 ∨ o = 8)):look (bs (sgOf o).t.data.toList) = some (sgOf o):=by
 rw [bs_list]
 have hm:=(sgOf_mem ho h7).1
 generalize sgOf o = s at hm
 unfold sgs at hm
 simp only [List.mem_cons,List.not_mem_nil,or_false] at hm
 rcases hm with rfl | rfl | rfl | rfl | rfl | rfl | rfl | rfl | rfl | rfl | rfl <;> rfl
theorem reads_two {o:Int} {a b:Ex} {w:List UInt8} {ww:ByteArray} (ha:Good a) (hb:Good b) (iha:Reads a) (ihb:Reads b) {c:Cur} {f:Nat} {k:Int} (h0:c.bad = 0) (hww:bs w = ww)
 (hat:∀ rec:Cur → Int → Pa,(next c).k = 1 → (next c).t = ww → hd rec c k = (two rec (on c) o,8)) (hn:Nx c ((1,w) :: (3,[40]) :: (tk a ++ (3,[44]) :: (tk b ++ [(3,[41])])))) (hf:Fit f c) :
 S f c k = C f 8 k (onN ((1,w) :: (3,[40]) :: (tk a ++ (3,[44]) :: (tk b ++ [(3,[41])])):List Tx).length c) (opT o :: (flat a ++ flat b)):=by
 cases f with
 | zero => exact absurd h0 hf.zero
 | succ f =>
   have hr0:=next_real (c:=c) (by rw [hn.1]; decide)
   have h01:=hr0.2.2
   have hw1:want (on c) 3 tOpen = on (on c):=want_yes (nx_isB h01 hn.2.2) rfl
   have h02:(on (on c)).bad = 0:=(on_bad _).1.trans h01
   have hfo:Fit f (on (on c)):=fun _ => by have:=hf h0; have:=on_len (on c); omega
   obtain ⟨na,nc⟩:=(nx_app _ _ _).1 hn.2.2.2.2
   have h03:(onN (tk a).length (on (on c))).bad = 0:=by rw [onN_bad]; exact h02
   have hs1:∀ L k,sgn (onN (tk a).length (on (on c))) L k = none:=no_sign nc.2.1 (by decide)
   have hS1:S f (on (on c)) 1 = (onN (tk a).length (on (on c)),flat a):=by
    rw [iha _ f 1 h02 na (fun s hs => by rw [hs1] at hs; cases hs) (by decide) (lev_pos ha).1 (by decide) hfo]
    exact C_stop f _ (hs1 _ _)
   have hw2:want (onN (tk a).length (on (on c))) 3 tComma = on (onN (tk a).length (on (on c))):=want_yes (nx_isB h03 nc) rfl
   obtain ⟨nb,ne⟩:=(nx_app _ _ _).1 nc.2.2
   have h04:(on (onN (tk a).length (on (on c)))).bad = 0:=(on_bad _).1.trans h03
   have hs2:∀ L k,sgn (onN (tk b).length (on (onN (tk a).length (on (on c))))) L k = none:=no_sign ne.2.1 (by decide)
   have hf2:Fit f (on (onN (tk a).length (on (on c)))):=fun _ => by have h1:=hfo h02; have h2:=onN_len (tk a).length (on (on c)); have h3:=on_len (onN (tk a).length (on (on c))); omega
   have hS2:S f (on (onN (tk a).length (on (on c)))) 1 = (onN (tk b).length (on (onN (tk a).length (on (on c)))),flat b):=by
    rw [ihb _ f 1 h04 nb (fun s hs => by rw [hs2] at hs; cases hs) (by decide) (lev_pos hb).1 (by decide) hf2]
    exact C_stop f _ (hs2 _ _)
   have h05:(onN (tk b).length (on (onN (tk a).length (on (on c))))).bad = 0:=by rw [onN_bad]; exact h04
   have hw3:want (onN (tk b).length (on (onN (tk a).length (on (on c))))) 3 tClose = on (onN (tk b).length (on (onN (tk a).length (on (on c))))):=want_yes (nx_isB h05 ne) rfl
   have hT:two (S f) (on c) o = (on (onN (tk b).length (on (onN (tk a).length (on (on c))))),opT o :: (flat a ++ flat b)):=by
    unfold two
    simp only [hw1,hS1,hw2,hS2,hw3]
   have hlen:((1,w) :: (3,[40]) :: (tk a ++ (3,[44]) :: (tk b ++ [(3,[41])])):List Tx).length = 2 + ((tk a).length + (1 + ((tk b).length + 1))):=by simp; omega
   have hend:onN ((1,w) :: (3,[40]) :: (tk a ++ (3,[44]) :: (tk b ++ [(3,[41])])):List Tx).length c = on (onN (tk b).length (on (onN (tk a).length (on (on c))))):=by
    rw [hlen,onN_add,onN_add,onN_add,onN_add]
    rfl
   rw [S_good f k h0,hat (S f) hn.1 (by rw [hn.2.1,hww]),hT,hend]
   refine C_fit _ _ _ ?_ ?_
   ·intro _
    have h1:=hf2 h04
    have h2:=onN_len (tk b).length (on (onN (tk a).length (on (on c))))
    have h3:=on_len (onN (tk b).length (on (onN (tk a).length (on (on c)))))
    dsimp only
    omega
   ·rw [← hend]; exact fit_on _ hf
theorem reads_bin {o:Int} {a b:Ex} (h:Good (.bin o a b)) (iha:Reads a) (ihb:Reads b):Reads (.bin o a b):=by
 intro c f k h0 hn hq hk1 hk hk7 hf
 obtain ⟨har,ha,hb⟩:=h
 have hla:=lev_pos ha
 have hlb:=lev_pos hb
 have htk:tk (.bin o a b) = if o = 7 then (1,lMin) :: (3,[40]) :: (tk a ++ (3,[44]) :: (tk b ++ [(3,[41])]))
  else if o = 8 then (1,lMax) :: (3,[40]) :: (tk a ++ (3,[44]) :: (tk b ++ [(3,[41])]))
  else twr (lev a < (sgOf o).left) (tk a) ++ ((if (sgOf o).lev ≤ 2 then 1 else 3,(sgOf o).t.data.toList) :: twr (lev b < (sgOf o).right) (tk b)):=rfl
 have hlev:lev (.bin o a b) = if o = 7 ∨ o = 8 then 8 else (sgOf o).lev:=rfl
 have hfl:flat (.bin o a b) = opT o :: (flat a ++ flat b):=rfl
 rw [htk] at hn hq ⊢
 rw [hlev] at hk hq ⊢
 rw [hfl]
 rcases bin_ops har with rfl | rfl | h7
 ·rw [if_pos rfl] at hn hq ⊢
  rw [if_pos (.inl rfl)]
  refine reads_two (ww:=tMin) ha hb iha ihb h0 rfl (fun rec hk ht => ?_) hn hf
  rw [hd_atom (isB_ne (by rw [ht]; decide)) (isB_nk (by omega))]
  unfold atom
  rw [if_neg (by omega),if_neg (isB_ne (by rw [ht]; decide)),if_neg (isB_ne (by rw [ht]; decide)),if_neg (isB_ne (by rw [ht]; decide)),if_pos (isB_yes' h0 hk ht)]
 ·rw [if_neg (show ¬ (8:Int) = 7 by decide),if_pos rfl] at hn hq ⊢
  rw [if_pos (.inr rfl)]
  refine reads_two (ww:=tMax) ha hb iha ihb h0 rfl (fun rec hk ht => ?_) hn hf
  rw [hd_atom (isB_ne (by rw [ht]; decide)) (isB_nk (by omega))]
  unfold atom
  rw [if_neg (by omega),if_neg (isB_ne (by rw [ht]; decide)),if_neg (isB_ne (by rw [ht]; decide)),if_neg (isB_ne (by rw [ht]; decide)),if_neg (isB_ne (by rw [ht]; decide)),if_pos (isB_yes' h0 hk ht)]
 ·have h77:o ≠ 7:=fun e => h7 (.inl e)
  have h88:o ≠ 8:=fun e => h7 (.inr e)
  rw [if_neg h77,if_neg h88] at hn hq ⊢
  rw [if_neg h7] at hk hq ⊢
  obtain ⟨hm,hop⟩:=sgOf_mem har h7
  have hlk:=look_sg har h7
  obtain ⟨s,hs⟩:∃ s,s = sgOf o:=⟨_,rfl⟩
  rw [← hs] at hn hq hk hm hop hlk ⊢
  obtain ⟨q1,q2,q3,q4,q5,q6,q7⟩:=sg_lev hm
  obtain ⟨na,ns⟩:=(nx_app _ _ _).1 hn
  have hb1:(onN (twr (lev a < s.left) (tk a)).length c).bad = 0:=by rw [onN_bad]; exact h0
  have hkd:(next (onN (twr (lev a < s.left) (tk a)).length c)).k = 3 ∨ (next (onN (twr (lev a < s.left) (tk a)).length c)).k = 1:=by
   rw [ns.1]; split <;> simp
  have hlk':look (next (onN (twr (lev a < s.left) (tk a)).length c)).t = some s:=by rw [ns.2.1]; exact hlk
  have hqa:¬ lev a < s.left → Qu (lev a) (onN (twr (lev a < s.left) (tk a)).length c):=fun hnl x hx => by
   have:=(sgn_some hx).1
   rw [hlk'] at this
   cases this
   omega
  have hS:S f c k = C f (if lev a < s.left then 8 else lev a) k (onN (twr (lev a < s.left) (tk a)).length c) (flat a) :=
   reads_twr iha h0 na hqa hk1 (by omega) (by have:=q3; unfold first at this; split at this <;> omega) hla.1 hf
  have hsg:sgn (onN (twr (lev a < s.left) (tk a)).length c) (if lev a < s.left then 8 else lev a) k = some s:=by
   refine sgn_mk hlk' hkd ?_ hk
   split
   ·have:=q3; unfold first at this; split at this <;> omega
   ·omega
  cases f with
  | zero => exact absurd h0 hf.zero
  | succ f =>
    have hf1:Fit (f + 1) (onN (twr (lev a < s.left) (tk a)).length c):=fit_on _ hf
    have hfo:=hf1.fitOn hsg
    have h02:(on (onN (twr (lev a < s.left) (tk a)).length c)).bad = 0:=(on_bad _).1.trans hb1
    have hend:onN (twr (lev a < s.left) (tk a) ++ ((if s.lev ≤ 2 then (1:Int) else 3,s.t.data.toList) :: twr (lev b < s.right) (tk b))).length c = onN (twr (lev b < s.right) (tk b)).length (on (onN (twr (lev a < s.left) (tk a)).length c)):=by
     rw [List.length_append,onN_add]
     rfl
    rw [hend] at hq ⊢
    have hS2:S f (on (onN (twr (lev a < s.left) (tk a)).length c)) s.right = (onN (twr (lev b < s.right) (tk b)).length (on (onN (twr (lev a < s.left) (tk a)).length c)),flat b):=by
     rw [reads_twr ihb h02 ns.2.2 (fun hnl => hq.mono (by omega)) (by omega) (Int.le_refl _) (by omega) hlb.1 hfo]
     refine C_stop f _ (qu_stop hq (fun x hx h1 h2 => ?_))
     have:=sg_lev hx
     omega
    rw [hS,C_step f (flat a) hsg,hS2,hop]
    refine C_fit _ _ _ (fit_on _ hfo) ?_
    rw [← hend]
    exact fit_on _ hf
theorem reads_all:∀ e:Ex,Good e → Reads e
 | .leaf _,h => reads_leaf h
 | .un _ a,h => reads_un h (reads_all a h.2)
 | .bin _ a b,h => reads_bin h (reads_all a h.2.1) (reads_all b h.2.2)
end ExprSpec
end Go.Proofs.YtjfghaohogcfbaaGreatDoor
namespace Go.Proofs.YtjfghaohogcfbaaGreatDoor
open Go.RowKit
def Rdk (k:Nat) (w:World) (v:Value) (n:Nat) (xs:List Value):Prop :=
 ∃ (A:Option Addr) (c:Nat),v = .slice A n c ∧ n ≤ c ∧ xs.length = n * k ∧ (0 < n → ∃ b off,A = some ⟨b,off,none⟩ ∧ b < w.heap.size ∧ ∀ j u,xs[j]? = some u → w.cell? ⟨b,off + j,none⟩ = some u)
section
variable {k n:Nat} {w w':World} {v:Value} {xs:List Value}
theorem Rdk.keep (h:Rdk k w v n xs) (hb:Below w.heap.size w w'):Rdk k w' v n xs:=by
 obtain ⟨A,c,rfl,hc,hl,hA⟩:=h
 refine ⟨A,c,rfl,hc,hl,fun h0 => ?_⟩
 obtain ⟨b,off,rfl,hlt,hcell⟩:=hA h0
 exact ⟨b,off,rfl,Nat.lt_of_lt_of_le hlt hb.size,fun j u hj => (hb.cell (p:=⟨b,off + j,none⟩) hlt).trans (hcell j u hj)⟩
theorem Rdk.alloc (h:Rdk k w v n xs) (o:Obj):Rdk k (w.alloc o) v n xs:=h.keep ((Below.refl _ _).alloc (Nat.le_refl _) _)
theorem Rdk.nil (k:Nat) (w:World):Rdk k w (.slice none 0 0) 0 []:=⟨none,0,rfl,Nat.le_refl _,by simp,fun h => absurd h (by omega)⟩
theorem Rdk.own {base:Nat} {e:TypeId} (h:w.ownsRow base e k v n xs):Rdk k w v n xs:=by
 obtain ⟨hl,hv⟩:=h
 rcases hv with ⟨rfl,rfl⟩ | ⟨g,cap,cur,rfl,hbase,hb,hnc,hcm,hcs,ht⟩
 ·exact ⟨none,0,rfl,Nat.le_refl _,hl,fun h => absurd h (by omega)⟩
 ·refine ⟨_,cap,rfl,hnc,hl,fun _ => ⟨g,0,rfl,(Array.getElem?_eq_some_iff.1 hb).1,fun j u hj => ?_⟩⟩
  have hj':j < xs.length:=(List.getElem?_eq_some_iff.1 hj).1
  rw [← ht,List.getElem?_take_of_lt (by omega),Array.getElem?_toList] at hj
  simp [World.cell?,hb,hj]
end
theorem flat_get {α:Type} {k:Nat} {f:α → List Value} (hf:∀ a,(f a).length = k):∀ {l:List α} {i j:Nat} {a:α},l[i]? = some a → j < k → (l.flatMap f)[i * k + j]? = (f a)[j]?
 | [],_,_,_,h,_ => by simp at h
 | b :: t,0,j,a,h,hj => by
   simp at h; subst h
   rw [List.flatMap_cons,Nat.zero_mul,Nat.zero_add,List.getElem?_append_left (by rw [hf]; exact hj)]
 | b :: t,i + 1,j,a,h,hj => by
   rw [List.flatMap_cons,List.getElem?_append_right (by rw [hf,Nat.add_mul]; omega),hf,show (i + 1) * k + j - k = i * k + j by rw [Nat.add_mul]; omega]
   exact flat_get hf (l:=t) (by simpa using h) hj
theorem flat_length {α:Type} {k:Nat} {f:α → List Value} (hf:∀ a,(f a).length = k) (l:List α):(l.flatMap f).length = l.length * k:=by
 induction l with
 | nil => simp
 | cons b t ih => rw [List.flatMap_cons,List.length_append,hf,ih,List.length_cons,Nat.add_mul]; omega
section
variable {P:Program} (w:World)
theorem run_append_rdk (base:Nat) (t ty e:TypeId) (i:TypeInfo) (z:Value) (k bytes:Nat) (ht:P.underlying t = some (.slice e)) (hi:P.info? e = some i) (hz:i.zero = some z)
 (hsize:i.size = k) (hby:i.bytes = bytes) (hzs:z.cells.size = k) (hk:0 < k)
 (v:Value) (n:Nat) (xs:List Value) (hown:w.ownsRow base e k v n xs) (x:Value) (m:Nat) (news:List Value) (hx:Rdk k w x m news) (h1:∀ u ∈ news,u.oneCell' = true)
 (h63:n + m ≤ maxLen) (hbytes:(n + m) * bytes ≤ 140737488355328) (hbase:base ≤ w.heap.size) :
 ∃ v' w',(Builtin.append_ #[t,t] ty #[v,x]).run P w = .ok v' w' ∧ w'.ownsRow base e k v' (n + m) (xs ++ news) ∧ w.grownBy w' v.ownBlock ∧
   (v'.ownBlock = v.ownBlock ∨ v'.ownBlock = some w.heap.size):=by
 obtain ⟨A,c,rfl,hmc,hl,hA⟩:=hx
 rcases Nat.eq_zero_or_pos m with h0 | h0
 ·subst h0
  have hn:news = []:=List.eq_nil_of_length_eq_zero (by omega)
  subst hn
  rcases A with _ | a
  ·refine ⟨v,w,?_,by simpa using hown,⟨rfl,rfl,rfl,Nat.le_refl _,fun _ _ _ => rfl⟩,.inl rfl⟩
   rcases hown.2 with ⟨rfl,rfl⟩ | ⟨g,cap,cur,rfl,_,_,hnc,_⟩
   ·simp [Builtin.append_,run_underlying ht,sizeOf,typeInfo,hi,Builtin.lenOf,Builtin.firstCells]
   ·simp [Builtin.append_,run_underlying ht,sizeOf,typeInfo,hi,Builtin.lenOf,Builtin.firstCells,hnc,storeCells]
  ·obtain ⟨v',w',hrun,h2,h3,_,h5⟩:=run_append_own_at (P:=P) w base t ty e i z k bytes ht hi hz hsize hby hzs hk v n xs hown a 0 c [] (by simp) (by simp) (by simp) (by simpa using h63) (by simpa using hbytes) hbase
   exact ⟨v',w',hrun,by simpa using h2,h3,h5⟩
 ·obtain ⟨b,off,rfl,hlt,hcell⟩:=hA h0
  obtain ⟨v',w',hrun,h2,h3,_,h5⟩:=run_append_own_at (P:=P) w base t ty e i z k bytes ht hi hz hsize hby hzs hk v n xs hown ⟨b,off,none⟩ m c news hl
   (fun j u hj => by rw [addr_add]; exact hcell j u hj) h1 h63 hbytes hbase
  exact ⟨v',w',hrun,h2,h3,h5⟩
theorem wpList_append_rdk {ops:Array Oper} {rest:List Oper} {o:Oper} {a:Act} {Q:Exit → Act → World → Prop} (hgd:o.guard = none) (s x:Operand) (t:TypeId)
 (ho:o.op = .call { callee:=.builtin .append,args:=#[s,x],argTypes:=#[t,t] })
 (base:Nat) (e:TypeId) (i:TypeInfo) (z:Value) (k bytes:Nat) (ht:P.underlying t = some (.slice e)) (hi:P.info? e = some i) (hz:i.zero = some z)
 (hsize:i.size = k) (hby:i.bytes = bytes) (hzs:z.cells.size = k) (hk:0 < k)
 (v:Value) (n:Nat) (xs:List Value) (hs:a.eval s = v) (hown:w.ownsRow base e k v n xs) (y:Value) (m:Nat) (news:List Value) (hy:a.eval x = y) (hr:Rdk k w y m news) (h1:∀ u ∈ news,u.oneCell' = true)
 (h63:n + m ≤ maxLen) (hbytes:(n + m) * bytes ≤ 140737488355328) (hbase:base ≤ w.heap.size)
 (h:∀ v' w',w'.ownsRow base e k v' (n + m) (xs ++ news) → w.grownBy w' v.ownBlock → (v'.ownBlock = v.ownBlock ∨ v'.ownBlock = some w.heap.size) → wpList P ops Q rest (a.put o.dst v') w'):wpList P ops Q (o :: rest) a w :=
 wpList_plain hgd fun _ hK => by
  obtain ⟨v',w',hrun,h2,h3,h4⟩:=run_append_rdk (P:=P) w base t o.type e i z k bytes ht hi hz hsize hby hzs hk v n xs hown y m news hr h1 h63 hbytes hbase
  unfold Oper.wp execOp
  simp only [ho,resolve,invoke,builtin,Sem.run_bind,Sem.run_pure,Result.andThen_ok,List.map_toArray,List.map_cons,List.map_nil,hs,hy,hrun]
  exact hK _ _ (h v' w' h2 h3 h4)
end
end Go.Proofs.YtjfghaohogcfbaaGreatDoor
namespace Go.Proofs.YtjfghaohogcfbaaGreatDoor
open Go.RowKit
theorem cell_of_block' {w:World} {b:Nat} {cs:Array Value} {t:TypeId} (h:w.heap[b]? = some (.cells cs t (0,0))) {i:Nat} {v:Value} (hi:cs[i]? = some v):w.cell? ⟨b,i,none⟩ = some v:=by simp [World.cell?,h,hi]
theorem free_of_block' {w:World} {b:Nat} {cs:Array Value} {t:TypeId} (h:w.heap[b]? = some (.cells cs t (0,0))) (i:Nat):w.frozen? ⟨b,i,none⟩ = false:=by simp [World.frozen?,h]
theorem block_setCell' {w:World} {b:Nat} {cs:Array Value} {t:TypeId} (h:w.heap[b]? = some (.cells cs t (0,0))) (i:Nat) (u:Value):(w.setCell ⟨b,i,none⟩ u).heap[b]? = some (.cells (cs.setIfInBounds i u) t (0,0)):=by
 have hlt:=(Array.getElem?_eq_some_iff.1 h).1
 have h':w.heap[b] = .cells cs t (0,0):=by simpa [Array.getElem?_eq_getElem hlt] using h
 show (w.heap.modify b _)[b]? = _
 rw [Array.getElem?_eq_getElem (by simpa using hlt),Array.getElem_modify_self,h']
 rfl
theorem but_refl (w:World) (v:Option Nat):w.grownBy w v:=⟨rfl,rfl,rfl,Nat.le_refl _,fun _ _ _ => rfl⟩
theorem but_trans {a b c:World} {B:Nat} (h:a.grownBy b (some B)) (k:b.grownBy c (some B)):a.grownBy c (some B) :=
 ⟨k.os.trans h.os,k.tape.trans h.tape,k.output.trans h.output,Nat.le_trans h.size k.size,fun i hi hn => (k.block i (Nat.lt_of_lt_of_le hi h.size) hn).trans (h.block i hi hn)⟩
theorem but_set {a b:World} {B:Nat} (h:a.grownBy b (some B)) (i:Nat) (u:Value):a.grownBy (b.setCell ⟨B,i,none⟩ u) (some B) :=
 but_trans h ⟨rfl,rfl,rfl,by simp [World.setCell],fun k _ hn => Below.heap_setCell _ _ _ _ (by intro e; exact hn (by rw [e]))⟩
theorem but_set_new {a b:World} {B:Nat} (h:a.grownBy b (some B)) {k:Nat} (hk:a.heap.size ≤ k) (i:Nat) (u:Value):a.grownBy (b.setCell ⟨k,i,none⟩ u) (some B) :=
 ⟨h.os,h.tape,h.output,by simp [World.setCell]; exact h.size,fun j hj hn => (Below.heap_setCell _ _ _ _ (by simp; omega)).trans (h.block j hj hn)⟩
theorem but_alloc {a b:World} {B:Nat} (h:a.grownBy b (some B)) (o:Obj):a.grownBy (b.alloc o) (some B) :=
 ⟨h.os,h.tape,h.output,by simp; exact Nat.le_succ_of_le h.size,fun j hj hn => (Below.heap_alloc _ _ _ (Nat.lt_of_lt_of_le hj h.size)).trans (h.block j hj hn)⟩
theorem but_drew {a b:World} {B:Nat} (h:a.grownBy b (some B)):a.grownBy b.drew (some B):=⟨h.os,h.tape,h.output,h.size,h.block⟩
theorem but_from {w w':World} {B:Nat} {o:Obj} (h:(w.alloc o).grownBy w' (some B)):w.grownBy w' (some B) :=
 ⟨h.os,h.tape,h.output,Nat.le_trans (Nat.le_succ _) (by have:=h.size; rwa [World.size_alloc] at this),fun j hj hn => (h.block j (by rw [World.size_alloc]; omega) hn).trans (heap_alloc_old _ _ hj)⟩
theorem own_keep {w w':World} {base n k:Nat} {e:TypeId} {v:Value} {xs:List Value} (h:w.ownsRow base e k v n xs) (hb:Below w.heap.size w w'):w'.ownsRow base e k v n xs:=by
 refine ⟨h.1,?_⟩
 rcases h.2 with h | ⟨g,cap,cur,h1,h2,h3,h4⟩
 ·exact .inl h
 ·exact .inr ⟨g,cap,cur,h1,h2,(hb.block g (Array.getElem?_eq_some_iff.1 h3).1).trans h3,h4⟩
theorem store_pair {w:World} {b:Nat} {T:TypeId} {x y:Value} (h:w.heap[b]? = some (.cells #[x,y] T (0,0))) (u v:Value) :
 (w.setCell ⟨b,0,none⟩ u).cell? ⟨b,0,none⟩ = some u ∧ ((w.setCell ⟨b,0,none⟩ u).setCell ⟨b,1,none⟩ v).cell? ⟨b,1,none⟩ = some v :=
 ⟨cell_of_block' (block_setCell' h 0 u) (i:=0) rfl,cell_of_block' (block_setCell' (block_setCell' h 0 u) 1 v) (i:=1) rfl⟩
theorem store_four {w:World} {b:Nat} {T:TypeId} {x y z t:Value} (h:w.heap[b]? = some (.cells #[x,y,z,t] T (0,0))) (u0 u1 u2 u3:Value) :
 (w.setCell ⟨b,0,none⟩ u0).cell? ⟨b,0,none⟩ = some u0 ∧ ((w.setCell ⟨b,0,none⟩ u0).setCell ⟨b,1,none⟩ u1).cell? ⟨b,1,none⟩ = some u1 ∧
 (((w.setCell ⟨b,0,none⟩ u0).setCell ⟨b,1,none⟩ u1).setCell ⟨b,2,none⟩ u2).cell? ⟨b,2,none⟩ = some u2 ∧
 ((((w.setCell ⟨b,0,none⟩ u0).setCell ⟨b,1,none⟩ u1).setCell ⟨b,2,none⟩ u2).setCell ⟨b,3,none⟩ u3).cell? ⟨b,3,none⟩ = some u3 :=
 ⟨cell_of_block' (block_setCell' h 0 u0) (i:=0) rfl,cell_of_block' (block_setCell' (block_setCell' h 0 u0) 1 u1) (i:=1) rfl,
  cell_of_block' (block_setCell' (block_setCell' (block_setCell' h 0 u0) 1 u1) 2 u2) (i:=2) rfl,
  cell_of_block' (block_setCell' (block_setCell' (block_setCell' (block_setCell' h 0 u0) 1 u1) 2 u2) 3 u3) (i:=3) rfl⟩
theorem own_but {w w':World} {base n k B:Nat} {e:TypeId} {v:Value} {xs:List Value} (h:w.ownsRow base e k v n xs) (hb:w.grownBy w' (some B)) (hB:B < base):w'.ownsRow base e k v n xs:=by
 refine ⟨h.1,?_⟩
 rcases h.2 with h | ⟨g,cap,cur,h1,h2,h3,h4⟩
 ·exact .inl h
 ·exact .inr ⟨g,cap,cur,h1,h2,(hb.block g (Array.getElem?_eq_some_iff.1 h3).1 (by simp; omega)).trans h3,h4⟩
theorem own_shape {w:World} {base n k:Nat} {e:TypeId} {v:Value} {xs:List Value} (h:w.ownsRow base e k v n xs):∃ A c,v = .slice A n c:=by
 rcases h.2 with ⟨h1,h2⟩ | ⟨g,cap,cur,h1,_⟩
 ·subst h2
  exact ⟨_,_,h1⟩
 ·exact ⟨_,_,h1⟩
theorem own_weak {w:World} {base base' n k:Nat} {e:TypeId} {v:Value} {xs:List Value} (h:w.ownsRow base e k v n xs) (hb:base' ≤ base):w.ownsRow base' e k v n xs:=by
 refine ⟨h.1,?_⟩
 rcases h.2 with h | ⟨g,cap,cur,h1,h2,h3⟩
 ·exact .inl h
 ·exact .inr ⟨g,cap,cur,h1,by omega,h3⟩
theorem own_block_bd {w:World} {base n k:Nat} {e:TypeId} {v:Value} {xs:List Value} (h:w.ownsRow base e k v n xs):∀ j,v.ownBlock = some j → base ≤ j ∧ j < w.heap.size:=by
 intro j hj
 rcases h.2 with ⟨h1,h2⟩ | ⟨g,cap,cur,h1,h2,h3,h4⟩
 ·subst h1; simp [Value.ownBlock] at hj
 ·subst h1
  simp [Value.ownBlock] at hj
  subst hj
  exact ⟨h2,(Array.getElem?_eq_some_iff.1 h3).1⟩
theorem cells_2 {w:World} {b:Nat} {T:TypeId} {x0 x1:Value} (h:w.heap[b]? = some (.cells #[x0,x1] T (0,0))):w.cell? ⟨b,0,none⟩ = some x0 ∧ w.cell? ⟨b,1,none⟩ = some x1 :=
 ⟨cell_of_block' h (i:=0) rfl,cell_of_block' h (i:=1) rfl⟩
theorem free_2 {w:World} {b:Nat} {T:TypeId} {cs:Array Value} (h:w.heap[b]? = some (.cells cs T (0,0))):w.frozen? ⟨b,0,none⟩ = false ∧ w.frozen? ⟨b,1,none⟩ = false :=
 ⟨free_of_block' h 0,free_of_block' h 1⟩
theorem cells_4 {w:World} {b:Nat} {T:TypeId} {x0 x1 x2 x3:Value} (h:w.heap[b]? = some (.cells #[x0,x1,x2,x3] T (0,0))):w.cell? ⟨b,0,none⟩ = some x0 ∧ w.cell? ⟨b,1,none⟩ = some x1 ∧ w.cell? ⟨b,2,none⟩ = some x2 ∧ w.cell? ⟨b,3,none⟩ = some x3 :=
 ⟨cell_of_block' h (i:=0) rfl,cell_of_block' h (i:=1) rfl,cell_of_block' h (i:=2) rfl,cell_of_block' h (i:=3) rfl⟩
theorem free_4 {w:World} {b:Nat} {T:TypeId} {cs:Array Value} (h:w.heap[b]? = some (.cells cs T (0,0))):w.frozen? ⟨b,0,none⟩ = false ∧ w.frozen? ⟨b,1,none⟩ = false ∧ w.frozen? ⟨b,2,none⟩ = false ∧ w.frozen? ⟨b,3,none⟩ = false :=
 ⟨free_of_block' h 0,free_of_block' h 1,free_of_block' h 2,free_of_block' h 3⟩
theorem cells_6 {w:World} {b:Nat} {T:TypeId} {x0 x1 x2 x3 x4 x5:Value} (h:w.heap[b]? = some (.cells #[x0,x1,x2,x3,x4,x5] T (0,0))):w.cell? ⟨b,0,none⟩ = some x0 ∧ w.cell? ⟨b,1,none⟩ = some x1 ∧ w.cell? ⟨b,2,none⟩ = some x2 ∧ w.cell? ⟨b,3,none⟩ = some x3 ∧ w.cell? ⟨b,4,none⟩ = some x4 ∧ w.cell? ⟨b,5,none⟩ = some x5 :=
 ⟨cell_of_block' h (i:=0) rfl,cell_of_block' h (i:=1) rfl,cell_of_block' h (i:=2) rfl,cell_of_block' h (i:=3) rfl,cell_of_block' h (i:=4) rfl,cell_of_block' h (i:=5) rfl⟩
theorem free_6 {w:World} {b:Nat} {T:TypeId} {cs:Array Value} (h:w.heap[b]? = some (.cells cs T (0,0))):w.frozen? ⟨b,0,none⟩ = false ∧ w.frozen? ⟨b,1,none⟩ = false ∧ w.frozen? ⟨b,2,none⟩ = false ∧ w.frozen? ⟨b,3,none⟩ = false ∧ w.frozen? ⟨b,4,none⟩ = false ∧ w.frozen? ⟨b,5,none⟩ = false :=
 ⟨free_of_block' h 0,free_of_block' h 1,free_of_block' h 2,free_of_block' h 3,free_of_block' h 4,free_of_block' h 5⟩
end Go.Proofs.YtjfghaohogcfbaaGreatDoor