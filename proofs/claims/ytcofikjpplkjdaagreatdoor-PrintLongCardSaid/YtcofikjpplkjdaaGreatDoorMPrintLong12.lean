/- ActIn, TransMem, ExprPart, ExprRead, ExprRef, ExprRefLev, joined. -/
import Derived.Test.YtcofikjpplkjdaaGreatDoorMPrintLong11
import Derived.Test.YtcofikjpplkjdaaGreatDoorMPrintLong00
import Derived.Test.YtcofikjpplkjdaaGreatDoorMPrintLong06
import Derived.Test.YtcofikjpplkjdaaGreatDoorMPrintLong05
import Derived.Test.YtcofikjpplkjdaaGreatDoorMPrintLong10
import Derived.Test.YtcofikjpplkjdaaGreatDoorMPrintLong09
import Derived.Deep.LoopGhost
import Derived.Test.YtcofikjpplkjdaaGreatDoorMPrintLong07
import Derived.Test.YtcofikjpplkjdaaGreatDoorMPrintLong03
import Derived.Test.YtcofikjpplkjdaaGreatDoorMPrintLong04
namespace Go.Proofs.YtcofikjpplkjdaaGreatDoor
open Go.RowKit TermSpec EvalSpec ActSpec NamesSpec
set_option maxRecDepth 100000
structure AP where
 a:Ac
 xA:Option Addr
 xn:Nat
 xc:Nat
def acV (p:AP):List Value:=[.string p.a.s,.bool p.a.any,.slice p.xA p.xn p.xc]
def acsV (l:List AP):List Value:=l.flatMap acV
theorem acV_length (p:AP):(acV p).length = 3:=rfl
theorem acV_one (p:AP):∀ u ∈ acV p,u.oneCell' = true:=by simp [acV,Value.oneCell']
theorem acsV_one (l:List AP):∀ u ∈ acsV l,u.oneCell' = true:=by
 intro u hu
 obtain ⟨t,_,h⟩:=List.mem_flatMap.1 hu
 exact acV_one t u h
theorem acsV_append (a b:List AP):acsV a ++ acsV b = acsV (a ++ b):=by unfold acsV; rw [List.flatMap_append]
theorem acsV_get {l:List AP} {i:Nat} {p:AP} (h:l[i]? = some p):(acsV l)[i * 3]? = some (.string p.a.s) ∧ (acsV l)[i * 3 + 1]? = some (.bool p.a.any) ∧ (acsV l)[i * 3 + 2]? = some (.slice p.xA p.xn p.xc) :=
 ⟨flat_get (j:=0) acV_length h (by omega),flat_get (j:=1) acV_length h (by omega),flat_get (j:=2) acV_length h (by omega)⟩
def Acs (w:World) (v:Value) (l:List Ac):Prop:=∃ ps:List AP,ps.map (·.a) = l ∧ Rdk 3 w v l.length (acsV ps) ∧ ∀ p ∈ ps,Tms w (.slice p.xA p.xn p.xc) p.a.x
theorem Acs.keep {w w':World} {v:Value} {l:List Ac} (h:Acs w v l) (hb:Below w.heap.size w w'):Acs w' v l:=by
 obtain ⟨ps,hm,hr,hx⟩:=h
 exact ⟨ps,hm,hr.keep hb,fun p hp => (hx p hp).keep hb⟩
theorem Acs.shape {w:World} {v:Value} {l:List Ac} (h:Acs w v l):∃ A n c,v = .slice A n c ∧ n = l.length ∧ n ≤ c:=by
 obtain ⟨ps,hm,⟨A,c,hv,hc,_⟩,_⟩:=h
 exact ⟨A,_,c,hv,rfl,hc⟩
theorem Acs.len {w:World} {A:Option Addr} {n c:Nat} {l:List Ac} (h:Acs w (.slice A n c) l):n = l.length ∧ n ≤ c:=by
 obtain ⟨A',n',c',heq,hn,hc⟩:=h.shape
 cases heq
 exact ⟨hn,hc⟩
theorem Acs.at_ {w:World} {A:Option Addr} {n c:Nat} {l:List Ac} {i:Nat} {a:Ac} (h:Acs w (.slice A n c) l) (hi:l[i]? = some a) :
 ∃ b off xA xn xc,A = some ⟨b,off,none⟩ ∧ b < w.heap.size ∧ Tms w (.slice xA xn xc) a.x ∧ w.cell? ⟨b,off + i * 3,none⟩ = some (.string a.s) ∧ w.cell? ⟨b,off + i * 3 + 1,none⟩ = some (.bool a.any) ∧ w.cell? ⟨b,off + i * 3 + 2,none⟩ = some (.slice xA xn xc):=by
 obtain ⟨ps,hm,⟨A',c',heq,hc,hl,hA⟩,hx⟩:=h
 cases heq
 subst hm
 have:=get_lt hi
 obtain ⟨b,off,rfl,hb,hcell⟩:=hA (by omega)
 rw [List.getElem?_map] at hi
 cases hp:ps[i]? with
 | none => rw [hp] at hi; cases hi
 | some p =>
   rw [hp] at hi
   cases hi
   obtain ⟨g0,g1,g2⟩:=acsV_get hp
   exact ⟨b,off,p.xA,p.xn,p.xc,rfl,hb,hx p (List.mem_of_getElem? hp),hcell _ _ g0,by rw [Nat.add_assoc]; exact hcell _ _ g1,by rw [Nat.add_assoc]; exact hcell _ _ g2⟩
def SmallA (a:Ac):Prop:=a.s.size ≤ 9223372036854775807 ∧ Small a.x ∧ a.x.length ≤ 4398046511104
theorem oneA_name {a:Ac} (h:isName a.s.data.toList = false):oneA a = 1:=by unfold oneA; rw [if_pos h]
theorem oneA_expr {a:Ac} (h:isName a.s.data.toList = true) (h2:a.any = false):oneA a = chk a.x:=by unfold oneA; rw [if_neg (by simp [h]),if_pos h2]
theorem oneA_any {a:Ac} (h:isName a.s.data.toList = true) (h2:a.any = true):oneA a = if a.x.length = 0 then 0 else 1:=by unfold oneA; rw [if_neg (by simp [h]),if_neg (by simp [h2])]
end Go.Proofs.YtcofikjpplkjdaaGreatDoor
namespace Go.Proofs.YtcofikjpplkjdaaGreatDoor
open Go.RowKit TermSpec EvalSpec ActSpec NamesSpec ExprSpec TransSpec
structure SmallT (t:Tr):Prop where
 ev:t.ev.size ≤ 9223372036854775807
 tg:t.tg.size ≤ 9223372036854775807
 g:Small t.g
 glen:t.g.length ≤ 4398046511104
 acts:∀ a ∈ t.acts,SmallA a
 alen:t.acts.length ≤ 9223372036854775807
structure TrIn (W:World) (gA:Option Addr) (gn gc:Nat) (aA:Option Addr) (an ac:Nat) (t:Tr):Prop where
 g:Tms W (.slice gA gn gc) t.g
 a:Acs W (.slice aA an ac) t.acts
section
variable {W W':World} {gA aA:Option Addr} {gn gc an ac:Nat} {t:Tr}
theorem TrIn.keep (h:TrIn W gA gn gc aA an ac t) (hb:Below W.heap.size W W'):TrIn W' gA gn gc aA an ac t:=⟨h.g.keep hb,h.a.keep hb⟩
theorem TrIn.alloc (h:TrIn W gA gn gc aA an ac t) (o:Obj):TrIn (W.alloc o) gA gn gc aA an ac t:=h.keep (KitC.below_one W o)
theorem TrIn.len (h:TrIn W gA gn gc aA an ac t):gn = t.g.length ∧ an = t.acts.length:=by
 obtain ⟨A',n',c',heq,hn,-⟩:=h.g.shape
 cases heq
 exact ⟨hn,h.a.len.1⟩
theorem TrIn.cap (h:TrIn W gA gn gc aA an ac t):gn ≤ gc ∧ an ≤ ac:=by
 obtain ⟨A',n',c',heq,-,hc⟩:=h.g.shape
 cases heq
 exact ⟨hc,h.a.len.2⟩
end
abbrev trO (ev:ByteArray) (gA:Option Addr) (gn gc:Nat) (aA:Option Addr) (an ac:Nat) (tg:ByteArray):Obj:=.cells #[.string ev,.slice gA gn gc,.slice aA an ac,.string tg] 49
theorem okN_nil {s:ByteArray} (h:s.size = 0):okN s = true:=by unfold okN; simp [h]
theorem okN_pos {s:ByteArray} (h:0 < s.size):okN s = isName s.data.toList:=by
 unfold okN
 rw [decide_eq_false (show ¬ s.size = 0 by omega)]
 rfl
theorem chkT_name {t:Tr} (h:okN t.ev = false ∨ okN t.tg = false):chkT t = 1:=by unfold chkT; rw [if_pos h]
theorem chkT_nog {t:Tr} (h1:okN t.ev = true) (h2:okN t.tg = true) (h:t.g.length = 0):chkT t = chkA t.acts:=by unfold chkT; rw [if_neg (by rw [h1,h2]; simp),if_neg (fun h' => h'.1 h)]
theorem chkT_bad {t:Tr} (h1:okN t.ev = true) (h2:okN t.tg = true) (h:t.g.length ≠ 0) (hk:chk t.g ≠ 0):chkT t = chk t.g:=by unfold chkT; rw [if_neg (by rw [h1,h2]; simp),if_pos ⟨h,hk⟩]
theorem chkT_good {t:Tr} (h1:okN t.ev = true) (h2:okN t.tg = true) (hk:chk t.g = 0):chkT t = chkA t.acts:=by unfold chkT; rw [if_neg (by rw [h1,h2]; simp),if_neg (fun h' => h'.2 hk)]
end Go.Proofs.YtcofikjpplkjdaaGreatDoor
namespace Go.Proofs.YtcofikjpplkjdaaGreatDoor
open Go.RowKit CurSpec TermSpec ExprSpec NamesSpec
set_option maxRecDepth 100000
theorem atom_good {rec:Cur → Int → Pa} {c:Cur} (h:(atom rec c).1.bad = 0):c.bad = 0:=by
 by_cases h0:c.bad = 0
 ·exact h0
 ·have e:atom rec c = (nameC c,[⟨2,0,nameS c⟩]):=by
   unfold atom
   rw [if_neg (by rw [next_dead h0]; decide),if_neg (by rw [isB_dead _ _ h0]; decide),if_neg (by rw [isB_dead _ _ h0]; decide),if_neg (by rw [isB_dead _ _ h0]; decide),if_neg (by rw [isB_dead _ _ h0]; decide),if_neg (by rw [isB_dead _ _ h0]; decide),if_neg (by rw [isB_dead _ _ h0]; decide)]
  rw [e] at h
  have:=(nameC_good h).1
  rw [nameB_dead h0] at this
  cases this
theorem last_mid {f:Nat} {c:Cur} (hP:c.bad = 0 → PartOk f) (ok:Ok c) (hf:Fit (f + 1) c) {W:World} {R B:Nat} {v:Value} {pre:List Tm} {x:List Tm} {v1:Value} {l1:List Tm} {w:World} (h:Mid W R B v pre c x v1 l1 w) :
 Calls Tryz.prog 172 #[.pointer (some ⟨R,0,none⟩)] w fun e w' => ∃ v2 l2,e = .returned (.tuple #[]) ∧ Mid W R B v pre (atom (S f) c).1 (x ++ (atom (S f) c).2) v2 l2 w':=by
 refine (last_step f c hP ok hf R B v1 l1 w h.sig h.rd).mono ?_
 rintro e w' ⟨v2,l2,rfl,hr,hc,hh⟩
 exact ⟨v2,l2,rfl,h.part atom_good hr hc hh⟩
set_option maxHeartbeats 4000000 in
theorem head_step (f:Nat) (c:Cur) (hP:c.bad = 0 → PartOk f) (ok:Ok c) (hf:Fit (f + 1) c) (R B:Nat) (v:Value) (l:List Tm) (k:Int) (w:World) (hs:SignsIn w) (h:RdAt w R B v c l) :
 Calls Tryz.prog 163 #[.pointer (some ⟨R,0,none⟩),.int .i64 k] w (RetHead w R B v l (hd (S f) c k)):=by
 have HP:=Lib.hid hP
 have H0:=Lib.hid (Mid.start hs h)
 have r0:=H0.out.cell
 have HOK:=Lib.hid ok
 have HF:=Lib.hid hf
 have HFO:Hid (∀ {k:Int} {s:ByteArray},isB c k s = true → k ≠ 0 → Fit f (on c)):=Lib.hid (fun hb hk _ => by
  have:=isB_real hb hk
  have:=hf this.1
  omega)
 clear hs h ok hf hP
 by_cases hn:k ≤ 3 ∧ isB c 1 tNot = true
 ·have HE:Hid (hd (S f) c k = (((S f (on c) 3).1,opT 12 :: (S f (on c) 3).2),3)):=Lib.hid (if_pos hn)
  have HPG:=Lib.hid (HP.out (isB_next hn.2).1)
  have HFG:=Lib.hid (HFO.out hn.2 (by decide))
  have HB:=Lib.hid hn.2
  have hk:=hn.1
  clear hn
  go_enter Tryz.func163,Tryz.ntmps163
  go_wp2_with (go_at_call 62; (with_reducible refine (take_yes H0.out (k:=1) (s:=tNot) HB.out).mono ?_))
  rintro e w1 ⟨rfl,M1⟩
  have H1:=Lib.hid M1
  clear M1 r0
  go_wp2_with (go_at_call 171; (with_reducible refine (add_mid H1.out 12 0 ⟨#[]⟩ (by decide)).mono ?_))
  rintro e w2 ⟨v2,l2,rfl,M2⟩
  have H2:=Lib.hid M2
  clear M2
  go_wp2_with (go_at_call 155; (with_reducible refine (part_mid HPG.out H2.out 3 HOK.out.on HFG.out).mono ?_))
  rintro e w3 ⟨v3,l3,rfl,M3⟩
  have H3:=Lib.hid M3
  clear M3
  go_wp2_with fail
  go_ret
  exact H3.out.head HE.out
 ·have hX:∃ X:Prop,X:=⟨True,trivial⟩
  by_cases hk:k ≤ 3
  ·have hnb:isB c 1 tNot = false:=by simpa using fun h => hn ⟨hk,h⟩
   have HNB:=Lib.hid hnb
   by_cases hg:isB c 3 tNeg = true
   ·have HE:Hid (hd (S f) c k = (((S f (on c) 7).1,opT 3 :: (S f (on c) 7).2),7)):=Lib.hid (by unfold hd; rw [if_neg hn,if_pos hg])
    have HPG:=Lib.hid (HP.out (isB_next hg).1)
    have HFG:=Lib.hid (HFO.out hg (by decide))
    have HB:=Lib.hid hg
    clear hn hnb hg hX
    go_enter Tryz.func163,Tryz.ntmps163
    go_wp2_with (go_at_call 62; (with_reducible refine (take_no H0.out (k:=1) (s:=tNot) HNB.out).mono ?_))
    rintro e w1 ⟨rfl,M1⟩
    have H1:=Lib.hid M1
    have r1:=M1.cell
    clear M1 r0
    go_wp2_with (go_at_call 62; (with_reducible refine (take_yes H1.out (k:=3) (s:=tNeg) HB.out).mono ?_))
    rintro e w2 ⟨rfl,M2⟩
    have H2:=Lib.hid M2
    clear M2 r1
    go_wp2_with (go_at_call 171; (with_reducible refine (add_mid H2.out 3 0 ⟨#[]⟩ (by decide)).mono ?_))
    rintro e w3 ⟨v3,l3,rfl,M3⟩
    have H3:=Lib.hid M3
    clear M3
    go_wp2_with (go_at_call 155; (with_reducible refine (part_mid HPG.out H3.out 7 HOK.out.on HFG.out).mono ?_))
    rintro e w4 ⟨v4,l4,rfl,M4⟩
    have H4:=Lib.hid M4
    clear M4
    go_wp2_with fail
    go_ret
    exact H4.out.head HE.out
   ·have HE:Hid (hd (S f) c k = (atom (S f) c,8)):=Lib.hid (by unfold hd; rw [if_neg hn,if_neg hg])
    have hgb:isB c 3 tNeg = false:=by simpa using hg
    have HGB:=Lib.hid hgb
    clear hn hnb hg hgb hX
    go_enter Tryz.func163,Tryz.ntmps163
    go_wp2_with (go_at_call 62; (with_reducible refine (take_no H0.out (k:=1) (s:=tNot) HNB.out).mono ?_))
    rintro e w1 ⟨rfl,M1⟩
    have H1:=Lib.hid M1
    have r1:=M1.cell
    clear M1 r0
    go_wp2_with (go_at_call 62; (with_reducible refine (take_no H1.out (k:=3) (s:=tNeg) HGB.out).mono ?_))
    rintro e w2 ⟨rfl,M2⟩
    have H2:=Lib.hid M2
    clear M2 r1
    go_wp2_with (go_at_call 172; (with_reducible refine (last_mid HP.out HOK.out HF.out H2.out).mono ?_))
    rintro e w3 ⟨v3,l3,rfl,M3⟩
    have H3:=Lib.hid M3
    clear M3
    go_wp2_with fail
    go_ret
    exact H3.out.head HE.out
  ·have hkf:decide (k ≤ 3) = false:=decide_eq_false hk
   by_cases hg:isB c 3 tNeg = true
   ·have HE:Hid (hd (S f) c k = (((S f (on c) 7).1,opT 3 :: (S f (on c) 7).2),7)):=Lib.hid (by unfold hd; rw [if_neg hn,if_pos hg])
    have HPG:=Lib.hid (HP.out (isB_next hg).1)
    have HFG:=Lib.hid (HFO.out hg (by decide))
    have HB:=Lib.hid hg
    clear hn hg hX
    go_enter Tryz.func163,Tryz.ntmps163
    go_wp2_with (go_at_call 62; (with_reducible refine (take_yes H0.out (k:=3) (s:=tNeg) HB.out).mono ?_))
    (first | rintro e w2 rfl M2 | rintro e w2 ⟨rfl,M2⟩)
    have H2:=Lib.hid M2
    clear M2 r0
    go_wp2_with (go_at_call 171; (with_reducible refine (add_mid H2.out 3 0 ⟨#[]⟩ (by decide)).mono ?_))
    rintro e w3 ⟨v3,l3,rfl,M3⟩
    have H3:=Lib.hid M3
    clear M3
    go_wp2_with (go_at_call 155; (with_reducible refine (part_mid HPG.out H3.out 7 HOK.out.on HFG.out).mono ?_))
    rintro e w4 ⟨v4,l4,rfl,M4⟩
    have H4:=Lib.hid M4
    clear M4
    go_wp2_with fail
    go_ret
    exact H4.out.head HE.out
   ·have HE:Hid (hd (S f) c k = (atom (S f) c,8)):=Lib.hid (by unfold hd; rw [if_neg hn,if_neg hg])
    have hgb:isB c 3 tNeg = false:=by simpa using hg
    have HGB:=Lib.hid hgb
    clear hn hg hgb hX
    go_enter Tryz.func163,Tryz.ntmps163
    go_wp2_with (go_at_call 62; (with_reducible refine (take_no H0.out (k:=3) (s:=tNeg) HGB.out).mono ?_))
    (first | rintro e w2 rfl M2 | rintro e w2 ⟨rfl,M2⟩)
    have H2:=Lib.hid M2
    clear M2 r0
    go_wp2_with (go_at_call 172; (with_reducible refine (last_mid HP.out HOK.out HF.out H2.out).mono ?_))
    rintro e w3 ⟨v3,l3,rfl,M3⟩
    have H3:=Lib.hid M3
    clear M3
    go_wp2_with fail
    go_ret
    exact H3.out.head HE.out
def PtRel (W:World) (R B:Nat) (v:Value) (pre:List Tm) (q:Int) (f:Nat) (G:Prop) (P:Pa) (g:Nat) (i:Value) (wr:World):Prop :=
 ∃ lev c x v1 l1 k,i = .int .i64 lev ∧ Mid W R B v pre c x v1 l1 wr ∧ Ok c ∧ Fit k c ∧ k ≤ f ∧ (c.bad = 0 → G) ∧ C k lev q c x = P ∧ k = g
theorem hd_good {rec:Cur → Int → Pa} {c:Cur} {q:Int} (hb:(hd rec c q).1.1.bad = 0):c.bad = 0:=by
 by_cases h0:c.bad = 0
 ·exact h0
 ·have e:hd rec c q = (atom rec c,8):=by
   unfold hd
   rw [if_neg (by rw [isB_dead _ _ h0]; simp),if_neg (by rw [isB_dead _ _ h0]; decide)]
  rw [e] at hb
  exact atom_good hb
theorem sg_hold {w w':World} {R B:Nat} {v v':Value} {i:Nat} {o:Obj} (h:w.heap[i]? = some o) (hne:i ≠ B ∧ i ≠ R ∧ v.ownBlock ≠ some i) (hh:Hold R B v v' w w'):w'.heap[i]? = some o ∧ i ≠ B ∧ i ≠ R ∧ v'.ownBlock ≠ some i:=by
 have hi:=(Array.getElem?_eq_some_iff.1 h).1
 exact ⟨(hh.block i hi hne.1 hne.2.1 hne.2.2).trans h,hne.1,hne.2.1,hh.apart hi hne.2.2⟩
set_option maxHeartbeats 8000000 in
theorem part_walk (f:Nat) (c:Cur) (hP:c.bad = 0 → ∀ g,g ≤ f → PartOk g) (ok:Ok c) (hf:Fit (f + 1) c) (R B:Nat) (v:Value) (l:List Tm) (q:Int) (w:World) (hs:SignsIn w) (h:RdAt w R B v c l) :
 Calls Tryz.prog 155 #[.pointer (some ⟨R,0,none⟩),.int .i64 q] w (RetPart w R B v l (C f (hd (S f) c q).2 q (hd (S f) c q).1.1 (hd (S f) c q).1.2)):=by
 obtain ⟨A,cp,rfl⟩:=own_shape h.own
 obtain ⟨r0,r1⟩:=cells_2 h.blk
 obtain ⟨n,hn⟩:∃ n,n = l.length:=⟨_,rfl⟩
 have HH:=Lib.hid (head_step f c (fun h0 => hP h0 f (Nat.le_refl _)) ok hf R B _ l q w hs h)
 have HD:Hid (Ok (hd (S f) c q).1.1 ∧ Fit f (hd (S f) c q).1.1 ∧ ((hd (S f) c q).1.1.bad = 0 → c.bad = 0)):=Lib.hid (by
  refine ⟨inv_ok.hd (fun c k h => ok_S f k h) ok q,fun hb => ?_,hd_good⟩
  exact (hf.fitHd (hd_good hb) q) hb)
 obtain ⟨D,hD⟩:∃ D,D = hd (S f) c q:=⟨_,rfl⟩
 rw [← hD] at HH HD ⊢
 obtain ⟨P,hPp⟩:∃ P,P = C f D.2 q D.1.1 D.1.2:=⟨_,rfl⟩
 have HPP:=Lib.hid hPp
 rw [← hPp]
 have HN:=Lib.hid hn
 rw [← hn] at HH r1
 have HP:=Lib.hid hP
 have HS:=Lib.hid hs
 have HR:=Lib.hid h
 clear hn hD hPp hP ok hf hs h
 go_enter Tryz.func155,Tryz.ntmps155
 go_wp2_with (go_at_call 163; (with_reducible refine HH.out.mono ?_))
 rintro e w1 ⟨v1,l1,rfl,hr1,hc1,hh1⟩
 have H1:Hid (Mid w R B (.slice A n cp) l D.1.1 D.1.2 v1 l1 w1):=Lib.hid ⟨hr1,hc1,hh1,HS.out.hold (by rw [HN.out]; exact HR.out) hh1⟩
 clear hr1 hc1 hh1 r0 r1
 go_wp2_with fail
 go_loopg [5] f (fun g i wr => PtRel w R B (.slice A n cp) l q f (c.bad = 0) P g i wr)
 case atStart => exact ⟨D.2,D.1.1,D.1.2,v1,l1,f,rfl,H1.out,HD.out.1,HD.out.2.1,Nat.le_refl _,HD.out.2.2,HPP.out.symm,rfl⟩
 case round =>
  obtain ⟨lev,d,x,v2,l2,k,rfl,M2,okd,fd,hle,hG,hC,hk⟩:=hrel
  have HK:=Lib.hid hk
  clear hk
  have HB:=Lib.hid (between_at R B v2 d l2 lev q wr M2.sig M2.rd)
  have H2:=Lib.hid M2
  have HOK:=Lib.hid okd
  have HC:=Lib.hid hC
  cases hs:sgn d lev q with
  | none =>
    rw [hs] at HB
    have HE:=Lib.hid (C_stop k x hs)
    clear M2 okd fd hle hC hs hG
    go_wp2_with (go_at_call 164; (with_reducible refine HB.out.mono ?_))
    rintro e x3 ⟨s,b,y,rfl,⟨rfl,rfl,rfl⟩,hr3,hb3⟩
    have H3:=Lib.hid (H2.out.cur hr3.cur hb3 id)
    clear hr3 hb3
    go_wp2_with fail
    go_end0
    have hnl:=HN.out
    subst hnl
    exact (H3.out.alloc _).ret (HC.out.symm.trans HE.out)
  | some s =>
    rw [hs] at HB
    have hd0:=sgn_good hs
    cases k with
    | zero => exact absurd hd0 fd.zero
    | succ g =>
      have HE:=Lib.hid (C_step g x hs)
      have HFO:=Lib.hid (fd.fitOn hs)
      have HFS:=Lib.hid (fd.fitStep hs s.right)
      have HG:=Lib.hid (hG hd0)
      have HPG:=Lib.hid (HP.out (hG hd0) g (by omega))
      have HLE:=Lib.hid hle
      clear M2 okd fd hle hC hs hG hd0
      go_wp2_with (go_at_call 164; (with_reducible refine HB.out.mono ?_))
      rintro e x3 ⟨s',b,y,rfl,⟨rfl,rfl,rfl⟩,hr3,hb3⟩
      have H3:=Lib.hid (H2.out.cur hr3.cur hb3 (fun h => by rw [(on_bad d).1] at h; exact h))
      have HAP:=Lib.hid (H3.out.rd.apart (Nat.le_refl _))
      obtain ⟨s0,s1,s2,s3,s4⟩:=cells_5 (heap_alloc_new x3 (sgO s'))
      have HINS:Hid (Calls Tryz.prog 165 #[.pointer (some ⟨R,0,none⟩),.int .i64 n,.agg #[.int .i64 s'.op,.int .i64 0,.string ⟨#[]⟩]] (x3.alloc (sgO s')) (RetRd (x3.alloc (sgO s')) R B v2 (on d) (ins l2 l.length (opT s'.op)))):=Lib.hid (by
       rw [HN.out]
       exact insert_at R B v2 (on d) l2 l.length (opT s'.op) _ (H3.out.alloc _).rd H3.out.cap.1 (show (⟨#[]⟩:ByteArray).size ≤ 9223372036854775807 by decide))
      clear hr3 hb3
      go_wp2_with (go_at_call 165; (with_reducible refine HINS.out.mono ?_))
      rintro e x4 ⟨v4,rfl,hr4,hh4⟩
      have H4:=Lib.hid ((H3.out.alloc (sgO s')).ins (opT s'.op) hr4 hh4)
      have HK4:=Lib.hid (sg_hold (heap_alloc_new x3 (sgO s')) HAP.out hh4)
      obtain ⟨t0,t1,t2,t3,t4⟩:=cells_5 HK4.out.1
      have HPT:=Lib.hid (HPG.out R B v4 (on d) (ins l2 l.length (opT s'.op)) s'.right x4 H4.out.sig H4.out.rd HOK.out.on HFO.out)
      clear hr4 hh4 s0 s1 s2 s3 s4
      go_wp2_with (go_at_call 155; (with_reducible refine HPT.out.mono ?_))
      rintro e x5 ⟨v5,l5,rfl,hr5,hc5,hh5⟩
      have H5:=Lib.hid (H4.out.part (S_less g (on d) s'.right).2 hr5 hc5 hh5)
      obtain ⟨u0,u1,u2,u3,u4⟩:=cells_5 (sg_hold HK4.out.1 HK4.out.2 hh5).1
      clear hr5 hc5 hh5 t0 t1 t2 t3 t4
      go_wp2_with fail
      go_roundg g
      case rel => exact ⟨s'.lev,_,_,v5,l5,g,rfl,H5.out,ok_S g _ HOK.out.on,HFS.out,by have:=HLE.out; omega,fun _ => HG.out,by rw [← HC.out,HE.out]; rfl,rfl⟩
      case measure => have:=HK.out; omega
theorem part_ok:∀ f,PartOk f:=by
 intro f
 induction f using Nat.strongRecOn with
 | ind f ih =>
   intro R B v c l q w hs h ok hf
   by_cases h0:c.bad = 0
   ·cases f with
    | zero => exact absurd h0 hf.zero
    | succ f =>
      rw [S_good f q h0]
      exact part_walk f c (fun _ g hg => ih g (by omega)) ok hf R B v l q w hs h
   ·rw [S_dead f q h0]
    refine (part_walk 0 c (fun h => absurd h h0) ok (fun h => absurd h h0) R B v l q w hs h).mono ?_
    rintro e w' ⟨v',l',rfl,hr,hc,hh⟩
    have e1:(C 0 (hd (S 0) c q).2 q (hd (S 0) c q).1.1 (hd (S 0) c q).1.2).1 = c:=by
     show (hd (S 0) c q).1.1 = c
     have e:hd (S 0) c q = (atom (S 0) c,8):=by
      unfold hd
      rw [if_neg (by rw [isB_dead _ _ h0]; simp),if_neg (by rw [isB_dead _ _ h0]; decide)]
     rw [e]
     show (atom (S 0) c).1 = c
     unfold atom
     rw [if_neg (by rw [next_dead h0]; decide),if_neg (by rw [isB_dead _ _ h0]; decide),if_neg (by rw [isB_dead _ _ h0]; decide),if_neg (by rw [isB_dead _ _ h0]; decide),if_neg (by rw [isB_dead _ _ h0]; decide),if_neg (by rw [isB_dead _ _ h0]; decide),if_neg (by rw [isB_dead _ _ h0]; decide)]
     show nameC c = c
     unfold nameC
     rw [if_neg (by rw [nameB_dead h0]; decide)]
     exact fail_dead _ h0
    rw [e1] at hr hc
    exact ⟨v',l',rfl,hr,hc.dead h0,hh⟩
end Go.Proofs.YtcofikjpplkjdaaGreatDoor
namespace Go.Proofs.YtcofikjpplkjdaaGreatDoor
open Go.RowKit CurSpec TermSpec ExprSpec NamesSpec
set_option maxRecDepth 100000
def RetRead (W:World) (B:Nat) (p:Pa) (e:Ending) (w':World):Prop:=∃ A n cp,e = .returned (.slice A n cp) ∧ CurAt w' B p.1 ∧ Tms w' (.slice A n cp) p.2 ∧ n = p.2.length ∧ W.grownBy w' (some B) ∧ ∀ b,(Value.slice A n cp).ownBlock = some b → W.heap.size ≤ b
theorem cap_chk {c:Cur} {x l:List Tm} (h:CapD c [] x l) (h0:c.bad = 0):chk l = chk x ∧ (chk x = 0 → l = x):=by
 have h2:=h.2 h0
 split at h2
 ·rw [List.nil_append] at h2
  rw [h2]
  exact ⟨rfl,fun _ => rfl⟩
 ·rename_i h3
  simp only [List.length_nil,Nat.zero_add] at h3
  have e1:chk l = 8:=chk_full (by omega)
  have e2:chk x = 8:=chk_full (by omega)
  rw [e1,e2]
  exact ⟨rfl,fun h => absurd h (by decide)⟩
theorem readP_cur {f:Nat} {c:Cur} {l:List Tm} (h:CapD (S f c 1).1 [] (S f c 1).2 l):fail (S f c 1).1 (chk l) = (readP f c).1:=by
 unfold readP
 by_cases h0:(S f c 1).1.bad = 0
 ·rw [if_pos h0,(cap_chk h h0).1]
 ·rw [if_neg h0,fail_dead _ h0]
theorem fail_good {c:Cur} {e:Int} (h:(fail c e).bad = 0):c.bad = 0 ∧ e = 0:=by
 by_cases h0:c.bad = 0
 ·by_cases he:e = 0
  ·exact ⟨h0,he⟩
  ·rw [fail_yes h0 he] at h; exact absurd h he
 ·rw [fail_dead e h0] at h; exact absurd h h0
theorem readP_list {f:Nat} {c:Cur} {l:List Tm} (h:CapD (S f c 1).1 [] (S f c 1).2 l) :
 ((fail (S f c 1).1 (chk l)).bad = 0 → (readP f c).2 = l) ∧ ((fail (S f c 1).1 (chk l)).bad ≠ 0 → (readP f c).2 = []):=by
 refine ⟨fun hb => ?_,fun hb => ?_⟩
 ·obtain ⟨h0,he⟩:=fail_good hb
  have h2:=cap_chk h h0
  unfold readP
  rw [if_pos h0,if_pos (by rw [← h2.1]; exact he),h2.2 (by rw [← h2.1]; exact he)]
 ·unfold readP
  by_cases h0:(S f c 1).1.bad = 0
  ·rw [if_pos h0]
   have h2:=cap_chk h h0
   refine if_neg (fun he => hb ?_)
   rw [h2.1,he,fail_zero]
   exact h0
  ·rw [if_neg h0]
theorem tms_nil (w:World):Tms w (.slice none 0 0) []:=⟨0,rfl,Rdk.nil 3 w⟩
theorem rd_tms {w:World} {R B:Nat} {A:Option Addr} {n cp:Nat} {c:Cur} {l:List Tm} (h:RdAt w R B (.slice A n cp) c l):Tms w (.slice A n cp) l ∧ n = l.length:=by
 have:=Rdk.own h.own
 obtain ⟨A',c',heq,_⟩:=this
 cases heq
 exact ⟨⟨_,rfl,Rdk.own h.own⟩,rfl⟩
theorem hold_new {w x:World} {o:Obj} {B:Nat} {v':Value} (h:Hold w.heap.size B (.slice none 0 0) v' (w.alloc o) x):w.grownBy x (some B):=by
 have hz:=h.size
 rw [World.size_alloc] at hz
 exact ⟨h.os,h.tape,h.output,by omega,fun i hi hn => (h.block i (by rw [World.size_alloc]; omega) (by simpa using hn) (by omega) (by simp [Value.ownBlock])).trans (heap_alloc_old _ _ hi)⟩
set_option maxHeartbeats 4000000 in
theorem read_at (B:Nat) (c:Cur) (f:Nat) (w:World) (hs:SignsIn w) (h:CurAt w B c) (ok:Ok c) (hf:Fit f c) :
 Calls Tryz.prog 149 #[.pointer (some ⟨B,0,none⟩)] w (RetRead w B (readP f c)):=by
 have hB:=h.lt
 have h0:RdAt (w.alloc (.cells #[.pointer (some ⟨B,0,none⟩),.slice none 0 0] 186)) w.heap.size B (.slice none 0 0) c [] :=
  ⟨h.alloc _,heap_alloc_new _ _,⟨rfl,.inl ⟨rfl,rfl⟩⟩,hB,by simp,by intro t ht; cases ht⟩
 have HPT:=Lib.hid (part_ok f w.heap.size B (.slice none 0 0) c [] 1 _ (hs.alloc _) h0 ok hf)
 have HRL:=Lib.hid (fun (l:List Tm) (hc:CapD (S f c 1).1 [] (S f c 1).2 l) => And.intro (readP_cur hc) (readP_list hc))
 obtain ⟨D,hD⟩:∃ D,D = S f c 1:=⟨_,rfl⟩
 obtain ⟨P,hP⟩:∃ P,P = readP f c:=⟨_,rfl⟩
 rw [← hD] at HPT HRL
 rw [← hP] at HRL ⊢
 clear hD hP hs h ok hf h0 hB
 go_enter Tryz.func149,Tryz.ntmps149
 go_wp2_with (go_at_call 155; (with_reducible refine HPT.out.mono ?_))
 rintro e x1 ⟨v,l,rfl,hr,hc,hh⟩
 obtain ⟨A,cp,rfl⟩:=own_shape hr.own
 obtain ⟨n,hn⟩:∃ n,n = l.length:=⟨_,rfl⟩
 rw [← hn] at hr hh
 have ht:=rd_tms hr
 have HC:=Lib.hid (check_any A n cp l hn (by have:=hr.few; omega) hr.small x1.drew ht.1)
 have HN:=Lib.hid hn
 have HH:=Lib.hid hh
 have HR:=Lib.hid hr
 have HT:=Lib.hid ht.1
 have HL:=Lib.hid (HRL.out l hc)
 obtain ⟨r0,r1⟩:=cells_2 hr.blk
 obtain ⟨ck,hck⟩:∃ ck,ck = chk l:=⟨_,rfl⟩
 rw [← hck] at HC HL
 have HFL:Hid (∀ W,Below x1.drew.heap.size x1.drew W → Calls Tryz.prog 63 #[.pointer (some ⟨B,0,none⟩),.int .i64 ck] W (RetAt W B (fail D.1 ck))):=Lib.hid (fun W hW => fail_at B D.1 ck W (hr.drew.cur.keep hW))
 have HCL:Hid (∀ W,Below x1.drew.heap.size x1.drew W → RdAt W w.heap.size B (.slice A n cp) D.1 l):=Lib.hid (fun W hW => hr.drew.keep hW)
 clear hr hc hh hn ht hck
 go_wp2_with fail
 go_region_law (first
  | (go_simp; go_at_call 140; (with_reducible refine HC.out.mono ?_); rintro e x2 ⟨rfl,hb2⟩; have HB2:=Lib.hid hb2; clear hb2; obtain ⟨s0,s1⟩:=cells_2 (HCL.out _ HB2.out).blk)
  | (go_simp; go_at_call 63; (with_reducible refine (HFL.out _ HB2.out).mono ?_); rintro e x3 ⟨rfl,hc3,hb3⟩; have HE3:=Lib.hid (And.intro hc3 hb3); clear hc3 hb3; obtain ⟨t0,t1⟩:=cells_2 ((HCL.out _ HB2.out).but HE3.out.2 HE3.out.1).blk))
 all_goals
  have HR3:=Lib.hid ((HCL.out _ HB2.out).but HE3.out.2 HE3.out.1)
  have HO3:=Lib.hid (((HH.out.trans (Hold.of_below _ (((Below.refl _ _).drew).trans (HB2.out.mono (Nat.le_refl _))))).trans (Hold.of_but _ HE3.out.2)))
  cases hg:(fail D.1 ck).bad == 0 with
  | true =>
    have HG:=Lib.hid (fun W hW => good_any _ _ _ _ W ((Fl.of HE3.out.1).keep hW) (b:=true) hg)
    have HX:=Lib.hid (HL.out.2.1 (by simpa using hg))
    clear hg
    go_wp2_with (go_at_call 61; (with_reducible refine (HG.out _ (Below.refl _ _)).mono ?_))
    rintro e x4 ⟨rfl,hb4⟩
    have HR4:=Lib.hid (HR3.out.keep hb4)
    have HO4:=Lib.hid (HO3.out.trans (Hold.of_below _ hb4))
    obtain ⟨u0,u1⟩:=cells_2 HR4.out.blk
    clear hb4
    go_wp2_with fail
    go_ret
    refine ⟨A,n,cp,rfl,?_,?_,?_,hold_new HO4.out,fun b e => by have:=(own_block_bd HR4.out.own b e).1; omega⟩
    ·rw [← HL.out.1]; exact HR4.out.cur
    ·rw [HX.out]; have hnl:=HN.out; subst hnl; exact (rd_tms HR4.out).1
    ·rw [HX.out]; exact HN.out
  | false =>
    have HG:=Lib.hid (fun W hW => good_any _ _ _ _ W ((Fl.of HE3.out.1).keep hW) (b:=false) hg)
    have HX:=Lib.hid (HL.out.2.2 (by simpa using hg))
    clear hg
    go_wp2_with (go_at_call 61; (with_reducible refine (HG.out _ (Below.refl _ _)).mono ?_))
    rintro e x4 ⟨rfl,hb4⟩
    have HR4:=Lib.hid (HR3.out.keep hb4)
    have HO4:=Lib.hid (HO3.out.trans (Hold.of_below _ hb4))
    clear hb4
    go_wp2_with fail
    go_ret
    refine ⟨none,0,0,rfl,?_,?_,?_,hold_new HO4.out,by simp [Value.ownBlock]⟩
    ·rw [← HL.out.1]; exact HR4.out.cur
    ·rw [HX.out]; exact tms_nil _
    ·rw [HX.out]; rfl
end Go.Proofs.YtcofikjpplkjdaaGreatDoor
namespace Go.Proofs.YtcofikjpplkjdaaGreatDoor
open Go.RowKit CurSpec TermSpec ExprSpec NamesSpec
set_option maxRecDepth 100000
theorem Tms.own {w:World} {base n:Nat} {v:Value} {l:List Tm} (hn:n = l.length) (h:w.ownsRow base 44 3 v n (tmsV l)):Tms w v l:=⟨n,hn,Rdk.own h⟩
end Go.Proofs.YtcofikjpplkjdaaGreatDoor
namespace Go.Proofs.YtcofikjpplkjdaaGreatDoor
open Go.RowKit CurSpec TermSpec ExprSpec NamesSpec
theorem tms_but {w w':World} {A:Option Addr} {n cp B:Nat} {l:List Tm} (h:Tms w (.slice A n cp) l) (hb:w.grownBy w' (some B)) (hne:(Value.slice A n cp).ownBlock ≠ some B):Tms w' (.slice A n cp) l:=by
 obtain ⟨m,hm,A',c',heq,hc,hl,hA⟩:=h
 cases heq
 refine ⟨n,hm,A,cp,rfl,hc,hl,fun h0 => ?_⟩
 obtain ⟨b,off,rfl,hlt,hcell⟩:=hA h0
 refine ⟨b,off,rfl,Nat.lt_of_lt_of_le hlt hb.size,fun j u hj => ?_⟩
 rw [← hcell j u hj]
 have:=hb.block b hlt (fun e => hne (by rw [← e]; rfl))
 simp [World.cell?,this]
theorem tmsNil (w:World):Tms w (.slice none 0 0) []:=⟨0,rfl,Rdk.nil 3 w⟩
end Go.Proofs.YtcofikjpplkjdaaGreatDoor