/- ExprMid, ExprLast, joined. -/
import Derived.Test.YtjfghaohogcfbaaGreatDoorMFormatSame07
namespace Go.Proofs.YtjfghaohogcfbaaGreatDoor
open Go.RowKit CurSpec TermSpec ExprSpec NamesSpec
set_option maxRecDepth 100000
def Inv (P:Cur → Prop):Prop:=(∀ c,P c → P (on c)) ∧ ∀ c e,P c → P (fail c e)
theorem Inv.want {P:Cur → Prop} (h:Inv P) {c:Cur} (hc:P c) (k:Int) (s:ByteArray):P (want c k s):=by
 unfold CurSpec.want
 split
 ·exact h.1 _ hc
 ·exact h.2 _ _ hc
theorem Inv.nameC {P:Cur → Prop} (h:Inv P) {c:Cur} (hc:P c):P (nameC c):=by
 unfold CurSpec.nameC
 split
 ·exact h.1 _ hc
 ·exact h.2 _ _ hc
theorem Inv.numC {P:Cur → Prop} (h:Inv P) {c:Cur} (hc:P c) (m:Int):P (numC c m):=by
 unfold CurSpec.numC
 split
 ·exact h.1 _ hc
 ·exact h.2 _ _ hc
theorem Inv.hd {P:Cur → Prop} (h:Inv P) {rec:Cur → Int → Pa} (hr:∀ c k,P c → P (rec c k).1) {c:Cur} (hc:P c) (k:Int):P (hd rec c k).1.1:=by
 have two_ok:∀ c o,P c → P (two rec c o).1:=fun c o hc => h.want (hr _ _ (h.want (hr _ _ (h.want hc _ _)) _ _)) _ _
 unfold ExprSpec.hd
 split
 ·exact hr _ _ (h.1 _ hc)
 split
 ·exact hr _ _ (h.1 _ hc)
 ·dsimp only
  unfold atom
  split
  ·exact h.numC hc _
  split
  ·exact h.1 _ hc
  split
  ·exact h.1 _ hc
  split
  ·exact h.want (h.nameC (h.want (h.1 _ hc) _ _)) _ _
  split
  ·exact two_ok _ _ (h.1 _ hc)
  split
  ·exact two_ok _ _ (h.1 _ hc)
  split
  ·exact h.want (hr _ _ (h.1 _ hc)) _ _
  ·exact h.nameC hc
theorem Inv.all {P:Cur → Prop} (h:Inv P):∀ f,(∀ c k,P c → P (S f c k).1) ∧ ∀ lev k c x,P c → P (C f lev k c x).1
 | 0 => ⟨fun c k hc => hc,fun lev k c x hc => hc⟩
 | f + 1 => by
   obtain ⟨ih1,ih2⟩:=Inv.all h f
   refine ⟨fun c k hc => ?_,fun lev k c x hc => ?_⟩
   ·by_cases h0:c.bad = 0
    ·rw [S_good f k h0]
     exact ih2 _ _ _ _ (h.hd ih1 hc k)
    ·rw [S_dead _ k h0]; exact hc
   ·cases hs:sgn c lev k with
    | none => rw [C_stop _ x hs]; exact hc
    | some s => rw [C_step f x hs]; exact ih2 _ _ _ _ (ih1 _ _ (h.1 _ hc))
theorem inv_ok:Inv Ok:=⟨fun _ h => h.on,fun _ e h => h.fail e⟩
def CapD (c:Cur) (pre x l:List Tm):Prop:=pre.length ≤ l.length ∧ (c.bad = 0 → (if pre.length + x.length ≤ 41 then l = pre ++ x else l.length = 41))
theorem CapD.start (c:Cur) (pre:List Tm) (h:pre.length ≤ 41):CapD c pre [] pre:=⟨Nat.le_refl _,fun _ => by simp [h]⟩
theorem CapD.dead {c d:Cur} {pre x y l:List Tm} (h:CapD c pre x l) (hd:d.bad ≠ 0):CapD d pre y l:=⟨h.1,fun h' => absurd h' hd⟩
theorem CapD.to {c d:Cur} {pre x l:List Tm} (h:CapD c pre x l) (hd:d.bad = 0 → c.bad = 0):CapD d pre x l:=⟨h.1,fun h' => h.2 (hd h')⟩
theorem CapD.ins {c d:Cur} {pre x l:List Tm} (t:Tm) (hl:l.length ≤ 41) (hd:d.bad = 0 → c.bad = 0) (h:CapD c pre x l):CapD d pre (t :: x) (ins l pre.length t):=by
 obtain ⟨h1,h2⟩:=h
 refine ⟨?_,fun hb => ?_⟩
 ·unfold Go.Proofs.YtjfghaohogcfbaaGreatDoor.ins
  split
  ·simp only [List.length_append,List.length_take,List.length_cons,List.length_drop]; omega
  ·exact h1
 ·have h3:=h2 (hd hb)
  unfold Go.Proofs.YtjfghaohogcfbaaGreatDoor.ins
  by_cases h40:l.length ≤ 40
  ·rw [if_pos h40]
   by_cases hp:pre.length + x.length ≤ 41
   ·rw [if_pos hp] at h3
    subst h3
    rw [List.length_append] at h40
    rw [if_pos (by simp only [List.length_cons]; omega),List.take_left,List.drop_left]
   ·rw [if_neg hp] at h3; omega
  ·rw [if_neg h40]
   by_cases hp:pre.length + x.length ≤ 41
   ·rw [if_pos hp] at h3
    subst h3
    rw [List.length_append] at h40 hl
    rw [if_neg (by simp only [List.length_cons]; omega),List.length_append]
    omega
   ·rw [if_neg (by simp only [List.length_cons]; omega)]; omega
theorem CapD.join {d e:Cur} {pre y l2 r l3:List Tm} (hl:l3.length ≤ 41) (he:e.bad = 0 → d.bad = 0) (h1:CapD d pre y l2) (h2:CapD e l2 r l3):CapD e pre (y ++ r) l3:=by
 refine ⟨Nat.le_trans h1.1 h2.1,fun hb => ?_⟩
 have g1:=h1.2 (he hb)
 have g2:=h2.2 hb
 have hle:=h2.1
 rw [List.length_append]
 by_cases hp:pre.length + y.length ≤ 41
 ·rw [if_pos hp] at g1
  subst g1
  rw [List.length_append] at g2 hle
  by_cases hq:pre.length + y.length + r.length ≤ 41
  ·rw [if_pos hq] at g2
   rw [if_pos (by omega),g2,List.append_assoc]
  ·rw [if_neg hq] at g2
   rw [if_neg (by omega)]; exact g2
 ·rw [if_neg hp] at g1
  rw [if_neg (by omega)]
  omega
theorem SignsIn.hold {w w':World} {R B:Nat} {v v':Value} {c:Cur} {l:List Tm} (h:SignsIn w) (hr:RdAt w R B v c l) (hh:Hold R B v v' w w'):SignsIn w':=by
 have hp:=h.pos
 refine h.of (hh.block _ hp ?_ ?_ ?_)
 ·rintro e
  obtain ⟨T,fr,h⟩:=h
  obtain ⟨b,off,n,cp,hB,_⟩:=hr.cur
  rw [e,hB] at h
  simp only [Option.some.injEq,Obj.cells.injEq] at h
  exact absurd ((congrArg Array.size h.1).symm.trans rfl) (show ¬ signsV.size = _ by rw [show signsV.size = 55 by decide]; simp)
 ·rintro e
  obtain ⟨T,fr,h⟩:=h
  rw [e,hr.blk] at h
  simp only [Option.some.injEq,Obj.cells.injEq] at h
  exact absurd ((congrArg Array.size h.1).symm.trans rfl) (show ¬ signsV.size = _ by rw [show signsV.size = 55 by decide]; simp)
 ·intro e
  obtain ⟨T,fr,h⟩:=h
  rcases hr.own.2 with ⟨h1,_⟩ | ⟨g,cap,cur,h1,_,h3,_,_,h6,_⟩
  ·rw [h1] at e; cases e
  ·rw [h1] at e
   cases e
   rw [h3] at h
   simp only [Option.some.injEq,Obj.cells.injEq] at h
   rw [h.1] at h6
   have:signsV.size = 55:=by decide
   omega
def RetPart (W:World) (R B:Nat) (v:Value) (pre:List Tm) (p:Pa) (e:Ending) (w':World):Prop :=
 ∃ v' l',e = .returned (.tuple #[]) ∧ RdAt w' R B v' p.1 l' ∧ CapD p.1 pre p.2 l' ∧ Hold R B v v' W w'
def RetHead (W:World) (R B:Nat) (v:Value) (pre:List Tm) (h:Pa × Int) (e:Ending) (w':World):Prop :=
 ∃ v' l',e = .returned (.int .i64 h.2) ∧ RdAt w' R B v' h.1.1 l' ∧ CapD h.1.1 pre h.1.2 l' ∧ Hold R B v v' W w'
def PartOk (f:Nat):Prop:=∀ (R B:Nat) (v:Value) (c:Cur) (l:List Tm) (k:Int) (w:World),SignsIn w → RdAt w R B v c l → Ok c → Fit f c →
 Calls Tryz.prog 187 #[.pointer (some ⟨R,0,none⟩),.int .i64 k] w (RetPart w R B v l (S f c k))
structure Mid (W:World) (R B:Nat) (v:Value) (pre:List Tm) (c:Cur) (x:List Tm) (v1:Value) (l1:List Tm) (w:World):Prop where
 rd:RdAt w R B v1 c l1
 cap:CapD c pre x l1
 hold:Hold R B v v1 W w
 sig:SignsIn w
theorem Mid.start {w:World} {R B:Nat} {v:Value} {c:Cur} {l:List Tm} (hs:SignsIn w) (h:RdAt w R B v c l):Mid w R B v l c [] v l w:=⟨h,CapD.start c l h.few,Hold.refl _ _ _ _,hs⟩
theorem Mid.cell {W:World} {R B:Nat} {v:Value} {pre:List Tm} {c:Cur} {x:List Tm} {v1:Value} {l1:List Tm} {w:World} (h:Mid W R B v pre c x v1 l1 w):w.cell? ⟨R,0,none⟩ = some (.pointer (some ⟨B,0,none⟩)):=(cells_2 h.rd.blk).1
theorem Mid.cur {W:World} {R B:Nat} {v:Value} {pre:List Tm} {c d:Cur} {x:List Tm} {v1:Value} {l1:List Tm} {w w':World} (h:Mid W R B v pre c x v1 l1 w) (hc:CurAt w' B d) (hb:w.grownBy w' (some B)) (hd:d.bad = 0 → c.bad = 0):Mid W R B v pre d x v1 l1 w' :=
 ⟨h.rd.but hb hc,h.cap.to hd,h.hold.trans (Hold.of_but v1 hb),h.sig.hold h.rd (Hold.of_but v1 hb)⟩
theorem Mid.below {W:World} {R B:Nat} {v:Value} {pre:List Tm} {c:Cur} {x:List Tm} {v1:Value} {l1:List Tm} {w w':World} (h:Mid W R B v pre c x v1 l1 w) (hb:Below w.heap.size w w'):Mid W R B v pre c x v1 l1 w' :=
 ⟨h.rd.keep hb,h.cap,h.hold.trans (Hold.of_below v1 hb),h.sig.keep hb⟩
theorem Mid.alloc {W:World} {R B:Nat} {v:Value} {pre:List Tm} {c:Cur} {x:List Tm} {v1:Value} {l1:List Tm} {w:World} (h:Mid W R B v pre c x v1 l1 w) (o:Obj):Mid W R B v pre c x v1 l1 (w.alloc o):=h.below ((Below.refl _ _).alloc (Nat.le_refl _) _)
theorem Mid.ins {W:World} {R B:Nat} {v:Value} {pre:List Tm} {c:Cur} {x:List Tm} {v1 v2:Value} {l1:List Tm} {w w':World} (h:Mid W R B v pre c x v1 l1 w) (t:Tm) (hr:RdAt w' R B v2 c (ins l1 pre.length t)) (hh:Hold R B v1 v2 w w'):Mid W R B v pre c (t :: x) v2 (ins l1 pre.length t) w' :=
 ⟨hr,h.cap.ins t h.rd.few id,h.hold.trans hh,h.sig.hold h.rd hh⟩
theorem Mid.part {W:World} {R B:Nat} {v:Value} {pre:List Tm} {c:Cur} {x:List Tm} {v1:Value} {l1:List Tm} {w w':World} (h:Mid W R B v pre c x v1 l1 w) {p:Pa} {v2:Value} {l2:List Tm} (hp:p.1.bad = 0 → c.bad = 0)
 (hr:RdAt w' R B v2 p.1 l2) (hc:CapD p.1 l1 p.2 l2) (hh:Hold R B v1 v2 w w'):Mid W R B v pre p.1 (x ++ p.2) v2 l2 w' :=
 ⟨hr,h.cap.join hr.few hp hc,h.hold.trans hh,h.sig.hold h.rd hh⟩
theorem Mid.ret {W:World} {R B:Nat} {v:Value} {pre:List Tm} {c:Cur} {x:List Tm} {v1:Value} {l1:List Tm} {w:World} (h:Mid W R B v pre c x v1 l1 w) {p:Pa} (hp:p = (c,x)):RetPart W R B v pre p (.returned (.tuple #[])) w:=by
 subst hp
 exact ⟨v1,l1,rfl,h.rd,h.cap,h.hold⟩
theorem Mid.head {W:World} {R B:Nat} {v:Value} {pre:List Tm} {c:Cur} {x:List Tm} {v1:Value} {l1:List Tm} {w:World} (h:Mid W R B v pre c x v1 l1 w) {p:Pa × Int} {n:Int} (hp:p = ((c,x),n)):RetHead W R B v pre p (.returned (.int .i64 n)) w:=by
 subst hp
 exact ⟨v1,l1,rfl,h.rd,h.cap,h.hold⟩
theorem add_mid {W:World} {R B:Nat} {v:Value} {c:Cur} {v1:Value} {l1:List Tm} {w:World} (h:Mid W R B v l1 c [] v1 l1 w) (o n:Int) (s:ByteArray) (hs:s.size ≤ 9223372036854775807) :
 Calls Tryz.prog 204 #[.pointer (some ⟨R,0,none⟩),.agg #[.int .i64 o,.int .i64 n,.string s]] w fun e w' => ∃ v2 l2,e = .returned (.tuple #[]) ∧ Mid W R B v l1 c [⟨o,n,s⟩] v2 l2 w':=by
 refine (add_at R B v1 c l1 ⟨o,n,s⟩ w h.rd hs).mono ?_
 rintro e w' ⟨v2,rfl,hr,hh⟩
 exact ⟨v2,_,rfl,h.ins _ hr hh⟩
theorem part_mid {f:Nat} (hP:PartOk f) {W:World} {R B:Nat} {v:Value} {pre:List Tm} {c:Cur} {x:List Tm} {v1:Value} {l1:List Tm} {w:World} (h:Mid W R B v pre c x v1 l1 w) (k:Int) (ok:Ok c) (hf:Fit f c) :
 Calls Tryz.prog 187 #[.pointer (some ⟨R,0,none⟩),.int .i64 k] w fun e w' => ∃ v2 l2,e = .returned (.tuple #[]) ∧ Mid W R B v pre (S f c k).1 (x ++ (S f c k).2) v2 l2 w':=by
 refine (hP R B v1 c l1 k w h.sig h.rd ok hf).mono ?_
 rintro e w' ⟨v2,l2,rfl,hr,hc,hh⟩
 exact ⟨v2,l2,rfl,h.part (S_less f c k).2 hr hc hh⟩
theorem want_mid {W:World} {R B:Nat} {v:Value} {pre:List Tm} {c:Cur} {x:List Tm} {v1:Value} {l1:List Tm} {w:World} (h:Mid W R B v pre c x v1 l1 w) (k:Int) (s:ByteArray) :
 Calls Tryz.prog 21 #[.pointer (some ⟨B,0,none⟩),.int .i64 k,.string s] w fun e w' => e = .returned (.tuple #[]) ∧ Mid W R B v pre (want c k s) x v1 l1 w':=by
 refine (want_at B c k s w h.rd.cur).mono ?_
 rintro e w' ⟨rfl,hc,hb⟩
 exact ⟨rfl,h.cur hc hb (fun hg => (isB_next (want_good hg).1).1)⟩
theorem take_yes {W:World} {R B:Nat} {v:Value} {pre:List Tm} {c:Cur} {x:List Tm} {v1:Value} {l1:List Tm} {w:World} (h:Mid W R B v pre c x v1 l1 w) {k:Int} {s:ByteArray} (hb:isB c k s = true) :
 Calls Tryz.prog 52 #[.pointer (some ⟨B,0,none⟩),.int .i64 k,.string s] w fun e w' => e = .returned (.bool true) ∧ Mid W R B v pre (on c) x v1 l1 w':=by
 have ht:take c k s = on c:=by unfold take; rw [if_pos hb]
 have:=take_at B c k s w h.rd.cur
 rw [hb,ht] at this
 refine this.mono ?_
 rintro e w' ⟨rfl,hc,hg⟩
 exact ⟨rfl,h.cur hc hg (fun hg => by rw [(on_bad c).1] at hg; exact hg)⟩
theorem take_no {W:World} {R B:Nat} {v:Value} {pre:List Tm} {c:Cur} {x:List Tm} {v1:Value} {l1:List Tm} {w:World} (h:Mid W R B v pre c x v1 l1 w) {k:Int} {s:ByteArray} (hb:isB c k s = false) :
 Calls Tryz.prog 52 #[.pointer (some ⟨B,0,none⟩),.int .i64 k,.string s] w fun e w' => e = .returned (.bool false) ∧ Mid W R B v pre c x v1 l1 w':=by
 have ht:take c k s = c:=by unfold take; rw [if_neg (by rw [hb]; decide)]
 have:=take_at B c k s w h.rd.cur
 rw [hb,ht] at this
 refine this.mono ?_
 rintro e w' ⟨rfl,hc,hg⟩
 exact ⟨rfl,h.cur hc hg id⟩
theorem name_mid {W:World} {R B:Nat} {v:Value} {pre:List Tm} {c:Cur} {x:List Tm} {v1:Value} {l1:List Tm} {w:World} (h:Mid W R B v pre c x v1 l1 w) (ok:Ok c) :
 Calls Tryz.prog 47 #[.pointer (some ⟨B,0,none⟩)] w fun e w' => e = .returned (.string (nameS c)) ∧ Mid W R B v pre (nameC c) x v1 l1 w':=by
 refine (name_at B c ok w h.rd.cur).mono ?_
 rintro e w' ⟨rfl,hc,hg⟩
 exact ⟨rfl,h.cur hc hg (fun hg => (nameB_next (nameC_good hg).1).1)⟩
theorem number_mid {W:World} {R B:Nat} {v:Value} {pre:List Tm} {c:Cur} {x:List Tm} {v1:Value} {l1:List Tm} {w:World} (h:Mid W R B v pre c x v1 l1 w) (m:Int) (ok:Ok c) :
 Calls Tryz.prog 165 #[.pointer (some ⟨B,0,none⟩),.int .i64 m] w fun e w' => e = .returned (.int .i64 (numN c m)) ∧ Mid W R B v pre (numC c m) x v1 l1 w':=by
 refine (number_at B c m ok w h.rd.cur).mono ?_
 rintro e w' ⟨rfl,hc,hg⟩
 exact ⟨rfl,h.cur hc hg (fun hg => (numE_next (numC_good hg).1).1)⟩
theorem peek_mid {W:World} {R B:Nat} {v:Value} {pre:List Tm} {c:Cur} {x:List Tm} {v1:Value} {l1:List Tm} {w:World} (h:Mid W R B v pre c x v1 l1 w) :
 Calls Tryz.prog 87 #[.pointer (some ⟨B,0,none⟩)] w fun e w' => e = .returned (.agg #[.int .i64 (next c).k,.string (next c).t,.int .i64 (next c).l,.int .i64 (next c).c]) ∧ Mid W R B v pre c x v1 l1 w':=by
 refine (next_at B c w h.rd.cur).mono ?_
 rintro e w' ⟨rfl,hb⟩
 exact ⟨rfl,h.below hb⟩
theorem nameS_small (c:Cur) (ok:Ok c):(nameS c).size ≤ 9223372036854775807:=by
 unfold nameS
 split
 ·exact ok.next
 ·decide
end Go.Proofs.YtjfghaohogcfbaaGreatDoor
namespace Go.Proofs.YtjfghaohogcfbaaGreatDoor
open Go.RowKit CurSpec TermSpec ExprSpec NamesSpec
set_option maxRecDepth 100000
def TwoOk (f:Nat):Prop:=∀ (R B:Nat) (v:Value) (c:Cur) (l:List Tm) (o:Int) (w:World),SignsIn w → RdAt w R B v c l → Ok c → Fit f c →
 Calls Tryz.prog 211 #[.pointer (some ⟨R,0,none⟩),.int .i64 o] w (RetPart w R B v l (two (S f) c o))
theorem ok_S (f:Nat) {c:Cur} (k:Int) (h:Ok c):Ok (S f c k).1:=(inv_ok.all f).1 c k h
theorem fit_want {f:Nat} {c:Cur} (h:Fit f c) (k:Int) (s:ByteArray):Fit f (want c k s):=fun hb => by
 have:=h (isB_next (want_good hb).1).1
 have:=want_len c k s
 omega
theorem fit_S {f g:Nat} {c:Cur} (h:Fit f c) (k:Int):Fit f (S g c k).1:=fun hb => by
 have h1:=S_less g c k
 have:=h (h1.2 hb)
 omega
set_option maxHeartbeats 4000000 in
theorem two_step (f:Nat) (hP:PartOk f):TwoOk f:=by
 intro R B v c l o w hs h ok hf
 have HP:=Lib.hid hP
 have H0:=Lib.hid (Mid.start hs h)
 have r0:=H0.out.cell
 have HOK:=Lib.hid ok
 have HF:=Lib.hid hf
 clear hs h ok hf hP
 go_enter Tryz.func211,Tryz.ntmps211
 go_wp2_with (go_at_call 204; (with_reducible refine (add_mid H0.out o 0 ⟨#[]⟩ (by decide)).mono ?_))
 rintro e w1 ⟨v1,l1,rfl,M1⟩
 have H1:=Lib.hid M1
 have r1:=M1.cell
 clear M1 r0
 go_wp2_with (go_at_call 21; (with_reducible refine (want_mid H1.out 3 tOpen).mono ?_))
 rintro e w2 ⟨rfl,M2⟩
 have H2:=Lib.hid M2
 have r2:=M2.cell
 clear M2 r1
 go_wp2_with (go_at_call 187; (with_reducible refine (part_mid HP.out H2.out 1 (HOK.out.want _ _) (fit_want HF.out _ _)).mono ?_))
 rintro e w3 ⟨v3,l3,rfl,M3⟩
 have H3:=Lib.hid M3
 have r3:=M3.cell
 clear M3 r2
 go_wp2_with (go_at_call 21; (with_reducible refine (want_mid H3.out 3 tComma).mono ?_))
 rintro e w4 ⟨rfl,M4⟩
 have H4:=Lib.hid M4
 have r4:=M4.cell
 clear M4 r3
 go_wp2_with (go_at_call 187; (with_reducible refine (part_mid HP.out H4.out 1 ((ok_S f _ (HOK.out.want _ _)).want _ _) (fit_want (fit_S (fit_want HF.out _ _) _) _ _)).mono ?_))
 rintro e w5 ⟨v5,l5,rfl,M5⟩
 have H5:=Lib.hid M5
 have r5:=M5.cell
 clear M5 r4
 go_wp2_with (go_at_call 21; (with_reducible refine (want_mid H5.out 3 tClose).mono ?_))
 rintro e w6 ⟨rfl,M6⟩
 have H6:=Lib.hid M6
 have r6:=M6.cell
 clear M6 r5
 go_wp2_with fail
 go_end0
 exact H6.out.ret (by unfold two opT; simp)
def LastOk (f:Nat) (c:Cur):Prop:=∀ (R B:Nat) (v:Value) (l:List Tm) (w:World),SignsIn w → RdAt w R B v c l →
 Calls Tryz.prog 205 #[.pointer (some ⟨R,0,none⟩)] w (RetPart w R B v l (atom (S f) c))
theorem two_mid {f:Nat} (hP:PartOk f) {W:World} {R B:Nat} {v:Value} {pre:List Tm} {c:Cur} {x:List Tm} {v1:Value} {l1:List Tm} {w:World} (h:Mid W R B v pre c x v1 l1 w) (o:Int) (ok:Ok c) (hf:Fit f c) :
 Calls Tryz.prog 211 #[.pointer (some ⟨R,0,none⟩),.int .i64 o] w fun e w' => ∃ v2 l2,e = .returned (.tuple #[]) ∧ Mid W R B v pre (two (S f) c o).1 (x ++ (two (S f) c o).2) v2 l2 w':=by
 refine (two_step f hP R B v1 c l1 o w h.sig h.rd ok hf).mono ?_
 rintro e w' ⟨v2,l2,rfl,hr,hc,hh⟩
 exact ⟨v2,l2,rfl,h.part (two_len (S_less f) c o).2 hr hc hh⟩
set_option maxHeartbeats 4000000 in
theorem last_step (f:Nat) (c:Cur) (hP:c.bad = 0 → PartOk f) (ok:Ok c) (hf:Fit (f + 1) c):LastOk f c:=by
 intro R B v l w hs h
 have HP:=Lib.hid hP
 have H0:=Lib.hid (Mid.start hs h)
 have r0:=H0.out.cell
 have HOK:=Lib.hid ok
 have HF:=Lib.hid hf
 have HFO:Hid (∀ {k:Int} {s:ByteArray},isB c k s = true → k ≠ 0 → Fit f (on c)):=Lib.hid (fun hb hk _ => by
  have:=isB_real hb hk
  have:=hf this.1
  omega)
 clear hs h ok hf hP
 by_cases h2:(next c).k = 2
 ·have e2:((next c).k == 2) = true:=by simpa using h2
  have HE:Hid (atom (S f) c = (numC c 1000000,[⟨1,numN c 1000000,⟨#[]⟩⟩])):=Lib.hid (if_pos h2)
  clear h2
  go_enter Tryz.func205,Tryz.ntmps205
  go_wp2_with (go_at_call 87; (with_reducible refine (peek_mid H0.out).mono ?_))
  rintro e w1 ⟨rfl,M1⟩
  have hfld:∀ w,(Instr.field 84 (.agg #[.int .i64 (next c).k,.string (next c).t,.int .i64 (next c).l,.int .i64 (next c).c]) 0).run Tryz.prog w = .ok (.int .i64 (next c).k) w:=fun _ => by kernel_rfl
  have H1:=Lib.hid M1
  have r1:=M1.cell
  clear M1 r0
  go_wp2_with (go_at_call 165; (with_reducible refine (number_mid H1.out 1000000 HOK.out).mono ?_))
  rintro e w2 ⟨rfl,M2⟩
  have H2:=Lib.hid M2
  have r2:=M2.cell
  clear M2 r1
  go_wp2_with (go_at_call 204; (with_reducible refine (add_mid H2.out 1 (numN c 1000000) ⟨#[]⟩ (by decide)).mono ?_))
  rintro e w3 ⟨v3,l3,rfl,M3⟩
  have H3:=Lib.hid M3
  have r3:=M3.cell
  clear M3 r2
  go_wp2_with fail
  go_end0
  exact H3.out.ret HE.out
 have e2:((next c).k == 2) = false:=by simpa using h2
 by_cases b0:isB c 1 tTrue = true
 ·have HE:Hid (atom (S f) c = (on c,[opT 9])):=Lib.hid (by unfold atom; rw [if_neg h2,if_pos b0])
  have HPG:=Lib.hid (HP.out (isB_next b0).1)
  have HFG:=Lib.hid (HFO.out b0 (by decide))
  have HB:=Lib.hid b0
  clear h2 b0
  go_enter Tryz.func205,Tryz.ntmps205
  go_wp2_with (go_at_call 87; (with_reducible refine (peek_mid H0.out).mono ?_))
  rintro e w1 ⟨rfl,M1⟩
  have hfld:∀ w,(Instr.field 84 (.agg #[.int .i64 (next c).k,.string (next c).t,.int .i64 (next c).l,.int .i64 (next c).c]) 0).run Tryz.prog w = .ok (.int .i64 (next c).k) w:=fun _ => by kernel_rfl
  have H1:=Lib.hid M1
  have r1:=M1.cell
  clear M1 r0
  go_wp2_with (go_at_call 52; (with_reducible refine (take_yes H1.out (k:=1) (s:=tTrue) HB.out).mono ?_))
  rintro e w2 ⟨rfl,M2⟩
  have H2:=Lib.hid M2
  have r2:=M2.cell
  clear M2 r1
  go_wp2_with (go_at_call 204; (with_reducible refine (add_mid H2.out 9 0 ⟨#[]⟩ (by decide)).mono ?_))
  rintro e w3 ⟨v3,l3,rfl,M3⟩
  have H3:=Lib.hid M3
  have r3:=M3.cell
  clear M3 r2
  go_wp2_with fail
  go_end0
  exact H3.out.ret (by first | exact HE.out | (rw [HE.out]; simp [opT]))
 have n0:¬ isB c 1 tTrue = true:=b0
 have N0:Hid (isB c 1 tTrue = false):=Lib.hid (by simpa using b0)
 clear b0
 by_cases b1:isB c 1 tFalse = true
 ·have HE:Hid (atom (S f) c = (on c,[opT 10])):=Lib.hid (by unfold atom; rw [if_neg h2,if_neg n0,if_pos b1])
  have HPG:=Lib.hid (HP.out (isB_next b1).1)
  have HFG:=Lib.hid (HFO.out b1 (by decide))
  have HB:=Lib.hid b1
  clear h2 b1 n0
  go_enter Tryz.func205,Tryz.ntmps205
  go_wp2_with (go_at_call 87; (with_reducible refine (peek_mid H0.out).mono ?_))
  rintro e w1 ⟨rfl,M1⟩
  have hfld:∀ w,(Instr.field 84 (.agg #[.int .i64 (next c).k,.string (next c).t,.int .i64 (next c).l,.int .i64 (next c).c]) 0).run Tryz.prog w = .ok (.int .i64 (next c).k) w:=fun _ => by kernel_rfl
  have H1:=Lib.hid M1
  have r1:=M1.cell
  clear M1 r0
  go_wp2_with (go_at_call 52; (with_reducible refine (take_no H1.out (k:=1) (s:=tTrue) N0.out).mono ?_))
  rintro e w2 ⟨rfl,M2⟩
  have H2:=Lib.hid M2
  have r2:=M2.cell
  clear M2 r1
  go_wp2_with (go_at_call 52; (with_reducible refine (take_yes H2.out (k:=1) (s:=tFalse) HB.out).mono ?_))
  rintro e w3 ⟨rfl,M3⟩
  have H3:=Lib.hid M3
  have r3:=M3.cell
  clear M3 r2
  go_wp2_with (go_at_call 204; (with_reducible refine (add_mid H3.out 10 0 ⟨#[]⟩ (by decide)).mono ?_))
  rintro e w4 ⟨v4,l4,rfl,M4⟩
  have H4:=Lib.hid M4
  have r4:=M4.cell
  clear M4 r3
  go_wp2_with fail
  go_end0
  exact H4.out.ret (by first | exact HE.out | (rw [HE.out]; simp [opT]))
 have n1:¬ isB c 1 tFalse = true:=b1
 have N1:Hid (isB c 1 tFalse = false):=Lib.hid (by simpa using b1)
 clear b1
 by_cases b2:isB c 1 tIn = true
 ·have HE:Hid (atom (S f) c = (want (nameC (want (on c) 3 tOpen)) 3 tClose,[⟨11,0,nameS (want (on c) 3 tOpen)⟩])):=Lib.hid (by unfold atom; rw [if_neg h2,if_neg n0,if_neg n1,if_pos b2])
  have HPG:=Lib.hid (HP.out (isB_next b2).1)
  have HFG:=Lib.hid (HFO.out b2 (by decide))
  have HB:=Lib.hid b2
  clear h2 b2 n0 n1
  go_enter Tryz.func205,Tryz.ntmps205
  go_wp2_with (go_at_call 87; (with_reducible refine (peek_mid H0.out).mono ?_))
  rintro e w1 ⟨rfl,M1⟩
  have hfld:∀ w,(Instr.field 84 (.agg #[.int .i64 (next c).k,.string (next c).t,.int .i64 (next c).l,.int .i64 (next c).c]) 0).run Tryz.prog w = .ok (.int .i64 (next c).k) w:=fun _ => by kernel_rfl
  have H1:=Lib.hid M1
  have r1:=M1.cell
  clear M1 r0
  go_wp2_with (go_at_call 52; (with_reducible refine (take_no H1.out (k:=1) (s:=tTrue) N0.out).mono ?_))
  rintro e w2 ⟨rfl,M2⟩
  have H2:=Lib.hid M2
  have r2:=M2.cell
  clear M2 r1
  go_wp2_with (go_at_call 52; (with_reducible refine (take_no H2.out (k:=1) (s:=tFalse) N1.out).mono ?_))
  rintro e w3 ⟨rfl,M3⟩
  have H3:=Lib.hid M3
  have r3:=M3.cell
  clear M3 r2
  go_wp2_with (go_at_call 52; (with_reducible refine (take_yes H3.out (k:=1) (s:=tIn) HB.out).mono ?_))
  rintro e w4 ⟨rfl,M4⟩
  have H4:=Lib.hid M4
  have r4:=M4.cell
  clear M4 r3
  go_wp2_with (go_at_call 21; (with_reducible refine (want_mid H4.out 3 tOpen).mono ?_))
  rintro e w5 ⟨rfl,M5⟩
  have H5:=Lib.hid M5
  have r5:=M5.cell
  clear M5 r4
  go_wp2_with (go_at_call 47; (with_reducible refine (name_mid H5.out (HOK.out.on.want _ _)).mono ?_))
  rintro e w6 ⟨rfl,M6⟩
  have H6:=Lib.hid M6
  have r6:=M6.cell
  clear M6 r5
  go_wp2_with (go_at_call 204; (with_reducible refine (add_mid H6.out 11 0 (nameS (want (on c) 3 tOpen)) (nameS_small _ (HOK.out.on.want _ _))).mono ?_))
  rintro e w7 ⟨v7,l7,rfl,M7⟩
  have H7:=Lib.hid M7
  have r7:=M7.cell
  clear M7 r6
  go_wp2_with (go_at_call 21; (with_reducible refine (want_mid H7.out 3 tClose).mono ?_))
  rintro e w8 ⟨rfl,M8⟩
  have H8:=Lib.hid M8
  have r8:=M8.cell
  clear M8 r7
  go_wp2_with fail
  go_end0
  exact H8.out.ret (by first | exact HE.out | (rw [HE.out]; simp [opT]))
 have n2:¬ isB c 1 tIn = true:=b2
 have N2:Hid (isB c 1 tIn = false):=Lib.hid (by simpa using b2)
 clear b2
 by_cases b3:isB c 1 tMin = true
 ·have HE:Hid (atom (S f) c = two (S f) (on c) 7):=Lib.hid (by unfold atom; rw [if_neg h2,if_neg n0,if_neg n1,if_neg n2,if_pos b3])
  have HPG:=Lib.hid (HP.out (isB_next b3).1)
  have HFG:=Lib.hid (HFO.out b3 (by decide))
  have HB:=Lib.hid b3
  clear h2 b3 n0 n1 n2
  go_enter Tryz.func205,Tryz.ntmps205
  go_wp2_with (go_at_call 87; (with_reducible refine (peek_mid H0.out).mono ?_))
  rintro e w1 ⟨rfl,M1⟩
  have hfld:∀ w,(Instr.field 84 (.agg #[.int .i64 (next c).k,.string (next c).t,.int .i64 (next c).l,.int .i64 (next c).c]) 0).run Tryz.prog w = .ok (.int .i64 (next c).k) w:=fun _ => by kernel_rfl
  have H1:=Lib.hid M1
  have r1:=M1.cell
  clear M1 r0
  go_wp2_with (go_at_call 52; (with_reducible refine (take_no H1.out (k:=1) (s:=tTrue) N0.out).mono ?_))
  rintro e w2 ⟨rfl,M2⟩
  have H2:=Lib.hid M2
  have r2:=M2.cell
  clear M2 r1
  go_wp2_with (go_at_call 52; (with_reducible refine (take_no H2.out (k:=1) (s:=tFalse) N1.out).mono ?_))
  rintro e w3 ⟨rfl,M3⟩
  have H3:=Lib.hid M3
  have r3:=M3.cell
  clear M3 r2
  go_wp2_with (go_at_call 52; (with_reducible refine (take_no H3.out (k:=1) (s:=tIn) N2.out).mono ?_))
  rintro e w4 ⟨rfl,M4⟩
  have H4:=Lib.hid M4
  have r4:=M4.cell
  clear M4 r3
  go_wp2_with (go_at_call 52; (with_reducible refine (take_yes H4.out (k:=1) (s:=tMin) HB.out).mono ?_))
  rintro e w5 ⟨rfl,M5⟩
  have H5:=Lib.hid M5
  have r5:=M5.cell
  clear M5 r4
  go_wp2_with (go_at_call 211; (with_reducible refine (two_mid HPG.out H5.out 7 HOK.out.on HFG.out).mono ?_))
  rintro e w6 ⟨v6,l6,rfl,M6⟩
  have H6:=Lib.hid M6
  have r6:=M6.cell
  clear M6 r5
  go_wp2_with fail
  go_end0
  exact H6.out.ret (by first | exact HE.out | (rw [HE.out]; simp [opT]))
 have n3:¬ isB c 1 tMin = true:=b3
 have N3:Hid (isB c 1 tMin = false):=Lib.hid (by simpa using b3)
 clear b3
 by_cases b4:isB c 1 tMax = true
 ·have HE:Hid (atom (S f) c = two (S f) (on c) 8):=Lib.hid (by unfold atom; rw [if_neg h2,if_neg n0,if_neg n1,if_neg n2,if_neg n3,if_pos b4])
  have HPG:=Lib.hid (HP.out (isB_next b4).1)
  have HFG:=Lib.hid (HFO.out b4 (by decide))
  have HB:=Lib.hid b4
  clear h2 b4 n0 n1 n2 n3
  go_enter Tryz.func205,Tryz.ntmps205
  go_wp2_with (go_at_call 87; (with_reducible refine (peek_mid H0.out).mono ?_))
  rintro e w1 ⟨rfl,M1⟩
  have hfld:∀ w,(Instr.field 84 (.agg #[.int .i64 (next c).k,.string (next c).t,.int .i64 (next c).l,.int .i64 (next c).c]) 0).run Tryz.prog w = .ok (.int .i64 (next c).k) w:=fun _ => by kernel_rfl
  have H1:=Lib.hid M1
  have r1:=M1.cell
  clear M1 r0
  go_wp2_with (go_at_call 52; (with_reducible refine (take_no H1.out (k:=1) (s:=tTrue) N0.out).mono ?_))
  rintro e w2 ⟨rfl,M2⟩
  have H2:=Lib.hid M2
  have r2:=M2.cell
  clear M2 r1
  go_wp2_with (go_at_call 52; (with_reducible refine (take_no H2.out (k:=1) (s:=tFalse) N1.out).mono ?_))
  rintro e w3 ⟨rfl,M3⟩
  have H3:=Lib.hid M3
  have r3:=M3.cell
  clear M3 r2
  go_wp2_with (go_at_call 52; (with_reducible refine (take_no H3.out (k:=1) (s:=tIn) N2.out).mono ?_))
  rintro e w4 ⟨rfl,M4⟩
  have H4:=Lib.hid M4
  have r4:=M4.cell
  clear M4 r3
  go_wp2_with (go_at_call 52; (with_reducible refine (take_no H4.out (k:=1) (s:=tMin) N3.out).mono ?_))
  rintro e w5 ⟨rfl,M5⟩
  have H5:=Lib.hid M5
  have r5:=M5.cell
  clear M5 r4
  go_wp2_with (go_at_call 52; (with_reducible refine (take_yes H5.out (k:=1) (s:=tMax) HB.out).mono ?_))
  rintro e w6 ⟨rfl,M6⟩
  have H6:=Lib.hid M6
  have r6:=M6.cell
  clear M6 r5
  go_wp2_with (go_at_call 211; (with_reducible refine (two_mid HPG.out H6.out 8 HOK.out.on HFG.out).mono ?_))
  rintro e w7 ⟨v7,l7,rfl,M7⟩
  have H7:=Lib.hid M7
  have r7:=M7.cell
  clear M7 r6
  go_wp2_with fail
  go_end0
  exact H7.out.ret (by first | exact HE.out | (rw [HE.out]; simp [opT]))
 have n4:¬ isB c 1 tMax = true:=b4
 have N4:Hid (isB c 1 tMax = false):=Lib.hid (by simpa using b4)
 clear b4
 by_cases b5:isB c 3 tOpen = true
 ·have HE:Hid (atom (S f) c = (want (S f (on c) 1).1 3 tClose,(S f (on c) 1).2)):=Lib.hid (by unfold atom; rw [if_neg h2,if_neg n0,if_neg n1,if_neg n2,if_neg n3,if_neg n4,if_pos b5])
  have HPG:=Lib.hid (HP.out (isB_next b5).1)
  have HFG:=Lib.hid (HFO.out b5 (by decide))
  have HB:=Lib.hid b5
  clear h2 b5 n0 n1 n2 n3 n4
  go_enter Tryz.func205,Tryz.ntmps205
  go_wp2_with (go_at_call 87; (with_reducible refine (peek_mid H0.out).mono ?_))
  rintro e w1 ⟨rfl,M1⟩
  have hfld:∀ w,(Instr.field 84 (.agg #[.int .i64 (next c).k,.string (next c).t,.int .i64 (next c).l,.int .i64 (next c).c]) 0).run Tryz.prog w = .ok (.int .i64 (next c).k) w:=fun _ => by kernel_rfl
  have H1:=Lib.hid M1
  have r1:=M1.cell
  clear M1 r0
  go_wp2_with (go_at_call 52; (with_reducible refine (take_no H1.out (k:=1) (s:=tTrue) N0.out).mono ?_))
  rintro e w2 ⟨rfl,M2⟩
  have H2:=Lib.hid M2
  have r2:=M2.cell
  clear M2 r1
  go_wp2_with (go_at_call 52; (with_reducible refine (take_no H2.out (k:=1) (s:=tFalse) N1.out).mono ?_))
  rintro e w3 ⟨rfl,M3⟩
  have H3:=Lib.hid M3
  have r3:=M3.cell
  clear M3 r2
  go_wp2_with (go_at_call 52; (with_reducible refine (take_no H3.out (k:=1) (s:=tIn) N2.out).mono ?_))
  rintro e w4 ⟨rfl,M4⟩
  have H4:=Lib.hid M4
  have r4:=M4.cell
  clear M4 r3
  go_wp2_with (go_at_call 52; (with_reducible refine (take_no H4.out (k:=1) (s:=tMin) N3.out).mono ?_))
  rintro e w5 ⟨rfl,M5⟩
  have H5:=Lib.hid M5
  have r5:=M5.cell
  clear M5 r4
  go_wp2_with (go_at_call 52; (with_reducible refine (take_no H5.out (k:=1) (s:=tMax) N4.out).mono ?_))
  rintro e w6 ⟨rfl,M6⟩
  have H6:=Lib.hid M6
  have r6:=M6.cell
  clear M6 r5
  go_wp2_with (go_at_call 52; (with_reducible refine (take_yes H6.out (k:=3) (s:=tOpen) HB.out).mono ?_))
  rintro e w7 ⟨rfl,M7⟩
  have H7:=Lib.hid M7
  have r7:=M7.cell
  clear M7 r6
  go_wp2_with (go_at_call 187; (with_reducible refine (part_mid HPG.out H7.out 1 HOK.out.on HFG.out).mono ?_))
  rintro e w8 ⟨v8,l8,rfl,M8⟩
  have H8:=Lib.hid M8
  have r8:=M8.cell
  clear M8 r7
  go_wp2_with (go_at_call 21; (with_reducible refine (want_mid H8.out 3 tClose).mono ?_))
  rintro e w9 ⟨rfl,M9⟩
  have H9:=Lib.hid M9
  have r9:=M9.cell
  clear M9 r8
  go_wp2_with fail
  go_end0
  exact H9.out.ret (by first | exact HE.out | (rw [HE.out]; simp [opT]))
 have n5:¬ isB c 3 tOpen = true:=b5
 have N5:Hid (isB c 3 tOpen = false):=Lib.hid (by simpa using b5)
 clear b5
 ·have HE:Hid (atom (S f) c = (nameC c,[⟨2,0,nameS c⟩])):=Lib.hid (by unfold atom; rw [if_neg h2,if_neg n0,if_neg n1,if_neg n2,if_neg n3,if_neg n4,if_neg n5])
  clear h2 n0 n1 n2 n3 n4 n5
  go_enter Tryz.func205,Tryz.ntmps205
  go_wp2_with (go_at_call 87; (with_reducible refine (peek_mid H0.out).mono ?_))
  rintro e w1 ⟨rfl,M1⟩
  have hfld:∀ w,(Instr.field 84 (.agg #[.int .i64 (next c).k,.string (next c).t,.int .i64 (next c).l,.int .i64 (next c).c]) 0).run Tryz.prog w = .ok (.int .i64 (next c).k) w:=fun _ => by kernel_rfl
  have H1:=Lib.hid M1
  have r1:=M1.cell
  clear M1 r0
  go_wp2_with (go_at_call 52; (with_reducible refine (take_no H1.out (k:=1) (s:=tTrue) N0.out).mono ?_))
  rintro e w2 ⟨rfl,M2⟩
  have H2:=Lib.hid M2
  have r2:=M2.cell
  clear M2 r1
  go_wp2_with (go_at_call 52; (with_reducible refine (take_no H2.out (k:=1) (s:=tFalse) N1.out).mono ?_))
  rintro e w3 ⟨rfl,M3⟩
  have H3:=Lib.hid M3
  have r3:=M3.cell
  clear M3 r2
  go_wp2_with (go_at_call 52; (with_reducible refine (take_no H3.out (k:=1) (s:=tIn) N2.out).mono ?_))
  rintro e w4 ⟨rfl,M4⟩
  have H4:=Lib.hid M4
  have r4:=M4.cell
  clear M4 r3
  go_wp2_with (go_at_call 52; (with_reducible refine (take_no H4.out (k:=1) (s:=tMin) N3.out).mono ?_))
  rintro e w5 ⟨rfl,M5⟩
  have H5:=Lib.hid M5
  have r5:=M5.cell
  clear M5 r4
  go_wp2_with (go_at_call 52; (with_reducible refine (take_no H5.out (k:=1) (s:=tMax) N4.out).mono ?_))
  rintro e w6 ⟨rfl,M6⟩
  have H6:=Lib.hid M6
  have r6:=M6.cell
  clear M6 r5
  go_wp2_with (go_at_call 52; (with_reducible refine (take_no H6.out (k:=3) (s:=tOpen) N5.out).mono ?_))
  rintro e w7 ⟨rfl,M7⟩
  have H7:=Lib.hid M7
  have r7:=M7.cell
  clear M7 r6
  go_wp2_with (go_at_call 47; (with_reducible refine (name_mid H7.out HOK.out).mono ?_))
  rintro e w8 ⟨rfl,M8⟩
  have H8:=Lib.hid M8
  have r8:=M8.cell
  clear M8 r7
  go_wp2_with (go_at_call 204; (with_reducible refine (add_mid H8.out 2 0 (nameS c) (nameS_small _ HOK.out)).mono ?_))
  rintro e w9 ⟨v9,l9,rfl,M9⟩
  have H9:=Lib.hid M9
  have r9:=M9.cell
  clear M9 r8
  go_wp2_with fail
  go_end0
  exact H9.out.ret HE.out
end Go.Proofs.YtjfghaohogcfbaaGreatDoor