/- ExprMid, ExprLast, ActReadSpec, TransSpec, joined. -/
import Derived.Test.YtbdalbpackfejaaGreatDoorMFormatOf05
set_option maxHeartbeats 16000000
set_option maxRecDepth 100000
namespace Go.Proofs.YtbdalbpackfejaaGreatDoor
section
open Go.RowKit CurSpec TermSpec ExprSpec NamesSpec
set_option maxRecDepth 100000
def Inv (P:Cur->Prop):Prop:=(∀ c,P c->P (on c))/\∀ c e,P c->P (fail c e)
theorem Inv.want {P:Cur -> Prop} (h:Inv P) {c:Cur} (hc:P c) (k:Int) (s:ByteArray):P (want c k s):=by
 unfold CurSpec.want
 split
 ·exact h.1 _ hc
 ·exact h.2 _ _ hc
theorem Inv.nameC {P:Cur -> Prop} (h:Inv P) {c:Cur} (hc:P c):P (nameC c):=by
 unfold CurSpec.nameC
 split
 ·exact h.1 _ hc
 ·exact h.2 _ _ hc
theorem Inv.numC {P:Cur -> Prop} (h:Inv P) {c:Cur} (hc:P c) (m:Int):P (numC c m):=by
 unfold CurSpec.numC
 split
 ·exact h.1 _ hc
 ·exact h.2 _ _ hc
theorem Inv.hd {P:Cur -> Prop} (h:Inv P) {rec:Cur -> Int -> Pa} (hr:∀ c k,P c -> P (rec c k).1) {c:Cur} (hc:P c) (k:Int):P (hd rec c k).1.1:=by
 have two_ok:∀ c o,P c->P (two rec c o).1:=fun c o hc=>h.want (hr _ _ (h.want (hr _ _ (h.want hc _ _)) _ _)) _ _
 unfold ExprSpec.hd
 split
 ·exact hr _ _ (h.1 _ hc)
 split
 ·exact hr _ _ (h.1 _ hc)
 ·dsimp only
  unfold atom
  split
  ·exact h.numC hc _
  split
  ·exact h.1 _ hc
  split
  ·exact h.1 _ hc
  split
  ·exact h.want (h.nameC (h.want (h.1 _ hc) _ _)) _ _
  split
  ·exact two_ok _ _ (h.1 _ hc)
  split
  ·exact two_ok _ _ (h.1 _ hc)
  split
  ·exact h.want (hr _ _ (h.1 _ hc)) _ _
  ·exact h.nameC hc
theorem Inv.all {P:Cur -> Prop} (h:Inv P):∀ f,(∀ c k,P c -> P (S f c k).1) /\ ∀ lev k c x,P c -> P (C f lev k c x).1
 | 0 => ⟨fun c k hc => hc,fun lev k c x hc => hc⟩
 | f + 1 => by
   obtain ⟨ih1,ih2⟩:=Inv.all h f;refine ⟨fun c k hc=>?_,fun lev k c x hc=>?_⟩
   ·by_cases h0:c.bad = 0
    ·rw [ZI f k h0]
     exact ih2 _ _ _ _ (h.hd ih1 hc k)
    ·rw [Z5 _ k h0]; exact hc
   ·cases hs:sgn c lev k with
    | none => rw [QY _ x hs]; exact hc
    | some s => rw [J2 f x hs]; exact ih2 _ _ _ _ (ih1 _ _ (h.1 _ hc))
theorem inv_ok:Inv Ok:=⟨fun _ h=>h.on,fun _ e h=>h.fail e⟩
def CapD (c:Cur) (pre x l:List Tm):Prop:=pre.length<=l.length/\(c.bad=0->(if pre.length+x.length<=41 then l=pre++x else l.length=41))
theorem CapD.start (c:Cur) (pre:List Tm) (h:pre.length<=41):CapD c pre [] pre:=⟨Nat.le_refl _,fun _=>by simp [h]⟩
theorem CapD.dead {c d:Cur} {pre x y l:List Tm} (h:CapD c pre x l) (hd:d.bad≠0):CapD d pre y l:=⟨h.1,fun h'=>absurd h' hd⟩
theorem CapD.to {c d:Cur} {pre x l:List Tm} (h:CapD c pre x l) (hd:d.bad=0->c.bad=0):CapD d pre x l:=⟨h.1,fun h'=>h.2 (hd h')⟩
theorem CapD.ins {c d:Cur} {pre x l:List Tm} (t:Tm) (hl:l.length <= 41) (hd:d.bad = 0 -> c.bad = 0) (h:CapD c pre x l):CapD d pre (t :: x) (ins l pre.length t):=by
 obtain ⟨h1,h2⟩:=h;refine ⟨?_,fun hb=>?_⟩
 ·unfold Go.Proofs.YtbdalbpackfejaaGreatDoor.ins
  split
  ·simp only [List.length_append,List.length_take,List.length_cons,List.length_drop]; omega
  ·exact h1
 ·have h3:=h2 (hd hb)
  unfold Go.Proofs.YtbdalbpackfejaaGreatDoor.ins
  by_cases h40:l.length<=40
  ·rw [if_pos h40]
   by_cases hp:pre.length+x.length<=41
   ·rw [if_pos hp] at h3
    subst h3;rw [List.length_append] at h40;rw [if_pos (by simp only [List.length_cons]; omega),List.take_left,List.drop_left]
   ·rw [if_neg hp] at h3; omega
  ·rw [if_neg h40]
   by_cases hp:pre.length+x.length<=41
   ·rw [if_pos hp] at h3
    subst h3;rw [List.length_append] at h40 hl;rw [if_neg (by simp only [List.length_cons]; omega),List.length_append];omega
   ·rw [if_neg (by simp only [List.length_cons]; omega)]; omega
theorem CapD.join {d e:Cur} {pre y l2 r l3:List Tm} (hl:l3.length <= 41) (he:e.bad = 0 -> d.bad = 0) (h1:CapD d pre y l2) (h2:CapD e l2 r l3):CapD e pre (y ++ r) l3:=by
 refine ⟨Nat.le_trans h1.1 h2.1,fun hb=>?_⟩;have g1:=h1.2 (he hb);have g2:=h2.2 hb;have hle:=h2.1;rw [List.length_append]
 by_cases hp:pre.length+y.length<=41
 ·rw [if_pos hp] at g1
  subst g1;rw [List.length_append] at g2 hle
  by_cases hq:pre.length+y.length+r.length<=41
  ·rw [if_pos hq] at g2
   rw [if_pos (by omega),g2,List.append_assoc]
  ·rw [if_neg hq] at g2
   rw [if_neg (by omega)]; exact g2
 ·rw [if_neg hp] at g1
  rw [if_neg (by omega)];omega
theorem SignsIn.hold {w w':World} {R B:Nat} {v v':Value} {c:Cur} {l:List Tm} (h:SignsIn w) (hr:RdAt w R B v c l) (hh:Hold R B v v' w w'):SignsIn w':=by
 have hp:=h.pos;refine h.of (hh.block _ hp ?_ ?_ ?_)
 ·rintro e
  obtain ⟨T,fr,h⟩:=h;obtain ⟨b,off,n,cp,hB,_⟩:=hr.cur;rw [e,hB] at h;simp only [Option.some.injEq,Obj.cells.injEq] at h;exact absurd ((congrArg Array.size h.1).symm.trans rfl) (show ¬ signsV.size=_ by rw [show signsV.size=55 by decide]; simp)
 ·rintro e
  obtain ⟨T,fr,h⟩:=h;rw [e,hr.blk] at h;simp only [Option.some.injEq,Obj.cells.injEq] at h;exact absurd ((congrArg Array.size h.1).symm.trans rfl) (show ¬ signsV.size=_ by rw [show signsV.size=55 by decide]; simp)
 ·intro e
  obtain ⟨T,fr,h⟩:=h
  rcases hr.own.2 with ⟨h1,_⟩ | ⟨g,cap,cur,h1,_,h3,_,_,h6,_⟩
  ·rw [h1] at e; cases e
  ·rw [h1] at e
   cases e
   rw [h3] at h;simp only [Option.some.injEq,Obj.cells.injEq] at h;rw [h.1] at h6;have:signsV.size=55:=by decide
   omega
def RetPart (W:World) (R B:Nat) (v:Value) (pre:List Tm) (p:Pa) (e:Ending) (w':World):Prop :=
 ∃ v' l',e = .returned (.tuple #[])/\RdAt w' R B v' p.1 l'/\CapD p.1 pre p.2 l'/\Hold R B v v' W w'
def RetHead (W:World) (R B:Nat) (v:Value) (pre:List Tm) (h:Pa × Int) (e:Ending) (w':World):Prop :=
 ∃ v' l',e = .returned (.int .i64 h.2)/\RdAt w' R B v' h.1.1 l'/\CapD h.1.1 pre h.1.2 l'/\Hold R B v v' W w'
def PartOk (f:Nat):Prop:=∀ (R B:Nat) (v:Value) (c:Cur) (l:List Tm) (k:Int) (w:World),SignsIn w -> RdAt w R B v c l -> Ok c -> Fit f c ->
 Calls Tryz.prog 174 #[.pointer (some ⟨R,0,none⟩),.int .i64 k] w (RetPart w R B v l (S f c k))
structure Mid (W:World) (R B:Nat) (v:Value) (pre:List Tm) (c:Cur) (x:List Tm) (v1:Value) (l1:List Tm) (w:World):Prop where
 rd:RdAt w R B v1 c l1
 cap:CapD c pre x l1
 hold:Hold R B v v1 W w
 sig:SignsIn w
theorem Mid.start {w:World} {R B:Nat} {v:Value} {c:Cur} {l:List Tm} (hs:SignsIn w) (h:RdAt w R B v c l):Mid w R B v l c [] v l w:=⟨h,CapD.start c l h.few,Hold.refl _ _ _ _,hs⟩
theorem Mid.cell {W:World} {R B:Nat} {v:Value} {pre:List Tm} {c:Cur} {x:List Tm} {v1:Value} {l1:List Tm} {w:World} (h:Mid W R B v pre c x v1 l1 w):w.cell? ⟨R,0,none⟩=some (.pointer (some ⟨B,0,none⟩)):=(QC h.rd.blk).1
theorem Mid.cur {W:World} {R B:Nat} {v:Value} {pre:List Tm} {c d:Cur} {x:List Tm} {v1:Value} {l1:List Tm} {w w':World} (h:Mid W R B v pre c x v1 l1 w) (hc:CurAt w' B d) (hb:w.grownBy w' (some B)) (hd:d.bad = 0 -> c.bad = 0):Mid W R B v pre d x v1 l1 w' :=
 ⟨h.rd.but hb hc,h.cap.to hd,h.hold.trans (Hold.of_but v1 hb),h.sig.hold h.rd (Hold.of_but v1 hb)⟩
theorem Mid.below {W:World} {R B:Nat} {v:Value} {pre:List Tm} {c:Cur} {x:List Tm} {v1:Value} {l1:List Tm} {w w':World} (h:Mid W R B v pre c x v1 l1 w) (hb:Below w.heap.size w w'):Mid W R B v pre c x v1 l1 w' :=
 ⟨h.rd.keep hb,h.cap,h.hold.trans (Hold.of_below v1 hb),h.sig.keep hb⟩
theorem Mid.alloc {W:World} {R B:Nat} {v:Value} {pre:List Tm} {c:Cur} {x:List Tm} {v1:Value} {l1:List Tm} {w:World} (h:Mid W R B v pre c x v1 l1 w) (o:Obj):Mid W R B v pre c x v1 l1 (w.alloc o):=h.below ((Below.refl _ _).alloc (Nat.le_refl _) _)
theorem Mid.ins {W:World} {R B:Nat} {v:Value} {pre:List Tm} {c:Cur} {x:List Tm} {v1 v2:Value} {l1:List Tm} {w w':World} (h:Mid W R B v pre c x v1 l1 w) (t:Tm) (hr:RdAt w' R B v2 c (ins l1 pre.length t)) (hh:Hold R B v1 v2 w w'):Mid W R B v pre c (t :: x) v2 (ins l1 pre.length t) w' :=
 ⟨hr,h.cap.ins t h.rd.few id,h.hold.trans hh,h.sig.hold h.rd hh⟩
theorem Mid.part {W:World} {R B:Nat} {v:Value} {pre:List Tm} {c:Cur} {x:List Tm} {v1:Value} {l1:List Tm} {w w':World} (h:Mid W R B v pre c x v1 l1 w) {p:Pa} {v2:Value} {l2:List Tm} (hp:p.1.bad = 0 -> c.bad = 0)
 (hr:RdAt w' R B v2 p.1 l2) (hc:CapD p.1 l1 p.2 l2) (hh:Hold R B v1 v2 w w'):Mid W R B v pre p.1 (x++p.2) v2 l2 w' :=
 ⟨hr,h.cap.join hr.few hp hc,h.hold.trans hh,h.sig.hold h.rd hh⟩
theorem Mid.ret {W:World} {R B:Nat} {v:Value} {pre:List Tm} {c:Cur} {x:List Tm} {v1:Value} {l1:List Tm} {w:World} (h:Mid W R B v pre c x v1 l1 w) {p:Pa} (hp:p = (c,x)):RetPart W R B v pre p (.returned (.tuple #[])) w:=by
 subst hp;exact ⟨v1,l1,rfl,h.rd,h.cap,h.hold⟩
theorem Mid.head {W:World} {R B:Nat} {v:Value} {pre:List Tm} {c:Cur} {x:List Tm} {v1:Value} {l1:List Tm} {w:World} (h:Mid W R B v pre c x v1 l1 w) {p:Pa × Int} {n:Int} (hp:p = ((c,x),n)):RetHead W R B v pre p (.returned (.int .i64 n)) w:=by
 subst hp;exact ⟨v1,l1,rfl,h.rd,h.cap,h.hold⟩
theorem add_mid {W:World} {R B:Nat} {v:Value} {c:Cur} {v1:Value} {l1:List Tm} {w:World} (h:Mid W R B v l1 c [] v1 l1 w) (o n:Int) (s:ByteArray) (hs:s.size <= 9223372036854775807) :
 Calls Tryz.prog 191 #[.pointer (some ⟨R,0,none⟩),.agg #[.int .i64 o,.int .i64 n,.string s]] w fun e w'=>∃ v2 l2,e = .returned (.tuple #[])/\Mid W R B v l1 c [⟨o,n,s⟩] v2 l2 w':=by
 refine (add_at R B v1 c l1 ⟨o,n,s⟩ w h.rd hs).mono ?_;rintro e w' ⟨v2,rfl,hr,hh⟩;exact ⟨v2,_,rfl,h.ins _ hr hh⟩
theorem Qaz {f:Nat} (hP:PartOk f) {W:World} {R B:Nat} {v:Value} {pre:List Tm} {c:Cur} {x:List Tm} {v1:Value} {l1:List Tm} {w:World} (h:Mid W R B v pre c x v1 l1 w) (k:Int) (ok:Ok c) (hf:Fit f c) :
 Calls Tryz.prog 174 #[.pointer (some ⟨R,0,none⟩),.int .i64 k] w fun e w'=>∃ v2 l2,e = .returned (.tuple #[])/\Mid W R B v pre (S f c k).1 (x++(S f c k).2) v2 l2 w':=by
 refine (hP R B v1 c l1 k w h.sig h.rd ok hf).mono ?_;rintro e w' ⟨v2,l2,rfl,hr,hc,hh⟩;exact ⟨v2,l2,rfl,h.part (Q5 f c k).2 hr hc hh⟩
theorem QaC {W:World} {R B:Nat} {v:Value} {pre:List Tm} {c:Cur} {x:List Tm} {v1:Value} {l1:List Tm} {w:World} (h:Mid W R B v pre c x v1 l1 w) (k:Int) (s:ByteArray) :
 Calls Tryz.prog 21 #[.pointer (some ⟨B,0,none⟩),.int .i64 k,.string s] w fun e w'=>e = .returned (.tuple #[])/\Mid W R B v pre (want c k s) x v1 l1 w':=by
 refine (Jl B c k s w h.rd.cur).mono ?_;rintro e w' ⟨rfl,hc,hb⟩;exact ⟨rfl,h.cur hc hb (fun hg=>(Qr (QW hg).1).1)⟩
theorem JV {W:World} {R B:Nat} {v:Value} {pre:List Tm} {c:Cur} {x:List Tm} {v1:Value} {l1:List Tm} {w:World} (h:Mid W R B v pre c x v1 l1 w) {k:Int} {s:ByteArray} (hb:isB c k s = true) :
 Calls Tryz.prog 46 #[.pointer (some ⟨B,0,none⟩),.int .i64 k,.string s] w fun e w'=>e = .returned (.bool true)/\Mid W R B v pre (on c) x v1 l1 w':=by
 have ht:take c k s=on c:=by unfold take; rw [if_pos hb]
 have:=take_at B c k s w h.rd.cur;rw [hb,ht] at this;refine this.mono ?_;rintro e w' ⟨rfl,hc,hg⟩;exact ⟨rfl,h.cur hc hg (fun hg=>by rw [(JL c).1] at hg; exact hg)⟩
theorem QU {W:World} {R B:Nat} {v:Value} {pre:List Tm} {c:Cur} {x:List Tm} {v1:Value} {l1:List Tm} {w:World} (h:Mid W R B v pre c x v1 l1 w) {k:Int} {s:ByteArray} (hb:isB c k s = false) :
 Calls Tryz.prog 46 #[.pointer (some ⟨B,0,none⟩),.int .i64 k,.string s] w fun e w'=>e = .returned (.bool false)/\Mid W R B v pre c x v1 l1 w':=by
 have ht:take c k s=c:=by unfold take; rw [if_neg (by rw [hb]; decide)]
 have:=take_at B c k s w h.rd.cur;rw [hb,ht] at this;refine this.mono ?_;rintro e w' ⟨rfl,hc,hg⟩;exact ⟨rfl,h.cur hc hg id⟩
theorem QhR {W:World} {R B:Nat} {v:Value} {pre:List Tm} {c:Cur} {x:List Tm} {v1:Value} {l1:List Tm} {w:World} (h:Mid W R B v pre c x v1 l1 w) (ok:Ok c) :
 Calls Tryz.prog 41 #[.pointer (some ⟨B,0,none⟩)] w fun e w'=>e = .returned (.string (nameS c))/\Mid W R B v pre (nameC c) x v1 l1 w':=by
 refine (Zj B c ok w h.rd.cur).mono ?_;rintro e w' ⟨rfl,hc,hg⟩;exact ⟨rfl,h.cur hc hg (fun hg=>(QaJ (ZM hg).1).1)⟩
theorem QiM {W:World} {R B:Nat} {v:Value} {pre:List Tm} {c:Cur} {x:List Tm} {v1:Value} {l1:List Tm} {w:World} (h:Mid W R B v pre c x v1 l1 w) (m:Int) (ok:Ok c) :
 Calls Tryz.prog 152 #[.pointer (some ⟨B,0,none⟩),.int .i64 m] w fun e w'=>e = .returned (.int .i64 (numN c m))/\Mid W R B v pre (numC c m) x v1 l1 w':=by
 refine (QcI B c m ok w h.rd.cur).mono ?_;rintro e w' ⟨rfl,hc,hg⟩;exact ⟨rfl,h.cur hc hg (fun hg=>(QfD (Qfs hg).1).1)⟩
theorem Zq {W:World} {R B:Nat} {v:Value} {pre:List Tm} {c:Cur} {x:List Tm} {v1:Value} {l1:List Tm} {w:World} (h:Mid W R B v pre c x v1 l1 w) :
 Calls Tryz.prog 78 #[.pointer (some ⟨B,0,none⟩)] w fun e w'=>e = .returned (.agg #[.int .i64 (next c).k,.string (next c).t,.int .i64 (next c).l,.int .i64 (next c).c])/\Mid W R B v pre c x v1 l1 w':=by
 refine (Qbu B c w h.rd.cur).mono ?_;rintro e w' ⟨rfl,hb⟩;exact ⟨rfl,h.below hb⟩
theorem Qda (c:Cur) (ok:Ok c):(nameS c).size <= 9223372036854775807:=by
 unfold nameS
 split
 ·exact ok.next
 ·decide
end
section
open Go.RowKit CurSpec TermSpec ExprSpec NamesSpec
set_option maxRecDepth 100000
def TwoOk (f:Nat):Prop:=∀ (R B:Nat) (v:Value) (c:Cur) (l:List Tm) (o:Int) (w:World),SignsIn w -> RdAt w R B v c l -> Ok c -> Fit f c ->
 Calls Tryz.prog 198 #[.pointer (some ⟨R,0,none⟩),.int .i64 o] w (RetPart w R B v l (two (S f) c o))
theorem ok_S (f:Nat) {c:Cur} (k:Int) (h:Ok c):Ok (S f c k).1:=(inv_ok.all f).1 c k h
theorem ZH {f:Nat} {c:Cur} (h:Fit f c) (k:Int) (s:ByteArray):Fit f (want c k s):=fun hb => by
 have:=h (Qr (QW hb).1).1;have:=QT c k s;omega
theorem QeZ {f g:Nat} {c:Cur} (h:Fit f c) (k:Int):Fit f (S g c k).1:=fun hb => by
 have h1:=Q5 g c k;have:=h (h1.2 hb);omega
theorem two_step (f:Nat) (hP:PartOk f):TwoOk f:=by
 intro R B v c l o w hs h ok hf;have HP:=qh hP;have H0:=qh (Mid.start hs h);have r0:=H0.o.cell;have HOK:=qh ok;have HF:=qh hf;clear hs h ok hf hP;go_enter Tryz.func198,Tryz.ntmps198;go_wp2_with (go_at_call 191; go_fit (add_mid H0.o o 0 ⟨#[]⟩ (by decide)));rintro e w1 ⟨v1,l1,rfl,M1⟩;have H1:=qh M1;have r1:=M1.cell;clear M1 r0;go_wp2_with (go_at_call 21; go_fit (QaC H1.o 3 tOpen));rintro e w2 ⟨rfl,M2⟩;have H2:=qh M2;have r2:=M2.cell;clear M2 r1;go_wp2_with (go_at_call 174; go_fit (Qaz HP.o H2.o 1 (HOK.o.want _ _) (ZH HF.o _ _)));rintro e w3 ⟨v3,l3,rfl,M3⟩;have H3:=qh M3;have r3:=M3.cell;clear M3 r2;go_wp2_with (go_at_call 21; go_fit (QaC H3.o 3 tComma));rintro e w4 ⟨rfl,M4⟩;have H4:=qh M4;have r4:=M4.cell;clear M4 r3;go_wp2_with (go_at_call 174; go_fit (Qaz HP.o H4.o 1 ((ok_S f _ (HOK.o.want _ _)).want _ _) (ZH (QeZ (ZH HF.o _ _) _) _ _)));rintro e w5 ⟨v5,l5,rfl,M5⟩;have H5:=qh M5;have r5:=M5.cell;clear M5 r4;go_wp2_with (go_at_call 21; go_fit (QaC H5.o 3 tClose));rintro e w6 ⟨rfl,M6⟩;have H6:=qh M6;have r6:=M6.cell;clear M6 r5;go_wp2_with fail
 go_end0
 exact H6.o.ret (by unfold two opT; simp)
def LastOk (f:Nat) (c:Cur):Prop:=∀ (R B:Nat) (v:Value) (l:List Tm) (w:World),SignsIn w -> RdAt w R B v c l ->
 Calls Tryz.prog 192 #[.pointer (some ⟨R,0,none⟩)] w (RetPart w R B v l (atom (S f) c))
theorem two_mid {f:Nat} (hP:PartOk f) {W:World} {R B:Nat} {v:Value} {pre:List Tm} {c:Cur} {x:List Tm} {v1:Value} {l1:List Tm} {w:World} (h:Mid W R B v pre c x v1 l1 w) (o:Int) (ok:Ok c) (hf:Fit f c) :
 Calls Tryz.prog 198 #[.pointer (some ⟨R,0,none⟩),.int .i64 o] w fun e w'=>∃ v2 l2,e = .returned (.tuple #[])/\Mid W R B v pre (two (S f) c o).1 (x++(two (S f) c o).2) v2 l2 w':=by
 refine (two_step f hP R B v1 c l1 o w h.sig h.rd ok hf).mono ?_;rintro e w' ⟨v2,l2,rfl,hr,hc,hh⟩;exact ⟨v2,l2,rfl,h.part (Qf9 (Q5 f) c o).2 hr hc hh⟩
theorem Jr {c:Cur} {k k':Int} {s s':ByteArray} (h:isB c k s = true) (hne:k ≠ k' \/ s ≠ s'):isB c k' s' = false:=by
 obtain ⟨h0,h1,h2⟩:=Qr h;unfold isB;rw [h1,h2]
 rcases hne with h | h
 ·rw [decide_eq_false h]; simp
 ·rw [decide_eq_false h]; simp
theorem last_step (f:Nat) (c:Cur) (hP:c.bad = 0 -> PartOk f) (ok:Ok c) (hf:Fit (f + 1) c):LastOk f c:=by
 intro R B v l w hs h;have HP:=qh hP;have H0:=qh (Mid.start hs h);have r0:=H0.o.cell;have HOK:=qh ok;have HF:=qh hf
 have HFO:Hid (∀ {k:Int} {s:ByteArray},isB c k s = true -> k ≠ 0 -> Fit f (on c)):=qh (fun hb hk _ => by
  have:=Qv hb hk;have:=hf this.1;omega)
 clear hs h ok hf hP
 by_cases h2:(next c).k=2
 ·have e2:((next c).k == 2) = true:=by simpa using h2
  have HE:Hid (atom (S f) c=(numC c 1000000,[⟨1,numN c 1000000,⟨#[]⟩⟩])):=qh (if_pos h2);clear h2;go_enter Tryz.func192,Tryz.ntmps192;go_wp2_with (go_at_call 78; go_fit (Zq H0.o));rintro e w1 ⟨rfl,M1⟩;have hfld:∀ w,(Instr.field 76 (.agg #[.int .i64 (next c).k,.string (next c).t,.int .i64 (next c).l,.int .i64 (next c).c]) 0).run Tryz.prog w = .ok (.int .i64 (next c).k) w:=fun _=>by kernel_rfl
  have H1:=qh M1;have r1:=M1.cell;clear M1 r0;go_wp2_with (go_at_call 152; go_fit (QiM H1.o 1000000 HOK.o));rintro e w2 ⟨rfl,M2⟩;have H2:=qh M2;have r2:=M2.cell;clear M2 r1;go_wp2_with (go_at_call 191; go_fit (add_mid H2.o 1 (numN c 1000000) ⟨#[]⟩ (by decide)));rintro e w3 ⟨v3,l3,rfl,M3⟩;have H3:=qh M3;have r3:=M3.cell;clear M3 r2;go_wp2_with fail
  go_end0
  exact H3.o.ret HE.o
 have e2:((next c).k==2)=false:=by simpa using h2
 by_cases b0:isB c 1 tTrue=true
 ·have HE:Hid (atom (S f) c = (on c,[opT 9])):=qh (by unfold atom; rw [if_neg h2,if_pos b0])
  have HPG:=qh (HP.o (Qr b0).1);have HFG:=qh (HFO.o b0 (by decide));have HB:=qh b0;clear h2 b0;go_enter Tryz.func192,Tryz.ntmps192;go_wp2_with (go_at_call 78; go_fit (Zq H0.o));rintro e w1 ⟨rfl,M1⟩;have hfld:∀ w,(Instr.field 76 (.agg #[.int .i64 (next c).k,.string (next c).t,.int .i64 (next c).l,.int .i64 (next c).c]) 0).run Tryz.prog w = .ok (.int .i64 (next c).k) w:=fun _=>by kernel_rfl
  have H1:=qh M1;have r1:=M1.cell;clear M1 r0;go_wp2_with (go_at_call 46; go_fit (JV H1.o (k:=1) (s:=tTrue) HB.o));rintro e w2 ⟨rfl,M2⟩;have H2:=qh M2;have r2:=M2.cell;clear M2 r1;go_wp2_with (go_at_call 191; go_fit (add_mid H2.o 9 0 ⟨#[]⟩ (by decide)));rintro e w3 ⟨v3,l3,rfl,M3⟩;have H3:=qh M3;have r3:=M3.cell;clear M3 r2;go_wp2_with fail
  go_end0
  exact H3.o.ret (by first | exact HE.o | (rw [HE.o]; simp [opT]))
 have n0:¬ isB c 1 tTrue=true:=b0;have N0:Hid (isB c 1 tTrue=false):=qh (by simpa using b0);clear b0
 by_cases b1:isB c 1 tFalse=true
 ·have HE:Hid (atom (S f) c = (on c,[opT 10])):=qh (by unfold atom; rw [if_neg h2,if_neg n0,if_pos b1])
  have HPG:=qh (HP.o (Qr b1).1);have HFG:=qh (HFO.o b1 (by decide));have HB:=qh b1;clear h2 b1 n0;go_enter Tryz.func192,Tryz.ntmps192;go_wp2_with (go_at_call 78; go_fit (Zq H0.o));rintro e w1 ⟨rfl,M1⟩;have hfld:∀ w,(Instr.field 76 (.agg #[.int .i64 (next c).k,.string (next c).t,.int .i64 (next c).l,.int .i64 (next c).c]) 0).run Tryz.prog w = .ok (.int .i64 (next c).k) w:=fun _=>by kernel_rfl
  have H1:=qh M1;have r1:=M1.cell;clear M1 r0;go_wp2_with (go_at_call 46; go_fit (QU H1.o (k:=1) (s:=tTrue) N0.o));rintro e w2 ⟨rfl,M2⟩;have H2:=qh M2;have r2:=M2.cell;clear M2 r1;go_wp2_with (go_at_call 46; go_fit (JV H2.o (k:=1) (s:=tFalse) HB.o));rintro e w3 ⟨rfl,M3⟩;have H3:=qh M3;have r3:=M3.cell;clear M3 r2;go_wp2_with (go_at_call 191; go_fit (add_mid H3.o 10 0 ⟨#[]⟩ (by decide)));rintro e w4 ⟨v4,l4,rfl,M4⟩;have H4:=qh M4;have r4:=M4.cell;clear M4 r3;go_wp2_with fail
  go_end0
  exact H4.o.ret (by first | exact HE.o | (rw [HE.o]; simp [opT]))
 have n1:¬ isB c 1 tFalse=true:=b1;have N1:Hid (isB c 1 tFalse=false):=qh (by simpa using b1);clear b1
 by_cases b2:isB c 1 tIn=true
 ·have HE:Hid (atom (S f) c = (want (nameC (want (on c) 3 tOpen)) 3 tClose,[⟨11,0,nameS (want (on c) 3 tOpen)⟩])):=qh (by unfold atom; rw [if_neg h2,if_neg n0,if_neg n1,if_pos b2])
  have HPG:=qh (HP.o (Qr b2).1);have HFG:=qh (HFO.o b2 (by decide));have HB:=qh b2;clear h2 b2 n0 n1;go_enter Tryz.func192,Tryz.ntmps192;go_wp2_with (go_at_call 78; go_fit (Zq H0.o));rintro e w1 ⟨rfl,M1⟩;have hfld:∀ w,(Instr.field 76 (.agg #[.int .i64 (next c).k,.string (next c).t,.int .i64 (next c).l,.int .i64 (next c).c]) 0).run Tryz.prog w = .ok (.int .i64 (next c).k) w:=fun _=>by kernel_rfl
  have H1:=qh M1;have r1:=M1.cell;clear M1 r0;go_wp2_with (go_at_call 46; go_fit (QU H1.o (k:=1) (s:=tTrue) N0.o));rintro e w2 ⟨rfl,M2⟩;have H2:=qh M2;have r2:=M2.cell;clear M2 r1;go_wp2_with (go_at_call 46; go_fit (QU H2.o (k:=1) (s:=tFalse) N1.o));rintro e w3 ⟨rfl,M3⟩;have H3:=qh M3;have r3:=M3.cell;clear M3 r2;go_wp2_with (go_at_call 46; go_fit (JV H3.o (k:=1) (s:=tIn) HB.o));rintro e w4 ⟨rfl,M4⟩;have H4:=qh M4;have r4:=M4.cell;clear M4 r3;go_wp2_with (go_at_call 21; go_fit (QaC H4.o 3 tOpen));rintro e w5 ⟨rfl,M5⟩;have H5:=qh M5;have r5:=M5.cell;clear M5 r4;go_wp2_with (go_at_call 41; go_fit (QhR H5.o (HOK.o.on.want _ _)));rintro e w6 ⟨rfl,M6⟩;have H6:=qh M6;have r6:=M6.cell;clear M6 r5;go_wp2_with (go_at_call 191; go_fit (add_mid H6.o 11 0 (nameS (want (on c) 3 tOpen)) (Qda _ (HOK.o.on.want _ _))));rintro e w7 ⟨v7,l7,rfl,M7⟩;have H7:=qh M7;have r7:=M7.cell;clear M7 r6;go_wp2_with (go_at_call 21; go_fit (QaC H7.o 3 tClose));rintro e w8 ⟨rfl,M8⟩;have H8:=qh M8;have r8:=M8.cell;clear M8 r7;go_wp2_with fail
  go_end0
  exact H8.o.ret (by first | exact HE.o | (rw [HE.o]; simp [opT]))
 have n2:¬ isB c 1 tIn=true:=b2;have N2:Hid (isB c 1 tIn=false):=qh (by simpa using b2);clear b2
 by_cases b3:isB c 1 tMin=true
 ·have HE:Hid (atom (S f) c = two (S f) (on c) 7):=qh (by unfold atom; rw [if_neg h2,if_neg n0,if_neg n1,if_neg n2,if_pos b3])
  have HPG:=qh (HP.o (Qr b3).1);have HFG:=qh (HFO.o b3 (by decide));have HB:=qh b3;clear h2 b3 n0 n1 n2;go_enter Tryz.func192,Tryz.ntmps192;go_wp2_with (go_at_call 78; go_fit (Zq H0.o));rintro e w1 ⟨rfl,M1⟩;have hfld:∀ w,(Instr.field 76 (.agg #[.int .i64 (next c).k,.string (next c).t,.int .i64 (next c).l,.int .i64 (next c).c]) 0).run Tryz.prog w = .ok (.int .i64 (next c).k) w:=fun _=>by kernel_rfl
  have H1:=qh M1;have r1:=M1.cell;clear M1 r0;go_wp2_with (go_at_call 46; go_fit (QU H1.o (k:=1) (s:=tTrue) N0.o));rintro e w2 ⟨rfl,M2⟩;have H2:=qh M2;have r2:=M2.cell;clear M2 r1;go_wp2_with (go_at_call 46; go_fit (QU H2.o (k:=1) (s:=tFalse) N1.o));rintro e w3 ⟨rfl,M3⟩;have H3:=qh M3;have r3:=M3.cell;clear M3 r2;go_wp2_with (go_at_call 46; go_fit (QU H3.o (k:=1) (s:=tIn) N2.o));rintro e w4 ⟨rfl,M4⟩;have H4:=qh M4;have r4:=M4.cell;clear M4 r3;go_wp2_with (go_at_call 46; go_fit (JV H4.o (k:=1) (s:=tMin) HB.o));rintro e w5 ⟨rfl,M5⟩;have H5:=qh M5;have r5:=M5.cell;clear M5 r4;go_wp2_with (go_at_call 198; go_fit (two_mid HPG.o H5.o 7 HOK.o.on HFG.o));rintro e w6 ⟨v6,l6,rfl,M6⟩;have H6:=qh M6;have r6:=M6.cell;clear M6 r5;go_wp2_with fail
  go_end0
  exact H6.o.ret (by first | exact HE.o | (rw [HE.o]; simp [opT]))
 have n3:¬ isB c 1 tMin=true:=b3;have N3:Hid (isB c 1 tMin=false):=qh (by simpa using b3);clear b3
 by_cases b4:isB c 1 tMax=true
 ·have HE:Hid (atom (S f) c = two (S f) (on c) 8):=qh (by unfold atom; rw [if_neg h2,if_neg n0,if_neg n1,if_neg n2,if_neg n3,if_pos b4])
  have HPG:=qh (HP.o (Qr b4).1);have HFG:=qh (HFO.o b4 (by decide));have HB:=qh b4;clear h2 b4 n0 n1 n2 n3;go_enter Tryz.func192,Tryz.ntmps192;go_wp2_with (go_at_call 78; go_fit (Zq H0.o));rintro e w1 ⟨rfl,M1⟩;have hfld:∀ w,(Instr.field 76 (.agg #[.int .i64 (next c).k,.string (next c).t,.int .i64 (next c).l,.int .i64 (next c).c]) 0).run Tryz.prog w = .ok (.int .i64 (next c).k) w:=fun _=>by kernel_rfl
  have H1:=qh M1;have r1:=M1.cell;clear M1 r0;go_wp2_with (go_at_call 46; go_fit (QU H1.o (k:=1) (s:=tTrue) N0.o));rintro e w2 ⟨rfl,M2⟩;have H2:=qh M2;have r2:=M2.cell;clear M2 r1;go_wp2_with (go_at_call 46; go_fit (QU H2.o (k:=1) (s:=tFalse) N1.o));rintro e w3 ⟨rfl,M3⟩;have H3:=qh M3;have r3:=M3.cell;clear M3 r2;go_wp2_with (go_at_call 46; go_fit (QU H3.o (k:=1) (s:=tIn) N2.o));rintro e w4 ⟨rfl,M4⟩;have H4:=qh M4;have r4:=M4.cell;clear M4 r3;go_wp2_with (go_at_call 46; go_fit (QU H4.o (k:=1) (s:=tMin) N3.o));rintro e w5 ⟨rfl,M5⟩;have H5:=qh M5;have r5:=M5.cell;clear M5 r4;go_wp2_with (go_at_call 46; go_fit (JV H5.o (k:=1) (s:=tMax) HB.o));rintro e w6 ⟨rfl,M6⟩;have H6:=qh M6;have r6:=M6.cell;clear M6 r5;go_wp2_with (go_at_call 198; go_fit (two_mid HPG.o H6.o 8 HOK.o.on HFG.o));rintro e w7 ⟨v7,l7,rfl,M7⟩;have H7:=qh M7;have r7:=M7.cell;clear M7 r6;go_wp2_with fail
  go_end0
  exact H7.o.ret (by first | exact HE.o | (rw [HE.o]; simp [opT]))
 have n4:¬ isB c 1 tMax=true:=b4;have N4:Hid (isB c 1 tMax=false):=qh (by simpa using b4);clear b4
 by_cases b5:isB c 3 tOpen=true
 ·have HE:Hid (atom (S f) c = (want (S f (on c) 1).1 3 tClose,(S f (on c) 1).2)):=qh (by unfold atom; rw [if_neg h2,if_neg n0,if_neg n1,if_neg n2,if_neg n3,if_neg n4,if_pos b5])
  have HPG:=qh (HP.o (Qr b5).1);have HFG:=qh (HFO.o b5 (by decide));have HB:=qh b5;clear h2 b5 n0 n1 n2 n3 n4;go_enter Tryz.func192,Tryz.ntmps192;go_wp2_with (go_at_call 78; go_fit (Zq H0.o));rintro e w1 ⟨rfl,M1⟩;have hfld:∀ w,(Instr.field 76 (.agg #[.int .i64 (next c).k,.string (next c).t,.int .i64 (next c).l,.int .i64 (next c).c]) 0).run Tryz.prog w = .ok (.int .i64 (next c).k) w:=fun _=>by kernel_rfl
  have H1:=qh M1;have r1:=M1.cell;clear M1 r0;go_wp2_with (go_at_call 46; go_fit (QU H1.o (k:=1) (s:=tTrue) N0.o));rintro e w2 ⟨rfl,M2⟩;have H2:=qh M2;have r2:=M2.cell;clear M2 r1;go_wp2_with (go_at_call 46; go_fit (QU H2.o (k:=1) (s:=tFalse) N1.o));rintro e w3 ⟨rfl,M3⟩;have H3:=qh M3;have r3:=M3.cell;clear M3 r2;go_wp2_with (go_at_call 46; go_fit (QU H3.o (k:=1) (s:=tIn) N2.o));rintro e w4 ⟨rfl,M4⟩;have H4:=qh M4;have r4:=M4.cell;clear M4 r3;go_wp2_with (go_at_call 46; go_fit (QU H4.o (k:=1) (s:=tMin) N3.o));rintro e w5 ⟨rfl,M5⟩;have H5:=qh M5;have r5:=M5.cell;clear M5 r4;go_wp2_with (go_at_call 46; go_fit (QU H5.o (k:=1) (s:=tMax) N4.o));rintro e w6 ⟨rfl,M6⟩;have H6:=qh M6;have r6:=M6.cell;clear M6 r5;go_wp2_with (go_at_call 46; go_fit (JV H6.o (k:=3) (s:=tOpen) HB.o));rintro e w7 ⟨rfl,M7⟩;have H7:=qh M7;have r7:=M7.cell;clear M7 r6;go_wp2_with (go_at_call 174; go_fit (Qaz HPG.o H7.o 1 HOK.o.on HFG.o));rintro e w8 ⟨v8,l8,rfl,M8⟩;have H8:=qh M8;have r8:=M8.cell;clear M8 r7;go_wp2_with (go_at_call 21; go_fit (QaC H8.o 3 tClose));rintro e w9 ⟨rfl,M9⟩;have H9:=qh M9;have r9:=M9.cell;clear M9 r8;go_wp2_with fail
  go_end0
  exact H9.o.ret (by first | exact HE.o | (rw [HE.o]; simp [opT]))
 have n5:¬ isB c 3 tOpen=true:=b5;have N5:Hid (isB c 3 tOpen=false):=qh (by simpa using b5);clear b5
 ·have HE:Hid (atom (S f) c = (nameC c,[⟨2,0,nameS c⟩])):=qh (by unfold atom; rw [if_neg h2,if_neg n0,if_neg n1,if_neg n2,if_neg n3,if_neg n4,if_neg n5])
  clear h2 n0 n1 n2 n3 n4 n5;go_enter Tryz.func192,Tryz.ntmps192;go_wp2_with (go_at_call 78; go_fit (Zq H0.o));rintro e w1 ⟨rfl,M1⟩;have hfld:∀ w,(Instr.field 76 (.agg #[.int .i64 (next c).k,.string (next c).t,.int .i64 (next c).l,.int .i64 (next c).c]) 0).run Tryz.prog w = .ok (.int .i64 (next c).k) w:=fun _=>by kernel_rfl
  have H1:=qh M1;have r1:=M1.cell;clear M1 r0;go_wp2_with (go_at_call 46; go_fit (QU H1.o (k:=1) (s:=tTrue) N0.o));rintro e w2 ⟨rfl,M2⟩;have H2:=qh M2;have r2:=M2.cell;clear M2 r1;go_wp2_with (go_at_call 46; go_fit (QU H2.o (k:=1) (s:=tFalse) N1.o));rintro e w3 ⟨rfl,M3⟩;have H3:=qh M3;have r3:=M3.cell;clear M3 r2;go_wp2_with (go_at_call 46; go_fit (QU H3.o (k:=1) (s:=tIn) N2.o));rintro e w4 ⟨rfl,M4⟩;have H4:=qh M4;have r4:=M4.cell;clear M4 r3;go_wp2_with (go_at_call 46; go_fit (QU H4.o (k:=1) (s:=tMin) N3.o));rintro e w5 ⟨rfl,M5⟩;have H5:=qh M5;have r5:=M5.cell;clear M5 r4;go_wp2_with (go_at_call 46; go_fit (QU H5.o (k:=1) (s:=tMax) N4.o));rintro e w6 ⟨rfl,M6⟩;have H6:=qh M6;have r6:=M6.cell;clear M6 r5;go_wp2_with (go_at_call 46; go_fit (QU H6.o (k:=3) (s:=tOpen) N5.o));rintro e w7 ⟨rfl,M7⟩;have H7:=qh M7;have r7:=M7.cell;clear M7 r6;go_wp2_with (go_at_call 41; go_fit (QhR H7.o HOK.o));rintro e w8 ⟨rfl,M8⟩;have H8:=qh M8;have r8:=M8.cell;clear M8 r7;go_wp2_with (go_at_call 191; go_fit (add_mid H8.o 2 0 (nameS c) (Qda _ HOK.o)));rintro e w9 ⟨v9,l9,rfl,M9⟩;have H9:=qh M9;have r9:=M9.cell;clear M9 r8;go_wp2_with fail
  go_end0
  exact H9.o.ret HE.o
end
section
namespace ActSpec
open CurSpec TermSpec EvalSpec NamesSpec ExprSpec
abbrev wAny:ByteArray:=⟨#[97,110,121]⟩
abbrev wSet:ByteArray:=⟨#[58,61]⟩
abbrev wCom:ByteArray:=⟨#[44]⟩
def rdE (c:Cur):Pa:=readP (c.L.length+1) c
theorem Qcq (c:Cur):Fit (c.L.length+1) c:=fun _=>Nat.lt_succ_self _
def oneR (c:Cur):Cur × Ac :=
 if isB c 1 wAny=true then (nameC (on c),⟨nameS (on c),true,[]⟩)
 else ((rdE (want (nameC c) 3 wSet)).1,⟨nameS c,false,(rdE (want (nameC c) 3 wSet)).2⟩)
def fullR (c:Cur) (out:List Ac):Cur:=if out.length=8 then fail c 8 else c
def stepR (c:Cur) (out:List Ac):Cur × List Ac:=((oneR (fullR c out)).1,out++[(oneR (fullR c out)).2])
def goR:Nat -> Cur -> List Ac -> Cur × List Ac
 | 0,c,out => (c,out)
 | f + 1,c,out => if isB (stepR c out).1 3 wCom = true then goR f (on (stepR c out).1) (stepR c out).2 else stepR c out
def allR (c:Cur) (out:List Ac):Cur × List Ac:=goR (c.L.length+1) c out
def tailR (c:Cur) (out:List Ac):Cur × List Ac:=if isB c 3 wCom=true then allR (on c) out else (c,out)
def readA (c:Cur):Cur × List Ac:=if (allR c []).1.bad=0 then allR c [] else ((allR c []).1,[])
theorem ZK (c:Cur) (e:Int):(fail c e).L = c.L /\ (c.bad ≠ 0 -> (fail c e).bad ≠ 0) /\ (e ≠ 0 -> (fail c e).bad ≠ 0):=by
 unfold fail
 split
 ·rename_i h
  exact ⟨rfl,fun h'=>absurd h.1 h',fun he=>he⟩
 ·rename_i h
  exact ⟨rfl,id,fun he hb=>h ⟨hb,he⟩⟩
theorem QaD (c:Cur):(on c).L.length<=c.L.length:=by rw [QeJ]; omega
theorem ZF (c:Cur):(nameC c).L.length <= c.L.length /\ (c.bad ≠ 0 -> (nameC c).bad ≠ 0):=by
 unfold nameC
 split
 ·exact ⟨QaD c,fun h=>by rw [(JL c).1]; exact h⟩
 ·rw [(ZK c 2).1]; exact ⟨Nat.le_refl _,(ZK c 2).2.1⟩
theorem ZW (c:Cur) (k:Int) (s:ByteArray):(want c k s).L.length <= c.L.length /\ (c.bad ≠ 0 -> (want c k s).bad ≠ 0):=by
 unfold want
 split
 ·exact ⟨QaD c,fun h=>by rw [(JL c).1]; exact h⟩
 ·rw [(ZK c 2).1]; exact ⟨Nat.le_refl _,(ZK c 2).2.1⟩
theorem Qgx (c:Cur):(rdE c).1.L.length <= c.L.length /\ (c.bad ≠ 0 -> (rdE c).1.bad ≠ 0):=by
 unfold rdE readP;have h:=Q5 (c.L.length+1) c 1;dsimp only
 split
 ·rw [(ZK _ _).1]
  rename_i h0
  exact ⟨h.1,fun hc=>absurd (h.2 h0) hc⟩
 ·rename_i h0
  exact ⟨h.1,fun _=>h0⟩
theorem oneR_le (c:Cur):(oneR c).1.L.length <= c.L.length /\ (c.bad ≠ 0 -> (oneR c).1.bad ≠ 0):=by
 unfold oneR
 split
 ·have h1:=ZF (on c)
  exact ⟨Nat.le_trans h1.1 (QaD c),fun h=>h1.2 (by rw [(JL c).1]; exact h)⟩
 ·have h1:=Qgx (want (nameC c) 3 wSet)
  have h2:=ZW (nameC c) 3 wSet;have h3:=ZF c;exact ⟨Nat.le_trans h1.1 (Nat.le_trans h2.1 h3.1),fun h=>h1.2 (h2.2 (h3.2 h))⟩
theorem QhX (c:Cur) (out:List Ac):(fullR c out).L.length <= c.L.length /\ (c.bad ≠ 0 -> (fullR c out).bad ≠ 0) /\ (out.length = 8 -> (fullR c out).bad ≠ 0):=by
 unfold fullR
 split
 ·rw [(ZK c 8).1]
  exact ⟨Nat.le_refl _,(ZK c 8).2.1,fun _=>(ZK c 8).2.2 (by decide)⟩
 ·rename_i h
  exact ⟨Nat.le_refl _,id,fun h'=>absurd h' h⟩
theorem ZN (c:Cur) (out:List Ac):(stepR c out).1.L.length <= c.L.length /\ (c.bad ≠ 0 -> (stepR c out).1.bad ≠ 0) /\ (out.length = 8 -> (stepR c out).1.bad ≠ 0) /\ (stepR c out).2.length = out.length + 1:=by
 have h1:=oneR_le (fullR c out);have h2:=QhX c out;exact ⟨Nat.le_trans h1.1 h2.1,fun h=>h1.2 (h2.2.1 h),fun h=>h1.2 (h2.2.2 h),by simp [stepR]⟩
theorem Qg5:∀ (f g:Nat) (c:Cur) (out:List Ac),c.L.length < f -> c.L.length < g -> goR f c out = goR g c out
 | 0,_,_,_,h,_ => absurd h (by omega)
 | _ + 1,0,_,_,_,h => absurd h (by omega)
 | f + 1,g + 1,c,out,hf,hg => by
   unfold goR
   split
   ·rename_i hb
    have h1:=Qv hb (by decide);have h2:=(ZN c out).1;exact Qg5 f g _ _ (by omega) (by omega)
   ·rfl
theorem QcE (c:Cur) (out:List Ac):allR c out = tailR (stepR c out).1 (stepR c out).2:=by
 unfold allR tailR;rw [goR]
 split
 ·rename_i hb
  have h1:=Qv hb (by decide);have h2:=(ZN c out).1;exact Qg5 _ _ _ _ (by omega) (by omega)
 ·rfl
theorem Qfv {c:Cur} {out:List Ac} (h:isB c 3 wCom = true):tailR c out = tailR (stepR (on c) out).1 (stepR (on c) out).2:=by
 rw [<- QcE];unfold tailR;rw [if_pos h]
theorem QhV {c:Cur} {out:List Ac} (h:¬ isB c 3 wCom=true):tailR c out=(c,out):=by unfold tailR; rw [if_neg h]
theorem QhT (f:Nat) {c:Cur} (h:Ok c):Ok (readP f c).1:=by
 unfold readP;have:=ok_S f 1 h;dsimp only
 split
 ·exact this.fail _
 ·exact this
theorem oneR_ok {c:Cur} (h:Ok c):Ok (oneR c).1:=by
 unfold oneR
 split
 ·exact h.on.nameC
 ·exact QhT _ (h.nameC.want _ _)
theorem QeT {c:Cur} (out:List Ac) (h:Ok c):Ok (fullR c out):=by
 unfold fullR
 split
 ·exact h.fail _
 ·exact h
theorem Qco {c:Cur} (out:List Ac) (h:Ok c):Ok (stepR c out).1:=oneR_ok (QeT out h)
def Few9 (c:Cur) (out:List Ac):Prop:=out.length<=9/\(out.length=9->c.bad≠0)
theorem few9_step {c:Cur} {out:List Ac} (h:Few9 c out) (hb:isB c 3 wCom = true):Few9 (stepR (on c) out).1 (stepR (on c) out).2:=by
 have h0:=(Qv hb (by decide)).1;have h1:=ZN (on c) out
 have h8:out.length <= 8:=by
  rcases Nat.lt_or_ge out.length 9 with h' | h'
  ·omega
  ·exact absurd h0 (h.2 (by have:=h.1; omega))
 exact ⟨by rw [h1.2.2.2]; omega,fun h9=>h1.2.2.1 (by rw [h1.2.2.2] at h9; omega)⟩
end ActSpec
end
section
namespace TransSpec
open CurSpec TermSpec EvalSpec NamesSpec ExprSpec ActSpec
structure Tr where
 ev:ByteArray
 g:List Tm
 acts:List Ac
 tg:ByteArray
abbrev zeroT:Tr:=⟨⟨#[]⟩,[],[],⟨#[]⟩⟩
def okN (s:ByteArray):Bool:=decide (s.size=0)||isName s.data.toList
def chkT (t:Tr):Int:=if okN t.ev=false\/okN t.tg=false then 1 else if t.g.length≠0/\chk t.g≠0 then chk t.g else chkA t.acts
abbrev wOn:ByteArray:=⟨#[111,110]⟩
abbrev wAuto:ByteArray:=⟨#[97,117,116,111]⟩
abbrev wBra:ByteArray:=⟨#[91]⟩
abbrev wKet:ByteArray:=⟨#[93]⟩
abbrev wDo:ByteArray:=⟨#[47]⟩
abbrev wTo:ByteArray:=⟨#[45,62]⟩
abbrev wEnd:ByteArray:=⟨#[59]⟩
def hdT (c:Cur):Cur × ByteArray:=if isB c 1 wAuto=true then (on c,⟨#[]⟩) else (nameC (want c 1 wOn),nameS (want c 1 wOn))
def guT (c:Cur):Cur × List Tm:=if isB c 3 wBra=true then (want (rdE (on c)).1 3 wKet,(rdE (on c)).2) else (c,[])
def acT (c:Cur):Cur × List Ac:=if isB c 3 wDo=true then readA (on c) else (c,[])
def tgT (c:Cur):Cur × ByteArray:=if isB c 3 wTo=true then (nameC (on c),nameS (on c)) else (c,⟨#[]⟩)
def seqT (c:Cur):Cur × Tr:=(want (tgT (acT (guT (hdT c).1).1).1).1 3 wEnd,⟨(hdT c).2,(guT (hdT c).1).2,(acT (guT (hdT c).1).1).2,(tgT (acT (guT (hdT c).1).1).1).2⟩)
def readT (c:Cur):Cur × Tr:=((seqT c).1,if (seqT c).1.bad=0 then (seqT c).2 else zeroT)
theorem rdE_ok {c:Cur} (h:Ok c):Ok (rdE c).1:=QhT _ h
theorem goR_ok:∀ (f:Nat) {c:Cur} (out:List Ac),Ok c -> Ok (goR f c out).1
 | 0,_,_,h => h
 | f + 1,c,out,h => by
   unfold goR
   split
   ·exact goR_ok f _ (Qco out h).on
   ·exact Qco out h
theorem Qiq {c:Cur} (h:Ok c):Ok (readA c).1:=by
 unfold readA allR
 split<;>exact goR_ok _ _ h
theorem hdT_ok {c:Cur} (h:Ok c):Ok (hdT c).1:=by
 unfold hdT
 split
 ·exact h.on
 ·exact (h.want _ _).nameC
theorem QgV {c:Cur} (h:Ok c):Ok (guT c).1:=by
 unfold guT
 split
 ·exact (rdE_ok h.on).want _ _
 ·exact h
theorem QgS {c:Cur} (h:Ok c):Ok (acT c).1:=by
 unfold acT
 split
 ·exact Qiq h.on
 ·exact h
theorem tgT_ok {c:Cur} (h:Ok c):Ok (tgT c).1:=by
 unfold tgT
 split
 ·exact h.on.nameC
 ·exact h
theorem readT_ok {c:Cur} (h:Ok c):Ok (readT c).1:=(tgT_ok (QgS (QgV (hdT_ok h)))).want _ _
theorem goR_le:∀ (f:Nat) (c:Cur) (out:List Ac),(goR f c out).1.L.length <= c.L.length /\ (c.bad ≠ 0 -> (goR f c out).1.bad ≠ 0)
 | 0,_,_ => ⟨Nat.le_refl _,id⟩
 | f + 1,c,out => by
   have h1:=ZN c out;unfold goR
   split
   ·rename_i hb
    have h2:=goR_le f (on (stepR c out).1) (stepR c out).2;exact ⟨Nat.le_trans h2.1 (Nat.le_trans (QaD _) h1.1),fun h=>absurd (Qv hb (by decide)).1 (h1.2.1 h)⟩
   ·exact ⟨h1.1,h1.2.1⟩
theorem QdV (c:Cur):(readA c).1.L.length <= c.L.length /\ (c.bad ≠ 0 -> (readA c).1.bad ≠ 0):=by
 unfold readA allR
 split<;>exact goR_le _ _ _
theorem hdT_le (c:Cur):(hdT c).1.L.length <= c.L.length /\ (c.bad ≠ 0 -> (hdT c).1.bad ≠ 0):=by
 unfold hdT
 split
 ·exact ⟨QaD c,fun h=>by rw [(JL c).1]; exact h⟩
 ·have h1:=ZF (want c 1 wOn)
  have h2:=ZW c 1 wOn;exact ⟨Nat.le_trans h1.1 h2.1,fun h=>h1.2 (h2.2 h)⟩
theorem Qei (c:Cur):(guT c).1.L.length <= c.L.length /\ (c.bad ≠ 0 -> (guT c).1.bad ≠ 0):=by
 unfold guT
 split
 ·have h1:=ZW (rdE (on c)).1 3 wKet
  have h2:=Qgx (on c);exact ⟨Nat.le_trans h1.1 (Nat.le_trans h2.1 (QaD c)),fun h=>h1.2 (h2.2 (by rw [(JL c).1]; exact h))⟩
 ·exact ⟨Nat.le_refl _,id⟩
theorem QdY (c:Cur):(acT c).1.L.length <= c.L.length /\ (c.bad ≠ 0 -> (acT c).1.bad ≠ 0):=by
 unfold acT
 split
 ·have h2:=QdV (on c)
  exact ⟨Nat.le_trans h2.1 (QaD c),fun h=>h2.2 (by rw [(JL c).1]; exact h)⟩
 ·exact ⟨Nat.le_refl _,id⟩
theorem Qgm (c:Cur):(tgT c).1.L.length <= c.L.length /\ (c.bad ≠ 0 -> (tgT c).1.bad ≠ 0):=by
 unfold tgT
 split
 ·have h2:=ZF (on c)
  exact ⟨Nat.le_trans h2.1 (QaD c),fun h=>h2.2 (by rw [(JL c).1]; exact h)⟩
 ·exact ⟨Nat.le_refl _,id⟩
theorem Qhv (c:Cur):(readT c).1.L.length <= c.L.length /\ (c.bad ≠ 0 -> (readT c).1.bad ≠ 0):=by
 have h1:=hdT_le c;have h2:=Qei (hdT c).1;have h3:=QdY (guT (hdT c).1).1;have h4:=Qgm (acT (guT (hdT c).1).1).1;have h5:=ZW (tgT (acT (guT (hdT c).1).1).1).1 3 wEnd;exact ⟨Nat.le_trans h5.1 (Nat.le_trans h4.1 (Nat.le_trans h3.1 (Nat.le_trans h2.1 h1.1))),fun h=>h5.2 (h4.2 (h3.2 (h2.2 (h1.2 h))))⟩
structure Tt where
 ev:ByteArray
 g:Option Ex
 ts:List Ta
 tg:ByteArray
def gFlat:Option Ex -> List Tm
 | none => []
 | some e => flat e
def Tt.tr (x:Tt):Tr:=⟨x.ev,gFlat x.g,x.ts.map Ta.ac,x.tg⟩
structure Tt.Ok (x:Tt):Prop where
 ev:okN x.ev=true
 tg:okN x.tg=true
 g:∀ e,x.g=some e->ExprSpec.Good e/\chk (flat e)=0
 ts:∀ t∈x.ts,t.Ok
 few:x.ts.length<=8
theorem QgE {l:List Ac} (h:chkA l = 0):l.length <= 8 /\ firstA l = 0:=by
 unfold chkA at h
 split at h
 ·cases h
 ·exact ⟨by omega,h⟩
theorem QgZ (e:Ex):(flat e).length ≠ 0:=by
 obtain ⟨t,r,h,-⟩:=QaE e;rw [h,List.length_cons];omega
theorem ex_chk {x:List Tm} (h:chk x = 0):∃ e,flat e = x /\ ExprSpec.Good e:=by
 obtain ⟨hw,hm,-⟩:=ZE h;exact ex_of ⟨(Q6.1 hw).2,hm⟩
theorem tt_of {t:Tr} (h:chkT t = 0):∃ x:Tt,x.tr = t /\ x.Ok:=by
 obtain ⟨ev,g,acts,tg⟩:=t;unfold chkT at h;simp only at h
 split at h
 ·cases h
 ·rename_i hn
  split at h
  ·rename_i hg
   exact absurd h hg.2
  ·rename_i hg
   obtain ⟨h8,hf⟩:=QgE h;obtain ⟨ts,hts,hok⟩:=Qgf hf;have h8':ts.length<=8:=by rw [<- hts,List.length_map] at h8; exact h8
   have he:okN ev = true:=by
    rcases h1:okN ev with _ | _
    ·exact absurd (.inl h1) hn
    ·rfl
   have ht:okN tg = true:=by
    rcases h1:okN tg with _ | _
    ·exact absurd (.inr h1) hn
    ·rfl
   by_cases h0:g.length=0
   ·obtain rfl:g = []:=List.eq_nil_of_length_eq_zero h0
    exact ⟨⟨ev,none,ts,tg⟩,by simp [Tt.tr,gFlat,hts],he,ht,fun e h=>(by cases h),hok,h8'⟩
   ·have hk:chk g = 0:=by
     rcases Classical.em (chk g=0) with h1 | h1
     ·exact h1
     ·exact absurd ⟨h0,h1⟩ hg
    obtain ⟨e,hfe,hge⟩:=ex_chk hk;refine ⟨⟨ev,some e,ts,tg⟩,by simp [Tt.tr,gFlat,hfe,hts],he,ht,fun e' h'=>?_,hok,h8'⟩
    cases h'
    exact ⟨hge,by rw [hfe]; exact hk⟩
theorem tt_chk {x:Tt} (h:x.Ok):chkT x.tr = 0:=by
 obtain ⟨ev,g,ts,tg⟩:=x;obtain ⟨h1,h2,h3,h4,h5⟩:=h;simp only at h1 h2 h3 h4 h5;unfold chkT Tt.tr;simp only;rw [if_neg (by rw [h1,h2]; simp),if_neg ?_]
 ·unfold chkA
  rw [if_neg (by rw [List.length_map]; omega)];exact QbC h4
 ·rintro ⟨h0,hg⟩
  cases g with
  | none => exact h0 rfl
  | some e => exact hg (h3 e rfl).2
def headB (x:Tt):ByteArray:=if x.ev.size=0 then wAuto else ⟨#[111,110,32]⟩++x.ev
def guardB:Option Ex -> ByteArray
 | none => ⟨#[]⟩
 | some e => ⟨#[32,91]⟩ ++ tx e ++ ⟨#[93]⟩
def actsB (ts:List Ta):ByteArray:=if ts=[] then ⟨#[]⟩ else ⟨#[32,47,32]⟩++putB ts
def tgB (s:ByteArray):ByteArray:=if s.size=0 then ⟨#[]⟩ else ⟨#[32,45,62,32]⟩++s
def txT (x:Tt):ByteArray:=headB x++guardB x.g++actsB x.ts++tgB x.tg++⟨#[59]⟩
theorem Qau {s:ByteArray} (h:okN s = true):s.size <= 12:=by
 unfold okN at h;rw [Bool.or_eq_true,decide_eq_true_eq] at h
 rcases h with h | h
 ·omega
 ·exact QG h
theorem QbM {e:Ex} (h:chk (flat e)=0):(flat e).length<=40:=(Q6.1 (ZE h).1).1
theorem QbE {x:Tt} (h:x.Ok):(headB x).size <= 20:=by
 have:=Qau h.ev;unfold headB
 split
 ·show 4 <= 20
  omega
 ·rw [ByteArray.size_append]
  show 3+_<=_
  omega
theorem Qbf {g:Option Ex} (h:∀ e,g = some e -> ExprSpec.Good e /\ chk (flat e) = 0):(guardB g).size <= 1203:=by
 cases g with
 | none => show 0 <= _; omega
 | some e =>
   obtain ⟨h1,h2⟩:=h e rfl;have h3:=QO h1;have h4:=QbM h2;unfold guardB;rw [ByteArray.size_append,ByteArray.size_append]
   show 2+_+1<=_
   omega
theorem Qec {ts:List Ta} (h:∀ t ∈ ts,t.Ok) (h8:ts.length <= 8):(actsB ts).size <= 10419:=by
 have:=Zy h;unfold actsB
 split
 ·show 0 <= _
  omega
 ·rw [ByteArray.size_append]
  show 3+_<=_
  omega
theorem QdU {s:ByteArray} (h:okN s = true):(tgB s).size <= 16:=by
 have:=Qau h;unfold tgB
 split
 ·show 0 <= _
  omega
 ·rw [ByteArray.size_append]
  show 4+_<=_
  omega
theorem QeU {x:Tt} (h:x.Ok):(txT x).size <= 11659:=by
 have h1:=QbE h;have h2:=Qbf h.g;have h3:=Qec h.ts h.few;have h4:=QdU h.tg;unfold txT;simp only [ByteArray.size_append]
 show _+_+_+_+1<=_
 omega
end TransSpec
end
end Go.Proofs.YtbdalbpackfejaaGreatDoor
