/- TermCheck, ExprRead, CurNew, ScanSpec, ScanRef, joined. -/
import Derived.Test.YtbdalbpackfejaaGreatDoorMFormatOf07
set_option maxHeartbeats 16000000
set_option maxRecDepth 100000
namespace Go.Proofs.YtbdalbpackfejaaGreatDoor
section
open Go.RowKit TermSpec
set_option maxRecDepth 100000
theorem whole_yes {l:List Tm} {n:Nat} (hn:n = l.length) (h40:n <= 40) (h:endA l 0 = n):wholeB l = true:=by
 refine Q6.2 ⟨by omega,?_⟩;obtain ⟨k,m,hk,hc,he,hm,hl⟩:=ZY (l:=l) (a:=0) (by omega);obtain rfl:k=0:=by omega
 rw [List.drop_zero] at hc;rw [hc]
 congr 1
 omega
theorem Qhc {l:List Tm} {n:Nat} (hn:n = l.length) (h:¬ (n <= 40 /\ endA l 0 = n)):wholeB l = false:=by
 rw [Bool.eq_false_iff];intro hw;obtain ⟨h1,h2⟩:=Q6.1 hw;refine h ⟨by omega,?_⟩;have:=Zb (l:=l) (a:=0) (m:=l.length) (by simpa using h2);rw [show (0:Int)=((0:Nat):Int) from rfl,this];omega
theorem tell_no {f:Int->List Int->Int} {l:List Tm} (h:wholeB l=false):tell f l=0:=by unfold tell; rw [h]; rfl
theorem QeE {f:Int->List Int->Int} {l:List Tm} (h:wholeB l=true):tell f l=come f l:=by unfold tell; rw [h]; rfl
theorem QgY (A:Option Addr) (n c:Nat) (l:List Tm) (hn:n = l.length) (hn62:n <= 70368744177664) (w:World) (h:Tms w (.slice A n c) l) (he:0 <= endA l 0) :
 Calls Tryz.prog 195 #[.slice A n c,.int .i64 0,.func (.func 186) #[] #[]] w (RetI w (come depF l)):=by
 have:=Qh4 A n c l hn hn62 0 w h he
 rwa [List.drop_zero] at this
theorem QgA (A:Option Addr) (n c:Nat) (l:List Tm) (hn:n = l.length) (hn62:n <= 70368744177664) (w:World) (h:Tms w (.slice A n c) l) :
 Calls Tryz.prog 185 #[.slice A n c,.func (.func 186) #[] #[]] w (RetI w (tell depF l)):=by
 by_cases h40:40<n
 ·have HE:=qh (tell_no (f:=depF) (Qhc hn (by omega)))
  clear hn h;go_enter Tryz.func185,Tryz.ntmps185;go_wp2_with fail;go_ret;exact ⟨Qo HE.o.symm,Below.refl _ _⟩
 ·have hE:=end_any A n c l 0 w h hn (by omega)
  have HY:Hid (endA l 0=n->Calls Tryz.prog 195 #[.slice A n c,.int .i64 0,.func (.func 186) #[] #[]] w (RetI w (come depF l))/\tell depF l=come depF l):=qh (fun h0=>⟨QgY A n c l hn hn62 w h (by omega),QeE (whole_yes hn (by omega) h0)⟩);have HN:Hid (endA l 0≠n->tell depF l=0):=qh (fun h0=>tell_no (Qhc hn (fun h=>h0 h.2)));obtain ⟨r,hr⟩:∃ r,r=endA l 0:=⟨_,rfl⟩;rw [<- hr] at hE HY HN;have HE:=qh hE;clear hr hE hn h
  by_cases hrn:r=n
  ·have g:(r != (n:Int)) = false:=by simp [hrn]
   have HC:=qh (HY.o hrn).1;have HV:=qh (HY.o hrn).2;clear hrn HN HY;go_enter Tryz.func185,Tryz.ntmps185
   go_wp2_with (first
    | (go_at_call 194; go_fit HE.o; rintro e w' ⟨rfl,rfl⟩)
    | (go_at_call 195; go_fit HC.o))
   rintro e w1 ⟨rfl,hb1⟩;go_wp2_with fail;go_ret;exact ⟨Qo HV.o.symm,hb1⟩
  ·have g:(r != (n:Int)) = true:=by simp [hrn]
   have HV:=qh (HN.o hrn);clear hrn HN HY;go_enter Tryz.func185,Tryz.ntmps185;go_wp2_with (go_at_call 194; go_fit HE.o; rintro e w' ⟨rfl,rfl⟩);go_ret;exact ⟨Qo HV.o.symm,Below.refl _ _⟩
theorem depth_any (A:Option Addr) (n c:Nat) (l:List Tm) (hn:n = l.length) (hn62:n <= 70368744177664) (w:World) (h:Tms w (.slice A n c) l) :
 Calls Tryz.prog 175 #[.slice A n c] w (RetI w (depth l)):=by
 have HC:=qh (QgA A n c l hn hn62 w h);obtain ⟨r,hr⟩:∃ r,r=tell depF l:=⟨_,rfl⟩;have HR:Hid (depth l=r):=qh hr.symm;rw [<- hr] at HC;clear hr hn h;go_enter Tryz.func175,Tryz.ntmps175;go_wp2_with (go_at_call 185; go_fit HC.o);rintro e w1 ⟨rfl,hb1⟩;go_wp2_with fail;go_ret;exact ⟨Qo HR.o.symm,hb1⟩
def AllMay (W:World) (l:List Tm) (n:Nat) (i:Value) (wr:World):Prop:=∃ k:Nat,k<=n/\i = .int .i64 k/\(l.take k).all mayB=true/\Below W.heap.size W wr
theorem may_stop {l:List Tm} {k:Nat} {t:Tm} (ht:l[k]? = some t) (h:mayB t = false):l.all mayB = false:=by
 rw [List.all_eq_false];exact ⟨t,List.mem_of_getElem? ht,by simp [h]⟩
theorem may_next {l:List Tm} {k:Nat} {t:Tm} (ht:l[k]? = some t) (h0:(l.take k).all mayB = true) (h:mayB t = true):(l.take (k + 1)).all mayB = true:=by
 rw [QA ht,List.all_append,h0]; simpa using h
theorem QdZ {l:List Tm} (h:40<l.length):chk l=8:=by unfold chk; rw [if_pos h]
theorem chk_none {l:List Tm} (h:¬ 40<l.length) (h1:wholeB l=false):chk l=1:=by unfold chk; rw [if_neg h,if_pos h1]
theorem chk_may {l:List Tm} (h:¬ 40<l.length) (h1:wholeB l=true) (h2:l.all mayB=false):chk l=1:=by unfold chk; rw [if_neg h,if_neg (by simp [h1]),if_pos h2]
theorem chk_last {l:List Tm} (h:¬ 40<l.length) (h1:wholeB l=true) (h2:l.all mayB=true):chk l=if 12<depth l then 6 else 0:=by unfold chk; rw [if_neg h,if_neg (by simp [h1]),if_neg (by simp [h2])]
theorem QbA (A:Option Addr) (n c:Nat) (l:List Tm) (hn:n = l.length) (hn62:n <= 70368744177664) (hs:Small l) (w:World) (h:Tms w (.slice A n c) l) :
 Calls Tryz.prog 165 #[.slice A n c] w (RetI w (chk l)):=by
 by_cases h40:40<n
 ·have HE:=qh (QdZ (l:=l) (by omega))
  clear hn h;go_enter Tryz.func165,Tryz.ntmps165;go_wp2_with fail;go_ret;exact ⟨Qo HE.o.symm,Below.refl _ _⟩
 have HD:=qh (depth_any A n c l hn hn62 w h);have h40':¬ 40<l.length:=by omega
 cases hw:wholeB l with
 | false =>
   have hd:depth l=0:=Qjr.2 hw;rw [hd] at HD;have HE:=qh (chk_none h40' hw);clear hn h hw hd h40';go_enter Tryz.func165,Tryz.ntmps165;go_wp2_with (go_at_call 175; go_fit HD.o);rintro e w1 ⟨rfl,hb1⟩;go_wp2_with fail;go_ret;exact ⟨Qo HE.o.symm,hb1⟩
 | true =>
   have hd0:1<=depth l:=by unfold depth; rw [QeE hw]; exact (QeK (Q6.1 hw).2).1
   have HL:=qh (fun h2=>chk_last h40' hw h2);have HM:=qh (fun h2=>chk_may h40' hw h2);obtain ⟨d,hd⟩:∃ d,d=depth l:=⟨_,rfl⟩;rw [<- hd] at HD HL hd0;have gd:(d==0)=false:=by simp; omega
   have HT:=qh h;have HN:=qh hn;have HS:=qh hs;clear hn h hw hd h40' hs;go_enter Tryz.func165,Tryz.ntmps165;go_wp2_with (go_at_call 175; go_fit HD.o);rintro e w1 ⟨rfl,hb1⟩;have HB1:=qh hb1;clear hb1;go_wp2_with fail
   go_loopw [5,15] (fun _ i wr=>AllMay w l n i wr) (fun _ i _=>n-(intOf i).toNat)
   case atStart=>exact ⟨0,Nat.zero_le _,rfl,rfl,HB1.o⟩
   case round =>
    obtain ⟨k,hk,rfl,hall,hbw⟩:=hrel;have HA:=qh hall;have HB:=qh hbw;clear hall hbw
    by_cases hlt:k<n
    ·obtain ⟨t,ht⟩:∃ t,l[k]? = some t:=Qp (by rw [<- HN.o]; exact hlt)
     obtain ⟨b,off,rfl,hb,c0,c1,c2⟩:=(HT.o.keep HB.o).at_ ht;have HC:Hid (∀ w,Calls Tryz.prog 176 #[.agg #[.int .i64 t.op,.int .i64 t.n,.string t.s]] w (RetB w (mayB t))):=qh (fun w=>may_any t w (HS.o t (List.mem_of_getElem? ht)));have HX:=qh ht;obtain ⟨q,hq⟩:∃ q,q=mayB t:=⟨_,rfl⟩;rw [<- hq] at HC;have HQ:=qh hq.symm;clear ht hq
     cases q with
     | true =>
       go_wp2_with (go_at_call 176; go_fit (HC.o _));rintro e w2 ⟨rfl,hb2⟩;have HB2:=qh (Qa (HB.o.alloc HB.o.size _) hb2);clear hb2 c0 c1 c2;go_wp2_with fail
       go_roundw
       case rel=>exact ⟨k+1,hlt,by simp,may_next HX.o HA.o HQ.o,HB2.o⟩
       case measure=>simp [intOf]; omega
     | false =>
       go_wp2_with (go_at_call 176; go_fit (HC.o _));rintro e w2 ⟨rfl,hb2⟩;have HB2:=qh (Qa (HB.o.alloc HB.o.size _) hb2);clear hb2 c0 c1 c2;go_wp2_with fail;go_ret;exact ⟨Qo (HM.o (may_stop HX.o HQ.o)).symm,HB2.o⟩
    ·have HE:Hid (chk l = if 12 < d then 6 else 0):=qh (HL.o (by have:=HA.o; rwa [List.take_of_length_le (by rw [<- HN.o]; omega)] at this))
     by_cases h12:12<d
     all_goals
      go_wp2_with fail;go_ret;exact ⟨Qo (by rw [HE.o]; first | rw [if_pos h12] | rw [if_neg (by omega)]),HB.o⟩
theorem rdep_zero (A:Option Addr) (n c:Nat) (l:List Tm) (hn:n = l.length) (hn62:n <= 70368744177664) (w:World) (h:Tms w (.slice A n c) l) (hw:wholeB l = true) :
 Calls Tryz.prog 169 #[.slice A n c,.int .i64 0] w (RetI w (depth l)):=by
 have h2:=(Q6.1 hw).2;have:=rdep_any A n c l hn hn62 0 w h (by rw [Zb (m:=l.length) (by simpa using h2)]; omega);rw [List.drop_zero] at this;unfold depth
 rwa [QeE hw]
end
section
open Go.RowKit CurSpec TermSpec ExprSpec NamesSpec
set_option maxRecDepth 100000
def RetRead (W:World) (B:Nat) (p:Pa) (e:Ending) (w':World):Prop:=∃ A n cp,e = .returned (.slice A n cp)/\CurAt w' B p.1/\Tms w' (.slice A n cp) p.2/\n=p.2.length/\W.grownBy w' (some B)/\∀ b,(Value.slice A n cp).ownBlock=some b->W.heap.size<=b
theorem QgL {c:Cur} {x l:List Tm} (h:CapD c [] x l) (h0:c.bad = 0):chk l = chk x /\ (chk x = 0 -> l = x):=by
 have h2:=h.2 h0
 split at h2
 ·rw [List.nil_append] at h2
  rw [h2];exact ⟨rfl,fun _=>rfl⟩
 ·rename_i h3
  simp only [List.length_nil,Nat.zero_add] at h3;have e1:chk l=8:=QdZ (by omega);have e2:chk x=8:=QdZ (by omega);rw [e1,e2];exact ⟨rfl,fun h=>absurd h (by decide)⟩
theorem readP_cur {f:Nat} {c:Cur} {l:List Tm} (h:CapD (S f c 1).1 [] (S f c 1).2 l):fail (S f c 1).1 (chk l) = (readP f c).1:=by
 unfold readP
 by_cases h0:(S f c 1).1.bad=0
 ·rw [if_pos h0,(QgL h h0).1]
 ·rw [if_neg h0,Jo _ h0]
theorem Qct {c:Cur} {e:Int} (h:(fail c e).bad = 0):c.bad = 0 /\ e = 0:=by
 by_cases h0:c.bad=0
 ·by_cases he:e = 0
  ·exact ⟨h0,he⟩
  ·rw [Qb9 h0 he] at h; exact absurd h he
 ·rw [Jo e h0] at h; exact absurd h h0
theorem Qjm {f:Nat} {c:Cur} {l:List Tm} (h:CapD (S f c 1).1 [] (S f c 1).2 l) :
 ((fail (S f c 1).1 (chk l)).bad=0->(readP f c).2=l)/\((fail (S f c 1).1 (chk l)).bad≠0->(readP f c).2=[]):=by
 refine ⟨fun hb=>?_,fun hb=>?_⟩
 ·obtain ⟨h0,he⟩:=Qct hb
  have h2:=QgL h h0;unfold readP;rw [if_pos h0,if_pos (by rw [<- h2.1]; exact he),h2.2 (by rw [<- h2.1]; exact he)]
 ·unfold readP
  by_cases h0:(S f c 1).1.bad=0
  ·rw [if_pos h0]
   have h2:=QgL h h0;refine if_neg (fun he=>hb ?_);rw [h2.1,he,JM];exact h0
  ·rw [if_neg h0]
theorem tms_nil (w:World):Tms w (.slice none 0 0) []:=⟨0,rfl,Rdk.nil 3 w⟩
theorem rd_tms {w:World} {R B:Nat} {A:Option Addr} {n cp:Nat} {c:Cur} {l:List Tm} (h:RdAt w R B (.slice A n cp) c l):Tms w (.slice A n cp) l /\ n = l.length:=by
 have:=Rdk.own h.own;obtain ⟨A',c',heq,_⟩:=this
 cases heq
 exact ⟨⟨_,rfl,Rdk.own h.own⟩,rfl⟩
theorem Qih {w x:World} {o:Obj} {B:Nat} {v':Value} (h:Hold w.heap.size B (.slice none 0 0) v' (w.alloc o) x):w.grownBy x (some B):=by
 have hz:=h.size;rw [World.size_alloc] at hz;exact ⟨h.os,h.tape,h.output,by omega,fun i hi hn=>(h.block i (by rw [World.size_alloc]; omega) (by simpa using hn) (by omega) (by simp [Value.ownBlock])).trans (heap_alloc_old _ _ hi)⟩
theorem read_at (B:Nat) (c:Cur) (f:Nat) (w:World) (hs:SignsIn w) (h:CurAt w B c) (ok:Ok c) (hf:Fit f c) :
 Calls Tryz.prog 155 #[.pointer (some ⟨B,0,none⟩)] w (RetRead w B (readP f c)):=by
 have hB:=h.lt
 have h0:RdAt (w.alloc (.cells #[.pointer (some ⟨B,0,none⟩),.slice none 0 0] 222)) w.heap.size B (.slice none 0 0) c [] :=
  ⟨h.alloc _,heap_alloc_new _ _,⟨rfl,.inl ⟨rfl,rfl⟩⟩,hB,by simp,by intro t ht; cases ht⟩
 have HPT:=qh (part_ok f w.heap.size B (.slice none 0 0) c [] 1 _ (hs.alloc _) h0 ok hf);have HRL:=qh (fun (l:List Tm) (hc:CapD (S f c 1).1 [] (S f c 1).2 l)=>And.intro (readP_cur hc) (Qjm hc));obtain ⟨D,hD⟩:∃ D,D=S f c 1:=⟨_,rfl⟩;obtain ⟨P,hP⟩:∃ P,P=readP f c:=⟨_,rfl⟩;rw [<- hD] at HPT HRL;rw [<- hP] at HRL ⊢;clear hD hP hs h ok hf h0 hB;go_enter Tryz.func155,Tryz.ntmps155;go_wp2_with (go_at_call 174; go_fit HPT.o);rintro e x1 ⟨v,l,rfl,hr,hc,hh⟩;obtain ⟨A,cp,rfl⟩:=QR hr.own;obtain ⟨n,hn⟩:∃ n,n=l.length:=⟨_,rfl⟩;rw [<- hn] at hr hh;have ht:=rd_tms hr;have HC:=qh (QbA A n cp l hn (by have:=hr.few; omega) hr.small x1.drew ht.1);have HN:=qh hn;have HH:=qh hh;have HR:=qh hr;have HT:=qh ht.1;have HL:=qh (HRL.o l hc);obtain ⟨r0,r1⟩:=QC hr.blk;obtain ⟨ck,hck⟩:∃ ck,ck=chk l:=⟨_,rfl⟩;rw [<- hck] at HC HL;have HFL:Hid (∀ W,Below x1.drew.heap.size x1.drew W->Calls Tryz.prog 47 #[.pointer (some ⟨B,0,none⟩),.int .i64 ck] W (RetAt W B (fail D.1 ck))):=qh (fun W hW=>Zg B D.1 ck W (hr.drew.cur.keep hW));have HCL:Hid (∀ W,Below x1.drew.heap.size x1.drew W->RdAt W w.heap.size B (.slice A n cp) D.1 l):=qh (fun W hW=>hr.drew.keep hW);clear hr hc hh hn ht hck;go_wp2_with fail
 go_region_law (first
  | (go_simp; go_at_call 165; go_fit HC.o; rintro e x2 ⟨rfl,hb2⟩; have HB2:=qh hb2; clear hb2; obtain ⟨s0,s1⟩:=QC (HCL.o _ HB2.o).blk)
  | (go_simp; go_at_call 47; go_fit (HFL.o _ HB2.o); rintro e x3 ⟨rfl,hc3,hb3⟩; have HE3:=qh (And.intro hc3 hb3); clear hc3 hb3; obtain ⟨t0,t1⟩:=QC ((HCL.o _ HB2.o).but HE3.o.2 HE3.o.1).blk))
 all_goals
  have HR3:=qh ((HCL.o _ HB2.o).but HE3.o.2 HE3.o.1);have HO3:=qh (((HH.o.trans (Hold.of_below _ (((Below.refl _ _).drew).trans (HB2.o.mono (Nat.le_refl _))))).trans (Hold.of_but _ HE3.o.2)))
  cases hg:(fail D.1 ck).bad==0 with
  | true =>
    have HG:=qh (fun W hW=>JR _ _ _ _ W ((Fl.of HE3.o.1).keep hW) (b:=true) hg);have HX:=qh (HL.o.2.1 (by simpa using hg));clear hg;go_wp2_with (go_at_call 45; go_fit (HG.o _ (Below.refl _ _)));rintro e x4 ⟨rfl,hb4⟩;have HR4:=qh (HR3.o.keep hb4);have HO4:=qh (HO3.o.trans (Hold.of_below _ hb4));obtain ⟨u0,u1⟩:=QC HR4.o.blk;clear hb4;go_wp2_with fail;go_ret;refine ⟨A,n,cp,rfl,?_,?_,?_,Qih HO4.o,fun b e=>by have:=(Qs HR4.o.own b e).1; omega⟩
    ·rw [<- HL.o.1]; exact HR4.o.cur
    ·rw [HX.o]; have hnl:=HN.o; subst hnl; exact (rd_tms HR4.o).1
    ·rw [HX.o]; exact HN.o
  | false =>
    have HG:=qh (fun W hW=>JR _ _ _ _ W ((Fl.of HE3.o.1).keep hW) (b:=false) hg);have HX:=qh (HL.o.2.2 (by simpa using hg));clear hg;go_wp2_with (go_at_call 45; go_fit (HG.o _ (Below.refl _ _)));rintro e x4 ⟨rfl,hb4⟩;have HR4:=qh (HR3.o.keep hb4);have HO4:=qh (HO3.o.trans (Hold.of_below _ hb4));clear hb4;go_wp2_with fail;go_ret;refine ⟨none,0,0,rfl,?_,?_,?_,Qih HO4.o,by simp [Value.ownBlock]⟩
    ·rw [<- HL.o.1]; exact HR4.o.cur
    ·rw [HX.o]; exact tms_nil _
    ·rw [HX.o]; rfl
end
section
open Go.RowKit CurSpec
set_option maxRecDepth 100000
theorem info_tk:(Tryz.prog.info? 76).map (fun i=>(i.zero,i.size,i.bytes))=some (some (.agg #[.int .i64 0,.string ByteArray.empty,.int .i64 0,.int .i64 0]),4,40):=by kernel_rfl
def lastP (L:List Tk):Int × Int:=match L.getLast? with | none=>(0,0) | some t=>(t.l,t.c)
theorem Qfn:∀ (L:List Tk) (a b:Int),full L a b = L ++ [⟨0,⟨#[]⟩,(match L.getLast? with | none => (a,b) | some t => (t.l,t.c)).1,(match L.getLast? with | none => (a,b) | some t => (t.l,t.c)).2⟩]
 | [],a,b => rfl
 | t :: r,a,b => by
   rw [full,Qfn r t.l t.c]
   cases r with
   | nil => rfl
   | cons u q =>
     rw [List.getLast?_cons_cons];obtain ⟨x,hx⟩:∃ x,(u::q).getLast?=some x:=⟨_,List.getLast?_eq_some_getLast (by simp)⟩;rw [hx]
     rfl
theorem full_zero (L:List Tk):full L 0 0=L++[⟨0,⟨#[]⟩,(lastP L).1,(lastP L).2⟩]:=Qfn L 0 0
def NewPost (W:World) (l:List Tk) (e:Ending) (w':World):Prop :=
 ∃ B,e = .returned (.pointer (some ⟨B,0,none⟩))/\W.heap.size<=B/\CurAt w' B ⟨l,0,0,0,0,0⟩/\Below W.heap.size W w'
theorem Qjx {w:World} {b off m:Nat} {l:List Tk} (hl:m + 1 = l.length) (hcell:∀ j u,(tksV l)[j]? = some u -> w.cell? ⟨b,off + j,none⟩ = some u) :
 w.cell? ⟨b,off+m*4+2,none⟩=some (.int .i64 (lastP l).1)/\w.cell? ⟨b,off+m*4+3,none⟩=some (.int .i64 (lastP l).2):=by
 obtain ⟨t,ht⟩:∃ t,l[m]?=some t:=Qp (by omega);have hlast:l.getLast?=some t:=by rw [List.getLast?_eq_getElem?,<- hl]; exact ht
 obtain ⟨_,_,g2,g3⟩:=QhY ht;unfold lastP;rw [hlast];exact ⟨hcell _ _ g2,hcell _ _ g3⟩
theorem lastP_nil {l:List Tk} (h:l.length=0):lastP l=(0,0):=by rw [List.eq_nil_of_length_eq_zero h]; rfl
theorem new_fin {W w2:World} {l:List Tk} {n g cap:Nat} {p1 p2:Int} (hn:n = l.length) (hp:lastP l = (p1,p2)) (hb:Below W.heap.size W w2) (hg:g < w2.heap.size)
 (hown:w2.ownsRow (W.heap.size+1) 76 4 (.slice (some ⟨g,0,none⟩) (n+1) cap) (n+1) (tksV l++[.int .i64 0,.string ⟨#[]⟩,.int .i64 p1,.int .i64 p2])) :
 NewPost W l (.returned (.pointer (some ⟨w2.heap.size,0,none⟩))) (w2.alloc (.cells #[.slice (some ⟨g,0,none⟩) (n+1) cap,.int .i64 0,.int .i64 0,.int .i64 0] 88)):=by
 refine ⟨_,rfl,hb.size,⟨g,0,n,cap,heap_alloc_new _ _,by omega,hn,Toks.alloc ⟨n+1,by rw [Qdn,hn],?_⟩ _⟩,hb.alloc hb.size _⟩
 have e:tksV (full l 0 0) = tksV l ++ [.int .i64 0,.string ⟨#[]⟩,.int .i64 p1,.int .i64 p2]:=by
  rw [full_zero,hp];simp [tksV,tkV]
 show Rdk 4 w2 _ (n+1) (tksV (full l 0 0))
 rw [e];exact Rdk.own hown
theorem made_at {W:World} {base cap H:Nat} {cur:Array Value} (hH:W.heap.size = H) (hb:base <= W.heap.size) (hm:cap <= maxLen) (hs:cur.size = cap * 4) :
 (W.alloc (.cells cur 76)).ownsRow base 76 4 (.slice (some ⟨H,0,none⟩) 0 cap) 0 []:=by
 subst hH;exact World.ownsRow_made W cur cap hb hm hs
structure NewMid (W:World) (l:List Tk) (n:Nat) (p1 p2:Int) (v:Value) (w1:World):Prop where
 tok:w1.heap[W.heap.size]?=some (.cells #[.int .i64 0,.string ⟨#[]⟩,.int .i64 p1,.int .i64 p2] 76 (0,0))
 own:w1.ownsRow (W.heap.size+1) 76 4 v n (tksV l)
 below:Below W.heap.size W w1
theorem new_mid {W w1:World} {l:List Tk} {n cap:Nat} {p1 p2:Int} {v:Value} {mk:Array Value}
 (hown:w1.ownsRow (W.heap.size+1) 76 4 v n (tksV l))
 (hg:((W.alloc (.cells #[.int .i64 0,.string ⟨#[]⟩,.int .i64 p1,.int .i64 p2] 76)).alloc (.cells mk 76)).grownBy w1 (Value.ownBlock (.slice (some ⟨W.heap.size+1,0,none⟩) 0 cap))) :
 NewMid W l n p1 p2 v w1:=by
 have hz:=hg.size;simp only [World.size_alloc] at hz;refine ⟨?_,hown,⟨hg.os,hg.tape,hg.output,by omega,fun i hi=>?_⟩⟩
 ·exact (hg.block _ (by simp; omega) (by simp [Value.ownBlock])).trans ((heap_alloc_old _ _ (by simp)).trans (heap_alloc_new _ _))
 ·exact (hg.block i (by simp; omega) (by simp [Value.ownBlock]; omega)).trans ((heap_alloc_old _ _ (by simp; omega)).trans (heap_alloc_old _ _ hi))
theorem QfT {W w1 w2:World} {l:List Tk} {n:Nat} {p1 p2:Int} {v:Value} {o:Obj} (h:NewMid W l n p1 p2 v w1) (hg:(w1.alloc o).grownBy w2 v.ownBlock):Below W.heap.size W w2:=by
 have hb:=Qs h.own;have hz:=hg.size;have hz1:=h.below.size;simp only [World.size_alloc] at hz;refine h.below.trans ⟨hg.os,hg.tape,hg.output,by omega,fun i hi=>?_⟩;exact (hg.block i (by simp; omega) (fun e=>by have:=(hb i e.symm).1; omega)).trans (heap_alloc_old _ _ (by omega))
theorem new_any (A:Option Addr) (n cp:Nat) (l:List Tk) (w:World) (h:Toks w (.slice A n cp) l) (hl:n <= 1000000):Calls Tryz.prog 19 #[.slice A n cp] w (NewPost w l):=by
 obtain ⟨i0,hi,hz0,hz1,hz2⟩:=info_parts info_tk;obtain ⟨n',hn',hR⟩:=h;obtain rfl:n=n':=by obtain ⟨A',c',heq,_⟩:=hR; cases heq; rfl
 have hmk:∀ W,(Instr.makeSlice 40 (.int .i64 0) (.int .i64 ((n:Int) + 1))).run Tryz.prog W = .ok (.slice (some ⟨W.heap.size,0,none⟩) 0 (n + 1)) (W.alloc (.cells (madeCells (Value.agg #[.int .i64 0,.string ByteArray.empty,.int .i64 0,.int .i64 0]).cells ((n + 1) * 4)) 76)):=fun W => by
  have h:=run_make (P:=Tryz.prog) W 40 76 i0 _ Tryz.underlying40 hi hz0 .i64 .i64 0 ((n:Int)+1) (by omega) (by omega) (by rw [hz2]; omega) (by omega);rw [hz1] at h;exact h
 have hms:=size_madeCells (Value.agg #[.int .i64 0,.string ByteArray.empty,.int .i64 0,.int .i64 0]).cells ((n+1)*4);generalize madeCells (Value.agg #[.int .i64 0,.string ByteArray.empty,.int .i64 0,.int .i64 0]).cells ((n+1)*4)=mk at hmk hms;have HM:=qh hms;have HR:=qh hR;have HN:=qh hn';clear hms hR hn'
 rcases Nat.eq_zero_or_pos n with h0 | h0
 ·have hp:lastP l = (0,0):=lastP_nil (by rw [<- HN.o]; exact h0)
  have HP:=qh hp;have hn0:n<=0:=by omega
  have hd:decide (0<(n:Int))=false:=decide_eq_false (by omega);clear hp h0;go_enter Tryz.func19,Tryz.ntmps19;go_wp2_with (at_builtin; refine QQ _ rfl (.tmp 21) (.tmp 22) 40 rfl (w.heap.size+1) 76 i0 _ 4 40 Tryz.underlying40 hi hz0 hz1 hz2 rfl (by decide) _ 0 [] rfl (made_at (by simp) (by simp) (by unfold maxLen; omega) HM.o) _ n (tksV l) rfl ((HR.o.alloc _).alloc _) (QhN l) (by unfold maxLen; omega) (by omega) (by simp) ?_);intro v1 w1 hown1 hgrow1 _;have HMid:=qh (new_mid hown1 hgrow1);clear hown1 hgrow1 hmk;obtain ⟨t0,t1,t2,t3⟩:=Qi HMid.o.tok;go_wp2_with (at_builtin; refine wpList_append_lies _ rfl (.tmp 24) (.tmp 26) 40 rfl (w.heap.size+1) 76 i0 _ 4 40 Tryz.underlying40 hi hz0 hz1 hz2 rfl (by decide) v1 n (tksV l) rfl (HMid.o.own.alloc _) ⟨w1.heap.size,0,none⟩ 1 1 [.int .i64 0,.string ⟨#[]⟩,.int .i64 0,.int .i64 0] rfl rfl (World.news_of_block (cs:=#[.int .i64 0,.string ⟨#[]⟩,.int .i64 0,.int .i64 0]) (heap_alloc_new w1 _)) (by simp [Value.oneCell']) (by decide) (by unfold maxLen; omega) (by omega) (by have:=HMid.o.below.size; have:=HMid.o.own.2; have:=(Array.getElem?_eq_some_iff.1 HMid.o.tok).1; simp; omega) (w1.heap.size+1) (by simp) ?_);intro g cap w2 hown2 hgrow2 _ hlt2;have HE:=qh (new_fin HN.o HP.o (QfT HMid.o hgrow2) hlt2 hown2);clear hown2 hgrow2 t0 t1 t2 t3;go_wp2_with fail;go_ret;exact HE.o
 ·obtain ⟨m,rfl⟩:∃ m,n = m + 1:=⟨n - 1,by omega⟩
  have hR:=HR.o;obtain ⟨A',c',heq,_,_,hA⟩:=hR
  cases heq
  obtain ⟨b,off,rfl,hlt,hcell⟩:=hA (by omega);obtain ⟨c2,c3⟩:=Qjx HN.o hcell;obtain ⟨p1,p2,hp⟩:∃ p1 p2,lastP l=(p1,p2):=⟨_,_,rfl⟩;rw [hp] at c2 c3;simp only at c2 c3;have HP:=qh hp;rw [show ((m+1:Nat):Int)=(m:Int)+1 by omega] at hmk;clear hp hcell hA h0;go_enter Tryz.func19,Tryz.ntmps19;go_wp2_with (at_builtin; refine QQ _ rfl (.tmp 21) (.tmp 22) 40 rfl (w.heap.size+1) 76 i0 _ 4 40 Tryz.underlying40 hi hz0 hz1 hz2 rfl (by decide) _ 0 [] rfl (made_at (by simp) (by simp) (by unfold maxLen; omega) HM.o) _ (m+1) (tksV l) rfl ((HR.o.alloc _).alloc _) (QhN l) (by unfold maxLen; omega) (by omega) (by simp) ?_);intro v1 w1 hown1 hgrow1 _;have HMid:=qh (new_mid hown1 hgrow1);clear hown1 hgrow1 hmk c2 c3;obtain ⟨t0,t1,t2,t3⟩:=Qi HMid.o.tok;go_wp2_with (at_builtin; refine wpList_append_lies _ rfl (.tmp 24) (.tmp 26) 40 rfl (w.heap.size+1) 76 i0 _ 4 40 Tryz.underlying40 hi hz0 hz1 hz2 rfl (by decide) v1 (m+1) (tksV l) rfl (HMid.o.own.alloc _) ⟨w1.heap.size,0,none⟩ 1 1 [.int .i64 0,.string ⟨#[]⟩,.int .i64 p1,.int .i64 p2] rfl rfl (World.news_of_block (cs:=#[.int .i64 0,.string ⟨#[]⟩,.int .i64 p1,.int .i64 p2]) (heap_alloc_new w1 _)) (by simp [Value.oneCell']) (by decide) (by unfold maxLen; omega) (by omega) (by have:=HMid.o.below.size; have:=HMid.o.own.2; have:=(Array.getElem?_eq_some_iff.1 HMid.o.tok).1; simp; omega) (w1.heap.size+1) (by simp) ?_);intro g cap w2 hown2 hgrow2 _ hlt2;have HE:=qh (new_fin HN.o HP.o (QfT HMid.o hgrow2) hlt2 hown2);clear hown2 hgrow2 t0 t1 t2 t3;go_wp2_with fail;go_ret;exact HE.o
end
section
namespace ScanSpec
def isLow (c:UInt8):Bool:=decide (97<=(c.toNat:Int))&&decide ((c.toNat:Int)<=122)
def isDig (c:UInt8):Bool:=decide (48<=(c.toNat:Int))&&decide ((c.toNat:Int)<=57)
def isBlank (c:UInt8):Bool:=(c.toNat==32||c.toNat==9)||c.toNat==10||c.toNat==13
def clsB (c:UInt8):Int:=if isLow c then 1 else if isDig c then 2 else if c.toNat=95 then 3 else if isBlank c then 4 else if c.toNat=35 then 5 else 0
def cls (l:List UInt8) (i:Nat):Int:=match l[i]? with | some c=>clsB c | none=>0
def gapRun:Bool -> List UInt8 -> Nat
 | _,[] => 0
 | false,c :: t => if clsB c = 4 then gapRun false t + 1 else if clsB c = 5 then gapRun true t + 1 else 0
 | true,c :: t => if c.toNat = 10 then gapRun false t + 1 else gapRun true t + 1
def gap (l:List UInt8) (i:Nat):Nat:=i+gapRun false (l.drop i)
def run (p:UInt8 -> Bool):List UInt8 -> Nat
 | [] => 0
 | c :: t => if p c then run p t + 1 else 0
def isWord (c:UInt8):Bool:=decide (1<=clsB c)&&decide (clsB c<=3)
def isNum (c:UInt8):Bool:=decide (clsB c=2)
def marks:List (List UInt8):=[[45,62],[58,61],[60,61],[62,61],[33,61],[61,61],[46,46],[123],[125],[91],[93],[40],[41],[44],[59],[61],[60],[62],[43],[45],[42],[47]]
def marksS:List ByteArray:=[⟨#[45,62]⟩,⟨#[58,61]⟩,⟨#[60,61]⟩,⟨#[62,61]⟩,⟨#[33,61]⟩,⟨#[61,61]⟩,⟨#[46,46]⟩,⟨#[123]⟩,⟨#[125]⟩,⟨#[91]⟩,⟨#[93]⟩,⟨#[40]⟩,⟨#[41]⟩,⟨#[44]⟩,⟨#[59]⟩,⟨#[61]⟩,⟨#[60]⟩,⟨#[62]⟩,⟨#[43]⟩,⟨#[45]⟩,⟨#[42]⟩,⟨#[47]⟩]
def markLen (d:List UInt8):Nat:=match marks.find? fun m=>m.isPrefixOf d with | some m=>m.length | none=>0
def one (d:List UInt8):Int × Nat × Int :=
 if cls d 0=1 then (if 12<run isWord d then (0,0,5) else (1,run isWord d,0))
 else if cls d 0=2 then (if cls d (run isNum d)=1\/cls d (run isNum d)=3 then (0,0,2) else if 9<run isNum d then (0,0,5) else (2,run isNum d,0))
 else if markLen d=0 then (0,0,2) else (3,markLen d,0)
def posGo:List UInt8 -> Int × Int -> Int × Int
 | [],p => p
 | c :: t,p => posGo t (if c.toNat = 10 then (p.1 + 1,1) else (p.1,p.2 + 1))
def pos (l:List UInt8) (i:Nat):Int × Int:=posGo (l.take i) (1,1)
theorem QiI (l:List UInt8) (c:UInt8) (p:Int × Int):posGo (l ++ [c]) p = (if c.toNat = 10 then ((posGo l p).1 + 1,1) else ((posGo l p).1,(posGo l p).2 + 1)):=by
 induction l generalizing p with
 | nil => rfl
 | cons a t ih => simp only [List.cons_append,posGo,ih]
theorem Qan {l:List UInt8} {i:Nat} {c:UInt8} (h:l[i]? = some c):pos l (i + 1) = (if c.toNat = 10 then ((pos l i).1 + 1,1) else ((pos l i).1,(pos l i).2 + 1)):=by
 unfold pos; rw [QA h,QiI]
theorem posGo_bd (l:List UInt8) (p:Int × Int) (h1:1 <= p.1) (h2:1 <= p.2):1 <= (posGo l p).1 /\ (posGo l p).1 <= p.1 + l.length /\ 1 <= (posGo l p).2 /\ (posGo l p).2 <= p.2 + l.length:=by
 induction l generalizing p with
 | nil => simp [posGo]; omega
 | cons a t ih =>
   simp only [posGo,List.length_cons]
   split
   ·have:=ih (p.1 + 1,1) (by simp; omega) (by simp)
    simp at this ⊢; omega
   ·have:=ih (p.1,p.2 + 1) (by simp; omega) (by simp; omega)
    simp at this ⊢; omega
theorem pos_bd (l:List UInt8) (i:Nat):1 <= (pos l i).1 /\ (pos l i).1 <= 1 + i /\ 1 <= (pos l i).2 /\ (pos l i).2 <= 1 + i:=by
 have:=posGo_bd (l.take i) (1,1) (by simp) (by simp);have h:=List.length_take_le i l;unfold pos;simp at this;omega
theorem Jy {l:List UInt8} {i:Nat} {c:UInt8} (h:l[i]?=some c):cls l i=clsB c:=by unfold cls; rw [h]
theorem Qep {l:List UInt8} {i:Nat} (h:l.length<=i):cls l i=0:=by unfold cls; rw [List.getElem?_eq_none_iff.2 h]
theorem clsB_bd (c:UInt8):0<=clsB c/\clsB c<=5:=by unfold clsB; repeat' split; all_goals omega
theorem cls_bd (l:List UInt8) (i:Nat):0 <= cls l i /\ cls l i <= 5:=by
 unfold cls; split
 ·exact clsB_bd _
 ·omega
theorem Qcp (l:List UInt8) (i j:Nat):cls (l.drop i) j=cls l (i+j):=by unfold cls; rw [List.getElem?_drop]
theorem JC {l:List UInt8} {i:Nat} {c:UInt8} (h:l[i]? = some c):l.drop i = c :: l.drop (i + 1):=by
 have hi:=Ja h;rw [List.drop_eq_getElem_cons hi]
 congr 1
 rw [List.getElem?_eq_getElem hi] at h
 injection h
theorem Qea {l:List UInt8} {i:Nat} (h:l.length<=i):l.drop i=[]:=List.drop_eq_nil_of_le h
theorem clsB_35 {c:UInt8} (h:clsB c = 5):c.toNat = 35:=by
 unfold clsB at h
 split at h
 ·simp at h
 ·split at h
  ·simp at h
  ·split at h
   ·simp at h
   ·split at h
    ·simp at h
    ·split at h
     ·assumption
     ·simp at h
theorem clsB_10 {c:UInt8} (h:c.toNat = 10):clsB c = 4:=by
 unfold clsB isLow isDig isBlank;rw [h]; rfl
theorem Qcx {l:List UInt8} {i:Nat} (h:cls l i = 4):gap l (i + 1) = gap l i:=by
 unfold cls at h
 split at h
 ·rename_i c hc
  unfold gap;rw [JC hc,gapRun,if_pos h]; omega
 ·simp at h
def rem (l:List UInt8) (i:Nat):Nat:=i+gapRun true (l.drop i)
theorem Qeb {l:List UInt8} {i:Nat} (h:cls l i = 5):rem l i = gap l i:=by
 unfold cls at h
 split at h
 ·rename_i c hc
  unfold gap rem;rw [JC hc,gapRun,gapRun,if_neg (by rw [clsB_35 h]; decide),if_neg (by rw [h]; decide),if_pos h]
 ·simp at h
theorem QhC {l:List UInt8} {i:Nat} {c:UInt8} (hc:l[i]? = some c) (h:¬ c.toNat = 10):rem l (i + 1) = rem l i:=by
 unfold rem;rw [JC hc,gapRun,if_neg h]; omega
theorem Qhe {l:List UInt8} {i:Nat} {c:UInt8} (hc:l[i]? = some c) (h:c.toNat = 10):rem l i = gap l i:=by
 unfold rem gap;rw [JC hc,gapRun,gapRun,if_pos h,if_pos (clsB_10 h)]
theorem rem_end {l:List UInt8} {i:Nat} (h:l.length <= i):rem l i = gap l i:=by
 unfold rem gap;rw [Qea h]; rfl
theorem Qh8 {l:List UInt8} {i:Nat} (h4:¬ cls l i = 4) (h5:¬ cls l i = 5):gap l i = i:=by
 unfold gap
 rcases hc:l[i]? with _ | c
 ·rw [Qea (List.getElem?_eq_none_iff.1 hc)]; rfl
 ·rw [Jy hc] at h4 h5
  rw [JC hc,gapRun,if_neg h4,if_neg h5]; rfl
theorem gapRun_le (b:Bool) (l:List UInt8):gapRun b l <= l.length:=by
 induction l generalizing b with
 | nil => cases b <;> simp [gapRun]
 | cons c t ih =>
   have h1:=ih false;have h2:=ih true
   cases b<;>simp only [gapRun,List.length_cons]<;>repeat' split
   all_goals omega
theorem QcM {l:List UInt8} {i:Nat} (h:i <= l.length):i <= gap l i /\ gap l i <= l.length:=by
 have:=gapRun_le false (l.drop i);rw [List.length_drop] at this;unfold gap; omega
theorem Qcd {p:UInt8 -> Bool} {l:List UInt8} {i:Nat} {c:UInt8} (hc:l[i]? = some c) (h:p c = true):i + 1 + run p (l.drop (i + 1)) = i + run p (l.drop i):=by
 rw [JC hc,run,if_pos h]; omega
theorem Qag {p:UInt8 -> Bool} {l:List UInt8} {i:Nat} (h:∀ c,l[i]? = some c -> p c = false):run p (l.drop i) = 0:=by
 rcases hc:l[i]? with _ | c
 ·rw [Qea (List.getElem?_eq_none_iff.1 hc)]; rfl
 ·rw [JC hc,run,if_neg (by rw [h c hc]; simp)]
theorem Qc0 (p:UInt8 -> Bool) (l:List UInt8):run p l <= l.length:=by
 induction l with
 | nil => simp [run]
 | cons c t ih => simp only [run,List.length_cons]; split <;> omega
theorem Qgt {p:UInt8 -> Bool} {l:List UInt8} {i:Nat} {c:UInt8} (hc:l[i]? = some c) (h:p c = true):0 < run p (l.drop i):=by
 rw [JC hc,run,if_pos h]; omega
theorem Qd9 {l:List UInt8} {i:Nat} (h1:1 <= cls l i) (h3:cls l i <= 3):∃ c,l[i]? = some c /\ isWord c = true:=by
 unfold cls at h1 h3
 split at h1
 ·rename_i c hc
  refine ⟨c,hc,?_⟩;rw [hc] at h3;simp [isWord,h1,h3]
 ·omega
theorem isWord_no {l:List UInt8} {i:Nat} (h:¬ (1 <= cls l i /\ cls l i <= 3)):∀ c,l[i]? = some c -> isWord c = false:=by
 intro c hc;rw [Jy hc] at h;simp only [isWord,Bool.and_eq_false_iff,decide_eq_false_iff_not];omega
theorem isNum_cls {l:List UInt8} {i:Nat} (h:cls l i = 2):∃ c,l[i]? = some c /\ isNum c = true:=by
 unfold cls at h
 split at h
 ·rename_i c hc
  exact ⟨c,hc,by simp [isNum,h]⟩
 ·simp at h
theorem isNum_no {l:List UInt8} {i:Nat} (h:¬ cls l i = 2):∀ c,l[i]? = some c -> isNum c = false:=by
 intro c hc;rw [Jy hc] at h;simp [isNum,h]
structure Tok where
 kind:Int
 at_:Nat
 len:Nat
def scanGo (l:List UInt8):Nat -> Nat -> List Tok -> List Tok × Nat × Int
 | 0,i,acc => (acc ++ [⟨0,i,0⟩],0,0)
 | f + 1,i,acc =>
   if l.length<=i then (acc++[⟨0,i,0⟩],0,0)
   else
    let t:=one (l.drop i)
    if t.2.2≠0 then ([],i,t.2.2)
    else if acc.length=4000 then ([],i,8)
    else scanGo l f (gap l (i+t.2.1)) (acc++[⟨t.1,i,t.2.1⟩])
def scan (l:List UInt8):List Tok × Nat × Int:=scanGo l l.length (gap l 0) []
end ScanSpec
end
section
open Go.RowKit ScanSpec
set_option maxRecDepth 100000
theorem byte_at' (s:ByteArray) (i:Nat) (h:i < s.size):s.data.toList[i]? = some s[i]:=by
 rw [List.getElem?_eq_getElem (by simpa using h)]; rfl
theorem Qn (s:ByteArray):s.data.toList.length=s.size:=rfl
theorem Qa4 (c:UInt8) (n:Int) (hn:n = (c.toNat:Int)):(97 <= n /\ n <= 122 /\ clsB c = 1) \/ (48 <= n /\ n <= 57 /\ clsB c = 2) \/ (n = 95 /\ clsB c = 3) \/ ((n = 32 \/ n = 9 \/ n = 10 \/ n = 13) /\ clsB c = 4) \/ (n = 35 /\ clsB c = 5) \/
 ((n<48\/(57<n/\n<97)\/122<n)/\n≠95/\n≠32/\n≠9/\n≠10/\n≠13/\n≠35/\clsB c=0):=by
 unfold clsB isLow isDig isBlank;simp only [<- hn,Bool.and_eq_true,Bool.or_eq_true,decide_eq_true_eq,beq_iff_eq]
 by_cases h1:97<=n/\n<=122
 ·exact .inl ⟨h1.1,h1.2,by rw [if_pos h1]⟩
 ·rw [if_neg h1]
  by_cases h2:48<=n/\n<=57
  ·exact .inr (.inl ⟨h2.1,h2.2,by rw [if_pos h2]⟩)
  ·rw [if_neg h2]
   by_cases h3:c.toNat=95
   ·exact .inr (.inr (.inl ⟨by omega,by rw [if_pos h3]⟩))
   ·rw [if_neg h3]
    by_cases h4:((c.toNat=32\/c.toNat=9)\/c.toNat=10)\/c.toNat=13
    ·exact .inr (.inr (.inr (.inl ⟨by omega,by rw [if_pos h4]⟩)))
    ·rw [if_neg h4]
     by_cases h5:c.toNat=35
     ·exact .inr (.inr (.inr (.inr (.inl ⟨by omega,by rw [if_pos h5]⟩))))
     ·exact .inr (.inr (.inr (.inr (.inr ⟨by omega,by omega,by omega,by omega,by omega,by omega,by omega,by rw [if_neg h5]⟩))))
theorem class_any (s:ByteArray) (i:Nat) (w:World) (_hs:s.size <= 9223372036854775807) (_hi:i <= 9223372036854775807) :
 Calls Tryz.prog 70 #[.string s,.int .i64 i] w fun e w'=>e = .returned (.int .i64 (cls s.data.toList i))/\w=w':=by
 by_cases hlt:i<s.size
 ·have HC:=qh (Jy (byte_at' s i hlt))
  have hub:(s[i].toNat:Int)<=255:=by have:=s[i].toNat_lt; omega
  have hlb:0<=(s[i].toNat:Int):=by omega
  have hv:=Qa4 s[i] _ rfl
  rcases hv with ⟨h1,h2,hc⟩ | ⟨h1,h2,hc⟩ | ⟨h1,hc⟩ | ⟨h1,hc⟩ | ⟨h1,hc⟩ | ⟨h1,n1,n2,n3,n4,n5,n6,hc⟩
  ·have HV:=qh hc
   clear hc;go_enter Tryz.func70,Tryz.ntmps70;go_wp2;go_ret;exact ⟨Qo (HC.o.trans HV.o).symm,rfl⟩
  ·have HV:=qh hc
   clear hc;go_enter Tryz.func70,Tryz.ntmps70;go_wp2;go_ret;exact ⟨Qo (HC.o.trans HV.o).symm,rfl⟩
  ·have e95:((s[i].toNat:Int) == 95) = true:=by simp; omega
   have h48:57<(s[i].toNat:Int):=by omega
   have h97:(s[i].toNat:Int)<97:=by omega
   clear h1;have HV:=qh hc;clear hc;go_enter Tryz.func70,Tryz.ntmps70;go_wp2;go_ret;exact ⟨Qo (HC.o.trans HV.o).symm,rfl⟩
  ·rcases h1 with h1 | h1 | h1 | h1
   ·have e95:((s[i].toNat:Int) == 95) = false:=by simp; omega
    have e32:((s[i].toNat:Int)==32)=true:=by simp; omega
    have h48:(s[i].toNat:Int)<48:=by omega
    clear h1;have HV:=qh hc;clear hc;go_enter Tryz.func70,Tryz.ntmps70;go_wp2;go_ret;exact ⟨Qo (HC.o.trans HV.o).symm,rfl⟩
   ·have e95:((s[i].toNat:Int) == 95) = false:=by simp; omega
    have e32:((s[i].toNat:Int)==32)=false:=by simp; omega
    have e9:((s[i].toNat:Int)==9)=true:=by simp; omega
    have h48:(s[i].toNat:Int)<48:=by omega
    clear h1;have HV:=qh hc;clear hc;go_enter Tryz.func70,Tryz.ntmps70;go_wp2;go_ret;exact ⟨Qo (HC.o.trans HV.o).symm,rfl⟩
   ·have e95:((s[i].toNat:Int) == 95) = false:=by simp; omega
    have e32:((s[i].toNat:Int)==32)=false:=by simp; omega
    have e9:((s[i].toNat:Int)==9)=false:=by simp; omega
    have e10:((s[i].toNat:Int)==10)=true:=by simp; omega
    have h48:(s[i].toNat:Int)<48:=by omega
    clear h1;have HV:=qh hc;clear hc;go_enter Tryz.func70,Tryz.ntmps70;go_wp2;go_ret;exact ⟨Qo (HC.o.trans HV.o).symm,rfl⟩
   ·have e95:((s[i].toNat:Int) == 95) = false:=by simp; omega
    have e32:((s[i].toNat:Int)==32)=false:=by simp; omega
    have e9:((s[i].toNat:Int)==9)=false:=by simp; omega
    have e10:((s[i].toNat:Int)==10)=false:=by simp; omega
    have e13:((s[i].toNat:Int)==13)=true:=by simp; omega
    have h48:(s[i].toNat:Int)<48:=by omega
    clear h1;have HV:=qh hc;clear hc;go_enter Tryz.func70,Tryz.ntmps70;go_wp2;go_ret;exact ⟨Qo (HC.o.trans HV.o).symm,rfl⟩
  ·have e95:((s[i].toNat:Int) == 95) = false:=by simp; omega
   have e32:((s[i].toNat:Int)==32)=false:=by simp; omega
   have e9:((s[i].toNat:Int)==9)=false:=by simp; omega
   have e10:((s[i].toNat:Int)==10)=false:=by simp; omega
   have e13:((s[i].toNat:Int)==13)=false:=by simp; omega
   have e35:((s[i].toNat:Int)==35)=true:=by simp; omega
   have h48:(s[i].toNat:Int)<48:=by omega
   clear h1;have HV:=qh hc;clear hc;go_enter Tryz.func70,Tryz.ntmps70;go_wp2;go_ret;exact ⟨Qo (HC.o.trans HV.o).symm,rfl⟩
  ·have e95:((s[i].toNat:Int) == 95) = false:=by simp; omega
   have e32:((s[i].toNat:Int)==32)=false:=by simp; omega
   have e9:((s[i].toNat:Int)==9)=false:=by simp; omega
   have e10:((s[i].toNat:Int)==10)=false:=by simp; omega
   have e13:((s[i].toNat:Int)==13)=false:=by simp; omega
   have e35:((s[i].toNat:Int)==35)=false:=by simp; omega
   clear n1 n2 n3 n4 n5 n6
   rcases h1 with h1 | ⟨h1,h1'⟩ | h1
   ·have HV:=qh hc
    clear hc;go_enter Tryz.func70,Tryz.ntmps70;go_wp2;go_ret;exact ⟨Qo (HC.o.trans HV.o).symm,rfl⟩
   ·have HV:=qh hc
    clear hc;go_enter Tryz.func70,Tryz.ntmps70;go_wp2;go_ret;exact ⟨Qo (HC.o.trans HV.o).symm,rfl⟩
   ·have HV:=qh hc
    clear hc;go_enter Tryz.func70,Tryz.ntmps70;go_wp2;go_ret;exact ⟨Qo (HC.o.trans HV.o).symm,rfl⟩
 ·have HC:Hid (cls s.data.toList i = 0):=qh (Qep (by rw [Qn]; omega))
  go_enter Tryz.func70,Tryz.ntmps70;go_wp2;go_ret;exact ⟨Qo HC.o.symm,rfl⟩
theorem Qar {s:ByteArray} {i:Nat} {g:Int} (h:cls s.data.toList i = g) (hs:s.size <= 9223372036854775807) (hi:i <= 9223372036854775807) (w:World) :
 Calls Tryz.prog 70 #[.string s,.int .i64 i] w fun e w'=>e = .returned (.int .i64 g)/\w=w':=by
 subst h; exact class_any s i w hs hi
def GapRel (s:ByteArray) (G:Nat) (v:Value):Prop:=∃ k:Nat,k<=s.size/\v = .int .i64 k/\gap s.data.toList k=G
def RemRel (s:ByteArray) (k0 G:Nat) (v:Value):Prop:=∃ k:Nat,k0<=k/\k<=s.size/\v = .int .i64 k/\rem s.data.toList k=G
theorem Qh9 (s:ByteArray) (i:Nat) (w:World) (hs:s.size <= 9223372036854775807) (hi:i <= s.size) :
 Calls Tryz.prog 34 #[.string s,.int .i64 i] w fun e w'=>e = .returned (.int .i64 (gap s.data.toList i))/\w=w':=by
 obtain ⟨G,hG⟩:∃ G,G=gap s.data.toList i:=⟨_,rfl⟩;rw [<- hG];have HG:=qh hG;clear hG;go_enter Tryz.func34,Tryz.ntmps34;go_wp2_with fail
 go_loop [1] (fun v=>GapRel s G v) (fun v=>s.size-(intOf v).toNat)
 case atStart=>exact ⟨i,hi,rfl,HG.o.symm⟩
 case round =>
  obtain ⟨k,hk,rfl,hgk⟩:=hrel;have HK:=qh hgk;clear hgk;have hbd:=cls_bd s.data.toList k
  have hsz:cls s.data.toList k ≠ 0 -> k < s.size:=fun h => by
   rcases Nat.lt_or_ge k s.size with h' | h'
   ·exact h'
   ·exact absurd (Qep (by rw [Qn]; exact h')) h
  obtain ⟨g,hg⟩:∃ g,g=cls s.data.toList k:=⟨_,rfl⟩;rw [<- hg] at hbd hsz;have HC:=qh (fun w=>Qar hg.symm hs (show k<=9223372036854775807 by omega) w);have HCl:=qh hg;clear hg
  by_cases h4:g=4
  ·subst h4
   have hlt:=hsz (by decide);clear hsz hbd;go_wp2_with (go_at_call 70; go_fit (HC.o _); rintro e w' ⟨rfl,rfl⟩)
   go_round
   case rel=>exact ⟨k+1,hlt,by go_num,(Qcx HCl.o.symm).trans HK.o⟩
   case measure=>simp [intOf]; omega
  ·by_cases h5:g = 5
   ·subst h5
    have hlt:=hsz (by decide);clear hsz hbd h4;go_wp2_with (go_at_call 70; go_fit (HC.o _); rintro e w' ⟨rfl,rfl⟩)
    go_loop [1] (fun v=>RemRel s k G v) (fun v=>s.size-(intOf v).toNat)
    case atStart=>exact ⟨k,Nat.le_refl _,hk,rfl,(Qeb HCl.o.symm).trans HK.o⟩
    case round =>
     obtain ⟨j,hkj,hj,rfl,hrj⟩:=hrel;have HR:=qh hrj;clear hrj
     by_cases hjl:j<s.size
     ·have HB:=qh (byte_at' s j hjl)
      by_cases hten:s[j].toNat=10
      ·have h10:((s[j].toNat:Int) != 10) = false:=by simp; omega
       have HE:Hid (GapRel s G (.int .i64 j)):=qh ⟨j,hj,rfl,by rw [<- Qhe HB.o hten]; exact HR.o⟩
       have hlt':k < j:=by
        rcases Nat.lt_or_ge k j with h | h
        ·exact h
        ·exfalso
         obtain rfl:k=j:=by omega
         have h1:=HCl.o;rw [Jy HB.o,clsB_10 hten] at h1;exact absurd h1 (by decide)
       have HT:=qh hten;clear hten;go_wp2_with fail
       go_round
       case rel=>exact HE.o
       case measure=>simp [intOf]; omega
      ·have h10:((s[j].toNat:Int) != 10) = true:=by simp; omega
       have HE:Hid (RemRel s k G (.int .i64 ((j:Int)+1))):=qh ⟨j+1,by omega,hjl,by simp,by rw [QhC HB.o hten]; exact HR.o⟩;clear hten;go_wp2_with fail
       go_round
       case rel=>exact HE.o
       case measure=>simp [intOf]; omega
     ·have HE:Hid (GapRel s G (.int .i64 j)):=qh ⟨j,hj,rfl,by rw [<- rem_end (by rw [Qn]; omega)]; exact HR.o⟩
      go_wp2_with fail
      go_round
      case rel=>exact HE.o
      case measure=>simp [intOf]; omega
   ·have e4:(g == 4) = false:=by simpa using h4
    have e5:(g==5)=false:=by simpa using h5
    have HE:Hid (G=k):=qh (by rw [<- HK.o]; exact Qh8 (by rw [<- HCl.o]; exact h4) (by rw [<- HCl.o]; exact h5));clear h4 h5 hsz;go_wp2_with (go_at_call 70; go_fit (HC.o _); rintro e w' ⟨rfl,rfl⟩);go_ret;exact ⟨Qo (by rw [HE.o]),rfl⟩
def PosRel (W:World) (l:List UInt8) (n:Nat) (v:Value) (wr:World):Prop:=∃ k:Nat,k <= n /\ v = .int .i64 k /\ wr.heap[W.heap.size]? = some (.cells #[.int .i64 0,.int .i64 0] 24 (0,0)) /\
 wr.heap[W.heap.size+1]?=some (.cells #[.int .i64 (pos l k).1,.int .i64 (pos l k).2] 24 (0,0))/\Below W.heap.size W wr
theorem pos_line {W wr:World} {s:ByteArray} {k n:Nat} {p1:Int} {x:Value} (hk:k < n) (hlt:k < s.size) (hten:s[k].toNat = 10)
 (hr:wr.heap[W.heap.size]?=some (.cells #[.int .i64 0,.int .i64 0] 24 (0,0))) (hb:wr.heap[W.heap.size+1]?=some (.cells #[.int .i64 p1,x] 24 (0,0))) (hp1:p1=(pos s.data.toList k).1) (hbw:Below W.heap.size W wr) :
 PosRel W s.data.toList n (.int .i64 ((k:Int)+1)) (((wr.setCell ⟨W.heap.size+1,0,none⟩ (.int .i64 (p1+1))).setCell ⟨W.heap.size+1,1,none⟩ (.int .i64 0)).setCell ⟨W.heap.size+1,1,none⟩ (.int .i64 1)):=by
 refine ⟨k+1,hk,by simp,?_,?_,((hbw.setCell (by simp) _).setCell (by simp) _).setCell (by simp) _⟩
 ·rw [Below.heap_setCell _ _ _ _ (by simp),Below.heap_setCell _ _ _ _ (by simp),Below.heap_setCell _ _ _ _ (by simp),hr]
 ·rw [Qd (Qd (Qd hb _ _) _ _),Qan (byte_at' s k hlt),if_pos hten,hp1]; rfl
theorem pos_col {W wr:World} {s:ByteArray} {k n:Nat} {p1 p2:Int} (hk:k < n) (hlt:k < s.size) (hten:¬ s[k].toNat = 10)
 (hr:wr.heap[W.heap.size]?=some (.cells #[.int .i64 0,.int .i64 0] 24 (0,0))) (hb:wr.heap[W.heap.size+1]?=some (.cells #[.int .i64 p1,.int .i64 p2] 24 (0,0))) (hp1:p1=(pos s.data.toList k).1) (hp2:p2=(pos s.data.toList k).2)
 (hbw:Below W.heap.size W wr):PosRel W s.data.toList n (.int .i64 ((k:Int)+1)) (wr.setCell ⟨W.heap.size+1,1,none⟩ (.int .i64 (p2+1))):=by
 refine ⟨k+1,hk,by simp,?_,?_,hbw.setCell (by simp) _⟩
 ·rw [Below.heap_setCell _ _ _ _ (by simp),hr]
 ·rw [Qd hb _ _,Qan (byte_at' s k hlt),if_neg hten,hp1,hp2]; rfl
theorem Qiy (s:ByteArray) (i:Nat) (w:World) (hs:s.size <= 9223372036854775806) (hi:i <= s.size) :
 Calls Tryz.prog 36 #[.string s,.int .i64 i] w fun e w'=>e = .returned (.agg #[.int .i64 (pos s.data.toList i).1,.int .i64 (pos s.data.toList i).2])/\Below w.heap.size w w':=by
 go_enter Tryz.func36,Tryz.ntmps36;go_wp2_with fail
 go_loopw [6] (fun v wr=>PosRel w s.data.toList i v wr) (fun v _=>i-(intOf v).toNat)
 case atStart=>exact ⟨0,Nat.zero_le _,rfl,(heap_alloc_old _ _ (by simp)).trans (heap_alloc_new _ _),by rw [<- World.size_alloc w (.cells #[.int .i64 0,.int .i64 0] 24)]; exact heap_alloc_new _ _,((Below.refl _ _).alloc (Nat.le_refl _) _).alloc (by simp) _⟩
 case round =>
  obtain ⟨k,hk,rfl,hr,hb,hbw⟩:=hrel;obtain ⟨b1,b2,b3,b4⟩:=pos_bd s.data.toList k;have c0:=Qb hb (i:=0) rfl;have c1:=Qb hb (i:=1) rfl;have f0:=Qf hb 0;have f1:=Qf hb 1;have hsz:=(Array.getElem?_eq_some_iff.1 hb).1
  by_cases hlt:k<i
  ·have hlt2:k < s.size:=by omega
   have HN:=qh (Qan (byte_at' s k hlt2));obtain ⟨p1,hp1⟩:∃ p1,p1=(pos s.data.toList k).1:=⟨_,rfl⟩;obtain ⟨p2,hp2⟩:∃ p2,p2=(pos s.data.toList k).2:=⟨_,rfl⟩;rw [<- hp1] at b1 b2 hb c0;rw [<- hp2] at b3 b4 hb c1;have HP1:=qh hp1;have HP2:=qh hp2;have HB:=qh hb;have HR:=qh hr;have HW:=qh hbw;clear hp1 hp2 hb hr hbw
   by_cases hten:s[k].toNat=10
   ·have h10:((s[k].toNat:Int) == 10) = true:=by simp; omega
    have HT:=qh hten;clear hten;go_wp2_with fail
    go_roundw
    case rel=>exact pos_line hlt hlt2 HT.o HR.o HB.o HP1.o HW.o
    case measure=>simp [intOf]; omega
   ·have h10:((s[k].toNat:Int) == 10) = false:=by simp; omega
    have HT:=qh hten;clear hten;go_wp2_with fail
    go_roundw
    case rel=>exact pos_col hlt hlt2 HT.o HR.o HB.o HP1.o HP2.o HW.o
    case measure=>simp [intOf]; omega
  ·obtain rfl:k = i:=by omega
   have g0:=Qb hr (i:=0) rfl;have g1:=Qb hr (i:=1) rfl;have k0:=Qf hr 0;have k1:=Qf hr 1;have hs2:=(Array.getElem?_eq_some_iff.1 hr).1;have HR:=qh hr;clear hb hr;go_wp2_with fail;have q0:∀ u,(wr.setCell ⟨w.heap.size,0,none⟩ u).cell? ⟨w.heap.size,0,none⟩=some u:=fun u=>Qb (Qd HR.o 0 u) (i:=0) rfl
   have q1:∀ u v,((wr.setCell ⟨w.heap.size,0,none⟩ u).setCell ⟨w.heap.size,1,none⟩ v).cell? ⟨w.heap.size,1,none⟩=some v:=fun u v=>Qb (Qd (Qd HR.o 0 u) 1 v) (i:=1) rfl
   refine bodyPost_ret (v:=.agg #[.int .i64 (pos s.data.toList k).1,.int .i64 (pos s.data.toList k).2]) (by simp [results,Tryz.results36,go_sem,q0,q1]) rfl ⟨rfl,?_⟩;exact (hbw.setCell (by simp) _).setCell (by simp) _
end
end Go.Proofs.YtbdalbpackfejaaGreatDoor
