/- ExprTextW, ExprPutW, ActText, joined. -/
import Derived.Test.YtbdalbpackfejaaGreatDoorMFormatOf16
set_option maxHeartbeats 16000000
set_option maxRecDepth 100000
namespace Go.Proofs.YtbdalbpackfejaaGreatDoor
section
open Go.RowKit CurSpec TermSpec ExprSpec
set_option maxRecDepth 100000
theorem Qay {A:Option Addr} {n c:Nat} {l:List Tm} {a:Nat} {e:Ex} {rest:List Tm} {W:World} (h:TxAt W A n c l) (hd:l.drop a = flat e ++ rest) (hg:ExprSpec.Good e) :
 ∃ b off t,A = some ⟨b,off,none⟩ /\ b < W.heap.size /\ l[a]? = some t /\ t.op = opE e /\ a < n /\ n <= 1000 /\ (∃ r,flat e = t :: r) /\
   W.cell? ⟨b,off+a*3,none⟩=some (.int .i64 t.op)/\W.cell? ⟨b,off+a*3+1,none⟩=some (.int .i64 t.n)/\W.cell? ⟨b,off+a*3+2,none⟩=some (.string t.s) /\
   (∀ w',Below W.heap.size W w'->Calls Tryz.prog 187 #[.slice A n c,.int .i64 a] w' (RetInts w' (belows l a (arN (opE e))))):=by
 obtain ⟨t,r,hf,hop⟩:=QaE e
 have hla:l[a]? = some t:=by
  have:(l.drop a)[0]?=some t:=by rw [hd,hf]; rfl
  rwa [List.getElem?_drop] at this
 obtain ⟨b,off,rfl,hb,c0,c1,c2⟩:=h.tms.at_ hla;have hal:=Ja hla
 have he:0 <= endA l a:=by
  have hc:cnt 1 (l.drop a)=some (flat e).length:=by rw [hd]; exact JF rest (JY hg).1
  rw [Zb hc]; omega
 refine ⟨b,off,t,rfl,hb,hla,hop,by rw [h.len]; exact hal,h.few,⟨r,hf⟩,c0,c1,c2,fun w' hw=>?_⟩;rw [<- hop];exact Qfy (some ⟨b,off,none⟩) n c l a w' (h.tms.keep hw) h.len (by have:=h.few; omega) t hla he
theorem tx_bin {o:Int} (h7:¬ (o = 7 \/ o = 8)) (x y:Ex):tx (.bin o x y) = (((bk (lev x < (sgOf o).left) (tx x) ++ ⟨#[32]⟩) ++ (sgOf o).t) ++ ⟨#[32]⟩) ++ bk (lev y < (sgOf o).right) (tx y):=by
 have e:tx (.bin o x y)=if o=7 then (((⟨#[109,105,110,40]⟩++tx x)++⟨#[44,32]⟩)++tx y)++⟨#[41]⟩ else if o=8 then (((⟨#[109,97,120,40]⟩++tx x)++⟨#[44,32]⟩)++tx y)++⟨#[41]⟩ else (((bk (lev x<(sgOf o).left) (tx x)++⟨#[32]⟩)++(sgOf o).t)++⟨#[32]⟩)++bk (lev y<(sgOf o).right) (tx y):=rfl
 rw [e,if_neg (fun e=>h7 (.inl e)),if_neg (fun e=>h7 (.inr e))]
structure TxMid (W w:World) (k:Nat) (o n:Int) (s:ByteArray) (v:Value) (xs:List Int):Prop where
 below:Below W.heap.size W w
 blk:w.heap[k]?=some (.cells #[.int .i64 o,.int .i64 n,.string s] 123 (0,0))
 row:Rd w v (intV xs)
theorem tx_a {W w:World} {o n:Int} {s:ByteArray} {v:Value} {xs:List Int} (hb:Below W.heap.size W w) (hr:Rd w v (intV xs)) :
 TxMid W (w.alloc (.cells #[.int .i64 o,.int .i64 n,.string s] 123)) w.heap.size o n s v xs :=
 ⟨hb.alloc hb.size _,heap_alloc_new w _,hr.keep ((Below.refl _ _).alloc (Nat.le_refl _) _)⟩
theorem zero_cell {w:World} {k off:Nat} {x:Int} {T:TypeId} (h:w.heap[k]? = some (.cells #[.int .i64 0,.int .i64 0,.string ⟨#[]⟩] T (0,0))) (hc:w.cell? ⟨k,off,none⟩ = some (.int .i64 x)):x = 0:=by
 obtain ⟨c0,c1,c2⟩:=Qj h
 match off with
 | 0 => rw [c0] at hc; simpa using hc.symm
 | 1 => rw [c1] at hc; simpa using hc.symm
 | 2 => rw [c2] at hc; cases hc
 | j + 3 =>
   simp [World.cell?,h] at hc
theorem tx_b {W w:World} {k:Nat} {o n:Int} {s:ByteArray} {v:Value} {xs:List Int} (hb:Below W.heap.size W w) (hk:W.heap.size <= k) (h:w.heap[k]? = some (.cells #[.int .i64 0,.int .i64 0,.string ⟨#[]⟩] 123 (0,0))) (hp:∀ x ∈ xs,x ≠ 0) (hr:Rd w v (intV xs)) :
 TxMid W (((w.setCell ⟨k,0,none⟩ (.int .i64 o)).setCell ⟨k,1,none⟩ (.int .i64 n)).setCell ⟨k,2,none⟩ (.string s)) k o n s v xs:=by
 refine ⟨((hb.setCell hk _).setCell hk _).setCell hk _,Qd (Qd (Qd h 0 _) 1 _) 2 _,?_⟩;have hg:w.grownBy (((w.setCell ⟨k,0,none⟩ (.int .i64 o)).setCell ⟨k,1,none⟩ (.int .i64 n)).setCell ⟨k,2,none⟩ (.string s)) (some k):=Ql (Ql (Ql (Qx w (some k)) 0 _) 1 _) 2 _;generalize (((w.setCell ⟨k,0,none⟩ (.int .i64 o)).setCell ⟨k,1,none⟩ (.int .i64 n)).setCell ⟨k,2,none⟩ (.string s))=w2 at hg;obtain ⟨A,n,c,rfl,hn,hc,hA⟩:=hr;refine ⟨A,n,c,rfl,hn,hc,fun h0=>?_⟩;obtain ⟨b,off,rfl,hlt,hcell⟩:=hA h0
 have hne:b ≠ k:=by
  rintro rfl
  match xs,hn,hp,hcell with
  | [],hn,_,_ => rw [hn] at h0; simp [intV] at h0
  | x :: r,_,hp,hcell => exact hp x (by simp) (zero_cell h (hcell 0 _ rfl))
 refine ⟨b,off,rfl,Nat.lt_of_lt_of_le hlt hg.size,fun j u hj=>?_⟩;rw [<- hcell j u hj];have:=hg.block b hlt (fun e=>hne (by cases e; rfl));simp [World.cell?,this]
theorem Qa9 (l:List Tm) (a:Nat):belows l a 1 = [((a + 1:Nat):Int)]:=by
 rw [show (1:Nat)=0+1 from rfl,ZX,Qbh,Jq]
 rfl
theorem Qaa {l:List Tm} {a m:Nat} (h:cnt 1 (l.drop (a + 1)) = some m):belows l a 2 = [((a + 1:Nat):Int),((a + 1 + m:Nat):Int)]:=by
 rw [show (2:Nat)=1+1 from rfl,ZX,Qa9,h]
 rfl
theorem JH {l r:List Tm} {a:Nat} {t:Tm} (h:l.drop a = t :: r):l.drop (a + 1) = r:=by
 rw [<- List.drop_drop,h]; rfl
theorem Qfj {w:World} {v:Value} {x:Int} (h:Rd w v (intV [x])):∃ b off c,v = .slice (some ⟨b,off,none⟩) 1 c /\ b < w.heap.size /\ w.cell? ⟨b,off,none⟩ = some (.int .i64 x):=by
 obtain ⟨A,n,c,rfl,hn,hc,hA⟩:=h.ints;obtain rfl:1=n:=hn;obtain ⟨b,off,rfl,hb,hcell⟩:=hA (by decide);exact ⟨b,off,c,rfl,hb,hcell 0 x rfl⟩
theorem QaV {w:World} {v:Value} {x y:Int} (h:Rd w v (intV [x,y])):∃ b off c,v = .slice (some ⟨b,off,none⟩) 2 c /\ b < w.heap.size /\ w.cell? ⟨b,off,none⟩ = some (.int .i64 x) /\ w.cell? ⟨b,off + 1,none⟩ = some (.int .i64 y):=by
 obtain ⟨A,n,c,rfl,hn,hc,hA⟩:=h.ints;obtain rfl:2=n:=hn;obtain ⟨b,off,rfl,hb,hcell⟩:=hA (by decide);exact ⟨b,off,c,rfl,hb,hcell 0 x rfl,hcell 1 y rfl⟩
theorem text_leaf {t:Tm} (hg:ExprSpec.Good (.leaf t)):TextOk (.leaf t):=by
 intro A n c l a rest w h hd;obtain ⟨b,off,t',rfl,hb,hla,hop,hal,hfew,⟨r,hr⟩,c0,c1,c2,hbl⟩:=Qay h hd hg;obtain rfl:t=t':=by injection hr
 have hal':(a:Int)<n:=by omega
 have ha0:(0:Int)<=(a:Int):=by omega
 have HB:=qh hbl;have h1:=Qa3 hg.1;have HE:Hid (arN (opE (.leaf t))=0):=qh (by rw [<- hop]; unfold arN; rw [hg.1]; rfl);rw [HE.o,Qbh] at HB;have HP:Hid (∀ x∈([]:List Int),x≠0):=qh (by simp);have hm:=hg.2;clear h hd hop hla hr hbl HE hg
 by_cases h1:t.op=1
 ·have hb1:=(Qdw h1 hm).1
  have HPT:=qh (fun w=>Qdx t.n w (by omega) (by omega));have HT:Hid (tx (.leaf t)=⟨(ValSpec.text t.n).toArray⟩):=qh (by unfold tx; rw [if_pos h1]; rfl);rw [h1] at c0;obtain ⟨nn,hnn⟩:∃ nn,nn=t.n:=⟨_,rfl⟩;obtain ⟨ss,hss⟩:∃ ss,ss=t.s:=⟨_,rfl⟩;rw [<- hnn] at c1;rw [<- hss] at c2;rw [<- hnn] at HT HPT;clear h1 hm hnn hss
  try clear hb1
  go_enter Tryz.func177,Tryz.ntmps177;go_wp2_with fail
  go_region_held3 (fun w' => w'.cell? ⟨b,off + a * 3,none⟩ = some (.int .i64 1) /\ w'.cell? ⟨b,off + a * 3 + 1,none⟩ = some (.int .i64 nn) /\ w'.cell? ⟨b,off + a * 3 + 2,none⟩ = some (.string ss)) (go_keep)
   ((first
     | (go_at_call 187; refine (HB.o _ ((Below.refl _ _).drew)).mono ?_; rintro e w1 ⟨v,rfl,hr1,hb1⟩; have hx:Below w.heap.size w w1:=undrew hb1; have d0:=(hx.cell (p:=⟨b,off + a * 3,none⟩) hb).trans c0; have d1:=(hx.cell (p:=⟨b,off + a * 3 + 1,none⟩) hb).trans c1; have d2:=(hx.cell (p:=⟨b,off + a * 3 + 2,none⟩) hb).trans c2; have hn1:¬ b = w1.heap.size:=(by have:=hx.size; omega); have hn2:¬ w1.heap.size = b:=(by omega); have HM:=qh (fun o n s => tx_a (o:=o) (n:=n) (s:=s) hx hr1); clear hb1 hx hr1)
     | (go_at_call 187; refine (HB.o _ (((Below.refl _ _).drew).alloc (Nat.le_refl _) _)).mono ?_; rintro e w1 ⟨v,rfl,hr1,hb1⟩; have hx:Below w.heap.size w w1:=(((Below.refl _ _).drew).alloc (Nat.le_refl _) _).trans (hb1.mono (by simp)); have d0:=(hx.cell (p:=⟨b,off + a * 3,none⟩) hb).trans c0; have d1:=(hx.cell (p:=⟨b,off + a * 3 + 1,none⟩) hb).trans c1; have d2:=(hx.cell (p:=⟨b,off + a * 3 + 2,none⟩) hb).trans c2; have hn1:¬ b = w.heap.size:=(by omega); have hn2:¬ w.heap.size = b:=(by omega); have kk:=(hb1.block w.heap.size (by simp)).trans (heap_alloc_new w.drew _); obtain ⟨p0,p1,p2⟩:=Qj kk; obtain ⟨f0,f1,f2⟩:=JW kk; have HM:=qh (fun o n s => tx_b (o:=o) (n:=n) (s:=s) hx (Nat.le_refl _) kk HP.o hr1); clear hb1 hx hr1 kk)))
  all_goals
   have hM:=HM.o 1 nn ss;clear HM c0 c1 c2
   try clear d0 d1 d2
   try clear p0 p1 p2 f0 f1 f2
   try clear hn1 hn2
   obtain ⟨j,hj⟩:∃ j,j=w1.heap.size:=⟨_,rfl⟩
   first | rw [<- hj] at hM ⊢ | skip
   obtain ⟨y0,y1,y2⟩:=Qj hM.blk;go_wp2_with (go_at_call 52; go_fit (HPT.o _));rintro e w2 ⟨rfl,hb2⟩;have HZ:=qh (Qa hM.below hb2);clear hb2 hM y0 y1 y2;go_wp2_with fail;go_ret;exact ⟨by rw [HT.o]; rfl,HZ.o⟩
 by_cases h2:t.op=2
 ·have HT:Hid (tx (.leaf t) = t.s):=qh (by unfold tx; rw [if_neg (by omega)]; rw [if_pos h2])
  rw [h2] at c0;obtain ⟨nn,hnn⟩:∃ nn,nn=t.n:=⟨_,rfl⟩;obtain ⟨ss,hss⟩:∃ ss,ss=t.s:=⟨_,rfl⟩;rw [<- hnn] at c1;rw [<- hss] at c2;rw [<- hss] at HT;clear h1 hm hnn hss
  try clear hb1
  clear h2;go_enter Tryz.func177,Tryz.ntmps177;go_wp2_with fail
  go_region_held3 (fun w' => w'.cell? ⟨b,off + a * 3,none⟩ = some (.int .i64 2) /\ w'.cell? ⟨b,off + a * 3 + 1,none⟩ = some (.int .i64 nn) /\ w'.cell? ⟨b,off + a * 3 + 2,none⟩ = some (.string ss)) (go_keep)
   ((first
     | (go_at_call 187; refine (HB.o _ ((Below.refl _ _).drew)).mono ?_; rintro e w1 ⟨v,rfl,hr1,hb1⟩; have hx:Below w.heap.size w w1:=undrew hb1; have d0:=(hx.cell (p:=⟨b,off + a * 3,none⟩) hb).trans c0; have d1:=(hx.cell (p:=⟨b,off + a * 3 + 1,none⟩) hb).trans c1; have d2:=(hx.cell (p:=⟨b,off + a * 3 + 2,none⟩) hb).trans c2; have hn1:¬ b = w1.heap.size:=(by have:=hx.size; omega); have hn2:¬ w1.heap.size = b:=(by omega); have HM:=qh (fun o n s => tx_a (o:=o) (n:=n) (s:=s) hx hr1); clear hb1 hx hr1)
     | (go_at_call 187; refine (HB.o _ (((Below.refl _ _).drew).alloc (Nat.le_refl _) _)).mono ?_; rintro e w1 ⟨v,rfl,hr1,hb1⟩; have hx:Below w.heap.size w w1:=(((Below.refl _ _).drew).alloc (Nat.le_refl _) _).trans (hb1.mono (by simp)); have d0:=(hx.cell (p:=⟨b,off + a * 3,none⟩) hb).trans c0; have d1:=(hx.cell (p:=⟨b,off + a * 3 + 1,none⟩) hb).trans c1; have d2:=(hx.cell (p:=⟨b,off + a * 3 + 2,none⟩) hb).trans c2; have hn1:¬ b = w.heap.size:=(by omega); have hn2:¬ w.heap.size = b:=(by omega); have kk:=(hb1.block w.heap.size (by simp)).trans (heap_alloc_new w.drew _); obtain ⟨p0,p1,p2⟩:=Qj kk; obtain ⟨f0,f1,f2⟩:=JW kk; have HM:=qh (fun o n s => tx_b (o:=o) (n:=n) (s:=s) hx (Nat.le_refl _) kk HP.o hr1); clear hb1 hx hr1 kk)))
  all_goals
   have hM:=HM.o 2 nn ss;clear HM c0 c1 c2
   try clear d0 d1 d2
   try clear p0 p1 p2 f0 f1 f2
   try clear hn1 hn2
   obtain ⟨j,hj⟩:∃ j,j=w1.heap.size:=⟨_,rfl⟩
   first | rw [<- hj] at hM ⊢ | skip
   obtain ⟨y0,y1,y2⟩:=Qj hM.blk;have HZ:=qh hM.below;clear hM;go_wp2_with fail;go_ret;exact ⟨by rw [HT.o]; rfl,HZ.o⟩
 by_cases h9:t.op=9
 ·have HT:Hid (tx (.leaf t) = ⟨#[116,114,117,101]⟩):=qh (by unfold tx; rw [if_neg (by omega)]; rw [if_neg (by omega)]; rw [if_pos h9])
  rw [h9] at c0;obtain ⟨nn,hnn⟩:∃ nn,nn=t.n:=⟨_,rfl⟩;obtain ⟨ss,hss⟩:∃ ss,ss=t.s:=⟨_,rfl⟩;rw [<- hnn] at c1;rw [<- hss] at c2;clear h1 hm hnn hss
  try clear hb1
  clear h2;clear h9;go_enter Tryz.func177,Tryz.ntmps177;go_wp2_with fail
  go_region_held3 (fun w' => w'.cell? ⟨b,off + a * 3,none⟩ = some (.int .i64 9) /\ w'.cell? ⟨b,off + a * 3 + 1,none⟩ = some (.int .i64 nn) /\ w'.cell? ⟨b,off + a * 3 + 2,none⟩ = some (.string ss)) (go_keep)
   ((first
     | (go_at_call 187; refine (HB.o _ ((Below.refl _ _).drew)).mono ?_; rintro e w1 ⟨v,rfl,hr1,hb1⟩; have hx:Below w.heap.size w w1:=undrew hb1; have d0:=(hx.cell (p:=⟨b,off + a * 3,none⟩) hb).trans c0; have d1:=(hx.cell (p:=⟨b,off + a * 3 + 1,none⟩) hb).trans c1; have d2:=(hx.cell (p:=⟨b,off + a * 3 + 2,none⟩) hb).trans c2; have hn1:¬ b = w1.heap.size:=(by have:=hx.size; omega); have hn2:¬ w1.heap.size = b:=(by omega); have HM:=qh (fun o n s => tx_a (o:=o) (n:=n) (s:=s) hx hr1); clear hb1 hx hr1)
     | (go_at_call 187; refine (HB.o _ (((Below.refl _ _).drew).alloc (Nat.le_refl _) _)).mono ?_; rintro e w1 ⟨v,rfl,hr1,hb1⟩; have hx:Below w.heap.size w w1:=(((Below.refl _ _).drew).alloc (Nat.le_refl _) _).trans (hb1.mono (by simp)); have d0:=(hx.cell (p:=⟨b,off + a * 3,none⟩) hb).trans c0; have d1:=(hx.cell (p:=⟨b,off + a * 3 + 1,none⟩) hb).trans c1; have d2:=(hx.cell (p:=⟨b,off + a * 3 + 2,none⟩) hb).trans c2; have hn1:¬ b = w.heap.size:=(by omega); have hn2:¬ w.heap.size = b:=(by omega); have kk:=(hb1.block w.heap.size (by simp)).trans (heap_alloc_new w.drew _); obtain ⟨p0,p1,p2⟩:=Qj kk; obtain ⟨f0,f1,f2⟩:=JW kk; have HM:=qh (fun o n s => tx_b (o:=o) (n:=n) (s:=s) hx (Nat.le_refl _) kk HP.o hr1); clear hb1 hx hr1 kk)))
  all_goals
   have hM:=HM.o 9 nn ss;clear HM c0 c1 c2
   try clear d0 d1 d2
   try clear p0 p1 p2 f0 f1 f2
   try clear hn1 hn2
   obtain ⟨j,hj⟩:∃ j,j=w1.heap.size:=⟨_,rfl⟩
   first | rw [<- hj] at hM ⊢ | skip
   obtain ⟨y0,y1,y2⟩:=Qj hM.blk;have HZ:=qh hM.below;clear hM;go_wp2_with fail;go_ret;exact ⟨by rw [HT.o]; rfl,HZ.o⟩
 by_cases h10:t.op=10
 ·have HT:Hid (tx (.leaf t) = ⟨#[102,97,108,115,101]⟩):=qh (by unfold tx; rw [if_neg (by omega)]; rw [if_neg (by omega)]; rw [if_neg (by omega)]; rw [if_pos h10])
  rw [h10] at c0;obtain ⟨nn,hnn⟩:∃ nn,nn=t.n:=⟨_,rfl⟩;obtain ⟨ss,hss⟩:∃ ss,ss=t.s:=⟨_,rfl⟩;rw [<- hnn] at c1;rw [<- hss] at c2;clear h1 hm hnn hss
  try clear hb1
  clear h2;clear h9;clear h10;go_enter Tryz.func177,Tryz.ntmps177;go_wp2_with fail
  go_region_held3 (fun w' => w'.cell? ⟨b,off + a * 3,none⟩ = some (.int .i64 10) /\ w'.cell? ⟨b,off + a * 3 + 1,none⟩ = some (.int .i64 nn) /\ w'.cell? ⟨b,off + a * 3 + 2,none⟩ = some (.string ss)) (go_keep)
   ((first
     | (go_at_call 187; refine (HB.o _ ((Below.refl _ _).drew)).mono ?_; rintro e w1 ⟨v,rfl,hr1,hb1⟩; have hx:Below w.heap.size w w1:=undrew hb1; have d0:=(hx.cell (p:=⟨b,off + a * 3,none⟩) hb).trans c0; have d1:=(hx.cell (p:=⟨b,off + a * 3 + 1,none⟩) hb).trans c1; have d2:=(hx.cell (p:=⟨b,off + a * 3 + 2,none⟩) hb).trans c2; have hn1:¬ b = w1.heap.size:=(by have:=hx.size; omega); have hn2:¬ w1.heap.size = b:=(by omega); have HM:=qh (fun o n s => tx_a (o:=o) (n:=n) (s:=s) hx hr1); clear hb1 hx hr1)
     | (go_at_call 187; refine (HB.o _ (((Below.refl _ _).drew).alloc (Nat.le_refl _) _)).mono ?_; rintro e w1 ⟨v,rfl,hr1,hb1⟩; have hx:Below w.heap.size w w1:=(((Below.refl _ _).drew).alloc (Nat.le_refl _) _).trans (hb1.mono (by simp)); have d0:=(hx.cell (p:=⟨b,off + a * 3,none⟩) hb).trans c0; have d1:=(hx.cell (p:=⟨b,off + a * 3 + 1,none⟩) hb).trans c1; have d2:=(hx.cell (p:=⟨b,off + a * 3 + 2,none⟩) hb).trans c2; have hn1:¬ b = w.heap.size:=(by omega); have hn2:¬ w.heap.size = b:=(by omega); have kk:=(hb1.block w.heap.size (by simp)).trans (heap_alloc_new w.drew _); obtain ⟨p0,p1,p2⟩:=Qj kk; obtain ⟨f0,f1,f2⟩:=JW kk; have HM:=qh (fun o n s => tx_b (o:=o) (n:=n) (s:=s) hx (Nat.le_refl _) kk HP.o hr1); clear hb1 hx hr1 kk)))
  all_goals
   have hM:=HM.o 10 nn ss;clear HM c0 c1 c2
   try clear d0 d1 d2
   try clear p0 p1 p2 f0 f1 f2
   try clear hn1 hn2
   obtain ⟨j,hj⟩:∃ j,j=w1.heap.size:=⟨_,rfl⟩
   first | rw [<- hj] at hM ⊢ | skip
   obtain ⟨y0,y1,y2⟩:=Qj hM.blk;have HZ:=qh hM.below;clear hM;go_wp2_with fail;go_ret;exact ⟨by rw [HT.o]; rfl,HZ.o⟩
 ·have h11:t.op = 11:=by omega
  have hz:=QG (ExprSpec.JS (.inr h11) hm).1;have HT:Hid (tx (.leaf t)=(⟨#[105,110,40]⟩++t.s)++⟨#[41]⟩):=qh (by unfold tx; rw [if_neg (by omega),if_neg (by omega),if_neg (by omega),if_neg (by omega)]);rw [h11] at c0;obtain ⟨nn,hnn⟩:∃ nn,nn=t.n:=⟨_,rfl⟩;obtain ⟨ss,hss⟩:∃ ss,ss=t.s:=⟨_,rfl⟩;rw [<- hnn] at c1;rw [<- hss] at c2;rw [<- hss] at HT;rw [<- hss] at hz;clear h1 hm hnn hss
  try clear hb1
  clear h2;clear h9;clear h10;clear h11;go_enter Tryz.func177,Tryz.ntmps177;go_wp2_with fail
  go_region_held3 (fun w' => w'.cell? ⟨b,off + a * 3,none⟩ = some (.int .i64 11) /\ w'.cell? ⟨b,off + a * 3 + 1,none⟩ = some (.int .i64 nn) /\ w'.cell? ⟨b,off + a * 3 + 2,none⟩ = some (.string ss)) (go_keep)
   ((first
     | (go_at_call 187; refine (HB.o _ ((Below.refl _ _).drew)).mono ?_; rintro e w1 ⟨v,rfl,hr1,hb1⟩; have hx:Below w.heap.size w w1:=undrew hb1; have d0:=(hx.cell (p:=⟨b,off + a * 3,none⟩) hb).trans c0; have d1:=(hx.cell (p:=⟨b,off + a * 3 + 1,none⟩) hb).trans c1; have d2:=(hx.cell (p:=⟨b,off + a * 3 + 2,none⟩) hb).trans c2; have hn1:¬ b = w1.heap.size:=(by have:=hx.size; omega); have hn2:¬ w1.heap.size = b:=(by omega); have HM:=qh (fun o n s => tx_a (o:=o) (n:=n) (s:=s) hx hr1); clear hb1 hx hr1)
     | (go_at_call 187; refine (HB.o _ (((Below.refl _ _).drew).alloc (Nat.le_refl _) _)).mono ?_; rintro e w1 ⟨v,rfl,hr1,hb1⟩; have hx:Below w.heap.size w w1:=(((Below.refl _ _).drew).alloc (Nat.le_refl _) _).trans (hb1.mono (by simp)); have d0:=(hx.cell (p:=⟨b,off + a * 3,none⟩) hb).trans c0; have d1:=(hx.cell (p:=⟨b,off + a * 3 + 1,none⟩) hb).trans c1; have d2:=(hx.cell (p:=⟨b,off + a * 3 + 2,none⟩) hb).trans c2; have hn1:¬ b = w.heap.size:=(by omega); have hn2:¬ w.heap.size = b:=(by omega); have kk:=(hb1.block w.heap.size (by simp)).trans (heap_alloc_new w.drew _); obtain ⟨p0,p1,p2⟩:=Qj kk; obtain ⟨f0,f1,f2⟩:=JW kk; have HM:=qh (fun o n s => tx_b (o:=o) (n:=n) (s:=s) hx (Nat.le_refl _) kk HP.o hr1); clear hb1 hx hr1 kk)))
  all_goals
   have hM:=HM.o 11 nn ss;clear HM c0 c1 c2
   try clear d0 d1 d2
   try clear p0 p1 p2 f0 f1 f2
   try clear hn1 hn2
   obtain ⟨j,hj⟩:∃ j,j=w1.heap.size:=⟨_,rfl⟩
   first | rw [<- hj] at hM ⊢ | skip
   obtain ⟨y0,y1,y2⟩:=Qj hM.blk;have HZ:=qh hM.below;clear hM;go_wp2_with fail;go_ret;exact ⟨by rw [HT.o]; rfl,HZ.o⟩
theorem text_neg {x:Ex} (hg:ExprSpec.Good (.un 3 x)) (ih:WithinOk x):TextOk (.un 3 x):=by
 intro A n c l a rest w h hd
 have hsz:(bk (lev x < 7) (tx x)).size <= 60000:=by
  have h1:=QO hg.2;have h2:=congrArg List.length hd;have h3:=h.few;have h4:=h.len;have h5:=Jn (lev x<7) (tx x);rw [show flat (.un 3 x)=opT 3::flat x from rfl,List.length_drop,List.length_append,List.length_cons] at h2;omega
 obtain ⟨b,off,t',rfl,hb,hla,hop,hal,hfew,⟨r,hr⟩,c0,c1,c2,hbl⟩:=Qay h hd hg;rw [show opE (.un 3 x)=3 from rfl] at hop;have hal':(a:Int)<n:=by omega
 have ha0:(0:Int)<=(a:Int):=by omega
 have hd1:l.drop (a+1)=flat x++rest:=JH (t:=opT 3) hd
 have hbl':∀ w',Below w.heap.size w w' -> Calls Tryz.prog 187 #[.slice (some ⟨b,off,none⟩) n c,.int .i64 a] w' (RetInts w' [((a + 1:Nat):Int)]):=by
  intro w' hw;have:=hbl w' hw
  rwa [show arN (opE (.un 3 x))=1 from rfl,Qa9] at this
 have HB:=qh hbl';have HI:=qh (fun W hW=>ih (some ⟨b,off,none⟩) n c l (a+1) rest 7 W (h.on hW) hd1);have HT:Hid (tx (.un 3 x)=⟨#[45]⟩++bk (lev x<7) (tx x)):=qh rfl;have HP:Hid (∀ y∈[((a+1:Nat):Int)],y≠0):=qh (by intro y hy; rw [List.mem_singleton] at hy; omega);obtain ⟨p,hp⟩:∃ p:Nat,p=a+1:=⟨_,rfl⟩;rw [<- hp] at HB HI HP;obtain ⟨sx,hsx⟩:∃ sx,sx=bk (lev x<7) (tx x):=⟨_,rfl⟩;rw [<- hsx] at HI HT hsz;obtain ⟨nn,hnn⟩:∃ nn,nn=t'.n:=⟨_,rfl⟩;obtain ⟨ss,hss⟩:∃ ss,ss=t'.s:=⟨_,rfl⟩;rw [<- hnn] at c1;rw [<- hss] at c2;rw [hop] at c0;clear h hd hop hla hr hbl hbl' hg ih hd1 hp hsx hnn hss;go_enter Tryz.func177,Tryz.ntmps177;go_wp2_with fail
 go_region_held3 (fun w' => w'.cell? ⟨b,off + a * 3,none⟩ = some (.int .i64 3) /\ w'.cell? ⟨b,off + a * 3 + 1,none⟩ = some (.int .i64 nn) /\ w'.cell? ⟨b,off + a * 3 + 2,none⟩ = some (.string ss)) (go_keep)
  ((first
    | (go_at_call 187; refine (HB.o _ ((Below.refl _ _).drew)).mono ?_; rintro e w1 ⟨v,rfl,hr1,hb1⟩; have hx:Below w.heap.size w w1:=undrew hb1; have d0:=(hx.cell (p:=⟨b,off + a * 3,none⟩) hb).trans c0; have d1:=(hx.cell (p:=⟨b,off + a * 3 + 1,none⟩) hb).trans c1; have d2:=(hx.cell (p:=⟨b,off + a * 3 + 2,none⟩) hb).trans c2; have hn1:¬ b = w1.heap.size:=(by have:=hx.size; omega); have hn2:¬ w1.heap.size = b:=(by omega); have HM:=qh (fun o n s => tx_a (o:=o) (n:=n) (s:=s) hx hr1); clear hb1 hx hr1)
    | (go_at_call 187; refine (HB.o _ (((Below.refl _ _).drew).alloc (Nat.le_refl _) _)).mono ?_; rintro e w1 ⟨v,rfl,hr1,hb1⟩; have hx:Below w.heap.size w w1:=(((Below.refl _ _).drew).alloc (Nat.le_refl _) _).trans (hb1.mono (by simp)); have d0:=(hx.cell (p:=⟨b,off + a * 3,none⟩) hb).trans c0; have d1:=(hx.cell (p:=⟨b,off + a * 3 + 1,none⟩) hb).trans c1; have d2:=(hx.cell (p:=⟨b,off + a * 3 + 2,none⟩) hb).trans c2; have hn1:¬ b = w.heap.size:=(by omega); have hn2:¬ w.heap.size = b:=(by omega); have kk:=(hb1.block w.heap.size (by simp)).trans (heap_alloc_new w.drew _); obtain ⟨p0,p1,p2⟩:=Qj kk; obtain ⟨f0,f1,f2⟩:=JW kk; have HM:=qh (fun o n s => tx_b (o:=o) (n:=n) (s:=s) hx (Nat.le_refl _) kk HP.o hr1); clear hb1 hx hr1 kk)))
 all_goals
  have hM:=HM.o 3 nn ss;clear HM c0 c1 c2
  try clear d0 d1 d2
  try clear p0 p1 p2 f0 f1 f2
  try clear hn1 hn2
  obtain ⟨j,hj⟩:∃ j,j=w1.heap.size:=⟨_,rfl⟩
  first | rw [<- hj] at hM ⊢ | skip
  obtain ⟨y0,y1,y2⟩:=Qj hM.blk;obtain ⟨bR,oR,cR,rfl,hbR,r0⟩:=Qfj hM.row;have HZ:=qh hM.below;clear hM;go_wp2_with (go_at_call 188; go_fit (HI.o _ HZ.o));rintro e w2 ⟨rfl,hb2⟩;have HZ2:=qh (Qa HZ.o hb2);clear hb2 y0 y1 y2 r0;go_wp2_with fail;go_ret;exact ⟨by rw [HT.o]; rfl,HZ2.o⟩
theorem text_not {x:Ex} (hg:ExprSpec.Good (.un 12 x)) (ih:WithinOk x):TextOk (.un 12 x):=by
 intro A n c l a rest w h hd
 have hsz:(bk (lev x < 3) (tx x)).size <= 60000:=by
  have h1:=QO hg.2;have h2:=congrArg List.length hd;have h3:=h.few;have h4:=h.len;have h5:=Jn (lev x<3) (tx x);rw [show flat (.un 12 x)=opT 12::flat x from rfl,List.length_drop,List.length_append,List.length_cons] at h2;omega
 obtain ⟨b,off,t',rfl,hb,hla,hop,hal,hfew,⟨r,hr⟩,c0,c1,c2,hbl⟩:=Qay h hd hg;rw [show opE (.un 12 x)=12 from rfl] at hop;have hal':(a:Int)<n:=by omega
 have ha0:(0:Int)<=(a:Int):=by omega
 have hd1:l.drop (a+1)=flat x++rest:=JH (t:=opT 12) hd
 have hbl':∀ w',Below w.heap.size w w' -> Calls Tryz.prog 187 #[.slice (some ⟨b,off,none⟩) n c,.int .i64 a] w' (RetInts w' [((a + 1:Nat):Int)]):=by
  intro w' hw;have:=hbl w' hw
  rwa [show arN (opE (.un 12 x))=1 from rfl,Qa9] at this
 have HB:=qh hbl';have HI:=qh (fun W hW=>ih (some ⟨b,off,none⟩) n c l (a+1) rest 3 W (h.on hW) hd1);have HT:Hid (tx (.un 12 x)=⟨#[110,111,116,32]⟩++bk (lev x<3) (tx x)):=qh rfl;have HP:Hid (∀ y∈[((a+1:Nat):Int)],y≠0):=qh (by intro y hy; rw [List.mem_singleton] at hy; omega);obtain ⟨p,hp⟩:∃ p:Nat,p=a+1:=⟨_,rfl⟩;rw [<- hp] at HB HI HP;obtain ⟨sx,hsx⟩:∃ sx,sx=bk (lev x<3) (tx x):=⟨_,rfl⟩;rw [<- hsx] at HI HT hsz;obtain ⟨nn,hnn⟩:∃ nn,nn=t'.n:=⟨_,rfl⟩;obtain ⟨ss,hss⟩:∃ ss,ss=t'.s:=⟨_,rfl⟩;rw [<- hnn] at c1;rw [<- hss] at c2;rw [hop] at c0;clear h hd hop hla hr hbl hbl' hg ih hd1 hp hsx hnn hss;go_enter Tryz.func177,Tryz.ntmps177;go_wp2_with fail
 go_region_held3 (fun w' => w'.cell? ⟨b,off + a * 3,none⟩ = some (.int .i64 12) /\ w'.cell? ⟨b,off + a * 3 + 1,none⟩ = some (.int .i64 nn) /\ w'.cell? ⟨b,off + a * 3 + 2,none⟩ = some (.string ss)) (go_keep)
  ((first
    | (go_at_call 187; refine (HB.o _ ((Below.refl _ _).drew)).mono ?_; rintro e w1 ⟨v,rfl,hr1,hb1⟩; have hx:Below w.heap.size w w1:=undrew hb1; have d0:=(hx.cell (p:=⟨b,off + a * 3,none⟩) hb).trans c0; have d1:=(hx.cell (p:=⟨b,off + a * 3 + 1,none⟩) hb).trans c1; have d2:=(hx.cell (p:=⟨b,off + a * 3 + 2,none⟩) hb).trans c2; have hn1:¬ b = w1.heap.size:=(by have:=hx.size; omega); have hn2:¬ w1.heap.size = b:=(by omega); have HM:=qh (fun o n s => tx_a (o:=o) (n:=n) (s:=s) hx hr1); clear hb1 hx hr1)
    | (go_at_call 187; refine (HB.o _ (((Below.refl _ _).drew).alloc (Nat.le_refl _) _)).mono ?_; rintro e w1 ⟨v,rfl,hr1,hb1⟩; have hx:Below w.heap.size w w1:=(((Below.refl _ _).drew).alloc (Nat.le_refl _) _).trans (hb1.mono (by simp)); have d0:=(hx.cell (p:=⟨b,off + a * 3,none⟩) hb).trans c0; have d1:=(hx.cell (p:=⟨b,off + a * 3 + 1,none⟩) hb).trans c1; have d2:=(hx.cell (p:=⟨b,off + a * 3 + 2,none⟩) hb).trans c2; have hn1:¬ b = w.heap.size:=(by omega); have hn2:¬ w.heap.size = b:=(by omega); have kk:=(hb1.block w.heap.size (by simp)).trans (heap_alloc_new w.drew _); obtain ⟨p0,p1,p2⟩:=Qj kk; obtain ⟨f0,f1,f2⟩:=JW kk; have HM:=qh (fun o n s => tx_b (o:=o) (n:=n) (s:=s) hx (Nat.le_refl _) kk HP.o hr1); clear hb1 hx hr1 kk)))
 all_goals
  have hM:=HM.o 12 nn ss;clear HM c0 c1 c2
  try clear d0 d1 d2
  try clear p0 p1 p2 f0 f1 f2
  try clear hn1 hn2
  obtain ⟨j,hj⟩:∃ j,j=w1.heap.size:=⟨_,rfl⟩
  first | rw [<- hj] at hM ⊢ | skip
  obtain ⟨y0,y1,y2⟩:=Qj hM.blk;obtain ⟨bR,oR,cR,rfl,hbR,r0⟩:=Qfj hM.row;have HZ:=qh hM.below;clear hM;go_wp2_with (go_at_call 188; go_fit (HI.o _ HZ.o));rintro e w2 ⟨rfl,hb2⟩;have HZ2:=qh (Qa HZ.o hb2);clear hb2 y0 y1 y2 r0;go_wp2_with fail;go_ret;exact ⟨by rw [HT.o]; rfl,HZ2.o⟩
theorem text_min {x y:Ex} (hg:ExprSpec.Good (.bin 7 x y)) (ihx:TextOk x) (ihy:TextOk y):TextOk (.bin 7 x y):=by
 intro A n c l a rest w h hd
 have hsz:(tx x).size <= 60000 /\ (tx y).size <= 60000:=by
  have h1:=QO hg.2.1;have h1':=QO hg.2.2;have h2:=congrArg List.length hd;have h3:=h.few;have h4:=h.len;have h5:=Jn (lev x<(sgOf 7).left) (tx x);have h6:=Jn (lev y<(sgOf 7).right) (tx y);rw [show flat (.bin 7 x y)=opT 7::(flat x++flat y) from rfl,List.length_drop,List.length_append,List.length_cons,List.length_append] at h2;omega
 obtain ⟨hsz1,hsz2⟩:=hsz;obtain ⟨b,off,t',rfl,hb,hla,hop,hal,hfew,⟨r,hr⟩,c0,c1,c2,hbl⟩:=Qay h hd hg;rw [show opE (.bin 7 x y)=7 from rfl] at hop;have hal':(a:Int)<n:=by omega
 have ha0:(0:Int)<=(a:Int):=by omega
 have hd1:l.drop (a + 1) = flat x ++ (flat y ++ rest):=by
  rw [<- List.append_assoc]; exact JH (t:=opT 7) hd
 have hd2:l.drop (a + 1 + (flat x).length) = flat y ++ rest:=by
  rw [<- List.drop_drop,hd1,List.drop_left]
 have hbl':∀ w',Below w.heap.size w w' -> Calls Tryz.prog 187 #[.slice (some ⟨b,off,none⟩) n c,.int .i64 a] w' (RetInts w' [((a + 1:Nat):Int),((a + 1 + (flat x).length:Nat):Int)]):=by
  intro w' hw;have:=hbl w' hw
  rwa [show arN (opE (.bin 7 x y))=2 from by show (ar 7).toNat=2; rw [hg.1]; rfl,Qaa (by rw [hd1]; exact JF _ (JY hg.2.1).1)] at this
 have HB:=qh hbl';have HI:=qh (fun W hW=>ihx (some ⟨b,off,none⟩) n c l (a+1) (flat y++rest) W (h.on hW) hd1);have HJ:=qh (fun W hW=>ihy (some ⟨b,off,none⟩) n c l (a+1+(flat x).length) rest W (h.on hW) hd2);have HT:Hid (tx (.bin 7 x y)=(((⟨#[109,105,110,40]⟩++tx x)++⟨#[44,32]⟩)++tx y)++⟨#[41]⟩):=qh rfl;have HP:Hid (∀ z∈[((a+1:Nat):Int),((a+1+(flat x).length:Nat):Int)],z≠0):=qh (by intro z hz; simp only [List.mem_cons,List.not_mem_nil,or_false] at hz; omega);obtain ⟨p,hp⟩:∃ p:Nat,p=a+1:=⟨_,rfl⟩;obtain ⟨q,hq⟩:∃ q:Nat,q=a+1+(flat x).length:=⟨_,rfl⟩;rw [<- hq] at HB HJ HP;rw [<- hp] at HB HI HP;obtain ⟨sx,hsx⟩:∃ sx,sx=tx x:=⟨_,rfl⟩;obtain ⟨sy,hsy⟩:∃ sy,sy=tx y:=⟨_,rfl⟩;rw [<- hsx] at HI HT hsz1;rw [<- hsy] at HJ HT hsz2;obtain ⟨nn,hnn⟩:∃ nn,nn=t'.n:=⟨_,rfl⟩;obtain ⟨ss,hss⟩:∃ ss,ss=t'.s:=⟨_,rfl⟩;rw [<- hnn] at c1;rw [<- hss] at c2;rw [hop] at c0;clear h hd hop hla hr hbl hbl' hg ihx ihy hd1 hd2 hp hq hsx hsy hnn hss;go_enter Tryz.func177,Tryz.ntmps177;go_wp2_with fail
 go_region_held3 (fun w' => w'.cell? ⟨b,off + a * 3,none⟩ = some (.int .i64 7) /\ w'.cell? ⟨b,off + a * 3 + 1,none⟩ = some (.int .i64 nn) /\ w'.cell? ⟨b,off + a * 3 + 2,none⟩ = some (.string ss)) (go_keep)
  ((first
    | (go_at_call 187; refine (HB.o _ ((Below.refl _ _).drew)).mono ?_; rintro e w1 ⟨v,rfl,hr1,hb1⟩; have hx:Below w.heap.size w w1:=undrew hb1; have d0:=(hx.cell (p:=⟨b,off + a * 3,none⟩) hb).trans c0; have d1:=(hx.cell (p:=⟨b,off + a * 3 + 1,none⟩) hb).trans c1; have d2:=(hx.cell (p:=⟨b,off + a * 3 + 2,none⟩) hb).trans c2; have hn1:¬ b = w1.heap.size:=(by have:=hx.size; omega); have hn2:¬ w1.heap.size = b:=(by omega); have HM:=qh (fun o n s => tx_a (o:=o) (n:=n) (s:=s) hx hr1); clear hb1 hx hr1)
    | (go_at_call 187; refine (HB.o _ (((Below.refl _ _).drew).alloc (Nat.le_refl _) _)).mono ?_; rintro e w1 ⟨v,rfl,hr1,hb1⟩; have hx:Below w.heap.size w w1:=(((Below.refl _ _).drew).alloc (Nat.le_refl _) _).trans (hb1.mono (by simp)); have d0:=(hx.cell (p:=⟨b,off + a * 3,none⟩) hb).trans c0; have d1:=(hx.cell (p:=⟨b,off + a * 3 + 1,none⟩) hb).trans c1; have d2:=(hx.cell (p:=⟨b,off + a * 3 + 2,none⟩) hb).trans c2; have hn1:¬ b = w.heap.size:=(by omega); have hn2:¬ w.heap.size = b:=(by omega); have kk:=(hb1.block w.heap.size (by simp)).trans (heap_alloc_new w.drew _); obtain ⟨p0,p1,p2⟩:=Qj kk; obtain ⟨f0,f1,f2⟩:=JW kk; have HM:=qh (fun o n s => tx_b (o:=o) (n:=n) (s:=s) hx (Nat.le_refl _) kk HP.o hr1); clear hb1 hx hr1 kk)))
 all_goals
  have hM:=HM.o 7 nn ss;clear HM c0 c1 c2
  try clear d0 d1 d2
  try clear p0 p1 p2 f0 f1 f2
  try clear hn1 hn2
  obtain ⟨j,hj⟩:∃ j,j=w1.heap.size:=⟨_,rfl⟩
  first | rw [<- hj] at hM ⊢ | skip
  obtain ⟨y0,y1,y2⟩:=Qj hM.blk;obtain ⟨bR,oR,cR,rfl,hbR,r0,r1⟩:=QaV hM.row;have HZ:=qh hM.below;clear hM;go_wp2_with fail
  try clear hj
  have z0:¬ 9223372036854775807<4+sx.size:=by omega
  have z1:¬ 9223372036854775807<4+sx.size+2:=by omega
  have z2:¬ 9223372036854775807<4+sx.size+2+sy.size:=by omega
  have z3:¬ 9223372036854775807<4+sx.size+2+sy.size+1:=by omega
  go_region_held3 (fun w' => w'.cell? ⟨bR,oR,none⟩ = some (.int .i64 p) /\ w'.cell? ⟨bR,oR + 1,none⟩ = some (.int .i64 q)) (go_keep)
   ((first
     | (go_at_call 177; go_fit (HI.o _ HZ.o.drew); rintro e w3 ⟨rfl,hb3'⟩; have hb3:=undrew hb3'; have HZ3:=qh (Qa HZ.o hb3); have e0:=(hb3.cell (p:=⟨bR,oR,none⟩) hbR).trans r0; have e1:=(hb3.cell (p:=⟨bR,oR + 1,none⟩) hbR).trans r1; have hbR3:=Nat.lt_of_lt_of_le hbR hb3.size; clear hb3 hb3')
     | (go_at_call 177; go_fit (HJ.o _ HZ3.o); rintro e w4 ⟨rfl,hb4⟩; have HZ4:=qh (Qa HZ3.o hb4); have u0:=(hb4.cell (p:=⟨bR,oR,none⟩) hbR3).trans e0; have u1:=(hb4.cell (p:=⟨bR,oR + 1,none⟩) hbR3).trans e1; clear hb4)))
  all_goals
   go_wp2_with fail;go_ret;exact ⟨by rw [HT.o]; rfl,HZ4.o⟩
theorem text_max {x y:Ex} (hg:ExprSpec.Good (.bin 8 x y)) (ihx:TextOk x) (ihy:TextOk y):TextOk (.bin 8 x y):=by
 intro A n c l a rest w h hd
 have hsz:(tx x).size <= 60000 /\ (tx y).size <= 60000:=by
  have h1:=QO hg.2.1;have h1':=QO hg.2.2;have h2:=congrArg List.length hd;have h3:=h.few;have h4:=h.len;have h5:=Jn (lev x<(sgOf 8).left) (tx x);have h6:=Jn (lev y<(sgOf 8).right) (tx y);rw [show flat (.bin 8 x y)=opT 8::(flat x++flat y) from rfl,List.length_drop,List.length_append,List.length_cons,List.length_append] at h2;omega
 obtain ⟨hsz1,hsz2⟩:=hsz;obtain ⟨b,off,t',rfl,hb,hla,hop,hal,hfew,⟨r,hr⟩,c0,c1,c2,hbl⟩:=Qay h hd hg;rw [show opE (.bin 8 x y)=8 from rfl] at hop;have hal':(a:Int)<n:=by omega
 have ha0:(0:Int)<=(a:Int):=by omega
 have hd1:l.drop (a + 1) = flat x ++ (flat y ++ rest):=by
  rw [<- List.append_assoc]; exact JH (t:=opT 8) hd
 have hd2:l.drop (a + 1 + (flat x).length) = flat y ++ rest:=by
  rw [<- List.drop_drop,hd1,List.drop_left]
 have hbl':∀ w',Below w.heap.size w w' -> Calls Tryz.prog 187 #[.slice (some ⟨b,off,none⟩) n c,.int .i64 a] w' (RetInts w' [((a + 1:Nat):Int),((a + 1 + (flat x).length:Nat):Int)]):=by
  intro w' hw;have:=hbl w' hw
  rwa [show arN (opE (.bin 8 x y))=2 from by show (ar 8).toNat=2; rw [hg.1]; rfl,Qaa (by rw [hd1]; exact JF _ (JY hg.2.1).1)] at this
 have HB:=qh hbl';have HI:=qh (fun W hW=>ihx (some ⟨b,off,none⟩) n c l (a+1) (flat y++rest) W (h.on hW) hd1);have HJ:=qh (fun W hW=>ihy (some ⟨b,off,none⟩) n c l (a+1+(flat x).length) rest W (h.on hW) hd2);have HT:Hid (tx (.bin 8 x y)=(((⟨#[109,97,120,40]⟩++tx x)++⟨#[44,32]⟩)++tx y)++⟨#[41]⟩):=qh rfl;have HP:Hid (∀ z∈[((a+1:Nat):Int),((a+1+(flat x).length:Nat):Int)],z≠0):=qh (by intro z hz; simp only [List.mem_cons,List.not_mem_nil,or_false] at hz; omega);obtain ⟨p,hp⟩:∃ p:Nat,p=a+1:=⟨_,rfl⟩;obtain ⟨q,hq⟩:∃ q:Nat,q=a+1+(flat x).length:=⟨_,rfl⟩;rw [<- hq] at HB HJ HP;rw [<- hp] at HB HI HP;obtain ⟨sx,hsx⟩:∃ sx,sx=tx x:=⟨_,rfl⟩;obtain ⟨sy,hsy⟩:∃ sy,sy=tx y:=⟨_,rfl⟩;rw [<- hsx] at HI HT hsz1;rw [<- hsy] at HJ HT hsz2;obtain ⟨nn,hnn⟩:∃ nn,nn=t'.n:=⟨_,rfl⟩;obtain ⟨ss,hss⟩:∃ ss,ss=t'.s:=⟨_,rfl⟩;rw [<- hnn] at c1;rw [<- hss] at c2;rw [hop] at c0;clear h hd hop hla hr hbl hbl' hg ihx ihy hd1 hd2 hp hq hsx hsy hnn hss;go_enter Tryz.func177,Tryz.ntmps177;go_wp2_with fail
 go_region_held3 (fun w' => w'.cell? ⟨b,off + a * 3,none⟩ = some (.int .i64 8) /\ w'.cell? ⟨b,off + a * 3 + 1,none⟩ = some (.int .i64 nn) /\ w'.cell? ⟨b,off + a * 3 + 2,none⟩ = some (.string ss)) (go_keep)
  ((first
    | (go_at_call 187; refine (HB.o _ ((Below.refl _ _).drew)).mono ?_; rintro e w1 ⟨v,rfl,hr1,hb1⟩; have hx:Below w.heap.size w w1:=undrew hb1; have d0:=(hx.cell (p:=⟨b,off + a * 3,none⟩) hb).trans c0; have d1:=(hx.cell (p:=⟨b,off + a * 3 + 1,none⟩) hb).trans c1; have d2:=(hx.cell (p:=⟨b,off + a * 3 + 2,none⟩) hb).trans c2; have hn1:¬ b = w1.heap.size:=(by have:=hx.size; omega); have hn2:¬ w1.heap.size = b:=(by omega); have HM:=qh (fun o n s => tx_a (o:=o) (n:=n) (s:=s) hx hr1); clear hb1 hx hr1)
    | (go_at_call 187; refine (HB.o _ (((Below.refl _ _).drew).alloc (Nat.le_refl _) _)).mono ?_; rintro e w1 ⟨v,rfl,hr1,hb1⟩; have hx:Below w.heap.size w w1:=(((Below.refl _ _).drew).alloc (Nat.le_refl _) _).trans (hb1.mono (by simp)); have d0:=(hx.cell (p:=⟨b,off + a * 3,none⟩) hb).trans c0; have d1:=(hx.cell (p:=⟨b,off + a * 3 + 1,none⟩) hb).trans c1; have d2:=(hx.cell (p:=⟨b,off + a * 3 + 2,none⟩) hb).trans c2; have hn1:¬ b = w.heap.size:=(by omega); have hn2:¬ w.heap.size = b:=(by omega); have kk:=(hb1.block w.heap.size (by simp)).trans (heap_alloc_new w.drew _); obtain ⟨p0,p1,p2⟩:=Qj kk; obtain ⟨f0,f1,f2⟩:=JW kk; have HM:=qh (fun o n s => tx_b (o:=o) (n:=n) (s:=s) hx (Nat.le_refl _) kk HP.o hr1); clear hb1 hx hr1 kk)))
 all_goals
  have hM:=HM.o 8 nn ss;clear HM c0 c1 c2
  try clear d0 d1 d2
  try clear p0 p1 p2 f0 f1 f2
  try clear hn1 hn2
  obtain ⟨j,hj⟩:∃ j,j=w1.heap.size:=⟨_,rfl⟩
  first | rw [<- hj] at hM ⊢ | skip
  obtain ⟨y0,y1,y2⟩:=Qj hM.blk;obtain ⟨bR,oR,cR,rfl,hbR,r0,r1⟩:=QaV hM.row;have HZ:=qh hM.below;clear hM;go_wp2_with fail
  try clear hj
  have z0:¬ 9223372036854775807<4+sx.size:=by omega
  have z1:¬ 9223372036854775807<4+sx.size+2:=by omega
  have z2:¬ 9223372036854775807<4+sx.size+2+sy.size:=by omega
  have z3:¬ 9223372036854775807<4+sx.size+2+sy.size+1:=by omega
  go_region_held3 (fun w' => w'.cell? ⟨bR,oR,none⟩ = some (.int .i64 p) /\ w'.cell? ⟨bR,oR + 1,none⟩ = some (.int .i64 q)) (go_keep)
   ((first
     | (go_at_call 177; go_fit (HI.o _ HZ.o.drew); rintro e w3 ⟨rfl,hb3'⟩; have hb3:=undrew hb3'; have HZ3:=qh (Qa HZ.o hb3); have e0:=(hb3.cell (p:=⟨bR,oR,none⟩) hbR).trans r0; have e1:=(hb3.cell (p:=⟨bR,oR + 1,none⟩) hbR).trans r1; have hbR3:=Nat.lt_of_lt_of_le hbR hb3.size; clear hb3 hb3')
     | (go_at_call 177; go_fit (HJ.o _ HZ3.o); rintro e w4 ⟨rfl,hb4⟩; have HZ4:=qh (Qa HZ3.o hb4); have u0:=(hb4.cell (p:=⟨bR,oR,none⟩) hbR3).trans e0; have u1:=(hb4.cell (p:=⟨bR,oR + 1,none⟩) hbR3).trans e1; clear hb4)))
  all_goals
   go_wp2_with fail;go_ret;exact ⟨by rw [HT.o]; rfl,HZ4.o⟩
theorem text_bin {o:Int} {x y:Ex} (h7:¬ (o = 7 \/ o = 8)) (hg:ExprSpec.Good (.bin o x y)) (ihx:WithinOk x) (ihy:WithinOk y):TextOk (.bin o x y):=by
 intro A n c l a rest w h hd
 have hsz:(bk (lev x < (sgOf o).left) (tx x)).size <= 60000 /\ (bk (lev y < (sgOf o).right) (tx y)).size <= 60000:=by
  have h1:=QO hg.2.1;have h1':=QO hg.2.2;have h2:=congrArg List.length hd;have h3:=h.few;have h4:=h.len;have h5:=Jn (lev x<(sgOf o).left) (tx x);have h6:=Jn (lev y<(sgOf o).right) (tx y);rw [show flat (.bin o x y)=opT o::(flat x++flat y) from rfl,List.length_drop,List.length_append,List.length_cons,List.length_append] at h2;omega
 obtain ⟨hsz1,hsz2⟩:=hsz;obtain ⟨b,off,t',rfl,hb,hla,hop,hal,hfew,⟨r,hr⟩,c0,c1,c2,hbl⟩:=Qay h hd hg;rw [show opE (.bin o x y)=o from rfl] at hop;have hal':(a:Int)<n:=by omega
 have ha0:(0:Int)<=(a:Int):=by omega
 have hd1:l.drop (a + 1) = flat x ++ (flat y ++ rest):=by
  rw [<- List.append_assoc]; exact JH (t:=opT o) hd
 have hd2:l.drop (a + 1 + (flat x).length) = flat y ++ rest:=by
  rw [<- List.drop_drop,hd1,List.drop_left]
 have hbl':∀ w',Below w.heap.size w w' -> Calls Tryz.prog 187 #[.slice (some ⟨b,off,none⟩) n c,.int .i64 a] w' (RetInts w' [((a + 1:Nat):Int),((a + 1 + (flat x).length:Nat):Int)]):=by
  intro w' hw;have:=hbl w' hw
  rwa [show arN (opE (.bin o x y))=2 from by show (ar o).toNat=2; rw [hg.1]; rfl,Qaa (by rw [hd1]; exact JF _ (JY hg.2.1).1)] at this
 have HB:=qh hbl';have HI:=qh (fun W hW=>ihx (some ⟨b,off,none⟩) n c l (a+1) (flat y++rest) (sgOf o).left W (h.on hW) hd1);have HJ:=qh (fun W hW=>ihy (some ⟨b,off,none⟩) n c l (a+1+(flat x).length) rest (sgOf o).right W (h.on hW) hd2);have HT:Hid (tx (.bin o x y)=(((bk (lev x<(sgOf o).left) (tx x)++⟨#[32]⟩)++(sgOf o).t)++⟨#[32]⟩)++bk (lev y<(sgOf o).right) (tx y)):=qh (tx_bin h7 x y);have HP:Hid (∀ z∈[((a+1:Nat):Int),((a+1+(flat x).length:Nat):Int)],z≠0):=qh (by intro z hz; simp only [List.mem_cons,List.not_mem_nil,or_false] at hz; omega);obtain ⟨p,hp⟩:∃ p:Nat,p=a+1:=⟨_,rfl⟩;obtain ⟨q,hq⟩:∃ q:Nat,q=a+1+(flat x).length:=⟨_,rfl⟩;rw [<- hq] at HB HJ HP;rw [<- hp] at HB HI HP;obtain ⟨sx,hsx⟩:∃ sx,sx=bk (lev x<(sgOf o).left) (tx x):=⟨_,rfl⟩;obtain ⟨sy,hsy⟩:∃ sy,sy=bk (lev y<(sgOf o).right) (tx y):=⟨_,rfl⟩;rw [<- hsx] at HI HT hsz1;rw [<- hsy] at HJ HT hsz2;obtain ⟨nn,hnn⟩:∃ nn,nn=t'.n:=⟨_,rfl⟩;obtain ⟨ss,hss⟩:∃ ss,ss=t'.s:=⟨_,rfl⟩;rw [<- hnn] at c1;rw [<- hss] at c2;rw [hop] at c0;obtain ⟨sg,hsg⟩:∃ sg,sg=sgOf o:=⟨_,rfl⟩;have hsz3:sg.t.size<=3:=by rw [hsg]; exact Qgn _ (Qbj hg.1 h7).1
 have HSG:Hid (∀ W,Below w.heap.size w W->Calls Tryz.prog 189 #[.int .i64 o] W fun e w'=>e = .returned (.agg #[.string sg.t,.int .i64 sg.op,.int .i64 sg.lev,.int .i64 sg.left,.int .i64 sg.right])/\Below W.heap.size W w'):=qh (fun W hW=>by rw [hsg]; exact Qd4 o W (h.sg.keep hW));rw [<- hsg] at HI HJ HT
 have h0:¬ (o = 1 \/ o = 2 \/ o = 9 \/ o = 10 \/ o = 11 \/ o = 12 \/ o = 3):=by
  rintro (rfl | rfl | rfl | rfl | rfl | rfl | rfl)<;>exact absurd hg.1 (by decide)
 have e1:(o==1)=false:=by simp; omega
 have e2:(o==2)=false:=by simp; omega
 have e3:(o==9)=false:=by simp; omega
 have e4:(o==10)=false:=by simp; omega
 have e5:(o==11)=false:=by simp; omega
 have e6:(o==7)=false:=by simp; omega
 have e7:(o==8)=false:=by simp; omega
 have e8:(o==12)=false:=by simp; omega
 have e9:(o==3)=false:=by simp; omega
 clear h hd hop hla hr hbl hbl' hg ihx ihy hd1 hd2 hp hq hsx hsy hnn hss h7 h0 hsg;go_enter Tryz.func177,Tryz.ntmps177;go_wp2_with fail
 go_region_held3 (fun w' => w'.cell? ⟨b,off + a * 3,none⟩ = some (.int .i64 o) /\ w'.cell? ⟨b,off + a * 3 + 1,none⟩ = some (.int .i64 nn) /\ w'.cell? ⟨b,off + a * 3 + 2,none⟩ = some (.string ss)) (go_keep)
  ((first
    | (go_at_call 187; refine (HB.o _ ((Below.refl _ _).drew)).mono ?_; rintro e w1 ⟨v,rfl,hr1,hb1⟩; have hx:Below w.heap.size w w1:=undrew hb1; have d0:=(hx.cell (p:=⟨b,off + a * 3,none⟩) hb).trans c0; have d1:=(hx.cell (p:=⟨b,off + a * 3 + 1,none⟩) hb).trans c1; have d2:=(hx.cell (p:=⟨b,off + a * 3 + 2,none⟩) hb).trans c2; have hn1:¬ b = w1.heap.size:=(by have:=hx.size; omega); have hn2:¬ w1.heap.size = b:=(by omega); have HM:=qh (fun o n s => tx_a (o:=o) (n:=n) (s:=s) hx hr1); clear hb1 hx hr1)
    | (go_at_call 187; refine (HB.o _ (((Below.refl _ _).drew).alloc (Nat.le_refl _) _)).mono ?_; rintro e w1 ⟨v,rfl,hr1,hb1⟩; have hx:Below w.heap.size w w1:=(((Below.refl _ _).drew).alloc (Nat.le_refl _) _).trans (hb1.mono (by simp)); have d0:=(hx.cell (p:=⟨b,off + a * 3,none⟩) hb).trans c0; have d1:=(hx.cell (p:=⟨b,off + a * 3 + 1,none⟩) hb).trans c1; have d2:=(hx.cell (p:=⟨b,off + a * 3 + 2,none⟩) hb).trans c2; have hn1:¬ b = w.heap.size:=(by omega); have hn2:¬ w.heap.size = b:=(by omega); have kk:=(hb1.block w.heap.size (by simp)).trans (heap_alloc_new w.drew _); obtain ⟨p0,p1,p2⟩:=Qj kk; obtain ⟨f0,f1,f2⟩:=JW kk; have HM:=qh (fun o n s => tx_b (o:=o) (n:=n) (s:=s) hx (Nat.le_refl _) kk HP.o hr1); clear hb1 hx hr1 kk)))
 all_goals
  have hM:=HM.o o nn ss;clear HM c0 c1 c2
  try clear d0 d1 d2
  try clear p0 p1 p2 f0 f1 f2
  try clear hn1 hn2
  obtain ⟨j,hj⟩:∃ j,j=w1.heap.size:=⟨_,rfl⟩
  first | rw [<- hj] at hM ⊢ | skip
  obtain ⟨y0,y1,y2⟩:=Qj hM.blk;obtain ⟨bR,oR,cR,rfl,hbR,r0,r1⟩:=QaV hM.row;have HZ:=qh hM.below;clear hM;go_wp2_with (go_at_call 189; go_fit (HSG.o _ HZ.o));rintro e w2 ⟨rfl,hb2⟩;have HZ2:=qh ((Qa HZ.o hb2).alloc (Qa HZ.o hb2).size (sgO sg));have R0:=qh ((hb2.cell (p:=⟨bR,oR,none⟩) hbR).trans r0);have R1:=qh ((hb2.cell (p:=⟨bR,oR+1,none⟩) hbR).trans r1);have hbR2:bR<w2.heap.size:=Nat.lt_of_lt_of_le hbR hb2.size;have HK:=qh (heap_alloc_new w2 (sgO sg));have hnR:¬ bR=w2.heap.size:=by omega
  have hnS:¬ w2.heap.size=bR:=by omega
  clear hb2 y0 y1 y2 r0 r1;have r0:=R0.o;have r1:=R1.o;go_wp2_with fail;obtain ⟨g0,g1,g2,g3,g4⟩:=JP HK.o;have q0:=(((Below.refl _ _).alloc (Nat.le_refl _) (sgO sg)).cell (p:=⟨bR,oR,none⟩) hbR2).trans R0.o;have q1:=(((Below.refl _ _).alloc (Nat.le_refl _) (sgO sg)).cell (p:=⟨bR,oR+1,none⟩) hbR2).trans R1.o;obtain ⟨V,hV⟩:∃ V,V=w2.alloc (sgO sg):=⟨_,rfl⟩;have hbV:bR<V.heap.size:=by rw [hV]; simp; omega
  have hsV:w2.heap.size<V.heap.size:=by rw [hV]; simp
  rw [<- hV] at HZ2 g0 g1 g2 g3 g4 q0 q1 ⊢;clear hV hnR hnS r0 r1 hbR2
  try clear hj
  have z0:¬ 9223372036854775807<sx.size+1:=by omega
  have z1:¬ 9223372036854775807<sx.size+1+sg.t.size:=by omega
  have z2:¬ 9223372036854775807<sx.size+1+sg.t.size+1:=by omega
  have z3:¬ 9223372036854775807<sx.size+1+sg.t.size+1+sy.size:=by omega
  go_region_held3 (fun w' => w'.cell? ⟨bR,oR,none⟩ = some (.int .i64 p) /\ w'.cell? ⟨bR,oR + 1,none⟩ = some (.int .i64 q) /\ w'.cell? ⟨w2.heap.size,0,none⟩ = some (.string sg.t) /\ w'.cell? ⟨w2.heap.size,3,none⟩ = some (.int .i64 sg.left) /\ w'.cell? ⟨w2.heap.size,4,none⟩ = some (.int .i64 sg.right)) (go_keep)
   ((first
     | (go_at_call 188; go_fit (HI.o _ HZ2.o.drew); rintro e w3 ⟨rfl,hb3'⟩; have hb3:=undrew hb3'; have HZ3:=qh (Qa HZ2.o hb3); have e0:=(hb3.cell (p:=⟨bR,oR,none⟩) hbV).trans q0; have e1:=(hb3.cell (p:=⟨bR,oR + 1,none⟩) hbV).trans q1; have e2:=(hb3.cell (p:=⟨w2.heap.size,0,none⟩) hsV).trans g0; have e3:=(hb3.cell (p:=⟨w2.heap.size,3,none⟩) hsV).trans g3; have e4:=(hb3.cell (p:=⟨w2.heap.size,4,none⟩) hsV).trans g4; have hb3z:=hb3.size; clear hb3 hb3')
     | (go_at_call 188; go_fit (HJ.o _ HZ3.o); rintro e w4 ⟨rfl,hb4⟩; have HZ4:=qh (Qa HZ3.o hb4); have u0:=(hb4.cell (p:=⟨bR,oR,none⟩) (by simp; omega)).trans e0; have u1:=(hb4.cell (p:=⟨bR,oR + 1,none⟩) (by simp; omega)).trans e1; have u2:=(hb4.cell (p:=⟨w2.heap.size,0,none⟩) (by simp; omega)).trans e2; have u3:=(hb4.cell (p:=⟨w2.heap.size,3,none⟩) (by simp; omega)).trans e3; have u4:=(hb4.cell (p:=⟨w2.heap.size,4,none⟩) (by simp; omega)).trans e4; clear hb4)))
  all_goals
   go_wp2_with fail;go_ret;exact ⟨by rw [HT.o]; rfl,HZ4.o⟩
theorem Qca:∀ e:Ex,ExprSpec.Good e -> TextOk e
 | .leaf _,h => text_leaf h
 | .un o x,h => by
   have ho:o = 3 \/ o = 12:=by
    have h1:=h.1;unfold ar at h1
    split at h1
    ·omega
    split at h1
    ·assumption
    split at h1<;>omega
   have ih:=QcH h.2 (Qca x h.2)
   rcases ho with rfl | rfl
   ·exact text_neg h ih
   ·exact text_not h ih
 | .bin o x y,h => by
   have ihx:=Qca x h.2.1;have ihy:=Qca y h.2.2
   rcases bin_ops h.1 with rfl | rfl | h7
   ·exact text_min h ihx ihy
   ·exact text_max h ihx ihy
   ·exact text_bin h7 h (QcH h.2.1 ihx) (QcH h.2.2 ihy)
end
section
open Go.RowKit CurSpec TermSpec ExprSpec
set_option maxRecDepth 100000
def RetPut (W:World) (s:ByteArray) (k:Int) (e:Ending) (w':World):Prop:=e = .returned (.tuple #[.string s,.int .i64 k])/\Below W.heap.size W w'
theorem put_ok (A:Option Addr) (n c:Nat) (l:List Tm) (w:World) (ht:Tms w (.slice A n c) l) (hn:n = l.length) (hs:Small l) (hg:SignsIn w) {x:Ex} (hx:flat x = l) (hgx:ExprSpec.Good x) (hk:chk l = 0) (h40:l.length <= 40) :
 Calls Tryz.prog 166 #[.slice A n c] w (RetPut w (tx x) 0):=by
 have HC:=qh (QbA A n c l hn (by omega) hs w ht);rw [hk] at HC;have HT:Hid (∀ w1,Below w.heap.size w w1->Calls Tryz.prog 177 #[.slice A n c,.int .i64 0] w1 (RetS w1 (tx x))):=qh (fun w1 (hb:Below w.heap.size w w1)=>Qca x hgx A n c l 0 [] w1 ⟨ht.keep hb,hn,by omega,hg.keep hb⟩ (by rw [hx]; simp));clear ht hn hs hg hx hgx hk h40;go_enter Tryz.func166,Tryz.ntmps166;go_wp2_with (go_at_call 165; go_fit HC.o);rintro e w1 ⟨rfl,hb1⟩;have HB:=qh hb1;clear hb1;go_wp2_with (go_at_call 177; go_fit (HT.o _ HB.o));rintro e w2 ⟨rfl,hb2⟩;have HB2:=qh (Qa HB.o hb2);clear hb2;go_wp2_with fail
 go_ret2
 exact ⟨rfl,HB2.o⟩
end
section
open Go.RowKit TermSpec EvalSpec ActSpec NamesSpec ExprSpec
set_option maxRecDepth 100000
theorem atext_any (t:Ta) (h:t.Ok) (A:Option Addr) (n c:Nat) (w:World) (ht:Tms w (.slice A n c) t.ac.x) (hsm:Small t.ac.x) (hg:SignsIn w) :
 Calls Tryz.prog 163 #[.agg #[.string t.s,.bool t.any,.slice A n c]] w (RetS w (txA t)):=by
 have hsz:=QG h.1
 rcases ha:t.any with _ | _
 ·obtain ⟨hgx,hk⟩:=h.2 ha
  have h40:=Qgu h ha;have htz:=QO hgx;have hx:t.ac.x=flat t.e:=by simp [Ta.ac,ha]
  rw [hx] at ht hsm;obtain ⟨A',n',c',heq,hn,hnc⟩:=ht.shape
  cases heq
  have HP:Hid (∀ W,Below w.heap.size w W->Calls Tryz.prog 166 #[.slice A n c] W (RetPut W (tx t.e) 0)):=qh (fun W hW=>put_ok A n c (flat t.e) W (ht.keep hW) hn hsm (hg.keep hW) rfl hgx hk h40);have HT:Hid (txA t=t.s++⟨#[32,58,61,32]⟩++tx t.e):=qh (by unfold txA; rw [if_neg (by simp [ha])]);obtain ⟨x,hxx⟩:∃ x,x=tx t.e:=⟨_,rfl⟩;rw [<- hxx] at HP HT htz;have h5:t.s.size<=12:=hsz;have h6:x.size<=1200:=by omega
  obtain ⟨s,hs⟩:∃ s,s=t.s:=⟨_,rfl⟩;rw [<- hs] at HT h5 ⊢;have h7:¬ 9223372036854775807<s.size+4:=by omega
  have h8:¬ 9223372036854775807<s.size+4+x.size:=by omega
  clear hx ht hn hnc hgx hk h40 htz hxx hs hsz ha hg hsm;go_enter Tryz.func163,Tryz.ntmps163;go_wp2_with (go_at_call 166; go_fit (HP.o _ (KitC.Qh _ _)));rintro e2 w2 ⟨rfl,hb2⟩;obtain ⟨B2,hbb,_⟩:=KitC.Qy hb2;have HB2:=qh hbb;obtain ⟨c0,c1,c2⟩:=Qj B2;clear hb2 hbb B2;go_wp2_with fail;go_ret;exact ⟨by rw [HT.o]; rfl,HB2.o⟩
 ·have HT:Hid (txA t = ⟨#[97,110,121,32]⟩ ++ t.s):=qh (by unfold txA; rw [if_pos ha])
  obtain ⟨s,hs⟩:∃ s,s=t.s:=⟨_,rfl⟩;rw [<- hs] at HT hsz ⊢;have h7:¬ 9223372036854775807<4+s.size:=by omega
  clear ht hs ha hg h hsm;go_enter Tryz.func163,Tryz.ntmps163;go_wp2_with fail;go_ret;exact ⟨by rw [HT.o]; rfl,KitC.Qh _ _⟩
def APutRel (W w1:World) (ts:List Ta) (p i:Value) (wr:World):Prop:=∃ k:Nat,k<=ts.length/\i = .int .i64 k/\RowS w1 wr p ((ts.take k).map txA)/\Below W.heap.size W w1
theorem txs_next {ts:List Ta} {k:Nat} {t:Ta} (h:ts[k]?=some t):(ts.take (k+1)).map txA=(ts.take k).map txA++[txA t]:=by rw [QA h,List.map_append]; rfl
theorem join_row {W w:World} {p:Value} {xs:List ByteArray} (h:RowS W w p xs) (h8:xs.length <= 8) (hl:(Lib.join (xs.map (·.data.toList)) [44,32]).length <= 140737488355328) :
 ∃ A n c,p = .slice A n c/\Calls Tryz.prog 51 #[.slice A n c,.string ⟨#[44,32]⟩] w (RetS w ⟨(Lib.join (xs.map (·.data.toList)) [44,32]).toArray⟩):=by
 obtain ⟨A,n,c,rfl,hn,hc,hA⟩:=h.read.strs
 rcases Nat.eq_zero_or_pos n with h0 | h0
 ·subst h0
  obtain rfl:xs=[]:=List.eq_nil_of_length_eq_zero hn;exact ⟨A,0,c,rfl,(Tryz.strings_Join_none A c _ w).mono fun e w' ⟨he,hw⟩=>⟨he,by rw [hw]; exact Below.refl _ _⟩⟩
 ·obtain ⟨b,off,rfl,hb,hcell⟩:=hA h0
  subst hn;exact ⟨_,_,c,rfl,Tryz.strings_Join b off c xs ⟨#[44,32]⟩ w hcell hb (by omega) hc hl⟩
theorem Qh1 (A:Option Addr) (n c:Nat) (l:List Ac) (hs:∀ a ∈ l,SmallA a) (hl:l.length <= 9223372036854775807) (w:World) (h:Acs w (.slice A n c) l) (hg:SignsIn w) :
 (chkA l≠0->Calls Tryz.prog 138 #[.slice A n c] w (RetPut w ⟨#[]⟩ (chkA l))) /\
 (∀ ts:List Ta,ts.map Ta.ac=l->(∀ t∈ts,t.Ok)->chkA l=0->Calls Tryz.prog 138 #[.slice A n c] w (RetPut w (putB ts) 0)):=by
 have HT:=qh h;have HN:=qh h.len.1;have hcap:=h.len.2;have HCK:=qh (QaF A n c l hs hl w h);have HG:=qh hg;have HS:=qh hs;refine ⟨fun hk=>?_,fun ts hts hok hk=>?_⟩
 ·obtain ⟨k,hkk⟩:∃ k,k = chkA l:=⟨_,rfl⟩
  rw [<- hkk] at HCK hk ⊢;have e1:(k != 0)=true:=by simpa using hk
  clear h hs hl hg hkk hk;go_enter Tryz.func138,Tryz.ntmps138;go_wp2_with (go_at_call 129; go_fit HCK.o);rintro e w1 ⟨rfl,hb1⟩;have HB:=qh hb1;clear hb1;go_wp2_with fail
  go_ret2
  exact ⟨rfl,HB.o⟩
 ·have h8:ts.length <= 8:=by
   have h1:l.length=ts.length:=by rw [<- hts,List.length_map]
   have h2:l.length <= 8:=by
    unfold chkA at hk
    split at hk
    ·cases hk
    ·omega
   omega
  have HLN:Hid (l.length=ts.length):=qh (by rw [<- hts,List.length_map]);rw [hk] at HCK;obtain ⟨i0,hi,hz0,hz1,hz2⟩:=info_parts QdC;have HI:=qh (And.intro hi (And.intro hz0 (And.intro hz1 hz2)));have HOK:=qh hok;have HTS:=qh hts;obtain ⟨P,hP⟩:∃ P,P=putB ts:=⟨_,rfl⟩;rw [<- hP];have HP:=qh hP
  have HJL:Hid ((Lib.join ((ts.map txA).map (·.data.toList)) [44,32]).length <= 140737488355328 /\ (⟨(Lib.join ((ts.map txA).map (·.data.toList)) [44,32]).toArray⟩:ByteArray) = putB ts):=qh (by
   have h1:=Zy hok;have h2:(putB ts).size=(putT ts).length:=by simp [putB,ByteArray.size]
   have h3:Lib.join ((ts.map txA).map (·.data.toList)) [44,32]=putT ts:=by unfold putT; rw [List.map_map]; rfl
   rw [h3];exact ⟨by omega,rfl⟩)
  clear h hs hl hg hk hts hok hi hz0 hz1 hz2 hP;go_enter Tryz.func138,Tryz.ntmps138;go_wp2_with (go_at_call 129; go_fit HCK.o);rintro e w1 ⟨rfl,hb1⟩;have HB1:=qh hb1;clear hb1;go_wp2_with fail
  go_loopw [5,7,15] (fun p _ i wr=>APutRel w w1 ts p i wr) (fun _ _ i _=>ts.length-(intOf i).toNat)
  case atStart=>exact ⟨0,Nat.zero_le _,rfl,RowS.nil _ _ (Below.refl _ _),HB1.o⟩
  case round =>
   obtain ⟨k,hkt,rfl,hrow,_⟩:=hrel;have HR0:=qh hrow;have HWB:=qh (Qa HB1.o hrow.2);clear hrow
   by_cases hlt:k<n
   ·have hkI:(k:Int) < n:=by omega
    have hk8:(k:Int)<=8:=by omega
    obtain ⟨t,ht⟩:∃ t,ts[k]?=some t:=Qp (by have:=HN.o; have:=HLN.o; omega);have hla:l[k]?=some t.ac:=by rw [<- HTS.o,List.getElem?_map,ht]; rfl
    obtain ⟨b,off,tA,tn,tc,rfl,hb,htm,d0,d1,d2⟩:=(HT.o.keep HWB.o).at_ hla;obtain ⟨tA',tn',tc',heq,htn,htc⟩:=htm.shape
    cases heq
    have HC:Hid (∀ V,Below wr.heap.size wr V->Calls Tryz.prog 163 #[.agg #[.string t.s,.bool t.any,.slice tA tn tc]] V (RetS V (txA t))):=qh (fun V hV=>atext_any t (HOK.o t (List.mem_of_getElem? ht)) tA tn tc V (htm.keep hV) (HS.o _ (List.mem_of_getElem? hla)).2.1 (HG.o.keep (Qa HWB.o hV)));have HX:=qh (txs_next ht);have hd0:wr.cell? ⟨b,off+k*3,none⟩=some (.string t.s):=d0;have hd1:wr.cell? ⟨b,off+k*3+1,none⟩=some (.bool t.any):=d1;obtain ⟨x,hx⟩:∃ x,x=txA t:=⟨_,rfl⟩;rw [<- hx] at HC HX;have HL1:Hid (((ts.take k).map txA).length+(strV [x]).length<=maxLen):=qh (by rw [List.length_map,List.length_take]; simp [maxLen]; omega);have HL2:Hid ((((ts.take k).map txA).length+(strV [x]).length)*16<=140737488355328):=qh (by rw [List.length_map,List.length_take]; simp; omega);clear ht hla htm htn hx d0 d1;obtain ⟨ta,tany,te⟩:=t;simp only at hd0 hd1 HC;go_wp2_with (go_at_call 163; go_fit (HC.o _ (KitC.Qh _ _)));rintro e w2 ⟨rfl,hb2⟩;have HR1:=qh (HR0.o.keep (Qa (KitC.Qh _ _) hb2));have HSZ:Hid (w1.heap.size<=w2.heap.size):=qh HR1.o.2.size;have HRA:=qh HR1.o.1;clear hb2;go_wp2_with (at_builtin; refine QK _ rfl (.tmp 19) (.tmp 22) _ rfl w1.heap.size 9 i0 (.string ByteArray.empty) 16 Tryz.underlying30 HI.o.1 HI.o.2.1 HI.o.2.2.1 HI.o.2.2.2 rfl _ _ _ rfl (Q9 HRA.o (KitC.Qh _ _)) _ (strV [x]) rfl (JN rfl rfl rfl) (Qcn _) HL1.o HL2.o ?_ ?_; (have:=HSZ.o; simp; omega); intro p2 w3 hrow3 hg3 _; have HR2:=qh (RowS.add HR1.o hrow3 hg3); clear hrow3 hg3)
    go_roundw
    case rel=>first | exact ⟨k+1,by have:=HN.o; have:=HLN.o; omega,by go_num,by rw [HX.o]; exact HR2.o,HB1.o⟩ | ((repeat apply Exists.intro); exact ⟨⟨k+1,by have:=HN.o; have:=HLN.o; omega,by go_num,by rw [HX.o]; exact HR2.o,HB1.o⟩,rfl⟩)
    case measure=>have:=HN.o; have:=HLN.o; simp [intOf]; omega
   ·have hkI:¬ (k:Int) < n:=by omega
    have hall:ts.take k=ts:=List.take_of_length_le (by have:=HN.o; have:=HLN.o; omega);have hr:=HR0.o;rw [hall] at hr;obtain ⟨jA,jn,jc,rfl,hj⟩:=join_row hr (by rw [List.length_map]; exact h8) HJL.o.1;rw [HJL.o.2,<- HP.o] at hj;have HJ:=qh hj;clear hall hr hj;go_wp2_with (go_at_call 51; go_fit HJ.o);rintro e w2 ⟨rfl,hb2⟩;have HB2:=qh (Qa HWB.o hb2);clear hb2;go_wp2_with fail
    go_ret2
    exact ⟨rfl,HB2.o⟩
end
end Go.Proofs.YtbdalbpackfejaaGreatDoor
