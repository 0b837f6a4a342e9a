/- ExprTextW, joined. -/
import Derived.Test.YtjfghaohogcfbaaGreatDoorMFormatSame07
namespace Go.Proofs.YtjfghaohogcfbaaGreatDoor
open Go.RowKit CurSpec TermSpec ExprSpec
set_option maxRecDepth 100000
theorem tx_first {A:Option Addr} {n c:Nat} {l:List Tm} {a:Nat} {e:Ex} {rest:List Tm} {W:World} (h:TxAt W A n c l) (hd:l.drop a = flat e ++ rest) (hg:ExprSpec.Good e) :
 ∃ b off t,A = some ⟨b,off,none⟩ ∧ b < W.heap.size ∧ l[a]? = some t ∧ t.op = opE e ∧ a < n ∧ n ≤ 1000 ∧ (∃ r,flat e = t :: r) ∧
   W.cell? ⟨b,off + a * 3,none⟩ = some (.int .i64 t.op) ∧ W.cell? ⟨b,off + a * 3 + 1,none⟩ = some (.int .i64 t.n) ∧ W.cell? ⟨b,off + a * 3 + 2,none⟩ = some (.string t.s) ∧
   (∀ w',Below W.heap.size W w' → Calls Tryz.prog 200 #[.slice A n c,.int .i64 a] w' (RetInts w' (belows l a (arN (opE e))))):=by
 obtain ⟨t,r,hf,hop⟩:=flat_first e
 have hla:l[a]? = some t:=by
  have:(l.drop a)[0]? = some t:=by rw [hd,hf]; rfl
  rwa [List.getElem?_drop] at this
 obtain ⟨b,off,rfl,hb,c0,c1,c2⟩:=h.tms.at_ hla
 have hal:=get_lt hla
 have he:0 ≤ endA l a:=by
  have hc:cnt 1 (l.drop a) = some (flat e).length:=by rw [hd]; exact cnt_more rest (flat_wf hg).1
  rw [endA_some hc]; omega
 refine ⟨b,off,t,rfl,hb,hla,hop,by rw [h.len]; exact hal,h.few,⟨r,hf⟩,c0,c1,c2,fun w' hw => ?_⟩
 rw [← hop]
 exact below_yes (some ⟨b,off,none⟩) n c l a w' (h.tms.keep hw) h.len (by have:=h.few; omega) t hla he
theorem tx_bin {o:Int} (h7:¬ (o = 7 ∨ o = 8)) (x y:Ex):tx (.bin o x y) = (((bk (lev x < (sgOf o).left) (tx x) ++ ⟨#[32]⟩) ++ (sgOf o).t) ++ ⟨#[32]⟩) ++ bk (lev y < (sgOf o).right) (tx y):=by
 have e:tx (.bin o x y) = if o = 7 then (((⟨#[109,105,110,40]⟩ ++ tx x) ++ ⟨#[44,32]⟩) ++ tx y) ++ ⟨#[41]⟩ else if o = 8 then (((⟨#[109,97,120,40]⟩ ++ tx x) ++ ⟨#[44,32]⟩) ++ tx y) ++ ⟨#[41]⟩ else (((bk (lev x < (sgOf o).left) (tx x) ++ ⟨#[32]⟩) ++ (sgOf o).t) ++ ⟨#[32]⟩) ++ bk (lev y < (sgOf o).right) (tx y):=rfl
 rw [e,if_neg (fun e => h7 (.inl e)),if_neg (fun e => h7 (.inr e))]
structure TxMid (W w:World) (k:Nat) (o n:Int) (s:ByteArray) (v:Value) (xs:List Int):Prop where
 below:Below W.heap.size W w
 blk:w.heap[k]? = some (.cells #[.int .i64 o,.int .i64 n,.string s] 105 (0,0))
 row:Rd w v (intV xs)
theorem tx_a {W w:World} {o n:Int} {s:ByteArray} {v:Value} {xs:List Int} (hb:Below W.heap.size W w) (hr:Rd w v (intV xs)) :
 TxMid W (w.alloc (.cells #[.int .i64 o,.int .i64 n,.string s] 105)) w.heap.size o n s v xs :=
 ⟨hb.alloc hb.size _,heap_alloc_new w _,hr.keep ((Below.refl _ _).alloc (Nat.le_refl _) _)⟩
theorem zero_cell {w:World} {k off:Nat} {x:Int} {T:TypeId} (h:w.heap[k]? = some (.cells #[.int .i64 0,.int .i64 0,.string ⟨#[]⟩] T (0,0))) (hc:w.cell? ⟨k,off,none⟩ = some (.int .i64 x)):x = 0:=by
 obtain ⟨c0,c1,c2⟩:=cells_3 h
 match off with
 | 0 => rw [c0] at hc; simpa using hc.symm
 | 1 => rw [c1] at hc; simpa using hc.symm
 | 2 => rw [c2] at hc; cases hc
 | j + 3 =>
   simp [World.cell?,h] at hc
theorem tx_b {W w:World} {k:Nat} {o n:Int} {s:ByteArray} {v:Value} {xs:List Int} (hb:Below W.heap.size W w) (hk:W.heap.size ≤ k) (h:w.heap[k]? = some (.cells #[.int .i64 0,.int .i64 0,.string ⟨#[]⟩] 105 (0,0))) (hp:∀ x ∈ xs,x ≠ 0) (hr:Rd w v (intV xs)) :
 TxMid W (((w.setCell ⟨k,0,none⟩ (.int .i64 o)).setCell ⟨k,1,none⟩ (.int .i64 n)).setCell ⟨k,2,none⟩ (.string s)) k o n s v xs:=by
 refine ⟨((hb.setCell hk _).setCell hk _).setCell hk _,block_setCell' (block_setCell' (block_setCell' h 0 _) 1 _) 2 _,?_⟩
 have hg:w.grownBy (((w.setCell ⟨k,0,none⟩ (.int .i64 o)).setCell ⟨k,1,none⟩ (.int .i64 n)).setCell ⟨k,2,none⟩ (.string s)) (some k):=but_set (but_set (but_set (but_refl w (some k)) 0 _) 1 _) 2 _
 generalize (((w.setCell ⟨k,0,none⟩ (.int .i64 o)).setCell ⟨k,1,none⟩ (.int .i64 n)).setCell ⟨k,2,none⟩ (.string s)) = w2 at hg
 obtain ⟨A,n,c,rfl,hn,hc,hA⟩:=hr
 refine ⟨A,n,c,rfl,hn,hc,fun h0 => ?_⟩
 obtain ⟨b,off,rfl,hlt,hcell⟩:=hA h0
 have hne:b ≠ k:=by
  rintro rfl
  match xs,hn,hp,hcell with
  | [],hn,_,_ => rw [hn] at h0; simp [intV] at h0
  | x :: r,_,hp,hcell => exact hp x (by simp) (zero_cell h (hcell 0 _ rfl))
 refine ⟨b,off,rfl,Nat.lt_of_lt_of_le hlt hg.size,fun j u hj => ?_⟩
 rw [← hcell j u hj]
 have:=hg.block b hlt (fun e => hne (by cases e; rfl))
 simp [World.cell?,this]
theorem belows_1 (l:List Tm) (a:Nat):belows l a 1 = [((a + 1:Nat):Int)]:=by
 rw [show (1:Nat) = 0 + 1 from rfl,belows_next,belows_zero,cnt_zero]
 rfl
theorem belows_2 {l:List Tm} {a m:Nat} (h:cnt 1 (l.drop (a + 1)) = some m):belows l a 2 = [((a + 1:Nat):Int),((a + 1 + m:Nat):Int)]:=by
 rw [show (2:Nat) = 1 + 1 from rfl,belows_next,belows_1,h]
 rfl
theorem drop_one {l r:List Tm} {a:Nat} {t:Tm} (h:l.drop a = t :: r):l.drop (a + 1) = r:=by
 rw [← List.drop_drop,h]; rfl
theorem row_1 {w:World} {v:Value} {x:Int} (h:Rd w v (intV [x])):∃ b off c,v = .slice (some ⟨b,off,none⟩) 1 c ∧ b < w.heap.size ∧ w.cell? ⟨b,off,none⟩ = some (.int .i64 x):=by
 obtain ⟨A,n,c,rfl,hn,hc,hA⟩:=h.ints
 obtain rfl:1 = n:=hn
 obtain ⟨b,off,rfl,hb,hcell⟩:=hA (by decide)
 exact ⟨b,off,c,rfl,hb,hcell 0 x rfl⟩
theorem row_2 {w:World} {v:Value} {x y:Int} (h:Rd w v (intV [x,y])):∃ b off c,v = .slice (some ⟨b,off,none⟩) 2 c ∧ b < w.heap.size ∧ w.cell? ⟨b,off,none⟩ = some (.int .i64 x) ∧ w.cell? ⟨b,off + 1,none⟩ = some (.int .i64 y):=by
 obtain ⟨A,n,c,rfl,hn,hc,hA⟩:=h.ints
 obtain rfl:2 = n:=hn
 obtain ⟨b,off,rfl,hb,hcell⟩:=hA (by decide)
 exact ⟨b,off,c,rfl,hb,hcell 0 x rfl,hcell 1 y rfl⟩
set_option maxHeartbeats 2000000 in
theorem text_leaf {t:Tm} (hg:ExprSpec.Good (.leaf t)):TextOk (.leaf t):=by
 intro A n c l a rest w h hd
 obtain ⟨b,off,t',rfl,hb,hla,hop,hal,hfew,⟨r,hr⟩,c0,c1,c2,hbl⟩:=tx_first h hd hg
 obtain rfl:t = t':=by injection hr
 have hal':(a:Int) < n:=by omega
 have ha0:(0:Int) ≤ (a:Int):=by omega
 have HB:=Lib.hid hbl
 have h1:=leaf_ops hg.1
 have HE:Hid (arN (opE (.leaf t)) = 0):=Lib.hid (by rw [← hop]; unfold arN; rw [hg.1]; rfl)
 rw [HE.out,belows_zero] at HB
 have HP:Hid (∀ x ∈ ([]:List Int),x ≠ 0):=Lib.hid (by simp)
 have hm:=hg.2
 clear h hd hop hla hr hbl HE hg
 by_cases h1:t.op = 1
 ·have hb1:=(may_num h1 hm).1
  have HPT:=Lib.hid (fun w => put_any t.n w (by omega) (by omega))
  have HT:Hid (tx (.leaf t) = ⟨(ValSpec.text t.n).toArray⟩):=Lib.hid (by unfold tx; rw [if_pos h1]; rfl)
  rw [h1] at c0
  obtain ⟨nn,hnn⟩:∃ nn,nn = t.n:=⟨_,rfl⟩
  obtain ⟨ss,hss⟩:∃ ss,ss = t.s:=⟨_,rfl⟩
  rw [← hnn] at c1
  rw [← hss] at c2
  rw [← hnn] at HT HPT
  clear h1 hm hnn hss
  try clear hb1
  go_enter Tryz.func190,Tryz.ntmps190
  go_wp2_with fail
  go_region_held3 (fun w' => w'.cell? ⟨b,off + a * 3,none⟩ = some (.int .i64 1) ∧ w'.cell? ⟨b,off + a * 3 + 1,none⟩ = some (.int .i64 nn) ∧ w'.cell? ⟨b,off + a * 3 + 2,none⟩ = some (.string ss)) (go_keep)
   ((first
     | (go_at_call 200; refine (HB.out _ ((Below.refl _ _).drew)).mono ?_; rintro e w1 ⟨v,rfl,hr1,hb1⟩; have hx:Below w.heap.size w w1:=undrew hb1; have d0:=(hx.cell (p:=⟨b,off + a * 3,none⟩) hb).trans c0; have d1:=(hx.cell (p:=⟨b,off + a * 3 + 1,none⟩) hb).trans c1; have d2:=(hx.cell (p:=⟨b,off + a * 3 + 2,none⟩) hb).trans c2; have hn1:¬ b = w1.heap.size:=(by have:=hx.size; omega); have hn2:¬ w1.heap.size = b:=(by omega); have HM:=Lib.hid (fun o n s => tx_a (o:=o) (n:=n) (s:=s) hx hr1); clear hb1 hx hr1)
     | (go_at_call 200; refine (HB.out _ (((Below.refl _ _).drew).alloc (Nat.le_refl _) _)).mono ?_; rintro e w1 ⟨v,rfl,hr1,hb1⟩; have hx:Below w.heap.size w w1:=(((Below.refl _ _).drew).alloc (Nat.le_refl _) _).trans (hb1.mono (by simp)); have d0:=(hx.cell (p:=⟨b,off + a * 3,none⟩) hb).trans c0; have d1:=(hx.cell (p:=⟨b,off + a * 3 + 1,none⟩) hb).trans c1; have d2:=(hx.cell (p:=⟨b,off + a * 3 + 2,none⟩) hb).trans c2; have hn1:¬ b = w.heap.size:=(by omega); have hn2:¬ w.heap.size = b:=(by omega); have kk:=(hb1.block w.heap.size (by simp)).trans (heap_alloc_new w.drew _); obtain ⟨p0,p1,p2⟩:=cells_3 kk; obtain ⟨f0,f1,f2⟩:=free_3 kk; have HM:=Lib.hid (fun o n s => tx_b (o:=o) (n:=n) (s:=s) hx (Nat.le_refl _) kk HP.out hr1); clear hb1 hx hr1 kk)))
  all_goals
   have hM:=HM.out 1 nn ss
   clear HM c0 c1 c2
   try clear d0 d1 d2
   try clear p0 p1 p2 f0 f1 f2
   try clear hn1 hn2
   obtain ⟨j,hj⟩:∃ j,j = w1.heap.size:=⟨_,rfl⟩
   first | rw [← hj] at hM ⊢ | skip
   obtain ⟨y0,y1,y2⟩:=cells_3 hM.blk
   go_wp2_with (go_at_call 64; (with_reducible refine (HPT.out _).mono ?_))
   rintro e w2 ⟨rfl,hb2⟩
   have HZ:=Lib.hid (below_two' hM.below hb2)
   clear hb2 hM y0 y1 y2
   go_wp2_with fail
   go_ret
   exact ⟨by rw [HT.out]; rfl,HZ.out⟩
 by_cases h2:t.op = 2
 ·have HT:Hid (tx (.leaf t) = t.s):=Lib.hid (by unfold tx; rw [if_neg (by omega)]; rw [if_pos h2])
  rw [h2] at c0
  obtain ⟨nn,hnn⟩:∃ nn,nn = t.n:=⟨_,rfl⟩
  obtain ⟨ss,hss⟩:∃ ss,ss = t.s:=⟨_,rfl⟩
  rw [← hnn] at c1
  rw [← hss] at c2
  rw [← hss] at HT
  clear h1 hm hnn hss
  try clear hb1
  clear h2
  go_enter Tryz.func190,Tryz.ntmps190
  go_wp2_with fail
  go_region_held3 (fun w' => w'.cell? ⟨b,off + a * 3,none⟩ = some (.int .i64 2) ∧ w'.cell? ⟨b,off + a * 3 + 1,none⟩ = some (.int .i64 nn) ∧ w'.cell? ⟨b,off + a * 3 + 2,none⟩ = some (.string ss)) (go_keep)
   ((first
     | (go_at_call 200; refine (HB.out _ ((Below.refl _ _).drew)).mono ?_; rintro e w1 ⟨v,rfl,hr1,hb1⟩; have hx:Below w.heap.size w w1:=undrew hb1; have d0:=(hx.cell (p:=⟨b,off + a * 3,none⟩) hb).trans c0; have d1:=(hx.cell (p:=⟨b,off + a * 3 + 1,none⟩) hb).trans c1; have d2:=(hx.cell (p:=⟨b,off + a * 3 + 2,none⟩) hb).trans c2; have hn1:¬ b = w1.heap.size:=(by have:=hx.size; omega); have hn2:¬ w1.heap.size = b:=(by omega); have HM:=Lib.hid (fun o n s => tx_a (o:=o) (n:=n) (s:=s) hx hr1); clear hb1 hx hr1)
     | (go_at_call 200; refine (HB.out _ (((Below.refl _ _).drew).alloc (Nat.le_refl _) _)).mono ?_; rintro e w1 ⟨v,rfl,hr1,hb1⟩; have hx:Below w.heap.size w w1:=(((Below.refl _ _).drew).alloc (Nat.le_refl _) _).trans (hb1.mono (by simp)); have d0:=(hx.cell (p:=⟨b,off + a * 3,none⟩) hb).trans c0; have d1:=(hx.cell (p:=⟨b,off + a * 3 + 1,none⟩) hb).trans c1; have d2:=(hx.cell (p:=⟨b,off + a * 3 + 2,none⟩) hb).trans c2; have hn1:¬ b = w.heap.size:=(by omega); have hn2:¬ w.heap.size = b:=(by omega); have kk:=(hb1.block w.heap.size (by simp)).trans (heap_alloc_new w.drew _); obtain ⟨p0,p1,p2⟩:=cells_3 kk; obtain ⟨f0,f1,f2⟩:=free_3 kk; have HM:=Lib.hid (fun o n s => tx_b (o:=o) (n:=n) (s:=s) hx (Nat.le_refl _) kk HP.out hr1); clear hb1 hx hr1 kk)))
  all_goals
   have hM:=HM.out 2 nn ss
   clear HM c0 c1 c2
   try clear d0 d1 d2
   try clear p0 p1 p2 f0 f1 f2
   try clear hn1 hn2
   obtain ⟨j,hj⟩:∃ j,j = w1.heap.size:=⟨_,rfl⟩
   first | rw [← hj] at hM ⊢ | skip
   obtain ⟨y0,y1,y2⟩:=cells_3 hM.blk
   have HZ:=Lib.hid hM.below
   clear hM
   go_wp2_with fail
   go_ret
   exact ⟨by rw [HT.out]; rfl,HZ.out⟩
 by_cases h9:t.op = 9
 ·have HT:Hid (tx (.leaf t) = ⟨#[116,114,117,101]⟩):=Lib.hid (by unfold tx; rw [if_neg (by omega)]; rw [if_neg (by omega)]; rw [if_pos h9])
  rw [h9] at c0
  obtain ⟨nn,hnn⟩:∃ nn,nn = t.n:=⟨_,rfl⟩
  obtain ⟨ss,hss⟩:∃ ss,ss = t.s:=⟨_,rfl⟩
  rw [← hnn] at c1
  rw [← hss] at c2
  clear h1 hm hnn hss
  try clear hb1
  clear h2
  clear h9
  go_enter Tryz.func190,Tryz.ntmps190
  go_wp2_with fail
  go_region_held3 (fun w' => w'.cell? ⟨b,off + a * 3,none⟩ = some (.int .i64 9) ∧ w'.cell? ⟨b,off + a * 3 + 1,none⟩ = some (.int .i64 nn) ∧ w'.cell? ⟨b,off + a * 3 + 2,none⟩ = some (.string ss)) (go_keep)
   ((first
     | (go_at_call 200; refine (HB.out _ ((Below.refl _ _).drew)).mono ?_; rintro e w1 ⟨v,rfl,hr1,hb1⟩; have hx:Below w.heap.size w w1:=undrew hb1; have d0:=(hx.cell (p:=⟨b,off + a * 3,none⟩) hb).trans c0; have d1:=(hx.cell (p:=⟨b,off + a * 3 + 1,none⟩) hb).trans c1; have d2:=(hx.cell (p:=⟨b,off + a * 3 + 2,none⟩) hb).trans c2; have hn1:¬ b = w1.heap.size:=(by have:=hx.size; omega); have hn2:¬ w1.heap.size = b:=(by omega); have HM:=Lib.hid (fun o n s => tx_a (o:=o) (n:=n) (s:=s) hx hr1); clear hb1 hx hr1)
     | (go_at_call 200; refine (HB.out _ (((Below.refl _ _).drew).alloc (Nat.le_refl _) _)).mono ?_; rintro e w1 ⟨v,rfl,hr1,hb1⟩; have hx:Below w.heap.size w w1:=(((Below.refl _ _).drew).alloc (Nat.le_refl _) _).trans (hb1.mono (by simp)); have d0:=(hx.cell (p:=⟨b,off + a * 3,none⟩) hb).trans c0; have d1:=(hx.cell (p:=⟨b,off + a * 3 + 1,none⟩) hb).trans c1; have d2:=(hx.cell (p:=⟨b,off + a * 3 + 2,none⟩) hb).trans c2; have hn1:¬ b = w.heap.size:=(by omega); have hn2:¬ w.heap.size = b:=(by omega); have kk:=(hb1.block w.heap.size (by simp)).trans (heap_alloc_new w.drew _); obtain ⟨p0,p1,p2⟩:=cells_3 kk; obtain ⟨f0,f1,f2⟩:=free_3 kk; have HM:=Lib.hid (fun o n s => tx_b (o:=o) (n:=n) (s:=s) hx (Nat.le_refl _) kk HP.out hr1); clear hb1 hx hr1 kk)))
  all_goals
   have hM:=HM.out 9 nn ss
   clear HM c0 c1 c2
   try clear d0 d1 d2
   try clear p0 p1 p2 f0 f1 f2
   try clear hn1 hn2
   obtain ⟨j,hj⟩:∃ j,j = w1.heap.size:=⟨_,rfl⟩
   first | rw [← hj] at hM ⊢ | skip
   obtain ⟨y0,y1,y2⟩:=cells_3 hM.blk
   have HZ:=Lib.hid hM.below
   clear hM
   go_wp2_with fail
   go_ret
   exact ⟨by rw [HT.out]; rfl,HZ.out⟩
 by_cases h10:t.op = 10
 ·have HT:Hid (tx (.leaf t) = ⟨#[102,97,108,115,101]⟩):=Lib.hid (by unfold tx; rw [if_neg (by omega)]; rw [if_neg (by omega)]; rw [if_neg (by omega)]; rw [if_pos h10])
  rw [h10] at c0
  obtain ⟨nn,hnn⟩:∃ nn,nn = t.n:=⟨_,rfl⟩
  obtain ⟨ss,hss⟩:∃ ss,ss = t.s:=⟨_,rfl⟩
  rw [← hnn] at c1
  rw [← hss] at c2
  clear h1 hm hnn hss
  try clear hb1
  clear h2
  clear h9
  clear h10
  go_enter Tryz.func190,Tryz.ntmps190
  go_wp2_with fail
  go_region_held3 (fun w' => w'.cell? ⟨b,off + a * 3,none⟩ = some (.int .i64 10) ∧ w'.cell? ⟨b,off + a * 3 + 1,none⟩ = some (.int .i64 nn) ∧ w'.cell? ⟨b,off + a * 3 + 2,none⟩ = some (.string ss)) (go_keep)
   ((first
     | (go_at_call 200; refine (HB.out _ ((Below.refl _ _).drew)).mono ?_; rintro e w1 ⟨v,rfl,hr1,hb1⟩; have hx:Below w.heap.size w w1:=undrew hb1; have d0:=(hx.cell (p:=⟨b,off + a * 3,none⟩) hb).trans c0; have d1:=(hx.cell (p:=⟨b,off + a * 3 + 1,none⟩) hb).trans c1; have d2:=(hx.cell (p:=⟨b,off + a * 3 + 2,none⟩) hb).trans c2; have hn1:¬ b = w1.heap.size:=(by have:=hx.size; omega); have hn2:¬ w1.heap.size = b:=(by omega); have HM:=Lib.hid (fun o n s => tx_a (o:=o) (n:=n) (s:=s) hx hr1); clear hb1 hx hr1)
     | (go_at_call 200; refine (HB.out _ (((Below.refl _ _).drew).alloc (Nat.le_refl _) _)).mono ?_; rintro e w1 ⟨v,rfl,hr1,hb1⟩; have hx:Below w.heap.size w w1:=(((Below.refl _ _).drew).alloc (Nat.le_refl _) _).trans (hb1.mono (by simp)); have d0:=(hx.cell (p:=⟨b,off + a * 3,none⟩) hb).trans c0; have d1:=(hx.cell (p:=⟨b,off + a * 3 + 1,none⟩) hb).trans c1; have d2:=(hx.cell (p:=⟨b,off + a * 3 + 2,none⟩) hb).trans c2; have hn1:¬ b = w.heap.size:=(by omega); have hn2:¬ w.heap.size = b:=(by omega); have kk:=(hb1.block w.heap.size (by simp)).trans (heap_alloc_new w.drew _); obtain ⟨p0,p1,p2⟩:=cells_3 kk; obtain ⟨f0,f1,f2⟩:=free_3 kk; have HM:=Lib.hid (fun o n s => tx_b (o:=o) (n:=n) (s:=s) hx (Nat.le_refl _) kk HP.out hr1); clear hb1 hx hr1 kk)))
  all_goals
   have hM:=HM.out 10 nn ss
   clear HM c0 c1 c2
   try clear d0 d1 d2
   try clear p0 p1 p2 f0 f1 f2
   try clear hn1 hn2
   obtain ⟨j,hj⟩:∃ j,j = w1.heap.size:=⟨_,rfl⟩
   first | rw [← hj] at hM ⊢ | skip
   obtain ⟨y0,y1,y2⟩:=cells_3 hM.blk
   have HZ:=Lib.hid hM.below
   clear hM
   go_wp2_with fail
   go_ret
   exact ⟨by rw [HT.out]; rfl,HZ.out⟩
 ·have h11:t.op = 11:=by omega
  have hz:=name_size (ExprSpec.may_name (.inr h11) hm).1
  have HT:Hid (tx (.leaf t) = (⟨#[105,110,40]⟩ ++ t.s) ++ ⟨#[41]⟩):=Lib.hid (by unfold tx; rw [if_neg (by omega),if_neg (by omega),if_neg (by omega),if_neg (by omega)])
  rw [h11] at c0
  obtain ⟨nn,hnn⟩:∃ nn,nn = t.n:=⟨_,rfl⟩
  obtain ⟨ss,hss⟩:∃ ss,ss = t.s:=⟨_,rfl⟩
  rw [← hnn] at c1
  rw [← hss] at c2
  rw [← hss] at HT
  rw [← hss] at hz
  clear h1 hm hnn hss
  try clear hb1
  clear h2
  clear h9
  clear h10
  clear h11
  go_enter Tryz.func190,Tryz.ntmps190
  go_wp2_with fail
  go_region_held3 (fun w' => w'.cell? ⟨b,off + a * 3,none⟩ = some (.int .i64 11) ∧ w'.cell? ⟨b,off + a * 3 + 1,none⟩ = some (.int .i64 nn) ∧ w'.cell? ⟨b,off + a * 3 + 2,none⟩ = some (.string ss)) (go_keep)
   ((first
     | (go_at_call 200; refine (HB.out _ ((Below.refl _ _).drew)).mono ?_; rintro e w1 ⟨v,rfl,hr1,hb1⟩; have hx:Below w.heap.size w w1:=undrew hb1; have d0:=(hx.cell (p:=⟨b,off + a * 3,none⟩) hb).trans c0; have d1:=(hx.cell (p:=⟨b,off + a * 3 + 1,none⟩) hb).trans c1; have d2:=(hx.cell (p:=⟨b,off + a * 3 + 2,none⟩) hb).trans c2; have hn1:¬ b = w1.heap.size:=(by have:=hx.size; omega); have hn2:¬ w1.heap.size = b:=(by omega); have HM:=Lib.hid (fun o n s => tx_a (o:=o) (n:=n) (s:=s) hx hr1); clear hb1 hx hr1)
     | (go_at_call 200; refine (HB.out _ (((Below.refl _ _).drew).alloc (Nat.le_refl _) _)).mono ?_; rintro e w1 ⟨v,rfl,hr1,hb1⟩; have hx:Below w.heap.size w w1:=(((Below.refl _ _).drew).alloc (Nat.le_refl _) _).trans (hb1.mono (by simp)); have d0:=(hx.cell (p:=⟨b,off + a * 3,none⟩) hb).trans c0; have d1:=(hx.cell (p:=⟨b,off + a * 3 + 1,none⟩) hb).trans c1; have d2:=(hx.cell (p:=⟨b,off + a * 3 + 2,none⟩) hb).trans c2; have hn1:¬ b = w.heap.size:=(by omega); have hn2:¬ w.heap.size = b:=(by omega); have kk:=(hb1.block w.heap.size (by simp)).trans (heap_alloc_new w.drew _); obtain ⟨p0,p1,p2⟩:=cells_3 kk; obtain ⟨f0,f1,f2⟩:=free_3 kk; have HM:=Lib.hid (fun o n s => tx_b (o:=o) (n:=n) (s:=s) hx (Nat.le_refl _) kk HP.out hr1); clear hb1 hx hr1 kk)))
  all_goals
   have hM:=HM.out 11 nn ss
   clear HM c0 c1 c2
   try clear d0 d1 d2
   try clear p0 p1 p2 f0 f1 f2
   try clear hn1 hn2
   obtain ⟨j,hj⟩:∃ j,j = w1.heap.size:=⟨_,rfl⟩
   first | rw [← hj] at hM ⊢ | skip
   obtain ⟨y0,y1,y2⟩:=cells_3 hM.blk
   have HZ:=Lib.hid hM.below
   clear hM
   go_wp2_with fail
   go_ret
   exact ⟨by rw [HT.out]; rfl,HZ.out⟩
set_option maxHeartbeats 2000000 in
theorem text_neg {x:Ex} (hg:ExprSpec.Good (.un 3 x)) (ih:WithinOk x):TextOk (.un 3 x):=by
 intro A n c l a rest w h hd
 have hsz:(bk (lev x < 7) (tx x)).size ≤ 60000:=by
  have h1:=tx_size hg.2
  have h2:=congrArg List.length hd
  have h3:=h.few
  have h4:=h.len
  have h5:=bk_size (lev x < 7) (tx x)
  rw [show flat (.un 3 x) = opT 3 :: flat x from rfl,List.length_drop,List.length_append,List.length_cons] at h2
  omega
 obtain ⟨b,off,t',rfl,hb,hla,hop,hal,hfew,⟨r,hr⟩,c0,c1,c2,hbl⟩:=tx_first h hd hg
 rw [show opE (.un 3 x) = 3 from rfl] at hop
 have hal':(a:Int) < n:=by omega
 have ha0:(0:Int) ≤ (a:Int):=by omega
 have hd1:l.drop (a + 1) = flat x ++ rest:=drop_one (t:=opT 3) hd
 have hbl':∀ w',Below w.heap.size w w' → Calls Tryz.prog 200 #[.slice (some ⟨b,off,none⟩) n c,.int .i64 a] w' (RetInts w' [((a + 1:Nat):Int)]):=by
  intro w' hw
  have:=hbl w' hw
  rwa [show arN (opE (.un 3 x)) = 1 from rfl,belows_1] at this
 have HB:=Lib.hid hbl'
 have HI:=Lib.hid (fun W hW => ih (some ⟨b,off,none⟩) n c l (a + 1) rest 7 W (h.on hW) hd1)
 have HT:Hid (tx (.un 3 x) = ⟨#[45]⟩ ++ bk (lev x < 7) (tx x)):=Lib.hid rfl
 have HP:Hid (∀ y ∈ [((a + 1:Nat):Int)],y ≠ 0):=Lib.hid (by intro y hy; rw [List.mem_singleton] at hy; omega)
 obtain ⟨p,hp⟩:∃ p:Nat,p = a + 1:=⟨_,rfl⟩
 rw [← hp] at HB HI HP
 obtain ⟨sx,hsx⟩:∃ sx,sx = bk (lev x < 7) (tx x):=⟨_,rfl⟩
 rw [← hsx] at HI HT hsz
 obtain ⟨nn,hnn⟩:∃ nn,nn = t'.n:=⟨_,rfl⟩
 obtain ⟨ss,hss⟩:∃ ss,ss = t'.s:=⟨_,rfl⟩
 rw [← hnn] at c1
 rw [← hss] at c2
 rw [hop] at c0
 clear h hd hop hla hr hbl hbl' hg ih hd1 hp hsx hnn hss
 go_enter Tryz.func190,Tryz.ntmps190
 go_wp2_with fail
 go_region_held3 (fun w' => w'.cell? ⟨b,off + a * 3,none⟩ = some (.int .i64 3) ∧ w'.cell? ⟨b,off + a * 3 + 1,none⟩ = some (.int .i64 nn) ∧ w'.cell? ⟨b,off + a * 3 + 2,none⟩ = some (.string ss)) (go_keep)
  ((first
    | (go_at_call 200; refine (HB.out _ ((Below.refl _ _).drew)).mono ?_; rintro e w1 ⟨v,rfl,hr1,hb1⟩; have hx:Below w.heap.size w w1:=undrew hb1; have d0:=(hx.cell (p:=⟨b,off + a * 3,none⟩) hb).trans c0; have d1:=(hx.cell (p:=⟨b,off + a * 3 + 1,none⟩) hb).trans c1; have d2:=(hx.cell (p:=⟨b,off + a * 3 + 2,none⟩) hb).trans c2; have hn1:¬ b = w1.heap.size:=(by have:=hx.size; omega); have hn2:¬ w1.heap.size = b:=(by omega); have HM:=Lib.hid (fun o n s => tx_a (o:=o) (n:=n) (s:=s) hx hr1); clear hb1 hx hr1)
    | (go_at_call 200; refine (HB.out _ (((Below.refl _ _).drew).alloc (Nat.le_refl _) _)).mono ?_; rintro e w1 ⟨v,rfl,hr1,hb1⟩; have hx:Below w.heap.size w w1:=(((Below.refl _ _).drew).alloc (Nat.le_refl _) _).trans (hb1.mono (by simp)); have d0:=(hx.cell (p:=⟨b,off + a * 3,none⟩) hb).trans c0; have d1:=(hx.cell (p:=⟨b,off + a * 3 + 1,none⟩) hb).trans c1; have d2:=(hx.cell (p:=⟨b,off + a * 3 + 2,none⟩) hb).trans c2; have hn1:¬ b = w.heap.size:=(by omega); have hn2:¬ w.heap.size = b:=(by omega); have kk:=(hb1.block w.heap.size (by simp)).trans (heap_alloc_new w.drew _); obtain ⟨p0,p1,p2⟩:=cells_3 kk; obtain ⟨f0,f1,f2⟩:=free_3 kk; have HM:=Lib.hid (fun o n s => tx_b (o:=o) (n:=n) (s:=s) hx (Nat.le_refl _) kk HP.out hr1); clear hb1 hx hr1 kk)))
 all_goals
  have hM:=HM.out 3 nn ss
  clear HM c0 c1 c2
  try clear d0 d1 d2
  try clear p0 p1 p2 f0 f1 f2
  try clear hn1 hn2
  obtain ⟨j,hj⟩:∃ j,j = w1.heap.size:=⟨_,rfl⟩
  first | rw [← hj] at hM ⊢ | skip
  obtain ⟨y0,y1,y2⟩:=cells_3 hM.blk
  obtain ⟨bR,oR,cR,rfl,hbR,r0⟩:=row_1 hM.row
  have HZ:=Lib.hid hM.below
  clear hM
  go_wp2_with (go_at_call 201; (with_reducible refine (HI.out _ HZ.out).mono ?_))
  rintro e w2 ⟨rfl,hb2⟩
  have HZ2:=Lib.hid (below_two' HZ.out hb2)
  clear hb2 y0 y1 y2 r0
  go_wp2_with fail
  go_ret
  exact ⟨by rw [HT.out]; rfl,HZ2.out⟩
set_option maxHeartbeats 2000000 in
theorem text_not {x:Ex} (hg:ExprSpec.Good (.un 12 x)) (ih:WithinOk x):TextOk (.un 12 x):=by
 intro A n c l a rest w h hd
 have hsz:(bk (lev x < 3) (tx x)).size ≤ 60000:=by
  have h1:=tx_size hg.2
  have h2:=congrArg List.length hd
  have h3:=h.few
  have h4:=h.len
  have h5:=bk_size (lev x < 3) (tx x)
  rw [show flat (.un 12 x) = opT 12 :: flat x from rfl,List.length_drop,List.length_append,List.length_cons] at h2
  omega
 obtain ⟨b,off,t',rfl,hb,hla,hop,hal,hfew,⟨r,hr⟩,c0,c1,c2,hbl⟩:=tx_first h hd hg
 rw [show opE (.un 12 x) = 12 from rfl] at hop
 have hal':(a:Int) < n:=by omega
 have ha0:(0:Int) ≤ (a:Int):=by omega
 have hd1:l.drop (a + 1) = flat x ++ rest:=drop_one (t:=opT 12) hd
 have hbl':∀ w',Below w.heap.size w w' → Calls Tryz.prog 200 #[.slice (some ⟨b,off,none⟩) n c,.int .i64 a] w' (RetInts w' [((a + 1:Nat):Int)]):=by
  intro w' hw
  have:=hbl w' hw
  rwa [show arN (opE (.un 12 x)) = 1 from rfl,belows_1] at this
 have HB:=Lib.hid hbl'
 have HI:=Lib.hid (fun W hW => ih (some ⟨b,off,none⟩) n c l (a + 1) rest 3 W (h.on hW) hd1)
 have HT:Hid (tx (.un 12 x) = ⟨#[110,111,116,32]⟩ ++ bk (lev x < 3) (tx x)):=Lib.hid rfl
 have HP:Hid (∀ y ∈ [((a + 1:Nat):Int)],y ≠ 0):=Lib.hid (by intro y hy; rw [List.mem_singleton] at hy; omega)
 obtain ⟨p,hp⟩:∃ p:Nat,p = a + 1:=⟨_,rfl⟩
 rw [← hp] at HB HI HP
 obtain ⟨sx,hsx⟩:∃ sx,sx = bk (lev x < 3) (tx x):=⟨_,rfl⟩
 rw [← hsx] at HI HT hsz
 obtain ⟨nn,hnn⟩:∃ nn,nn = t'.n:=⟨_,rfl⟩
 obtain ⟨ss,hss⟩:∃ ss,ss = t'.s:=⟨_,rfl⟩
 rw [← hnn] at c1
 rw [← hss] at c2
 rw [hop] at c0
 clear h hd hop hla hr hbl hbl' hg ih hd1 hp hsx hnn hss
 go_enter Tryz.func190,Tryz.ntmps190
 go_wp2_with fail
 go_region_held3 (fun w' => w'.cell? ⟨b,off + a * 3,none⟩ = some (.int .i64 12) ∧ w'.cell? ⟨b,off + a * 3 + 1,none⟩ = some (.int .i64 nn) ∧ w'.cell? ⟨b,off + a * 3 + 2,none⟩ = some (.string ss)) (go_keep)
  ((first
    | (go_at_call 200; refine (HB.out _ ((Below.refl _ _).drew)).mono ?_; rintro e w1 ⟨v,rfl,hr1,hb1⟩; have hx:Below w.heap.size w w1:=undrew hb1; have d0:=(hx.cell (p:=⟨b,off + a * 3,none⟩) hb).trans c0; have d1:=(hx.cell (p:=⟨b,off + a * 3 + 1,none⟩) hb).trans c1; have d2:=(hx.cell (p:=⟨b,off + a * 3 + 2,none⟩) hb).trans c2; have hn1:¬ b = w1.heap.size:=(by have:=hx.size; omega); have hn2:¬ w1.heap.size = b:=(by omega); have HM:=Lib.hid (fun o n s => tx_a (o:=o) (n:=n) (s:=s) hx hr1); clear hb1 hx hr1)
    | (go_at_call 200; refine (HB.out _ (((Below.refl _ _).drew).alloc (Nat.le_refl _) _)).mono ?_; rintro e w1 ⟨v,rfl,hr1,hb1⟩; have hx:Below w.heap.size w w1:=(((Below.refl _ _).drew).alloc (Nat.le_refl _) _).trans (hb1.mono (by simp)); have d0:=(hx.cell (p:=⟨b,off + a * 3,none⟩) hb).trans c0; have d1:=(hx.cell (p:=⟨b,off + a * 3 + 1,none⟩) hb).trans c1; have d2:=(hx.cell (p:=⟨b,off + a * 3 + 2,none⟩) hb).trans c2; have hn1:¬ b = w.heap.size:=(by omega); have hn2:¬ w.heap.size = b:=(by omega); have kk:=(hb1.block w.heap.size (by simp)).trans (heap_alloc_new w.drew _); obtain ⟨p0,p1,p2⟩:=cells_3 kk; obtain ⟨f0,f1,f2⟩:=free_3 kk; have HM:=Lib.hid (fun o n s => tx_b (o:=o) (n:=n) (s:=s) hx (Nat.le_refl _) kk HP.out hr1); clear hb1 hx hr1 kk)))
 all_goals
  have hM:=HM.out 12 nn ss
  clear HM c0 c1 c2
  try clear d0 d1 d2
  try clear p0 p1 p2 f0 f1 f2
  try clear hn1 hn2
  obtain ⟨j,hj⟩:∃ j,j = w1.heap.size:=⟨_,rfl⟩
  first | rw [← hj] at hM ⊢ | skip
  obtain ⟨y0,y1,y2⟩:=cells_3 hM.blk
  obtain ⟨bR,oR,cR,rfl,hbR,r0⟩:=row_1 hM.row
  have HZ:=Lib.hid hM.below
  clear hM
  go_wp2_with (go_at_call 201; (with_reducible refine (HI.out _ HZ.out).mono ?_))
  rintro e w2 ⟨rfl,hb2⟩
  have HZ2:=Lib.hid (below_two' HZ.out hb2)
  clear hb2 y0 y1 y2 r0
  go_wp2_with fail
  go_ret
  exact ⟨by rw [HT.out]; rfl,HZ2.out⟩
set_option maxHeartbeats 4000000 in
theorem text_min {x y:Ex} (hg:ExprSpec.Good (.bin 7 x y)) (ihx:TextOk x) (ihy:TextOk y):TextOk (.bin 7 x y):=by
 intro A n c l a rest w h hd
 have hsz:(tx x).size ≤ 60000 ∧ (tx y).size ≤ 60000:=by
  have h1:=tx_size hg.2.1
  have h1':=tx_size hg.2.2
  have h2:=congrArg List.length hd
  have h3:=h.few
  have h4:=h.len
  have h5:=bk_size (lev x < (sgOf 7).left) (tx x)
  have h6:=bk_size (lev y < (sgOf 7).right) (tx y)
  rw [show flat (.bin 7 x y) = opT 7 :: (flat x ++ flat y) from rfl,List.length_drop,List.length_append,List.length_cons,List.length_append] at h2
  omega
 obtain ⟨hsz1,hsz2⟩:=hsz
 obtain ⟨b,off,t',rfl,hb,hla,hop,hal,hfew,⟨r,hr⟩,c0,c1,c2,hbl⟩:=tx_first h hd hg
 rw [show opE (.bin 7 x y) = 7 from rfl] at hop
 have hal':(a:Int) < n:=by omega
 have ha0:(0:Int) ≤ (a:Int):=by omega
 have hd1:l.drop (a + 1) = flat x ++ (flat y ++ rest):=by
  rw [← List.append_assoc]; exact drop_one (t:=opT 7) hd
 have hd2:l.drop (a + 1 + (flat x).length) = flat y ++ rest:=by
  rw [← List.drop_drop,hd1,List.drop_left]
 have hbl':∀ w',Below w.heap.size w w' → Calls Tryz.prog 200 #[.slice (some ⟨b,off,none⟩) n c,.int .i64 a] w' (RetInts w' [((a + 1:Nat):Int),((a + 1 + (flat x).length:Nat):Int)]):=by
  intro w' hw
  have:=hbl w' hw
  rwa [show arN (opE (.bin 7 x y)) = 2 from by show (ar 7).toNat = 2; rw [hg.1]; rfl,belows_2 (by rw [hd1]; exact cnt_more _ (flat_wf hg.2.1).1)] at this
 have HB:=Lib.hid hbl'
 have HI:=Lib.hid (fun W hW => ihx (some ⟨b,off,none⟩) n c l (a + 1) (flat y ++ rest) W (h.on hW) hd1)
 have HJ:=Lib.hid (fun W hW => ihy (some ⟨b,off,none⟩) n c l (a + 1 + (flat x).length) rest W (h.on hW) hd2)
 have HT:Hid (tx (.bin 7 x y) = (((⟨#[109,105,110,40]⟩ ++ tx x) ++ ⟨#[44,32]⟩) ++ tx y) ++ ⟨#[41]⟩):=Lib.hid rfl
 have HP:Hid (∀ z ∈ [((a + 1:Nat):Int),((a + 1 + (flat x).length:Nat):Int)],z ≠ 0):=Lib.hid (by intro z hz; simp only [List.mem_cons,List.not_mem_nil,or_false] at hz; omega)
 obtain ⟨p,hp⟩:∃ p:Nat,p = a + 1:=⟨_,rfl⟩
 obtain ⟨q,hq⟩:∃ q:Nat,q = a + 1 + (flat x).length:=⟨_,rfl⟩
 rw [← hq] at HB HJ HP
 rw [← hp] at HB HI HP
 obtain ⟨sx,hsx⟩:∃ sx,sx = tx x:=⟨_,rfl⟩
 obtain ⟨sy,hsy⟩:∃ sy,sy = tx y:=⟨_,rfl⟩
 rw [← hsx] at HI HT hsz1
 rw [← hsy] at HJ HT hsz2
 obtain ⟨nn,hnn⟩:∃ nn,nn = t'.n:=⟨_,rfl⟩
 obtain ⟨ss,hss⟩:∃ ss,ss = t'.s:=⟨_,rfl⟩
 rw [← hnn] at c1
 rw [← hss] at c2
 rw [hop] at c0
 clear h hd hop hla hr hbl hbl' hg ihx ihy hd1 hd2 hp hq hsx hsy hnn hss
 go_enter Tryz.func190,Tryz.ntmps190
 go_wp2_with fail
 go_region_held3 (fun w' => w'.cell? ⟨b,off + a * 3,none⟩ = some (.int .i64 7) ∧ w'.cell? ⟨b,off + a * 3 + 1,none⟩ = some (.int .i64 nn) ∧ w'.cell? ⟨b,off + a * 3 + 2,none⟩ = some (.string ss)) (go_keep)
  ((first
    | (go_at_call 200; refine (HB.out _ ((Below.refl _ _).drew)).mono ?_; rintro e w1 ⟨v,rfl,hr1,hb1⟩; have hx:Below w.heap.size w w1:=undrew hb1; have d0:=(hx.cell (p:=⟨b,off + a * 3,none⟩) hb).trans c0; have d1:=(hx.cell (p:=⟨b,off + a * 3 + 1,none⟩) hb).trans c1; have d2:=(hx.cell (p:=⟨b,off + a * 3 + 2,none⟩) hb).trans c2; have hn1:¬ b = w1.heap.size:=(by have:=hx.size; omega); have hn2:¬ w1.heap.size = b:=(by omega); have HM:=Lib.hid (fun o n s => tx_a (o:=o) (n:=n) (s:=s) hx hr1); clear hb1 hx hr1)
    | (go_at_call 200; refine (HB.out _ (((Below.refl _ _).drew).alloc (Nat.le_refl _) _)).mono ?_; rintro e w1 ⟨v,rfl,hr1,hb1⟩; have hx:Below w.heap.size w w1:=(((Below.refl _ _).drew).alloc (Nat.le_refl _) _).trans (hb1.mono (by simp)); have d0:=(hx.cell (p:=⟨b,off + a * 3,none⟩) hb).trans c0; have d1:=(hx.cell (p:=⟨b,off + a * 3 + 1,none⟩) hb).trans c1; have d2:=(hx.cell (p:=⟨b,off + a * 3 + 2,none⟩) hb).trans c2; have hn1:¬ b = w.heap.size:=(by omega); have hn2:¬ w.heap.size = b:=(by omega); have kk:=(hb1.block w.heap.size (by simp)).trans (heap_alloc_new w.drew _); obtain ⟨p0,p1,p2⟩:=cells_3 kk; obtain ⟨f0,f1,f2⟩:=free_3 kk; have HM:=Lib.hid (fun o n s => tx_b (o:=o) (n:=n) (s:=s) hx (Nat.le_refl _) kk HP.out hr1); clear hb1 hx hr1 kk)))
 all_goals
  have hM:=HM.out 7 nn ss
  clear HM c0 c1 c2
  try clear d0 d1 d2
  try clear p0 p1 p2 f0 f1 f2
  try clear hn1 hn2
  obtain ⟨j,hj⟩:∃ j,j = w1.heap.size:=⟨_,rfl⟩
  first | rw [← hj] at hM ⊢ | skip
  obtain ⟨y0,y1,y2⟩:=cells_3 hM.blk
  obtain ⟨bR,oR,cR,rfl,hbR,r0,r1⟩:=row_2 hM.row
  have HZ:=Lib.hid hM.below
  clear hM
  go_wp2_with fail
  try clear hj
  have z0:¬ 9223372036854775807 < 4 + sx.size:=by omega
  have z1:¬ 9223372036854775807 < 4 + sx.size + 2:=by omega
  have z2:¬ 9223372036854775807 < 4 + sx.size + 2 + sy.size:=by omega
  have z3:¬ 9223372036854775807 < 4 + sx.size + 2 + sy.size + 1:=by omega
  go_region_held3 (fun w' => w'.cell? ⟨bR,oR,none⟩ = some (.int .i64 p) ∧ w'.cell? ⟨bR,oR + 1,none⟩ = some (.int .i64 q)) (go_keep)
   ((first
     | (go_at_call 190; (with_reducible refine (HI.out _ HZ.out.drew).mono ?_); rintro e w3 ⟨rfl,hb3'⟩; have hb3:=undrew hb3'; have HZ3:=Lib.hid (below_two' HZ.out hb3); have e0:=(hb3.cell (p:=⟨bR,oR,none⟩) hbR).trans r0; have e1:=(hb3.cell (p:=⟨bR,oR + 1,none⟩) hbR).trans r1; have hbR3:=Nat.lt_of_lt_of_le hbR hb3.size; clear hb3 hb3')
     | (go_at_call 190; (with_reducible refine (HJ.out _ HZ3.out).mono ?_); rintro e w4 ⟨rfl,hb4⟩; have HZ4:=Lib.hid (below_two' HZ3.out hb4); have u0:=(hb4.cell (p:=⟨bR,oR,none⟩) hbR3).trans e0; have u1:=(hb4.cell (p:=⟨bR,oR + 1,none⟩) hbR3).trans e1; clear hb4)))
  all_goals
   go_wp2_with fail
   go_ret
   exact ⟨by rw [HT.out]; rfl,HZ4.out⟩
set_option maxHeartbeats 4000000 in
theorem text_max {x y:Ex} (hg:ExprSpec.Good (.bin 8 x y)) (ihx:TextOk x) (ihy:TextOk y):TextOk (.bin 8 x y):=by
 intro A n c l a rest w h hd
 have hsz:(tx x).size ≤ 60000 ∧ (tx y).size ≤ 60000:=by
  have h1:=tx_size hg.2.1
  have h1':=tx_size hg.2.2
  have h2:=congrArg List.length hd
  have h3:=h.few
  have h4:=h.len
  have h5:=bk_size (lev x < (sgOf 8).left) (tx x)
  have h6:=bk_size (lev y < (sgOf 8).right) (tx y)
  rw [show flat (.bin 8 x y) = opT 8 :: (flat x ++ flat y) from rfl,List.length_drop,List.length_append,List.length_cons,List.length_append] at h2
  omega
 obtain ⟨hsz1,hsz2⟩:=hsz
 obtain ⟨b,off,t',rfl,hb,hla,hop,hal,hfew,⟨r,hr⟩,c0,c1,c2,hbl⟩:=tx_first h hd hg
 rw [show opE (.bin 8 x y) = 8 from rfl] at hop
 have hal':(a:Int) < n:=by omega
 have ha0:(0:Int) ≤ (a:Int):=by omega
 have hd1:l.drop (a + 1) = flat x ++ (flat y ++ rest):=by
  rw [← List.append_assoc]; exact drop_one (t:=opT 8) hd
 have hd2:l.drop (a + 1 + (flat x).length) = flat y ++ rest:=by
  rw [← List.drop_drop,hd1,List.drop_left]
 have hbl':∀ w',Below w.heap.size w w' → Calls Tryz.prog 200 #[.slice (some ⟨b,off,none⟩) n c,.int .i64 a] w' (RetInts w' [((a + 1:Nat):Int),((a + 1 + (flat x).length:Nat):Int)]):=by
  intro w' hw
  have:=hbl w' hw
  rwa [show arN (opE (.bin 8 x y)) = 2 from by show (ar 8).toNat = 2; rw [hg.1]; rfl,belows_2 (by rw [hd1]; exact cnt_more _ (flat_wf hg.2.1).1)] at this
 have HB:=Lib.hid hbl'
 have HI:=Lib.hid (fun W hW => ihx (some ⟨b,off,none⟩) n c l (a + 1) (flat y ++ rest) W (h.on hW) hd1)
 have HJ:=Lib.hid (fun W hW => ihy (some ⟨b,off,none⟩) n c l (a + 1 + (flat x).length) rest W (h.on hW) hd2)
 have HT:Hid (tx (.bin 8 x y) = (((⟨#[109,97,120,40]⟩ ++ tx x) ++ ⟨#[44,32]⟩) ++ tx y) ++ ⟨#[41]⟩):=Lib.hid rfl
 have HP:Hid (∀ z ∈ [((a + 1:Nat):Int),((a + 1 + (flat x).length:Nat):Int)],z ≠ 0):=Lib.hid (by intro z hz; simp only [List.mem_cons,List.not_mem_nil,or_false] at hz; omega)
 obtain ⟨p,hp⟩:∃ p:Nat,p = a + 1:=⟨_,rfl⟩
 obtain ⟨q,hq⟩:∃ q:Nat,q = a + 1 + (flat x).length:=⟨_,rfl⟩
 rw [← hq] at HB HJ HP
 rw [← hp] at HB HI HP
 obtain ⟨sx,hsx⟩:∃ sx,sx = tx x:=⟨_,rfl⟩
 obtain ⟨sy,hsy⟩:∃ sy,sy = tx y:=⟨_,rfl⟩
 rw [← hsx] at HI HT hsz1
 rw [← hsy] at HJ HT hsz2
 obtain ⟨nn,hnn⟩:∃ nn,nn = t'.n:=⟨_,rfl⟩
 obtain ⟨ss,hss⟩:∃ ss,ss = t'.s:=⟨_,rfl⟩
 rw [← hnn] at c1
 rw [← hss] at c2
 rw [hop] at c0
 clear h hd hop hla hr hbl hbl' hg ihx ihy hd1 hd2 hp hq hsx hsy hnn hss
 go_enter Tryz.func190,Tryz.ntmps190
 go_wp2_with fail
 go_region_held3 (fun w' => w'.cell? ⟨b,off + a * 3,none⟩ = some (.int .i64 8) ∧ w'.cell? ⟨b,off + a * 3 + 1,none⟩ = some (.int .i64 nn) ∧ w'.cell? ⟨b,off + a * 3 + 2,none⟩ = some (.string ss)) (go_keep)
  ((first
    | (go_at_call 200; refine (HB.out _ ((Below.refl _ _).drew)).mono ?_; rintro e w1 ⟨v,rfl,hr1,hb1⟩; have hx:Below w.heap.size w w1:=undrew hb1; have d0:=(hx.cell (p:=⟨b,off + a * 3,none⟩) hb).trans c0; have d1:=(hx.cell (p:=⟨b,off + a * 3 + 1,none⟩) hb).trans c1; have d2:=(hx.cell (p:=⟨b,off + a * 3 + 2,none⟩) hb).trans c2; have hn1:¬ b = w1.heap.size:=(by have:=hx.size; omega); have hn2:¬ w1.heap.size = b:=(by omega); have HM:=Lib.hid (fun o n s => tx_a (o:=o) (n:=n) (s:=s) hx hr1); clear hb1 hx hr1)
    | (go_at_call 200; refine (HB.out _ (((Below.refl _ _).drew).alloc (Nat.le_refl _) _)).mono ?_; rintro e w1 ⟨v,rfl,hr1,hb1⟩; have hx:Below w.heap.size w w1:=(((Below.refl _ _).drew).alloc (Nat.le_refl _) _).trans (hb1.mono (by simp)); have d0:=(hx.cell (p:=⟨b,off + a * 3,none⟩) hb).trans c0; have d1:=(hx.cell (p:=⟨b,off + a * 3 + 1,none⟩) hb).trans c1; have d2:=(hx.cell (p:=⟨b,off + a * 3 + 2,none⟩) hb).trans c2; have hn1:¬ b = w.heap.size:=(by omega); have hn2:¬ w.heap.size = b:=(by omega); have kk:=(hb1.block w.heap.size (by simp)).trans (heap_alloc_new w.drew _); obtain ⟨p0,p1,p2⟩:=cells_3 kk; obtain ⟨f0,f1,f2⟩:=free_3 kk; have HM:=Lib.hid (fun o n s => tx_b (o:=o) (n:=n) (s:=s) hx (Nat.le_refl _) kk HP.out hr1); clear hb1 hx hr1 kk)))
 all_goals
  have hM:=HM.out 8 nn ss
  clear HM c0 c1 c2
  try clear d0 d1 d2
  try clear p0 p1 p2 f0 f1 f2
  try clear hn1 hn2
  obtain ⟨j,hj⟩:∃ j,j = w1.heap.size:=⟨_,rfl⟩
  first | rw [← hj] at hM ⊢ | skip
  obtain ⟨y0,y1,y2⟩:=cells_3 hM.blk
  obtain ⟨bR,oR,cR,rfl,hbR,r0,r1⟩:=row_2 hM.row
  have HZ:=Lib.hid hM.below
  clear hM
  go_wp2_with fail
  try clear hj
  have z0:¬ 9223372036854775807 < 4 + sx.size:=by omega
  have z1:¬ 9223372036854775807 < 4 + sx.size + 2:=by omega
  have z2:¬ 9223372036854775807 < 4 + sx.size + 2 + sy.size:=by omega
  have z3:¬ 9223372036854775807 < 4 + sx.size + 2 + sy.size + 1:=by omega
  go_region_held3 (fun w' => w'.cell? ⟨bR,oR,none⟩ = some (.int .i64 p) ∧ w'.cell? ⟨bR,oR + 1,none⟩ = some (.int .i64 q)) (go_keep)
   ((first
     | (go_at_call 190; (with_reducible refine (HI.out _ HZ.out.drew).mono ?_); rintro e w3 ⟨rfl,hb3'⟩; have hb3:=undrew hb3'; have HZ3:=Lib.hid (below_two' HZ.out hb3); have e0:=(hb3.cell (p:=⟨bR,oR,none⟩) hbR).trans r0; have e1:=(hb3.cell (p:=⟨bR,oR + 1,none⟩) hbR).trans r1; have hbR3:=Nat.lt_of_lt_of_le hbR hb3.size; clear hb3 hb3')
     | (go_at_call 190; (with_reducible refine (HJ.out _ HZ3.out).mono ?_); rintro e w4 ⟨rfl,hb4⟩; have HZ4:=Lib.hid (below_two' HZ3.out hb4); have u0:=(hb4.cell (p:=⟨bR,oR,none⟩) hbR3).trans e0; have u1:=(hb4.cell (p:=⟨bR,oR + 1,none⟩) hbR3).trans e1; clear hb4)))
  all_goals
   go_wp2_with fail
   go_ret
   exact ⟨by rw [HT.out]; rfl,HZ4.out⟩
set_option maxHeartbeats 4000000 in
theorem text_bin {o:Int} {x y:Ex} (h7:¬ (o = 7 ∨ o = 8)) (hg:ExprSpec.Good (.bin o x y)) (ihx:WithinOk x) (ihy:WithinOk y):TextOk (.bin o x y):=by
 intro A n c l a rest w h hd
 have hsz:(bk (lev x < (sgOf o).left) (tx x)).size ≤ 60000 ∧ (bk (lev y < (sgOf o).right) (tx y)).size ≤ 60000:=by
  have h1:=tx_size hg.2.1
  have h1':=tx_size hg.2.2
  have h2:=congrArg List.length hd
  have h3:=h.few
  have h4:=h.len
  have h5:=bk_size (lev x < (sgOf o).left) (tx x)
  have h6:=bk_size (lev y < (sgOf o).right) (tx y)
  rw [show flat (.bin o x y) = opT o :: (flat x ++ flat y) from rfl,List.length_drop,List.length_append,List.length_cons,List.length_append] at h2
  omega
 obtain ⟨hsz1,hsz2⟩:=hsz
 obtain ⟨b,off,t',rfl,hb,hla,hop,hal,hfew,⟨r,hr⟩,c0,c1,c2,hbl⟩:=tx_first h hd hg
 rw [show opE (.bin o x y) = o from rfl] at hop
 have hal':(a:Int) < n:=by omega
 have ha0:(0:Int) ≤ (a:Int):=by omega
 have hd1:l.drop (a + 1) = flat x ++ (flat y ++ rest):=by
  rw [← List.append_assoc]; exact drop_one (t:=opT o) hd
 have hd2:l.drop (a + 1 + (flat x).length) = flat y ++ rest:=by
  rw [← List.drop_drop,hd1,List.drop_left]
 have hbl':∀ w',Below w.heap.size w w' → Calls Tryz.prog 200 #[.slice (some ⟨b,off,none⟩) n c,.int .i64 a] w' (RetInts w' [((a + 1:Nat):Int),((a + 1 + (flat x).length:Nat):Int)]):=by
  intro w' hw
  have:=hbl w' hw
  rwa [show arN (opE (.bin o x y)) = 2 from by show (ar o).toNat = 2; rw [hg.1]; rfl,belows_2 (by rw [hd1]; exact cnt_more _ (flat_wf hg.2.1).1)] at this
 have HB:=Lib.hid hbl'
 have HI:=Lib.hid (fun W hW => ihx (some ⟨b,off,none⟩) n c l (a + 1) (flat y ++ rest) (sgOf o).left W (h.on hW) hd1)
 have HJ:=Lib.hid (fun W hW => ihy (some ⟨b,off,none⟩) n c l (a + 1 + (flat x).length) rest (sgOf o).right W (h.on hW) hd2)
 have HT:Hid (tx (.bin o x y) = (((bk (lev x < (sgOf o).left) (tx x) ++ ⟨#[32]⟩) ++ (sgOf o).t) ++ ⟨#[32]⟩) ++ bk (lev y < (sgOf o).right) (tx y)):=Lib.hid (tx_bin h7 x y)
 have HP:Hid (∀ z ∈ [((a + 1:Nat):Int),((a + 1 + (flat x).length:Nat):Int)],z ≠ 0):=Lib.hid (by intro z hz; simp only [List.mem_cons,List.not_mem_nil,or_false] at hz; omega)
 obtain ⟨p,hp⟩:∃ p:Nat,p = a + 1:=⟨_,rfl⟩
 obtain ⟨q,hq⟩:∃ q:Nat,q = a + 1 + (flat x).length:=⟨_,rfl⟩
 rw [← hq] at HB HJ HP
 rw [← hp] at HB HI HP
 obtain ⟨sx,hsx⟩:∃ sx,sx = bk (lev x < (sgOf o).left) (tx x):=⟨_,rfl⟩
 obtain ⟨sy,hsy⟩:∃ sy,sy = bk (lev y < (sgOf o).right) (tx y):=⟨_,rfl⟩
 rw [← hsx] at HI HT hsz1
 rw [← hsy] at HJ HT hsz2
 obtain ⟨nn,hnn⟩:∃ nn,nn = t'.n:=⟨_,rfl⟩
 obtain ⟨ss,hss⟩:∃ ss,ss = t'.s:=⟨_,rfl⟩
 rw [← hnn] at c1
 rw [← hss] at c2
 rw [hop] at c0
 obtain ⟨sg,hsg⟩:∃ sg,sg = sgOf o:=⟨_,rfl⟩
 have hsz3:sg.t.size ≤ 3:=by rw [hsg]; exact sg_size _ (sgOf_mem hg.1 h7).1
 have HSG:Hid (∀ W,Below w.heap.size w W → Calls Tryz.prog 202 #[.int .i64 o] W fun e w' => e = .returned (.agg #[.string sg.t,.int .i64 sg.op,.int .i64 sg.lev,.int .i64 sg.left,.int .i64 sg.right]) ∧ Below W.heap.size W w'):=Lib.hid (fun W hW => by rw [hsg]; exact signOf_any o W (h.sg.keep hW))
 rw [← hsg] at HI HJ HT
 have h0:¬ (o = 1 ∨ o = 2 ∨ o = 9 ∨ o = 10 ∨ o = 11 ∨ o = 12 ∨ o = 3):=by
  rintro (rfl | rfl | rfl | rfl | rfl | rfl | rfl) <;> exact absurd hg.1 (by decide)
 have e1:(o == 1) = false:=by simp; omega
 have e2:(o == 2) = false:=by simp; omega
 have e3:(o == 9) = false:=by simp; omega
 have e4:(o == 10) = false:=by simp; omega
 have e5:(o == 11) = false:=by simp; omega
 have e6:(o == 7) = false:=by simp; omega
 have e7:(o == 8) = false:=by simp; omega
 have e8:(o == 12) = false:=by simp; omega
 have e9:(o == 3) = false:=by simp; omega
 clear h hd hop hla hr hbl hbl' hg ihx ihy hd1 hd2 hp hq hsx hsy hnn hss h7 h0 hsg
 go_enter Tryz.func190,Tryz.ntmps190
 go_wp2_with fail
 go_region_held3 (fun w' => w'.cell? ⟨b,off + a * 3,none⟩ = some (.int .i64 o) ∧ w'.cell? ⟨b,off + a * 3 + 1,none⟩ = some (.int .i64 nn) ∧ w'.cell? ⟨b,off + a * 3 + 2,none⟩ = some (.string ss)) (go_keep)
  ((first
    | (go_at_call 200; refine (HB.out _ ((Below.refl _ _).drew)).mono ?_; rintro e w1 ⟨v,rfl,hr1,hb1⟩; have hx:Below w.heap.size w w1:=undrew hb1; have d0:=(hx.cell (p:=⟨b,off + a * 3,none⟩) hb).trans c0; have d1:=(hx.cell (p:=⟨b,off + a * 3 + 1,none⟩) hb).trans c1; have d2:=(hx.cell (p:=⟨b,off + a * 3 + 2,none⟩) hb).trans c2; have hn1:¬ b = w1.heap.size:=(by have:=hx.size; omega); have hn2:¬ w1.heap.size = b:=(by omega); have HM:=Lib.hid (fun o n s => tx_a (o:=o) (n:=n) (s:=s) hx hr1); clear hb1 hx hr1)
    | (go_at_call 200; refine (HB.out _ (((Below.refl _ _).drew).alloc (Nat.le_refl _) _)).mono ?_; rintro e w1 ⟨v,rfl,hr1,hb1⟩; have hx:Below w.heap.size w w1:=(((Below.refl _ _).drew).alloc (Nat.le_refl _) _).trans (hb1.mono (by simp)); have d0:=(hx.cell (p:=⟨b,off + a * 3,none⟩) hb).trans c0; have d1:=(hx.cell (p:=⟨b,off + a * 3 + 1,none⟩) hb).trans c1; have d2:=(hx.cell (p:=⟨b,off + a * 3 + 2,none⟩) hb).trans c2; have hn1:¬ b = w.heap.size:=(by omega); have hn2:¬ w.heap.size = b:=(by omega); have kk:=(hb1.block w.heap.size (by simp)).trans (heap_alloc_new w.drew _); obtain ⟨p0,p1,p2⟩:=cells_3 kk; obtain ⟨f0,f1,f2⟩:=free_3 kk; have HM:=Lib.hid (fun o n s => tx_b (o:=o) (n:=n) (s:=s) hx (Nat.le_refl _) kk HP.out hr1); clear hb1 hx hr1 kk)))
 all_goals
  have hM:=HM.out o nn ss
  clear HM c0 c1 c2
  try clear d0 d1 d2
  try clear p0 p1 p2 f0 f1 f2
  try clear hn1 hn2
  obtain ⟨j,hj⟩:∃ j,j = w1.heap.size:=⟨_,rfl⟩
  first | rw [← hj] at hM ⊢ | skip
  obtain ⟨y0,y1,y2⟩:=cells_3 hM.blk
  obtain ⟨bR,oR,cR,rfl,hbR,r0,r1⟩:=row_2 hM.row
  have HZ:=Lib.hid hM.below
  clear hM
  go_wp2_with (go_at_call 202; (with_reducible refine (HSG.out _ HZ.out).mono ?_))
  rintro e w2 ⟨rfl,hb2⟩
  have HZ2:=Lib.hid ((below_two' HZ.out hb2).alloc (below_two' HZ.out hb2).size (sgO sg))
  have R0:=Lib.hid ((hb2.cell (p:=⟨bR,oR,none⟩) hbR).trans r0)
  have R1:=Lib.hid ((hb2.cell (p:=⟨bR,oR + 1,none⟩) hbR).trans r1)
  have hbR2:bR < w2.heap.size:=Nat.lt_of_lt_of_le hbR hb2.size
  have HK:=Lib.hid (heap_alloc_new w2 (sgO sg))
  have hnR:¬ bR = w2.heap.size:=by omega
  have hnS:¬ w2.heap.size = bR:=by omega
  clear hb2 y0 y1 y2 r0 r1
  have r0:=R0.out
  have r1:=R1.out
  go_wp2_with fail
  obtain ⟨g0,g1,g2,g3,g4⟩:=cells_5 HK.out
  have q0:=(((Below.refl _ _).alloc (Nat.le_refl _) (sgO sg)).cell (p:=⟨bR,oR,none⟩) hbR2).trans R0.out
  have q1:=(((Below.refl _ _).alloc (Nat.le_refl _) (sgO sg)).cell (p:=⟨bR,oR + 1,none⟩) hbR2).trans R1.out
  obtain ⟨V,hV⟩:∃ V,V = w2.alloc (sgO sg):=⟨_,rfl⟩
  have hbV:bR < V.heap.size:=by rw [hV]; simp; omega
  have hsV:w2.heap.size < V.heap.size:=by rw [hV]; simp
  rw [← hV] at HZ2 g0 g1 g2 g3 g4 q0 q1 ⊢
  clear hV hnR hnS r0 r1 hbR2
  try clear hj
  have z0:¬ 9223372036854775807 < sx.size + 1:=by omega
  have z1:¬ 9223372036854775807 < sx.size + 1 + sg.t.size:=by omega
  have z2:¬ 9223372036854775807 < sx.size + 1 + sg.t.size + 1:=by omega
  have z3:¬ 9223372036854775807 < sx.size + 1 + sg.t.size + 1 + sy.size:=by omega
  go_region_held3 (fun w' => w'.cell? ⟨bR,oR,none⟩ = some (.int .i64 p) ∧ w'.cell? ⟨bR,oR + 1,none⟩ = some (.int .i64 q) ∧ w'.cell? ⟨w2.heap.size,0,none⟩ = some (.string sg.t) ∧ w'.cell? ⟨w2.heap.size,3,none⟩ = some (.int .i64 sg.left) ∧ w'.cell? ⟨w2.heap.size,4,none⟩ = some (.int .i64 sg.right)) (go_keep)
   ((first
     | (go_at_call 201; (with_reducible refine (HI.out _ HZ2.out.drew).mono ?_); rintro e w3 ⟨rfl,hb3'⟩; have hb3:=undrew hb3'; have HZ3:=Lib.hid (below_two' HZ2.out hb3); have e0:=(hb3.cell (p:=⟨bR,oR,none⟩) hbV).trans q0; have e1:=(hb3.cell (p:=⟨bR,oR + 1,none⟩) hbV).trans q1; have e2:=(hb3.cell (p:=⟨w2.heap.size,0,none⟩) hsV).trans g0; have e3:=(hb3.cell (p:=⟨w2.heap.size,3,none⟩) hsV).trans g3; have e4:=(hb3.cell (p:=⟨w2.heap.size,4,none⟩) hsV).trans g4; have hb3z:=hb3.size; clear hb3 hb3')
     | (go_at_call 201; (with_reducible refine (HJ.out _ HZ3.out).mono ?_); rintro e w4 ⟨rfl,hb4⟩; have HZ4:=Lib.hid (below_two' HZ3.out hb4); have u0:=(hb4.cell (p:=⟨bR,oR,none⟩) (by simp; omega)).trans e0; have u1:=(hb4.cell (p:=⟨bR,oR + 1,none⟩) (by simp; omega)).trans e1; have u2:=(hb4.cell (p:=⟨w2.heap.size,0,none⟩) (by simp; omega)).trans e2; have u3:=(hb4.cell (p:=⟨w2.heap.size,3,none⟩) (by simp; omega)).trans e3; have u4:=(hb4.cell (p:=⟨w2.heap.size,4,none⟩) (by simp; omega)).trans e4; clear hb4)))
  all_goals
   go_wp2_with fail
   go_ret
   exact ⟨by rw [HT.out]; rfl,HZ4.out⟩
theorem text_all:∀ e:Ex,ExprSpec.Good e → TextOk e
 | .leaf _,h => text_leaf h
 | .un o x,h => by
   have ho:o = 3 ∨ o = 12:=by
    have h1:=h.1
    unfold ar at h1
    split at h1
    ·omega
    split at h1
    ·assumption
    split at h1 <;> omega
   have ih:=within_ok h.2 (text_all x h.2)
   rcases ho with rfl | rfl
   ·exact text_neg h ih
   ·exact text_not h ih
 | .bin o x y,h => by
   have ihx:=text_all x h.2.1
   have ihy:=text_all y h.2.2
   rcases bin_ops h.1 with rfl | rfl | h7
   ·exact text_min h ihx ihy
   ·exact text_max h ihx ihy
   ·exact text_bin h7 h (within_ok h.2.1 ihx) (within_ok h.2.2 ihy)
end Go.Proofs.YtjfghaohogcfbaaGreatDoor