/- TermCome, TermRefDeep, joined. -/
import Derived.Test.YtckojimeglkobaaGreatDoorMConfFills08
namespace Go.Proofs.YtckojimeglkobaaGreatDoor
open Go.RowKit TermSpec
set_option maxRecDepth 100000
theorem below_place {l:List Tm} {a q m k:Nat} (h:cnt q (l.drop (a + 1)) = some m) (hk:k < q) :
 ∃ x,(belows l a q)[k]? = some ((a + 1 + x:Nat):Int) ∧ 0 ≤ endA l ((a + 1 + x:Nat):Int) ∧ a + 1 + x ≤ max l.length (a + 1) ∧ (∀ f,(stack f (l.drop (a + 1))).take (k + 1) = (stack f (l.drop (a + 1))).take k ++ [come f (l.drop (a + 1 + x))]):=by
 have h':=h
 rw [show q = (k + 1) + (q - (k + 1)) by omega] at h'
 obtain ⟨z,_,hz,_,_⟩:=cnt_split h'
 obtain ⟨x,y,hx,hy,_⟩:=cnt_split hz
 have hle:=(cnt_le hx).1
 rw [List.length_drop] at hle
 refine ⟨x,?_,?_,by omega,fun f => ?_⟩
 ·rw [belows_get hk,hx]; rfl
 ·have:=(below_next h hk).1
  rw [hx] at this
  simp only [Option.getD_some] at this
  rw [this]; omega
 ·have:=stack_take_next (f:=f) hz hx
  rwa [List.drop_drop] at this
theorem come_at {f:Int → List Int → Int} {l:List Tm} {a:Nat} {t:Tm} (ht:l[a]? = some t):come f (l.drop a) = f t.op ((stack f (l.drop (a + 1))).take (arN t.op)):=by rw [drop_get ht,come_cons]
def ComeRel (f:Int → List Int → Int) (W:World) (l:List Tm) (a q:Nat) (p i:Value) (wr:World):Prop :=
 ∃ k:Nat,k ≤ q ∧ i = .int .i64 k ∧ RowI W wr p ((stack f (l.drop (a + 1))).take k)
def IHDep (A:Option Addr) (n c:Nat) (l:List Tm) (K:Nat):Prop:=∀ (a:Nat) (w:World),n ≤ a + K → Tms w (.slice A n c) l → 0 ≤ endA l a → Calls Tryz.prog 197 #[.slice A n c,.int .i64 a,.func (.func 195) #[] #[]] w (RetI w (come depF (l.drop a)))
set_option maxHeartbeats 2000000 in
theorem comeDep_step (A:Option Addr) (n c:Nat) (l:List Tm) (K:Nat) (hn:n = l.length) (hn62:n ≤ 70368744177664) (ih:IHDep A n c l K) (a:Nat) (w:World) (hK:n ≤ a + (K + 1)) (h:Tms w (.slice A n c) l) (he:0 ≤ endA l a) :
 Calls Tryz.prog 197 #[.slice A n c,.int .i64 a,.func (.func 195) #[] #[]] w (RetI w (come depF (l.drop a))):=by
 obtain ⟨k0,m0,hk0,hc0,_,_,_⟩:=endA_nn he
 obtain rfl:k0 = a:=by omega
 obtain ⟨t,m,ht,h0,_,hm⟩:=first_of hc0
 have han:=get_lt ht
 have HT:=Lib.hid h
 have HM:=Lib.hid hm
 have HIH:=Lib.hid ih
 have HBL:=Lib.hid (below_yes A n c l k0 w h hn hn62 t ht he)
 obtain ⟨b,off,rfl,hb,c0,-,-⟩:=h.at_ ht
 have HCELL:=Lib.hid c0
 have HCM:=Lib.hid (come_at (f:=depF) ht)
 have hq:=(ar_bd t.op).2
 have e0:=arN_of h0
 have hsl:=stack_len (f:=depF) hm
 have hdb:∀ b ∈ (stack depF (l.drop (k0 + 1))).take (arN t.op),b ≤ 4611686018427387903:=fun b hb => by
  have h1:=(stack_depth _ b (List.mem_of_mem_take hb)).2
  rw [List.length_drop] at h1
  omega
 have hdl:((stack depF (l.drop (k0 + 1))).take (arN t.op)).length ≤ 4611686018427387903:=by rw [List.length_take]; omega
 have HDB:=Lib.hid (And.intro hdl hdb)
 clear hdb hdl
 obtain ⟨o,ho⟩:∃ o,o = t.op:=⟨_,rfl⟩
 rw [← ho] at HBL HCELL HCM hq e0 HM hsl c0 HDB
 obtain ⟨q,hqe⟩:∃ q,q = arN o:=⟨_,rfl⟩
 rw [← hqe] at HBL HCM e0 HM hsl HDB
 have hq2:q ≤ 2:=by omega
 have hal:k0 < n:=by omega
 have hal':(k0:Int) < n:=by omega
 have hlen:l.length = n:=hn.symm
 obtain ⟨i0,hi,hz0,hz1,hz2⟩:=info_parts inf_int
 have HI:=Lib.hid (And.intro hi (And.intro hz0 (And.intro hz1 hz2)))
 have HLEN:=Lib.hid hlen
 have HSL:=Lib.hid hsl
 clear ht ho hqe hn h hc0 hk0 hm he h0 e0 han hi hz0 hz1 hz2 hq c0 ih hlen hsl
 go_enter Tryz.func197,Tryz.ntmps197
 go_wp2_with (go_at_call 200; (with_reducible refine HBL.out.mono ?_))
 rintro e w1 ⟨v2,rfl,hr2,hb1⟩
 obtain ⟨A2,n2,c2,rfl,hn2,hc2,hA2⟩:=hr2.ints
 rw [belows_length] at hn2
 obtain rfl:q = n2:=hn2
 have HA2:=Lib.hid hA2
 have HB1:=Lib.hid hb1
 clear hr2 hc2 hA2 hb1
 go_wp2_with fail
 go_loopw [7,9,14] (fun p _ i wr => ComeRel depF w1 l k0 q p i wr) (fun _ _ i _ => 3 - (intOf i).toNat)
 case atStart => exact ⟨0,Nat.zero_le _,rfl,RowI.nil _ _ (Below.refl _ _)⟩
 case round =>
  obtain ⟨k,hk,rfl,hrow⟩:=hrel
  have hbw:=below_two' HB1.out hrow.2
  have HR:=Lib.hid hrow
  have HBW:=Lib.hid hbw
  clear hrow hbw
  by_cases hlt:k < q
  ·obtain ⟨b2,off2,rfl,hb2,hcell⟩:=HA2.out (by omega)
   obtain ⟨x,hx,hex,hbx,hst⟩:=below_place HM.out hlt
   have hck:=(HR.out.2.cell (p:=⟨b2,off2 + k,none⟩) (by exact hb2)).trans (hcell k _ hx)
   have HST:=Lib.hid (hst depF)
   rw [HLEN.out] at hbx
   have HCI:=Lib.hid (HIH.out (k0 + 1 + x) wr (by omega) (HT.out.keep HBW.out) hex)
   obtain ⟨y,hy⟩:∃ y,y = come depF (l.drop (k0 + 1 + x)):=⟨_,rfl⟩
   rw [← hy] at HST HCI
   obtain ⟨p,hp⟩:∃ p,p = k0 + 1 + x:=⟨_,rfl⟩
   rw [← hp] at HCI hck
   have hl:((stack depF (l.drop (k0 + 1))).take k).length = k:=by rw [List.length_take]; have:=HSL.out; omega
   have HL1:Hid (((stack depF (l.drop (k0 + 1))).take k).length + (intV [(y:Int)]).length ≤ maxLen):=Lib.hid (by rw [hl]; simp [maxLen]; omega)
   have HL2:Hid ((((stack depF (l.drop (k0 + 1))).take k).length + (intV [(y:Int)]).length) * 8 ≤ 140737488355328):=Lib.hid (by rw [hl]; simp; omega)
   clear hx hex hbx hst hcell hl hy hp
   go_wp2_with (go_at_call 197; (with_reducible refine HCI.out.mono ?_))
   rintro e w3 ⟨rfl,hb3⟩
   have HR3:=Lib.hid (HR.out.keep hb3)
   have HRA:=Lib.hid HR3.out.1
   have HSZ:Hid (w1.heap.size ≤ w3.heap.size):=Lib.hid HR3.out.2.size
   clear hb3 hck
   go_wp2_with (at_builtin; refine wpList_append_rd _ rfl (.tmp 18) (.tmp 23) _ rfl w1.heap.size 3 i0 (.int .i64 0) 8 Tryz.underlying90 HI.out.1 HI.out.2.1 HI.out.2.2.1 HI.out.2.2.2 rfl _ _ _ rfl (HRA.out.alloc _) _ (intV [(y:Int)]) rfl (Rd.lit (cs:=#[.int .i64 y]) rfl) (intV_one _) HL1.out HL2.out ?_ ?_; (have:=HSZ.out; simp; omega); intro p2 w4 hrow2 hg2 _; have HR4:=Lib.hid (RowI.add HR3.out hrow2 hg2); clear hrow2 hg2)
   go_roundw
   case rel => exact ⟨k + 1,hlt,by simp,by rw [HST.out]; exact HR4.out⟩
   case measure => simp [intOf]; omega
  ·obtain rfl:k = q:=by omega
   obtain ⟨A3,n3,c3,rfl,hn3⟩:∃ A n c,u7 = .slice A n c ∧ True:=by
    obtain ⟨A,c,h⟩:=own_shape HR.out.1
    exact ⟨A,_,c,h,trivial⟩
   have c0:wr.cell? ⟨b,off + k0 * 3,none⟩ = some (.int .i64 o):=(HBW.out.cell (by exact hb)).trans HCELL.out
   have HLT:=Lib.hid (deplit_any o (.slice A3 n3 c3) _ wr HR.out.read HDB.out.1 HDB.out.2)
   go_wp2_with (go_at_call 195; (with_reducible refine HLT.out.mono ?_); rintro e w' ⟨rfl,rfl⟩)
   go_ret
   exact ⟨ret_int HCM.out.symm,HBW.out⟩
theorem comeDep_all (A:Option Addr) (n c:Nat) (l:List Tm) (hn:n = l.length) (hn62:n ≤ 70368744177664) (K:Nat):IHDep A n c l K:=by
 induction K with
 | zero =>
   intro a w hK _ he
   obtain ⟨k,m,hk,_,h1,h2,h3⟩:=endA_nn he
   omega
 | succ K ih => exact fun a w hK h he => comeDep_step A n c l K hn hn62 ih a w hK h he
theorem comeDep_any (A:Option Addr) (n c:Nat) (l:List Tm) (hn:n = l.length) (hn62:n ≤ 70368744177664) (a:Nat) (w:World) (h:Tms w (.slice A n c) l) (he:0 ≤ endA l a) :
 Calls Tryz.prog 197 #[.slice A n c,.int .i64 a,.func (.func 195) #[] #[]] w (RetI w (come depF (l.drop a))):=comeDep_all A n c l hn hn62 n a w (by omega) h he
def IHTyp (A:Option Addr) (n c:Nat) (l:List Tm) (K:Nat):Prop:=∀ (a:Nat) (w:World),n ≤ a + K → Tms w (.slice A n c) l → 0 ≤ endA l a → Calls Tryz.prog 197 #[.slice A n c,.int .i64 a,.func (.func 180) #[] #[]] w (RetI w (come typF (l.drop a)))
set_option maxHeartbeats 2000000 in
theorem comeTyp_step (A:Option Addr) (n c:Nat) (l:List Tm) (K:Nat) (hn:n = l.length) (hn62:n ≤ 70368744177664) (ih:IHTyp A n c l K) (a:Nat) (w:World) (hK:n ≤ a + (K + 1)) (h:Tms w (.slice A n c) l) (he:0 ≤ endA l a) :
 Calls Tryz.prog 197 #[.slice A n c,.int .i64 a,.func (.func 180) #[] #[]] w (RetI w (come typF (l.drop a))):=by
 obtain ⟨k0,m0,hk0,hc0,_,_,_⟩:=endA_nn he
 obtain rfl:k0 = a:=by omega
 obtain ⟨t,m,ht,h0,_,hm⟩:=first_of hc0
 have han:=get_lt ht
 have HT:=Lib.hid h
 have HM:=Lib.hid hm
 have HIH:=Lib.hid ih
 have HBL:=Lib.hid (below_yes A n c l k0 w h hn hn62 t ht he)
 obtain ⟨b,off,rfl,hb,c0,-,-⟩:=h.at_ ht
 have HCELL:=Lib.hid c0
 have HCM:=Lib.hid (come_at (f:=typF) ht)
 have hq:=(ar_bd t.op).2
 have e0:=arN_of h0
 have hsl:=stack_len (f:=typF) hm
 have hdl:((stack typF (l.drop (k0 + 1))).take (arN t.op)).length ≤ 4611686018427387903:=by rw [List.length_take]; omega
 have HDB:=Lib.hid hdl
 clear hdl
 obtain ⟨o,ho⟩:∃ o,o = t.op:=⟨_,rfl⟩
 rw [← ho] at HBL HCELL HCM hq e0 HM hsl c0 HDB
 obtain ⟨q,hqe⟩:∃ q,q = arN o:=⟨_,rfl⟩
 rw [← hqe] at HBL HCM e0 HM hsl HDB
 have hq2:q ≤ 2:=by omega
 have hal:k0 < n:=by omega
 have hal':(k0:Int) < n:=by omega
 have hlen:l.length = n:=hn.symm
 obtain ⟨i0,hi,hz0,hz1,hz2⟩:=info_parts inf_int
 have HI:=Lib.hid (And.intro hi (And.intro hz0 (And.intro hz1 hz2)))
 have HLEN:=Lib.hid hlen
 have HSL:=Lib.hid hsl
 clear ht ho hqe hn h hc0 hk0 hm he h0 e0 han hi hz0 hz1 hz2 hq c0 ih hlen hsl
 go_enter Tryz.func197,Tryz.ntmps197
 go_wp2_with (go_at_call 200; (with_reducible refine HBL.out.mono ?_))
 rintro e w1 ⟨v2,rfl,hr2,hb1⟩
 obtain ⟨A2,n2,c2,rfl,hn2,hc2,hA2⟩:=hr2.ints
 rw [belows_length] at hn2
 obtain rfl:q = n2:=hn2
 have HA2:=Lib.hid hA2
 have HB1:=Lib.hid hb1
 clear hr2 hc2 hA2 hb1
 go_wp2_with fail
 go_loopw [7,9,14] (fun p _ i wr => ComeRel typF w1 l k0 q p i wr) (fun _ _ i _ => 3 - (intOf i).toNat)
 case atStart => exact ⟨0,Nat.zero_le _,rfl,RowI.nil _ _ (Below.refl _ _)⟩
 case round =>
  obtain ⟨k,hk,rfl,hrow⟩:=hrel
  have hbw:=below_two' HB1.out hrow.2
  have HR:=Lib.hid hrow
  have HBW:=Lib.hid hbw
  clear hrow hbw
  by_cases hlt:k < q
  ·obtain ⟨b2,off2,rfl,hb2,hcell⟩:=HA2.out (by omega)
   obtain ⟨x,hx,hex,hbx,hst⟩:=below_place HM.out hlt
   have hck:=(HR.out.2.cell (p:=⟨b2,off2 + k,none⟩) (by exact hb2)).trans (hcell k _ hx)
   have HST:=Lib.hid (hst typF)
   rw [HLEN.out] at hbx
   have HCI:=Lib.hid (HIH.out (k0 + 1 + x) wr (by omega) (HT.out.keep HBW.out) hex)
   obtain ⟨y,hy⟩:∃ y,y = come typF (l.drop (k0 + 1 + x)):=⟨_,rfl⟩
   rw [← hy] at HST HCI
   obtain ⟨p,hp⟩:∃ p,p = k0 + 1 + x:=⟨_,rfl⟩
   rw [← hp] at HCI hck
   have hl:((stack typF (l.drop (k0 + 1))).take k).length = k:=by rw [List.length_take]; have:=HSL.out; omega
   have HL1:Hid (((stack typF (l.drop (k0 + 1))).take k).length + (intV [(y:Int)]).length ≤ maxLen):=Lib.hid (by rw [hl]; simp [maxLen]; omega)
   have HL2:Hid ((((stack typF (l.drop (k0 + 1))).take k).length + (intV [(y:Int)]).length) * 8 ≤ 140737488355328):=Lib.hid (by rw [hl]; simp; omega)
   clear hx hex hbx hst hcell hl hy hp
   go_wp2_with (go_at_call 197; (with_reducible refine HCI.out.mono ?_))
   rintro e w3 ⟨rfl,hb3⟩
   have HR3:=Lib.hid (HR.out.keep hb3)
   have HRA:=Lib.hid HR3.out.1
   have HSZ:Hid (w1.heap.size ≤ w3.heap.size):=Lib.hid HR3.out.2.size
   clear hb3 hck
   go_wp2_with (at_builtin; refine wpList_append_rd _ rfl (.tmp 18) (.tmp 23) _ rfl w1.heap.size 3 i0 (.int .i64 0) 8 Tryz.underlying90 HI.out.1 HI.out.2.1 HI.out.2.2.1 HI.out.2.2.2 rfl _ _ _ rfl (HRA.out.alloc _) _ (intV [(y:Int)]) rfl (Rd.lit (cs:=#[.int .i64 y]) rfl) (intV_one _) HL1.out HL2.out ?_ ?_; (have:=HSZ.out; simp; omega); intro p2 w4 hrow2 hg2 _; have HR4:=Lib.hid (RowI.add HR3.out hrow2 hg2); clear hrow2 hg2)
   go_roundw
   case rel => exact ⟨k + 1,hlt,by simp,by rw [HST.out]; exact HR4.out⟩
   case measure => simp [intOf]; omega
  ·obtain rfl:k = q:=by omega
   obtain ⟨A3,n3,c3,rfl,hn3⟩:∃ A n c,u7 = .slice A n c ∧ True:=by
    obtain ⟨A,c,h⟩:=own_shape HR.out.1
    exact ⟨A,_,c,h,trivial⟩
   have c0:wr.cell? ⟨b,off + k0 * 3,none⟩ = some (.int .i64 o):=(HBW.out.cell (by exact hb)).trans HCELL.out
   have HLT:=Lib.hid (typlit_any o (.slice A3 n3 c3) _ wr HR.out.read HDB.out)
   go_wp2_with (go_at_call 180; (with_reducible refine HLT.out.mono ?_); rintro e w' ⟨rfl,rfl⟩)
   go_ret
   exact ⟨ret_int HCM.out.symm,HBW.out⟩
theorem comeTyp_all (A:Option Addr) (n c:Nat) (l:List Tm) (hn:n = l.length) (hn62:n ≤ 70368744177664) (K:Nat):IHTyp A n c l K:=by
 induction K with
 | zero =>
   intro a w hK _ he
   obtain ⟨k,m,hk,_,h1,h2,h3⟩:=endA_nn he
   omega
 | succ K ih => exact fun a w hK h he => comeTyp_step A n c l K hn hn62 ih a w hK h he
theorem comeTyp_any (A:Option Addr) (n c:Nat) (l:List Tm) (hn:n = l.length) (hn62:n ≤ 70368744177664) (a:Nat) (w:World) (h:Tms w (.slice A n c) l) (he:0 ≤ endA l a) :
 Calls Tryz.prog 197 #[.slice A n c,.int .i64 a,.func (.func 180) #[] #[]] w (RetI w (come typF (l.drop a))):=comeTyp_all A n c l hn hn62 n a w (by omega) h he
end Go.Proofs.YtckojimeglkobaaGreatDoor
namespace Go.Proofs.YtckojimeglkobaaGreatDoor
open Go.RowKit TermSpec
set_option maxRecDepth 100000
def RDeepRel (W:World) (l:List Tm) (a q:Nat) (v i:Value) (wr:World):Prop :=
 ∃ k:Nat,k ≤ q ∧ i = .int .i64 k ∧ v = .int .i64 (deepest ((stack depF (l.drop (a + 1))).take k)) ∧ Below W.heap.size W wr
def RDIH (A:Option Addr) (n c:Nat) (l:List Tm) (K:Nat):Prop:=∀ (a:Nat) (w:World),n ≤ a + K → Tms w (.slice A n c) l → 0 ≤ endA l a → Calls Tryz.prog 98 #[.slice A n c,.int .i64 a] w (RetI w (come depF (l.drop a)))
set_option maxHeartbeats 2000000 in
theorem rdep_step (A:Option Addr) (n c:Nat) (l:List Tm) (K:Nat) (hn:n = l.length) (hn62:n ≤ 70368744177664) (ih:RDIH A n c l K) (a:Nat) (w:World) (hK:n ≤ a + (K + 1)) (h:Tms w (.slice A n c) l) (he:0 ≤ endA l a) :
 Calls Tryz.prog 98 #[.slice A n c,.int .i64 a] w (RetI w (come depF (l.drop a))):=by
 obtain ⟨k0,m0,hk0,hc0,_,_,_⟩:=endA_nn he
 obtain rfl:k0 = a:=by omega
 obtain ⟨t,m,ht,h0,_,hm⟩:=first_of hc0
 have han:=get_lt ht
 have HT:=Lib.hid h
 have HM:=Lib.hid hm
 have HIH:=Lib.hid ih
 have HBL:=Lib.hid (rbelow_any A n c l k0 w h hn hn62 t ht he)
 have HCM:=Lib.hid (come_at (f:=depF) ht)
 have hq:=(ar_bd t.op).2
 have e0:=arN_of h0
 have HDB:Hid (∀ k,0 ≤ deepest ((stack depF (l.drop (k0 + 1))).take k) ∧ deepest ((stack depF (l.drop (k0 + 1))).take k) ≤ 4611686018427387903):=Lib.hid (fun k => deepest_bd (by omega) _ (fun b hb => by
  have h1:=(stack_depth _ b (List.mem_of_mem_take hb)).2
  rw [List.length_drop] at h1
  omega))
 obtain ⟨q,hqe⟩:∃ q,q = arN t.op:=⟨_,rfl⟩
 rw [← hqe] at HBL HCM e0 HM
 have hq2:q ≤ 2:=by omega
 have hal:k0 < n:=by omega
 have HLEN:=Lib.hid hn
 clear ht hqe hn h hc0 hk0 hm he h0 e0 han hq ih
 go_enter Tryz.func98,Tryz.ntmps98
 go_wp2_with (go_at_call 113; (with_reducible refine HBL.out.mono ?_))
 rintro e w1 ⟨v2,rfl,hr2,hb1⟩
 obtain ⟨A2,n2,c2,rfl,hn2,hc2,hA2⟩:=hr2.ints
 rw [belows_length] at hn2
 obtain rfl:q = n2:=hn2
 have HA2:=Lib.hid hA2
 have HB1:=Lib.hid hb1
 clear hr2 hc2 hA2 hb1
 go_wp2_with fail
 go_loopw [5,7,8] (fun v i _ wr => RDeepRel w1 l k0 q v i wr) (fun _ i _ _ => 3 - (intOf i).toNat)
 case atStart => exact ⟨0,Nat.zero_le _,rfl,rfl,Below.refl _ _⟩
 case round =>
  obtain ⟨k,hk,rfl,rfl,hbw⟩:=hrel
  have HBW:=Lib.hid hbw
  obtain ⟨g0,g1⟩:=HDB.out k
  clear hbw
  by_cases hlt:k < q
  ·obtain ⟨b2,off2,rfl,hb2,hcell⟩:=HA2.out (by omega)
   obtain ⟨x,hx,hex,hbx,hst⟩:=below_place HM.out hlt
   have hck:=(HBW.out.cell (p:=⟨b2,off2 + k,none⟩) (by exact hb2)).trans (hcell k _ hx)
   have HS:Hid (deepest ((stack depF (l.drop (k0 + 1))).take (k + 1)) = if deepest ((stack depF (l.drop (k0 + 1))).take k) < come depF (l.drop (k0 + 1 + x)) then come depF (l.drop (k0 + 1 + x)) else deepest ((stack depF (l.drop (k0 + 1))).take k)):=Lib.hid (by rw [hst depF,deepest_snoc])
   rw [← HLEN.out] at hbx
   have HCI:=Lib.hid (HIH.out (k0 + 1 + x) wr (by omega) (HT.out.keep (below_two' HB1.out HBW.out)) hex)
   obtain ⟨y,hy⟩:∃ y,y = come depF (l.drop (k0 + 1 + x)):=⟨_,rfl⟩
   rw [← hy] at HS HCI
   obtain ⟨d,hd⟩:∃ d,d = deepest ((stack depF (l.drop (k0 + 1))).take k):=⟨_,rfl⟩
   rw [← hd] at HS g0 g1 ⊢
   obtain ⟨p,hp⟩:∃ p,p = k0 + 1 + x:=⟨_,rfl⟩
   rw [← hp] at HCI hck
   clear hx hex hbx hst hcell hy hp hd
   by_cases hyd:d < y
   all_goals
    go_wp2_with (go_at_call 98; (with_reducible refine HCI.out.mono ?_))
    rintro e w3 ⟨rfl,hb3⟩
    have HB3:=Lib.hid (below_two' HBW.out hb3)
    clear hb3 hck
    go_wp2_with fail
    go_roundw
    case rel => exact ⟨k + 1,hlt,by simp,by rw [HS.out]; first | rw [if_pos hyd] | rw [if_neg (by omega)],HB3.out⟩
    case measure => simp [intOf]; omega
  ·obtain rfl:k = q:=by omega
   go_wp2_with fail
   go_ret
   exact ⟨ret_int HCM.out.symm,below_two' HB1.out HBW.out⟩
theorem rdep_all (A:Option Addr) (n c:Nat) (l:List Tm) (hn:n = l.length) (hn62:n ≤ 70368744177664) (K:Nat):RDIH A n c l K:=by
 induction K with
 | zero =>
   intro a w hK _ he
   obtain ⟨k,m,hk,_,h1,h2,h3⟩:=endA_nn he
   omega
 | succ K ih => exact fun a w hK h he => rdep_step A n c l K hn hn62 ih a w hK h he
theorem rdep_any (A:Option Addr) (n c:Nat) (l:List Tm) (hn:n = l.length) (hn62:n ≤ 70368744177664) (a:Nat) (w:World) (h:Tms w (.slice A n c) l) (he:0 ≤ endA l a) :
 Calls Tryz.prog 98 #[.slice A n c,.int .i64 a] w (RetI w (come depF (l.drop a))):=rdep_all A n c l hn hn62 n a w (by omega) h he
def takesT (o:Int):Int:=if o = 12 ∨ 19 ≤ o then 2 else 1
theorem typR {o:Int} {bs:List Int} {b:Bool} (h0:0 ≤ ar o) (hl:bs.length ≤ arN o) (h:bs.all (fun b => decide (b = takesT o)) = b):typF o bs = if b then (if o ≤ 8 then 1 else 2) else 0:=by
 obtain ⟨h1,h20⟩:=ar_in.1 h0
 have hown:ownT o = if o ≤ 8 then 1 else 2:=by
  unfold ownT
  by_cases h8:o ≤ 8
  ·rw [if_pos (by omega),if_pos h8]
  ·rw [if_neg (by omega),if_neg h8]
 by_cases h9:o = 9 ∨ o = 10 ∨ o = 11
 ·have:arN o = 0:=by rcases h9 with rfl | rfl | rfl <;> rfl
  obtain rfl:bs = []:=List.eq_nil_of_length_eq_zero (by omega)
  cases h
  unfold typF
  rw [← hown]; rfl
 ·have e:takesT o = askT o:=by
   unfold takesT askT
   by_cases h2:o = 12 ∨ 19 ≤ o
   ·rw [if_pos h2,if_neg (by omega)]
   ·rw [if_neg h2,if_pos (by omega)]
  rw [e] at h
  rw [typF_of h,hown]
def RTypRel (W:World) (l:List Tm) (a q:Nat) (tk:Int) (i:Value) (wr:World):Prop :=
 ∃ k:Nat,k ≤ q ∧ i = .int .i64 k ∧ ((stack typF (l.drop (a + 1))).take k).all (fun b => decide (b = tk)) = true ∧ Below W.heap.size W wr
theorem all_stop {S:List Int} {k q:Nat} {y tk:Int} (hk:k < q) (h:S.take (k + 1) = S.take k ++ [y]) (hy:y ≠ tk):(S.take q).all (fun b => decide (b = tk)) = false:=by
 rw [List.all_eq_false]
 refine ⟨y,?_,by simpa using hy⟩
 have:y ∈ S.take (k + 1):=by rw [h]; simp
 rw [show k + 1 = min (k + 1) q by omega,← List.take_take] at this
 exact List.mem_of_mem_take this
def RTIH (A:Option Addr) (n c:Nat) (l:List Tm) (K:Nat):Prop:=∀ (a:Nat) (w:World),n ≤ a + K → Tms w (.slice A n c) l → 0 ≤ endA l a → Calls Tryz.prog 99 #[.slice A n c,.int .i64 a] w (RetI w (come typF (l.drop a)))
set_option maxHeartbeats 3000000 in
theorem rtyp_stepA (A:Option Addr) (n c:Nat) (l:List Tm) (K:Nat) (hn:n = l.length) (hn62:n ≤ 70368744177664) (ih:RTIH A n c l K) (k0:Nat) (w:World) (hK:n ≤ k0 + (K + 1)) (h:Tms w (.slice A n c) l) (he:0 ≤ endA l k0) (t:Tm) (m:Nat) (ht:l[k0]? = some t) (h0:0 ≤ ar t.op) (hm:cnt (arN t.op) (l.drop (k0 + 1)) = some m) (h12:t.op = 12) :
 Calls Tryz.prog 99 #[.slice A n c,.int .i64 k0] w (RetI w (come typF (l.drop k0))):=by
 have han:=get_lt ht
 have HT:=Lib.hid h
 have HM:=Lib.hid hm
 have HIH:=Lib.hid ih
 have HBL:=Lib.hid (rbelow_any A n c l k0 w h hn hn62 t ht he)
 obtain ⟨b,off,rfl,hb,c0,-,-⟩:=h.at_ ht
 have hq:=(ar_bd t.op).2
 have e0:=arN_of h0
 have hcm:=come_at (f:=typF) ht
 have HTR:Hid (∀ b,((stack typF (l.drop (k0 + 1))).take (arN t.op)).all (fun b => decide (b = 2)) = b → come typF (l.drop k0) = if b then (if t.op ≤ 8 then 1 else 2) else 0):=Lib.hid (fun b hb => by
  rw [hcm]
  refine typR h0 (by rw [List.length_take]; omega) ?_
  rw [show takesT t.op = 2 by unfold takesT; rw [if_pos (by omega)]]
  exact hb)
 obtain ⟨r,hr⟩:∃ r,r = come typF (l.drop k0):=⟨_,rfl⟩
 rw [← hr] at HTR ⊢
 obtain ⟨o,ho⟩:∃ o,o = t.op:=⟨_,rfl⟩
 rw [← ho] at HBL HTR hq e0 HM c0 h12
 obtain ⟨q,hqe⟩:∃ q,q = arN o:=⟨_,rfl⟩
 rw [← hqe] at HBL HTR e0 HM
 have hq2:q ≤ 2:=by omega
 have hal:k0 < n:=by omega
 have hal':(k0:Int) < n:=by omega
 have HLEN:=Lib.hid hn
 clear ht ho hqe hn h hm he h0 e0 han hq ih hcm hr
 have g12:(o == 12) = true:=by simp [h12]
 have d8:¬ o ≤ 8:=by omega
 clear h12 d8
 go_enter Tryz.func99,Tryz.ntmps99
 go_wp2_with (go_at_call 113; (with_reducible refine HBL.out.mono ?_))
 rintro e w1 ⟨v2,rfl,hr2,hb1⟩
 obtain ⟨A2,n2,c2,rfl,hn2,hc2,hA2⟩:=hr2.ints
 rw [belows_length] at hn2
 obtain rfl:q = n2:=hn2
 have HA2:=Lib.hid hA2
 have HB1:=Lib.hid hb1
 clear hr2 hc2 hA2 hb1 c0
 go_wp2_with fail
 go_loopw [8] (fun i wr => RTypRel w1 l k0 q 2 i wr) (fun i _ => 3 - (intOf i).toNat)
 case atStart => exact ⟨0,Nat.zero_le _,rfl,rfl,Below.refl _ _⟩
 case round =>
  obtain ⟨k,hk,rfl,hall,hbw⟩:=hrel
  have HBW:=Lib.hid hbw
  have HALL:=Lib.hid hall
  clear hbw hall
  by_cases hlt:k < q
  ·obtain ⟨b2,off2,rfl,hb2,hcell⟩:=HA2.out (by omega)
   obtain ⟨x,hx,hex,hbx,hst⟩:=below_place HM.out hlt
   have hck:=(HBW.out.cell (p:=⟨b2,off2 + k,none⟩) (by exact hb2)).trans (hcell k _ hx)
   have HS:=Lib.hid (hst typF)
   rw [← HLEN.out] at hbx
   have HCI:=Lib.hid (HIH.out (k0 + 1 + x) wr (by omega) (HT.out.keep (below_two' HB1.out HBW.out)) hex)
   obtain ⟨y,hy⟩:∃ y,y = come typF (l.drop (k0 + 1 + x)):=⟨_,rfl⟩
   rw [← hy] at HS HCI
   obtain ⟨p,hp⟩:∃ p,p = k0 + 1 + x:=⟨_,rfl⟩
   rw [← hp] at HCI hck
   clear hx hex hbx hst hcell hy hp
   by_cases hyd:y = 2
   ·have g:(y != 2) = false:=by simp [hyd]
    have HQ:=Lib.hid hyd
    clear hyd
    go_wp2_with (go_at_call 99; (with_reducible refine HCI.out.mono ?_))
    rintro e w3 ⟨rfl,hb3⟩
    have HB3:=Lib.hid (below_two' HBW.out hb3)
    clear hb3 hck
    go_wp2_with fail
    go_roundw
    case rel => exact ⟨k + 1,hlt,by simp,by rw [HS.out,List.all_append,HALL.out]; simpa using HQ.out,HB3.out⟩
    case measure => simp [intOf]; omega
   ·have g:(y != 2) = true:=by simp [hyd]
    have HQ:=Lib.hid hyd
    clear hyd
    go_wp2_with (go_at_call 99; (with_reducible refine HCI.out.mono ?_))
    rintro e w3 ⟨rfl,hb3⟩
    have HB3:=Lib.hid (below_two' HBW.out hb3)
    clear hb3 hck
    go_wp2_with fail
    go_ret
    exact ⟨ret_int (HTR.out false (all_stop hlt HS.out HQ.out)).symm,below_two' HB1.out HB3.out⟩
  ·obtain rfl:k = q:=by omega
   by_cases h8:o ≤ 8
   all_goals
    go_wp2_with fail
    go_ret
    exact ⟨ret_int (by rw [HTR.out true HALL.out]; first | (rw [if_pos rfl,if_pos h8]) | (rw [if_pos rfl,if_neg (by omega)])),below_two' HB1.out HBW.out⟩
set_option maxHeartbeats 3000000 in
theorem rtyp_stepB (A:Option Addr) (n c:Nat) (l:List Tm) (K:Nat) (hn:n = l.length) (hn62:n ≤ 70368744177664) (ih:RTIH A n c l K) (k0:Nat) (w:World) (hK:n ≤ k0 + (K + 1)) (h:Tms w (.slice A n c) l) (he:0 ≤ endA l k0) (t:Tm) (m:Nat) (ht:l[k0]? = some t) (h0:0 ≤ ar t.op) (hm:cnt (arN t.op) (l.drop (k0 + 1)) = some m) (h19:19 ≤ t.op) :
 Calls Tryz.prog 99 #[.slice A n c,.int .i64 k0] w (RetI w (come typF (l.drop k0))):=by
 have han:=get_lt ht
 have HT:=Lib.hid h
 have HM:=Lib.hid hm
 have HIH:=Lib.hid ih
 have HBL:=Lib.hid (rbelow_any A n c l k0 w h hn hn62 t ht he)
 obtain ⟨b,off,rfl,hb,c0,-,-⟩:=h.at_ ht
 have hq:=(ar_bd t.op).2
 have e0:=arN_of h0
 have hcm:=come_at (f:=typF) ht
 have HTR:Hid (∀ b,((stack typF (l.drop (k0 + 1))).take (arN t.op)).all (fun b => decide (b = 2)) = b → come typF (l.drop k0) = if b then (if t.op ≤ 8 then 1 else 2) else 0):=Lib.hid (fun b hb => by
  rw [hcm]
  refine typR h0 (by rw [List.length_take]; omega) ?_
  rw [show takesT t.op = 2 by unfold takesT; rw [if_pos (by omega)]]
  exact hb)
 obtain ⟨r,hr⟩:∃ r,r = come typF (l.drop k0):=⟨_,rfl⟩
 rw [← hr] at HTR ⊢
 obtain ⟨o,ho⟩:∃ o,o = t.op:=⟨_,rfl⟩
 rw [← ho] at HBL HTR hq e0 HM c0 h19
 obtain ⟨q,hqe⟩:∃ q,q = arN o:=⟨_,rfl⟩
 rw [← hqe] at HBL HTR e0 HM
 have hq2:q ≤ 2:=by omega
 have hal:k0 < n:=by omega
 have hal':(k0:Int) < n:=by omega
 have HLEN:=Lib.hid hn
 clear ht ho hqe hn h hm he h0 e0 han hq ih hcm hr
 have g12:(o == 12) = false:=by simp; omega
 go_enter Tryz.func99,Tryz.ntmps99
 go_wp2_with (go_at_call 113; (with_reducible refine HBL.out.mono ?_))
 rintro e w1 ⟨v2,rfl,hr2,hb1⟩
 obtain ⟨A2,n2,c2,rfl,hn2,hc2,hA2⟩:=hr2.ints
 rw [belows_length] at hn2
 obtain rfl:q = n2:=hn2
 have HA2:=Lib.hid hA2
 have HB1:=Lib.hid hb1
 clear hr2 hc2 hA2 hb1 c0
 go_wp2_with fail
 go_loopw [8] (fun i wr => RTypRel w1 l k0 q 2 i wr) (fun i _ => 3 - (intOf i).toNat)
 case atStart => exact ⟨0,Nat.zero_le _,rfl,rfl,Below.refl _ _⟩
 case round =>
  obtain ⟨k,hk,rfl,hall,hbw⟩:=hrel
  have HBW:=Lib.hid hbw
  have HALL:=Lib.hid hall
  clear hbw hall
  by_cases hlt:k < q
  ·obtain ⟨b2,off2,rfl,hb2,hcell⟩:=HA2.out (by omega)
   obtain ⟨x,hx,hex,hbx,hst⟩:=below_place HM.out hlt
   have hck:=(HBW.out.cell (p:=⟨b2,off2 + k,none⟩) (by exact hb2)).trans (hcell k _ hx)
   have HS:=Lib.hid (hst typF)
   rw [← HLEN.out] at hbx
   have HCI:=Lib.hid (HIH.out (k0 + 1 + x) wr (by omega) (HT.out.keep (below_two' HB1.out HBW.out)) hex)
   obtain ⟨y,hy⟩:∃ y,y = come typF (l.drop (k0 + 1 + x)):=⟨_,rfl⟩
   rw [← hy] at HS HCI
   obtain ⟨p,hp⟩:∃ p,p = k0 + 1 + x:=⟨_,rfl⟩
   rw [← hp] at HCI hck
   clear hx hex hbx hst hcell hy hp
   by_cases hyd:y = 2
   ·have g:(y != 2) = false:=by simp [hyd]
    have HQ:=Lib.hid hyd
    clear hyd
    go_wp2_with (go_at_call 99; (with_reducible refine HCI.out.mono ?_))
    rintro e w3 ⟨rfl,hb3⟩
    have HB3:=Lib.hid (below_two' HBW.out hb3)
    clear hb3 hck
    go_wp2_with fail
    go_roundw
    case rel => exact ⟨k + 1,hlt,by simp,by rw [HS.out,List.all_append,HALL.out]; simpa using HQ.out,HB3.out⟩
    case measure => simp [intOf]; omega
   ·have g:(y != 2) = true:=by simp [hyd]
    have HQ:=Lib.hid hyd
    clear hyd
    go_wp2_with (go_at_call 99; (with_reducible refine HCI.out.mono ?_))
    rintro e w3 ⟨rfl,hb3⟩
    have HB3:=Lib.hid (below_two' HBW.out hb3)
    clear hb3 hck
    go_wp2_with fail
    go_ret
    exact ⟨ret_int (HTR.out false (all_stop hlt HS.out HQ.out)).symm,below_two' HB1.out HB3.out⟩
  ·obtain rfl:k = q:=by omega
   by_cases h8:o ≤ 8
   all_goals
    go_wp2_with fail
    go_ret
    exact ⟨ret_int (by rw [HTR.out true HALL.out]; first | (rw [if_pos rfl,if_pos h8]) | (rw [if_pos rfl,if_neg (by omega)])),below_two' HB1.out HBW.out⟩
set_option maxHeartbeats 3000000 in
theorem rtyp_stepC (A:Option Addr) (n c:Nat) (l:List Tm) (K:Nat) (hn:n = l.length) (hn62:n ≤ 70368744177664) (ih:RTIH A n c l K) (k0:Nat) (w:World) (hK:n ≤ k0 + (K + 1)) (h:Tms w (.slice A n c) l) (he:0 ≤ endA l k0) (t:Tm) (m:Nat) (ht:l[k0]? = some t) (h0:0 ≤ ar t.op) (hm:cnt (arN t.op) (l.drop (k0 + 1)) = some m) (h12:¬ t.op = 12) (h19:t.op < 19) :
 Calls Tryz.prog 99 #[.slice A n c,.int .i64 k0] w (RetI w (come typF (l.drop k0))):=by
 have han:=get_lt ht
 have HT:=Lib.hid h
 have HM:=Lib.hid hm
 have HIH:=Lib.hid ih
 have HBL:=Lib.hid (rbelow_any A n c l k0 w h hn hn62 t ht he)
 obtain ⟨b,off,rfl,hb,c0,-,-⟩:=h.at_ ht
 have hq:=(ar_bd t.op).2
 have e0:=arN_of h0
 have hcm:=come_at (f:=typF) ht
 have HTR:Hid (∀ b,((stack typF (l.drop (k0 + 1))).take (arN t.op)).all (fun b => decide (b = 1)) = b → come typF (l.drop k0) = if b then (if t.op ≤ 8 then 1 else 2) else 0):=Lib.hid (fun b hb => by
  rw [hcm]
  refine typR h0 (by rw [List.length_take]; omega) ?_
  rw [show takesT t.op = 1 by unfold takesT; rw [if_neg (by omega)]]
  exact hb)
 obtain ⟨r,hr⟩:∃ r,r = come typF (l.drop k0):=⟨_,rfl⟩
 rw [← hr] at HTR ⊢
 obtain ⟨o,ho⟩:∃ o,o = t.op:=⟨_,rfl⟩
 rw [← ho] at HBL HTR hq e0 HM c0 h12 h19
 obtain ⟨q,hqe⟩:∃ q,q = arN o:=⟨_,rfl⟩
 rw [← hqe] at HBL HTR e0 HM
 have hq2:q ≤ 2:=by omega
 have hal:k0 < n:=by omega
 have hal':(k0:Int) < n:=by omega
 have HLEN:=Lib.hid hn
 clear ht ho hqe hn h hm he h0 e0 han hq ih hcm hr
 have g12:(o == 12) = false:=by simp [h12]
 go_enter Tryz.func99,Tryz.ntmps99
 go_wp2_with (go_at_call 113; (with_reducible refine HBL.out.mono ?_))
 rintro e w1 ⟨v2,rfl,hr2,hb1⟩
 obtain ⟨A2,n2,c2,rfl,hn2,hc2,hA2⟩:=hr2.ints
 rw [belows_length] at hn2
 obtain rfl:q = n2:=hn2
 have HA2:=Lib.hid hA2
 have HB1:=Lib.hid hb1
 clear hr2 hc2 hA2 hb1 c0
 go_wp2_with fail
 go_loopw [8] (fun i wr => RTypRel w1 l k0 q 1 i wr) (fun i _ => 3 - (intOf i).toNat)
 case atStart => exact ⟨0,Nat.zero_le _,rfl,rfl,Below.refl _ _⟩
 case round =>
  obtain ⟨k,hk,rfl,hall,hbw⟩:=hrel
  have HBW:=Lib.hid hbw
  have HALL:=Lib.hid hall
  clear hbw hall
  by_cases hlt:k < q
  ·obtain ⟨b2,off2,rfl,hb2,hcell⟩:=HA2.out (by omega)
   obtain ⟨x,hx,hex,hbx,hst⟩:=below_place HM.out hlt
   have hck:=(HBW.out.cell (p:=⟨b2,off2 + k,none⟩) (by exact hb2)).trans (hcell k _ hx)
   have HS:=Lib.hid (hst typF)
   rw [← HLEN.out] at hbx
   have HCI:=Lib.hid (HIH.out (k0 + 1 + x) wr (by omega) (HT.out.keep (below_two' HB1.out HBW.out)) hex)
   obtain ⟨y,hy⟩:∃ y,y = come typF (l.drop (k0 + 1 + x)):=⟨_,rfl⟩
   rw [← hy] at HS HCI
   obtain ⟨p,hp⟩:∃ p,p = k0 + 1 + x:=⟨_,rfl⟩
   rw [← hp] at HCI hck
   clear hx hex hbx hst hcell hy hp
   by_cases hyd:y = 1
   ·have g:(y != 1) = false:=by simp [hyd]
    have HQ:=Lib.hid hyd
    clear hyd
    go_wp2_with (go_at_call 99; (with_reducible refine HCI.out.mono ?_))
    rintro e w3 ⟨rfl,hb3⟩
    have HB3:=Lib.hid (below_two' HBW.out hb3)
    clear hb3 hck
    go_wp2_with fail
    go_roundw
    case rel => exact ⟨k + 1,hlt,by simp,by rw [HS.out,List.all_append,HALL.out]; simpa using HQ.out,HB3.out⟩
    case measure => simp [intOf]; omega
   ·have g:(y != 1) = true:=by simp [hyd]
    have HQ:=Lib.hid hyd
    clear hyd
    go_wp2_with (go_at_call 99; (with_reducible refine HCI.out.mono ?_))
    rintro e w3 ⟨rfl,hb3⟩
    have HB3:=Lib.hid (below_two' HBW.out hb3)
    clear hb3 hck
    go_wp2_with fail
    go_ret
    exact ⟨ret_int (HTR.out false (all_stop hlt HS.out HQ.out)).symm,below_two' HB1.out HB3.out⟩
  ·obtain rfl:k = q:=by omega
   by_cases h8:o ≤ 8
   all_goals
    go_wp2_with fail
    go_ret
    exact ⟨ret_int (by rw [HTR.out true HALL.out]; first | (rw [if_pos rfl,if_pos h8]) | (rw [if_pos rfl,if_neg (by omega)])),below_two' HB1.out HBW.out⟩
theorem rtyp_all (A:Option Addr) (n c:Nat) (l:List Tm) (hn:n = l.length) (hn62:n ≤ 70368744177664) (K:Nat):RTIH A n c l K:=by
 induction K with
 | zero =>
   intro a w hK _ he
   obtain ⟨k,m,hk,_,h1,h2,h3⟩:=endA_nn he
   omega
 | succ K ih =>
   intro a w hK h he
   obtain ⟨k0,m0,hk0,hc0,_,_,_⟩:=endA_nn he
   obtain rfl:k0 = a:=by omega
   obtain ⟨t,m,ht,h0,_,hm⟩:=first_of hc0
   by_cases h12:t.op = 12
   ·exact rtyp_stepA A n c l K hn hn62 ih k0 w hK h he t m ht h0 hm h12
   ·by_cases h19:19 ≤ t.op
    ·exact rtyp_stepB A n c l K hn hn62 ih k0 w hK h he t m ht h0 hm h19
    ·exact rtyp_stepC A n c l K hn hn62 ih k0 w hK h he t m ht h0 hm h12 (by omega)
theorem rtyp_any (A:Option Addr) (n c:Nat) (l:List Tm) (hn:n = l.length) (hn62:n ≤ 70368744177664) (a:Nat) (w:World) (h:Tms w (.slice A n c) l) (he:0 ≤ endA l a) :
 Calls Tryz.prog 99 #[.slice A n c,.int .i64 a] w (RetI w (come typF (l.drop a))):=rtyp_all A n c l hn hn62 n a w (by omega) h he
end Go.Proofs.YtckojimeglkobaaGreatDoor