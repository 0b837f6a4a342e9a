/- TermCome, TermRefDeep, TermCheck, ExprRead, CurNew, ScanSpec, ScanRef, ScanRefOne, ScanRefToks, ScanProgSpec, ScanFirst, ScanMark, ScanNext, ScanRead, ScanToks, ExprParse, ExprScan, ActScan, TransScan, PrintSpec, joined. -/
import Derived.Test.YtejbpleghjgpbaaDoorMSoundLines03
import Derived.Test.YtejbpleghjgpbaaDoorMSoundLines02
import Derived.Test.YtejbpleghjgpbaaDoorMSoundLines01
import Derived.Deep.AppendLies
import Derived.Laws.MakeOwn
import Derived.OwnWalk
import Derived.Test.YtejbpleghjgpbaaDoorMSoundLines00
import Derived.Test.YtejbpleghjgpbaaDoorRows
import Derived.BigQuiet
import Derived.Deep.QuietTactic
import Derived.IntWalk
import Derived.Deep.RegionHeld3
import Derived.Lib.Bytealg
import Derived.Lib.Strings
import Derived.RegionTactic
import Derived.ChangeAlike
import Derived.Deep.LoopGhost
namespace Go.Proofs.YtejbpleghjgpbaaDoor
open Go.RowKit TermSpec
set_option maxRecDepth 100000
theorem below_place {l:List Tm} {a q m k:Nat} (h:cnt q (l.drop (a + 1)) = some m) (hk:k < q) :
 ∃ x,(belows l a q)[k]? = some ((a + 1 + x:Nat):Int) ∧ 0 ≤ endA l ((a + 1 + x:Nat):Int) ∧ a + 1 + x ≤ max l.length (a + 1) ∧ (∀ f,(stack f (l.drop (a + 1))).take (k + 1) = (stack f (l.drop (a + 1))).take k ++ [come f (l.drop (a + 1 + x))]):=by
 have h':=h
 rw [show q = (k + 1) + (q - (k + 1)) by omega] at h'
 obtain ⟨z,_,hz,_,_⟩:=cnt_split h'
 obtain ⟨x,y,hx,hy,_⟩:=cnt_split hz
 have hle:=(cnt_le hx).1
 rw [List.length_drop] at hle
 refine ⟨x,?_,?_,by omega,fun f => ?_⟩
 ·rw [belows_get hk,hx]; rfl
 ·have:=(below_next h hk).1
  rw [hx] at this
  simp only [Option.getD_some] at this
  rw [this]; omega
 ·have:=stack_take_next (f:=f) hz hx
  rwa [List.drop_drop] at this
theorem come_at {f:Int → List Int → Int} {l:List Tm} {a:Nat} {t:Tm} (ht:l[a]? = some t):come f (l.drop a) = f t.op ((stack f (l.drop (a + 1))).take (arN t.op)):=by rw [drop_get ht,come_cons]
def ComeRel (f:Int → List Int → Int) (W:World) (l:List Tm) (a q:Nat) (p i:Value) (wr:World):Prop :=
 ∃ k:Nat,k ≤ q ∧ i = .int .i64 k ∧ RowI W wr p ((stack f (l.drop (a + 1))).take k)
def IHDep (A:Option Addr) (n c:Nat) (l:List Tm) (K:Nat):Prop:=∀ (a:Nat) (w:World),n ≤ a + K → Tms w (.slice A n c) l → 0 ≤ endA l a → Calls Tryd.prog 68 #[.slice A n c,.int .i64 a,.func (.func 66) #[] #[]] w (RetI w (come depF (l.drop a)))
set_option maxHeartbeats 2000000 in
theorem comeDep_step (A:Option Addr) (n c:Nat) (l:List Tm) (K:Nat) (hn:n = l.length) (hn62:n ≤ 70368744177664) (ih:IHDep A n c l K) (a:Nat) (w:World) (hK:n ≤ a + (K + 1)) (h:Tms w (.slice A n c) l) (he:0 ≤ endA l a) :
 Calls Tryd.prog 68 #[.slice A n c,.int .i64 a,.func (.func 66) #[] #[]] w (RetI w (come depF (l.drop a))):=by
 obtain ⟨k0,m0,hk0,hc0,_,_,_⟩:=endA_nn he
 obtain rfl:k0 = a:=by omega
 obtain ⟨t,m,ht,h0,_,hm⟩:=first_of hc0
 have han:=get_lt ht
 have HT:=Lib.hid h
 have HM:=Lib.hid hm
 have HIH:=Lib.hid ih
 have HBL:=Lib.hid (below_yes A n c l k0 w h hn hn62 t ht he)
 obtain ⟨b,off,rfl,hb,c0,-,-⟩:=h.at_ ht
 have HCELL:=Lib.hid c0
 have HCM:=Lib.hid (come_at (f:=depF) ht)
 have hq:=(ar_bd t.op).2
 have e0:=arN_of h0
 have hsl:=stack_len (f:=depF) hm
 have hdb:∀ b ∈ (stack depF (l.drop (k0 + 1))).take (arN t.op),b ≤ 4611686018427387903:=fun b hb => by
  have h1:=(stack_depth _ b (List.mem_of_mem_take hb)).2
  rw [List.length_drop] at h1
  omega
 have hdl:((stack depF (l.drop (k0 + 1))).take (arN t.op)).length ≤ 4611686018427387903:=by rw [List.length_take]; omega
 have HDB:=Lib.hid (And.intro hdl hdb)
 clear hdb hdl
 obtain ⟨o,ho⟩:∃ o,o = t.op:=⟨_,rfl⟩
 rw [← ho] at HBL HCELL HCM hq e0 HM hsl c0 HDB
 obtain ⟨q,hqe⟩:∃ q,q = arN o:=⟨_,rfl⟩
 rw [← hqe] at HBL HCM e0 HM hsl HDB
 have hq2:q ≤ 2:=by omega
 have hal:k0 < n:=by omega
 have hal':(k0:Int) < n:=by omega
 have hlen:l.length = n:=hn.symm
 obtain ⟨i0,hi,hz0,hz1,hz2⟩:=info_parts inf_int
 have HI:=Lib.hid (And.intro hi (And.intro hz0 (And.intro hz1 hz2)))
 have HLEN:=Lib.hid hlen
 have HSL:=Lib.hid hsl
 clear ht ho hqe hn h hc0 hk0 hm he h0 e0 han hi hz0 hz1 hz2 hq c0 ih hlen hsl
 go_enter Tryd.func68,Tryd.ntmps68
 go_wp2_with (go_at_call 70; (with_reducible refine HBL.out.mono ?_))
 rintro e w1 ⟨v2,rfl,hr2,hb1⟩
 obtain ⟨A2,n2,c2,rfl,hn2,hc2,hA2⟩:=hr2.ints
 rw [belows_length] at hn2
 obtain rfl:q = n2:=hn2
 have HA2:=Lib.hid hA2
 have HB1:=Lib.hid hb1
 clear hr2 hc2 hA2 hb1
 go_wp2_with fail
 go_loopw [7,9,14] (fun p _ i wr => ComeRel depF w1 l k0 q p i wr) (fun _ _ i _ => 3 - (intOf i).toNat)
 case atStart => exact ⟨0,Nat.zero_le _,rfl,RowI.nil _ _ (Below.refl _ _)⟩
 case round =>
  obtain ⟨k,hk,rfl,hrow⟩:=hrel
  have hbw:=below_two' HB1.out hrow.2
  have HR:=Lib.hid hrow
  have HBW:=Lib.hid hbw
  clear hrow hbw
  by_cases hlt:k < q
  ·obtain ⟨b2,off2,rfl,hb2,hcell⟩:=HA2.out (by omega)
   obtain ⟨x,hx,hex,hbx,hst⟩:=below_place HM.out hlt
   have hck:=(HR.out.2.cell (p:=⟨b2,off2 + k,none⟩) (by exact hb2)).trans (hcell k _ hx)
   have HST:=Lib.hid (hst depF)
   rw [HLEN.out] at hbx
   have HCI:=Lib.hid (HIH.out (k0 + 1 + x) wr (by omega) (HT.out.keep HBW.out) hex)
   obtain ⟨y,hy⟩:∃ y,y = come depF (l.drop (k0 + 1 + x)):=⟨_,rfl⟩
   rw [← hy] at HST HCI
   obtain ⟨p,hp⟩:∃ p,p = k0 + 1 + x:=⟨_,rfl⟩
   rw [← hp] at HCI hck
   have hl:((stack depF (l.drop (k0 + 1))).take k).length = k:=by rw [List.length_take]; have:=HSL.out; omega
   have HL1:Hid (((stack depF (l.drop (k0 + 1))).take k).length + (intV [(y:Int)]).length ≤ maxLen):=Lib.hid (by rw [hl]; simp [maxLen]; omega)
   have HL2:Hid ((((stack depF (l.drop (k0 + 1))).take k).length + (intV [(y:Int)]).length) * 8 ≤ 140737488355328):=Lib.hid (by rw [hl]; simp; omega)
   clear hx hex hbx hst hcell hl hy hp
   go_wp2_with (go_at_call 68; (with_reducible refine HCI.out.mono ?_))
   rintro e w3 ⟨rfl,hb3⟩
   have HR3:=Lib.hid (HR.out.keep hb3)
   have HRA:=Lib.hid HR3.out.1
   have HSZ:Hid (w1.heap.size ≤ w3.heap.size):=Lib.hid HR3.out.2.size
   clear hb3 hck
   go_wp2_with (at_builtin; refine wpList_append_rd _ rfl (.tmp 18) (.tmp 23) _ rfl w1.heap.size 3 i0 (.int .i64 0) 8 Tryd.underlying48 HI.out.1 HI.out.2.1 HI.out.2.2.1 HI.out.2.2.2 rfl _ _ _ rfl (HRA.out.alloc _) _ (intV [(y:Int)]) rfl (Rd.lit (cs:=#[.int .i64 y]) rfl) (intV_one _) HL1.out HL2.out ?_ ?_; (have:=HSZ.out; simp; omega); intro p2 w4 hrow2 hg2 _; have HR4:=Lib.hid (RowI.add HR3.out hrow2 hg2); clear hrow2 hg2)
   go_roundw
   case rel => exact ⟨k + 1,hlt,by simp,by rw [HST.out]; exact HR4.out⟩
   case measure => simp [intOf]; omega
  ·obtain rfl:k = q:=by omega
   obtain ⟨A3,n3,c3,rfl,hn3⟩:∃ A n c,u7 = .slice A n c ∧ True:=by
    obtain ⟨A,c,h⟩:=own_shape HR.out.1
    exact ⟨A,_,c,h,trivial⟩
   have c0:wr.cell? ⟨b,off + k0 * 3,none⟩ = some (.int .i64 o):=(HBW.out.cell (by exact hb)).trans HCELL.out
   have HLT:=Lib.hid (deplit_any o (.slice A3 n3 c3) _ wr HR.out.read HDB.out.1 HDB.out.2)
   go_wp2_with (go_at_call 66; (with_reducible refine HLT.out.mono ?_); rintro e w' ⟨rfl,rfl⟩)
   go_ret
   exact ⟨ret_int HCM.out.symm,HBW.out⟩
theorem comeDep_all (A:Option Addr) (n c:Nat) (l:List Tm) (hn:n = l.length) (hn62:n ≤ 70368744177664) (K:Nat):IHDep A n c l K:=by
 induction K with
 | zero =>
   intro a w hK _ he
   obtain ⟨k,m,hk,_,h1,h2,h3⟩:=endA_nn he
   omega
 | succ K ih => exact fun a w hK h he => comeDep_step A n c l K hn hn62 ih a w hK h he
theorem comeDep_any (A:Option Addr) (n c:Nat) (l:List Tm) (hn:n = l.length) (hn62:n ≤ 70368744177664) (a:Nat) (w:World) (h:Tms w (.slice A n c) l) (he:0 ≤ endA l a) :
 Calls Tryd.prog 68 #[.slice A n c,.int .i64 a,.func (.func 66) #[] #[]] w (RetI w (come depF (l.drop a))):=comeDep_all A n c l hn hn62 n a w (by omega) h he
def IHTyp (A:Option Addr) (n c:Nat) (l:List Tm) (K:Nat):Prop:=∀ (a:Nat) (w:World),n ≤ a + K → Tms w (.slice A n c) l → 0 ≤ endA l a → Calls Tryd.prog 68 #[.slice A n c,.int .i64 a,.func (.func 64) #[] #[]] w (RetI w (come typF (l.drop a)))
set_option maxHeartbeats 2000000 in
theorem comeTyp_step (A:Option Addr) (n c:Nat) (l:List Tm) (K:Nat) (hn:n = l.length) (hn62:n ≤ 70368744177664) (ih:IHTyp A n c l K) (a:Nat) (w:World) (hK:n ≤ a + (K + 1)) (h:Tms w (.slice A n c) l) (he:0 ≤ endA l a) :
 Calls Tryd.prog 68 #[.slice A n c,.int .i64 a,.func (.func 64) #[] #[]] w (RetI w (come typF (l.drop a))):=by
 obtain ⟨k0,m0,hk0,hc0,_,_,_⟩:=endA_nn he
 obtain rfl:k0 = a:=by omega
 obtain ⟨t,m,ht,h0,_,hm⟩:=first_of hc0
 have han:=get_lt ht
 have HT:=Lib.hid h
 have HM:=Lib.hid hm
 have HIH:=Lib.hid ih
 have HBL:=Lib.hid (below_yes A n c l k0 w h hn hn62 t ht he)
 obtain ⟨b,off,rfl,hb,c0,-,-⟩:=h.at_ ht
 have HCELL:=Lib.hid c0
 have HCM:=Lib.hid (come_at (f:=typF) ht)
 have hq:=(ar_bd t.op).2
 have e0:=arN_of h0
 have hsl:=stack_len (f:=typF) hm
 have hdl:((stack typF (l.drop (k0 + 1))).take (arN t.op)).length ≤ 4611686018427387903:=by rw [List.length_take]; omega
 have HDB:=Lib.hid hdl
 clear hdl
 obtain ⟨o,ho⟩:∃ o,o = t.op:=⟨_,rfl⟩
 rw [← ho] at HBL HCELL HCM hq e0 HM hsl c0 HDB
 obtain ⟨q,hqe⟩:∃ q,q = arN o:=⟨_,rfl⟩
 rw [← hqe] at HBL HCM e0 HM hsl HDB
 have hq2:q ≤ 2:=by omega
 have hal:k0 < n:=by omega
 have hal':(k0:Int) < n:=by omega
 have hlen:l.length = n:=hn.symm
 obtain ⟨i0,hi,hz0,hz1,hz2⟩:=info_parts inf_int
 have HI:=Lib.hid (And.intro hi (And.intro hz0 (And.intro hz1 hz2)))
 have HLEN:=Lib.hid hlen
 have HSL:=Lib.hid hsl
 clear ht ho hqe hn h hc0 hk0 hm he h0 e0 han hi hz0 hz1 hz2 hq c0 ih hlen hsl
 go_enter Tryd.func68,Tryd.ntmps68
 go_wp2_with (go_at_call 70; (with_reducible refine HBL.out.mono ?_))
 rintro e w1 ⟨v2,rfl,hr2,hb1⟩
 obtain ⟨A2,n2,c2,rfl,hn2,hc2,hA2⟩:=hr2.ints
 rw [belows_length] at hn2
 obtain rfl:q = n2:=hn2
 have HA2:=Lib.hid hA2
 have HB1:=Lib.hid hb1
 clear hr2 hc2 hA2 hb1
 go_wp2_with fail
 go_loopw [7,9,14] (fun p _ i wr => ComeRel typF w1 l k0 q p i wr) (fun _ _ i _ => 3 - (intOf i).toNat)
 case atStart => exact ⟨0,Nat.zero_le _,rfl,RowI.nil _ _ (Below.refl _ _)⟩
 case round =>
  obtain ⟨k,hk,rfl,hrow⟩:=hrel
  have hbw:=below_two' HB1.out hrow.2
  have HR:=Lib.hid hrow
  have HBW:=Lib.hid hbw
  clear hrow hbw
  by_cases hlt:k < q
  ·obtain ⟨b2,off2,rfl,hb2,hcell⟩:=HA2.out (by omega)
   obtain ⟨x,hx,hex,hbx,hst⟩:=below_place HM.out hlt
   have hck:=(HR.out.2.cell (p:=⟨b2,off2 + k,none⟩) (by exact hb2)).trans (hcell k _ hx)
   have HST:=Lib.hid (hst typF)
   rw [HLEN.out] at hbx
   have HCI:=Lib.hid (HIH.out (k0 + 1 + x) wr (by omega) (HT.out.keep HBW.out) hex)
   obtain ⟨y,hy⟩:∃ y,y = come typF (l.drop (k0 + 1 + x)):=⟨_,rfl⟩
   rw [← hy] at HST HCI
   obtain ⟨p,hp⟩:∃ p,p = k0 + 1 + x:=⟨_,rfl⟩
   rw [← hp] at HCI hck
   have hl:((stack typF (l.drop (k0 + 1))).take k).length = k:=by rw [List.length_take]; have:=HSL.out; omega
   have HL1:Hid (((stack typF (l.drop (k0 + 1))).take k).length + (intV [(y:Int)]).length ≤ maxLen):=Lib.hid (by rw [hl]; simp [maxLen]; omega)
   have HL2:Hid ((((stack typF (l.drop (k0 + 1))).take k).length + (intV [(y:Int)]).length) * 8 ≤ 140737488355328):=Lib.hid (by rw [hl]; simp; omega)
   clear hx hex hbx hst hcell hl hy hp
   go_wp2_with (go_at_call 68; (with_reducible refine HCI.out.mono ?_))
   rintro e w3 ⟨rfl,hb3⟩
   have HR3:=Lib.hid (HR.out.keep hb3)
   have HRA:=Lib.hid HR3.out.1
   have HSZ:Hid (w1.heap.size ≤ w3.heap.size):=Lib.hid HR3.out.2.size
   clear hb3 hck
   go_wp2_with (at_builtin; refine wpList_append_rd _ rfl (.tmp 18) (.tmp 23) _ rfl w1.heap.size 3 i0 (.int .i64 0) 8 Tryd.underlying48 HI.out.1 HI.out.2.1 HI.out.2.2.1 HI.out.2.2.2 rfl _ _ _ rfl (HRA.out.alloc _) _ (intV [(y:Int)]) rfl (Rd.lit (cs:=#[.int .i64 y]) rfl) (intV_one _) HL1.out HL2.out ?_ ?_; (have:=HSZ.out; simp; omega); intro p2 w4 hrow2 hg2 _; have HR4:=Lib.hid (RowI.add HR3.out hrow2 hg2); clear hrow2 hg2)
   go_roundw
   case rel => exact ⟨k + 1,hlt,by simp,by rw [HST.out]; exact HR4.out⟩
   case measure => simp [intOf]; omega
  ·obtain rfl:k = q:=by omega
   obtain ⟨A3,n3,c3,rfl,hn3⟩:∃ A n c,u7 = .slice A n c ∧ True:=by
    obtain ⟨A,c,h⟩:=own_shape HR.out.1
    exact ⟨A,_,c,h,trivial⟩
   have c0:wr.cell? ⟨b,off + k0 * 3,none⟩ = some (.int .i64 o):=(HBW.out.cell (by exact hb)).trans HCELL.out
   have HLT:=Lib.hid (typlit_any o (.slice A3 n3 c3) _ wr HR.out.read HDB.out)
   go_wp2_with (go_at_call 64; (with_reducible refine HLT.out.mono ?_); rintro e w' ⟨rfl,rfl⟩)
   go_ret
   exact ⟨ret_int HCM.out.symm,HBW.out⟩
theorem comeTyp_all (A:Option Addr) (n c:Nat) (l:List Tm) (hn:n = l.length) (hn62:n ≤ 70368744177664) (K:Nat):IHTyp A n c l K:=by
 induction K with
 | zero =>
   intro a w hK _ he
   obtain ⟨k,m,hk,_,h1,h2,h3⟩:=endA_nn he
   omega
 | succ K ih => exact fun a w hK h he => comeTyp_step A n c l K hn hn62 ih a w hK h he
theorem comeTyp_any (A:Option Addr) (n c:Nat) (l:List Tm) (hn:n = l.length) (hn62:n ≤ 70368744177664) (a:Nat) (w:World) (h:Tms w (.slice A n c) l) (he:0 ≤ endA l a) :
 Calls Tryd.prog 68 #[.slice A n c,.int .i64 a,.func (.func 64) #[] #[]] w (RetI w (come typF (l.drop a))):=comeTyp_all A n c l hn hn62 n a w (by omega) h he
end Go.Proofs.YtejbpleghjgpbaaDoor
namespace Go.Proofs.YtejbpleghjgpbaaDoor
open Go.RowKit TermSpec
end Go.Proofs.YtejbpleghjgpbaaDoor
namespace Go.Proofs.YtejbpleghjgpbaaDoor
open Go.RowKit TermSpec
set_option maxRecDepth 100000
theorem whole_yes {l:List Tm} {n:Nat} (hn:n = l.length) (h40:n ≤ 40) (h:endA l 0 = n):wholeB l = true:=by
 refine wholeB_iff.2 ⟨by omega,?_⟩
 obtain ⟨k,m,hk,hc,he,hm,hl⟩:=endA_nn (l:=l) (a:=0) (by omega)
 obtain rfl:k = 0:=by omega
 rw [List.drop_zero] at hc
 rw [hc]
 congr 1
 omega
theorem whole_no {l:List Tm} {n:Nat} (hn:n = l.length) (h:¬ (n ≤ 40 ∧ endA l 0 = n)):wholeB l = false:=by
 rw [Bool.eq_false_iff]
 intro hw
 obtain ⟨h1,h2⟩:=wholeB_iff.1 hw
 refine h ⟨by omega,?_⟩
 have:=endA_some (l:=l) (a:=0) (m:=l.length) (by simpa using h2)
 rw [show (0:Int) = ((0:Nat):Int) from rfl,this]
 omega
theorem tell_no {f:Int → List Int → Int} {l:List Tm} (h:wholeB l = false):tell f l = 0:=by unfold tell; rw [h]; rfl
theorem tell_yes {f:Int → List Int → Int} {l:List Tm} (h:wholeB l = true):tell f l = come f l:=by unfold tell; rw [h]; rfl
theorem comeDep_zero (A:Option Addr) (n c:Nat) (l:List Tm) (hn:n = l.length) (hn62:n ≤ 70368744177664) (w:World) (h:Tms w (.slice A n c) l) (he:0 ≤ endA l 0) :
 Calls Tryd.prog 68 #[.slice A n c,.int .i64 0,.func (.func 66) #[] #[]] w (RetI w (come depF l)):=by
 have:=comeDep_any A n c l hn hn62 0 w h he
 rwa [List.drop_zero] at this
set_option maxHeartbeats 1000000 in
theorem wholeDep_any (A:Option Addr) (n c:Nat) (l:List Tm) (hn:n = l.length) (hn62:n ≤ 70368744177664) (w:World) (h:Tms w (.slice A n c) l) :
 Calls Tryd.prog 63 #[.slice A n c,.func (.func 66) #[] #[]] w (RetI w (tell depF l)):=by
 by_cases h40:40 < n
 ·have HE:=Lib.hid (tell_no (f:=depF) (whole_no hn (by omega)))
  clear hn h
  go_enter Tryd.func63,Tryd.ntmps63
  go_wp2_with fail
  go_ret
  exact ⟨ret_int HE.out.symm,Below.refl _ _⟩
 ·have hE:=end_any A n c l 0 w h hn (by omega)
  have HY:Hid (endA l 0 = n → Calls Tryd.prog 68 #[.slice A n c,.int .i64 0,.func (.func 66) #[] #[]] w (RetI w (come depF l)) ∧ tell depF l = come depF l):=Lib.hid (fun h0 => ⟨comeDep_zero A n c l hn hn62 w h (by omega),tell_yes (whole_yes hn (by omega) h0)⟩)
  have HN:Hid (endA l 0 ≠ n → tell depF l = 0):=Lib.hid (fun h0 => tell_no (whole_no hn (fun h => h0 h.2)))
  obtain ⟨r,hr⟩:∃ r,r = endA l 0:=⟨_,rfl⟩
  rw [← hr] at hE HY HN
  have HE:=Lib.hid hE
  clear hr hE hn h
  by_cases hrn:r = n
  ·have g:(r != (n:Int)) = false:=by simp [hrn]
   have HC:=Lib.hid (HY.out hrn).1
   have HV:=Lib.hid (HY.out hrn).2
   clear hrn HN HY
   go_enter Tryd.func63,Tryd.ntmps63
   go_wp2_with (first
    | (go_at_call 67; (with_reducible refine HE.out.mono ?_); rintro e w' ⟨rfl,rfl⟩)
    | (go_at_call 68; (with_reducible refine HC.out.mono ?_)))
   rintro e w1 ⟨rfl,hb1⟩
   go_wp2_with fail
   go_ret
   exact ⟨ret_int HV.out.symm,hb1⟩
  ·have g:(r != (n:Int)) = true:=by simp [hrn]
   have HV:=Lib.hid (HN.out hrn)
   clear hrn HN HY
   go_enter Tryd.func63,Tryd.ntmps63
   go_wp2_with (go_at_call 67; (with_reducible refine HE.out.mono ?_); rintro e w' ⟨rfl,rfl⟩)
   go_ret
   exact ⟨ret_int HV.out.symm,Below.refl _ _⟩
theorem depth_any (A:Option Addr) (n c:Nat) (l:List Tm) (hn:n = l.length) (hn62:n ≤ 70368744177664) (w:World) (h:Tms w (.slice A n c) l) :
 Calls Tryd.prog 61 #[.slice A n c] w (RetI w (depth l)):=by
 have HC:=Lib.hid (wholeDep_any A n c l hn hn62 w h)
 obtain ⟨r,hr⟩:∃ r,r = tell depF l:=⟨_,rfl⟩
 have HR:Hid (depth l = r):=Lib.hid hr.symm
 rw [← hr] at HC
 clear hr hn h
 go_enter Tryd.func61,Tryd.ntmps61
 go_wp2_with (go_at_call 63; (with_reducible refine HC.out.mono ?_))
 rintro e w1 ⟨rfl,hb1⟩
 go_wp2_with fail
 go_ret
 exact ⟨ret_int HR.out.symm,hb1⟩
theorem comeTyp_zero (A:Option Addr) (n c:Nat) (l:List Tm) (hn:n = l.length) (hn62:n ≤ 70368744177664) (w:World) (h:Tms w (.slice A n c) l) (he:0 ≤ endA l 0) :
 Calls Tryd.prog 68 #[.slice A n c,.int .i64 0,.func (.func 64) #[] #[]] w (RetI w (come typF l)):=by
 have:=comeTyp_any A n c l hn hn62 0 w h he
 rwa [List.drop_zero] at this
set_option maxHeartbeats 1000000 in
theorem wholeTyp_any (A:Option Addr) (n c:Nat) (l:List Tm) (hn:n = l.length) (hn62:n ≤ 70368744177664) (w:World) (h:Tms w (.slice A n c) l) :
 Calls Tryd.prog 63 #[.slice A n c,.func (.func 64) #[] #[]] w (RetI w (tell typF l)):=by
 by_cases h40:40 < n
 ·have HE:=Lib.hid (tell_no (f:=typF) (whole_no hn (by omega)))
  clear hn h
  go_enter Tryd.func63,Tryd.ntmps63
  go_wp2_with fail
  go_ret
  exact ⟨ret_int HE.out.symm,Below.refl _ _⟩
 ·have hE:=end_any A n c l 0 w h hn (by omega)
  have HY:Hid (endA l 0 = n → Calls Tryd.prog 68 #[.slice A n c,.int .i64 0,.func (.func 64) #[] #[]] w (RetI w (come typF l)) ∧ tell typF l = come typF l):=Lib.hid (fun h0 => ⟨comeTyp_zero A n c l hn hn62 w h (by omega),tell_yes (whole_yes hn (by omega) h0)⟩)
  have HN:Hid (endA l 0 ≠ n → tell typF l = 0):=Lib.hid (fun h0 => tell_no (whole_no hn (fun h => h0 h.2)))
  obtain ⟨r,hr⟩:∃ r,r = endA l 0:=⟨_,rfl⟩
  rw [← hr] at hE HY HN
  have HE:=Lib.hid hE
  clear hr hE hn h
  by_cases hrn:r = n
  ·have g:(r != (n:Int)) = false:=by simp [hrn]
   have HC:=Lib.hid (HY.out hrn).1
   have HV:=Lib.hid (HY.out hrn).2
   clear hrn HN HY
   go_enter Tryd.func63,Tryd.ntmps63
   go_wp2_with (first
    | (go_at_call 67; (with_reducible refine HE.out.mono ?_); rintro e w' ⟨rfl,rfl⟩)
    | (go_at_call 68; (with_reducible refine HC.out.mono ?_)))
   rintro e w1 ⟨rfl,hb1⟩
   go_wp2_with fail
   go_ret
   exact ⟨ret_int HV.out.symm,hb1⟩
  ·have g:(r != (n:Int)) = true:=by simp [hrn]
   have HV:=Lib.hid (HN.out hrn)
   clear hrn HN HY
   go_enter Tryd.func63,Tryd.ntmps63
   go_wp2_with (go_at_call 67; (with_reducible refine HE.out.mono ?_); rintro e w' ⟨rfl,rfl⟩)
   go_ret
   exact ⟨ret_int HV.out.symm,Below.refl _ _⟩
theorem typ_any (A:Option Addr) (n c:Nat) (l:List Tm) (hn:n = l.length) (hn62:n ≤ 70368744177664) (w:World) (h:Tms w (.slice A n c) l) :
 Calls Tryd.prog 58 #[.slice A n c] w (RetI w (typ l)):=by
 have HC:=Lib.hid (wholeTyp_any A n c l hn hn62 w h)
 obtain ⟨r,hr⟩:∃ r,r = tell typF l:=⟨_,rfl⟩
 have HR:Hid (typ l = r):=Lib.hid hr.symm
 rw [← hr] at HC
 clear hr hn h
 go_enter Tryd.func58,Tryd.ntmps58
 go_wp2_with (go_at_call 63; (with_reducible refine HC.out.mono ?_))
 rintro e w1 ⟨rfl,hb1⟩
 go_wp2_with fail
 go_ret
 exact ⟨ret_int HR.out.symm,hb1⟩
def AllMay (W:World) (l:List Tm) (n:Nat) (i:Value) (wr:World):Prop:=∃ k:Nat,k ≤ n ∧ i = .int .i64 k ∧ (l.take k).all mayB = true ∧ Below W.heap.size W wr
theorem may_stop {l:List Tm} {k:Nat} {t:Tm} (ht:l[k]? = some t) (h:mayB t = false):l.all mayB = false:=by
 rw [List.all_eq_false]
 exact ⟨t,List.mem_of_getElem? ht,by simp [h]⟩
theorem may_next {l:List Tm} {k:Nat} {t:Tm} (ht:l[k]? = some t) (h0:(l.take k).all mayB = true) (h:mayB t = true):(l.take (k + 1)).all mayB = true:=by
 rw [take_next ht,List.all_append,h0]; simpa using h
theorem chk_full {l:List Tm} (h:40 < l.length):chk l = 8:=by unfold chk; rw [if_pos h]
theorem chk_none {l:List Tm} (h:¬ 40 < l.length) (h1:wholeB l = false):chk l = 1:=by unfold chk; rw [if_neg h,if_pos h1]
theorem chk_may {l:List Tm} (h:¬ 40 < l.length) (h1:wholeB l = true) (h2:l.all mayB = false):chk l = 1:=by unfold chk; rw [if_neg h,if_neg (by simp [h1]),if_pos h2]
theorem chk_last {l:List Tm} (h:¬ 40 < l.length) (h1:wholeB l = true) (h2:l.all mayB = true):chk l = if 12 < depth l then 6 else 0:=by unfold chk; rw [if_neg h,if_neg (by simp [h1]),if_neg (by simp [h2])]
set_option maxHeartbeats 2000000 in
theorem check_any (A:Option Addr) (n c:Nat) (l:List Tm) (hn:n = l.length) (hn62:n ≤ 70368744177664) (hs:Small l) (w:World) (h:Tms w (.slice A n c) l) :
 Calls Tryd.prog 56 #[.slice A n c] w (RetI w (chk l)):=by
 by_cases h40:40 < n
 ·have HE:=Lib.hid (chk_full (l:=l) (by omega))
  clear hn h
  go_enter Tryd.func56,Tryd.ntmps56
  go_wp2_with fail
  go_ret
  exact ⟨ret_int HE.out.symm,Below.refl _ _⟩
 have HD:=Lib.hid (depth_any A n c l hn hn62 w h)
 have h40':¬ 40 < l.length:=by omega
 cases hw:wholeB l with
 | false =>
   have hd:depth l = 0:=depth_zero.2 hw
   rw [hd] at HD
   have HE:=Lib.hid (chk_none h40' hw)
   clear hn h hw hd h40'
   go_enter Tryd.func56,Tryd.ntmps56
   go_wp2_with (go_at_call 61; (with_reducible refine HD.out.mono ?_))
   rintro e w1 ⟨rfl,hb1⟩
   go_wp2_with fail
   go_ret
   exact ⟨ret_int HE.out.symm,hb1⟩
 | true =>
   have hd0:1 ≤ depth l:=by unfold depth; rw [tell_yes hw]; exact (come_depth (wholeB_iff.1 hw).2).1
   have HL:=Lib.hid (fun h2 => chk_last h40' hw h2)
   have HM:=Lib.hid (fun h2 => chk_may h40' hw h2)
   obtain ⟨d,hd⟩:∃ d,d = depth l:=⟨_,rfl⟩
   rw [← hd] at HD HL hd0
   have gd:(d == 0) = false:=by simp; omega
   have HT:=Lib.hid h
   have HN:=Lib.hid hn
   have HS:=Lib.hid hs
   clear hn h hw hd h40' hs
   go_enter Tryd.func56,Tryd.ntmps56
   go_wp2_with (go_at_call 61; (with_reducible refine HD.out.mono ?_))
   rintro e w1 ⟨rfl,hb1⟩
   have HB1:=Lib.hid hb1
   clear hb1
   go_wp2_with fail
   go_loopw [5,15] (fun _ i wr => AllMay w l n i wr) (fun _ i _ => n - (intOf i).toNat)
   case atStart => exact ⟨0,Nat.zero_le _,rfl,rfl,HB1.out⟩
   case round =>
    obtain ⟨k,hk,rfl,hall,hbw⟩:=hrel
    have HA:=Lib.hid hall
    have HB:=Lib.hid hbw
    clear hall hbw
    by_cases hlt:k < n
    ·obtain ⟨t,ht⟩:∃ t,l[k]? = some t:=get_some (by rw [← HN.out]; exact hlt)
     obtain ⟨b,off,rfl,hb,c0,c1,c2⟩:=(HT.out.keep HB.out).at_ ht
     have HC:Hid (∀ w,Calls Tryd.prog 62 #[.agg #[.int .i64 t.op,.int .i64 t.n,.string t.s]] w (RetB w (mayB t))):=Lib.hid (fun w => may_any t w (HS.out t (List.mem_of_getElem? ht)))
     have HX:=Lib.hid ht
     obtain ⟨q,hq⟩:∃ q,q = mayB t:=⟨_,rfl⟩
     rw [← hq] at HC
     have HQ:=Lib.hid hq.symm
     clear ht hq
     cases q with
     | true =>
       go_wp2_with (go_at_call 62; (with_reducible refine (HC.out _).mono ?_))
       rintro e w2 ⟨rfl,hb2⟩
       have HB2:=Lib.hid (below_two' (HB.out.alloc HB.out.size _) hb2)
       clear hb2 c0 c1 c2
       go_wp2_with fail
       go_roundw
       case rel => exact ⟨k + 1,hlt,by simp,may_next HX.out HA.out HQ.out,HB2.out⟩
       case measure => simp [intOf]; omega
     | false =>
       go_wp2_with (go_at_call 62; (with_reducible refine (HC.out _).mono ?_))
       rintro e w2 ⟨rfl,hb2⟩
       have HB2:=Lib.hid (below_two' (HB.out.alloc HB.out.size _) hb2)
       clear hb2 c0 c1 c2
       go_wp2_with fail
       go_ret
       exact ⟨ret_int (HM.out (may_stop HX.out HQ.out)).symm,HB2.out⟩
    ·have HE:Hid (chk l = if 12 < d then 6 else 0):=Lib.hid (HL.out (by have:=HA.out; rwa [List.take_of_length_le (by rw [← HN.out]; omega)] at this))
     by_cases h12:12 < d
     all_goals
      go_wp2_with fail
      go_ret
      exact ⟨ret_int (by rw [HE.out]; first | rw [if_pos h12] | rw [if_neg (by omega)]),HB.out⟩
end Go.Proofs.YtejbpleghjgpbaaDoor
namespace Go.Proofs.YtejbpleghjgpbaaDoor
open Go.RowKit CurSpec TermSpec ExprSpec NamesSpec
end Go.Proofs.YtejbpleghjgpbaaDoor
namespace Go.Proofs.YtejbpleghjgpbaaDoor
open Go.RowKit CurSpec
end Go.Proofs.YtejbpleghjgpbaaDoor
namespace Go.Proofs.YtejbpleghjgpbaaDoor
namespace ScanSpec
def isLow (c:UInt8):Bool:=decide (97 ≤ (c.toNat:Int)) && decide ((c.toNat:Int) ≤ 122)
def isDig (c:UInt8):Bool:=decide (48 ≤ (c.toNat:Int)) && decide ((c.toNat:Int) ≤ 57)
def isBlank (c:UInt8):Bool:=(c.toNat == 32 || c.toNat == 9) || c.toNat == 10 || c.toNat == 13
def clsB (c:UInt8):Int:=if isLow c then 1 else if isDig c then 2 else if c.toNat = 95 then 3 else if isBlank c then 4 else if c.toNat = 35 then 5 else 0
def cls (l:List UInt8) (i:Nat):Int:=match l[i]? with | some c => clsB c | none => 0
def run (p:UInt8 → Bool):List UInt8 → Nat
 | [] => 0
 | c :: t => if p c then run p t + 1 else 0
def isWord (c:UInt8):Bool:=decide (1 ≤ clsB c) && decide (clsB c ≤ 3)
def isNum (c:UInt8):Bool:=decide (clsB c = 2)
def marks:List (List UInt8):=[[45,62],[58,61],[60,61],[62,61],[33,61],[61,61],[46,46],[123],[125],[91],[93],[40],[41],[44],[59],[61],[60],[62],[43],[45],[42],[47]]
def markLen (d:List UInt8):Nat:=match marks.find? fun m => m.isPrefixOf d with | some m => m.length | none => 0
def one (d:List UInt8):Int × Nat × Int :=
 if cls d 0 = 1 then (if 12 < run isWord d then (0,0,5) else (1,run isWord d,0))
 else if cls d 0 = 2 then (if cls d (run isNum d) = 1 ∨ cls d (run isNum d) = 3 then (0,0,2) else if 9 < run isNum d then (0,0,5) else (2,run isNum d,0))
 else if markLen d = 0 then (0,0,2) else (3,markLen d,0)
def posGo:List UInt8 → Int × Int → Int × Int
 | [],p => p
 | c :: t,p => posGo t (if c.toNat = 10 then (p.1 + 1,1) else (p.1,p.2 + 1))
def pos (l:List UInt8) (i:Nat):Int × Int:=posGo (l.take i) (1,1)
end ScanSpec
end Go.Proofs.YtejbpleghjgpbaaDoor
namespace Go.Proofs.YtejbpleghjgpbaaDoor
open Go.RowKit ScanSpec
end Go.Proofs.YtejbpleghjgpbaaDoor
namespace Go.Proofs.YtejbpleghjgpbaaDoor
open Go.RowKit ScanSpec Go.BigFrame
end Go.Proofs.YtejbpleghjgpbaaDoor
namespace Go.Proofs.YtejbpleghjgpbaaDoor
open Go.RowKit ScanSpec
end Go.Proofs.YtejbpleghjgpbaaDoor
namespace Go.Proofs.YtejbpleghjgpbaaDoor
open Go.RowKit ScanSpec
end Go.Proofs.YtejbpleghjgpbaaDoor
namespace Go.Proofs.YtejbpleghjgpbaaDoor
open Go.RowKit ScanSpec
end Go.Proofs.YtejbpleghjgpbaaDoor
namespace Go.Proofs.YtejbpleghjgpbaaDoor
open Go.RowKit ScanSpec
set_option maxRecDepth 100000
end Go.Proofs.YtejbpleghjgpbaaDoor
namespace Go.Proofs.YtejbpleghjgpbaaDoor
open Go.RowKit ScanSpec
end Go.Proofs.YtejbpleghjgpbaaDoor
namespace Go.Proofs.YtejbpleghjgpbaaDoor
open Go.RowKit ScanSpec
end Go.Proofs.YtejbpleghjgpbaaDoor
namespace Go.Proofs.YtejbpleghjgpbaaDoor
open Go.RowKit ScanSpec
end Go.Proofs.YtejbpleghjgpbaaDoor
namespace Go.Proofs.YtejbpleghjgpbaaDoor
open Go.RowKit CurSpec TermSpec ExprSpec NamesSpec ScanSpec
theorem Tms.but {w w':World} {A:Option Addr} {n cp B:Nat} {l:List Tm} (h:Tms w (.slice A n cp) l) (hb:w.grownBy w' (some B)) (hne:(Value.slice A n cp).ownBlock ≠ some B):Tms w' (.slice A n cp) l:=by
 obtain ⟨m,hm,A',c',heq,hc,hl,hA⟩:=h
 cases heq
 refine ⟨n,hm,A,cp,rfl,hc,hl,fun h0 => ?_⟩
 obtain ⟨b,off,rfl,hlt,hcell⟩:=hA h0
 refine ⟨b,off,rfl,Nat.lt_of_lt_of_le hlt hb.size,fun j u hj => ?_⟩
 rw [← hcell j u hj]
 have:=hb.block b hlt (fun e => hne (by rw [← e]; rfl))
 simp [World.cell?,this]
end Go.Proofs.YtejbpleghjgpbaaDoor
namespace Go.Proofs.YtejbpleghjgpbaaDoor
namespace ExprSpec
open CurSpec TermSpec ScanSpec
abbrev T (s:ByteArray):List UInt8:=s.data.toList
end ExprSpec
end Go.Proofs.YtejbpleghjgpbaaDoor
namespace Go.Proofs.YtejbpleghjgpbaaDoor
namespace ActSpec
open CurSpec TermSpec EvalSpec NamesSpec ExprSpec ScanSpec
end ActSpec
end Go.Proofs.YtejbpleghjgpbaaDoor
namespace Go.Proofs.YtejbpleghjgpbaaDoor
namespace TransSpec
open CurSpec TermSpec EvalSpec NamesSpec ExprSpec ScanSpec ActSpec
def Behind (c:Cur) (ws:List ByteArray):Prop:=(next c).k = 3 ∧ (next c).t ∈ ws
end TransSpec
end Go.Proofs.YtejbpleghjgpbaaDoor
namespace Go.Proofs.YtejbpleghjgpbaaDoor
namespace PrintSpec
open CurSpec TermSpec EvalSpec NamesSpec ExprSpec ScanSpec ActSpec TransSpec SynSpec
open ShapeSpec (Sh up sf endOf)
def shOf (s:Sx):Sh:=⟨s.kind,s.par⟩
def smallV (n:Int):Bool:=decide (-1000 ≤ n) && decide (n ≤ 1000)
def okV (v:Vr):Bool:=isName v.s.data.toList && (smallV v.lo && (smallV v.hi && smallV v.ini))
def okS (s:Sx):Bool:=isName s.s.data.toList && (decide (chkA s.en = 0) && (decide (chkA s.ex = 0) && (decide (s.tr.length ≤ 16) && s.tr.all fun t => decide (chkT t = 0))))
def mayC (x:Cx):Bool :=
 isName x.s.data.toList && (decide (x.evs.length ≤ 8) && (decide (x.vars.length ≤ 4) && (decide (ShapeSpec.chk (x.sts.map shOf) = 0) && ((x.evs.all fun e => isName e.data.toList) && (x.vars.all okV && x.sts.all okS)))))
structure Ts where
 s:ByteArray
 kind:Int
 par:Int
 en:List Ta
 ex:List Ta
 tr:List Tt
structure Ts.Ok (t:Ts):Prop where
 nm:isName t.s.data.toList = true
 en:∀ a ∈ t.en,a.Ok
 enf:t.en.length ≤ 8
 ex:∀ a ∈ t.ex,a.Ok
 exf:t.ex.length ≤ 8
 tr:∀ a ∈ t.tr,a.Ok
 trf:t.tr.length ≤ 16
structure Tc where
 s:ByteArray
 evs:List ByteArray
 vars:List Vr
 sts:List Ts
def Tc.sh (c:Tc):List Sh:=c.sts.map fun t => ⟨t.kind,t.par⟩
structure Tc.Ok (c:Tc):Prop where
 nm:isName c.s.data.toList = true
 evf:c.evs.length ≤ 8
 vaf:c.vars.length ≤ 4
 sh:ShapeSpec.chk c.sh = 0
 evs:∀ e ∈ c.evs,isName e.data.toList = true
 vars:∀ v ∈ c.vars,okV v = true
 sts:∀ t ∈ c.sts,t.Ok
section
variable (sh:List Sh)
end
section
variable (sh:List Sh)
end
end PrintSpec
end Go.Proofs.YtejbpleghjgpbaaDoor