/- ConfRefFill, joined. -/
import Derived.Test.YtckojimeglkobaaGreatDoorMConfFills12
import Derived.Test.YtckojimeglkobaaGreatDoorMConfFills13
namespace Go.Proofs.YtckojimeglkobaaGreatDoor
open Go.RowKit Go.Sort TermSpec EvalSpec ActSpec NamesSpec ExprSpec TransSpec SynSpec CurSpec ShapeSpec GroupSpec PrintSpec ConfSpec
set_option maxRecDepth 100000
theorem closed_next {l:List Sh} {a:List Int} {k:Nat} (h:closedTo l a k) (hk:(k:Int) ∈ a → (kind l k = 2 → ∃ x ∈ kids l k,x ∈ a) ∧ (kind l k = 3 → ∀ x ∈ kids l k,x ∈ a)):closedTo l a (k + 1):=fun i hi hm => by
 by_cases e:i = k
 ·subst e; exact hk hm
 ·exact h i (by omega) hm
def P3 (l:List Sh) (a0:List Int) (v:Value) (a:List Int) (k:Nat):Prop:=(v = .bool false ∧ a = a0 ∧ closedTo l a0 k) ∨ (v = .bool true ∧ a0.length < a.length)
theorem P3.close {l:List Sh} {a0 a:List Int} {v:Value} {k:Nat} (h:P3 l a0 v a k) (h2:kind l k = 2 → ∃ x ∈ kids l k,x ∈ a) (h3:kind l k = 3 → ∀ x ∈ kids l k,x ∈ a):P3 l a0 v a (k + 1):=by
 rcases h with ⟨h,rfl,hc⟩ | h
 ·exact .inl ⟨h,rfl,closed_next hc fun _ => ⟨h2,h3⟩⟩
 ·exact .inr h
theorem P3.skip {l:List Sh} {a0 a:List Int} {v:Value} {k:Nat} (h:P3 l a0 v a k) (hk:(k:Int) ∉ a):P3 l a0 v a (k + 1):=by
 rcases h with ⟨h,rfl,hc⟩ | h
 ·exact .inl ⟨h,rfl,closed_next hc fun h => absurd h hk⟩
 ·exact .inr h
theorem P3.grow {l:List Sh} {a0 a:List Int} {v:Value} {k:Nat} (h:P3 l a0 v a k) (y:Int) (k':Nat):P3 l a0 (.bool true) (a ++ [y]) k':=by
 refine .inr ⟨rfl,?_⟩
 rw [List.length_append]
 rcases h with ⟨_,rfl,_⟩ | ⟨_,h⟩
 ·simp
 ·simp; omega
theorem FillR.all3 {l:List Sh} {m k:Nat} {a:List Int} {y:Int} (h:FillR l m a) (hl:l.length ≤ 60) (hf:IsFill l m (fillG l m)) (hk:(k:Int) ∈ a) (h3:kind l k = 3) (hy:y ∈ kids l k) (hn:y ∉ a):FillR l m (a ++ [y]):=by
 obtain ⟨c,rfl,hc,hp⟩:=kid_nat hy
 obtain ⟨k',e,hk',hb⟩:=h.ok _ hk
 obtain rfl:k = k':=by omega
 exact h.add hc (kid_filled (by omega) hf hy hb (.inl h3)) hn
theorem FillR.one2 {l:List Sh} {m k:Nat} {a:List Int} {y:Int} (h:FillR l m a) (hl:l.length ≤ 60) (hf:IsFill l m (fillG l m)) (hk:(k:Int) ∈ a) (h2:kind l k = 2) (hy:(kids l k)[0]? = some y) (hno:∀ x ∈ kids l k,x ∉ a):FillR l m (a ++ [y]):=by
 have hm:=List.mem_of_getElem? hy
 obtain ⟨c,rfl,hc,hp⟩:=kid_nat hm
 obtain ⟨k',e,hk',hb⟩:=h.ok _ hk
 obtain rfl:k = k':=by omega
 refine h.add hc (kid_filled (by omega) hf hm hb (.inr ⟨h2,by rw [← hy]; exact List.head?_eq_getElem?,fun q hq => ?_⟩)) (hno _ hm)
 cases hmq:m.testBit q with
 | false => rfl
 | true => exact absurd (h.has q (kid_mem.1 hq).1 hmq) (hno _ hq)
theorem take_in {ks a:List Int} {j:Nat} {y:Int} (hy:ks[j]? = some y) (h:∀ x ∈ ks.take j,x ∈ a) (hm:y ∈ a):∀ x ∈ ks.take (j + 1),x ∈ a:=by
 rw [take_next hy]
 intro x hx
 rcases List.mem_append.1 hx with hx | hx
 ·exact h x hx
 ·rw [List.mem_singleton.1 hx]; exact hm
def inN (a ks:List Int) (k:Nat):Nat:=((ks.take k).filter fun x => decide (x ∈ a)).length
theorem inN_next {a ks:List Int} {k:Nat} {x:Int} (h:ks[k]? = some x):inN a ks (k + 1) = inN a ks k + if x ∈ a then 1 else 0:=by
 unfold inN
 rw [take_next h,List.filter_append,List.length_append,List.filter_cons]
 by_cases hx:x ∈ a
 ·rw [decide_eq_true hx,if_pos rfl,if_pos hx]; rfl
 ·rw [decide_eq_false hx,if_neg (by simp),if_neg hx]; rfl
theorem inN_le (a ks:List Int) (k:Nat):inN a ks k ≤ k:=by
 unfold inN
 refine Nat.le_trans (List.length_filter_le _ _) ?_
 rw [List.length_take]
 omega
theorem inN_all {a ks:List Int}:inN a ks ks.length = 0 ↔ ∀ x ∈ ks,x ∉ a:=by
 unfold inN
 rw [List.take_length,List.length_eq_zero_iff,List.filter_eq_nil_iff]
 simp
theorem inN_some {a ks:List Int} (h:inN a ks ks.length ≠ 0):∃ x ∈ ks,x ∈ a:=by
 apply Classical.byContradiction
 intro hn
 exact h (inN_all.2 fun x hx hxa => hn ⟨x,hx,hxa⟩)
def lenV:Value → Nat
 | .slice _ n _ => n
 | _ => 0
def boolN:Value → Nat
 | .bool true => 1
 | _ => 0
theorem lenV_row {W wr:World} {p:Value} {a:List Int} (h:RowI W wr p a):lenV p = a.length:=by
 obtain ⟨A,c,rfl⟩:=own_shape h.1
 rfl
def RelA (W1:World) (m n:Nat) (p v:Value) (wr:World):Prop:=∃ k:Nat,k ≤ n ∧ v = .int .i64 k ∧ Hid (RowI W1 wr p (hasTo m k))
def RelB (W1:World) (l:List Sh) (m n:Nat) (p v:Value) (wr:World):Prop:=∃ a,Hid (RowI W1 wr p a) ∧ FillR l m a ∧ (v = .bool true ∨ (v = .bool false ∧ closedTo l a n))
def RelC (W1:World) (l:List Sh) (m n:Nat) (a0:List Int) (p mo v:Value) (wr:World):Prop:=∃ k:Nat,k ≤ n ∧ v = .int .i64 k ∧ ∃ a,Hid (RowI W1 wr p a) ∧ FillR l m a ∧ P3 l a0 mo a k
def RelD (ks a:List Int) (N:Nat) (c v:Value):Prop:=∃ j:Nat,j ≤ N ∧ v = .int .i64 j ∧ c = .int .i64 (inN a ks j)
def RelE (W1:World) (l:List Sh) (m:Nat) (a0 a1 ks:List Int) (kd:Int) (k N:Nat) (kv p mo v:Value) (wr:World):Prop :=
 ∃ j:Nat,j ≤ N ∧ v = .int .i64 j ∧ ∃ a,Hid (RowI W1 wr p a) ∧ FillR l m a ∧ P3 l a0 mo a k ∧ (∀ x ∈ a1,x ∈ a) ∧ (∀ x ∈ ks.take j,x ∈ a) ∧ (kd ≠ 3 → j = 0) ∧ Hid (KRow wr p kv ks)
section
variable (x:Cx) (eA:Option Addr) (en ec:Nat) (vA:Option Addr) (vn vc:Nat) (sA:Option Addr) (sn sc:Nat) (w:World) (h:ChIn w (.slice eA en ec) (.slice vA vn vc) (.slice sA sn sc) x) (hc:chk (x.sts.map shOf) = 0) (hne:∀ i,i < (x.sts.map shOf).length → kind (x.sts.map shOf) i = 2 → kids (x.sts.map shOf) i ≠ []) (m:Nat) (h64:m < 18446744073709551616)
include h hc hne h64
set_option maxRecDepth 100000 in
set_option maxHeartbeats 16000000 in
theorem rfill18:Calls Tryz.prog 14 #[.agg #[.string x.s,.slice eA en ec,.slice vA vn vc,.slice sA sn sc],.int .u64 m] w (fun e w' => e = .returned (.int .u64 (fillG (x.sts.map shOf) m)) ∧ Below w.heap.size w w'):=by
 have hsl:(x.sts.map shOf).length = sn:=by rw [List.length_map]; exact h.sts.len.1.symm
 obtain ⟨l,hl⟩:∃ l,l = x.sts.map shOf:=⟨_,rfl⟩
 rw [← hl] at hsl hc hne ⊢
 have HST:Hid (∀ W,Below w.heap.size w W → Sts W (.slice sA sn sc) l):=Lib.hid fun W hW => by rw [hl]; exact (h.sts.keep hW).sts
 have HSL:=Lib.hid hsl
 have h60:Hid (l.length ≤ 60):=Lib.hid (chk_ok hc).1
 have HLE:Hid (l.length ≤ 60 ∧ sn ≤ 60):=Lib.hid ⟨h60.out,by have:=h60.out; omega⟩
 have hsn:sn ≤ 60:=HLE.out.2
 have HFIL:=Lib.hid (fill_is hc hne h64)
 have HFST:=Lib.hid (fillR_start hc hne h64)
 have HFEND:Hid (∀ a,FillR l m a → closedTo l a l.length → ofG a = fillG l m):=Lib.hid fun a h1 h2 => fillR_end hc hne h64 h1 h2
 have HNE:=Lib.hid hne
 have HH:=Lib.hid (fun (i:Int) W => rhas_any16 m i h64 W)
 obtain ⟨nm,hnm⟩:∃ nm,nm = x.s:=⟨_,rfl⟩
 rw [← hnm]
 obtain ⟨Wb,hWb⟩:∃ Wb,w.alloc (chO18 nm eA en ec vA vn vc sA sn sc) = Wb:=⟨_,rfl⟩
 have hbw:Below w.heap.size w Wb:=by rw [← hWb]; exact KitC.below_one _ _
 have hkw:Wb.heap[w.heap.size]? = some (chO18 nm eA en ec vA vn vc sA sn sc):=by rw [← hWb]; exact heap_alloc_new _ _
 have HC:Hid (∀ W,Below Wb.heap.size Wb W → W.heap[w.heap.size]? = some (chO18 nm eA en ec vA vn vc sA sn sc)):=Lib.hid fun W hW => KitC.block_on hkw hW
 have HWB:=Lib.hid hWb
 have HWZ:Hid (w.heap.size + 1 = Wb.heap.size):=Lib.hid (by rw [← hWb]; simp)
 have HBW:=Lib.hid hbw
 obtain ⟨i0,hi,hz0,hz1,hz2⟩:=info_parts inf_int
 have HI:=Lib.hid (And.intro hi (And.intro hz0 (And.intro hz1 hz2)))
 clear h hc hne h64 hsl hl hnm hWb hbw hkw hi hz0 hz1 hz2
 go_enter Tryz.func14,Tryz.ntmps14
 go_wp2_with fail
 rw [HWB.out]
 go_loopw [5,6] (fun p v wr => RelA Wb m sn p v wr) (fun _ v _ => sn - (intOf v).toNat)
 case atStart => exact ⟨0,Nat.zero_le _,rfl,Lib.hid (by rw [HWZ.out]; exact ⟨World.ownsRow_lit Wb #[] 0 (Nat.le_refl _) (Nat.zero_le _) rfl,(Below.refl _ _).alloc (Nat.le_refl _) _⟩)⟩
 case round =>
  obtain ⟨k,hk,rfl,HR⟩:=hrel
  have hbr:=HR.out.2
  obtain ⟨c0,c1,c2,c3⟩:=cells_4 (HC.out _ hbr)
  by_cases hlt:k < sn
  ·have hltI:(k:Int) < sn:=by omega
   have HHK:=Lib.hid (HH.out (k:Int))
   obtain ⟨bk,hbk⟩:∃ bk,bk = hasG m (k:Int):=⟨_,rfl⟩
   have hhk:hasG m (k:Int) = bk:=hbk.symm
   rw [hhk] at HHK
   clear hbk
   have hkl:=hasTo_length m k
   have HL1:Hid ((hasTo m k).length + (intV [(k:Int)]).length ≤ maxLen):=Lib.hid (by have:=HLE.out; simp [maxLen]; omega)
   have HL2:Hid (((hasTo m k).length + (intV [(k:Int)]).length) * 8 ≤ 140737488355328):=Lib.hid (by have:=HLE.out; simp; omega)
   have HSZ:Hid (Wb.heap.size ≤ wr.heap.size):=Lib.hid hbr.size
   clear hkl hbr
   cases bk with
   | false =>
     have HS:=Lib.hid (hasTo_no hhk)
     clear hhk
     go_wp2_with (go_at_call 33; go_fit (HHK.out _))
     rintro e w4 ⟨rfl,rfl⟩
     go_wp2_with fail
     go_roundw
     case rel => exact ⟨k + 1,by omega,by go_num,by rw [HS.out]; exact HR⟩
     case measure => simp [intOf]; omega
   | true =>
     have HS:=Lib.hid (hasTo_yes hhk)
     clear hhk
     go_wp2_with (go_at_call 33; go_fit (HHK.out _))
     rintro e w4 ⟨rfl,rfl⟩
     go_wp2_with (at_builtin; refine wpList_append_rd _ rfl (.tmp 24) (.tmp 26) _ rfl Wb.heap.size 3 i0 (.int .i64 0) 8 Tryz.underlying90 HI.out.1 HI.out.2.1 HI.out.2.2.1 HI.out.2.2.2 rfl _ _ _ rfl (HR.out.1.alloc _) _ (intV [(k:Int)]) rfl (lit_here rfl rfl rfl) (intV_one _) HL1.out HL2.out ?_ ?_; (have:=HSZ.out; simp; omega); intro p2 w2 hrow2 hg2 _; have HR2:=Lib.hid (RowI.add HR.out hrow2 hg2); clear hrow2 hg2)
     go_roundw
     case rel => exact ⟨k + 1,by omega,by go_num,by rw [HS.out]; exact HR2⟩
     case measure => simp [intOf]; omega
  ·have hltI:¬ (k:Int) < sn:=by omega
   have hks:k = sn:=by omega
   have HR0:Hid (RowI Wb wr u5 (hasTo m l.length)):=Lib.hid (by rw [HSL.out,← hks]; exact HR.out)
   clear hbr hlt hks HR hk
   go_wp2_with fail
   go_loopw [5,7] (fun p v wr => RelB Wb l m sn p v wr) (fun p v _ => 2 * (100 - lenV p) + boolN v)
   case atStart => exact ⟨_,HR0,HFST.out,.inl rfl⟩
   case round =>
    clear HR0 c0 c1 c2 c3
    obtain ⟨a0,HR0,HF0,hv⟩:=hrel
    have HF0:=Lib.hid HF0
    have HN0:=Lib.hid (lenV_row HR0.out)
    rcases hv with rfl | ⟨rfl,hcl⟩
    ·skip
     go_wp2_with fail
     go_loopw [5,7,8] (fun p mo v wr => RelC Wb l m sn a0 p mo v wr) (fun _ _ v _ => sn - (intOf v).toNat)
     case atStart => exact ⟨0,Nat.zero_le _,rfl,a0,HR0,HF0.out,.inl ⟨rfl,rfl,fun i hi => absurd hi (by omega)⟩⟩
     case round =>
      obtain ⟨k,hk,rfl,a,HR,HFA,HP3⟩:=hrel
      have HFA:=Lib.hid HFA
      have HP3:=Lib.hid HP3
      have hbr:=HR.out.2
      obtain ⟨c0,c1,c2,c3⟩:=cells_4 (HC.out _ hbr)
      by_cases hlt:k < sn
      ·have hltI:(k:Int) < sn:=by omega
       have HMK:=Lib.hid (rin_any u5 a (k:Int) wr HR.out.read (by have:=HFA.out.len; have:=HLE.out; omega))
       by_cases hka:(k:Int) ∈ a
       ·rw [decide_eq_true hka] at HMK
        have HKA:=Lib.hid hka
        have HKW:=Lib.hid (fun W (hW:Below w.heap.size w W) => rshkids_own sA sn sc l k W (HST.out W hW) (by omega))
        obtain ⟨ks,hks⟩:∃ ks,ks = kids l k:=⟨_,rfl⟩
        have HKS:=Lib.hid hks
        rw [← hks] at HKW
        have HBR:=Lib.hid hbr
        have hkl:ks.length ≤ sn:=by
         rw [hks]
         have:=kids_le l k l.length
         have:=HSL.out
         unfold kids
         omega
        clear hka hbr hks
        go_wp2_with (go_at_call 37; go_fit HMK.out)
        rintro e w4 ⟨rfl,rfl⟩
        go_wp2_with (go_at_call 38; go_fit (HKW.out _ (below_two' HBW.out HBR.out)))
        rintro e w5 ⟨kp,rfl,hrow⟩
        obtain ⟨KA,KC,rfl⟩:=own_shape hrow.1
        have HK1:=Lib.hid (krow_start HR.out.1 hrow)
        have HRK:=Lib.hid (HR.out.keep hrow.2)
        obtain ⟨nk,hnk⟩:∃ nk,nk = ks.length:=⟨_,rfl⟩
        have HNK:Hid (ks.length = nk):=Lib.hid hnk.symm
        rw [← hnk] at hkl HK1 ⊢
        have hbk:=HRK.out.2
        have HBK:=Lib.hid hbk
        clear c0 c1 c2 c3
        obtain ⟨c0,c1,c2,c3⟩:=cells_4 (HC.out _ hbk)
        clear hrow hnk hbk
        go_wp2_with fail
        go_loop [10,11] (fun c v => RelD ks a nk c v) (fun _ v => nk - (intOf v).toNat)
        case atStart => exact ⟨0,Nat.zero_le _,rfl,rfl⟩
        case round =>
         obtain ⟨j,hj,rfl,rfl⟩:=hrel
         have hle:=inN_le a ks j
         obtain ⟨q,hq⟩:∃ q,q = inN a ks j:=⟨_,rfl⟩
         have HQ:=Lib.hid hq
         rw [← hq] at hle ⊢
         clear hq
         obtain ⟨A',n',c',heq,hn',hc',hA'⟩:=(HK1.out.now).ints
         cases heq
         have HA':=Lib.hid hA'
         by_cases hlj:j < nk
         ·have hljI:(j:Int) < (nk:Int):=by omega
          obtain ⟨y,hy⟩:∃ y,ks[j]? = some y:=get_some (by have:=HNK.out; omega)
          obtain ⟨kb,ko,heq2,hkb,hkc⟩:=hA' (by omega)
          cases heq2
          have hck:=hkc j y hy
          have HS:=Lib.hid (inN_next (a:=a) hy)
          rw [← HQ.out] at HS
          have hwr:IntKind.i64.wrap ((q:Int) + 1) = ((q + 1:Nat):Int):=by rw [IntWalk.i64_in _ (by omega)]; omega
          have HMY:=Lib.hid (rin_any u5 a y w5 HRK.out.read (by have:=HFA.out.len; have:=HLE.out; omega))
          by_cases hym:y ∈ a
          ·rw [decide_eq_true hym] at HMY
           rw [if_pos hym] at HS
           clear hkc hy hym hA' hn' hc' hle HA'
           go_wp2_with (go_at_call 37; go_fit HMY.out)
           rintro e w7 ⟨rfl,rfl⟩
           go_wp2_with fail
           go_round
           case rel => exact ⟨j + 1,by omega,by go_num,by rw [HS.out]; rfl⟩
           case measure => simp [intOf]; omega
          ·rw [decide_eq_false hym] at HMY
           rw [if_neg hym] at HS
           clear hkc hy hym hA' hn' hc' hle HA'
           go_wp2_with (go_at_call 37; go_fit HMY.out)
           rintro e w7 ⟨rfl,rfl⟩
           go_wp2_with fail
           go_round
           case rel => exact ⟨j + 1,by omega,by go_num,by rw [HS.out]; rfl⟩
           case measure => simp [intOf]; omega
         ·have hjn:j = nk:=by omega
          have hljI:¬ (j:Int) < (nk:Int):=by omega
          have HQN:Hid (q = inN a ks ks.length):=Lib.hid (by rw [HNK.out,← hjn]; exact HQ.out)
          obtain ⟨sb,so,rfl,hsb,x1,-⟩:=(HST.out _ (below_two' HBW.out HBK.out)).at_ hlt
          obtain ⟨kd,hkd⟩:∃ kd,kd = kind l k:=⟨_,rfl⟩
          rw [← hkd] at x1
          have HKD:Hid (kind l k = kd):=Lib.hid hkd.symm
          clear hkd hle hA' hn' hc' hjn
          rcases (show (kd = 2 ∧ q = 0) ∨ kd ≠ 2 ∨ (kd = 2 ∧ q ≠ 0) by omega) with ⟨u1,u2⟩ | u1 | ⟨u1,u2⟩
          ·have HNO:Hid (∀ x ∈ kids l k,x ∉ a):=Lib.hid (by rw [← HKS.out]; exact inN_all.1 (HQN.out.symm.trans u2))
           have HN0:Hid (0 < nk):=Lib.hid (by
            have:=HNE.out k (by have:=HSL.out; omega) (HKD.out.trans u1)
            rw [← HKS.out] at this
            rw [← HNK.out]
            exact List.length_pos_iff.2 this)
           obtain ⟨y0,hy0⟩:∃ y0,ks[0]? = some y0:=get_some (by have:=HNK.out; have:=HN0.out; omega)
           obtain ⟨kb0,ko0,heq2,hkb,hkc⟩:=HA'.out HN0.out
           cases heq2
           have hck:=hkc 0 y0 hy0
           rw [Nat.add_zero] at hck
           have HM0:Hid (y0 ∈ kids l k):=Lib.hid (by rw [← HKS.out]; exact List.mem_of_getElem? hy0)
           have HFY:=Lib.hid (FillR.one2 HFA.out h60.out HFIL.out HKA.out (HKD.out.trans u1) (HKS.out ▸ hy0) HNO.out)
           have hp0:(0:Int) < (nk:Int):=by have:=HN0.out; omega
           have HL1:Hid (a.length + (intV [y0]).length ≤ maxLen):=Lib.hid (by have:=HFA.out.len; have:=HLE.out; simp [maxLen]; omega)
           have HL2:Hid ((a.length + (intV [y0]).length) * 8 ≤ 140737488355328):=Lib.hid (by have:=HFA.out.len; have:=HLE.out; simp; omega)
           have HSZ:Hid (Wb.heap.size ≤ w5.heap.size):=Lib.hid HBK.out.size
           subst u1 u2
           clear hkc hy0 HA'
           go_wp2_with (at_builtin; refine wpList_append_rd _ rfl (.tmp 69) (.tmp 73) _ rfl Wb.heap.size 3 i0 (.int .i64 0) 8 Tryz.underlying90 HI.out.1 HI.out.2.1 HI.out.2.2.1 HI.out.2.2.2 rfl _ _ _ rfl (HRK.out.1.alloc _) _ (intV [y0]) rfl (lit_here rfl rfl rfl) (intV_one _) HL1.out HL2.out ?_ ?_; (have:=HSZ.out; simp; omega); intro p2 w6 hrow2 hg2 hob2; have HRY:=Lib.hid (RowI.add HRK.out hrow2 hg2); have HKY:=Lib.hid (HK1.out.add hg2 hob2); clear hrow2 hg2 hob2)
           clear c0 c1 c2 c3 x1 hck
           go_loopw [5,7,12] (fun p mo v wr => RelE Wb l m a0 (a ++ [y0]) ks 2 k nk (.slice (some ⟨kb0,ko0,none⟩) nk KC) p mo v wr) (fun _ _ v _ => nk - (intOf v).toNat)
           case atStart => exact ⟨0,Nat.zero_le _,rfl,(a ++ [y0]),Lib.hid HRY.out,HFY.out,(HP3.out.grow y0 k),fun x hx => hx,fun x hx => by simp at hx,fun _ => rfl,Lib.hid HKY.out⟩
           case round =>
            obtain ⟨j,hj,rfl,a2,HR2,HF2,HP2,hs2,hin2,h02,HK2⟩:=hrel
            have hbw2:=HR2.out.2
            obtain ⟨c0,c1,c2,c3⟩:=cells_4 (HC.out _ hbw2)
            have HFX:=Lib.hid HF2
            have HPX:=Lib.hid HP2
            have HSX:=Lib.hid hs2
            have HIX:=Lib.hid hin2
            by_cases hlj:j < nk
            ·have hljI:(j:Int) < (nk:Int):=by omega
             obtain ⟨y,hy⟩:∃ y,ks[j]? = some y:=get_some (by have:=HNK.out; omega)
             obtain ⟨A',n',c',heq,hn',hc',hA'⟩:=(HK2.out.now).ints
             cases heq
             obtain ⟨kb,ko,heq2,hkb,hkc⟩:=hA' (by omega)
             cases heq2
             have hck:=hkc j y hy
             have HY:=Lib.hid hy
             obtain ⟨sb,so,heq3,hsb,x1,-⟩:=(HST.out _ (below_two' HBW.out hbw2)).at_ hlt
             cases heq3
             rw [HKD.out] at x1
             have hk3:¬ (2:Int) = 3:=by decide
             have HCL:=Lib.hid (HPX.out.close (fun h2 => ⟨y0,HM0.out,HSX.out _ (List.mem_append_right _ (List.mem_singleton_self _))⟩) (fun h3 => absurd (HKD.out.symm.trans h3) hk3))
             clear hkc hs2 hin2 hy h02 hA' hn' hc' HF2 HP2 hbw2 hk3
             go_wp2_with fail
             go_roundw
             case rel => exact ⟨k + 1,by omega,by go_num,a2,HR2,HFX.out,HCL.out⟩
             case measure => simp [intOf]; omega
            ·have hjn:j = nk:=by omega
             have hljI:¬ (j:Int) < (nk:Int):=by omega
             have HCL:=Lib.hid (HPX.out.close (fun h2 => ⟨y0,HM0.out,HSX.out _ (List.mem_append_right _ (List.mem_singleton_self _))⟩) (fun h3 x hx => HIX.out x (by rw [List.take_of_length_le (by have:=HNK.out; omega),HKS.out]; exact hx)))
             clear hs2 hin2 h02 HF2 HP2 hbw2 hjn hlj
             go_wp2_with fail
             go_roundw
             case rel => exact ⟨k + 1,by omega,by go_num,a2,HR2,HFX.out,HCL.out⟩
             case measure => simp [intOf]; omega
          ·have g1:(kd == 2) = false:=by simpa using u1
           have HTWO:Hid (kind l k = 2 → ∃ x ∈ kids l k,x ∈ a):=Lib.hid fun h2 => absurd (HKD.out.symm.trans h2) u1
           clear u1 HA'
           go_wp2_with fail
           go_loopw [5,7,12] (fun p mo v wr => RelE Wb l m a0 a ks kd k nk (.slice KA nk KC) p mo v wr) (fun _ _ v _ => nk - (intOf v).toNat)
           case atStart => exact ⟨0,Nat.zero_le _,rfl,a,Lib.hid HRK.out,HFA.out,HP3.out,fun x hx => hx,fun x hx => by simp at hx,fun _ => rfl,Lib.hid HK1.out⟩
           case round =>
            obtain ⟨j,hj,rfl,a2,HR2,HF2,HP2,hs2,hin2,h02,HK2⟩:=hrel
            have hbw2:=HR2.out.2
            obtain ⟨c0,c1,c2,c3⟩:=cells_4 (HC.out _ hbw2)
            have HFX:=Lib.hid HF2
            have HPX:=Lib.hid HP2
            have HSX:=Lib.hid hs2
            have HIX:=Lib.hid hin2
            by_cases hlj:j < nk
            ·have hljI:(j:Int) < (nk:Int):=by omega
             obtain ⟨y,hy⟩:∃ y,ks[j]? = some y:=get_some (by have:=HNK.out; omega)
             obtain ⟨A',n',c',heq,hn',hc',hA'⟩:=(HK2.out.now).ints
             cases heq
             obtain ⟨kb,ko,heq2,hkb,hkc⟩:=hA' (by omega)
             cases heq2
             have hck:=hkc j y hy
             have HY:=Lib.hid hy
             obtain ⟨sb,so,heq3,hsb,x1,-⟩:=(HST.out _ (below_two' HBW.out hbw2)).at_ hlt
             cases heq3
             rw [HKD.out] at x1
             by_cases hk3:kd = 3
             ·have HMY:=Lib.hid (fun W (hW:Rd W u5 (intV a2)) => rin_any u5 a2 y W hW (by have:=HFX.out.len; have:=HLE.out; omega))
              have HRD:=Lib.hid HR2.out.read
              have HMEM:Hid (y ∈ kids l k):=Lib.hid (by rw [← HKS.out]; exact List.mem_of_getElem? hy)
              by_cases hym:y ∈ a2
              ·rw [decide_eq_true hym] at HMY
               have HYM:=Lib.hid hym
               clear hkc hs2 hin2 hy hym h02 hA' hn' hc' HF2 HP2 hbw2
               subst hk3
               go_wp2_with (go_at_call 37; go_fit (HMY.out _ HRD.out))
               rintro e w7 ⟨rfl,rfl⟩
               go_wp2_with fail
               go_roundw
               case rel => exact ⟨j + 1,by omega,by go_num,a2,HR2,HFX.out,HPX.out,HSX.out,take_in HY.out HIX.out HYM.out,fun h => absurd rfl h,HK2⟩
               case measure => simp [intOf]; omega
              ·rw [decide_eq_false hym] at HMY
               have HADD:=Lib.hid (FillR.all3 HFX.out h60.out HFIL.out (HSX.out _ HKA.out) (HKD.out.trans hk3) HMEM.out hym)
               have HL1:Hid (a2.length + (intV [y]).length ≤ maxLen):=Lib.hid (by have:=HFX.out.len; have:=HLE.out; simp [maxLen]; omega)
               have HL2:Hid ((a2.length + (intV [y]).length) * 8 ≤ 140737488355328):=Lib.hid (by have:=HFX.out.len; have:=HLE.out; simp; omega)
               have HSZ:Hid (Wb.heap.size ≤ wr.heap.size):=Lib.hid hbw2.size
               clear hkc hs2 hin2 hy hym h02 hA' hn' hc' HF2 HP2 hbw2
               subst hk3
               go_wp2_with (go_at_call 37; go_fit (HMY.out _ HRD.out))
               rintro e w7 ⟨rfl,rfl⟩
               go_wp2_with (at_builtin; refine wpList_append_rd _ rfl (.tmp 97) (.tmp 102) _ rfl Wb.heap.size 3 i0 (.int .i64 0) 8 Tryz.underlying90 HI.out.1 HI.out.2.1 HI.out.2.2.1 HI.out.2.2.2 rfl _ _ _ rfl (HR2.out.1.alloc _) _ (intV [y]) rfl (lit_here rfl rfl rfl) (intV_one _) HL1.out HL2.out ?_ ?_; (have:=HSZ.out; simp; omega); intro p3 w8 hrow3 hg3 hob3; have HR3:=Lib.hid (RowI.add HR2.out hrow3 hg3); have HK3:=Lib.hid (HK2.out.add hg3 hob3); clear hrow3 hg3 hob3)
               go_roundw
               case rel => exact ⟨j + 1,by omega,by go_num,a2 ++ [y],HR3,HADD.out,HPX.out.grow y k,fun x hx => List.mem_append_left _ (HSX.out x hx),take_in HY.out (fun x hx => List.mem_append_left _ (HIX.out x hx)) (List.mem_append_right _ (List.mem_singleton_self _)),fun h => absurd rfl h,HK3⟩
               case measure => simp [intOf]; omega
             ·have g3:(kd == 3) = false:=by simpa using hk3
              have HCL:=Lib.hid (HPX.out.close (fun h2 => (HTWO.out h2).imp fun x hx => ⟨hx.1,HSX.out x hx.2⟩) (fun h3 => absurd (HKD.out.symm.trans h3) hk3))
              clear hkc hs2 hin2 hy h02 hA' hn' hc' HF2 HP2 hbw2 hk3
              go_wp2_with fail
              go_roundw
              case rel => exact ⟨k + 1,by omega,by go_num,a2,HR2,HFX.out,HCL.out⟩
              case measure => simp [intOf]; omega
            ·have hjn:j = nk:=by omega
             have hljI:¬ (j:Int) < (nk:Int):=by omega
             have HCL:=Lib.hid (HPX.out.close (fun h2 => (HTWO.out h2).imp fun x hx => ⟨hx.1,HSX.out x hx.2⟩) (fun h3 x hx => HIX.out x (by rw [List.take_of_length_le (by have:=HNK.out; omega),HKS.out]; exact hx)))
             clear hs2 hin2 h02 HF2 HP2 hbw2 hjn hlj
             go_wp2_with fail
             go_roundw
             case rel => exact ⟨k + 1,by omega,by go_num,a2,HR2,HFX.out,HCL.out⟩
             case measure => simp [intOf]; omega
          ·have g1:((q:Int) == 0) = false:=by simpa using u2
           have HTWO:Hid (kind l k = 2 → ∃ x ∈ kids l k,x ∈ a):=Lib.hid fun _ => by rw [← HKS.out]; exact inN_some (HQN.out ▸ u2)
           subst u1
           clear u2 HA'
           go_wp2_with fail
           go_loopw [5,7,12] (fun p mo v wr => RelE Wb l m a0 a ks 2 k nk (.slice KA nk KC) p mo v wr) (fun _ _ v _ => nk - (intOf v).toNat)
           case atStart => exact ⟨0,Nat.zero_le _,rfl,a,Lib.hid HRK.out,HFA.out,HP3.out,fun x hx => hx,fun x hx => by simp at hx,fun _ => rfl,Lib.hid HK1.out⟩
           case round =>
            obtain ⟨j,hj,rfl,a2,HR2,HF2,HP2,hs2,hin2,h02,HK2⟩:=hrel
            have hbw2:=HR2.out.2
            obtain ⟨c0,c1,c2,c3⟩:=cells_4 (HC.out _ hbw2)
            have HFX:=Lib.hid HF2
            have HPX:=Lib.hid HP2
            have HSX:=Lib.hid hs2
            have HIX:=Lib.hid hin2
            by_cases hlj:j < nk
            ·have hljI:(j:Int) < (nk:Int):=by omega
             obtain ⟨y,hy⟩:∃ y,ks[j]? = some y:=get_some (by have:=HNK.out; omega)
             obtain ⟨A',n',c',heq,hn',hc',hA'⟩:=(HK2.out.now).ints
             cases heq
             obtain ⟨kb,ko,heq2,hkb,hkc⟩:=hA' (by omega)
             cases heq2
             have hck:=hkc j y hy
             have HY:=Lib.hid hy
             obtain ⟨sb,so,heq3,hsb,x1,-⟩:=(HST.out _ (below_two' HBW.out hbw2)).at_ hlt
             cases heq3
             rw [HKD.out] at x1
             have hk3:¬ (2:Int) = 3:=by decide
             have HCL:=Lib.hid (HPX.out.close (fun h2 => (HTWO.out h2).imp fun x hx => ⟨hx.1,HSX.out x hx.2⟩) (fun h3 => absurd (HKD.out.symm.trans h3) hk3))
             clear hkc hs2 hin2 hy h02 hA' hn' hc' HF2 HP2 hbw2 hk3
             go_wp2_with fail
             go_roundw
             case rel => exact ⟨k + 1,by omega,by go_num,a2,HR2,HFX.out,HCL.out⟩
             case measure => simp [intOf]; omega
            ·have hjn:j = nk:=by omega
             have hljI:¬ (j:Int) < (nk:Int):=by omega
             have HCL:=Lib.hid (HPX.out.close (fun h2 => (HTWO.out h2).imp fun x hx => ⟨hx.1,HSX.out x hx.2⟩) (fun h3 x hx => HIX.out x (by rw [List.take_of_length_le (by have:=HNK.out; omega),HKS.out]; exact hx)))
             clear hs2 hin2 h02 HF2 HP2 hbw2 hjn hlj
             go_wp2_with fail
             go_roundw
             case rel => exact ⟨k + 1,by omega,by go_num,a2,HR2,HFX.out,HCL.out⟩
             case measure => simp [intOf]; omega
       ·rw [decide_eq_false hka] at HMK
        have HSK:=Lib.hid (HP3.out.skip hka)
        clear hka hbr
        go_wp2_with (go_at_call 37; go_fit HMK.out)
        rintro e w4 ⟨rfl,rfl⟩
        go_wp2_with fail
        go_roundw
        case rel => exact ⟨k + 1,by omega,by go_num,a,HR,HFA.out,HSK.out⟩
        case measure => simp [intOf]; omega
      ·have hltI:¬ (k:Int) < sn:=by omega
       have hks:k = sn:=by omega
       have HPN:Hid (P3 l a0 u7 a sn):=Lib.hid (hks ▸ HP3.out)
       have HNA:=Lib.hid (lenV_row HR.out)
       clear hbr hlt hks hk
       go_wp2_with fail
       go_roundw
       case rel =>
        refine ⟨a,HR,HFA.out,?_⟩
        rcases HPN.out with ⟨q1,q2,q3⟩ | ⟨q1,-⟩
        ·exact .inr ⟨q1,q2 ▸ q3⟩
        ·exact .inl q1
       case measure =>
        rw [HNA.out,HN0.out]
        have e1:=HFA.out.len
        have e2:=HLE.out
        rcases HPN.out with ⟨q1,q2,-⟩ | ⟨q1,q2⟩
        ·rw [q1,q2]; simp [boolN]
        ·rw [q1]; simp [boolN]; omega
    ·have HOF:=Lib.hid (rof_any16 u5 a0 wr HR0.out.read (by have:=HF0.out.len; have:=HLE.out; omega))
     rw [HFEND.out a0 HF0.out (by rw [HSL.out]; exact hcl)] at HOF
     have HBZ:=Lib.hid (below_two' HBW.out HR0.out.2)
     clear hcl
     go_wp2_with (go_at_call 39; go_fit HOF.out)
     rintro e w4 ⟨rfl,rfl⟩
     go_wp2_with fail
     go_ret
     exact ⟨rfl,HBZ.out⟩
end
end Go.Proofs.YtckojimeglkobaaGreatDoor