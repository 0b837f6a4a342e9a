/- PrintStateW, PrintPutW, PrintPutsLaw, PrintLong, TransAwake, PrintLongW, joined. -/
import Derived.Test.YtcofikjpplkjdaaGreatDoorMPrintPuts22
import Derived.Deep.Cut
import Derived.Deep.RegionHeld3
import Derived.Deep.AppendLies
import Derived.Test.YtcofikjpplkjdaaGreatDoorMPrintPuts23
import Derived.Test.YtcofikjpplkjdaaGreatDoorMPrintPuts24
import Derived.Test.YtcofikjpplkjdaaGreatDoorMPrintPuts15
import Derived.Test.YtcofikjpplkjdaaGreatDoorMPrintPuts20
import Derived.Test.YtcofikjpplkjdaaGreatDoorMPrintPuts08
namespace Go.Proofs.YtcofikjpplkjdaaGreatDoor
open Go.RowKit Go.Sort CurSpec TermSpec EvalSpec ActSpec NamesSpec ExprSpec TransSpec SynSpec PrintSpec
open ShapeSpec (Sh up sf endOf SU)
set_option maxRecDepth 100000
def StTrRel (W:World) (S:ByteArray) (n1 m:Nat) (l:List Tt) (p i:Value) (wr:World):Prop:=∃ k:Nat,k ≤ m ∧ i = .int .i64 k ∧ p = .string (S ++ bs ((l.take k).flatMap (lineT n1))) ∧ Below W.heap.size W wr
set_option maxRecDepth 100000 in
set_option maxHeartbeats 16000000 in
theorem state_any (sh:List Sh) (l:List Ts) (H:Stand sh l) (A:Option Addr) (n c i:Nat) (w:World) (h:StsP w (.slice A n c) (l.map Ts.sx)) (hi:i < n) (hg:SignsIn w) :
 Calls Tryz.prog 29 #[.slice A n c,.int .i64 i] w (RetS w (bs (PrintSpec.stT sh l i))):=by
 obtain ⟨hn,hc⟩:=h.len
 rw [List.length_map] at hn
 have hl:=H.len
 obtain ⟨t,ht,hok,hkk,hpp,hk1,hk3⟩:=H.at_ (i:=i) (by omega)
 have hup:=H.deep i (by omega)
 have hf:=H.few
 have hR:=stT_at sh ht
 have HEM:Hid (∀ W,Below w.heap.size w W → Calls Tryz.prog 32 #[.slice A n c,.int .i64 i] W (RetB W (emptyB sh l i))):=Lib.hid fun W hW => by
  rw [H.eq]
  exact empty_any A n c l i W (h.keep hW) hi (by omega)
 have HAB:Hid (∀ W,Below w.heap.size w W → Calls Tryz.prog 34 #[.slice A n c,.int .i64 i] W (RetInts W (ShapeSpec.upI sh i))):=Lib.hid fun W hW => by
  refine rabove_any A n c sh.length sh i W ?_ H.su (by omega) (by omega) (by omega)
  rw [H.eq,← sh_of]
  exact (h.keep hW).sts
 obtain ⟨b,off,a3,n3,m3,a4,n4,m4,a5,n5,m5,rfl,hb,d0,d1,d2,d3,d4,d5,k3,k4,k5⟩:=h.at_ (i:=i) (s:=t.sx) (by rw [List.getElem?_map,ht]; rfl)
 have l3:n3 = t.en.length:=by rw [k3.len.1]; exact List.length_map _
 have l4:n4 = t.ex.length:=by rw [k4.len.1]; exact List.length_map _
 have l5:n5 = t.tr.length:=by rw [k5.len.1]; exact List.length_map _
 have c3:=k3.len.2
 have c4:=k4.len.2
 have c5:=k5.len.2
 have h12:=name_size hok.nm
 obtain ⟨OB,hOB⟩:∃ OB:Obj,OB = .cells #[.string t.s,.int .i64 t.kind,.int .i64 t.par,.slice a3 n3 m3,.slice a4 n4 m4,.slice a5 n5 m5] 42:=⟨_,rfl⟩
 obtain ⟨W1,hW1⟩:∃ W1,w.alloc OB = W1:=⟨_,rfl⟩
 have hb1:Below w.heap.size w W1:=by rw [← hW1]; exact KitC.below_one _ _
 have hkb:W1.heap[w.heap.size]? = some OB:=by rw [← hW1]; exact heap_alloc_new _ _
 have HPE:=Lib.hid (fun W (hW:Below w.heap.size w W) => rput_acts t.en hok.en hok.enf a3 n3 m3 W (k3.keep hW) (hg.keep hW))
 have HPX:=Lib.hid (fun W (hW:Below w.heap.size w W) => rput_acts t.ex hok.ex hok.exf a4 n4 m4 W (k4.keep hW) (hg.keep hW))
 have HTR:=Lib.hid (fun W (hW:Below w.heap.size w W) => k5.keep hW)
 have HTO:=Lib.hid (fun W (hW:Below w.heap.size w W) (x:Tt) (hx:x ∈ t.tr) gA gn gc aA an ac (h:TrIn W gA gn gc aA an ac x.tr) => trput_any x (hok.tr x hx) gA gn gc aA an ac W h (hg.keep hW))
 have HTS:=Lib.hid (fun (x:Tt) (hx:x ∈ t.tr) => txT_size (hok.tr x hx))
 have z3:=putB_size hok.en
 have z4:=putB_size hok.ex
 have f3:=hok.enf
 have f4:=hok.exf
 have f5:=hok.trf
 have hhd:∀ m,bs (inT m ++ headT t) = _:=fun m => head_bs m t ⟨hk1,hk3⟩
 rw [hOB] at hW1 hkb
 have HK:=Lib.hid (fun W (hW:Below W1.heap.size W1 W) => cells_6 (KitC.block_on hkb hW))
 obtain ⟨p0,p1,p2,p3,p4,p5⟩:=cells_6 hkb
 have HW1:=Lib.hid hW1
 have HB1:=Lib.hid hb1
 have HUL:=Lib.hid (ShapeSpec.upI_length sh i)
 obtain ⟨u,hu⟩:∃ u,u = (up sh i).length:=⟨_,rfl⟩
 rw [← hu] at hR hup HUL
 obtain ⟨e,he⟩:∃ e,e = emptyB sh l i:=⟨_,rfl⟩
 rw [← he] at hR HEM
 obtain ⟨R,hRR⟩:∃ R,R = bs (PrintSpec.stT sh l i):=⟨_,rfl⟩
 rw [← hRR]
 rw [hR] at hRR
 have HR:=Lib.hid hRR
 have HHD:=Lib.hid (hhd (u + 1))
 obtain ⟨S,hS⟩:∃ S,S = bs (inT (u + 1) ++ headT t):=⟨_,rfl⟩
 rw [← hS] at HHD
 have HS:=Lib.hid hS
 have hSz:S.size ≤ 50:=by
  rw [hS,bs_size]
  have:=word_len t.kind
  have hT:(T t.s).length = t.s.size:=rfl
  simp only [headT,List.length_append,List.length_cons,inT_len]
  omega
 obtain ⟨ib,hib⟩:∃ ib,ib = bs (inT (u + 1)):=⟨_,rfl⟩
 have hibz:ib.size ≤ 24:=by rw [hib,bs_size,inT_len]; omega
 have HIN1:Hid (∀ W,Calls Tryz.prog 33 #[.int .i64 ((u:Int) + 1)] W (SameS W (bs (inT (u + 1))))):=Lib.hid (fun W => by have:=in_any (u + 1) (by omega) W; rwa [show ((u + 1:Nat):Int) = (u:Int) + 1 by omega] at this)
 rw [← hib] at HHD HIN1
 have HIN2:Hid (∀ W,Calls Tryz.prog 33 #[.int .i64 ((u:Int) + 1 + 1)] W (SameS W (bs (inT (u + 2))))):=Lib.hid (fun W => by have:=in_any (u + 2) (by omega) W; rwa [show ((u + 2:Nat):Int) = (u:Int) + 1 + 1 by omega] at this)
 obtain ⟨ic,hic⟩:∃ ic,ic = bs (inT (u + 2)):=⟨_,rfl⟩
 have hicz:ic.size ≤ 26:=by rw [hic,bs_size,inT_len]; omega
 rw [← hic] at HIN2
 have HIC:=Lib.hid hic
 have L3:=Lib.hid l3
 have L4:=Lib.hid l4
 have L5:=Lib.hid l5
 obtain ⟨nm,kind,par,ten,tex,ttr⟩:=t
 simp only [Ts.sx] at d0 d1 d2 hk1 hk3 h12 HHD HK p0 p1 p2 HPE HPX HTR HTO HTS z3 z4 f3 f4 f5 HW1 L3 L4 L5
 have hz3:(putB ten).size ≤ 11000:=by omega
 have hz4:(putB tex).size ≤ 11000:=by omega
 clear h hg H ht hok hkk hpp k3 k4 k5 l3 l4 l5 hW1 hb1 hkb hOB OB hhd hR hRR hS hib hic hu he z3 z4 f3 f4 hl hn hf
 go_enter Tryz.func29,Tryz.ntmps29
 go_wp2_with (rw [HW1.out]; go_at_call 34; (with_reducible refine (HAB.out _ HB1.out).mono ?_))
 rintro e2 w2 hx
 obtain ⟨A2,c2,rfl,hv,hb2⟩:=retInts_shape hx
 rw [HUL.out] at hv ⊢
 have HB2:=Lib.hid hb2
 clear hx hv hb2 p0 p1 p2 p3 p4 p5
 obtain ⟨p0,p1,p2,p3,p4,p5⟩:=HK.out _ HB2.out
 have hz1:w.heap.size < W1.heap.size:=(Array.getElem?_eq_some_iff.1 (show W1.heap[w.heap.size]? = some _ from by rw [← HW1.out]; exact heap_alloc_new _ _)).1
 have hz2:w.heap.size < w2.heap.size:=Nat.lt_of_lt_of_le hz1 HB2.out.size
 have hne1:¬ w.heap.size = w2.heap.size:=by omega
 have hne2:¬ w2.heap.size = w.heap.size:=by omega
 have pa0:∀ o,(w2.drew.alloc o).cell? ⟨w.heap.size,0,none⟩ = some (.string nm):=fun o => ((KitC.below_one w2.drew o).cell (p:=⟨w.heap.size,0,none⟩) hz2).trans p0
 have pa1:∀ o,(w2.drew.alloc o).cell? ⟨w.heap.size,1,none⟩ = some (.int .i64 kind):=fun o => ((KitC.below_one w2.drew o).cell (p:=⟨w.heap.size,1,none⟩) hz2).trans p1
 go_wp2_with fail
 go_cut [7] from 9 (fun p wx => StrAt W1 S p wx)
 case first =>
  obtain ⟨kk,rfl⟩:∃ kk:Nat,kind = kk:=⟨kind.toNat,by omega⟩
  obtain ⟨wd,hwd⟩:∃ wd,wd = if ((kk:Int) = 1) then (⟨#[108,101,97,102,32]⟩:ByteArray) else if ((kk:Int) = 2) then ⟨#[111,114,32]⟩ else ⟨#[97,110,100,32]⟩:=⟨_,rfl⟩
  rw [← hwd] at HHD
  have HX:Hid ((.string (ib ++ wd ++ nm):Value) = .string S):=Lib.hid (by rw [HHD.out])
  have hkn:kk = 1 ∨ kk = 2 ∨ kk = 3:=by omega
  have hwz:wd.size ≤ 5:=by
   rcases hkn with rfl | rfl | rfl
   ·rw [hwd]; exact Nat.le_refl 5
   ·rw [hwd]; exact (by decide:3 ≤ 5)
   ·rw [hwd]; exact (by decide:4 ≤ 5)
  have hlit:(#[.string ⟨#[]⟩,.string ⟨#[108,101,97,102,32]⟩,.string ⟨#[111,114,32]⟩,.string ⟨#[97,110,100,32]⟩]:Array Value)[kk]? = some (.string wd):=by
   rcases hkn with rfl | rfl | rfl <;> rw [hwd] <;> rfl
  have la:(w2.alloc (.cells #[.string ⟨#[]⟩,.string ⟨#[108,101,97,102,32]⟩,.string ⟨#[111,114,32]⟩,.string ⟨#[97,110,100,32]⟩] 9)).cell? ⟨w2.heap.size,kk,none⟩ = some (.string wd):=cell_of_block' (heap_alloc_new _ _) hlit
  have hk4:kk < 4:=by omega
  have hk4i:(kk:Int) < 4:=by omega
  have q1:¬ 9223372036854775807 < ib.size + wd.size:=by omega
  have q2:¬ 9223372036854775807 < ib.size + wd.size + nm.size:=by omega
  clear hwd hkn hlit
  go_region_law ((go_simp; go_at_call 33; (with_reducible refine (HIN1.out _).mono ?_); rintro e w5 ⟨rfl,rfl⟩))
  all_goals
   go_wp2_with fail
   go_meet
   case rel => exact ⟨HX.out,(below_two' HB2.out (KitC.below_one _ _)).drew⟩
 case rest =>
  obtain ⟨rfl,hbc⟩:=hcut
  have HBC:=Lib.hid hbc
  clear p0 p1 p2 p3 p4 p5 pa0 pa1 hne1 hne2 hz1 hz2 HB2
  have HE1:=Lib.hid (HEM.out _ (below_two' HB1.out hbc))
  clear hbc HEM
  rcases e with _ | _
  case true =>
   have HX:Hid ((.string (S ++ ⟨#[59,10]⟩):Value) = .string R):=Lib.hid (by
    rw [HR.out,if_pos rfl,HS.out,show (⟨#[59,10]⟩:ByteArray) = bs [59,10] from rfl,bs_app]
    simp)
   have q1:¬ 9223372036854775807 < S.size + 2:=by omega
   go_wp2_with (go_at_call 32; (with_reducible refine HE1.out.mono ?_))
   rintro e2 w3 ⟨rfl,hb3⟩
   have HB3:=Lib.hid (below_two' HBC.out hb3)
   clear hb3
   go_wp2_with fail
   go_ret
   exact ⟨congrArg Ending.returned HX.out,below_two' HB1.out HB3.out⟩
  obtain ⟨S2,hS2⟩:∃ S2,S2 = S ++ ⟨#[32,123,10]⟩:=⟨_,rfl⟩
  have HX:Hid (R = S2 ++ bs (lineA [101,110,116,101,114] (u + 2) ten) ++ bs (lineA [101,120,105,116] (u + 2) tex) ++ bs (ttr.flatMap (lineT (u + 2)))):=Lib.hid (by
   rw [HR.out,if_neg (by decide),hS2,HS.out,show (⟨#[32,123,10]⟩:ByteArray) = bs [32,123,10] from rfl,bs_app,bs_app,bs_app,bs_app]
   unfold insT
   simp)
  have hS2z:S2.size ≤ 60:=by rw [hS2,ByteArray.size_append]; show S.size + 3 ≤ 60; omega
  have q1:¬ 9223372036854775807 < S.size + 3:=by omega
  have HS2:=Lib.hid hS2
  go_wp2_with (go_at_call 32; (with_reducible refine HE1.out.mono ?_))
  rintro e2 w3 ⟨rfl,hb3⟩
  have HB3:=Lib.hid (below_two' HBC.out hb3)
  obtain ⟨p0,p1,p2,p3,p4,p5⟩:=HK.out _ HB3.out
  clear hb3 HR HS hS2
  go_upto_if 39 with fail
  rw [← HS2.out]
  go_cut [7] from 9 (fun p wx => StrAt W1 (S2 ++ bs (lineA [101,110,116,101,114] (u + 2) ten)) p wx)
  case first =>
   rcases Nat.eq_zero_or_pos n3 with h0 | h0
   ·have HY:=Lib.hid (line_nil S2 [101,110,116,101,114] (u + 2) (ts:=ten) (by have:=L3.out; omega))
    subst h0
    go_wp2_with fail
    go_meet
    case rel => exact ⟨congrArg Value.string HY.out.symm,HB3.out⟩
   ·have HY:=Lib.hid (line_bs S2 [101,110,116,101,114] (u + 2) (ts:=ten) (fun h => by rw [h] at L3; have:=L3.out; simp at this; omega))
    have g0:decide (0 < n3) = true:=by simp; omega
    obtain ⟨y,hy⟩:∃ y,y = putB ten:=⟨_,rfl⟩
    rw [← hy] at HPE HY hz3
    rw [← HIC.out] at HY
    have q2:¬ 9223372036854775807 < S2.size + ic.size:=by omega
    have q3:¬ 9223372036854775807 < S2.size + ic.size + 6:=by omega
    have q4:¬ 9223372036854775807 < S2.size + ic.size + 6 + y.size:=by omega
    have q5:¬ 9223372036854775807 < S2.size + ic.size + 6 + y.size + 2:=by omega
    have HY2:Hid (S2 ++ bs (lineA [101,110,116,101,114] (u + 2) ten) = S2 ++ ic ++ ⟨#[101,110,116,101,114,32]⟩ ++ y ++ ⟨#[59,10]⟩):=Lib.hid HY.out
    have HQ1:Hid (∀ d os,Calls Tryz.prog 33 #[.int .i64 ((u:Int) + 1 + 1)] (grow (redrawn w3 d) os) fun e w'' => e = .returned (.string ic) ∧ ∃ p:Regrown,w'' = grow (redrawn w3 p.d) p.os) :=
     Lib.hid (fun d os => Calls.regrown_of ((HIN2.out _).mono fun _ _ h => ⟨h.1,h.2 ▸ Below.refl _ _⟩))
    have HQ2:Hid (∀ d os,Calls Tryz.prog 65 #[.slice a3 n3 m3] (grow (redrawn w3 d) os) fun e w'' => e = .returned (.string y) ∧ ∃ p:Regrown,w'' = grow (redrawn w3 p.d) p.os) :=
     Lib.hid (fun d os => Calls.regrown_of (HPE.out _ (below_two' HB1.out (below_two' HB3.out (below_regrown w3 d os)))))
    have rp3:=cell_regrown p3
    clear hy h0 HY HPE p0 p1 p2 p3 p4 p5
    rw [g0]
    go_wp2_with fail
    refine wp_region_quiet_below (by kernel_rfl) (by kernel_rfl) ?_
    repeat (go_big_quiet_step (first | (with_reducible exact HQ1.out _ _) | (with_reducible exact HQ2.out _ _)))
    refine wpQuiet_nil ?_
    intro _ hw'
    obtain ⟨⟨dq,osq⟩,hw''⟩:=hw'
    subst hw''
    simp only
    have HB4:=Lib.hid (below_two' HB3.out (below_regrown w3 dq osq))
    go_wp2_with fail
    go_meet
    case rel => exact ⟨congrArg Value.string HY2.out.symm,HB4.out⟩
  case rest =>
   obtain ⟨rfl,hbc⟩:=hcut
   have HBD:=Lib.hid hbc
   clear p0 p1 p2 p3 p4 p5
   obtain ⟨p0,p1,p2,p3,p4,p5⟩:=HK.out _ hbc
   have hS3z:(S2 ++ bs (lineA [101,110,116,101,114] (u + 2) ten)).size ≤ 11200:=by
    rw [ByteArray.size_append,bs_size]
    unfold lineA
    split
    ·simp; omega
    ·have hpp:(putB ten).size = (putT ten).length:=rfl
     simp only [List.length_append,List.length_cons,List.length_nil,inT_len]
     omega
   obtain ⟨S3,hS3⟩:∃ S3,S3 = S2 ++ bs (lineA [101,110,116,101,114] (u + 2) ten):=⟨_,rfl⟩
   rw [← hS3] at HX hS3z ⊢
   clear hbc hS3 HB3 HBC HPE hz3 HS2 hS2z q1 w3
   go_upto_if 54 with fail
   go_cut [7] from 9 (fun p wx => StrAt W1 (S3 ++ bs (lineA [101,120,105,116] (u + 2) tex)) p wx)
   case first =>
    rcases Nat.eq_zero_or_pos n4 with h0 | h0
    ·have HY:=Lib.hid (line_nil S3 [101,120,105,116] (u + 2) (ts:=tex) (by have:=L4.out; omega))
     subst h0
     go_wp2_with fail
     go_meet
     case rel => exact ⟨congrArg Value.string HY.out.symm,HBD.out⟩
    ·have HY:=Lib.hid (line_bs S3 [101,120,105,116] (u + 2) (ts:=tex) (fun h => by rw [h] at L4; have:=L4.out; simp at this; omega))
     have g0:decide (0 < n4) = true:=by simp; omega
     obtain ⟨y,hy⟩:∃ y,y = putB tex:=⟨_,rfl⟩
     rw [← hy] at HPX HY hz4
     rw [← HIC.out] at HY
     have q2:¬ 9223372036854775807 < S3.size + ic.size:=by omega
     have q3:¬ 9223372036854775807 < S3.size + ic.size + 5:=by omega
     have q4:¬ 9223372036854775807 < S3.size + ic.size + 5 + y.size:=by omega
     have q5:¬ 9223372036854775807 < S3.size + ic.size + 5 + y.size + 2:=by omega
     have HY2:Hid (S3 ++ bs (lineA [101,120,105,116] (u + 2) tex) = S3 ++ ic ++ ⟨#[101,120,105,116,32]⟩ ++ y ++ ⟨#[59,10]⟩):=Lib.hid HY.out
     have HQ1:Hid (∀ d os,Calls Tryz.prog 33 #[.int .i64 ((u:Int) + 1 + 1)] (grow (redrawn wc d) os) fun e w'' => e = .returned (.string ic) ∧ ∃ p:Regrown,w'' = grow (redrawn wc p.d) p.os) :=
      Lib.hid (fun d os => Calls.regrown_of ((HIN2.out _).mono fun _ _ h => ⟨h.1,h.2 ▸ Below.refl _ _⟩))
     have HQ2:Hid (∀ d os,Calls Tryz.prog 65 #[.slice a4 n4 m4] (grow (redrawn wc d) os) fun e w'' => e = .returned (.string y) ∧ ∃ p:Regrown,w'' = grow (redrawn wc p.d) p.os) :=
      Lib.hid (fun d os => Calls.regrown_of (HPX.out _ (below_two' HB1.out (below_two' HBD.out (below_regrown wc d os)))))
     have rp4:=cell_regrown p4
     clear hy h0 HY HPX p0 p1 p2 p3 p4 p5
     rw [g0]
     go_wp2_with fail
     refine wp_region_quiet_below (by kernel_rfl) (by kernel_rfl) ?_
     repeat (go_big_quiet_step (first | (with_reducible exact HQ1.out _ _) | (with_reducible exact HQ2.out _ _)))
     refine wpQuiet_nil ?_
     intro _ hw'
     obtain ⟨⟨dq,osq⟩,hw''⟩:=hw'
     subst hw''
     simp only
     have HB4:=Lib.hid (below_two' HBD.out (below_regrown wc dq osq))
     go_wp2_with fail
     go_meet
     case rel => exact ⟨congrArg Value.string HY2.out.symm,HB4.out⟩
   case rest =>
    obtain ⟨rfl,hbc⟩:=hcut
    have HBE:=Lib.hid hbc
    clear p0 p1 p2 p3 p4 p5
    obtain ⟨p0,p1,p2,p3,p4,p5⟩:=HK.out _ hbc
    have hS4z:(S3 ++ bs (lineA [101,120,105,116] (u + 2) tex)).size ≤ 22400:=by
     rw [ByteArray.size_append,bs_size]
     unfold lineA
     split
     ·simp; omega
     ·have hpp:(putB tex).size = (putT tex).length:=rfl
      simp only [List.length_append,List.length_cons,List.length_nil,inT_len]
      omega
    obtain ⟨S4,hS4⟩:∃ S4,S4 = S3 ++ bs (lineA [101,120,105,116] (u + 2) tex):=⟨_,rfl⟩
    rw [← hS4] at HX hS4z ⊢
    have hn16:n5 ≤ 16:=by have:=L5.out; omega
    clear hbc hS4 HBD HPX hz4 hS3z
    go_wp2_with fail
    go_loopw [7,8] (fun p i wr => StTrRel W1 S4 (u + 2) n5 ttr p i wr) (fun _ i _ => n5 - (intOf i).toNat)
    case atStart => exact ⟨0,Nat.zero_le _,rfl,congrArg Value.string (app_nil S4).symm,HBE.out⟩
    case round =>
     obtain ⟨j,hj,rfl,rfl,hbw⟩:=hrel
     have HBW:=Lib.hid hbw
     clear p0 p1 p2 p3 p4 p5
     obtain ⟨p0,p1,p2,p3,p4,p5⟩:=HK.out _ hbw
     clear hbw
     by_cases hlt:j < n5
     case neg =>
      obtain rfl:j = n5:=by omega
      have g1:decide ((j:Int) < j) = false:=by simp
      have HFE:Hid ((.string (S4 ++ bs ((ttr.take j).flatMap (lineT (u + 2)))):Value) = .string R):=Lib.hid (by
       rw [HX.out,List.take_of_length_le (by rw [← L5.out]; omega)])
      go_wp2_with fail
      go_ret
      exact ⟨congrArg Ending.returned HFE.out,below_two' HB1.out HBW.out⟩
     have g1:decide ((j:Int) < n5) = true:=by simp; omega
     obtain ⟨x,hx⟩:=get_some (l:=ttr) (k:=j) (by rw [← L5.out]; exact hlt)
     have hm:=List.mem_of_getElem? hx
     obtain ⟨bt,ot,gA,gn,gc,aA,an,ac,rfl,hbt,e0,e1,e2,e3,htr⟩:=(HTR.out _ (below_two' HB1.out HBW.out)).at_ (i:=j) (t:=x.tr) (by rw [List.getElem?_map,hx]; rfl)
     have HY:=Lib.hid (tr_next S4 (u + 2) hx)
     rw [← HIC.out] at HY
     have hlz:(bs ((ttr.take j).flatMap (lineT (u + 2)))).size ≤ 11700 * 16:=by
      rw [bs_size]
      have:=flat_le (lineT (u + 2)) (fun _ => 0) 11700 0 (L:=ttr.take j) fun y hy => by
       have hh:=HTS.out y (List.mem_of_mem_take hy)
       have hyT:(T (txT y)).length = (txT y).size:=rfl
       simp only [lineT,List.length_append,List.length_cons,List.length_nil,inT_len]
       omega
      rw [List.length_take] at this
      omega
     have hyz:=HTS.out x hm
     have hPT:=fun W hW => HTO.out W hW x hm gA gn gc aA an ac
     obtain ⟨z,hz⟩:∃ z,z = S4 ++ bs ((ttr.take j).flatMap (lineT (u + 2))):=⟨_,rfl⟩
     have hzz:z.size ≤ 300000:=by rw [hz,ByteArray.size_append]; omega
     rw [← hz] at HY ⊢
     obtain ⟨y,hy⟩:∃ y,y = txT x:=⟨_,rfl⟩
     rw [← hy] at HY hyz hPT
     have HQ1:Hid (∀ d os,Calls Tryz.prog 33 #[.int .i64 ((u:Int) + 1 + 1)] (grow (redrawn wr d) os) fun e w'' => e = .returned (.string ic) ∧ ∃ p:Regrown,w'' = grow (redrawn wr p.d) p.os) :=
      Lib.hid (fun d os => Calls.regrown_of ((HIN2.out _).mono fun _ _ h => ⟨h.1,h.2 ▸ Below.refl _ _⟩))
     have HQ2:Hid (∀ d os,Calls Tryz.prog 66 #[.agg #[.string x.ev,.slice gA gn gc,.slice aA an ac,.string x.tg]] (grow (redrawn wr d) os) fun e w'' => e = .returned (.string y) ∧ ∃ p:Regrown,w'' = grow (redrawn wr p.d) p.os) :=
      Lib.hid (fun d os => Calls.regrown_of (hPT _ (below_two' HB1.out (below_two' HBW.out (below_regrown wr d os))) (htr.keep (below_regrown wr d os))))
     obtain ⟨ev,g,ts,tg⟩:=x
     simp only [Tt.tr] at e0 e3 HQ2
     have q2:¬ 9223372036854775807 < z.size + ic.size:=by omega
     have q3:¬ 9223372036854775807 < z.size + ic.size + y.size:=by omega
     have q4:¬ 9223372036854775807 < z.size + ic.size + y.size + 1:=by omega
     have rp5:=cell_regrown p5
     have r0:=cell_regrown e0
     have r1:=cell_regrown e1
     have r2:=cell_regrown e2
     have r3:=cell_regrown e3
     have HJ1:Hid (j + 1 ≤ n5):=Lib.hid hlt
     clear hy hz hx hm hPT htr
     go_wp2_with fail
     refine wp_region_quiet_below (by kernel_rfl) (by kernel_rfl) ?_
     repeat (go_big_quiet_step (first | (with_reducible exact HQ1.out _ _) | (with_reducible exact HQ2.out _ _)))
     refine wpQuiet_nil ?_
     intro _ hw'
     obtain ⟨⟨dq,osq⟩,hw''⟩:=hw'
     subst hw''
     simp only
     have HB5:=Lib.hid (below_two' HBW.out (below_regrown wr dq osq))
     go_wp2_with fail
     go_roundw
     case rel => exact ⟨j + 1,HJ1.out,by go_num,congrArg Value.string HY.out.symm,HB5.out⟩
     case measure => have:=HJ1.out; simp [intOf]; omega
end Go.Proofs.YtcofikjpplkjdaaGreatDoor
namespace Go.Proofs.YtcofikjpplkjdaaGreatDoor
open Go.RowKit Go.Sort CurSpec TermSpec EvalSpec ActSpec NamesSpec ExprSpec TransSpec SynSpec PrintSpec
open ShapeSpec (Sh up sf endOf SU)
set_option maxRecDepth 100000
abbrev chOb (s:ByteArray) (e v t:Value):Obj:=.cells #[.string s,e,v,t] 26
def PEvRel (P:ByteArray) (l:List ByteArray) (n:Nat) (p i:Value):Prop:=∃ k:Nat,k ≤ n ∧ i = .int .i64 k ∧ p = .string (P ++ bs (evTo l k))
def PVarRel (W:World) (P:ByteArray) (l:List Vr) (n:Nat) (p i:Value) (wr:World):Prop:=∃ k:Nat,k ≤ n ∧ i = .int .i64 k ∧ p = .string (P ++ bs ((l.take k).flatMap varT)) ∧ Below W.heap.size W wr
def PStRel (W:World) (P:ByteArray) (sh:List Sh) (l:List Ts) (n:Nat) (p i:Value) (wr:World):Prop:=∃ k:Nat,k ≤ n ∧ i = .int .i64 k ∧ p = .string (P ++ bs (stsTo sh l k)) ∧ Below W.heap.size W wr
def PClRel (W:World) (P:ByteArray) (sh:List Sh) (l:List Ts) (i m:Nat) (p j:Value) (wr:World):Prop:=∃ k:Nat,k ≤ m ∧ j = .int .i64 k ∧ p = .string (P ++ bs (closTo sh l i k)) ∧ Below W.heap.size W wr
theorem evT_len {l:List ByteArray} (h:∀ e ∈ l,isName e.data.toList = true) (h8:l.length ≤ 8):(PrintSpec.evT l).length ≤ 130:=by
 obtain ⟨a,-⟩:=sep_w h
 unfold PrintSpec.evT
 split
 ·simp
 ·simp only [List.length_append,List.length_cons,List.length_nil,inT_len]
  omega
theorem chart_parts (c:Tc):bs (putC c) = ((((⟨#[99,104,97,114,116,32]⟩ ++ c.s ++ ⟨#[32,123,10]⟩) ++ bs (PrintSpec.evT c.evs)) ++ bs (c.vars.flatMap varT)) ++ bs (stsT c.sh c.sts)) ++ ⟨#[125,10]⟩:=by
 rw [show (⟨#[99,104,97,114,116,32]⟩:ByteArray) = bs [99,104,97,114,116,32] from rfl,show (⟨#[32,123,10]⟩:ByteArray) = bs [32,123,10] from rfl,show (⟨#[125,10]⟩:ByteArray) = bs [125,10] from rfl]
 conv => rhs; rw [← bsT c.s]
 simp only [bs_app]
 congr 1
 simp [putC,inT]
set_option maxRecDepth 100000 in
set_option maxHeartbeats 16000000 in
theorem cput_any (x:Tc) (hx:x.Ok) (eA:Option Addr) (en ec:Nat) (vA:Option Addr) (vn vc:Nat) (sA:Option Addr) (sn sc:Nat) (w:World) (h:ChIn w (.slice eA en ec) (.slice vA vn vc) (.slice sA sn sc) x.cx) (hg:SignsIn w) :
 Calls Tryz.prog 11 #[.agg #[.string x.s,.slice eA en ec,.slice vA vn vc,.slice sA sn sc]] w (RetS w (bs (putC x))):=by
 have H:=hx.stand
 obtain ⟨hvn,hvc⟩:=RdV.len h.vars
 obtain ⟨hsn,hsc⟩:=h.sts.len
 rw [show x.cx.sts = x.sts.map Ts.sx from rfl,List.length_map] at hsn
 have hl:=H.len
 have hf:=H.few
 have h12:=name_size hx.nm
 have hev8:=hx.evf
 have hva4:=hx.vaf
 have HEN:=Lib.hid hx.evs
 have HVO:=Lib.hid hx.vars
 obtain ⟨W1,hW1⟩:∃ W1,w.alloc (chOb x.s (.slice eA en ec) (.slice vA vn vc) (.slice sA sn sc)) = W1:=⟨_,rfl⟩
 have hb1:Below w.heap.size w W1:=by rw [← hW1]; exact KitC.below_one _ _
 have hk1:W1.heap[w.heap.size]? = some (chOb x.s (.slice eA en ec) (.slice vA vn vc) (.slice sA sn sc)):=by rw [← hW1]; exact heap_alloc_new _ _
 have HK:=Lib.hid (fun W (hW:Below W1.heap.size W1 W) => cells_4 (KitC.block_on hk1 hW))
 obtain ⟨eA',en',ec',heq,hen,hec,hE⟩:=Rd.strs (h.keep hb1).evs
 cases heq
 rw [show x.cx.evs = x.evs from rfl] at hen hE
 have HEV:=Lib.hid hE
 have HVI:=Lib.hid (fun W (hW:Below W1.heap.size W1 W) => ((RdV.vars h.vars).keep hb1).keep hW)
 have HST:=Lib.hid (fun W (hW:Below W1.heap.size W1 W) => h.sts.keep (below_two' hb1 hW))
 have HSG:=Lib.hid (fun W (hW:Below W1.heap.size W1 W) => hg.keep (below_two' hb1 hW))
 have HSS:=Lib.hid (fun W (hW:Below W1.heap.size W1 W) => (show Sts W (.slice sA sn sc) x.sh from by
  have:=(h.sts.keep (below_two' hb1 hW)).sts
  rwa [sh_cx] at this))
 have HW1:=Lib.hid hW1
 have HB1:=Lib.hid hb1
 have HH:=Lib.hid H
 have HP:=Lib.hid (chart_parts x)
 have HEL:=Lib.hid (evT_len hx.evs hev8)
 obtain ⟨R,hR⟩:∃ R,R = bs (putC x):=⟨_,rfl⟩
 rw [← hR] at HP ⊢
 obtain ⟨c0,c1,c2,c3⟩:=cells_4 hk1
 have HSN:=Lib.hid hsn
 have HVN:=Lib.hid hvn
 have HNE:=Lib.hid hen
 have hn60:sn ≤ 60:=by omega
 have hv4:vn ≤ 4:=by rw [hvn]; exact hva4
 have he8:en ≤ 8:=by omega
 have HSL:=Lib.hid (show x.sh.length = sn by omega)
 obtain ⟨s,evs,vars,sts⟩:=x
 obtain ⟨sh,hsh⟩:∃ sh,sh = (Tc.sh ⟨s,evs,vars,sts⟩):=⟨_,rfl⟩
 rw [← hsh] at HH HP HSS HSL
 simp only [Tc.cx] at HVI HST HK c0 c1 c2 c3 HW1 HP HEN HVO HEV h12 HH HSN HVN HNE HEL
 clear h hg hx H hvn hsn hl hf hev8 hva4 hW1 hb1 hk1 hen hE hR hsh
 go_enter Tryz.func11,Tryz.ntmps11
 have q1:¬ 9223372036854775807 < 6 + s.size:=by omega
 have q2:¬ 9223372036854775807 < 6 + s.size + 3:=by omega
 go_wp2_with fail
 rw [HW1.out]
 obtain ⟨P0,hP0⟩:∃ P0,P0 = (⟨#[99,104,97,114,116,32]⟩:ByteArray) ++ s ++ ⟨#[32,123,10]⟩:=⟨_,rfl⟩
 have hP0z:P0.size ≤ 30:=by rw [hP0,ByteArray.size_append,ByteArray.size_append]; show 6 + s.size + 3 ≤ 30; omega
 rw [← hP0] at HP ⊢
 clear q1 q2 hP0
 go_loop [3,4] (fun p i => PEvRel P0 evs en p i) (fun _ i => en - (intOf i).toNat)
 case atStart => exact ⟨0,Nat.zero_le _,rfl,congrArg Value.string (app_nil P0).symm⟩
 case round =>
  obtain ⟨k,hk,rfl,rfl⟩:=hrel
  have hez:=evTo_len HEN.out (k:=k) (by have:=HNE.out; omega)
  obtain ⟨z,hz⟩:∃ z,z = P0 ++ bs (evTo evs k):=⟨_,rfl⟩
  have hzz:z.size ≤ 200:=by rw [hz,ByteArray.size_append,bs_size]; omega
  rw [← hz]
  by_cases hlt:k < en
  ·obtain ⟨y,hy⟩:∃ y,evs[k]? = some y:=get_some (by rw [HNE.out]; exact hlt)
   obtain ⟨b,off,rfl,hb,hcell⟩:=HEV.out (by omega)
   have hck:=hcell k y hy
   have hy12:=name_size (HEN.out y (List.mem_of_getElem? hy))
   have hnx:=ev_next hy
   by_cases h0:k = 0
   ·have g1:((k:Int) == 0) = true:=by simp; omega
    have HX:Hid (z ++ ⟨#[32,32,101,118,101,110,116,32]⟩ ++ y = P0 ++ bs (evTo evs (k + 1))):=Lib.hid (by
     rw [if_pos h0] at hnx
     subst h0
     rw [hz,hnx,show (⟨#[32,32,101,118,101,110,116,32]⟩:ByteArray) = bs (inT 1 ++ [101,118,101,110,116,32]) from rfl,show bs (evTo evs 0) = ⟨#[]⟩ from rfl,app_nil]
     conv => lhs; rw [← bsT y]
     rw [ByteArray.append_assoc,bs_app])
    have q1:¬ 9223372036854775807 < z.size + 8:=by omega
    have q2:¬ 9223372036854775807 < z.size + 8 + y.size:=by omega
    clear hnx hz
    subst h0
    rw [Nat.add_zero] at hck
    clear hy hcell
    go_wp2_with fail
    go_round
    case rel => exact ⟨0 + 1,by omega,by go_num,congrArg Value.string HX.out⟩
    case measure => simp [intOf]; omega
   ·have g1:((k:Int) == 0) = false:=by simp; omega
    have HX:Hid (z ++ ⟨#[44,32]⟩ ++ y = P0 ++ bs (evTo evs (k + 1))):=Lib.hid (by
     rw [if_neg h0] at hnx
     rw [hz,hnx,show (⟨#[44,32]⟩:ByteArray) = bs [44,32] from rfl]
     conv => lhs; rw [← bsT y]
     rw [ByteArray.append_assoc,ByteArray.append_assoc,bs_app,bs_app,List.append_assoc])
    have q1:¬ 9223372036854775807 < z.size + 2:=by omega
    have q2:¬ 9223372036854775807 < z.size + 2 + y.size:=by omega
    clear hy hcell hnx hz
    go_wp2_with fail
    go_round
    case rel => exact ⟨k + 1,by omega,by go_num,congrArg Value.string HX.out⟩
    case measure => simp [intOf]; omega
  ·obtain rfl:k = en:=by omega
   obtain ⟨P1,hP1⟩:∃ P1,P1 = P0 ++ bs (PrintSpec.evT evs):=⟨_,rfl⟩
   have hP1z:P1.size ≤ 200:=by rw [hP1,ByteArray.size_append,bs_size]; have:=HEL.out; omega
   have HZ:Hid ((k = 0 → z = P1) ∧ (0 < k → z ++ ⟨#[59,10]⟩ = P1)):=Lib.hid (by
    have hkn:=HNE.out
    refine ⟨fun h0 => ?_,fun h0 => ?_⟩
    ·subst h0
     rw [hz,hP1,ev_nil hkn]
    ·rw [hz,hP1,← ev_done (l:=evs) (fun e => by rw [e] at hkn; simp at hkn; omega),hkn,show (⟨#[59,10]⟩:ByteArray) = bs [59,10] from rfl,ByteArray.append_assoc,bs_app])
   rw [← hP1] at HP
   clear hz hP1 hez
   go_upto_if 38 with fail
   go_cut [3] from 11 (fun p wx => StrAt W1 P1 p wx)
   case first =>
    rcases Nat.eq_zero_or_pos k with h0 | h0
    ·have HX:=Lib.hid (HZ.out.1 h0)
     subst h0
     go_wp2_with fail
     go_meet
     case rel => exact ⟨congrArg Value.string HX.out,Below.refl _ _⟩
    ·have HX:=Lib.hid (HZ.out.2 h0)
     have g0:decide (0 < k) = true:=by simp; omega
     have q1:¬ 9223372036854775807 < z.size + 2:=by omega
     rw [g0]
     go_wp2_with fail
     go_meet
     case rel => exact ⟨congrArg Value.string HX.out,Below.refl _ _⟩
   case rest =>
    obtain ⟨rfl,hbc⟩:=hcut
    have HBC:=Lib.hid hbc
    clear c0 c1 c2 c3 hbc hzz HZ HEV
    go_wp2_with fail
    go_loopw [3,5] (fun p i wr => PVarRel W1 P1 vars vn p i wr) (fun _ i _ => vn - (intOf i).toNat)
    case atStart => exact ⟨0,Nat.zero_le _,rfl,congrArg Value.string (app_nil P1).symm,HBC.out⟩
    case round =>
     obtain ⟨i,hi,rfl,rfl,hbw⟩:=hrel
     have HBW:=Lib.hid hbw
     obtain ⟨c0,c1,c2,c3⟩:=HK.out _ hbw
     have HV2:=Lib.hid (HVI.out _ hbw)
     have hlz:(bs ((vars.take i).flatMap varT)).size ≤ 70 * 4:=by
      rw [bs_size]
      have:=flat_le varT (fun _ => 0) 70 0 (L:=vars.take i) fun v hv => by have:=(var_w (HVO.out v (List.mem_of_mem_take hv))).1; omega
      rw [List.length_take] at this
      have:=HVN.out
      omega
     obtain ⟨z,hz⟩:∃ z,z = P1 ++ bs ((vars.take i).flatMap varT):=⟨_,rfl⟩
     have hzz:z.size ≤ 500:=by rw [hz,ByteArray.size_append]; omega
     rw [← hz]
     clear hbw
     by_cases hlt:i < vn
     ·obtain ⟨v,hv⟩:∃ v,vars[i]? = some v:=get_some (by rw [← HVN.out]; exact hlt)
      obtain ⟨b,off,rfl,hb,d0,d1,d2,d3⟩:=HV2.out.at_ hv
      have hov:=HVO.out v (List.mem_of_getElem? hv)
      have HX:Hid (P1 ++ bs ((vars.take (i + 1)).flatMap varT) = z ++ bs (varT v)):=Lib.hid (by rw [var_next hv,hz,ByteArray.append_assoc,bs_app])
      have HY:=Lib.hid (HX.out.trans (var_bs z v))
      simp only [okV,Bool.and_eq_true] at hov
      obtain ⟨o1,o2,o3,o4⟩:=hov
      have s1:=name_size o1
      have s2:=(int_len o2).1
      have s3:=(int_len o3).1
      have s4:=(int_len o4).1
      have b2:=small_abs o2
      have b3:=small_abs o3
      have b4:=small_abs o4
      obtain ⟨OB,hOB⟩:∃ OB:Obj,OB = .cells #[.string v.s,.int .i64 v.lo,.int .i64 v.hi,.int .i64 v.ini] 53:=⟨_,rfl⟩
      obtain ⟨W2,hW2⟩:∃ W2,wr.alloc OB = W2:=⟨_,rfl⟩
      have hb2:Below wr.heap.size wr W2:=by rw [← hW2]; exact KitC.below_one _ _
      have hk2:W2.heap[wr.heap.size]? = some OB:=by rw [← hW2]; exact heap_alloc_new _ _
      have HQ:∀ n:Int,n.natAbs ≤ 1000000 → ∀ d os,Calls Tryz.prog 28 #[.int .i64 n] (grow (redrawn W2 d) os) fun e w'' => e = .returned (.string (bs (ValSpec.text n))) ∧ ∃ p:Regrown,w'' = grow (redrawn W2 p.d) p.os :=
       fun n hn d os => Calls.regrown_of ((rput_any n _ (by omega) (by omega)).mono fun _ _ h => ⟨h.1,h.2 ▸ Below.refl _ _⟩)
      have HQ2:=Lib.hid (HQ v.lo b2)
      have HQ3:=Lib.hid (HQ v.hi b3)
      have HQ4:=Lib.hid (HQ v.ini b4)
      rw [hOB] at hW2 hk2
      have HW2:=Lib.hid hW2
      have HB2:=Lib.hid (below_two' HBW.out hb2)
      obtain ⟨y2,hy2⟩:∃ y,y = bs (ValSpec.text v.lo):=⟨_,rfl⟩
      obtain ⟨y3,hy3⟩:∃ y,y = bs (ValSpec.text v.hi):=⟨_,rfl⟩
      obtain ⟨y4,hy4⟩:∃ y,y = bs (ValSpec.text v.ini):=⟨_,rfl⟩
      have t2:y2.size ≤ 8:=by rw [hy2,bs_size]; exact s2
      have t3:y3.size ≤ 8:=by rw [hy3,bs_size]; exact s3
      have t4:y4.size ≤ 8:=by rw [hy4,bs_size]; exact s4
      rw [← hy2] at HQ2 HY
      rw [← hy3] at HQ3 HY
      rw [← hy4] at HQ4 HY
      obtain ⟨p0,p1,p2,p3⟩:=cells_4 hk2
      have rp0:=cell_regrown p0
      have rp1:=cell_regrown p1
      have rp2:=cell_regrown p2
      have rp3:=cell_regrown p3
      obtain ⟨nm,lo,hi',ini⟩:=v
      simp only at d0 d1 d2 d3 HQ2 HQ3 HQ4 HY s1 rp0 rp1 rp2 rp3 HW2
      have q1:¬ 9223372036854775807 < z.size + 6:=by omega
      have q2:¬ 9223372036854775807 < z.size + 6 + nm.size:=by omega
      have q3:¬ 9223372036854775807 < z.size + 6 + nm.size + 1:=by omega
      have q4:¬ 9223372036854775807 < z.size + 6 + nm.size + 1 + y2.size:=by omega
      have q5:¬ 9223372036854775807 < z.size + 6 + nm.size + 1 + y2.size + 4:=by omega
      have q6:¬ 9223372036854775807 < z.size + 6 + nm.size + 1 + y2.size + 4 + y3.size:=by omega
      have q7:¬ 9223372036854775807 < z.size + 6 + nm.size + 1 + y2.size + 4 + y3.size + 3:=by omega
      have q8:¬ 9223372036854775807 < z.size + 6 + nm.size + 1 + y2.size + 4 + y3.size + 3 + y4.size:=by omega
      have q9:¬ 9223372036854775807 < z.size + 6 + nm.size + 1 + y2.size + 4 + y3.size + 3 + y4.size + 2:=by omega
      clear hv HX hz hlz o1 o2 o3 o4 s2 s3 s4 b2 b3 b4 HQ hOB OB hW2 hk2 hb2 hy2 hy3 hy4 p0 p1 p2 p3
      go_wp2_with fail
      rw [HW2.out]
      refine wp_region_quiet_below (by kernel_rfl) (by kernel_rfl) ?_
      repeat (go_big_quiet_step (first | (with_reducible exact HQ2.out _ _) | (with_reducible exact HQ3.out _ _) | (with_reducible exact HQ4.out _ _)))
      refine wpQuiet_nil ?_
      intro _ hw'
      obtain ⟨⟨dq,osq⟩,hw''⟩:=hw'
      subst hw''
      simp only
      have HB5:=Lib.hid (below_two' HB2.out (below_regrown W2 dq osq))
      go_wp2_with fail
      go_roundw
      case rel => exact ⟨i + 1,by omega,by go_num,congrArg Value.string HY.out.symm,HB5.out⟩
      case measure => simp [intOf]; omega
     ·obtain rfl:i = vn:=by omega
      obtain ⟨P2,hP2⟩:∃ P2,P2 = P1 ++ bs (vars.flatMap varT):=⟨_,rfl⟩
      have hzP:z = P2:=by rw [hz,hP2,List.take_of_length_le (by have:=HVN.out; omega)]
      rw [← hP2] at HP
      rw [hzP] at hzz ⊢
      have HBX:=Lib.hid HBW.out
      clear hz hP2 hzP hlz HV2 HVI
      go_wp2_with fail
      go_loopw [3,8] (fun p i wr => PStRel W1 P2 sh sts sn p i wr) (fun _ i _ => sn - (intOf i).toNat)
      case atStart => exact ⟨0,Nat.zero_le _,rfl,congrArg Value.string (app_nil P2).symm,HBX.out⟩
      case round =>
       obtain ⟨k,hk,rfl,rfl,hbw⟩:=hrel
       have HBS:=Lib.hid hbw
       have hkl:k ≤ sh.length:=by rw [HSL.out]; exact hk
       have hlz:(bs (stsTo sh sts k)).size ≤ 30000000:=by
        rw [bs_size]
        have:=stsTo_len HH.out hkl
        omega
       obtain ⟨z,hz⟩:∃ z,z = P2 ++ bs (stsTo sh sts k):=⟨_,rfl⟩
       have hzz2:z.size ≤ 31000000:=by rw [hz,ByteArray.size_append]; omega
       rw [← hz]
       clear hbw
       by_cases hlt:k < sn
       case neg =>
        obtain rfl:k = sn:=by omega
        have HX:Hid ((.string (z ++ ⟨#[125,10]⟩):Value) = .string R):=Lib.hid (by
         rw [HP.out,hz,← stsTo_all,show sts.length = k by rw [← HSN.out]])
        have q1:¬ 9223372036854775807 < z.size + 2:=by omega
        clear hz
        go_wp2_with fail
        go_ret
        exact ⟨congrArg Ending.returned HX.out,below_two' HB1.out HBS.out⟩
       have hkl':k < sh.length:=by rw [HSL.out]; exact hlt
       have HST2:=Lib.hid (fun W (hW:Below W1.heap.size W1 W) => state_any sh sts HH.out sA sn sc k W (HST.out W hW) hlt (HSG.out W hW))
       have HSE:=Lib.hid (fun W (hW:Below W1.heap.size W1 W) => rself_any sA sn sc sh.length sh k W (HSS.out W hW) HH.out.su hkl' (by rw [HSL.out]; exact Nat.le_refl _) (by omega))
       have hsl:=state_len HH.out hkl'
       have hul:=HH.out.deep k hkl'
       rw [List.length_append] at hsl
       have hnx:P2 ++ bs (stsTo sh sts (k + 1)) = (z ++ bs (PrintSpec.stT sh sts k)) ++ bs (closT sh sts k):=by
        rw [stsTo_next,hz,ByteArray.append_assoc,ByteArray.append_assoc,bs_app,bs_app]
       obtain ⟨y,hy⟩:∃ y,y = bs (PrintSpec.stT sh sts k):=⟨_,rfl⟩
       have hyz:y.size ≤ 460000:=by rw [hy,bs_size]; omega
       rw [← hy] at HST2 hnx
       have q1:¬ 9223372036854775807 < z.size + y.size:=by omega
       have HSFL:=Lib.hid (ShapeSpec.sfI_length sh k)
       clear hz hy hlz
       go_wp2_with (go_at_call 29; (with_reducible refine (HST2.out _ HBS.out).mono ?_))
       rintro e2 w2 ⟨rfl,hb2⟩
       have HB2:=Lib.hid (below_two' HBS.out hb2)
       clear hb2
       go_wp2_with (go_at_call 30; (with_reducible refine (HSE.out _ HB2.out).mono ?_))
       rintro e3 w3 hx3
       obtain ⟨A3,c3',rfl,hv3,hb3⟩:=retInts_shape hx3
       have HB3:=Lib.hid (below_two' HB2.out hb3)
       have HV3:=Lib.hid hv3
       obtain ⟨z2,hz2⟩:∃ z2,z2 = z ++ y:=⟨_,rfl⟩
       rw [← hz2] at hnx ⊢
       have hz2z:z2.size ≤ 31460000:=by rw [hz2,ByteArray.size_append]; omega
       rw [HSFL.out] at hv3 ⊢
       have HNX:=Lib.hid hnx
       obtain ⟨m,hm⟩:∃ m,m = (up sh k).length + 1:=⟨_,rfl⟩
       rw [← hm]
       have hm12:m ≤ 12:=by omega
       have HM:=Lib.hid (show (sf sh k).length = m from hm.symm)
       have HLT:=Lib.hid hlt
       have HKL:=Lib.hid hkl'
       clear hx3 hv3 hb3 hz2 hnx hm q1 hsl hul HST2 HSE hzz2 hyz
       go_wp2_with fail
       go_loopw [3,10] (fun p j wr => PClRel w3 z2 sh sts k m p j wr) (fun _ j _ => m - (intOf j).toNat)
       case atStart => exact ⟨0,Nat.zero_le _,rfl,congrArg Value.string (app_nil z2).symm,Below.refl _ _⟩
       case round =>
        obtain ⟨j,hj,rfl,rfl,hbj⟩:=hrel
        have HBJ:=Lib.hid hbj
        have HBJ1:=Lib.hid (below_two' HB3.out hbj)
        have hcz:(bs (closTo sh sts k j)).size ≤ 312:=by rw [bs_size]; exact closTo_len HH.out HKL.out j
        obtain ⟨z3,hz3⟩:∃ z3,z3 = z2 ++ bs (closTo sh sts k j):=⟨_,rfl⟩
        have hz3z:z3.size ≤ 31470000:=by rw [hz3,ByteArray.size_append]; omega
        rw [← hz3]
        clear hcz
        by_cases hjl:j < m
        case neg =>
         obtain rfl:j = m:=by omega
         have HX:Hid (z3 = P2 ++ bs (stsTo sh sts (k + 1))):=Lib.hid (by rw [HNX.out,hz3,← closTo_all,HM.out])
         clear hz3 hbj
         go_wp2_with fail
         go_roundw
         case rel => exact ⟨k + 1,HLT.out,by go_num,congrArg Value.string HX.out,HBJ1.out⟩
         case measure => have:=HLT.out; simp [intOf]; omega
        obtain ⟨a,ha⟩:=get_some (l:=sf sh k) (k:=j) (by rw [HM.out]; exact hjl)
        obtain ⟨A4,n4,c4,heq,hn4,-,hcl⟩:=(HV3.out.keep hbj).ints
        cases heq
        obtain ⟨b4,o4,rfl,hb4,hcell⟩:=hcl (by have:=HSFL.out; omega)
        have hca:=hcell j a (ShapeSpec.sfI_get ha)
        have hak:=ShapeSpec.sf_le (List.mem_of_getElem? ha)
        have hal:a < sh.length:=by have:=HKL.out; omega
        have haj:a < sn:=by rw [← HSL.out]; exact hal
        have HNXJ:=Lib.hid (show z2 ++ bs (closTo sh sts k (j + 1)) = z3 ++ bs (oneT sh sts k a) by rw [closTo_next sh sts ha,hz3,ByteArray.append_assoc,bs_app])
        have HEN2:=Lib.hid (fun W (hW:Below W1.heap.size W1 W) => rshend_any sA sn sc sh a W (HSS.out W hW) (by rw [← HSL.out]; exact HH.out.su) haj (by omega))
        have HEM2:=Lib.hid (fun W (hW:Below W1.heap.size W1 W) => (show Calls Tryz.prog 32 #[.slice sA sn sc,.int .i64 a] W (RetB W (emptyB sh sts a)) from by
         have:=empty_any sA sn sc sts a W (HST.out W hW) haj (by omega)
         rwa [← HH.out.eq] at this))
        have HAB2:=Lib.hid (fun W (hW:Below W1.heap.size W1 W) => rabove_any sA sn sc sh.length sh a W (HSS.out W hW) HH.out.su hal (by rw [HSL.out]; exact Nat.le_refl _) (by omega))
        have hua:=HH.out.deep a hal
        have HUL:=Lib.hid (ShapeSpec.upI_length sh a)
        obtain ⟨u,hu⟩:∃ u,u = (up sh a).length:=⟨_,rfl⟩
        have HIN:Hid (∀ W,Calls Tryz.prog 33 #[.int .i64 ((u:Int) + 1)] W (SameS W (bs (inT (u + 1))))):=Lib.hid (fun W => by have:=in_any (u + 1) (by omega) W; rwa [show ((u + 1:Nat):Int) = (u:Int) + 1 by omega] at this)
        have HYES:=Lib.hid (fun h1 h2 => one_yes (sh:=sh) (l:=sts) (i:=k) (j:=a) h1 h2 z3)
        have HNO:=Lib.hid (fun h => one_no (sh:=sh) (l:=sts) (i:=k) (j:=a) h z3)
        rw [← hu] at hua HUL HYES
        obtain ⟨ee,hee⟩:∃ ee,ee = endOf sh a:=⟨_,rfl⟩
        rw [← hee] at HEN2 HYES HNO
        obtain ⟨em,hem⟩:∃ em,em = emptyB sh sts a:=⟨_,rfl⟩
        rw [← hem] at HEM2 HYES HNO
        obtain ⟨ib,hib⟩:∃ ib,ib = bs (inT (u + 1)):=⟨_,rfl⟩
        have hibz:ib.size ≤ 24:=by rw [hib,bs_size,inT_len]; omega
        rw [← hib] at HIN HYES
        have HJL:=Lib.hid hjl
        have HCA:=Lib.hid (fun W (hW:Below wr.heap.size wr W) => (hW.cell (p:=⟨b4,o4 + j,none⟩) hb4).trans hca)
        clear ha hcell hcl hz3 hbj hu hee hem hib hak hal haj hn4
        by_cases he:ee = k + 1
        case neg =>
         have g1:((ee:Int) == (k:Int) + 1) = false:=by simp; omega
         have HX:=Lib.hid (HNXJ.out.trans (HNO.out (fun h => he h.1)))
         clear he HYES HNO
         go_wp2_with (go_at_call 31; (with_reducible refine (HEN2.out _ HBJ1.out).mono ?_))
         rintro e5 w5 ⟨rfl,hb5⟩
         have HB5:=Lib.hid (below_two' HBJ.out hb5)
         clear hb5
         go_wp2_with fail
         go_roundw
         case rel => exact ⟨j + 1,HJL.out,by go_num,congrArg Value.string HX.out.symm,HB5.out⟩
         case measure => have:=HJL.out; simp [intOf]; omega
        have g1:((ee:Int) == (k:Int) + 1) = true:=by simp; omega
        rcases em with _ | _
        case true =>
         have HX:=Lib.hid (HNXJ.out.trans (HNO.out (fun h => by cases h.2)))
         clear he HYES HNO
         go_wp2_with (go_at_call 31; (with_reducible refine (HEN2.out _ HBJ1.out).mono ?_))
         rintro e5 w5 ⟨rfl,hb5⟩
         have HB5:=Lib.hid (below_two' HBJ.out hb5)
         have HB51:=Lib.hid (below_two' HBJ1.out hb5)
         have hc5:=HCA.out _ hb5
         clear hb5
         go_wp2_with (go_at_call 32; (with_reducible refine (HEM2.out _ HB51.out).mono ?_))
         rintro e6 w6 ⟨rfl,hb6⟩
         have HB6:=Lib.hid (below_two' HB5.out hb6)
         clear hb6
         go_wp2_with fail
         go_roundw
         case rel => exact ⟨j + 1,HJL.out,by go_num,congrArg Value.string HX.out.symm,HB6.out⟩
         case measure => have:=HJL.out; simp [intOf]; omega
        have HX:=Lib.hid (HNXJ.out.trans (HYES.out he rfl))
        have q2:¬ 9223372036854775807 < z3.size + ib.size:=by omega
        have q3:¬ 9223372036854775807 < z3.size + ib.size + 2:=by omega
        clear he HYES HNO
        go_wp2_with (go_at_call 31; (with_reducible refine (HEN2.out _ HBJ1.out).mono ?_))
        rintro e5 w5 ⟨rfl,hb5⟩
        have HB5:=Lib.hid (And.intro hb5 (And.intro (below_two' HBJ.out hb5) (below_two' HBJ1.out hb5)))
        have hc5:=HCA.out _ hb5
        clear hb5
        go_wp2_with (go_at_call 32; (with_reducible refine (HEM2.out _ HB5.out.2.2).mono ?_))
        rintro e6 w6 ⟨rfl,hb6⟩
        have HB6:=Lib.hid (And.intro (below_two' HB5.out.1 hb6) (And.intro (below_two' HB5.out.2.1 hb6) (below_two' HB5.out.2.2 hb6)))
        have hc6:=HCA.out _ HB6.out.1
        clear hb6
        go_wp2_with (go_at_call 34; (with_reducible refine (HAB2.out _ HB6.out.2.2).mono ?_))
        rintro e7 w7 hx7
        obtain ⟨A7,c7,rfl,-,hb7⟩:=retInts_shape hx7
        have HB7:=Lib.hid (below_two' HB6.out.2.1 hb7)
        rw [HUL.out]
        clear hx7 hb7
        go_wp2_with (go_at_call 33; (with_reducible refine (HIN.out _).mono ?_))
        rintro e8 w8 ⟨rfl,rfl⟩
        go_wp2_with fail
        go_roundw
        case rel => exact ⟨j + 1,HJL.out,by go_num,congrArg Value.string HX.out.symm,HB7.out⟩
        case measure => have:=HJL.out; simp [intOf]; omega
end Go.Proofs.YtcofikjpplkjdaaGreatDoor
namespace Go.Proofs.YtcofikjpplkjdaaGreatDoor
open Go.RowKit Go.Sort TermSpec EvalSpec ActSpec NamesSpec ExprSpec TransSpec SynSpec PrintSpec
set_option maxRecDepth 100000
def RetPP (W:World) (s:ByteArray) (er:Int) (e:Ending) (w':World):Prop:=e = .returned (.tuple #[.string s,.int .i64 er]) ∧ Below W.heap.size W w'
section
variable (x:Cx) (eA:Option Addr) (en ec:Nat) (vA:Option Addr) (vn vc:Nat) (sA:Option Addr) (sn sc:Nat) (w:World) (h:ChIn w (.slice eA en ec) (.slice vA vn vc) (.slice sA sn sc) x) (hf:FitC x)
 (haw:∀ W,Below w.heap.size w W → Calls Tryz.prog 6 #[] W (RetB W true))
include h hf haw
set_option maxRecDepth 100000 in
set_option maxHeartbeats 8000000 in
theorem pputs_no (hl:lightC x = false) :
 Calls Tryz.prog 3 #[.agg #[.string x.s,.slice eA en ec,.slice vA vn vc,.slice sA sn sc]] w fun e w' => e = .returned (.bool true) ∧ Below w.heap.size w w':=by
 have HAW:=Lib.hid haw
 have HL:=Lib.hid (fun W (hW:Below w.heap.size w W) => lightC_any x eA en ec vA vn vc sA sn sc W (h.keep hW) hf)
 rw [hl] at HL
 clear h hf haw hl
 go_enter Tryz.func3,Tryz.ntmps3
 go_wp2_with (go_at_call 5; (with_reducible refine (HL.out _ (KitC.below_one _ _)).mono ?_))
 rintro e w2 ⟨rfl,hb⟩
 have HB2:=Lib.hid (below_two' (KitC.below_one _ _) hb)
 clear hb
 go_wp2_with (go_at_call 6; (with_reducible refine (HAW.out _ HB2.out).mono ?_))
 rintro e w3 ⟨rfl,hb⟩
 have HB3:=Lib.hid (below_two' HB2.out hb)
 clear hb
 go_wp2_with fail
 go_ret
 exact ⟨rfl,HB3.out⟩
variable (hbad:mayC x = false → ∀ W,Below w.heap.size w W → Calls Tryz.prog 7 #[.agg #[.string x.s,.slice eA en ec,.slice vA vn vc,.slice sA sn sc]] W (RetPP W ⟨#[]⟩ 1))
 (hok:∀ c:Tc,c.cx = x → c.Ok → (putC c).length ≤ 65536 → (chK c).length ≤ 4000 → ∀ W,Below w.heap.size w W → Calls Tryz.prog 7 #[.agg #[.string x.s,.slice eA en ec,.slice vA vn vc,.slice sA sn sc]] W (RetPP W (bs (putC c)) 0))
 (hchk:∀ W,Below w.heap.size w W → Calls Tryz.prog 9 #[.agg #[.string x.s,.slice eA en ec,.slice vA vn vc,.slice sA sn sc]] W (RetI W (if mayC x = true then 0 else 1)))
include hchk
include hbad in
set_option maxRecDepth 100000 in
set_option maxHeartbeats 8000000 in
theorem pputs_bad (hl:lightC x = true) (hm:mayC x = false) :
 Calls Tryz.prog 3 #[.agg #[.string x.s,.slice eA en ec,.slice vA vn vc,.slice sA sn sc]] w fun e w' => e = .returned (.bool true) ∧ Below w.heap.size w w':=by
 have HAW:=Lib.hid haw
 have HL:=Lib.hid (fun W (hW:Below w.heap.size w W) => lightC_any x eA en ec vA vn vc sA sn sc W (h.keep hW) hf)
 have HM:=Lib.hid (fun W (hW:Below w.heap.size w W) => mayC_any x eA en ec vA vn vc sA sn sc W (h.keep hW) (chart_fit (chart_light hl) hf))
 have HP:=Lib.hid (hbad hm)
 have HC:=Lib.hid (fun W hW => hchk W hW)
 rw [hm] at HM HC
 rw [if_neg (by decide)] at HC
 rw [hl] at HL
 clear h hf haw hl hm hbad hchk
 go_enter Tryz.func3,Tryz.ntmps3
 go_wp2_with (go_at_call 5; (with_reducible refine (HL.out _ (KitC.below_one _ _)).mono ?_))
 rintro e w2 ⟨rfl,hb⟩
 have HK:=Lib.hid (fun W (hW:Below w2.heap.size w2 W) => And.intro (KitC.one_block (below_two' hb hW)).1 (KitC.one_block (below_two' hb hW)).2.1)
 obtain ⟨c0,c1,c2,c3⟩:=cells_4 (HK.out _ (Below.refl _ _)).1
 clear hb
 go_wp2_with (go_at_call 7; (with_reducible refine (HP.out _ (HK.out _ (Below.refl _ _)).2).mono ?_))
 rintro e w3 ⟨rfl,hb⟩
 have HB3:=Lib.hid hb
 clear hb c0 c1 c2 c3
 obtain ⟨c0,c1,c2,c3⟩:=cells_4 (HK.out _ HB3.out).1
 go_wp2_with (go_at_call 8; (with_reducible refine (HM.out _ (HK.out _ HB3.out).2).mono ?_))
 rintro e w4 ⟨rfl,hb⟩
 have HB4:=Lib.hid (below_two' HB3.out hb)
 clear hb c0 c1 c2 c3
 obtain ⟨c0,c1,c2,c3⟩:=cells_4 (HK.out _ HB4.out).1
 go_wp2_with (go_at_call 9; (with_reducible refine (HC.out _ (HK.out _ HB4.out).2).mono ?_))
 rintro e w5 ⟨rfl,hb⟩
 have HB5:=Lib.hid (below_two' HB4.out hb)
 clear hb c0 c1 c2 c3
 obtain ⟨c0,c1,c2,c3⟩:=cells_4 (HK.out _ HB5.out).1
 go_wp2_with (go_at_call 9; (with_reducible refine (HC.out _ (HK.out _ HB5.out).2).mono ?_))
 rintro e w6 ⟨rfl,hb⟩
 have HB6:=Lib.hid (below_two' HB5.out hb)
 clear hb c0 c1 c2 c3
 go_wp2_with (go_at_call 6; (with_reducible refine (HAW.out _ (HK.out _ HB6.out).2).mono ?_))
 rintro e w7 ⟨rfl,hb⟩
 have HB7:=Lib.hid (below_two' HB6.out hb)
 clear hb
 go_wp2_with fail
 go_ret
 exact ⟨rfl,(HK.out _ HB7.out).2⟩
variable (hp:PairsIn w) (hg:SignsIn w)
include hp hg hok
set_option maxRecDepth 100000 in
set_option maxHeartbeats 8000000 in
theorem pputs_ok (hl:lightC x = true) (hm:mayC x = true) :
 Calls Tryz.prog 3 #[.agg #[.string x.s,.slice eA en ec,.slice vA vn vc,.slice sA sn sc]] w fun e w' => e = .returned (.bool true) ∧ Below w.heap.size w w':=by
 have hL:=chart_light hl
 obtain ⟨c,rfl,ok⟩:=tc_of hm
 obtain ⟨k1,k2,k3⟩:=chart_parse hL ok
 have HAW:=Lib.hid haw
 have HL:=Lib.hid (fun W (hW:Below w.heap.size w W) => lightC_any c.cx eA en ec vA vn vc sA sn sc W (h.keep hW) hf)
 have HM:=Lib.hid (fun W (hW:Below w.heap.size w W) => mayC_any c.cx eA en ec vA vn vc sA sn sc W (h.keep hW) (chart_fit hL hf))
 have HP:=Lib.hid (hok c rfl ok k1 k2)
 have HC:=Lib.hid (fun W hW => hchk W hW)
 have HR:=Lib.hid (fun W (hW:Below w.heap.size w W) => cput_any c ok eA en ec vA vn vc sA sn sc W (h.keep hW) (hg.keep hW))
 have hbs:(bs (putC c)).size ≤ 9223372036854775807:=by
  have:(bs (putC c)).size = (putC c).length:=by simp [bs,ByteArray.size]
  omega
 have HX:=Lib.hid (fun W (hW:Below w.heap.size w W) => parse_chart (bs (putC c)) W (hp.keep hW) (hg.keep hW) hbs)
 rw [k3] at HX
 have HSM:=Lib.hid (fun (fA:Option Addr) (fn fc:Nat) (uA:Option Addr) (un uc:Nat) (rA:Option Addr) (rn rc:Nat) W (hW:Below w.heap.size w W) (hT:ChIn W (.slice fA fn fc) (.slice uA un uc) (.slice rA rn rc) c.cx) => csame_any c.cx c.cx true (by simp) fA fn fc uA un uc rA rn rc eA en ec vA vn vc sA sn sc W hT (h.keep hW) (chart_few hL))
 have hkx:c.cx.s = c.s:=rfl
 rw [hm] at HM HC
 rw [if_pos rfl] at HC
 rw [hl] at HL
 rw [hkx] at HP HC HL HM HSM ⊢
 obtain ⟨S,hS⟩:∃ S,S = bs (putC c):=⟨_,rfl⟩
 rw [← hS] at HP HR HX
 obtain ⟨nm,hnm⟩:∃ nm,nm = c.s:=⟨_,rfl⟩
 rw [← hnm] at HP HC HL HM HSM HR ⊢
 have HNM:=Lib.hid (hkx.trans hnm.symm)
 have g1:(S.toList == S.toList) = true:=by simp
 clear h hf haw hl hm hok hchk hL ok k1 k2 k3 hbs hkx hS hnm hp hg
 go_enter Tryz.func3,Tryz.ntmps3
 go_wp2_with (go_at_call 5; (with_reducible refine (HL.out _ (KitC.below_one _ _)).mono ?_))
 rintro e w2 ⟨rfl,hb⟩
 have HK:=Lib.hid (fun W (hW:Below w2.heap.size w2 W) => And.intro (KitC.one_block (below_two' hb hW)).1 (KitC.one_block (below_two' hb hW)).2.1)
 obtain ⟨c0,c1,c2,c3⟩:=cells_4 (HK.out _ (Below.refl _ _)).1
 clear hb
 go_wp2_with (go_at_call 7; (with_reducible refine (HP.out _ (HK.out _ (Below.refl _ _)).2).mono ?_))
 rintro e w3 ⟨rfl,hb⟩
 have HB3:=Lib.hid hb
 clear hb c0 c1 c2 c3
 obtain ⟨c0,c1,c2,c3⟩:=cells_4 (HK.out _ HB3.out).1
 go_wp2_with (go_at_call 8; (with_reducible refine (HM.out _ (HK.out _ HB3.out).2).mono ?_))
 rintro e w4 ⟨rfl,hb⟩
 have HB4:=Lib.hid (below_two' HB3.out hb)
 clear hb c0 c1 c2 c3
 obtain ⟨c0,c1,c2,c3⟩:=cells_4 (HK.out _ HB4.out).1
 go_wp2_with (go_at_call 9; (with_reducible refine (HC.out _ (HK.out _ HB4.out).2).mono ?_))
 rintro e w5 ⟨rfl,hb⟩
 have HB5:=Lib.hid (below_two' HB4.out hb)
 clear hb c0 c1 c2 c3
 obtain ⟨c0,c1,c2,c3⟩:=cells_4 (HK.out _ HB5.out).1
 go_wp2_with (go_at_call 9; (with_reducible refine (HC.out _ (HK.out _ HB5.out).2).mono ?_))
 rintro e w6 ⟨rfl,hb⟩
 have HB6:=Lib.hid (below_two' HB5.out hb)
 clear hb c0 c1 c2 c3
 go_wp2_with (go_at_call 10; (with_reducible refine (HX.out _ (HK.out _ HB6.out).2).mono ?_))
 rintro e w7 ⟨fA,fn,fc,uA,un,uc,rA,rn,rc,rfl,hT,hb⟩
 have HB7:=Lib.hid (below_two' HB6.out hb)
 have HT:=Lib.hid hT
 clear hb hT
 simp only [HNM.out]
 have HC2:=Lib.hid (fun W (hW:Below ((w7.alloc (chO nm (.slice fA fn fc) (.slice uA un uc) (.slice rA rn rc))).alloc poZ).heap.size ((w7.alloc (chO nm (.slice fA fn fc) (.slice uA un uc) (.slice rA rn rc))).alloc poZ) W) => KitC.pair_blocks hW)
 obtain ⟨d1,d2,d3,-⟩:=HC2.out _ (Below.refl _ _)
 obtain ⟨c0,c1,c2,c3⟩:=cells_4 (HK.out _ (below_two' HB7.out d3)).1
 obtain ⟨e0,e1,e2,e3⟩:=cells_4 d1
 clear d1 d2 d3
 go_wp2_with (go_at_call 11; (with_reducible refine (HR.out _ (HK.out _ (below_two' HB7.out (HC2.out _ (Below.refl _ _)).2.2.1)).2).mono ?_))
 rintro e w8 ⟨rfl,hb⟩
 have HB8:=Lib.hid (And.intro (HC2.out _ hb).1 (HC2.out _ hb).2.2.1)
 clear hb c0 c1 c2 c3 e0 e1 e2 e3 HC2
 obtain ⟨c0,c1,c2,c3⟩:=cells_4 (HK.out _ (below_two' HB7.out HB8.out.2)).1
 obtain ⟨e0,e1,e2,e3⟩:=cells_4 HB8.out.1
 go_wp2_with (go_at_call 12; (with_reducible refine (HSM.out fA fn fc uA un uc rA rn rc _ (HK.out _ (below_two' HB7.out HB8.out.2)).2 (HT.out.keep HB8.out.2)).mono ?_))
 rintro e w9 ⟨rfl,hb⟩
 have HB9:=Lib.hid (below_two' HB7.out (below_two' HB8.out.2 hb))
 clear hb c0 c1 c2 c3 e0 e1 e2 e3
 go_wp2_with (go_at_call 6; (with_reducible refine (HAW.out _ (HK.out _ HB9.out).2).mono ?_))
 rintro e w10 ⟨rfl,hb⟩
 have HB10:=Lib.hid (below_two' HB9.out hb)
 clear hb
 go_wp2_with fail
 go_ret
 exact ⟨rfl,(HK.out _ HB10.out).2⟩
include hbad in
end
end Go.Proofs.YtcofikjpplkjdaaGreatDoor
namespace Go.Proofs.YtcofikjpplkjdaaGreatDoor
namespace PrintSpec
open CurSpec TermSpec EvalSpec ActSpec NamesSpec ExprSpec TransSpec SynSpec ShapeSpec
def topG:Ts:=⟨⟨#[116,111,112]⟩,2,-1,[],[],[]⟩
section
variable {n k:Nat} (hn:n < 60)
include hn
omit hn in
omit hn in
end
end PrintSpec
end Go.Proofs.YtcofikjpplkjdaaGreatDoor
namespace Go.Proofs.YtcofikjpplkjdaaGreatDoor
open Go.RowKit Go.Sort TermSpec EvalSpec ActSpec NamesSpec ExprSpec TransSpec
set_option maxRecDepth 100000
theorem rdk_whole {k n c b:Nat} {w:World} {cs:Array Value} {T:TypeId} {fr:Nat × Nat} {xs:List Value} (h:w.heap[b]? = some (.cells cs T fr)) (hx:cs.toList = xs) (hl:xs.length = n * k) (hc:n ≤ c):Rdk k w (.slice (some ⟨b,0,none⟩) n c) n xs:=by
 refine ⟨_,c,rfl,hc,hl,fun _ => ⟨b,0,rfl,(Array.getElem?_eq_some_iff.1 h).1,fun j u hj => ?_⟩⟩
 rw [← hx,Array.getElem?_toList] at hj
 simp [World.cell?,h,hj]
end Go.Proofs.YtcofikjpplkjdaaGreatDoor
namespace Go.Proofs.YtcofikjpplkjdaaGreatDoor
open Go.RowKit Go.Sort TermSpec EvalSpec ActSpec NamesSpec ExprSpec TransSpec SynSpec PrintSpec
set_option maxRecDepth 100000
theorem sb_top (s:ByteArray) (a b:Int) (w:World):(Instr.build 42 #[(0,.string s),(1,.int .i64 a),(2,.int .i64 b)]).run Tryz.prog w = .ok (.agg #[.string s,.int .i64 a,.int .i64 b,.slice none 0 0,.slice none 0 0,.slice none 0 0]) w:=run_build w 42 _ _ (by kernel_rfl)
def topP:SP:=⟨topG.sx,none,0,0,none,0,0,none,0,0⟩
end Go.Proofs.YtcofikjpplkjdaaGreatDoor