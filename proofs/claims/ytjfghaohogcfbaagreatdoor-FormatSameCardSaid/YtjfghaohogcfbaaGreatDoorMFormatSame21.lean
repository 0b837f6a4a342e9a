/- SynStateW, SynVars, SynRead, joined. -/
import Derived.Test.YtjfghaohogcfbaaGreatDoorMFormatSame20
import Derived.Test.YtjfghaohogcfbaaGreatDoorMFormatSame19
namespace Go.Proofs.YtjfghaohogcfbaaGreatDoor
open Go.RowKit CurSpec TermSpec EvalSpec ActSpec NamesSpec ExprSpec TransSpec SynSpec
set_option maxRecDepth 100000
def StRel (W:World) (B k:Nat) (ps:List SP) (p:SP) (F:Cur × List Sx) (gh:Nat) (pv:Value) (wr:World):Prop :=
 ∃ (d:Cur) (qs:List SP),left d ≤ gh ∧ Ok d ∧ CurAt wr B d ∧ RowP W B wr pv (ps ++ p :: qs) ∧ FewS (ps.length + 1) d (qs.map (·.x)) ∧ (k = 0 → d.bad ≠ 0) ∧
   (p.x.kind = 1 → qs = [] ∧ F = (d,[])) ∧ (p.x.kind ≠ 1 → loopT qS (stS (stR (k - 1)) (k - 1) ps.length) d (qs.map (·.x)) = F)
set_option maxRecDepth 100000 in
set_option maxHeartbeats 16000000 in
theorem state_body (W0:World) (B k:Nat) (hk:k ≤ 12) (hs0:SignsIn W0) {c00:Cur} (hc00:CurAt W0 B c00) (IH:∀ k',k = k' + 1 → StateOk W0 B k'):StateOk W0 B k:=by
 intro c ps par pA pc w h ok hrow hst hdead
 obtain ⟨i0,hi,hz0,hz1,hz2⟩:=info_parts inf_state
 have HI:=Lib.hid (And.intro hi (And.intro hz0 (And.intro hz1 hz2)))
 have HSG:=Lib.hid (fun W (hW:W0.grownBy W (some B)) => signs_but hs0 hc00 hW)
 rw [stR_body k ps.length par c hdead]
 obtain ⟨n,hn⟩:∃ n,n = ps.length:=⟨_,rfl⟩
 have HN:=Lib.hid hn
 have h60:n ≤ 60:=by rw [hn]; exact hst.1
 obtain ⟨K,hK⟩:∃ K,K = kidsR (stR (k - 1)) (k - 1) ps.length:=⟨_,rfl⟩
 rw [← hK]
 have HD:=Lib.hid (readHead_at B c par w h ok)
 obtain ⟨⟨c1,x1⟩,e1⟩:∃ p,p = headR c par:=⟨_,rfl⟩
 have k1:To c c1:=by have:=(to_kdR c).trans (to_headR c par); rw [← e1] at this; exact this
 have hx1:x1.en = [] ∧ x1.ex = [] ∧ x1.tr = [] ∧ x1.par = par:=by
  have:x1 = (headR c par).2:=by rw [← e1]
  rw [this]
  exact ⟨rfl,rfl,rfl,rfl⟩
 rw [← e1] at HD
 have HT1:=Lib.hid (fun W (hW:CurAt W B c1) => take_at B c1 3 wEnd W hW)
 obtain ⟨P,hP⟩:∃ P,P = bodyS K par c:=⟨_,rfl⟩
 rw [← hP]
 have hL1:ps.length + 1 ≤ maxLen:=by unfold maxLen; omega
 have hL2:(ps.length + 1) * 104 ≤ 140737488355328:=by omega
 have HL1:=Lib.hid hL1
 have HL2:=Lib.hid hL2
 have HROW:=Lib.hid hrow
 have HX1:=Lib.hid hx1
 by_cases hb:isB c1 3 wEnd = true
 ·have HP:Hid (P = (on c1,[x1])):=Lib.hid (by rw [hP]; unfold bodyS; rw [← e1]; dsimp only; rw [if_pos hb])
  rw [hb,show take c1 3 wEnd = on c1 by unfold take; rw [if_pos hb]] at HT1
  rw [← hn]
  rw [← hn] at HROW
  clear hP hb h ok hrow hst hdead e1 k1 hx1 hK hi hz0 hz1 hz2 hL1 hL2 IH hs0 hc00 hn
  go_enter Tryz.func50,Tryz.ntmps50
  go_wp2_with (go_at_call 93; (with_reducible refine HD.out.mono ?_))
  rintro e x2 ⟨rfl,hc2,hb2⟩
  have HC2:=Lib.hid hc2
  have HR2:=Lib.hid (HROW.out.but hb2)
  clear hc2 hb2
  go_wp2_with (at_builtin; refine wpList_append_rowB rfl (.tmp 12) (.tmp 16) _ rfl i0 (.agg #[.string ByteArray.empty,.int .i64 0,.int .i64 0,.slice none 0 0,.slice none 0 0,.slice none 0 0]) 104 Tryz.underlying31 HI.out.1 HI.out.2.1 HI.out.2.2.1 HI.out.2.2.2 rfl (by decide) HR2.out ⟨x1,none,0,0,none,0,0,none,0,0⟩ (dep_nil x1 ⟨HX1.out.1,HX1.out.2.1,HX1.out.2.2.1⟩) rfl rfl rfl (spV_one _) HL1.out HL2.out ?_; intro p2 w2 hrow2 hcur2; have HR3:=Lib.hid hrow2; have HC3:=Lib.hid (hcur2 _ HC2.out); clear hrow2 hcur2)
  go_wp2_with (go_at_call 52; (with_reducible refine (HT1.out _ HC3.out).mono ?_))
  rintro e x4 ⟨rfl,hc4,hb4⟩
  have HC4:=Lib.hid hc4
  have HR4:=Lib.hid (HR3.out.but hb4)
  clear hc4 hb4
  go_wp2_with fail
  go_ret
  obtain ⟨A,cp,rfl⟩:=HR4.out.shape
  exact ⟨A,_,cp,[⟨x1,none,0,0,none,0,0,none,0,0⟩],rfl,by rw [HP.out]; exact HC4.out,by rw [HP.out]; rfl,HR4.out⟩
 ·obtain ⟨c2,e2⟩:∃ d,d = want c1 3 wOpen:=⟨_,rfl⟩
  have k2:To c c2:=e2 ▸ k1.trans (to_want _ _ _)
  obtain ⟨⟨c3,en⟩,e3⟩:∃ p,p = acX c2 wEnter:=⟨_,rfl⟩
  have k3:To c c3:=by have:=k2.trans (to_acX c2 wEnter); rw [← e3] at this; exact this
  obtain ⟨⟨c4,ex⟩,e4⟩:∃ p,p = acX c3 wExit:=⟨_,rfl⟩
  have k4:To c c4:=by have:=k3.trans (to_acX c3 wExit); rw [← e4] at this; exact this
  obtain ⟨⟨c5,tr⟩,e5⟩:∃ p,p = trX c4:=⟨_,rfl⟩
  have k5:To c c5:=by have:=k4.trans (to_trX c4); rw [← e5] at this; exact this
  have hins:insR c1 = (c5,en,ex,tr):=by unfold insR; rw [← e2,← e3]; dsimp only; rw [← e4]; dsimp only; rw [← e5]
  obtain ⟨F,hF⟩:∃ F,F = if x1.kind = 1 then (c5,[]) else K c5:=⟨_,rfl⟩
  have HP:Hid (P = (want F.1 3 wShut,⟨x1.s,x1.kind,x1.par,en,ex,tr⟩ :: F.2)):=Lib.hid (by
   rw [hP]
   unfold bodyS
   rw [← e1]
   dsimp only
   rw [if_neg hb,hins,hF]
   by_cases h1:x1.kind = 1
   ·rw [if_pos h1,if_pos h1]; rfl
   ·rw [if_neg h1,if_neg h1]; rfl)
  have HWO:=Lib.hid (fun W (hW:CurAt W B c1) => want_at B c1 3 wOpen W hW)
  have HEN:=Lib.hid (fun W (hs:SignsIn W) (hW:CurAt W B c2) => readActs_at B c2 wEnter W hs hW (k2.ok ok))
  have HEX:=Lib.hid (fun W (hs:SignsIn W) (hW:CurAt W B c3) => readActs_at B c3 wExit W hs hW (k3.ok ok))
  have HTR:=Lib.hid (fun W (hs:SignsIn W) (hW:CurAt W B c4) => readTrans_at B c4 W hs hW (k4.ok ok))
  have HWS:=Lib.hid (fun W (hW:CurAt W B F.1) => want_at B F.1 3 wShut W hW)
  rw [← e2] at HWO
  rw [← e3] at HEN
  rw [← e4] at HEX
  rw [← e5] at HTR
  rw [show isB c1 3 wEnd = false by simpa using hb,show take c1 3 wEnd = c1 by unfold take; rw [if_neg hb]] at HT1
  have HOK5:=Lib.hid (k5.ok ok)
  have HDEAD:=Lib.hid (fun h0 => k5.bad (hdead h0))
  have HFEW:=Lib.hid (hst.few.to k5)
  have HKF:Hid (x1.kind ≠ 1 → loopT qS (stS (stR (k - 1)) (k - 1) ps.length) c5 [] = F):=Lib.hid fun h1 => by rw [hF,if_neg h1,hK]; rfl
  have HKL:Hid (x1.kind = 1 → F = (c5,[])):=Lib.hid fun h1 => by rw [hF,if_pos h1]
  rw [← hn]
  rw [← hn] at HROW
  clear hP hb h ok hrow hst hdead e1 k1 hx1 hK hi hz0 hz1 hz2 hL1 hL2 hs0 hc00 hn e2 k2 e3 k3 e4 k4 e5 k5 hins hF
  go_enter Tryz.func50,Tryz.ntmps50
  go_wp2_with (go_at_call 93; (with_reducible refine HD.out.mono ?_))
  rintro e x2 ⟨rfl,hc2,hb2⟩
  have HC2:=Lib.hid hc2
  have HR2:=Lib.hid (HROW.out.but hb2)
  clear hc2 hb2
  go_wp2_with (at_builtin; refine wpList_append_rowB rfl (.tmp 12) (.tmp 16) _ rfl i0 (.agg #[.string ByteArray.empty,.int .i64 0,.int .i64 0,.slice none 0 0,.slice none 0 0,.slice none 0 0]) 104 Tryz.underlying31 HI.out.1 HI.out.2.1 HI.out.2.2.1 HI.out.2.2.2 rfl (by decide) HR2.out ⟨x1,none,0,0,none,0,0,none,0,0⟩ (dep_nil x1 ⟨HX1.out.1,HX1.out.2.1,HX1.out.2.2.1⟩) rfl rfl rfl (spV_one _) HL1.out HL2.out ?_; intro p2 w2 hrow2 hcur2; have HR3:=Lib.hid hrow2; have HC3:=Lib.hid (hcur2 _ HC2.out); clear hrow2 hcur2)
  go_wp2_with (go_at_call 52; (with_reducible refine (HT1.out _ HC3.out).mono ?_))
  rintro e x4 ⟨rfl,hc4,hb4⟩
  have HC4:=Lib.hid hc4
  have hr4:=HR3.out.but hb4
  clear hc4 hb4
  obtain ⟨A,cp,rfl⟩:=hr4.shape
  obtain ⟨hN,g,rfl,hcap⟩:=row_at hr4
  obtain ⟨N,hNN⟩:∃ N,N = (ps ++ [(⟨x1,none,0,0,none,0,0,none,0,0⟩:SP)]).length:=⟨_,rfl⟩
  rw [← hNN] at hr4 hcap ⊢
  have hNn:N = n + 1:=by rw [hNN,HN.out]; simp
  subst hNn
  have HR4:=Lib.hid hr4
  clear hr4 hN hNN
  go_wp2_with (go_at_call 21; (with_reducible refine (HWO.out _ HC4.out).mono ?_))
  rintro e x5 ⟨rfl,hc5,hb5⟩
  have HC5:=Lib.hid hc5
  have HR5:=Lib.hid (HR4.out.but hb5)
  clear hc5 hb5
  go_wp2_with (go_at_call 94; (with_reducible refine (HEN.out _ (HSG.out _ HR5.out.grown) HC5.out).mono ?_))
  rintro e x6 ⟨A3,n3,c3,rfl,hc6,hf6,hb6⟩
  have HC6:=Lib.hid hc6
  have HR6:=Lib.hid (HR5.out.but hb6)
  have HF6:=Lib.hid (row_fresh HR5.out hf6)
  clear hc6 hf6 hb6
  obtain ⟨q1,q3,q4,q5,f0⟩:=row_cells HR6.out
  rw [← HN.out] at q1 q3 q4 q5
  have HRS6:=Lib.hid (row_set (p':=⟨⟨x1.s,x1.kind,x1.par,en,x1.ex,x1.tr⟩,A3,n3,c3,none,0,0,none,0,0⟩) (u:=.slice A3 n3 c3) HR6.out (by decide:3 < 6) rfl (HF6.out.and (row_mid HR6.out) |>.imp fun _ hx => ⟨hx.1,hx.2.2.1,hx.2.2.2⟩))
  rw [← HN.out] at HRS6
  have HCS6:=Lib.hid (HR6.out.setCur (i:=n * 6 + 3) (u:=.slice A3 n3 c3) HC6.out)
  go_wp2_with (go_at_call 94; (with_reducible refine (HEX.out _ (HSG.out _ HRS6.out.grown) HCS6.out).mono ?_))
  rintro e x7 ⟨A4,n4,c4',rfl,hc7,hf7,hb7⟩
  have HC7:=Lib.hid hc7
  have HR7:=Lib.hid (HRS6.out.but hb7)
  have HF7:=Lib.hid (row_fresh HRS6.out hf7)
  clear hc7 hf7 hb7 q1 q3 q4 q5 f0 HR6 HF6 HC6 HRS6 HCS6
  obtain ⟨q1,q3,q4,q5,f0⟩:=row_cells HR7.out
  rw [← HN.out] at q1 q3 q4 q5
  have HRS7:=Lib.hid (row_set (p':=⟨⟨x1.s,x1.kind,x1.par,en,ex,x1.tr⟩,A3,n3,c3,A4,n4,c4',none,0,0⟩) (u:=.slice A4 n4 c4') HR7.out (by decide:4 < 6) rfl (HF7.out.and (row_mid HR7.out) |>.imp fun _ hx => ⟨hx.2.1,hx.1,hx.2.2.2⟩))
  rw [← HN.out] at HRS7
  have HCS7:=Lib.hid (HR7.out.setCur (i:=n * 6 + 4) (u:=.slice A4 n4 c4') HC7.out)
  go_wp2_with (go_at_call 95; (with_reducible refine (HTR.out _ (HSG.out _ HRS7.out.grown) HCS7.out).mono ?_))
  rintro e x8 ⟨A5,n5,c5',rfl,hc8,hf8,hb8⟩
  have HC8:=Lib.hid hc8
  have HR8:=Lib.hid (HRS7.out.but hb8)
  have HF8:=Lib.hid (row_fresh HRS7.out hf8)
  clear hc8 hf8 hb8 q1 q3 q4 q5 f0 HR7 HF7 HC7 HRS7 HCS7
  obtain ⟨q1,q3,q4,q5,f0⟩:=row_cells HR8.out
  rw [← HN.out] at q1 q3 q4 q5
  obtain ⟨p,hp⟩:∃ p:SP,p = ⟨⟨x1.s,x1.kind,x1.par,en,ex,tr⟩,A3,n3,c3,A4,n4,c4',A5,n5,c5'⟩:=⟨_,rfl⟩
  have hrs8:=row_set (p':=p) (u:=.slice A5 n5 c5') HR8.out (by decide:5 < 6) (by rw [hp]; rfl) (by rw [hp]; exact (HF8.out.and (row_mid HR8.out) |>.imp fun _ hx => ⟨hx.2.1,hx.2.2.1,hx.1⟩))
  have hcs8:=HR8.out.setCur (i:=ps.length * 6 + 5) (u:=.slice A5 n5 c5') HC8.out
  have HPX:Hid (p.x = ⟨x1.s,x1.kind,x1.par,en,ex,tr⟩):=Lib.hid (by rw [hp])
  have HKD:Hid (p.x.kind = x1.kind):=Lib.hid (by rw [hp])
  clear hp
  have HST:Hid (StRel W0 B k ps p F (left c5) (.slice (some ⟨g,0,none⟩) (n + 1) cp) (x8.setCell ⟨g,n * 6 + 5,none⟩ (.slice A5 n5 c5'))):=Lib.hid
   ⟨c5,[],Nat.le_refl _,HOK5.out,by rw [HN.out]; exact hcs8,by rw [HN.out]; rw [HN.out] at hrs8; exact hrs8,HFEW.out,HDEAD.out,fun h => ⟨rfl,HKL.out (HKD.out ▸ h)⟩,fun h => HKF.out (HKD.out ▸ h)⟩
  clear hrs8 hcs8
  clear HR8 HF8 HC8 HKF HKL HFEW HDEAD HOK5 HR2 HC2 HR3 HC3 HR4 HC4 HR5 HC5 HD HT1 HWO HEN HEX HTR HROW HX1 HL1 HL2
  go_wp2_with fail
  clear q1 q3 q4 q5 f0
  go_loopg [1] (left c5) (fun gh pv wr => StRel W0 B k ps p F gh pv wr)
  case atStart => exact HST.out
  case round =>
   obtain ⟨d,qs,hgh,hokd,hcur,hrow,hfew,hdead,hleaf,hgo⟩:=hrel
   obtain ⟨A,cp2,rfl⟩:=hrow.shape
   obtain ⟨hN2,g2,rfl,hcap2⟩:=row_at hrow
   obtain ⟨M,hM⟩:∃ M,M = (ps ++ p :: qs).length:=⟨_,rfl⟩
   have HM:Hid (M = n + 1 + (qs.map (·.x)).length):=Lib.hid (by rw [hM,HN.out]; simp; omega)
   rw [← hM] at hrow hcap2 ⊢
   have hnM:n < M:=by have:=HM.out; omega
   have HROWD:=Lib.hid hrow
   have HCURD:=Lib.hid hcur
   obtain ⟨q1,q3,q4,q5,f0⟩:=row_cells hrow
   rw [← HN.out] at q1
   clear q3 q4 q5 f0 hN2
   by_cases h1:p.x.kind = 1
   ·have HFE:=Lib.hid (hleaf h1)
    have g1:(p.x.kind != 1) = false:=by simp [h1]
    have HCF:Hid (CurAt wr B F.1):=Lib.hid (by rw [HFE.out.2]; exact hcur)
    clear hleaf hgo hfew hdead hokd hgh hrow hcur hM
    go_wp2_with (go_at_call 21; (with_reducible refine (HWS.out _ HCF.out).mono ?_))
    rintro e y9 ⟨rfl,hc9,hb9⟩
    have HC9:=Lib.hid hc9
    have HR9:=Lib.hid (HROWD.out.but hb9)
    clear hc9 hb9
    go_wp2_with fail
    go_ret
    refine ⟨_,_,_,[p],rfl,by rw [HP.out]; exact HC9.out,?_,?_⟩
    ·rw [HP.out,HFE.out.2,← HPX.out]; rfl
    ·have:=HR9.out
     rw [HFE.out.1] at this
     exact this
   ·have g1:(p.x.kind != 1) = true:=by simp [h1]
    have HNL:=Lib.hid h1
    have HLO:=Lib.hid (hgo h1)
    have HIS:=Lib.hid (fun b (hb:qS d = b) => isState_at B d wr hcur hb)
    clear hleaf hgo h1
    by_cases hq:qS d = true
    ·have h0:=(qS_real hq).1
     obtain ⟨k',hk'⟩:∃ k',k = k' + 1:=by
      cases k with
      | zero => exact absurd h0 (hdead rfl)
      | succ k' => exact ⟨k',rfl⟩
     have hk1:k - 1 = k':=by omega
     rw [hk1] at HLO
     have hki:(13:Int) - (k:Int) + 1 = 13 - (k':Int):=by omega
     obtain ⟨r,hr⟩:∃ r,r = SynSpec.room (M:Int) (13 - (k:Int) + 1):=⟨_,rfl⟩
     have HRM:=Lib.hid (fun W => room_any (M:Int) (13 - (k:Int) + 1) W (r:=r) hr.symm)
     have hrr:r = SynSpec.room ((ps.length + 1 + (qs.map (·.x)).length:Nat):Int) (13 - (k':Int)):=by rw [hr,hki,HM.out,HN.out]
     have HFA:=Lib.hid (fun W (hW:CurAt W B d) => fail_at B d r W hW)
     obtain ⟨D,hD⟩:∃ D,D = fail d r:=⟨_,rfl⟩
     rw [← hD] at HFA
     have hstp:stS (stR k') k' ps.length d (qs.map (·.x)) = ((stR k' M n D).1,(qs.map (·.x)) ++ (stR k' M n D).2):=by unfold stS; rw [← hrr,← hD,← HN.out,← HM.out]
     have hfw:=few_stS (k:=k') (few_stR k') hq hfew
     rw [hstp,← hrr,← hD,← HN.out,← HM.out] at hfw
     have HFW:=Lib.hid hfw.2
     have hstart:=hfw.1
     have hLS:=left_less (goes_S k' ps.length) (qs.map (·.x)) hq
     rw [hstp] at hLS
     have HT2:=Lib.hid (loopT_yes (goes_S k' ps.length) (out:=qs.map (·.x)) hq)
     rw [hstp] at HT2
     have hDd:k' = 0 → D.bad ≠ 0:=fun h0' => by
      rw [hD,hrr]
      refine fail_bad d ?_
      rw [h0']
      unfold SynSpec.room
      split <;> decide
     have hDok:Ok D:=hD ▸ hokd.fail r
     have HREC:=Lib.hid (fun W (hc:CurAt W B D) (hr:RowP W0 B W (.slice (some ⟨g2,0,none⟩) M cp2) (ps ++ p :: qs)) => by
      have:=IH k' hk' D (ps ++ p :: qs) n (some ⟨g2,0,none⟩) cp2 W hc hDok (hM ▸ hr) (hM ▸ hstart) hDd
      rw [← hM,← hki] at this
      exact this)
     have HTO:=Lib.hid (to_stR k' M n D)
     have HOKR:=Lib.hid ((to_stR k' M n D).ok hDok)
     obtain ⟨⟨c9,R⟩,hR⟩:∃ R,R = stR k' M n D:=⟨_,rfl⟩
     rw [← hR] at HREC HTO HFW HT2 hLS HOKR
     have HLS:=Lib.hid hLS
     have HGH:=Lib.hid hgh
     have HKK:=Lib.hid hk'
     have HIS2:=Lib.hid (HIS.out true hq)
     clear hgh hokd hfew hdead hrow hcur hM hk1 hki hr hrr hD hstp hfw hstart hLS hDd hDok hR hq h0 hk' HIS IH
     go_wp2_with (go_at_call 96; (with_reducible refine HIS2.out.mono ?_))
     rintro e y1 ⟨rfl,hb1⟩
     have HC1:=Lib.hid (HCURD.out.keep hb1)
     have HR1:=Lib.hid (HROWD.out.keep hb1)
     clear hb1
     go_wp2_with (go_at_call 97; (with_reducible refine (HRM.out _).mono ?_))
     rintro e y2 ⟨rfl,rfl⟩
     go_wp2_with (go_at_call 53; (with_reducible refine (HFA.out _ HC1.out).mono ?_))
     rintro e y3 ⟨rfl,hc3,hb3⟩
     have HC3:=Lib.hid hc3
     have HR3:=Lib.hid (HR1.out.but hb3)
     clear hc3 hb3
     go_wp2_with (go_at_call 50; (with_reducible refine (HREC.out _ HC3.out HR3.out).mono ?_))
     rintro e y4 ⟨A4,M4,cp4,qs4,rfl,hc4,hm4,hr4⟩
     have HC4:=Lib.hid hc4
     have HR4:=Lib.hid hr4
     have HM4:=Lib.hid hm4
     clear hc4 hr4 hm4
     go_wp2_with fail
     go_roundg (left c9)
     case measure => have h1:=HLS.out; have h3:=HGH.out; omega
     case rel =>
      refine ⟨c9,qs ++ qs4,Nat.le_refl _,HOKR.out,HC4.out,?_,?_,fun h0 => ?_,fun h1 => absurd h1 HNL.out,fun _ => ?_⟩
      ·have:=HR4.out
       rw [List.append_assoc,List.cons_append] at this
       exact this
      ·rw [List.map_append,HM4.out,← HN.out]
       exact HFW.out
      ·have:=HKK.out
       omega
      ·rw [List.map_append,HM4.out,show k - 1 = _ from (by have:=HKK.out; omega:k - 1 = k'),← HLO.out,HT2.out]
    ·have HFE:Hid (F = (d,qs.map (·.x))):=Lib.hid (by rw [← HLO.out,loopT_no hq])
     have HIS2:=Lib.hid (HIS.out false (by simpa using hq))
     clear hgh hokd hfew hdead hrow hcur hM hq HIS IH
     go_wp2_with (go_at_call 96; (with_reducible refine HIS2.out.mono ?_))
     rintro e y1 ⟨rfl,hb1⟩
     have HC1:Hid (CurAt y1 B F.1):=Lib.hid (by rw [HFE.out]; exact HCURD.out.keep hb1)
     have HR1:=Lib.hid (HROWD.out.keep hb1)
     clear hb1
     go_wp2_with (go_at_call 21; (with_reducible refine (HWS.out _ HC1.out).mono ?_))
     rintro e y9 ⟨rfl,hc9,hb9⟩
     have HC9:=Lib.hid hc9
     have HR9:=Lib.hid (HR1.out.but hb9)
     clear hc9 hb9
     go_wp2_with fail
     go_ret
     refine ⟨_,_,_,p :: qs,rfl,by rw [HP.out]; exact HC9.out,?_,HR9.out⟩
     rw [HP.out,HFE.out,← HPX.out]
     rfl
theorem readState_at (W0:World) (B:Nat) (hs0:SignsIn W0) {c00:Cur} (hc00:CurAt W0 B c00):∀ k,k ≤ 12 → StateOk W0 B k
 | 0,_ => state_body W0 B 0 (by omega) hs0 hc00 (fun k' h => by omega)
 | k + 1,hk => state_body W0 B (k + 1) hk hs0 hc00 (fun k' h => by obtain rfl:k' = k:=(by omega); exact readState_at W0 B hs0 hc00 k' (by omega))
end Go.Proofs.YtjfghaohogcfbaaGreatDoor
namespace Go.Proofs.YtjfghaohogcfbaaGreatDoor
open Go.RowKit CurSpec TermSpec EvalSpec ActSpec NamesSpec ExprSpec TransSpec SynSpec
set_option maxRecDepth 100000
def VrRel (W:World) (B:Nat) (F:Cur × List Vr) (gh:Nat) (pv:Value) (wr:World):Prop :=
 ∃ (c:Cur) (ps:List Vr),left c ≤ gh ∧ Ok c ∧ CurAt wr B c ∧ RowB 53 4 vrV (fun _ _ => True) W B wr pv ps ∧ SynSpec.Few 4 c (ps) ∧ loopT qV stV c (ps) = F
set_option maxHeartbeats 8000000 in
theorem readVars_at (B:Nat) (c:Cur) (w:World) (h:CurAt w B c) (ok:Ok c):Calls Tryz.prog 49 #[.pointer (some ⟨B,0,none⟩)] w (RetD RdV w B (vaR c)):=by
 have hB:=h.lt
 obtain ⟨i0,hi,hz0,hz1,hz2⟩:=info_parts inf_var
 have HI:=Lib.hid (And.intro hi (And.intro hz0 (And.intro hz1 hz2)))
 obtain ⟨F,hF⟩:∃ F,F = vaR c:=⟨_,rfl⟩
 rw [← hF]
 have HST:Hid (VrRel w B F (left c) (.slice none 0 0) w):=Lib.hid ⟨c,[],Nat.le_refl _,ok,h,RowB.nil (but_refl _ _) hB,⟨by simp,fun h => by simp at h⟩,hF.symm⟩
 have HBB:=Lib.hid hB
 clear h ok hF hi hz0 hz1 hz2
 go_enter Tryz.func49,Tryz.ntmps49
 go_wp2_with fail
 go_loopg [3] (left c) (fun gh pv wr => VrRel w B F gh pv wr)
 case atStart => exact HST.out
 case round =>
  obtain ⟨d,ps,hgh,hok,hcur,hrow,hfew,htail⟩:=hrel
  have HGH:=Lib.hid hgh
  have HROW:=Lib.hid hrow
  have HTAIL:=Lib.hid htail
  have HCUR:=Lib.hid hcur
  have HIW:=Lib.hid (fun s W b (hW:CurAt W B d) (hb:isB d 1 s = b) => isWord_at B d s W hW hb)
  obtain ⟨pA,pc,rfl⟩:=hrow.shape
  obtain ⟨n,hn⟩:∃ n,n = ps.length:=⟨_,rfl⟩
  rw [← hn]
  rw [← hn] at HROW
  by_cases hb:qV d = true
  ·have HLS:=Lib.hid (left_less goes_V (ps) hb)
   have HFW:=Lib.hid (few_V hb hfew)
   have HT1:=Lib.hid (loopT_yes goes_V (out:=ps) hb)
   have h0:=(goes_V.real hb).1
   have h8:n ≤ 4:=by
    have hl:(ps).length = n:=by simp [hn]
    rcases Nat.lt_or_ge n (4 + 1) with h' | h'
    ·omega
    ·exact absurd h0 (hfew.2 (by have:=hfew.1; omega))
   have HOK2:=Lib.hid ((to_stV d (ps)).ok hok)
   have HD:Hid (stV d (ps) = ((varR (fullO 4 d (ps))).1,(ps) ++ [(varR (fullO 4 d (ps))).2])):=Lib.hid rfl
   have HOKD:=Lib.hid ((to_fullO 4 d (ps)).ok hok)
   have HFU:Hid (fullO 4 d (ps) = if n = 4 then fail d 8 else d):=Lib.hid (by unfold fullO; rw [show (ps).length = n by simp [hn]])
   obtain ⟨D,hD⟩:∃ D,D = fullO 4 d (ps):=⟨_,rfl⟩
   rw [← hD] at HD HOKD HFU
   have HRV:=Lib.hid (fun W (hW:CurAt W B D) => readVar_at B D W hW HOKD.out)
   obtain ⟨⟨c4,v4⟩,h4⟩:∃ q,q = varR D:=⟨_,rfl⟩
   rw [← h4] at HD HRV
   rw [HD.out] at HLS HFW HOK2 HT1
   have HL1:Hid (ps.length + 1 ≤ maxLen):=Lib.hid (by unfold maxLen; omega)
   have HL2:Hid ((ps.length + 1) * 40 ≤ 140737488355328):=Lib.hid (by omega)
   have HFA:=Lib.hid (fun W (hW:CurAt W B d) => fail_at B d 8 W hW)
   have HHB:=Lib.hid hb
   clear hgh hok hfew htail h0 hD h4
   clear hb
   have HW1:Hid (isB d 1 wVar = true):=HHB
   by_cases h8e:n = 4
   ·have g1:((n:Int) == 4) = true:=by simp; omega
    have g1':(n == 4) = true:=by simp; omega
    have HFD:Hid (D = fail d 8):=Lib.hid (by rw [HFU.out,if_pos h8e])
    clear h8e h8 hn hrow hcur
    go_wp2_with (go_at_call 91; (with_reducible refine (HIW.out wVar _ true HCUR.out HW1.out).mono ?_))
    rintro e x30 ⟨rfl,hb3⟩
    have HC3:=Lib.hid (HCUR.out.keep hb3)
    have HR3:=Lib.hid (HROW.out.keep hb3)
    clear hb3
    go_wp2_with (go_at_call 53; (with_reducible refine (HFA.out _ HC3.out).mono ?_))
    rintro e x6 ⟨rfl,hc6,hb6⟩
    rw [← HFD.out] at hc6
    have HCD:=Lib.hid hc6
    have HRW:=Lib.hid (HR3.out.but hb6)
    clear hc6 hb6
    go_wp2_with (go_at_call 92; (with_reducible refine (HRV.out _ HCD.out).mono ?_))
    rintro e x7 ⟨rfl,hc7,hb7⟩
    have HC7:=Lib.hid hc7
    have HR7:=Lib.hid (HRW.out.but hb7)
    clear hc7 hb7
    go_wp2_with (at_builtin; refine wpList_append_rowB rfl (.tmp 11) (.tmp 14) _ rfl i0 (.agg #[.string ByteArray.empty,.int .i64 0,.int .i64 0,.int .i64 0]) 40 Tryz.underlying30 HI.out.1 HI.out.2.1 HI.out.2.2.1 HI.out.2.2.2 rfl (by decide) HR7.out v4 (Dep.triv fun _ => trivial) rfl rfl rfl (vrV_one _) HL1.out HL2.out ?_; intro p2 w2 hrow2 hcur2; have HR8:=Lib.hid hrow2; have HC8:=Lib.hid (hcur2 _ HC7.out); clear hrow2 hcur2)
    go_roundg (left c4)
    case measure => have h1:=HLS.out; have h3:=HGH.out; omega
    case rel => exact ⟨c4,ps ++ [v4],Nat.le_refl _,HOK2.out,HC8.out,HR8.out,HFW.out,by rw [← HTAIL.out,HT1.out]⟩
   ·have g1:((n:Int) == 4) = false:=by simp; omega
    have g1':(n == 4) = false:=by simp; omega
    have HFD:Hid (D = d):=Lib.hid (by rw [HFU.out,if_neg h8e])
    clear h8e h8 hn hrow hcur
    go_wp2_with (go_at_call 91; (with_reducible refine (HIW.out wVar _ true HCUR.out HW1.out).mono ?_))
    rintro e x30 ⟨rfl,hb3⟩
    have HC3:=Lib.hid (HCUR.out.keep hb3)
    have HR3:=Lib.hid (HROW.out.keep hb3)
    clear hb3
    have HCD:=HC3
    rw [← HFD.out] at HCD
    have HRW:=HR3
    go_wp2_with (go_at_call 92; (with_reducible refine (HRV.out _ HCD.out).mono ?_))
    rintro e x7 ⟨rfl,hc7,hb7⟩
    have HC7:=Lib.hid hc7
    have HR7:=Lib.hid (HRW.out.but hb7)
    clear hc7 hb7
    go_wp2_with (at_builtin; refine wpList_append_rowB rfl (.tmp 11) (.tmp 14) _ rfl i0 (.agg #[.string ByteArray.empty,.int .i64 0,.int .i64 0,.int .i64 0]) 40 Tryz.underlying30 HI.out.1 HI.out.2.1 HI.out.2.2.1 HI.out.2.2.2 rfl (by decide) HR7.out v4 (Dep.triv fun _ => trivial) rfl rfl rfl (vrV_one _) HL1.out HL2.out ?_; intro p2 w2 hrow2 hcur2; have HR8:=Lib.hid hrow2; have HC8:=Lib.hid (hcur2 _ HC7.out); clear hrow2 hcur2)
    go_roundg (left c4)
    case measure => have h1:=HLS.out; have h3:=HGH.out; omega
    case rel => exact ⟨c4,ps ++ [v4],Nat.le_refl _,HOK2.out,HC8.out,HR8.out,HFW.out,by rw [← HTAIL.out,HT1.out]⟩
  ·have HFE:Hid (F = (d,ps)):=Lib.hid (by rw [← htail,loopT_no hb])
   have HHB:=Lib.hid hb
   clear hgh hok hfew htail hn hrow hcur hb
   have HW1:Hid (isB d 1 wVar = false):=Lib.hid (by simpa [qV] using HHB.out)
   go_wp2_with (go_at_call 91; (with_reducible refine (HIW.out wVar _ false HCUR.out HW1.out).mono ?_))
   rintro e x30 ⟨rfl,hb3⟩
   have HC3:=Lib.hid (HCUR.out.keep hb3)
   have HR3:=Lib.hid (HROW.out.keep hb3)
   clear hb3
   go_wp2_with fail
   go_ret
   refine ⟨pA,n,pc,rfl,by rw [HFE.out]; exact HC3.out,?_,HR3.out.grown⟩
   rw [HFE.out]
   exact HR3.out.far.imp fun x hx => hx.1
end Go.Proofs.YtjfghaohogcfbaaGreatDoor
namespace Go.Proofs.YtjfghaohogcfbaaGreatDoor
open Go.RowKit CurSpec TermSpec EvalSpec ActSpec NamesSpec ExprSpec TransSpec SynSpec
set_option maxRecDepth 100000
def StsP (w:World) (v:Value) (l:List Sx):Prop:=∃ ps:List SP,ps.map (·.x) = l ∧ Rdk 6 w v ps.length (ps.flatMap spV) ∧ ∀ p ∈ ps,spN p w
theorem spN_keep {p:SP} {w w':World} (h:spN p w) (hb:Below w.heap.size w w'):spN p w':=⟨h.1.keep hb,h.2.1.keep hb,h.2.2.keep hb⟩
theorem StsP.keep {w w':World} {v:Value} {l:List Sx} (h:StsP w v l) (hb:Below w.heap.size w w'):StsP w' v l:=by
 obtain ⟨ps,h1,h2,h3⟩:=h
 exact ⟨ps,h1,h2.keep hb,fun p hp => spN_keep (h3 p hp) hb⟩
theorem StsP.nil (w:World):StsP w (.slice none 0 0) []:=⟨[],rfl,Rdk.nil 6 w,by simp⟩
structure ChIn (w:World) (e v t:Value) (x:Cx):Prop where
 evs:RdS w e x.evs
 vars:RdV w v x.vars
 sts:StsP w t x.sts
theorem ChIn.keep {w w':World} {e v t:Value} {x:Cx} (h:ChIn w e v t x) (hb:Below w.heap.size w w'):ChIn w' e v t x:=⟨Rd.keep h.evs hb,Rdk.keep h.vars hb,h.sts.keep hb⟩
theorem ChIn.zero (w:World):ChIn w (.slice none 0 0) (.slice none 0 0) (.slice none 0 0) zeroC:=⟨Rd.nil w,Rdk.nil 4 w,StsP.nil w⟩
def RetCh (W:World) (B:Nat) (p:Cur × Cx) (e:Ending) (w':World):Prop :=
 ∃ eA en ec vA vn vc sA sn sc,e = .returned (.agg #[.string p.2.s,.slice eA en ec,.slice vA vn vc,.slice sA sn sc]) ∧ CurAt w' B p.1 ∧ Dep w' (fun b => W.heap.size ≤ b) (fun x => ChIn x (.slice eA en ec) (.slice vA vn vc) (.slice sA sn sc) p.2) ∧ W.grownBy w' (some B)
theorem cb_zero (w:World):(Instr.build 33 #[]).run Tryz.prog w = .ok (.agg #[.string ⟨#[]⟩,.slice none 0 0,.slice none 0 0,.slice none 0 0]) w:=run_build w 33 _ _ (by kernel_rfl)
set_option maxRecDepth 100000 in
set_option maxHeartbeats 8000000 in
theorem read_at_chart (B:Nat) (c:Cur) (w:World) (hs:SignsIn w) (h:CurAt w B c) (ok:Ok c):Calls Tryz.prog 20 #[.pointer (some ⟨B,0,none⟩)] w (RetCh w B (readC c)):=by
 have b1:=cb_zero
 have HSG:=Lib.hid (fun W (hW:w.grownBy W (some B)) => signs_but hs h hW)
 have H0:=Lib.hid (Rd4.start (T:=33) (z0:=.string ⟨#[]⟩) (z1:=.slice none 0 0) (z2:=.slice none 0 0) (z3:=.slice none 0 0) h)
 have HLT:=Lib.hid h.lt
 obtain ⟨c1,e1⟩:∃ d,d = want c 1 wChart:=⟨_,rfl⟩
 have k1:Ok c1:=e1 ▸ ok.want _ _
 obtain ⟨c2,e2⟩:∃ d,d = nameC c1:=⟨_,rfl⟩
 have k2:Ok c2:=e2 ▸ k1.nameC
 obtain ⟨s,es⟩:∃ s,s = nameS c1:=⟨_,rfl⟩
 obtain ⟨c3,e3⟩:∃ d,d = want c2 3 wOpen:=⟨_,rfl⟩
 have k3:Ok c3:=e3 ▸ k2.want _ _
 obtain ⟨⟨c4,evs⟩,e4⟩:∃ p,p = evR c3:=⟨_,rfl⟩
 have k4:Ok c4:=by have:=(to_evR c3).ok k3; rw [← e4] at this; exact this
 obtain ⟨⟨c5,vars⟩,e5⟩:∃ p,p = vaR c4:=⟨_,rfl⟩
 have k5:Ok c5:=by have:=(to_vaR c4).ok k4; rw [← e5] at this; exact this
 obtain ⟨⟨c6,sts⟩,e6⟩:∃ p,p = stR 12 0 (-1) c5:=⟨_,rfl⟩
 obtain ⟨c7,e7⟩:∃ d,d = want c6 3 wShut:=⟨_,rfl⟩
 have HP:Hid (readC c = (c7,if c7.bad = 0 then ⟨s,evs,vars,sts⟩ else zeroC)):=Lib.hid (by
  unfold readC seqC
  rw [← e1,← e2,← es,← e3,← e4]
  dsimp only
  rw [← e5]
  dsimp only
  rw [← e6]
  dsimp only
  rw [← e7])
 have HW1:=Lib.hid (fun W (hW:CurAt W B c) => want_at B c 1 wChart W hW)
 have HN2:=Lib.hid (fun W (hW:CurAt W B c1) => name_at B c1 k1 W hW)
 have HW3:=Lib.hid (fun W (hW:CurAt W B c2) => want_at B c2 3 wOpen W hW)
 have HE4:=Lib.hid (fun W (hW:CurAt W B c3) => readEvents_at B c3 W hW k3)
 have HV5:=Lib.hid (fun W (hW:CurAt W B c4) => readVars_at B c4 W hW k4)
 have HS6:Hid (∀ W,SignsIn W → CurAt W B c5 → Calls Tryz.prog 50 #[.pointer (some ⟨B,0,none⟩),.slice none 0 0,.int .i64 (-1),.int .i64 1] W (RetSts W B [] (stR 12 0 (-1) c5))) :=
  Lib.hid (fun W hs hW => readState_at W B hs hW 12 (Nat.le_refl _) c5 [] (-1) none 0 W hW k5 (RowB.nil (but_refl _ _) hW.lt) ⟨by decide,fun h => absurd h (by decide)⟩ (fun h => absurd h (by decide)))
 have HW7:=Lib.hid (fun W (hW:CurAt W B c6) => want_at B c6 3 wShut W hW)
 rw [← e1] at HW1
 rw [← e2,← es] at HN2
 rw [← e3] at HW3
 rw [← e4] at HE4
 rw [← e5] at HV5
 rw [← e6] at HS6
 rw [← e7] at HW7
 obtain ⟨P,hP⟩:∃ P,P = readC c:=⟨_,rfl⟩
 rw [← hP] at HP ⊢
 clear e1 e2 es e3 e4 e5 e6 e7 k1 k2 k3 k4 k5 hP h ok hs
 go_enter Tryz.func20,Tryz.ntmps20
 go_wp2_with (go_at_call 21; (with_reducible refine (HW1.out _ H0.out.cur).mono ?_))
 rintro e x1 ⟨rfl,hc,hb⟩
 have H1:=Lib.hid (H0.out.but hb hc)
 clear hc hb H0
 go_wp2_with (go_at_call 47; (with_reducible refine (HN2.out _ H1.out.cur).mono ?_))
 rintro e x2 ⟨rfl,hc,hb⟩
 have H2:=Lib.hid (H1.out.but hb hc)
 clear hc hb H1
 have H2s:=Lib.hid (H2.out.set 0 (.string s) rfl)
 obtain ⟨f0,f1,f2,f3⟩:=free_4 H2.out.blk
 obtain ⟨q0,q1,q2,q3⟩:=cells_4 H2.out.blk
 go_wp2_with (go_at_call 21; (with_reducible refine (HW3.out _ H2s.out.cur).mono ?_))
 rintro e x3 ⟨rfl,hc,hb⟩
 have H3:=Lib.hid (H2s.out.but hb hc)
 clear hc hb H2 H2s f0 f1 f2 f3 q0 q1 q2 q3
 go_wp2_with (go_at_call 48; (with_reducible refine (HE4.out _ H3.out.cur).mono ?_))
 rintro e x4 ⟨eA,en,ec,rfl,hc,hd,hb⟩
 have H4:=Lib.hid (H3.out.but hb hc)
 have HDE:=Lib.hid (hd.mono (S':=fun b => w.heap.size + 2 ≤ b) fun b _ hb => Nat.le_trans H3.out.size hb)
 clear hc hb hd H3
 have H4s:=Lib.hid (H4.out.set 1 (.slice eA en ec) rfl)
 have HDE4:=Lib.hid (HDE.out.go (Rd4.store (W:=w) (wx:=x4) 1 (.slice eA en ec)) (fun b hS e => by injection e with e; omega))
 obtain ⟨f0,f1,f2,f3⟩:=free_4 H4.out.blk
 obtain ⟨q0,q1,q2,q3⟩:=cells_4 H4.out.blk
 go_wp2_with (go_at_call 49; (with_reducible refine (HV5.out _ H4s.out.cur).mono ?_))
 rintro e x5 ⟨vA,vn,vc,rfl,hc,hd,hb⟩
 have H5:=Lib.hid (H4s.out.but hb hc)
 have HDV:=Lib.hid (hd.mono (S':=fun b => w.heap.size + 2 ≤ b) fun b _ hb => Nat.le_trans H4s.out.size hb)
 have HDE5:=Lib.hid (HDE4.out.go hb (fun b hS e => by injection e with e; have:=HLT.out; omega))
 clear hc hb hd H4 H4s HDE HDE4 f0 f1 f2 f3 q0 q1 q2 q3
 have H5s:=Lib.hid (H5.out.set 2 (.slice vA vn vc) rfl)
 have HD5:=Lib.hid ((HDE5.out.and HDV.out).go (Rd4.store (W:=w) (wx:=x5) 2 (.slice vA vn vc)) (fun b hS e => by injection e with e; omega))
 obtain ⟨f0,f1,f2,f3⟩:=free_4 H5.out.blk
 obtain ⟨q0,q1,q2,q3⟩:=cells_4 H5.out.blk
 go_wp2_with (go_at_call 50; (with_reducible refine (HS6.out _ (HSG.out _ H5s.out.grown) H5s.out.cur).mono ?_))
 rintro e x6 ⟨sA,sn,sc,qs,rfl,hc,hm,hr⟩
 have H6:=Lib.hid (H5s.out.but hr.grown hc)
 have HD6:=Lib.hid ((HD5.out.go hr.grown (fun b hS e => by injection e with e; have:=HLT.out; omega)).and (hr.far.mono (S':=fun b => w.heap.size + 2 ≤ b) fun b _ hb => Nat.le_trans H5s.out.size hb))
 have HM:=Lib.hid hm
 clear hc hr hm H5 H5s HDE5 HDV HD5 f0 f1 f2 f3 q0 q1 q2 q3
 have H6s:=Lib.hid (H6.out.set 3 (.slice sA sn sc) rfl)
 have HD6s:=Lib.hid (HD6.out.go (Rd4.store (W:=w) (wx:=x6) 3 (.slice sA sn sc)) (fun b hS e => by injection e with e; omega))
 obtain ⟨f0,f1,f2,f3⟩:=free_4 H6.out.blk
 obtain ⟨q0,q1,q2,q3⟩:=cells_4 H6.out.blk
 go_wp2_with (go_at_call 21; (with_reducible refine (HW7.out _ H6s.out.cur).mono ?_))
 rintro e x7 ⟨rfl,hc,hb⟩
 have H7:=Lib.hid (H6s.out.but hb hc)
 have HD7:=Lib.hid (HD6s.out.go hb (fun b hS e => by injection e with e; have:=HLT.out; omega))
 clear hc hb H6 H6s HD6 HD6s f0 f1 f2 f3 q0 q1 q2 q3
 have HGOOD:=Lib.hid (fun b hb => good_any _ _ _ _ x7 (Fl.of H7.out.cur) (b:=b) hb)
 by_cases h0:c7.bad = 0
 ·have HP2:Hid (P = (c7,⟨s,evs,vars,sts⟩)):=Lib.hid (by rw [HP.out,if_pos h0])
  have HGD:=Lib.hid (HGOOD.out true (by simpa using h0))
  clear h0 HGOOD HP
  go_wp2_with (go_at_call 51; (with_reducible refine HGD.out.mono ?_))
  rintro e y6 ⟨rfl,hb6⟩
  have HX:=Lib.hid (H7.out.keep hb6)
  have HDX:=Lib.hid (HD7.out.keep hb6)
  clear hb6
  obtain ⟨q0,q1,q2,q3⟩:=cells_4 HX.out.blk
  obtain ⟨r0,r1,r2,r3⟩:=cells_4 HX.out.res
  obtain ⟨f0,f1,f2,f3⟩:=free_4 HX.out.res
  have HD:=Lib.hid (HX.out.done (.string s) (.slice eA en ec) (.slice vA vn vc) (.slice sA sn sc))
  go_wp2_with fail
  obtain ⟨p0,p1,p2,p3⟩:=store_four HX.out.res (.string s) (.slice eA en ec) (.slice vA vn vc) (.slice sA sn sc)
  refine bodyPost_ret (v:=.agg #[.string s,.slice eA en ec,.slice vA vn vc,.slice sA sn sc]) (by simp [results,Tryz.results20,go_sem,p0,p1,p2,p3]) rfl ?_
  have hf:=(HDX.out.go HD.out (fun b hS e => by injection e with e; omega)).mono (S':=fun b => w.heap.size ≤ b) (fun b _ hb => by omega)
  refine ⟨eA,en,ec,vA,vn,vc,sA,sn,sc,by rw [HP2.out],by rw [HP2.out]; exact HX.out.cur.own HD.out HX.out.lt,?_,grown_new HX.out.grown HD.out⟩
  rw [HP2.out]
  exact hf.imp fun x hx => ⟨hx.1.1,hx.1.2,qs,HM.out,hx.2⟩
 ·have HP2:Hid (P = (c7,zeroC)):=Lib.hid (by rw [HP.out,if_neg h0])
  have HGD:=Lib.hid (HGOOD.out false (by simpa using h0))
  clear h0 HGOOD HP
  go_wp2_with (go_at_call 51; (with_reducible refine HGD.out.mono ?_))
  rintro e y6 ⟨rfl,hb6⟩
  have HX:=Lib.hid (H7.out.keep hb6)
  clear hb6
  obtain ⟨r0,r1,r2,r3⟩:=cells_4 HX.out.res
  obtain ⟨f0,f1,f2,f3⟩:=free_4 HX.out.res
  have HD:=Lib.hid (HX.out.done (.string ⟨#[]⟩) (.slice none 0 0) (.slice none 0 0) (.slice none 0 0))
  go_wp2_with fail
  obtain ⟨p0,p1,p2,p3⟩:=store_four HX.out.res (.string ⟨#[]⟩) (.slice none 0 0) (.slice none 0 0) (.slice none 0 0)
  refine bodyPost_ret (v:=.agg #[.string ⟨#[]⟩,.slice none 0 0,.slice none 0 0,.slice none 0 0]) (by simp [results,Tryz.results20,go_sem,p0,p1,p2,p3]) rfl ?_
  refine ⟨none,0,0,none,0,0,none,0,0,by rw [HP2.out],by rw [HP2.out]; exact HX.out.cur.own HD.out HX.out.lt,?_,grown_new HX.out.grown HD.out⟩
  rw [HP2.out]
  exact Dep.triv ChIn.zero
end Go.Proofs.YtjfghaohogcfbaaGreatDoor