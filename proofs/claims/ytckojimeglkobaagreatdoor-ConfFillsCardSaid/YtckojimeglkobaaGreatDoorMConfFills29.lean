/- PrintMayS, PrintMayC, joined. -/
import Derived.Test.YtckojimeglkobaaGreatDoorMConfFills28
namespace Go.Proofs.YtckojimeglkobaaGreatDoor
open Go.RowKit Go.Sort CurSpec TermSpec EvalSpec ActSpec NamesSpec ExprSpec TransSpec SynSpec PrintSpec
set_option maxRecDepth 100000
def FitS (s:Sx):Prop:=s.s.size ≤ 9223372036854775807 ∧ (∀ a ∈ s.en,SmallA a) ∧ s.en.length ≤ 100000 ∧ (∀ a ∈ s.ex,SmallA a) ∧ s.ex.length ≤ 100000 ∧ s.tr.length ≤ 100000 ∧ ∀ t ∈ s.tr,SmallT t
set_option maxHeartbeats 4000000 in
theorem mayState_any (s:Sx) (a3:Option Addr) (n3 m3:Nat) (a4:Option Addr) (n4 m4:Nat) (a5:Option Addr) (n5 m5:Nat) (w:World) (k3:Acs w (.slice a3 n3 m3) s.en) (k4:Acs w (.slice a4 n4 m4) s.ex) (k5:Trs w (.slice a5 n5 m5) s.tr) (hf:FitS s) :
 Calls Tryz.prog 108 #[.agg #[.string s.s,.int .i64 s.kind,.int .i64 s.par,.slice a3 n3 m3,.slice a4 n4 m4,.slice a5 n5 m5]] w (RetB w (okS s)):=by
 obtain ⟨nm,kind,par,en,ex,tr⟩:=s
 obtain ⟨f0,f1,f2,f3,f4,f5,f6⟩:=hf
 have l5:=k5.len.1
 simp only at f0 f1 f2 f3 f4 f5 f6 k3 k4 k5 l5
 have hOS:okS ⟨nm,kind,par,en,ex,tr⟩ = (isName nm.data.toList && (decide (chkA en = 0) && (decide (chkA ex = 0) && (decide (tr.length ≤ 16) && tr.all fun t => decide (chkT t = 0))))):=rfl
 obtain ⟨W1,hW1⟩:∃ W1,w.alloc (.cells #[.string nm,.int .i64 kind,.int .i64 par,.slice a3 n3 m3,.slice a4 n4 m4,.slice a5 n5 m5] 58) = W1:=⟨_,rfl⟩
 have hb1:Below w.heap.size w W1:=by rw [← hW1]; exact KitC.below_one _ _
 have hkb:W1.heap[w.heap.size]? = some (.cells #[.string nm,.int .i64 kind,.int .i64 par,.slice a3 n3 m3,.slice a4 n4 m4,.slice a5 n5 m5] 58 (0,0)):=by rw [← hW1]; exact heap_alloc_new _ _
 have HK:=Lib.hid (fun W (hW:Below W1.heap.size W1 W) => cells_6 (KitC.block_on hkb hW))
 obtain ⟨c0,c1,c2,c3,c4,c5⟩:=cells_6 hkb
 obtain ⟨b0,e0⟩:∃ b0,b0 = isName nm.data.toList:=⟨_,rfl⟩
 obtain ⟨q3,e3⟩:∃ q3,q3 = chkA en:=⟨_,rfl⟩
 obtain ⟨q4,e4⟩:∃ q4,q4 = chkA ex:=⟨_,rfl⟩
 obtain ⟨b5,e5⟩:∃ b5,b5 = tr.all fun t => decide (chkT t = 0):=⟨_,rfl⟩
 have H0:Hid (∀ W,Below W1.heap.size W1 W → Calls Tryz.prog 102 #[.string nm] W (RetB W b0)):=Lib.hid fun W _ => pis_say f0 e0.symm W
 have H1:Hid (∀ W,Below W1.heap.size W1 W → Calls Tryz.prog 125 #[.slice a3 n3 m3] W (RetI W q3)):=Lib.hid fun W hW => by rw [e3]; exact check_acts a3 n3 m3 en f1 (by omega) W (k3.keep (below_two' hb1 hW))
 have H2:Hid (∀ W,Below W1.heap.size W1 W → Calls Tryz.prog 125 #[.slice a4 n4 m4] W (RetI W q4)):=Lib.hid fun W hW => by rw [e4]; exact check_acts a4 n4 m4 ex f3 (by omega) W (k4.keep (below_two' hb1 hW))
 have H4:Hid (∀ W,Below W1.heap.size W1 W → Calls Tryz.prog 126 #[.slice a5 n5 m5,.func (.func 127) #[] #[]] W (RetB W b5)):=Lib.hid fun W hW => by rw [e5]; exact allTrans_any a5 n5 m5 tr W (k5.keep (below_two' hb1 hW)) f6 (by omega)
 rw [← e0,← e3,← e4,← e5,← l5] at hOS
 rw [hOS]
 obtain ⟨r,hr⟩:∃ r,r = (b0 && (decide (q3 = 0) && (decide (q4 = 0) && (decide (n5 ≤ 16) && b5)))):=⟨_,rfl⟩
 rw [← hr]
 have HW1:=Lib.hid hW1
 have HB1:=Lib.hid hb1
 clear hOS e0 e3 e4 e5 l5 k3 k4 k5 hW1 hb1 hkb f0 f1 f2 f3 f4 f5 f6
 rcases h0:b0 with _ | _
 ·have HR:Hid (r = false):=Lib.hid (by rw [hr]; simp [h0])
  clear hr
  rw [h0] at H0
  clear h0
  go_enter Tryz.func108,Tryz.ntmps108
  go_wp2_with (rw [HW1.out]; go_at_call 102; (with_reducible refine (H0.out _ (Below.refl _ _)).mono ?_))
  rintro e2 w2 ⟨rfl,hb2⟩
  have HB2:=Lib.hid hb2
  clear c0 c1 c2 c3 c4 c5
  obtain ⟨c0,c1,c2,c3,c4,c5⟩:=HK.out _ HB2.out
  clear hb2
  go_wp2_with fail
  go_ret
  exact ⟨ret_bool HR.out.symm,below_two' HB1.out HB2.out⟩
 ·by_cases h1:q3 = 0
  ·by_cases h2:q4 = 0
   ·by_cases h3:n5 ≤ 16
    ·have HR:Hid (r = b5):=Lib.hid (by rw [hr]; simp [h0,h1,h2,h3])
     have g1:(q3 == 0) = true:=by simpa using h1
     have g2:(q4 == 0) = true:=by simpa using h2
     have g3:decide ((n5:Int) ≤ 16) = true:=by simp; omega
     clear hr h1 h2
     rw [h0] at H0
     clear h0
     go_enter Tryz.func108,Tryz.ntmps108
     go_wp2_with (rw [HW1.out]; go_at_call 102; (with_reducible refine (H0.out _ (Below.refl _ _)).mono ?_))
     rintro e2 w2 ⟨rfl,hb2⟩
     have HB2:=Lib.hid hb2
     clear c0 c1 c2 c3 c4 c5
     obtain ⟨c0,c1,c2,c3,c4,c5⟩:=HK.out _ HB2.out
     clear hb2
     go_wp2_with (go_at_call 125; (with_reducible refine (H1.out _ HB2.out).mono ?_))
     rintro e3 w3 ⟨rfl,hb3⟩
     have HB3:=Lib.hid (below_two' HB2.out hb3)
     clear c0 c1 c2 c3 c4 c5
     obtain ⟨c0,c1,c2,c3,c4,c5⟩:=HK.out _ HB3.out
     clear hb3
     go_wp2_with (go_at_call 125; (with_reducible refine (H2.out _ HB3.out).mono ?_))
     rintro e4 w4 ⟨rfl,hb4⟩
     have HB4:=Lib.hid (below_two' HB3.out hb4)
     clear c0 c1 c2 c3 c4 c5
     obtain ⟨c0,c1,c2,c3,c4,c5⟩:=HK.out _ HB4.out
     clear hb4
     go_wp2_with (go_at_call 126; (with_reducible refine (H4.out _ HB4.out).mono ?_))
     rintro e5 w5 ⟨rfl,hb5⟩
     have HB5:=Lib.hid (below_two' HB4.out hb5)
     clear c0 c1 c2 c3 c4 c5
     obtain ⟨c0,c1,c2,c3,c4,c5⟩:=HK.out _ HB5.out
     clear hb5
     go_wp2_with fail
     go_ret
     exact ⟨ret_bool HR.out.symm,below_two' HB1.out HB5.out⟩
    ·have HR:Hid (r = false):=Lib.hid (by rw [hr]; simp [h0,h1,h2,h3])
     have g1:(q3 == 0) = true:=by simpa using h1
     have g2:(q4 == 0) = true:=by simpa using h2
     have g3:decide ((n5:Int) ≤ 16) = false:=by simp; omega
     clear hr h1 h2
     rw [h0] at H0
     clear h0
     go_enter Tryz.func108,Tryz.ntmps108
     go_wp2_with (rw [HW1.out]; go_at_call 102; (with_reducible refine (H0.out _ (Below.refl _ _)).mono ?_))
     rintro e2 w2 ⟨rfl,hb2⟩
     have HB2:=Lib.hid hb2
     clear c0 c1 c2 c3 c4 c5
     obtain ⟨c0,c1,c2,c3,c4,c5⟩:=HK.out _ HB2.out
     clear hb2
     go_wp2_with (go_at_call 125; (with_reducible refine (H1.out _ HB2.out).mono ?_))
     rintro e3 w3 ⟨rfl,hb3⟩
     have HB3:=Lib.hid (below_two' HB2.out hb3)
     clear c0 c1 c2 c3 c4 c5
     obtain ⟨c0,c1,c2,c3,c4,c5⟩:=HK.out _ HB3.out
     clear hb3
     go_wp2_with (go_at_call 125; (with_reducible refine (H2.out _ HB3.out).mono ?_))
     rintro e4 w4 ⟨rfl,hb4⟩
     have HB4:=Lib.hid (below_two' HB3.out hb4)
     clear c0 c1 c2 c3 c4 c5
     obtain ⟨c0,c1,c2,c3,c4,c5⟩:=HK.out _ HB4.out
     clear hb4
     go_wp2_with fail
     go_ret
     exact ⟨ret_bool HR.out.symm,below_two' HB1.out HB4.out⟩
   ·have HR:Hid (r = false):=Lib.hid (by rw [hr]; simp [h0,h1,h2])
    have g1:(q3 == 0) = true:=by simpa using h1
    have g2:(q4 == 0) = false:=by simpa using h2
    clear hr h1 h2
    rw [h0] at H0
    clear h0
    go_enter Tryz.func108,Tryz.ntmps108
    go_wp2_with (rw [HW1.out]; go_at_call 102; (with_reducible refine (H0.out _ (Below.refl _ _)).mono ?_))
    rintro e2 w2 ⟨rfl,hb2⟩
    have HB2:=Lib.hid hb2
    clear c0 c1 c2 c3 c4 c5
    obtain ⟨c0,c1,c2,c3,c4,c5⟩:=HK.out _ HB2.out
    clear hb2
    go_wp2_with (go_at_call 125; (with_reducible refine (H1.out _ HB2.out).mono ?_))
    rintro e3 w3 ⟨rfl,hb3⟩
    have HB3:=Lib.hid (below_two' HB2.out hb3)
    clear c0 c1 c2 c3 c4 c5
    obtain ⟨c0,c1,c2,c3,c4,c5⟩:=HK.out _ HB3.out
    clear hb3
    go_wp2_with (go_at_call 125; (with_reducible refine (H2.out _ HB3.out).mono ?_))
    rintro e4 w4 ⟨rfl,hb4⟩
    have HB4:=Lib.hid (below_two' HB3.out hb4)
    clear c0 c1 c2 c3 c4 c5
    obtain ⟨c0,c1,c2,c3,c4,c5⟩:=HK.out _ HB4.out
    clear hb4
    go_wp2_with fail
    go_ret
    exact ⟨ret_bool HR.out.symm,below_two' HB1.out HB4.out⟩
  ·have HR:Hid (r = false):=Lib.hid (by rw [hr]; simp [h0,h1])
   have g1:(q3 == 0) = false:=by simpa using h1
   clear hr h1
   rw [h0] at H0
   clear h0
   go_enter Tryz.func108,Tryz.ntmps108
   go_wp2_with (rw [HW1.out]; go_at_call 102; (with_reducible refine (H0.out _ (Below.refl _ _)).mono ?_))
   rintro e2 w2 ⟨rfl,hb2⟩
   have HB2:=Lib.hid hb2
   clear c0 c1 c2 c3 c4 c5
   obtain ⟨c0,c1,c2,c3,c4,c5⟩:=HK.out _ HB2.out
   clear hb2
   go_wp2_with (go_at_call 125; (with_reducible refine (H1.out _ HB2.out).mono ?_))
   rintro e3 w3 ⟨rfl,hb3⟩
   have HB3:=Lib.hid (below_two' HB2.out hb3)
   clear c0 c1 c2 c3 c4 c5
   obtain ⟨c0,c1,c2,c3,c4,c5⟩:=HK.out _ HB3.out
   clear hb3
   go_wp2_with fail
   go_ret
   exact ⟨ret_bool HR.out.symm,below_two' HB1.out HB3.out⟩
def AllStateRel (W:World) (l:List Sx) (n:Nat) (i:Value) (wr:World):Prop:=∃ k:Nat,k ≤ n ∧ i = .int .i64 k ∧ (l.take k).all (okS) = true ∧ Below W.heap.size W wr
set_option maxHeartbeats 2000000 in
theorem allState_any (A:Option Addr) (n c:Nat) (l:List Sx) (w:World) (h:StsP w (.slice A n c) l) (hf:∀ x ∈ l,FitS x) (hm:n ≤ 9223372036854775807) :
 Calls Tryz.prog 107 #[.slice A n c,.func (.func 108) #[] #[]] w (RetB w (l.all (okS))):=by
 have HT:=Lib.hid h
 have hn:=h.len.1
 have hnc:=h.len.2
 have HN:=Lib.hid hn
 have HF:=Lib.hid hf
 obtain ⟨r,hr⟩:∃ r,r = l.all (okS):=⟨_,rfl⟩
 rw [← hr]
 have HR:=Lib.hid hr
 clear h hn hf hr
 go_enter Tryz.func107,Tryz.ntmps107
 go_wp2_with fail
 go_loopw [6,9] (fun _ i wr => AllStateRel w l n i wr) (fun _ i _ => n - (intOf i).toNat)
 case atStart => exact ⟨0,Nat.zero_le _,rfl,rfl,Below.refl _ _⟩
 case round =>
  obtain ⟨k,hk,rfl,hall,hbw⟩:=hrel
  have HA:=Lib.hid hall
  have HB:=Lib.hid hbw
  clear hall hbw
  by_cases hlt:k < n
  ·obtain ⟨x,hx⟩:∃ x,l[k]? = some x:=get_some (by rw [← HN.out]; exact hlt)
   obtain ⟨b,off,a3,n3,m3,a4,n4,m4,a5,n5,m5,rfl,hb,d0,d1,d2,d3,d4,d5,k3,k4,k5⟩:=(HT.out.keep HB.out).at_ hx
   have HBAD:=Lib.hid (fun h1 => (show r = false by rw [HR.out]; exact all_bad (f:=okS) hx h1))
   have HAT:=Lib.hid (fun h1 => all_take (f:=okS) hx HA.out h1)
   have HX:=Lib.hid (HF.out x (List.mem_of_getElem? hx))
   have HC:=Lib.hid (fun W (hW:Below wr.heap.size wr W) => mayState_any x a3 n3 m3 a4 n4 m4 a5 n5 m5 W (k3.keep hW) (k4.keep hW) (k5.keep hW) HX.out)
   obtain ⟨q,hq⟩:∃ q,q = (okS x):=⟨_,rfl⟩
   have HC2:Hid (∀ W,Below wr.heap.size wr W → Calls Tryz.prog 108 #[.agg #[.string x.s,.int .i64 x.kind,.int .i64 x.par,.slice a3 n3 m3,.slice a4 n4 m4,.slice a5 n5 m5]] W (RetB W q)):=Lib.hid (by rw [hq]; exact HC.out)
   rw [← hq] at HBAD HAT
   obtain ⟨nm,kind,par,en,ex,tr⟩:=x
   simp only at d0 d1 d2 d3 d4 d5 HC2
   clear k3 k4 k5
   clear hx hq HC
   rcases q with _ | _
   ·have HE:=Lib.hid (HBAD.out rfl)
    go_wp2_with (go_at_call 108; (with_reducible refine (HC2.out _ (KitC.below_one _ _)).mono ?_))
    rintro e w4 ⟨rfl,hb4⟩
    have HB4:=Lib.hid (below_two' HB.out (below_two' (KitC.below_one _ _) hb4))
    clear hb4
    go_wp2_with fail
    go_ret
    exact ⟨ret_bool HE.out.symm,HB4.out⟩
   ·have HE:=Lib.hid (HAT.out rfl)
    go_wp2_with (go_at_call 108; (with_reducible refine (HC2.out _ (KitC.below_one _ _)).mono ?_))
    rintro e w4 ⟨rfl,hb4⟩
    have HB4:=Lib.hid (below_two' HB.out (below_two' (KitC.below_one _ _) hb4))
    clear hb4
    go_wp2_with fail
    go_roundw
    case rel => exact ⟨k + 1,by omega,by go_num,HE.out,HB4.out⟩
    case measure => simp [intOf]; omega
  ·have HE:Hid (r = true):=Lib.hid (by
    have:=HA.out
    rw [List.take_of_length_le (by rw [← HN.out]; omega)] at this
    rw [HR.out,this])
   go_wp2_with fail
   go_ret
   exact ⟨ret_bool HE.out.symm,HB.out⟩
end Go.Proofs.YtckojimeglkobaaGreatDoor
namespace Go.Proofs.YtckojimeglkobaaGreatDoor
open Go.RowKit Go.Sort CurSpec TermSpec EvalSpec ActSpec NamesSpec ExprSpec TransSpec SynSpec PrintSpec
set_option maxRecDepth 100000
set_option maxHeartbeats 4000000 in
theorem pmay_any (x:Cx) (eA:Option Addr) (en ec:Nat) (vA:Option Addr) (vn vc:Nat) (sA:Option Addr) (sn sc:Nat) (w:World) (h:ChIn w (.slice eA en ec) (.slice vA vn vc) (.slice sA sn sc) x) (hf:FitM x) (hen9:en ≤ 9223372036854775807) (hvn9:vn ≤ 9223372036854775807) :
 Calls Tryz.prog 86 #[.agg #[.string x.s,.slice eA en ec,.slice vA vn vc,.slice sA sn sc]] w (RetB w (mayC x)):=by
 obtain ⟨hvn,hvc⟩:=RdV.len h.vars
 obtain ⟨hsn,hsc⟩:=h.sts.len
 have hen:en = x.evs.length:=by obtain ⟨_,_,_,heq,hn,_⟩:=Rd.strs h.evs; cases heq; exact hn.symm
 obtain ⟨W1,hW1⟩:∃ W1,w.alloc (.cells #[.string x.s,.slice eA en ec,.slice vA vn vc,.slice sA sn sc] 26) = W1:=⟨_,rfl⟩
 have hb1:Below w.heap.size w W1:=by rw [← hW1]; exact KitC.below_one _ _
 have hkb:W1.heap[w.heap.size]? = some (.cells #[.string x.s,.slice eA en ec,.slice vA vn vc,.slice sA sn sc] 26 (0,0)):=by rw [← hW1]; exact heap_alloc_new _ _
 have HK:=Lib.hid (fun W (hW:Below W1.heap.size W1 W) => cells_4 (KitC.block_on hkb hW))
 obtain ⟨c0,c1,c2,c3⟩:=cells_4 hkb
 have hch:=fun W (hW:Below W1.heap.size W1 W) => h.keep (below_two' hb1 hW)
 obtain ⟨b0,e0⟩:∃ b0,b0 = isName x.s.data.toList:=⟨_,rfl⟩
 obtain ⟨b2,e2⟩:∃ b2,b2 = x.evs.all fun e => isName e.data.toList:=⟨_,rfl⟩
 obtain ⟨b4,e4⟩:∃ b4,b4 = x.vars.all okV:=⟨_,rfl⟩
 obtain ⟨q5,e5⟩:∃ q5,q5 = ShapeSpec.chk (x.sts.map shOf):=⟨_,rfl⟩
 obtain ⟨b6,e6⟩:∃ b6,b6 = x.sts.all okS:=⟨_,rfl⟩
 have H0:Hid (∀ W,Below W1.heap.size W1 W → Calls Tryz.prog 102 #[.string x.s] W (RetB W b0)):=Lib.hid fun W _ => pis_say hf.s e0.symm W
 have H2:Hid (∀ W,Below W1.heap.size W1 W → Calls Tryz.prog 103 #[.slice eA en ec,.func (.func 102) #[] #[]] W (RetB W b2)):=Lib.hid fun W hW => by rw [e2]; exact allStr_any eA en ec x.evs W (hch W hW).evs hf.evs hen9
 have H4:Hid (∀ W,Below W1.heap.size W1 W → Calls Tryz.prog 104 #[.slice vA vn vc,.func (.func 105) #[] #[]] W (RetB W b4)):=Lib.hid fun W hW => by rw [e4]; exact allVar_any vA vn vc x.vars W (hch W hW).vars hf.vars hvn9
 have H5:Hid (∀ W,Below W1.heap.size W1 W → Calls Tryz.prog 106 #[.slice sA sn sc] W (RetI W q5)):=Lib.hid fun W hW => by rw [e5]; exact shpcheck_any sA sn sc _ W (hch W hW).sts.sts (by have:=hf.stl; omega)
 have H6:Hid (∀ W,Below W1.heap.size W1 W → Calls Tryz.prog 107 #[.slice sA sn sc,.func (.func 108) #[] #[]] W (RetB W b6)):=Lib.hid fun W hW => by rw [e6]; exact allState_any sA sn sc x.sts W (hch W hW).sts hf.sts (by have:=hf.stl; omega)
 have hC:mayC x = (b0 && (decide (en ≤ 8) && (b2 && (decide (vn ≤ 4) && (b4 && (decide (q5 = 0) && b6)))))):=by
  unfold mayC
  rw [← e0,← e2,← e4,← e5,← e6,← hen,← hvn]
  cases b0 <;> cases b2 <;> cases b4 <;> cases b6 <;> simp
 rw [hC]
 obtain ⟨r,hr⟩:∃ r,r = (b0 && (decide (en ≤ 8) && (b2 && (decide (vn ≤ 4) && (b4 && (decide (q5 = 0) && b6)))))):=⟨_,rfl⟩
 rw [← hr]
 have HW1:=Lib.hid hW1
 have HB1:=Lib.hid hb1
 obtain ⟨s,evs,vars,sts⟩:=x
 simp only at HK c0 H0 HW1
 clear hC e0 e2 e4 e5 e6 h hch hW1 hb1 hkb hf hvn hsn hen
 rcases h0:b0 with _ | _
 ·have HR:Hid (r = false):=Lib.hid (by rw [hr]; simp [h0])
  clear hr
  rw [h0] at H0
  clear h0
  go_enter Tryz.func86,Tryz.ntmps86
  go_wp2_with (rw [HW1.out]; go_at_call 102; (with_reducible refine (H0.out _ (Below.refl _ _)).mono ?_))
  rintro e2 w2 ⟨rfl,hb2⟩
  have HB2:=Lib.hid hb2
  clear c0 c1 c2 c3
  obtain ⟨c0,c1,c2,c3⟩:=HK.out _ HB2.out
  clear hb2
  go_wp2_with fail
  go_ret
  exact ⟨ret_bool HR.out.symm,below_two' HB1.out HB2.out⟩
 ·by_cases h1:en ≤ 8
  ·rcases h2:b2 with _ | _
   ·have HR:Hid (r = false):=Lib.hid (by rw [hr]; simp [h0,h1,h2])
    have g1:decide ((en:Int) ≤ 8) = true:=by simp; omega
    clear hr
    rw [h0] at H0
    clear h0
    rw [h2] at H2
    clear h2
    go_enter Tryz.func86,Tryz.ntmps86
    go_wp2_with (rw [HW1.out]; go_at_call 102; (with_reducible refine (H0.out _ (Below.refl _ _)).mono ?_))
    rintro e2 w2 ⟨rfl,hb2⟩
    have HB2:=Lib.hid hb2
    clear c0 c1 c2 c3
    obtain ⟨c0,c1,c2,c3⟩:=HK.out _ HB2.out
    clear hb2
    go_wp2_with (go_at_call 103; (with_reducible refine (H2.out _ HB2.out).mono ?_))
    rintro e3 w3 ⟨rfl,hb3⟩
    have HB3:=Lib.hid (below_two' HB2.out hb3)
    clear c0 c1 c2 c3
    obtain ⟨c0,c1,c2,c3⟩:=HK.out _ HB3.out
    clear hb3
    go_wp2_with fail
    go_ret
    exact ⟨ret_bool HR.out.symm,below_two' HB1.out HB3.out⟩
   ·by_cases h3:vn ≤ 4
    ·rcases h4:b4 with _ | _
     ·have HR:Hid (r = false):=Lib.hid (by rw [hr]; simp [h0,h1,h2,h3,h4])
      have g1:decide ((en:Int) ≤ 8) = true:=by simp; omega
      have g3:decide ((vn:Int) ≤ 4) = true:=by simp; omega
      clear hr
      rw [h0] at H0
      clear h0
      rw [h2] at H2
      clear h2
      rw [h4] at H4
      clear h4
      go_enter Tryz.func86,Tryz.ntmps86
      go_wp2_with (rw [HW1.out]; go_at_call 102; (with_reducible refine (H0.out _ (Below.refl _ _)).mono ?_))
      rintro e2 w2 ⟨rfl,hb2⟩
      have HB2:=Lib.hid hb2
      clear c0 c1 c2 c3
      obtain ⟨c0,c1,c2,c3⟩:=HK.out _ HB2.out
      clear hb2
      go_wp2_with (go_at_call 103; (with_reducible refine (H2.out _ HB2.out).mono ?_))
      rintro e3 w3 ⟨rfl,hb3⟩
      have HB3:=Lib.hid (below_two' HB2.out hb3)
      clear c0 c1 c2 c3
      obtain ⟨c0,c1,c2,c3⟩:=HK.out _ HB3.out
      clear hb3
      go_wp2_with (go_at_call 104; (with_reducible refine (H4.out _ HB3.out).mono ?_))
      rintro e4 w4 ⟨rfl,hb4⟩
      have HB4:=Lib.hid (below_two' HB3.out hb4)
      clear c0 c1 c2 c3
      obtain ⟨c0,c1,c2,c3⟩:=HK.out _ HB4.out
      clear hb4
      go_wp2_with fail
      go_ret
      exact ⟨ret_bool HR.out.symm,below_two' HB1.out HB4.out⟩
     ·by_cases h5:q5 = 0
      ·have HR:Hid (r = b6):=Lib.hid (by rw [hr]; simp [h0,h1,h2,h3,h4,h5])
       have g1:decide ((en:Int) ≤ 8) = true:=by simp; omega
       have g3:decide ((vn:Int) ≤ 4) = true:=by simp; omega
       have g5:(q5 == 0) = true:=by simpa using h5
       clear hr h5
       rw [h0] at H0
       clear h0
       rw [h2] at H2
       clear h2
       rw [h4] at H4
       clear h4
       go_enter Tryz.func86,Tryz.ntmps86
       go_wp2_with (rw [HW1.out]; go_at_call 102; (with_reducible refine (H0.out _ (Below.refl _ _)).mono ?_))
       rintro e2 w2 ⟨rfl,hb2⟩
       have HB2:=Lib.hid hb2
       clear c0 c1 c2 c3
       obtain ⟨c0,c1,c2,c3⟩:=HK.out _ HB2.out
       clear hb2
       go_wp2_with (go_at_call 103; (with_reducible refine (H2.out _ HB2.out).mono ?_))
       rintro e3 w3 ⟨rfl,hb3⟩
       have HB3:=Lib.hid (below_two' HB2.out hb3)
       clear c0 c1 c2 c3
       obtain ⟨c0,c1,c2,c3⟩:=HK.out _ HB3.out
       clear hb3
       go_wp2_with (go_at_call 104; (with_reducible refine (H4.out _ HB3.out).mono ?_))
       rintro e4 w4 ⟨rfl,hb4⟩
       have HB4:=Lib.hid (below_two' HB3.out hb4)
       clear c0 c1 c2 c3
       obtain ⟨c0,c1,c2,c3⟩:=HK.out _ HB4.out
       clear hb4
       go_wp2_with (go_at_call 106; (with_reducible refine (H5.out _ HB4.out).mono ?_))
       rintro e5 w5 ⟨rfl,hb5⟩
       have HB5:=Lib.hid (below_two' HB4.out hb5)
       clear c0 c1 c2 c3
       obtain ⟨c0,c1,c2,c3⟩:=HK.out _ HB5.out
       clear hb5
       go_wp2_with (go_at_call 107; (with_reducible refine (H6.out _ HB5.out).mono ?_))
       rintro e6 w6 ⟨rfl,hb6⟩
       have HB6:=Lib.hid (below_two' HB5.out hb6)
       clear c0 c1 c2 c3
       obtain ⟨c0,c1,c2,c3⟩:=HK.out _ HB6.out
       clear hb6
       go_wp2_with fail
       go_ret
       exact ⟨ret_bool HR.out.symm,below_two' HB1.out HB6.out⟩
      ·have HR:Hid (r = false):=Lib.hid (by rw [hr]; simp [h0,h1,h2,h3,h4,h5])
       have g1:decide ((en:Int) ≤ 8) = true:=by simp; omega
       have g3:decide ((vn:Int) ≤ 4) = true:=by simp; omega
       have g5:(q5 == 0) = false:=by simpa using h5
       clear hr h5
       rw [h0] at H0
       clear h0
       rw [h2] at H2
       clear h2
       rw [h4] at H4
       clear h4
       go_enter Tryz.func86,Tryz.ntmps86
       go_wp2_with (rw [HW1.out]; go_at_call 102; (with_reducible refine (H0.out _ (Below.refl _ _)).mono ?_))
       rintro e2 w2 ⟨rfl,hb2⟩
       have HB2:=Lib.hid hb2
       clear c0 c1 c2 c3
       obtain ⟨c0,c1,c2,c3⟩:=HK.out _ HB2.out
       clear hb2
       go_wp2_with (go_at_call 103; (with_reducible refine (H2.out _ HB2.out).mono ?_))
       rintro e3 w3 ⟨rfl,hb3⟩
       have HB3:=Lib.hid (below_two' HB2.out hb3)
       clear c0 c1 c2 c3
       obtain ⟨c0,c1,c2,c3⟩:=HK.out _ HB3.out
       clear hb3
       go_wp2_with (go_at_call 104; (with_reducible refine (H4.out _ HB3.out).mono ?_))
       rintro e4 w4 ⟨rfl,hb4⟩
       have HB4:=Lib.hid (below_two' HB3.out hb4)
       clear c0 c1 c2 c3
       obtain ⟨c0,c1,c2,c3⟩:=HK.out _ HB4.out
       clear hb4
       go_wp2_with (go_at_call 106; (with_reducible refine (H5.out _ HB4.out).mono ?_))
       rintro e5 w5 ⟨rfl,hb5⟩
       have HB5:=Lib.hid (below_two' HB4.out hb5)
       clear c0 c1 c2 c3
       obtain ⟨c0,c1,c2,c3⟩:=HK.out _ HB5.out
       clear hb5
       go_wp2_with fail
       go_ret
       exact ⟨ret_bool HR.out.symm,below_two' HB1.out HB5.out⟩
    ·have HR:Hid (r = false):=Lib.hid (by rw [hr]; simp [h0,h1,h2,h3])
     have g1:decide ((en:Int) ≤ 8) = true:=by simp; omega
     have g3:decide ((vn:Int) ≤ 4) = false:=by simp; omega
     clear hr
     rw [h0] at H0
     clear h0
     rw [h2] at H2
     clear h2
     go_enter Tryz.func86,Tryz.ntmps86
     go_wp2_with (rw [HW1.out]; go_at_call 102; (with_reducible refine (H0.out _ (Below.refl _ _)).mono ?_))
     rintro e2 w2 ⟨rfl,hb2⟩
     have HB2:=Lib.hid hb2
     clear c0 c1 c2 c3
     obtain ⟨c0,c1,c2,c3⟩:=HK.out _ HB2.out
     clear hb2
     go_wp2_with (go_at_call 103; (with_reducible refine (H2.out _ HB2.out).mono ?_))
     rintro e3 w3 ⟨rfl,hb3⟩
     have HB3:=Lib.hid (below_two' HB2.out hb3)
     clear c0 c1 c2 c3
     obtain ⟨c0,c1,c2,c3⟩:=HK.out _ HB3.out
     clear hb3
     go_wp2_with fail
     go_ret
     exact ⟨ret_bool HR.out.symm,below_two' HB1.out HB3.out⟩
  ·have HR:Hid (r = false):=Lib.hid (by rw [hr]; simp [h0,h1])
   have g1:decide ((en:Int) ≤ 8) = false:=by simp; omega
   clear hr
   rw [h0] at H0
   clear h0
   go_enter Tryz.func86,Tryz.ntmps86
   go_wp2_with (rw [HW1.out]; go_at_call 102; (with_reducible refine (H0.out _ (Below.refl _ _)).mono ?_))
   rintro e2 w2 ⟨rfl,hb2⟩
   have HB2:=Lib.hid hb2
   clear c0 c1 c2 c3
   obtain ⟨c0,c1,c2,c3⟩:=HK.out _ HB2.out
   clear hb2
   go_wp2_with fail
   go_ret
   exact ⟨ret_bool HR.out.symm,below_two' HB1.out HB2.out⟩
set_option maxHeartbeats 1000000 in
theorem pcheck_any (x:Cx) (eA:Option Addr) (en ec:Nat) (vA:Option Addr) (vn vc:Nat) (sA:Option Addr) (sn sc:Nat) (w:World) (h:ChIn w (.slice eA en ec) (.slice vA vn vc) (.slice sA sn sc) x) (hf:FitM x) (hen9:en ≤ 9223372036854775807) (hvn9:vn ≤ 9223372036854775807) :
 Calls Tryz.prog 68 #[.agg #[.string x.s,.slice eA en ec,.slice vA vn vc,.slice sA sn sc]] w (RetI w (if mayC x = true then 0 else 1)):=by
 have HC:Hid (Calls Tryz.prog 86 #[.agg #[.string x.s,.slice eA en ec,.slice vA vn vc,.slice sA sn sc]] (w.alloc (.cells #[.string x.s,.slice eA en ec,.slice vA vn vc,.slice sA sn sc] 26)) (RetB (w.alloc (.cells #[.string x.s,.slice eA en ec,.slice vA vn vc,.slice sA sn sc] 26)) (mayC x))):=Lib.hid (pmay_any x eA en ec vA vn vc sA sn sc _ (h.keep (KitC.below_one _ _)) hf hen9 hvn9)
 obtain ⟨q,hq⟩:∃ q,q = mayC x:=⟨_,rfl⟩
 rw [← hq] at HC ⊢
 obtain ⟨s,evs,vars,sts⟩:=x
 simp only at HC
 clear h hf hq
 rcases q with _ | _
 ·go_enter Tryz.func68,Tryz.ntmps68
  go_wp2_with (go_at_call 86; (with_reducible refine HC.out.mono ?_))
  rintro e w2 ⟨rfl,hb2⟩
  have HB2:=Lib.hid (below_two' (KitC.below_one _ _) hb2)
  clear hb2
  go_wp2_with fail
  go_ret
  exact ⟨rfl,HB2.out⟩
 ·go_enter Tryz.func68,Tryz.ntmps68
  go_wp2_with (go_at_call 86; (with_reducible refine HC.out.mono ?_))
  rintro e w2 ⟨rfl,hb2⟩
  have HB2:=Lib.hid (below_two' (KitC.below_one _ _) hb2)
  clear hb2
  go_wp2_with fail
  go_ret
  exact ⟨rfl,HB2.out⟩
end Go.Proofs.YtckojimeglkobaaGreatDoor