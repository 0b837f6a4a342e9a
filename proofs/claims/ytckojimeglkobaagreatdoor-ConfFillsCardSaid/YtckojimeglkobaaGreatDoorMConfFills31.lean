/- RulesRefB, joined. -/
import Derived.Test.YtckojimeglkobaaGreatDoorMConfFills30
import Derived.Test.YtckojimeglkobaaGreatDoorMConfFills05
namespace Go.Proofs.YtckojimeglkobaaGreatDoor
open Go.RowKit Go.Sort TermSpec NamesSpec EvalSpec ActSpec TransSpec SynSpec RulesSpec PrintSpec
set_option maxRecDepth 100000
theorem actR_false {vs ss:List ByteArray} {any:Bool} {a:Ac} {q1 r2:Bool} (h1:q1 = hasS vs a.s) (h2:r2 = exprR vs ss a.x 1):actR vs ss any a = (q1 && (if a.any then any else r2)):=by rw [h1,h2]; rfl
def RwRel (W1:World) (vs ss:List ByteArray) (any:Bool) (l:List Ac) (n:Nat) (i:Value) (wr:World):Prop:=∃ k:Nat,k ≤ n ∧ i = .int .i64 k ∧ Hid (actsR vs ss any (l.take k) = true ∧ Below W1.heap.size W1 wr)
section
variable (x:Cx) (eA:Option Addr) (en ec:Nat) (vA:Option Addr) (vn vc:Nat) (sA:Option Addr) (sn sc:Nat) (w:World) (h:ChIn w (.slice eA en ec) (.slice vA vn vc) (.slice sA sn sc) x) (hvn:vn ≤ 1000000) (hsn:sn ≤ 1000000)
include h hvn hsn
set_option maxRecDepth 100000 in
set_option maxHeartbeats 8000000 in
theorem racts14_any (A:Option Addr) (n c:Nat) (l:List Ac) (any:Bool) (hT:Acs w (.slice A n c) l) (hw:∀ a ∈ l,a.any = false → wholeB a.x = true) (hf:∀ a ∈ l,FewAc a) (hm:n ≤ 1000000) :
 Calls Tryz.prog 57 #[.agg #[.string x.s,.slice eA en ec,.slice vA vn vc,.slice sA sn sc],.slice A n c,.bool any] w (RetB w (actsR (vnC x) (snC x) any l)):=by
 have HV:=Lib.hid (fun s W (hW:Below w.heap.size w W) => rhasVar_any x eA en ec vA vn vc sA sn sc W (h.keep hW) s hvn)
 have HX:=Lib.hid (fun (B:Option Addr) (m d:Nat) (t:List Tm) W (hW:Below w.heap.size w W) (hT:Tms W (.slice B m d) t) (h1:wholeB t = true) (h2:m ≤ 1000000) => rexpr14_any x eA en ec vA vn vc sA sn sc W (h.keep hW) B m d t 1 hT h1 h2 hvn hsn)
 have HN:=Lib.hid hT.len.1
 have HW:=Lib.hid hw
 have HF:=Lib.hid hf
 obtain ⟨vs,hvs⟩:∃ vs,vs = vnC x:=⟨_,rfl⟩
 obtain ⟨ss,hss⟩:∃ ss,ss = snC x:=⟨_,rfl⟩
 rw [← hvs] at HV HX
 rw [← hss] at HX
 rw [← hvs,← hss]
 obtain ⟨nm,hnm⟩:∃ nm,nm = x.s:=⟨_,rfl⟩
 rw [← hnm]
 obtain ⟨W1,hW1⟩:∃ W1,w.alloc (.cells #[.string nm,.slice eA en ec,.slice vA vn vc,.slice sA sn sc] 26) = W1:=⟨_,rfl⟩
 have hb1:Below w.heap.size w W1:=by rw [← hW1]; exact KitC.below_one _ _
 have hk1:W1.heap[w.heap.size]? = some (.cells #[.string nm,.slice eA en ec,.slice vA vn vc,.slice sA sn sc] 26):=by rw [← hW1]; exact heap_alloc_new _ _
 have HW1:=Lib.hid hW1
 have HB1:=Lib.hid hb1
 have HK:=Lib.hid (fun W (hW:Below W1.heap.size W1 W) => KitC.block_on hk1 hW)
 have HT:=Lib.hid (fun W (hW:Below W1.heap.size W1 W) => hT.keep (below_two' hb1 hW))
 rw [← hnm] at HV HX
 obtain ⟨r,hr⟩:∃ r,r = actsR vs ss any l:=⟨_,rfl⟩
 have HR:=Lib.hid hr
 rw [← hr]
 clear h hvn hsn hT hw hf hvs hss hnm hW1 hb1 hk1 hr
 go_enter Tryz.func57,Tryz.ntmps57
 go_wp2_with fail
 rw [HW1.out]
 go_loopw [7] (fun i wr => RwRel W1 vs ss any l n i wr) (fun i _ => n - (intOf i).toNat)
 case atStart => exact ⟨0,Nat.zero_le _,rfl,Lib.hid ⟨rfl,Below.refl _ _⟩⟩
 case round =>
  obtain ⟨k,hk,rfl,HL⟩:=hrel
  by_cases hlt:k < n
  case neg =>
   obtain rfl:k = n:=by omega
   have HE:Hid (r = true):=Lib.hid (by have h1:=HL.out.1; rw [List.take_of_length_le (by rw [← HN.out]; omega)] at h1; rw [HR.out,h1])
   have hlt':¬ (k:Int) < k:=by omega
   go_wp2_with fail
   go_ret
   exact ⟨ret_bool HE.out.symm,below_two' HB1.out HL.out.2⟩
  have hkI:(k:Int) < n:=by omega
  obtain ⟨a,ha⟩:∃ a,l[k]? = some a:=get_some (by rw [← HN.out]; exact hlt)
  have hcap:=(HT.out _ HL.out.2).len.2
  obtain ⟨b,off,xA,xn,xc,rfl,hb,htm,d0,d1,d2⟩:=(HT.out _ HL.out.2).at_ ha
  have HSTOP:=Lib.hid (fun h2 => HR.out.trans (actsR_stop (vs:=vs) (ss:=ss) (any:=any) ha h2))
  have HNEXT:=Lib.hid (fun h2 => actsR_next (vs:=vs) (ss:=ss) (any:=any) ha HL.out.1 h2)
  have HWH:=Lib.hid (HW.out a (List.mem_of_getElem? ha))
  have hfa:=(HF.out a (List.mem_of_getElem? ha)).2.2
  obtain ⟨_,_,_,heq,hxn,_⟩:=htm.shape
  cases heq
  obtain ⟨q1,hq1⟩:∃ q,q = hasS vs a.s:=⟨_,rfl⟩
  obtain ⟨q2,hq2⟩:∃ q,q = exprR vs ss a.x 1:=⟨_,rfl⟩
  have HT2:=Lib.hid (actR_false (any:=any) hq1 hq2)
  have HV1:=Lib.hid (fun W (hW:Below wr.heap.size wr W) => HV.out a.s W (below_two' HB1.out (below_two' HL.out.2 hW)))
  rw [← hq1] at HV1
  have HX1:=Lib.hid (fun (hz:a.any = false) W (hW:Below wr.heap.size wr W) => HX.out xA xn xc a.x W (below_two' HB1.out (below_two' HL.out.2 hW)) (htm.keep hW) (HWH.out hz) (by omega))
  rw [← hq2] at HX1
  obtain ⟨s,aa,t⟩:=a
  simp only at d0 d1 d2 HT2 HV1 HX1 HSTOP HNEXT
  obtain ⟨c0,c1,c2,c3⟩:=cells_4 (HK.out _ HL.out.2)
  have HV2:Hid (∀ d os,Calls Tryz.prog 76 #[.agg #[.string nm,.slice eA en ec,.slice vA vn vc,.slice sA sn sc],.string s] (grow (redrawn wr d) os) fun e w'' => e = .returned (.bool q1) ∧ ∃ p:Regrown,w'' = grow (redrawn wr p.d) p.os) :=
   Lib.hid (fun d os => Calls.regrown_of (HV1.out _ (below_regrown wr d os)))
  have r0:=cell_regrown c0; have r1:=cell_regrown c1; have r2:=cell_regrown c2; have r3:=cell_regrown c3
  have t0:=cell_regrown d0; have t1:=cell_regrown d1; have t2:=cell_regrown d2
  clear ha hq1 hq2 HV1 htm hfa hxn
  cases q1 with
  | false =>
    have HE:=Lib.hid (HSTOP.out (by rw [HT2.out]; simp))
    clear HSTOP HNEXT HT2
    go_wp2_with fail
    refine wp_region_quiet_below (by kernel_rfl) (by kernel_rfl) ?_
    repeat (go_big_quiet_step (with_reducible exact HV2.out _ _))
    refine wpQuiet_nil ?_
    intro _ hw'
    obtain ⟨⟨dq,osq⟩,hw''⟩:=hw'
    subst hw''
    simp only
    have HB3:=Lib.hid (below_two' HL.out.2 (below_regrown wr dq osq))
    go_wp2_with fail
    go_ret
    exact ⟨ret_bool HE.out.symm,below_two' HB1.out HB3.out⟩
  | true =>
    cases aa with
    | true =>
      cases any with
      | false =>
        have HE:=Lib.hid (HSTOP.out (by rw [HT2.out]; simp))
        clear HSTOP HNEXT HT2
        go_wp2_with fail
        refine wp_region_quiet_below (by kernel_rfl) (by kernel_rfl) ?_
        repeat (go_big_quiet_step (with_reducible exact HV2.out _ _))
        refine wpQuiet_nil ?_
        intro _ hw'
        obtain ⟨⟨dq,osq⟩,hw''⟩:=hw'
        subst hw''
        simp only
        have HB3:=Lib.hid (below_two' HL.out.2 (below_regrown wr dq osq))
        go_wp2_with fail
        go_ret
        exact ⟨ret_bool HE.out.symm,below_two' HB1.out HB3.out⟩
      | true =>
        have HE:=Lib.hid (HNEXT.out (by rw [HT2.out]; simp))
        clear HSTOP HNEXT HT2
        go_wp2_with fail
        refine wp_region_quiet_below (by kernel_rfl) (by kernel_rfl) ?_
        repeat (go_big_quiet_step (with_reducible exact HV2.out _ _))
        refine wpQuiet_nil ?_
        intro _ hw'
        obtain ⟨⟨dq,osq⟩,hw''⟩:=hw'
        subst hw''
        simp only
        have HB3:=Lib.hid (below_two' HL.out.2 (below_regrown wr dq osq))
        go_wp2_with fail
        go_roundw
        case rel => exact ⟨k + 1,hlt,by simp,Lib.hid ⟨HE.out,HB3.out⟩⟩
        case measure => simp [intOf]; omega
    | false =>
      have HX2:Hid (∀ d os,Calls Tryz.prog 77 #[.agg #[.string nm,.slice eA en ec,.slice vA vn vc,.slice sA sn sc],.slice xA xn xc,.int .i64 1] (grow (redrawn wr d) os) fun e w'' => e = .returned (.bool q2) ∧ ∃ p:Regrown,w'' = grow (redrawn wr p.d) p.os) :=
       Lib.hid (fun d os => Calls.regrown_of (HX1.out rfl _ (below_regrown wr d os)))
      cases q2 with
      | false =>
        have HE:=Lib.hid (HSTOP.out (by rw [HT2.out]; simp))
        clear HSTOP HNEXT HT2
        go_wp2_with fail
        refine wp_region_quiet_below (by kernel_rfl) (by kernel_rfl) ?_
        repeat (go_big_quiet_step (first | (with_reducible exact HV2.out _ _) | (with_reducible exact HX2.out _ _)))
        refine wpQuiet_nil ?_
        intro _ hw'
        obtain ⟨⟨dq,osq⟩,hw''⟩:=hw'
        subst hw''
        simp only
        have HB3:=Lib.hid (below_two' HL.out.2 (below_regrown wr dq osq))
        go_wp2_with fail
        go_ret
        exact ⟨ret_bool HE.out.symm,below_two' HB1.out HB3.out⟩
      | true =>
        have HE:=Lib.hid (HNEXT.out (by rw [HT2.out]; simp))
        clear HSTOP HNEXT HT2
        go_wp2_with fail
        refine wp_region_quiet_below (by kernel_rfl) (by kernel_rfl) ?_
        repeat (go_big_quiet_step (first | (with_reducible exact HV2.out _ _) | (with_reducible exact HX2.out _ _)))
        refine wpQuiet_nil ?_
        intro _ hw'
        obtain ⟨⟨dq,osq⟩,hw''⟩:=hw'
        subst hw''
        simp only
        have HB3:=Lib.hid (below_two' HL.out.2 (below_regrown wr dq osq))
        go_wp2_with fail
        go_roundw
        case rel => exact ⟨k + 1,hlt,by simp,Lib.hid ⟨HE.out,HB3.out⟩⟩
        case measure => simp [intOf]; omega
section
variable (t:Tr) (gA:Option Addr) (gn gc:Nat) (aA:Option Addr) (an ac:Nat) (hT:TrIn w gA gn gc aA an ac t) (hf:FewTr t) (hen:en ≤ 1000000) (hwg:¬ t.g.length = 0 → wholeB t.g = true) (hwa:∀ a ∈ t.acts,a.any = false → wholeB a.x = true)
include hT hf hen hwg hwa
set_option maxRecDepth 100000 in
set_option maxHeartbeats 4000000 in
theorem rtrans14_6:Calls Tryz.prog 58 #[.agg #[.string x.s,.slice eA en ec,.slice vA vn vc,.slice sA sn sc],.int .i64 6,.agg #[.string t.ev,.slice gA gn gc,.slice aA an ac,.string t.tg]] w (RetB w (!brT x.evs (vnC x) (snC x) 6 t)):=by
 have HHE:=Lib.hid (fun W (hW:Below w.heap.size w W) => rhasEvent_any x eA en ec vA vn vc sA sn sc W (h.keep hW) t.ev hen)
 have HHS:=Lib.hid (fun W (hW:Below w.heap.size w W) => rhasState_any x eA en ec vA vn vc sA sn sc W (h.keep hW) t.tg hsn)
 have HEX:=Lib.hid (fun (hz:¬ t.g.length = 0) W (hW:Below w.heap.size w W) => rexpr14_any x eA en ec vA vn vc sA sn sc W (h.keep hW) gA gn gc t.g 2 (hT.g.keep hW) (hwg hz) (by have:=hT.len.1; have:=hf.gl; omega) hvn hsn)
 have HAC:=Lib.hid (fun W (hW:Below w.heap.size w W) => racts14_any x eA en ec vA vn vc sA sn sc W (h.keep hW) hvn hsn aA an ac t.acts true (hT.a.keep hW) hwa hf.a (by have:=hT.len.2; have:=hf.al; omega))
 have hgl:=hT.len.1
 have HGL:=Lib.hid hgl
 obtain ⟨es,hes⟩:∃ es,es = x.evs:=⟨_,rfl⟩
 obtain ⟨vs,hvs⟩:∃ vs,vs = vnC x:=⟨_,rfl⟩
 obtain ⟨ss,hss⟩:∃ ss,ss = snC x:=⟨_,rfl⟩
 obtain ⟨nm,hnm⟩:∃ nm,nm = x.s:=⟨_,rfl⟩
 rw [← hes,← hnm] at HHE
 rw [← hss,← hnm] at HHS
 rw [← hss,← hvs,← hnm] at HEX HAC
 rw [← hes,← hvs,← hss,← hnm]
 obtain ⟨ev,g,acts,tg⟩:=t
 simp only at HHE HHS HEX HAC hgl HGL
 obtain ⟨q1,hq1⟩:∃ q,q = hasS es ev:=⟨_,rfl⟩
 obtain ⟨q2,hq2⟩:∃ q,q = hasS ss tg:=⟨_,rfl⟩
 obtain ⟨q3,hq3⟩:∃ q,q = exprR vs ss g 2:=⟨_,rfl⟩
 obtain ⟨q4,hq4⟩:∃ q,q = actsR vs ss true acts:=⟨_,rfl⟩
 have HBR:Hid (∀ rule,brT es vs ss rule ⟨ev,g,acts,tg⟩ = if rule = 6 then !decide (ev.size = 0) && !q1 else if rule = 7 then !decide (tg.size = 0) && !q2 else if rule = 8 then !decide (gn = 0) && !q3 else if rule = 9 then !q4 else false) :=
  Lib.hid (fun rule => by rw [hq1,hq2,hq3,hq4,hgl]; rfl)
 rw [← hq1] at HHE
 rw [← hq2] at HHS
 rw [← hq3] at HEX
 rw [← hq4] at HAC
 obtain ⟨W1,hW1⟩:∃ W1,(w.alloc (.cells #[.string nm,.slice eA en ec,.slice vA vn vc,.slice sA sn sc] 26)).alloc (.cells #[.string ev,.slice gA gn gc,.slice aA an ac,.string tg] 62) = W1:=⟨_,rfl⟩
 obtain ⟨k1,k2,hb1,-⟩:=KitC.pair_blocks (o:=(.cells #[.string nm,.slice eA en ec,.slice vA vn vc,.slice sA sn sc] 26)) (p:=.cells #[.string ev,.slice gA gn gc,.slice aA an ac,.string tg] 62) (w:=w) (Below.refl _ _)
 rw [hW1] at k1 k2 hb1
 have HW1:=Lib.hid hW1
 have HB1:=Lib.hid hb1
 obtain ⟨c0,c1,c2,c3⟩:=cells_4 k1
 obtain ⟨d0,d1,d2,d3⟩:=cells_4 k2
 clear h hvn hsn hen hT hf hwg hwa hgl hes hvs hss hnm hq1 hq2 hq3 hq4 hW1 k1 k2 hb1
 by_cases e0:ev.size = 0
 ·obtain rfl:=empty_of_size e0
  have HR:Hid ((!brT es vs ss 6 ⟨⟨#[]⟩,g,acts,tg⟩) = true):=Lib.hid (by rw [HBR.out]; rfl)
  clear e0 HBR HGL
  go_enter Tryz.func58,Tryz.ntmps58
  go_wp2_with fail
  go_ret
  exact ⟨ret_bool HR.out.symm,by rw [HW1.out]; exact HB1.out⟩
 ·have HR:Hid ((!brT es vs ss 6 ⟨ev,g,acts,tg⟩) = q1):=Lib.hid (by rw [HBR.out]; simp [e0])
  obtain ⟨g1,g2,g3,g4⟩:=full_facts e0
  clear e0 HBR HGL
  go_enter Tryz.func58,Tryz.ntmps58
  go_wp2_with (rw [HW1.out]; go_at_call 78; go_fit (HHE.out _ HB1.out))
  rintro e w2 ⟨rfl,hb2⟩
  have HB2:=Lib.hid hb2
  clear hb2
  go_wp2_with fail
  go_ret
  exact ⟨ret_bool HR.out.symm,below_two' HB1.out HB2.out⟩
set_option maxRecDepth 100000 in
set_option maxHeartbeats 4000000 in
theorem rtrans14_7:Calls Tryz.prog 58 #[.agg #[.string x.s,.slice eA en ec,.slice vA vn vc,.slice sA sn sc],.int .i64 7,.agg #[.string t.ev,.slice gA gn gc,.slice aA an ac,.string t.tg]] w (RetB w (!brT x.evs (vnC x) (snC x) 7 t)):=by
 have HHE:=Lib.hid (fun W (hW:Below w.heap.size w W) => rhasEvent_any x eA en ec vA vn vc sA sn sc W (h.keep hW) t.ev hen)
 have HHS:=Lib.hid (fun W (hW:Below w.heap.size w W) => rhasState_any x eA en ec vA vn vc sA sn sc W (h.keep hW) t.tg hsn)
 have HEX:=Lib.hid (fun (hz:¬ t.g.length = 0) W (hW:Below w.heap.size w W) => rexpr14_any x eA en ec vA vn vc sA sn sc W (h.keep hW) gA gn gc t.g 2 (hT.g.keep hW) (hwg hz) (by have:=hT.len.1; have:=hf.gl; omega) hvn hsn)
 have HAC:=Lib.hid (fun W (hW:Below w.heap.size w W) => racts14_any x eA en ec vA vn vc sA sn sc W (h.keep hW) hvn hsn aA an ac t.acts true (hT.a.keep hW) hwa hf.a (by have:=hT.len.2; have:=hf.al; omega))
 have hgl:=hT.len.1
 have HGL:=Lib.hid hgl
 obtain ⟨es,hes⟩:∃ es,es = x.evs:=⟨_,rfl⟩
 obtain ⟨vs,hvs⟩:∃ vs,vs = vnC x:=⟨_,rfl⟩
 obtain ⟨ss,hss⟩:∃ ss,ss = snC x:=⟨_,rfl⟩
 obtain ⟨nm,hnm⟩:∃ nm,nm = x.s:=⟨_,rfl⟩
 rw [← hes,← hnm] at HHE
 rw [← hss,← hnm] at HHS
 rw [← hss,← hvs,← hnm] at HEX HAC
 rw [← hes,← hvs,← hss,← hnm]
 obtain ⟨ev,g,acts,tg⟩:=t
 simp only at HHE HHS HEX HAC hgl HGL
 obtain ⟨q1,hq1⟩:∃ q,q = hasS es ev:=⟨_,rfl⟩
 obtain ⟨q2,hq2⟩:∃ q,q = hasS ss tg:=⟨_,rfl⟩
 obtain ⟨q3,hq3⟩:∃ q,q = exprR vs ss g 2:=⟨_,rfl⟩
 obtain ⟨q4,hq4⟩:∃ q,q = actsR vs ss true acts:=⟨_,rfl⟩
 have HBR:Hid (∀ rule,brT es vs ss rule ⟨ev,g,acts,tg⟩ = if rule = 6 then !decide (ev.size = 0) && !q1 else if rule = 7 then !decide (tg.size = 0) && !q2 else if rule = 8 then !decide (gn = 0) && !q3 else if rule = 9 then !q4 else false) :=
  Lib.hid (fun rule => by rw [hq1,hq2,hq3,hq4,hgl]; rfl)
 rw [← hq1] at HHE
 rw [← hq2] at HHS
 rw [← hq3] at HEX
 rw [← hq4] at HAC
 obtain ⟨W1,hW1⟩:∃ W1,(w.alloc (.cells #[.string nm,.slice eA en ec,.slice vA vn vc,.slice sA sn sc] 26)).alloc (.cells #[.string ev,.slice gA gn gc,.slice aA an ac,.string tg] 62) = W1:=⟨_,rfl⟩
 obtain ⟨k1,k2,hb1,-⟩:=KitC.pair_blocks (o:=(.cells #[.string nm,.slice eA en ec,.slice vA vn vc,.slice sA sn sc] 26)) (p:=.cells #[.string ev,.slice gA gn gc,.slice aA an ac,.string tg] 62) (w:=w) (Below.refl _ _)
 rw [hW1] at k1 k2 hb1
 have HW1:=Lib.hid hW1
 have HB1:=Lib.hid hb1
 obtain ⟨c0,c1,c2,c3⟩:=cells_4 k1
 obtain ⟨d0,d1,d2,d3⟩:=cells_4 k2
 clear h hvn hsn hen hT hf hwg hwa hgl hes hvs hss hnm hq1 hq2 hq3 hq4 hW1 k1 k2 hb1
 by_cases e0:tg.size = 0
 ·obtain rfl:=empty_of_size e0
  have HR:Hid ((!brT es vs ss 7 ⟨ev,g,acts,⟨#[]⟩⟩) = true):=Lib.hid (by rw [HBR.out]; rfl)
  clear e0 HBR HGL
  go_enter Tryz.func58,Tryz.ntmps58
  go_wp2_with fail
  go_ret
  exact ⟨ret_bool HR.out.symm,by rw [HW1.out]; exact HB1.out⟩
 ·have HR:Hid ((!brT es vs ss 7 ⟨ev,g,acts,tg⟩) = q2):=Lib.hid (by rw [HBR.out]; simp [e0])
  obtain ⟨g1,g2,g3,g4⟩:=full_facts e0
  clear e0 HBR HGL
  go_enter Tryz.func58,Tryz.ntmps58
  go_wp2_with (rw [HW1.out]; go_at_call 79; go_fit (HHS.out _ HB1.out))
  rintro e w2 ⟨rfl,hb2⟩
  have HB2:=Lib.hid hb2
  clear hb2
  go_wp2_with fail
  go_ret
  exact ⟨ret_bool HR.out.symm,below_two' HB1.out HB2.out⟩
set_option maxRecDepth 100000 in
set_option maxHeartbeats 4000000 in
theorem rtrans14_8:Calls Tryz.prog 58 #[.agg #[.string x.s,.slice eA en ec,.slice vA vn vc,.slice sA sn sc],.int .i64 8,.agg #[.string t.ev,.slice gA gn gc,.slice aA an ac,.string t.tg]] w (RetB w (!brT x.evs (vnC x) (snC x) 8 t)):=by
 have HHE:=Lib.hid (fun W (hW:Below w.heap.size w W) => rhasEvent_any x eA en ec vA vn vc sA sn sc W (h.keep hW) t.ev hen)
 have HHS:=Lib.hid (fun W (hW:Below w.heap.size w W) => rhasState_any x eA en ec vA vn vc sA sn sc W (h.keep hW) t.tg hsn)
 have HEX:=Lib.hid (fun (hz:¬ t.g.length = 0) W (hW:Below w.heap.size w W) => rexpr14_any x eA en ec vA vn vc sA sn sc W (h.keep hW) gA gn gc t.g 2 (hT.g.keep hW) (hwg hz) (by have:=hT.len.1; have:=hf.gl; omega) hvn hsn)
 have HAC:=Lib.hid (fun W (hW:Below w.heap.size w W) => racts14_any x eA en ec vA vn vc sA sn sc W (h.keep hW) hvn hsn aA an ac t.acts true (hT.a.keep hW) hwa hf.a (by have:=hT.len.2; have:=hf.al; omega))
 have hgl:=hT.len.1
 have HGL:=Lib.hid hgl
 obtain ⟨es,hes⟩:∃ es,es = x.evs:=⟨_,rfl⟩
 obtain ⟨vs,hvs⟩:∃ vs,vs = vnC x:=⟨_,rfl⟩
 obtain ⟨ss,hss⟩:∃ ss,ss = snC x:=⟨_,rfl⟩
 obtain ⟨nm,hnm⟩:∃ nm,nm = x.s:=⟨_,rfl⟩
 rw [← hes,← hnm] at HHE
 rw [← hss,← hnm] at HHS
 rw [← hss,← hvs,← hnm] at HEX HAC
 rw [← hes,← hvs,← hss,← hnm]
 obtain ⟨ev,g,acts,tg⟩:=t
 simp only at HHE HHS HEX HAC hgl HGL
 obtain ⟨q1,hq1⟩:∃ q,q = hasS es ev:=⟨_,rfl⟩
 obtain ⟨q2,hq2⟩:∃ q,q = hasS ss tg:=⟨_,rfl⟩
 obtain ⟨q3,hq3⟩:∃ q,q = exprR vs ss g 2:=⟨_,rfl⟩
 obtain ⟨q4,hq4⟩:∃ q,q = actsR vs ss true acts:=⟨_,rfl⟩
 have HBR:Hid (∀ rule,brT es vs ss rule ⟨ev,g,acts,tg⟩ = if rule = 6 then !decide (ev.size = 0) && !q1 else if rule = 7 then !decide (tg.size = 0) && !q2 else if rule = 8 then !decide (gn = 0) && !q3 else if rule = 9 then !q4 else false) :=
  Lib.hid (fun rule => by rw [hq1,hq2,hq3,hq4,hgl]; rfl)
 rw [← hq1] at HHE
 rw [← hq2] at HHS
 rw [← hq3] at HEX
 rw [← hq4] at HAC
 obtain ⟨W1,hW1⟩:∃ W1,(w.alloc (.cells #[.string nm,.slice eA en ec,.slice vA vn vc,.slice sA sn sc] 26)).alloc (.cells #[.string ev,.slice gA gn gc,.slice aA an ac,.string tg] 62) = W1:=⟨_,rfl⟩
 obtain ⟨k1,k2,hb1,-⟩:=KitC.pair_blocks (o:=(.cells #[.string nm,.slice eA en ec,.slice vA vn vc,.slice sA sn sc] 26)) (p:=.cells #[.string ev,.slice gA gn gc,.slice aA an ac,.string tg] 62) (w:=w) (Below.refl _ _)
 rw [hW1] at k1 k2 hb1
 have HW1:=Lib.hid hW1
 have HB1:=Lib.hid hb1
 obtain ⟨c0,c1,c2,c3⟩:=cells_4 k1
 obtain ⟨d0,d1,d2,d3⟩:=cells_4 k2
 clear h hvn hsn hen hT hf hwg hwa hgl hes hvs hss hnm hq1 hq2 hq3 hq4 hW1 k1 k2 hb1
 by_cases e0:gn = 0
 ·have HR:Hid ((!brT es vs ss 8 ⟨ev,g,acts,tg⟩) = true):=Lib.hid (by rw [HBR.out]; simp [e0])
  have g0:((gn:Int) == 0) = true:=by simp; omega
  clear e0 HBR HGL
  go_enter Tryz.func58,Tryz.ntmps58
  go_wp2_with fail
  go_ret
  exact ⟨ret_bool HR.out.symm,by rw [HW1.out]; exact HB1.out⟩
 ·have HR:Hid ((!brT es vs ss 8 ⟨ev,g,acts,tg⟩) = q3):=Lib.hid (by rw [HBR.out]; simp [e0])
  have g0:((gn:Int) == 0) = false:=by simp; omega
  have HE0:Hid (¬ g.length = 0):=Lib.hid (by rw [← HGL.out]; exact e0)
  clear e0 HBR HGL
  go_enter Tryz.func58,Tryz.ntmps58
  go_wp2_with (rw [HW1.out]; go_at_call 77; go_fit (HEX.out HE0.out _ HB1.out))
  rintro e w2 ⟨rfl,hb2⟩
  have HB2:=Lib.hid hb2
  clear hb2
  go_wp2_with fail
  go_ret
  exact ⟨ret_bool HR.out.symm,below_two' HB1.out HB2.out⟩
set_option maxRecDepth 100000 in
set_option maxHeartbeats 4000000 in
theorem rtrans14_9:Calls Tryz.prog 58 #[.agg #[.string x.s,.slice eA en ec,.slice vA vn vc,.slice sA sn sc],.int .i64 9,.agg #[.string t.ev,.slice gA gn gc,.slice aA an ac,.string t.tg]] w (RetB w (!brT x.evs (vnC x) (snC x) 9 t)):=by
 have HHE:=Lib.hid (fun W (hW:Below w.heap.size w W) => rhasEvent_any x eA en ec vA vn vc sA sn sc W (h.keep hW) t.ev hen)
 have HHS:=Lib.hid (fun W (hW:Below w.heap.size w W) => rhasState_any x eA en ec vA vn vc sA sn sc W (h.keep hW) t.tg hsn)
 have HEX:=Lib.hid (fun (hz:¬ t.g.length = 0) W (hW:Below w.heap.size w W) => rexpr14_any x eA en ec vA vn vc sA sn sc W (h.keep hW) gA gn gc t.g 2 (hT.g.keep hW) (hwg hz) (by have:=hT.len.1; have:=hf.gl; omega) hvn hsn)
 have HAC:=Lib.hid (fun W (hW:Below w.heap.size w W) => racts14_any x eA en ec vA vn vc sA sn sc W (h.keep hW) hvn hsn aA an ac t.acts true (hT.a.keep hW) hwa hf.a (by have:=hT.len.2; have:=hf.al; omega))
 have hgl:=hT.len.1
 have HGL:=Lib.hid hgl
 obtain ⟨es,hes⟩:∃ es,es = x.evs:=⟨_,rfl⟩
 obtain ⟨vs,hvs⟩:∃ vs,vs = vnC x:=⟨_,rfl⟩
 obtain ⟨ss,hss⟩:∃ ss,ss = snC x:=⟨_,rfl⟩
 obtain ⟨nm,hnm⟩:∃ nm,nm = x.s:=⟨_,rfl⟩
 rw [← hes,← hnm] at HHE
 rw [← hss,← hnm] at HHS
 rw [← hss,← hvs,← hnm] at HEX HAC
 rw [← hes,← hvs,← hss,← hnm]
 obtain ⟨ev,g,acts,tg⟩:=t
 simp only at HHE HHS HEX HAC hgl HGL
 obtain ⟨q1,hq1⟩:∃ q,q = hasS es ev:=⟨_,rfl⟩
 obtain ⟨q2,hq2⟩:∃ q,q = hasS ss tg:=⟨_,rfl⟩
 obtain ⟨q3,hq3⟩:∃ q,q = exprR vs ss g 2:=⟨_,rfl⟩
 obtain ⟨q4,hq4⟩:∃ q,q = actsR vs ss true acts:=⟨_,rfl⟩
 have HBR:Hid (∀ rule,brT es vs ss rule ⟨ev,g,acts,tg⟩ = if rule = 6 then !decide (ev.size = 0) && !q1 else if rule = 7 then !decide (tg.size = 0) && !q2 else if rule = 8 then !decide (gn = 0) && !q3 else if rule = 9 then !q4 else false) :=
  Lib.hid (fun rule => by rw [hq1,hq2,hq3,hq4,hgl]; rfl)
 rw [← hq1] at HHE
 rw [← hq2] at HHS
 rw [← hq3] at HEX
 rw [← hq4] at HAC
 obtain ⟨W1,hW1⟩:∃ W1,(w.alloc (.cells #[.string nm,.slice eA en ec,.slice vA vn vc,.slice sA sn sc] 26)).alloc (.cells #[.string ev,.slice gA gn gc,.slice aA an ac,.string tg] 62) = W1:=⟨_,rfl⟩
 obtain ⟨k1,k2,hb1,-⟩:=KitC.pair_blocks (o:=(.cells #[.string nm,.slice eA en ec,.slice vA vn vc,.slice sA sn sc] 26)) (p:=.cells #[.string ev,.slice gA gn gc,.slice aA an ac,.string tg] 62) (w:=w) (Below.refl _ _)
 rw [hW1] at k1 k2 hb1
 have HW1:=Lib.hid hW1
 have HB1:=Lib.hid hb1
 obtain ⟨c0,c1,c2,c3⟩:=cells_4 k1
 obtain ⟨d0,d1,d2,d3⟩:=cells_4 k2
 clear h hvn hsn hen hT hf hwg hwa hgl hes hvs hss hnm hq1 hq2 hq3 hq4 hW1 k1 k2 hb1
 have HR:Hid ((!brT es vs ss 9 ⟨ev,g,acts,tg⟩) = q4):=Lib.hid (by rw [HBR.out]; simp)
 clear HBR HGL
 go_enter Tryz.func58,Tryz.ntmps58
 go_wp2_with (rw [HW1.out]; go_at_call 57; go_fit (HAC.out _ HB1.out))
 rintro e w2 ⟨rfl,hb2⟩
 have HB2:=Lib.hid hb2
 clear hb2
 go_wp2_with fail
 go_ret
 exact ⟨ret_bool HR.out.symm,below_two' HB1.out HB2.out⟩
theorem rtrans14_any (rule:Int) (hr:rule = 6 ∨ rule = 7 ∨ rule = 8 ∨ rule = 9):Calls Tryz.prog 58 #[.agg #[.string x.s,.slice eA en ec,.slice vA vn vc,.slice sA sn sc],.int .i64 rule,.agg #[.string t.ev,.slice gA gn gc,.slice aA an ac,.string t.tg]] w (RetB w (!brT x.evs (vnC x) (snC x) rule t)):=by
 rcases hr with rfl | rfl | rfl | rfl
 ·exact rtrans14_6 x eA en ec vA vn vc sA sn sc w h hvn hsn t gA gn gc aA an ac hT hf hen hwg hwa
 ·exact rtrans14_7 x eA en ec vA vn vc sA sn sc w h hvn hsn t gA gn gc aA an ac hT hf hen hwg hwa
 ·exact rtrans14_8 x eA en ec vA vn vc sA sn sc w h hvn hsn t gA gn gc aA an ac hT hf hen hwg hwa
 ·exact rtrans14_9 x eA en ec vA vn vc sA sn sc w h hvn hsn t gA gn gc aA an ac hT hf hen hwg hwa
end
end
end Go.Proofs.YtckojimeglkobaaGreatDoor