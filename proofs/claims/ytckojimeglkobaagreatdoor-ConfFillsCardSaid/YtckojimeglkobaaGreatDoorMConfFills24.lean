/- RulesAll, PrintRead, PrintTree, PrintStates, SynParse, PrintScan, PrintIn, joined. -/
import Derived.Test.YtckojimeglkobaaGreatDoorMConfFills21
import Derived.Test.YtckojimeglkobaaGreatDoorMConfFills23
import Derived.Test.YtckojimeglkobaaGreatDoorMConfFills17
import Derived.Test.YtckojimeglkobaaGreatDoorMConfFills11
import Derived.Test.YtckojimeglkobaaGreatDoorMConfFills05
namespace Go.Proofs.YtckojimeglkobaaGreatDoor
open Go.RowKit TermSpec NamesSpec EvalSpec ActSpec TransSpec SynSpec RulesSpec PrintSpec
open ShapeSpec (Sh)
set_option maxRecDepth 100000
structure FewR (x:Cx):Prop where
 evs:∀ s ∈ x.evs,s.size ≤ 9223372036854775807
 evl:x.evs.length ≤ 1000
 vars:∀ v ∈ x.vars,v.s.size ≤ 9223372036854775807 ∧ VFit v
 val:x.vars.length ≤ 1000
 sts:∀ s ∈ x.sts,s.s.size ≤ 9223372036854775807 ∧ FewSt s ∧ s.tr.length ≤ 100
 stl:x.sts.length ≤ 1000
def PuRel (W1:World) (F:Nat → List Fw) (n:Nat) (p i:Value) (wr:World):Prop:=∃ k:Nat,k ≤ n ∧ i = .int .i64 k ∧ Hid (RowF W1 wr p (F k))
def FlIn (W1:World) (P:List Fw) (g n c base:Nat) (bs:List Bool) (p:Value) (wr:World):Prop :=
 RowF W1 wr p P ∧ wr.ownsRow base 4 1 (.slice (some ⟨g,0,none⟩) n c) n (bolV bs) ∧ p.ownBlock ≠ some g
theorem FlIn.add {W1 wr w2:World} {P:List Fw} {g n c base:Nat} {bs:List Bool} {p p':Value} {f:Fw} {o:Obj} (h:FlIn W1 P g n c base bs p wr) (hrow:w2.ownsRow W1.heap.size 118 3 p' (P.length + 1) (fwsV P ++ fwsV [f])) (hg:(wr.alloc o).grownBy w2 p.ownBlock)
 (hb:p'.ownBlock = p.ownBlock ∨ p'.ownBlock = some (wr.alloc o).heap.size):FlIn W1 (P ++ [f]) g n c base bs p' w2:=by
 obtain ⟨h1,h2,h3⟩:=h
 have hgl:=own_block_bd h2 g rfl
 refine ⟨h1.add hrow hg,(h2.alloc o).kept hg (.inr (fun e => h3 e.symm)),?_⟩
 rcases hb with hb | hb
 ·rw [hb]; exact h3
 ·rw [hb,World.size_alloc]
  intro e
  have:=Option.some.inj e
  omega
def FlRel (W1:World) (P:List Fw) (r:Int) (i g n c base:Nat) (bs:List Bool) (p v:Value) (wr:World):Prop :=
 ∃ j:Nat,j ≤ n ∧ v = .int .i64 j ∧ Hid (FlIn W1 (P ++ flTo r i bs j) g n c base bs p wr)
theorem RowF.below {W1 wr:World} {p:Value} {l:List Fw} (h:RowF W1 wr p l):Below W1.heap.size W1 wr:=h.2
theorem bools_at {w:World} {base g n c j:Nat} {bs:List Bool} {q:Bool} (h:w.ownsRow base 4 1 (.slice (some ⟨g,0,none⟩) n c) n (bolV bs)) (hj:bs[j]? = some q):w.cell? ⟨g,j,none⟩ = some (.bool q):=by
 have hl:=h.1
 have hlt:=get_lt hj
 have hln:(bolV bs).length = bs.length:=List.length_map _
 exact (World.ownsRow.cellAt h j (by omega)).trans (by unfold bolV; rw [List.getElem?_map,hj]; rfl)
set_option maxRecDepth 100000 in
set_option maxHeartbeats 16000000 in
theorem parts_any (x:Cx) (rule:Int) (eA:Option Addr) (en ec:Nat) (vA:Option Addr) (vn vc:Nat) (sA:Option Addr) (sn sc:Nat) (w:World) (h:ChIn w (.slice eA en ec) (.slice vA vn vc) (.slice sA sn sc) x) (hf:FewR x) :
 Calls Tryz.prog 95 #[.agg #[.string x.s,.slice eA en ec,.slice vA vn vc,.slice sA sn sc],.int .i64 rule] w (RetFw w (ptTo x.evs (vnC x) (snC x) rule x.sts x.sts.length)):=by
 obtain ⟨hsn,-⟩:=h.sts.len
 have hsn':sn ≤ 1000:=by have:=hf.stl; omega
 have HKN:=Lib.hid (fun W (hW:Below w.heap.size w W) => known_any x eA en ec vA vn vc sA sn sc W (h.keep hW) (by have:=hf.evl; omega) (by have:=hf.val; omega) (by have:=hf.stl; omega) (fun s hs => by have:=hf.evs s hs; unfold maxLen; omega) (fun v hv => by have:=(hf.vars v hv).1; unfold maxLen; omega) (fun s hs => by have:=(hf.sts s hs).1; unfold maxLen; omega))
 have HST:=Lib.hid (fun W (hW:Below w.heap.size w W) => h.sts.keep hW)
 have HF:=Lib.hid hf.sts
 obtain ⟨es,hes⟩:∃ es,es = x.evs:=⟨_,rfl⟩
 obtain ⟨vs,hvs⟩:∃ vs,vs = vnC x:=⟨_,rfl⟩
 obtain ⟨ss,hss⟩:∃ ss,ss = snC x:=⟨_,rfl⟩
 obtain ⟨l,hl⟩:∃ l,l = x.sts:=⟨_,rfl⟩
 obtain ⟨nm,hnm⟩:∃ nm,nm = x.s:=⟨_,rfl⟩
 have HPL:=Lib.hid (fun (k:Nat) => ptTo_length (es:=es) (vs:=vs) (ss:=ss) (rule:=rule) (l:=l) (fun s hs => (hf.sts s (hl ▸ hs)).2.2) k)
 rw [← hes,← hvs,← hss,← hnm] at HKN
 rw [← hl] at HST HF hsn
 rw [← hes,← hvs,← hss,← hl,← hnm,← hsn]
 have HN:=Lib.hid hsn
 obtain ⟨i0,hi,hz0,hz1,hz2⟩:=info_parts inf_flaw
 have HI:=Lib.hid (And.intro hi (And.intro hz0 (And.intro hz1 hz2)))
 have hfb:=fw_three
 obtain ⟨W1,hW1⟩:∃ W1,w.alloc (.cells #[.string nm,.slice eA en ec,.slice vA vn vc,.slice sA sn sc] 26) = W1:=⟨_,rfl⟩
 have hb1:Below w.heap.size w W1:=by rw [← hW1]; exact KitC.below_one _ _
 have hk1:W1.heap[w.heap.size]? = some (.cells #[.string nm,.slice eA en ec,.slice vA vn vc,.slice sA sn sc] 26):=by rw [← hW1]; exact heap_alloc_new _ _
 have HK:=Lib.hid (fun W (hW:Below W1.heap.size W1 W) => KitC.block_on hk1 hW)
 have HW1:=Lib.hid hW1
 have HB1:=Lib.hid hb1
 obtain ⟨c0,c1,c2,c3⟩:=cells_4 hk1
 clear h hf hes hvs hss hl hnm hsn hW1 hb1 hk1 hi hz0 hz1 hz2
 go_enter Tryz.func95,Tryz.ntmps95
 go_wp2_with (rw [HW1.out]; go_at_call 110; go_fit (HKN.out _ HB1.out))
 rintro e w2 ⟨a,b,c,rfl,hwd,hb2⟩
 have HB2:=Lib.hid hb2
 obtain ⟨c0',c1',c2',c3'⟩:=cells_4 (HK.out _ hb2)
 have hws:w.heap.size < w2.heap.size:=(Array.getElem?_eq_some_iff.1 (HK.out _ hb2)).1
 obtain ⟨W3,hW3⟩:∃ W3,w2.alloc (.cells #[.map (some a),.map (some b),.map (some c)] 163) = W3:=⟨_,rfl⟩
 have hb3:Below w2.heap.size w2 W3:=by rw [← hW3]; exact KitC.below_one _ _
 have hk3:W3.heap[w2.heap.size]? = some (.cells #[.map (some a),.map (some b),.map (some c)] 163):=by rw [← hW3]; exact heap_alloc_new _ _
 have HK3:=Lib.hid (fun W (hW:Below W3.heap.size W3 W) => KitC.block_on hk3 hW)
 have HWD:=Lib.hid (fun W (hW:Below W3.heap.size W3 W) => hwd.keep (below_two' hb3 hW))
 have HW3:=Lib.hid hW3
 have HB3:=Lib.hid (below_two' (below_two' HB1.out HB2.out) hb3)
 clear hwd hb2 hW3 hb3 hk3 c0 c1 c2 c3
 go_wp2_with fail
 rw [HW3.out]
 clear c0' c1' c2' c3' hws
 go_loopw [5,16] (fun p i wr => PuRel W3 (ptTo es vs ss rule l) sn p i wr) (fun _ i _ => sn - (intOf i).toNat)
 case atStart => exact ⟨0,Nat.zero_le _,rfl,Lib.hid (RowF.nil _ _ (Below.refl _ _))⟩
 case round =>
  obtain ⟨k,hk,rfl,HR⟩:=hrel
  by_cases hlt:k < sn
  case neg =>
   obtain rfl:k = sn:=by omega
   go_wp2_with fail
   go_ret
   obtain ⟨A,n,cp,he,hn,hfw,hbw⟩:=HR.out.ret
   exact ⟨A,n,cp,he,hn,hfw,below_two' HB3.out hbw⟩
  obtain ⟨s,hs⟩:∃ s,l[k]? = some s:=get_some (by rw [← HN.out]; exact hlt)
  have HBW:=Lib.hid (below_two' HB3.out HR.out.below)
  obtain ⟨bb,off,a3,n3,m3,a4,n4,m4,a5,n5,m5,rfl,hb,d0,d1,d2,d3,d4,d5,k3,k4,k5⟩:=(HST.out _ HBW.out).at_ hs
  have hkI:(k:Int) < sn:=by omega
  have HFS:=Lib.hid (HF.out s (List.mem_of_getElem? hs))
  have HNX:=Lib.hid (ptTo_next (es:=es) (vs:=vs) (ss:=ss) (rule:=rule) hs)
  obtain ⟨P,hP⟩:∃ P,P = ptTo es vs ss rule l k:=⟨_,rfl⟩
  have hPL:=HPL.out k
  rw [← hP] at hPL
  have hbl:(brS es vs ss rule s).length ≤ 100:=by
   unfold brS
   split
   ·simp
   ·rw [List.length_map]; exact HFS.out.2.2
  obtain ⟨bs,hbs⟩:∃ bs,bs = brS es vs ss rule s:=⟨_,rfl⟩
  have HCB:=Lib.hid (fun W (hW:Below wr.heap.size wr W) => broken_any a b c es vs ss s a3 n3 m3 a4 n4 m4 a5 n5 m5 W (HWD.out _ (below_two' HR.out.below hW)) (k3.keep hW) (k4.keep hW) (k5.keep hW) HFS.out.2.1 rule)
  rw [← hbs] at HCB hbl HNX
  rw [← hP] at HR HNX
  obtain ⟨sm,kd,pr,sen,sex,str⟩:=s
  simp only at d0 d1 d2 HCB
  obtain ⟨e0,e1,e2⟩:=cells_3 (HK3.out _ HR.out.below)
  have hws:w2.heap.size < wr.heap.size:=(Array.getElem?_eq_some_iff.1 (HK3.out _ HR.out.below)).1
  obtain ⟨W4,hW4⟩:∃ W4,wr.alloc (.cells #[.string sm,.int .i64 kd,.int .i64 pr,.slice a3 n3 m3,.slice a4 n4 m4,.slice a5 n5 m5] 58) = W4:=⟨_,rfl⟩
  have HB4:=Lib.hid (show Below wr.heap.size wr W4 by rw [← hW4]; exact KitC.below_one _ _)
  have HW4:=Lib.hid hW4
  clear hs k3 k4 k5 hP hbs hW4
  go_wp2_with (rw [HW4.out]; go_at_call 111; go_fit (HCB.out _ HB4.out))
  rintro e w5 ⟨g5,n5',c5',rfl,hn5,hg5,hrd,hb5⟩
  have HB5:=Lib.hid (below_two' HB4.out hb5)
  have HNB:=Lib.hid hn5
  have HR5:Hid (FlIn W3 P g5 n5' c5' W4.heap.size bs u5 w5):=Lib.hid ⟨HR.out.keep HB5.out,hrd,fun e => by have h1:=own_block_bd HR.out.1 g5 e; have h2:=HB4.out.size; omega⟩
  have hbl':n5' ≤ 100:=by omega
  clear hrd hb5 hn5 hg5 d0 d1 d2 d3 d4 d5 e0 e1 e2 hws
  go_wp2_with fail
  go_loopw [5,26] (fun p i wr => FlRel W3 P rule k g5 n5' c5' W4.heap.size bs p i wr) (fun _ i _ => n5' - (intOf i).toNat)
  case atStart => exact ⟨0,Nat.zero_le _,rfl,Lib.hid (by show FlIn _ (P ++ []) _ _ _ _ _ _ _; rw [List.append_nil]; exact HR5.out)⟩
  case round =>
   obtain ⟨j,hj,rfl,HL⟩:=hrel
   by_cases hlj:j < n5'
   case neg =>
    obtain rfl:j = n5':=by omega
    have HE:=Lib.hid HL.out.1
    rw [HNB.out,← HNX.out] at HE
    go_wp2_with fail
    go_roundw
    case rel => exact ⟨k + 1,hlt,by simp,HE⟩
    case measure => simp [intOf]; omega
   have hjI:(j:Int) < n5':=by omega
   obtain ⟨q,hq⟩:∃ q,bs[j]? = some q:=get_some (by rw [← HNB.out]; exact hlj)
   have hc5:=bools_at HL.out.2.1 hq
   have hg5l:=(own_block_bd HL.out.2.1 g5 rfl).2
   cases q with
   | false =>
     have HE:=Lib.hid HL.out
     rw [← flTo_no (rule:=rule) (i:=k) hq] at HE
     clear hq
     go_wp2_with fail
     go_roundw
     case rel => exact ⟨j + 1,hlj,by simp,HE⟩
     case measure => simp [intOf]; omega
   | true =>
     have HE:Hid (P ++ flTo rule k bs (j + 1) = (P ++ flTo rule k bs j) ++ [⟨rule,k,j⟩]):=Lib.hid (by rw [flTo_yes hq,List.append_assoc])
     have hll:=flTo_length rule k bs j
     have HL1:Hid ((P ++ flTo rule k bs j).length + 1 ≤ maxLen):=Lib.hid (by rw [List.length_append]; simp [maxLen]; omega)
     have HL2:Hid (((P ++ flTo rule k bs j).length + 1) * 24 ≤ 140737488355328):=Lib.hid (by rw [List.length_append]; omega)
     have HSZ:Hid (W3.heap.size ≤ wr.heap.size):=Lib.hid HL.out.1.2.size
     clear hq hll
     go_wp2_with (at_builtin; refine wpList_append_rdk _ rfl (.tmp 32) (.tmp 37) _ rfl W3.heap.size 118 i0 (.agg #[.int .i64 0,.int .i64 0,.int .i64 0]) 3 24 Tryz.underlying80 HI.out.1 HI.out.2.1 HI.out.2.2.1 HI.out.2.2.2 rfl (by decide) _ _ _ rfl (HL.out.1.1.alloc _) _ 1 (fwsV [⟨rule,k,j⟩]) rfl (fw_lit rfl rfl) (fwsV_one _) HL1.out HL2.out ?_ ?_; (have:=HSZ.out; simp; omega); intro p2 w6 hrow2 hg2 hob; have HR2:=Lib.hid (FlIn.add HL.out hrow2 hg2 hob); clear hrow2 hg2 hob)
     go_roundw
     case rel => exact ⟨j + 1,hlj,by simp,Lib.hid (by rw [HE.out]; exact HR2.out)⟩
     case measure => simp [intOf]; omega
section
variable (x:Cx) (eA:Option Addr) (en ec:Nat) (vA:Option Addr) (vn vc:Nat) (sA:Option Addr) (sn sc:Nat) (w:World) (h:ChIn w (.slice eA en ec) (.slice vA vn vc) (.slice sA sn sc) x) (hf:FewR x) (hc:ShapeSpec.chk (x.sts.map shOf) = 0)
include h hf hc
set_option maxRecDepth 100000 in
set_option maxHeartbeats 8000000 in
theorem rbroken_any (rule:Int):Calls Tryz.prog 69 #[.agg #[.string x.s,.slice eA en ec,.slice vA vn vc,.slice sA sn sc],.int .i64 rule] w (RetFw w (brk x rule)):=by
 obtain ⟨hvn,-⟩:=h.vars.len
 obtain ⟨hsn,-⟩:=h.sts.len
 have h1:=hf.evl; have h2:=hf.val; have h3:=hf.stl
 have HIT:=Lib.hid (fun (r:Int) v (l:List Int) W (hr:Rd W v (intV l)) (hl:l.length ≤ 1000) => items_any r v l W hr (by omega))
 have HTE:=Lib.hid (fun W (hW:Below w.heap.size w W) => twins_any (.slice eA en ec) x.evs W (Rd.keep h.evs hW) (by omega) (fun s hs => by have:=hf.evs s hs; unfold maxLen; omega))
 have HTW:=Lib.hid (fun v (l:List ByteArray) W (hv:Rd W v (strV l)) (hl:l.length ≤ 1000) (hs:∀ s ∈ l,s.size ≤ maxLen) => twins_any v l W hv (by omega) hs)
 have HSV:=Lib.hid (fun W (hW:Below w.heap.size w W) => saidVars_any vA vn vc x.vars W (Rdk.keep h.vars hW) (by omega))
 have HSS:=Lib.hid (fun W (hW:Below w.heap.size w W) => saidSts_any sA sn sc x.sts W (h.sts.keep hW) (by omega))
 have HIL:=Lib.hid (fun W (hW:Below w.heap.size w W) => ill_any vA vn vc x.vars W (Rdk.keep h.vars hW) (by omega) (fun v hv => (hf.vars v hv).2))
 have HLO:=Lib.hid (fun W (hW:Below w.heap.size w W) => lonely_any sA sn sc x.sts W (h.sts.keep hW) (by omega) hc)
 have HPA:=Lib.hid (fun W (hW:Below w.heap.size w W) => parts_any x rule eA en ec vA vn vc sA sn sc W (h.keep hW) hf)
 have HVN:Hid ((vnC x).length ≤ 1000 ∧ ∀ s ∈ vnC x,s.size ≤ maxLen):=Lib.hid ⟨by unfold vnC; rw [List.length_map]; omega,fun s hs => by obtain ⟨v,hv,rfl⟩:=List.mem_map.1 hs; have:=(hf.vars v hv).1; unfold maxLen; omega⟩
 have HSN:Hid ((snC x).length ≤ 1000 ∧ ∀ s ∈ snC x,s.size ≤ maxLen):=Lib.hid ⟨by unfold snC; rw [List.length_map]; omega,fun s hs => by obtain ⟨v,hv,rfl⟩:=List.mem_map.1 hs; have:=(hf.sts v hv).1; unfold maxLen; omega⟩
 have HE1:Hid ((twins x.evs).length ≤ 1000):=Lib.hid (Nat.le_trans (twinsTo_length _ _) h1)
 have HE2:Hid ((twins (vnC x)).length ≤ 1000):=Lib.hid (Nat.le_trans (twinsTo_length _ _) HVN.out.1)
 have HE3:Hid ((plTo (illB x.vars) x.vars.length).length ≤ 1000):=Lib.hid (Nat.le_trans (plTo_length _ _) h2)
 have HE4:Hid ((twins (snC x)).length ≤ 1000):=Lib.hid (Nat.le_trans (twinsTo_length _ _) HSN.out.1)
 have HE5:Hid ((plTo (loneB (x.sts.map shOf)) x.sts.length).length ≤ 1000):=Lib.hid (Nat.le_trans (plTo_length _ _) h3)
 obtain ⟨nm,hnm⟩:∃ nm,nm = x.s:=⟨_,rfl⟩
 rw [← hnm] at HPA ⊢
 obtain ⟨W1,hW1⟩:∃ W1,w.alloc (.cells #[.string nm,.slice eA en ec,.slice vA vn vc,.slice sA sn sc] 26) = W1:=⟨_,rfl⟩
 have hb1:Below w.heap.size w W1:=by rw [← hW1]; exact KitC.below_one _ _
 have hk1:W1.heap[w.heap.size]? = some (.cells #[.string nm,.slice eA en ec,.slice vA vn vc,.slice sA sn sc] 26):=by rw [← hW1]; exact heap_alloc_new _ _
 have HW1:=Lib.hid hW1
 have HB1:=Lib.hid hb1
 obtain ⟨c0,c1,c2,c3⟩:=cells_4 hk1
 by_cases k1:rule = 1
 ·subst k1
  have HR:Hid (brk x 1 = itemsF 1 (twins x.evs)):=Lib.hid rfl
  rw [HR.out]
  clear h hf hc hvn hsn h1 h2 h3 hnm hW1 hb1 hk1
  go_enter Tryz.func69,Tryz.ntmps69
  go_wp2_with (rw [HW1.out]; go_at_call 88; go_fit (HTE.out _ HB1.out))
  rintro e w2 ⟨v2,rfl,hv2,hb2⟩
  have HB2:=Lib.hid (below_two' HB1.out hb2)
  have HV2:=Lib.hid hv2
  clear hb2 hv2
  have HBL:=Lib.hid HB2.out
  go_wp2_with (go_at_call 87; go_fit (HIT.out 1 v2 _ _ HV2.out HE1.out))
  rintro e w9 ⟨A,n,c,rfl,hn,hfw,hb9⟩
  have HF:=Lib.hid hfw
  have HB9:=Lib.hid (below_two' HBL.out hb9)
  have HN:=Lib.hid hn
  clear hfw hb9 hn
  go_wp2_with fail
  go_ret
  exact ⟨A,n,c,rfl,HN.out,HF.out,HB9.out⟩
 by_cases k2:rule = 2
 ·subst k2
  have HR:Hid (brk x 2 = itemsF 2 (twins (vnC x))):=Lib.hid rfl
  rw [HR.out]
  clear h hf hc hvn hsn h1 h2 h3 hnm hW1 hb1 hk1
  go_enter Tryz.func69,Tryz.ntmps69
  go_wp2_with (rw [HW1.out]; go_at_call 89; go_fit (HSV.out _ HB1.out))
  rintro e w2 ⟨v2,rfl,hv2,hb2⟩
  have HB2:=Lib.hid (below_two' HB1.out hb2)
  have HV2:=Lib.hid hv2
  clear hb2 hv2
  go_wp2_with (go_at_call 88; go_fit (HTW.out v2 (vnC x) _ HV2.out HVN.out.1 HVN.out.2))
  rintro e w3 ⟨v3,rfl,hv3,hb3⟩
  have HB3:=Lib.hid (below_two' HB2.out hb3)
  have HV3:=Lib.hid hv3
  clear hb3 hv3
  have HBL:=Lib.hid HB3.out
  go_wp2_with (go_at_call 87; go_fit (HIT.out 2 v3 _ _ HV3.out HE2.out))
  rintro e w9 ⟨A,n,c,rfl,hn,hfw,hb9⟩
  have HF:=Lib.hid hfw
  have HB9:=Lib.hid (below_two' HBL.out hb9)
  have HN:=Lib.hid hn
  clear hfw hb9 hn
  go_wp2_with fail
  go_ret
  exact ⟨A,n,c,rfl,HN.out,HF.out,HB9.out⟩
 by_cases k4:rule = 4
 ·subst k4
  have HR:Hid (brk x 4 = itemsF 4 (twins (snC x))):=Lib.hid rfl
  rw [HR.out]
  clear h hf hc hvn hsn h1 h2 h3 hnm hW1 hb1 hk1
  go_enter Tryz.func69,Tryz.ntmps69
  go_wp2_with (rw [HW1.out]; go_at_call 92; go_fit (HSS.out _ HB1.out))
  rintro e w2 ⟨v2,rfl,hv2,hb2⟩
  have HB2:=Lib.hid (below_two' HB1.out hb2)
  have HV2:=Lib.hid hv2
  clear hb2 hv2
  go_wp2_with (go_at_call 88; go_fit (HTW.out v2 (snC x) _ HV2.out HSN.out.1 HSN.out.2))
  rintro e w3 ⟨v3,rfl,hv3,hb3⟩
  have HB3:=Lib.hid (below_two' HB2.out hb3)
  have HV3:=Lib.hid hv3
  clear hb3 hv3
  have HBL:=Lib.hid HB3.out
  go_wp2_with (go_at_call 87; go_fit (HIT.out 4 v3 _ _ HV3.out HE4.out))
  rintro e w9 ⟨A,n,c,rfl,hn,hfw,hb9⟩
  have HF:=Lib.hid hfw
  have HB9:=Lib.hid (below_two' HBL.out hb9)
  have HN:=Lib.hid hn
  clear hfw hb9 hn
  go_wp2_with fail
  go_ret
  exact ⟨A,n,c,rfl,HN.out,HF.out,HB9.out⟩
 by_cases k3:rule = 3
 ·subst k3
  have HR:Hid (brk x 3 = itemsF 3 (plTo (illB x.vars) x.vars.length)):=Lib.hid rfl
  rw [HR.out]
  clear h hf hc hvn hsn h1 h2 h3 hnm hW1 hb1 hk1
  go_enter Tryz.func69,Tryz.ntmps69
  go_wp2_with (rw [HW1.out]; go_at_call 91; go_fit (HIL.out _ HB1.out))
  rintro e w2 ⟨v2,rfl,hv2,hb2⟩
  have HB2:=Lib.hid (below_two' HB1.out hb2)
  have HV2:=Lib.hid hv2
  clear hb2 hv2
  have HBL:=Lib.hid HB2.out
  go_wp2_with (go_at_call 87; go_fit (HIT.out 3 v2 _ _ HV2.out HE3.out))
  rintro e w9 ⟨A,n,c,rfl,hn,hfw,hb9⟩
  have HF:=Lib.hid hfw
  have HB9:=Lib.hid (below_two' HBL.out hb9)
  have HN:=Lib.hid hn
  clear hfw hb9 hn
  go_wp2_with fail
  go_ret
  exact ⟨A,n,c,rfl,HN.out,HF.out,HB9.out⟩
 by_cases k5:rule = 5
 ·subst k5
  have HR:Hid (brk x 5 = itemsF 5 (plTo (loneB (x.sts.map shOf)) x.sts.length)):=Lib.hid rfl
  rw [HR.out]
  clear h hf hc hvn hsn h1 h2 h3 hnm hW1 hb1 hk1
  go_enter Tryz.func69,Tryz.ntmps69
  go_wp2_with (rw [HW1.out]; go_at_call 94; go_fit (HLO.out _ HB1.out))
  rintro e w2 ⟨v2,rfl,hv2,hb2⟩
  have HB2:=Lib.hid (below_two' HB1.out hb2)
  have HV2:=Lib.hid hv2
  clear hb2 hv2
  have HBL:=Lib.hid HB2.out
  go_wp2_with (go_at_call 87; go_fit (HIT.out 5 v2 _ _ HV2.out HE5.out))
  rintro e w9 ⟨A,n,c,rfl,hn,hfw,hb9⟩
  have HF:=Lib.hid hfw
  have HB9:=Lib.hid (below_two' HBL.out hb9)
  have HN:=Lib.hid hn
  clear hfw hb9 hn
  go_wp2_with fail
  go_ret
  exact ⟨A,n,c,rfl,HN.out,HF.out,HB9.out⟩
 have HR:Hid (brk x rule = ptTo x.evs (vnC x) (snC x) rule x.sts x.sts.length):=Lib.hid (by unfold brk; rw [if_neg k1,if_neg k2,if_neg k3,if_neg k4,if_neg k5])
 rw [HR.out]
 have g1:(rule == 1) = false:=by simpa using k1
 have g2:(rule == 2) = false:=by simpa using k2
 have g3:(rule == 3) = false:=by simpa using k3
 have g4:(rule == 4) = false:=by simpa using k4
 have g5:(rule == 5) = false:=by simpa using k5
 clear h hf hc hvn hsn h1 h2 h3 hnm hW1 hb1 hk1 k1 k2 k3 k4 k5
 have HBL:=Lib.hid HB1.out
 go_enter Tryz.func69,Tryz.ntmps69
 go_wp2_with (rw [HW1.out]; go_at_call 95; go_fit (HPA.out _ HB1.out))
 rintro e w9 ⟨A,n,c,rfl,hn,hfw,hb9⟩
 have HF:=Lib.hid hfw
 have HB9:=Lib.hid (below_two' HBL.out hb9)
 have HN:=Lib.hid hn
 clear hfw hb9 hn
 go_wp2_with fail
 go_ret
 exact ⟨A,n,c,rfl,HN.out,HF.out,HB9.out⟩
end
end Go.Proofs.YtckojimeglkobaaGreatDoor
namespace Go.Proofs.YtckojimeglkobaaGreatDoor
namespace PrintSpec
open CurSpec TermSpec EvalSpec NamesSpec ExprSpec ScanSpec ActSpec TransSpec SynSpec
open ShapeSpec (Sh up sf endOf)
end PrintSpec
end Go.Proofs.YtckojimeglkobaaGreatDoor
namespace Go.Proofs.YtckojimeglkobaaGreatDoor
namespace PrintSpec
open CurSpec TermSpec EvalSpec NamesSpec ExprSpec ScanSpec ActSpec TransSpec SynSpec
open ShapeSpec (Sh up sf endOf SU)
section
variable (sh:List Sh) (l:List Ts)
end
section
variable {sh:List Sh} {l:List Ts}
theorem kid_first (h:SU sh sh.length) {i:Nat} (hi:i < sh.length) (he:i + 1 < endOf sh i):up sh (i + 1) = sf sh i ∧ ShapeSpec.par sh (i + 1) = i ∧ i + 1 < sh.length:=by
 have hlt:i + 1 < sh.length:=by have:=(ShapeSpec.end_bd hi).2; omega
 have hin:=ShapeSpec.sf_up ((ShapeSpec.end_iff h hi hlt).2 ⟨by omega,he⟩) (by omega)
 obtain ⟨p,hp,hpl,hup,hpin⟩:=h.parn hlt (by omega)
 rw [Nat.add_sub_cancel] at hpin
 rw [hup] at hin
 have h1:=ShapeSpec.sf_le hpin
 have h2:=ShapeSpec.sf_le hin
 obtain rfl:p = i:=by omega
 exact ⟨hup,hp,hlt⟩
end
end PrintSpec
end Go.Proofs.YtckojimeglkobaaGreatDoor
namespace Go.Proofs.YtckojimeglkobaaGreatDoor
namespace PrintSpec
open CurSpec TermSpec EvalSpec NamesSpec ExprSpec ScanSpec ActSpec TransSpec SynSpec
open ShapeSpec (Sh up sf endOf SU)
structure Stand (sh:List Sh) (l:List Ts):Prop where
 eq:sh = l.map fun t => ⟨t.kind,t.par⟩
 su:SU sh sh.length
 deep:∀ i,i < sh.length → (up sh i).length ≤ 11
 few:sh.length ≤ 60
 ok:∀ t ∈ l,t.Ok
section
variable {sh:List Sh} {l:List Ts}
theorem Stand.len (H:Stand sh l):sh.length = l.length:=by rw [H.eq,List.length_map]
theorem Stand.at_ (H:Stand sh l) {i:Nat} (hi:i < sh.length):∃ t,l[i]? = some t ∧ t.Ok ∧ ShapeSpec.kind sh i = t.kind ∧ ShapeSpec.par sh i = t.par ∧ 1 ≤ t.kind ∧ t.kind ≤ 3:=by
 obtain ⟨t,ht⟩:=get_some (l:=l) (k:=i) (by rw [← H.len]; exact hi)
 have hs:sh[i]? = some ⟨t.kind,t.par⟩:=by rw [H.eq,List.getElem?_map,ht]; rfl
 have hk:=ShapeSpec.kind_at hs
 have hg:=H.su i hi
 simp only [ShapeSpec.goodB,Bool.and_eq_true,decide_eq_true_eq] at hg
 rw [hk] at hg
 exact ⟨t,ht,H.ok t (List.mem_of_getElem? ht),hk,ShapeSpec.par_at hs,hg.1.1,hg.1.2⟩
theorem Stand.leaf (H:Stand sh l) {i:Nat} (hi:i < sh.length) (hk:ShapeSpec.kind sh i = 1):endOf sh i = i + 1:=by
 obtain ⟨a1,a2⟩:=ShapeSpec.end_bd hi
 by_cases he:i + 1 < endOf sh i
 ·obtain ⟨-,h1,h2⟩:=kid_first H.su hi he
  have hg:=H.su (i + 1) h2
  simp only [ShapeSpec.goodB,ShapeSpec.hangB,Bool.and_eq_true,decide_eq_true_eq] at hg
  rw [if_neg (by omega)] at hg
  simp only [Bool.and_eq_true,decide_eq_true_eq,h1] at hg
  exact absurd hk hg.2.1.2
 ·omega
end
theorem Tc.Ok.stand {c:Tc} (h:c.Ok):Stand c.sh c.sts:=by
 obtain ⟨h1,h2,h3⟩:=ShapeSpec.chk_ok h.sh
 exact ⟨rfl,ShapeSpec.chk_su h.sh,h3,h1,h.sts⟩
end PrintSpec
end Go.Proofs.YtckojimeglkobaaGreatDoor
namespace Go.Proofs.YtckojimeglkobaaGreatDoor
open Go.RowKit CurSpec TermSpec EvalSpec ActSpec NamesSpec ExprSpec TransSpec SynSpec ScanSpec
end Go.Proofs.YtckojimeglkobaaGreatDoor
namespace Go.Proofs.YtckojimeglkobaaGreatDoor
namespace PrintSpec
open CurSpec TermSpec EvalSpec NamesSpec ExprSpec ScanSpec ActSpec TransSpec SynSpec
open ShapeSpec (Sh up sf endOf SU)
section
variable {sh:List Sh} {l:List Ts}
end
end PrintSpec
end Go.Proofs.YtckojimeglkobaaGreatDoor
namespace Go.Proofs.YtckojimeglkobaaGreatDoor
open Go.RowKit Go.Sort CurSpec TermSpec EvalSpec ActSpec NamesSpec ExprSpec TransSpec SynSpec PrintSpec
open ShapeSpec (Sh up sf endOf SU)
set_option maxRecDepth 100000
set_option maxHeartbeats 400000 in
theorem small_any (n:Int) (w:World):Calls Tryz.prog 53 #[.int .i64 n] w (SameB w (smallV n)):=by
 have HE:Hid (smallV n = (decide (-1000 ≤ n) && decide (n ≤ 1000))):=Lib.hid rfl
 by_cases h1:-1000 ≤ n
 ·have g1:decide (-1000 ≤ n) = true:=by simpa using h1
  have HE2:Hid (smallV n = decide (n ≤ 1000)):=Lib.hid (by rw [HE.out,g1,Bool.true_and])
  go_enter Tryz.func53,Tryz.ntmps53
  go_wp2
  go_ret
  exact ⟨ret_bool HE2.out.symm,rfl⟩
 ·have g1:decide (-1000 ≤ n) = false:=by simpa using h1
  have HE2:Hid (smallV n = false):=Lib.hid (by rw [HE.out,g1,Bool.false_and])
  go_enter Tryz.func53,Tryz.ntmps53
  go_wp2
  go_ret
  exact ⟨ret_bool HE2.out.symm,rfl⟩
end Go.Proofs.YtckojimeglkobaaGreatDoor