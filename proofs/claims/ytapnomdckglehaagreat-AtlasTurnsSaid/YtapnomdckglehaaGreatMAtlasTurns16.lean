/- RulesActs, RulesBreaks, joined. -/
import Derived.Test.YtapnomdckglehaaGreatMAtlasTurns15
import Derived.Test.YtapnomdckglehaaGreatMAtlasTurns05
namespace Go.Proofs.YtapnomdckglehaaGreat
open Go.RowKit TermSpec NamesSpec EvalSpec ActSpec SynSpec RulesSpec
set_option maxRecDepth 100000
def FewAc (a:Ac):Prop:=a.s.size ≤ 9223372036854775807 ∧ Small a.x ∧ a.x.length ≤ 1000000
theorem actR_no {vs ss:List ByteArray} {any:Bool} {a:Ac} (h:hasS vs a.s = false):actR vs ss any a = false:=by unfold actR; rw [h]; rfl
theorem actR_any {vs ss:List ByteArray} {any:Bool} {a:Ac} (h:hasS vs a.s = true) (h2:a.any = true):actR vs ss any a = any:=by unfold actR; rw [h,h2]; rfl
theorem actR_expr {vs ss:List ByteArray} {any:Bool} {a:Ac} (h:hasS vs a.s = true) (h2:a.any = false):actR vs ss any a = exprR vs ss a.x 1:=by unfold actR; rw [h,h2]; rfl
theorem actsR_next {vs ss:List ByteArray} {any:Bool} {l:List Ac} {k:Nat} {a:Ac} (ha:l[k]? = some a) (h:actsR vs ss any (l.take k) = true) (h2:actR vs ss any a = true):actsR vs ss any (l.take (k + 1)) = true:=by
 unfold actsR at h ⊢
 rw [take_next ha,List.all_append,h]
 simp [h2]
theorem actsR_stop {vs ss:List ByteArray} {any:Bool} {l:List Ac} {k:Nat} {a:Ac} (ha:l[k]? = some a) (h2:actR vs ss any a = false):actsR vs ss any l = false:=by
 unfold actsR
 rw [List.all_eq_false]
 exact ⟨a,List.mem_of_getElem? ha,by simp [h2]⟩
section
variable (a b c:Nat) (es vs ss:List ByteArray)
set_option maxRecDepth 100000 in
set_option maxHeartbeats 4000000 in
theorem wacts_in (A:Option Addr) (n cp:Nat) (l:List Ac) (w:World) (h:WdIn w a b c es vs ss) (hT:Acs w (.slice A n cp) l) (hf:∀ x ∈ l,FewAc x) (hm:n ≤ 1000000) :
 Calls Tryz.prog 174 #[.agg #[.map (some a),.map (some b),.map (some c)],.slice A n cp] w (RetB w (actsR vs ss true l)):=by
 have HN:=Lib.hid hT.len.1
 obtain ⟨W1,hW1⟩:∃ W1,w.alloc (.cells #[.map (some a),.map (some b),.map (some c)] 162) = W1:=⟨_,rfl⟩
 have hb1:Below w.heap.size w W1:=by rw [← hW1]; exact KitC.below_one _ _
 have hk1:W1.heap[w.heap.size]? = some (.cells #[.map (some a),.map (some b),.map (some c)] 162):=by rw [← hW1]; exact heap_alloc_new _ _
 have HK:=Lib.hid (fun W (hW:Below W1.heap.size W1 W) => KitC.block_on hk1 hW)
 have HT:=Lib.hid (fun W (hW:Below W1.heap.size W1 W) => hT.keep (below_two' hb1 hW))
 have HH:=Lib.hid (fun W (hW:Below W1.heap.size W1 W) => h.keep (below_two' hb1 hW))
 have HF:=Lib.hid hf
 have HW1:=Lib.hid hW1
 have HB1:=Lib.hid hb1
 obtain ⟨r,hr⟩:∃ r,r = actsR vs ss true l:=⟨_,rfl⟩
 have HR:=Lib.hid hr
 rw [← hr]
 clear h hT hf hW1 hb1 hk1 hr
 go_enter Tryz.func174,Tryz.ntmps174
 go_wp2_with fail
 rw [HW1.out]
 go_loopw [9] (fun i wr => ∃ k:Nat,k ≤ n ∧ i = .int .i64 k ∧ Hid (actsR vs ss true (l.take k) = true ∧ Below W1.heap.size W1 wr)) (fun i _ => n - (intOf i).toNat)
 case atStart => exact ⟨0,Nat.zero_le _,rfl,Lib.hid ⟨rfl,Below.refl _ _⟩⟩
 case round =>
  obtain ⟨k,hk,rfl,HL⟩:=hrel
  by_cases hlt:k < n
  ·obtain ⟨x,hx⟩:∃ x,l[k]? = some x:=get_some (by have:=HN.out; omega)
   obtain ⟨bb,off,xA,xn,xc,rfl,hb,htm,d0,d1,d2⟩:=(HT.out _ HL.out.2).at_ hx
   obtain ⟨f1,f2,f3⟩:=HF.out x (List.mem_of_getElem? hx)
   obtain ⟨_,_,_,heq,hxn,_⟩:=htm.shape
   cases heq
   have HSTOP:=Lib.hid (fun h2 => HR.out.trans (actsR_stop (vs:=vs) (ss:=ss) (any:=true) hx h2))
   have HNEXT:=Lib.hid (fun h2 => actsR_next hx HL.out.1 h2)
   have hkI:(k:Int) < n:=by omega
   obtain ⟨q,hq⟩:∃ q,q = hasS vs x.s:=⟨_,rfl⟩
   obtain ⟨r2,hr2⟩:∃ q,q = exprR vs ss x.x 1:=⟨_,rfl⟩
   have HNO:=Lib.hid (fun h2 => actR_no (vs:=vs) (ss:=ss) (any:=true) (a:=x) (hq.symm.trans h2))
   have HANY:=Lib.hid (fun h2 h3 => actR_any (vs:=vs) (ss:=ss) (any:=true) (a:=x) (hq.symm.trans h2) h3)
   have HEX:=Lib.hid (fun h2 h3 => (actR_expr (vs:=vs) (ss:=ss) (any:=true) (a:=x) (hq.symm.trans h2) h3).trans hr2.symm)
   have HHAS:=Lib.hid (fun W (hW:Below W1.heap.size W1 W) => has_in b vs x.s W (HH.out W hW).vs (by unfold maxLen; omega))
   have HEXPR:=Lib.hid (fun W (hW:Below W1.heap.size W1 W) (hT:Tms W (.slice xA xn xc) x.x) => wexpr_in a b c es vs ss xA xn xc x.x 1 W (HH.out W hW) hT (by omega) f2 (.inl rfl))
   rw [← hq] at HHAS
   rw [← hr2] at HEXPR
   obtain ⟨s,any,t⟩:=x
   simp only at d0 d1 d2 f1 f2 f3 htm hxn HANY HEX HHAS HEXPR HSTOP HNEXT
   obtain ⟨W2,hW2⟩:∃ W2,wr.alloc (.cells #[.string s,.bool any,.slice xA xn xc] 92) = W2:=⟨_,rfl⟩
   have hb2:Below wr.heap.size wr W2:=by rw [← hW2]; exact KitC.below_one _ _
   have hk2:W2.heap[wr.heap.size]? = some (.cells #[.string s,.bool any,.slice xA xn xc] 92):=by rw [← hW2]; exact heap_alloc_new _ _
   have HK2:=Lib.hid (fun W (hW:Below W2.heap.size W2 W) => KitC.block_on hk2 hW)
   have HTM:=Lib.hid (fun W (hW:Below W2.heap.size W2 W) => htm.keep (below_two' hb2 hW))
   have HB2:=Lib.hid (below_two' HL.out.2 hb2)
   have HW2:=Lib.hid hW2
   obtain ⟨c0,c1,c2⟩:=cells_3 (HK.out _ HL.out.2)
   have hws:w.heap.size < wr.heap.size:=(Array.getElem?_eq_some_iff.1 (HK.out _ HL.out.2)).1
   clear hx htm f1 f2 f3 hxn hq hr2 hW2 hb2 hk2
   cases q with
   | false =>
     have HE:=Lib.hid (HSTOP.out (HNO.out rfl))
     clear HSTOP HNEXT HNO HANY HEX
     go_wp2_with (rw [HW2.out]; go_at_call 175; go_fit (HHAS.out _ HB2.out))
     rintro e w3 ⟨rfl,hb3⟩
     have HB3:=Lib.hid (below_two' HB2.out hb3)
     clear hb3
     go_wp2_with fail
     go_ret
     exact ⟨ret_bool HE.out.symm,below_two' HB1.out HB3.out⟩
   | true =>
     cases any with
     | true =>
       have HE:=Lib.hid (HNEXT.out (HANY.out rfl rfl))
       clear HSTOP HNEXT HNO HANY HEX
       go_wp2_with (rw [HW2.out]; go_at_call 175; go_fit (HHAS.out _ HB2.out))
       rintro e w3 ⟨rfl,hb3⟩
       have HB3:=Lib.hid (below_two' HB2.out hb3)
       obtain ⟨e0',e1',e2'⟩:=cells_3 (HK2.out _ hb3)
       clear hb3
       go_wp2_with fail
       go_roundw
       case rel => exact ⟨k + 1,hlt,by simp,Lib.hid ⟨HE.out,HB3.out⟩⟩
       case measure => simp [intOf]; omega
     | false =>
       cases r2 with
       | false =>
         have HE:=Lib.hid (HSTOP.out (HEX.out rfl rfl))
         clear HSTOP HNEXT HNO HANY HEX
         go_wp2_with (rw [HW2.out]; go_at_call 175; go_fit (HHAS.out _ HB2.out))
         rintro e w3 ⟨rfl,hb3⟩
         have HB3:=Lib.hid (below_two' HB2.out hb3)
         obtain ⟨e0',e1',e2'⟩:=cells_3 (HK2.out _ hb3)
         obtain ⟨c0',c1',c2'⟩:=cells_3 (HK.out _ HB3.out)
         have HT3:=Lib.hid (HTM.out _ hb3)
         clear hb3
         go_wp2_with (go_at_call 176; go_fit (HEXPR.out _ HB3.out HT3.out))
         rintro e w4 ⟨rfl,hb4⟩
         have HB4:=Lib.hid (below_two' HB3.out hb4)
         clear hb4
         go_wp2_with fail
         go_ret
         exact ⟨ret_bool HE.out.symm,below_two' HB1.out HB4.out⟩
       | true =>
         have HE:=Lib.hid (HNEXT.out (HEX.out rfl rfl))
         clear HSTOP HNEXT HNO HANY HEX
         go_wp2_with (rw [HW2.out]; go_at_call 175; go_fit (HHAS.out _ HB2.out))
         rintro e w3 ⟨rfl,hb3⟩
         have HB3:=Lib.hid (below_two' HB2.out hb3)
         obtain ⟨e0',e1',e2'⟩:=cells_3 (HK2.out _ hb3)
         obtain ⟨c0',c1',c2'⟩:=cells_3 (HK.out _ HB3.out)
         have HT3:=Lib.hid (HTM.out _ hb3)
         clear hb3
         go_wp2_with (go_at_call 176; go_fit (HEXPR.out _ HB3.out HT3.out))
         rintro e w4 ⟨rfl,hb4⟩
         have HB4:=Lib.hid (below_two' HB3.out hb4)
         clear hb4
         go_wp2_with fail
         go_roundw
         case rel => exact ⟨k + 1,hlt,by simp,Lib.hid ⟨HE.out,HB4.out⟩⟩
         case measure => simp [intOf]; omega
  ·obtain rfl:k = n:=by omega
   have HE:Hid (r = true):=Lib.hid (by have h1:=HL.out.1; rw [List.take_of_length_le (by rw [← HN.out]; omega)] at h1; rw [HR.out,h1])
   go_wp2_with fail
   go_ret
   exact ⟨ret_bool HE.out.symm,below_two' HB1.out HL.out.2⟩
theorem noneAny_stop {l:List Ac} {k:Nat} {x:Ac} (hx:l[k]? = some x) (h:x.any = true):noneAny l = false:=by unfold noneAny; rw [List.all_eq_false]; exact ⟨x,List.mem_of_getElem? hx,by simp [h]⟩
theorem noneAny_next {l:List Ac} {k:Nat} {x:Ac} (hx:l[k]? = some x) (h0:noneAny (l.take k) = true) (h:x.any = false):noneAny (l.take (k + 1)) = true:=by unfold noneAny at h0 ⊢; rw [take_next hx,List.all_append,h0]; simp [h]
set_option maxRecDepth 100000 in
set_option maxHeartbeats 4000000 in
theorem wedge_in (A:Option Addr) (n cp:Nat) (l:List Ac) (w:World) (h:WdIn w a b c es vs ss) (hT:Acs w (.slice A n cp) l) (hf:∀ x ∈ l,FewAc x) (hm:n ≤ 1000000) :
 Calls Tryz.prog 155 #[.agg #[.map (some a),.map (some b),.map (some c)],.slice A n cp] w (RetB w (actsR vs ss false l)):=by
 have HN:=Lib.hid hT.len.1
 have HACTS:=Lib.hid (fun W (hW:Below w.heap.size w W) => wacts_in a b c es vs ss A n cp l W (h.keep hW) (hT.keep hW) hf hm)
 have HED:=Lib.hid (edge_is vs ss l)
 obtain ⟨r2,hr2⟩:∃ q,q = actsR vs ss true l:=⟨_,rfl⟩
 obtain ⟨r,hr⟩:∃ q,q = actsR vs ss false l:=⟨_,rfl⟩
 rw [← hr2] at HACTS HED
 rw [← hr] at HED ⊢
 obtain ⟨W1,hW1⟩:∃ W1,w.alloc (.cells #[.map (some a),.map (some b),.map (some c)] 162) = W1:=⟨_,rfl⟩
 have hb1:Below w.heap.size w W1:=by rw [← hW1]; exact KitC.below_one _ _
 have hk1:W1.heap[w.heap.size]? = some (.cells #[.map (some a),.map (some b),.map (some c)] 162):=by rw [← hW1]; exact heap_alloc_new _ _
 have HK:=Lib.hid (fun W (hW:Below W1.heap.size W1 W) => KitC.block_on hk1 hW)
 have HT:=Lib.hid (fun W (hW:Below W1.heap.size W1 W) => hT.keep (below_two' hb1 hW))
 have HW1:=Lib.hid hW1
 have HB1:=Lib.hid hb1
 clear h hT hf hW1 hb1 hk1 hr hr2
 go_enter Tryz.func155,Tryz.ntmps155
 go_wp2_with fail
 rw [HW1.out]
 go_loopw [9] (fun i wr => ∃ k:Nat,k ≤ n ∧ i = .int .i64 k ∧ Hid (noneAny (l.take k) = true ∧ Below W1.heap.size W1 wr)) (fun i _ => n - (intOf i).toNat)
 case atStart => exact ⟨0,Nat.zero_le _,rfl,Lib.hid ⟨rfl,Below.refl _ _⟩⟩
 case round =>
  obtain ⟨k,hk,rfl,HL⟩:=hrel
  by_cases hlt:k < n
  ·obtain ⟨x,hx⟩:∃ x,l[k]? = some x:=get_some (by have:=HN.out; omega)
   obtain ⟨bb,off,xA,xn,xc,rfl,hb,htm,d0,d1,d2⟩:=(HT.out _ HL.out.2).at_ hx
   have hkI:(k:Int) < n:=by omega
   have HSTOP:=Lib.hid (fun h => noneAny_stop hx h)
   have HNEXT:=Lib.hid (fun h => noneAny_next hx HL.out.1 h)
   obtain ⟨s,any,t⟩:=x
   simp only at d0 d1 d2 HSTOP HNEXT
   have HBA:=Lib.hid (below_two' HL.out.2 (KitC.below_one wr (.cells #[.string s,.bool any,.slice xA xn xc] 92)))
   clear hx htm
   cases any with
   | true =>
     have HE:Hid (r = false):=Lib.hid (by rw [HED.out,HSTOP.out rfl]; rfl)
     clear HSTOP HNEXT
     go_wp2_with fail
     go_ret
     exact ⟨ret_bool HE.out.symm,below_two' HB1.out HBA.out⟩
   | false =>
     have HE:=Lib.hid (HNEXT.out rfl)
     clear HSTOP HNEXT
     go_wp2_with fail
     go_roundw
     case rel => exact ⟨k + 1,hlt,by simp,Lib.hid ⟨HE.out,HBA.out⟩⟩
     case measure => simp [intOf]; omega
  ·obtain rfl:k = n:=by omega
   have HE:Hid (r = r2):=Lib.hid (by have h1:=HL.out.1; rw [List.take_of_length_le (by rw [← HN.out]; omega)] at h1; rw [HED.out,h1]; rfl)
   obtain ⟨c0,c1,c2⟩:=cells_3 (HK.out _ HL.out.2)
   go_wp2_with (go_at_call 174; go_fit (HACTS.out _ (below_two' HB1.out HL.out.2)))
   rintro e w3 ⟨rfl,hb3⟩
   have HB3:=Lib.hid (below_two' HL.out.2 hb3)
   clear hb3
   go_wp2_with fail
   go_ret
   exact ⟨ret_bool HE.out.symm,below_two' HB1.out HB3.out⟩
end
end Go.Proofs.YtapnomdckglehaaGreat
namespace Go.Proofs.YtapnomdckglehaaGreat
open Go.RowKit TermSpec NamesSpec EvalSpec ActSpec TransSpec SynSpec RulesSpec
set_option maxRecDepth 100000
structure FewTr (t:Tr):Prop where
 ev:t.ev.size ≤ 9223372036854775807
 tg:t.tg.size ≤ 9223372036854775807
 g:Small t.g
 gl:t.g.length ≤ 1000000
 a:∀ x ∈ t.acts,FewAc x
 al:t.acts.length ≤ 1000000
theorem empty_of_size {s:ByteArray} (h:s.size = 0):s = ⟨#[]⟩:=by
 apply ByteArray.ext
 exact Array.eq_empty_of_size_eq_zero h
theorem full_facts {s:ByteArray} (h:¬ s.size = 0):(s.toList == []) = false ∧ (s.toList != []) = true ∧ s.toList.isEmpty = false ∧ (!s.toList.isEmpty) = true:=by
 have h1:s.toList ≠ []:=by
  intro e
  apply h
  have:s.toList.length = 0:=by rw [e]; rfl
  rwa [ByteArray.toList_eq,Array.length_toList] at this
 cases hl:s.toList with
 | nil => exact absurd hl h1
 | cons a l => exact ⟨rfl,rfl,rfl,rfl⟩
section
variable (a b c:Nat) (es vs ss:List ByteArray) (t:Tr) (gA:Option Addr) (gn gc:Nat) (aA:Option Addr) (an ac:Nat) (w:World) (h:WdIn w a b c es vs ss) (hT:TrIn w gA gn gc aA an ac t) (hf:FewTr t)
include h hT hf
set_option maxRecDepth 100000 in
set_option maxHeartbeats 4000000 in
theorem breaks_6 :
 Calls Tryz.prog 156 #[.agg #[.map (some a),.map (some b),.map (some c)],.agg #[.string t.ev,.slice gA gn gc,.slice aA an ac,.string t.tg],.int .i64 6] w (RetB w (brT es vs ss 6 t)):=by
 have HHE:=Lib.hid (fun W (hW:Below w.heap.size w W) => has_in a es t.ev W (h.keep hW).es (by have:=hf.ev; unfold maxLen; omega))
 have HHS:=Lib.hid (fun W (hW:Below w.heap.size w W) => has_in c ss t.tg W (h.keep hW).ss (by have:=hf.tg; unfold maxLen; omega))
 have HEX:=Lib.hid (fun W (hW:Below w.heap.size w W) => wexpr_in a b c es vs ss gA gn gc t.g 2 W (h.keep hW) (hT.g.keep hW) (by have:=hT.len.1; have:=hf.gl; omega) hf.g (.inr rfl))
 have HAC:=Lib.hid (fun W (hW:Below w.heap.size w W) => wacts_in a b c es vs ss aA an ac t.acts W (h.keep hW) (hT.a.keep hW) hf.a (by have:=hT.len.2; have:=hf.al; omega))
 have hgl:=hT.len.1
 obtain ⟨ev,g,acts,tg⟩:=t
 simp only at HHE HHS HEX HAC hgl
 obtain ⟨q1,hq1⟩:∃ q,q = hasS es ev:=⟨_,rfl⟩
 obtain ⟨q2,hq2⟩:∃ q,q = hasS ss tg:=⟨_,rfl⟩
 obtain ⟨q3,hq3⟩:∃ q,q = exprR vs ss g 2:=⟨_,rfl⟩
 obtain ⟨q4,hq4⟩:∃ q,q = actsR vs ss true acts:=⟨_,rfl⟩
 have HBR:Hid (∀ rule,brT es vs ss rule ⟨ev,g,acts,tg⟩ = if rule = 6 then !decide (ev.size = 0) && !q1 else if rule = 7 then !decide (tg.size = 0) && !q2 else if rule = 8 then !decide (gn = 0) && !q3 else if rule = 9 then !q4 else false) :=
  Lib.hid (fun rule => by rw [hq1,hq2,hq3,hq4,hgl]; rfl)
 rw [← hq1] at HHE
 rw [← hq2] at HHS
 rw [← hq3] at HEX
 rw [← hq4] at HAC
 obtain ⟨W1,hW1⟩:∃ W1,(w.alloc (.cells #[.map (some a),.map (some b),.map (some c)] 162)).alloc (.cells #[.string ev,.slice gA gn gc,.slice aA an ac,.string tg] 76) = W1:=⟨_,rfl⟩
 obtain ⟨k1,k2,hb1,-⟩:=KitC.pair_blocks (o:=.cells #[.map (some a),.map (some b),.map (some c)] 162) (p:=.cells #[.string ev,.slice gA gn gc,.slice aA an ac,.string tg] 76) (w:=w) (Below.refl _ _)
 rw [hW1] at k1 k2 hb1
 have HW1:=Lib.hid hW1
 have HB1:=Lib.hid hb1
 have HK:=Lib.hid (fun W (hW:Below W1.heap.size W1 W) => And.intro (KitC.block_on k1 hW) (KitC.block_on k2 hW))
 obtain ⟨c0,c1,c2⟩:=cells_3 k1
 obtain ⟨d0,d1,d2,d3⟩:=cells_4 k2
 clear h hT hf hgl hq1 hq2 hq3 hq4 hW1 k1 k2 hb1
 by_cases e0:ev.size = 0
 ·obtain rfl:=empty_of_size e0
  have HR:Hid (brT es vs ss 6 ⟨⟨#[]⟩,g,acts,tg⟩ = false):=Lib.hid (by rw [HBR.out]; rfl)
  clear e0 HBR
  go_enter Tryz.func156,Tryz.ntmps156
  go_wp2_with fail
  go_ret
  exact ⟨ret_bool HR.out.symm,by rw [HW1.out]; exact HB1.out⟩
 ·have HR:Hid (brT es vs ss 6 ⟨ev,g,acts,tg⟩ = !q1):=Lib.hid (by rw [HBR.out]; simp [e0])
  obtain ⟨g1,g2,g3,g4⟩:=full_facts e0
  clear e0 HBR
  go_enter Tryz.func156,Tryz.ntmps156
  go_wp2_with (rw [HW1.out]; go_at_call 175; go_fit (HHE.out _ HB1.out))
  rintro e w2 ⟨rfl,hb2⟩
  have HB2:=Lib.hid hb2
  clear hb2
  go_wp2_with fail
  go_ret
  exact ⟨ret_bool HR.out.symm,below_two' HB1.out HB2.out⟩
set_option maxRecDepth 100000 in
set_option maxHeartbeats 4000000 in
theorem breaks_7 :
 Calls Tryz.prog 156 #[.agg #[.map (some a),.map (some b),.map (some c)],.agg #[.string t.ev,.slice gA gn gc,.slice aA an ac,.string t.tg],.int .i64 7] w (RetB w (brT es vs ss 7 t)):=by
 have HHE:=Lib.hid (fun W (hW:Below w.heap.size w W) => has_in a es t.ev W (h.keep hW).es (by have:=hf.ev; unfold maxLen; omega))
 have HHS:=Lib.hid (fun W (hW:Below w.heap.size w W) => has_in c ss t.tg W (h.keep hW).ss (by have:=hf.tg; unfold maxLen; omega))
 have HEX:=Lib.hid (fun W (hW:Below w.heap.size w W) => wexpr_in a b c es vs ss gA gn gc t.g 2 W (h.keep hW) (hT.g.keep hW) (by have:=hT.len.1; have:=hf.gl; omega) hf.g (.inr rfl))
 have HAC:=Lib.hid (fun W (hW:Below w.heap.size w W) => wacts_in a b c es vs ss aA an ac t.acts W (h.keep hW) (hT.a.keep hW) hf.a (by have:=hT.len.2; have:=hf.al; omega))
 have hgl:=hT.len.1
 obtain ⟨ev,g,acts,tg⟩:=t
 simp only at HHE HHS HEX HAC hgl
 obtain ⟨q1,hq1⟩:∃ q,q = hasS es ev:=⟨_,rfl⟩
 obtain ⟨q2,hq2⟩:∃ q,q = hasS ss tg:=⟨_,rfl⟩
 obtain ⟨q3,hq3⟩:∃ q,q = exprR vs ss g 2:=⟨_,rfl⟩
 obtain ⟨q4,hq4⟩:∃ q,q = actsR vs ss true acts:=⟨_,rfl⟩
 have HBR:Hid (∀ rule,brT es vs ss rule ⟨ev,g,acts,tg⟩ = if rule = 6 then !decide (ev.size = 0) && !q1 else if rule = 7 then !decide (tg.size = 0) && !q2 else if rule = 8 then !decide (gn = 0) && !q3 else if rule = 9 then !q4 else false) :=
  Lib.hid (fun rule => by rw [hq1,hq2,hq3,hq4,hgl]; rfl)
 rw [← hq1] at HHE
 rw [← hq2] at HHS
 rw [← hq3] at HEX
 rw [← hq4] at HAC
 obtain ⟨W1,hW1⟩:∃ W1,(w.alloc (.cells #[.map (some a),.map (some b),.map (some c)] 162)).alloc (.cells #[.string ev,.slice gA gn gc,.slice aA an ac,.string tg] 76) = W1:=⟨_,rfl⟩
 obtain ⟨k1,k2,hb1,-⟩:=KitC.pair_blocks (o:=.cells #[.map (some a),.map (some b),.map (some c)] 162) (p:=.cells #[.string ev,.slice gA gn gc,.slice aA an ac,.string tg] 76) (w:=w) (Below.refl _ _)
 rw [hW1] at k1 k2 hb1
 have HW1:=Lib.hid hW1
 have HB1:=Lib.hid hb1
 have HK:=Lib.hid (fun W (hW:Below W1.heap.size W1 W) => And.intro (KitC.block_on k1 hW) (KitC.block_on k2 hW))
 obtain ⟨c0,c1,c2⟩:=cells_3 k1
 obtain ⟨d0,d1,d2,d3⟩:=cells_4 k2
 clear h hT hf hgl hq1 hq2 hq3 hq4 hW1 k1 k2 hb1
 by_cases e0:tg.size = 0
 ·obtain rfl:=empty_of_size e0
  have HR:Hid (brT es vs ss 7 ⟨ev,g,acts,⟨#[]⟩⟩ = false):=Lib.hid (by rw [HBR.out]; rfl)
  clear e0 HBR
  go_enter Tryz.func156,Tryz.ntmps156
  go_wp2_with fail
  go_ret
  exact ⟨ret_bool HR.out.symm,by rw [HW1.out]; exact HB1.out⟩
 ·have HR:Hid (brT es vs ss 7 ⟨ev,g,acts,tg⟩ = !q2):=Lib.hid (by rw [HBR.out]; simp [e0])
  obtain ⟨g1,g2,g3,g4⟩:=full_facts e0
  clear e0 HBR
  go_enter Tryz.func156,Tryz.ntmps156
  go_wp2_with (rw [HW1.out]; go_at_call 175; go_fit (HHS.out _ HB1.out))
  rintro e w2 ⟨rfl,hb2⟩
  have HB2:=Lib.hid hb2
  clear hb2
  go_wp2_with fail
  go_ret
  exact ⟨ret_bool HR.out.symm,below_two' HB1.out HB2.out⟩
set_option maxRecDepth 100000 in
set_option maxHeartbeats 4000000 in
theorem breaks_8 :
 Calls Tryz.prog 156 #[.agg #[.map (some a),.map (some b),.map (some c)],.agg #[.string t.ev,.slice gA gn gc,.slice aA an ac,.string t.tg],.int .i64 8] w (RetB w (brT es vs ss 8 t)):=by
 have HHE:=Lib.hid (fun W (hW:Below w.heap.size w W) => has_in a es t.ev W (h.keep hW).es (by have:=hf.ev; unfold maxLen; omega))
 have HHS:=Lib.hid (fun W (hW:Below w.heap.size w W) => has_in c ss t.tg W (h.keep hW).ss (by have:=hf.tg; unfold maxLen; omega))
 have HEX:=Lib.hid (fun W (hW:Below w.heap.size w W) => wexpr_in a b c es vs ss gA gn gc t.g 2 W (h.keep hW) (hT.g.keep hW) (by have:=hT.len.1; have:=hf.gl; omega) hf.g (.inr rfl))
 have HAC:=Lib.hid (fun W (hW:Below w.heap.size w W) => wacts_in a b c es vs ss aA an ac t.acts W (h.keep hW) (hT.a.keep hW) hf.a (by have:=hT.len.2; have:=hf.al; omega))
 have hgl:=hT.len.1
 obtain ⟨ev,g,acts,tg⟩:=t
 simp only at HHE HHS HEX HAC hgl
 obtain ⟨q1,hq1⟩:∃ q,q = hasS es ev:=⟨_,rfl⟩
 obtain ⟨q2,hq2⟩:∃ q,q = hasS ss tg:=⟨_,rfl⟩
 obtain ⟨q3,hq3⟩:∃ q,q = exprR vs ss g 2:=⟨_,rfl⟩
 obtain ⟨q4,hq4⟩:∃ q,q = actsR vs ss true acts:=⟨_,rfl⟩
 have HBR:Hid (∀ rule,brT es vs ss rule ⟨ev,g,acts,tg⟩ = if rule = 6 then !decide (ev.size = 0) && !q1 else if rule = 7 then !decide (tg.size = 0) && !q2 else if rule = 8 then !decide (gn = 0) && !q3 else if rule = 9 then !q4 else false) :=
  Lib.hid (fun rule => by rw [hq1,hq2,hq3,hq4,hgl]; rfl)
 rw [← hq1] at HHE
 rw [← hq2] at HHS
 rw [← hq3] at HEX
 rw [← hq4] at HAC
 obtain ⟨W1,hW1⟩:∃ W1,(w.alloc (.cells #[.map (some a),.map (some b),.map (some c)] 162)).alloc (.cells #[.string ev,.slice gA gn gc,.slice aA an ac,.string tg] 76) = W1:=⟨_,rfl⟩
 obtain ⟨k1,k2,hb1,-⟩:=KitC.pair_blocks (o:=.cells #[.map (some a),.map (some b),.map (some c)] 162) (p:=.cells #[.string ev,.slice gA gn gc,.slice aA an ac,.string tg] 76) (w:=w) (Below.refl _ _)
 rw [hW1] at k1 k2 hb1
 have HW1:=Lib.hid hW1
 have HB1:=Lib.hid hb1
 have HK:=Lib.hid (fun W (hW:Below W1.heap.size W1 W) => And.intro (KitC.block_on k1 hW) (KitC.block_on k2 hW))
 obtain ⟨c0,c1,c2⟩:=cells_3 k1
 obtain ⟨d0,d1,d2,d3⟩:=cells_4 k2
 clear h hT hf hgl hq1 hq2 hq3 hq4 hW1 k1 k2 hb1
 by_cases e0:gn = 0
 ·have HR:Hid (brT es vs ss 8 ⟨ev,g,acts,tg⟩ = false):=Lib.hid (by rw [HBR.out]; simp [e0])
  have g0:decide (0 < (gn:Int)) = false:=by simp; omega
  have g0b:decide (0 < gn) = false:=by simp; omega
  clear e0 HBR
  go_enter Tryz.func156,Tryz.ntmps156
  go_wp2_with fail
  go_ret
  exact ⟨ret_bool HR.out.symm,by rw [HW1.out]; exact HB1.out⟩
 ·have HR:Hid (brT es vs ss 8 ⟨ev,g,acts,tg⟩ = !q3):=Lib.hid (by rw [HBR.out]; simp [e0])
  have g0:decide (0 < (gn:Int)) = true:=by simp; omega
  have g0b:decide (0 < gn) = true:=by simp; omega
  clear e0 HBR
  go_enter Tryz.func156,Tryz.ntmps156
  go_wp2_with (rw [HW1.out]; go_at_call 176; go_fit (HEX.out _ HB1.out))
  rintro e w2 ⟨rfl,hb2⟩
  have HB2:=Lib.hid hb2
  clear hb2
  go_wp2_with fail
  go_ret
  exact ⟨ret_bool HR.out.symm,below_two' HB1.out HB2.out⟩
set_option maxRecDepth 100000 in
set_option maxHeartbeats 4000000 in
theorem breaks_9 :
 Calls Tryz.prog 156 #[.agg #[.map (some a),.map (some b),.map (some c)],.agg #[.string t.ev,.slice gA gn gc,.slice aA an ac,.string t.tg],.int .i64 9] w (RetB w (brT es vs ss 9 t)):=by
 have HHE:=Lib.hid (fun W (hW:Below w.heap.size w W) => has_in a es t.ev W (h.keep hW).es (by have:=hf.ev; unfold maxLen; omega))
 have HHS:=Lib.hid (fun W (hW:Below w.heap.size w W) => has_in c ss t.tg W (h.keep hW).ss (by have:=hf.tg; unfold maxLen; omega))
 have HEX:=Lib.hid (fun W (hW:Below w.heap.size w W) => wexpr_in a b c es vs ss gA gn gc t.g 2 W (h.keep hW) (hT.g.keep hW) (by have:=hT.len.1; have:=hf.gl; omega) hf.g (.inr rfl))
 have HAC:=Lib.hid (fun W (hW:Below w.heap.size w W) => wacts_in a b c es vs ss aA an ac t.acts W (h.keep hW) (hT.a.keep hW) hf.a (by have:=hT.len.2; have:=hf.al; omega))
 have hgl:=hT.len.1
 obtain ⟨ev,g,acts,tg⟩:=t
 simp only at HHE HHS HEX HAC hgl
 obtain ⟨q1,hq1⟩:∃ q,q = hasS es ev:=⟨_,rfl⟩
 obtain ⟨q2,hq2⟩:∃ q,q = hasS ss tg:=⟨_,rfl⟩
 obtain ⟨q3,hq3⟩:∃ q,q = exprR vs ss g 2:=⟨_,rfl⟩
 obtain ⟨q4,hq4⟩:∃ q,q = actsR vs ss true acts:=⟨_,rfl⟩
 have HBR:Hid (∀ rule,brT es vs ss rule ⟨ev,g,acts,tg⟩ = if rule = 6 then !decide (ev.size = 0) && !q1 else if rule = 7 then !decide (tg.size = 0) && !q2 else if rule = 8 then !decide (gn = 0) && !q3 else if rule = 9 then !q4 else false) :=
  Lib.hid (fun rule => by rw [hq1,hq2,hq3,hq4,hgl]; rfl)
 rw [← hq1] at HHE
 rw [← hq2] at HHS
 rw [← hq3] at HEX
 rw [← hq4] at HAC
 obtain ⟨W1,hW1⟩:∃ W1,(w.alloc (.cells #[.map (some a),.map (some b),.map (some c)] 162)).alloc (.cells #[.string ev,.slice gA gn gc,.slice aA an ac,.string tg] 76) = W1:=⟨_,rfl⟩
 obtain ⟨k1,k2,hb1,-⟩:=KitC.pair_blocks (o:=.cells #[.map (some a),.map (some b),.map (some c)] 162) (p:=.cells #[.string ev,.slice gA gn gc,.slice aA an ac,.string tg] 76) (w:=w) (Below.refl _ _)
 rw [hW1] at k1 k2 hb1
 have HW1:=Lib.hid hW1
 have HB1:=Lib.hid hb1
 have HK:=Lib.hid (fun W (hW:Below W1.heap.size W1 W) => And.intro (KitC.block_on k1 hW) (KitC.block_on k2 hW))
 obtain ⟨c0,c1,c2⟩:=cells_3 k1
 obtain ⟨d0,d1,d2,d3⟩:=cells_4 k2
 clear h hT hf hgl hq1 hq2 hq3 hq4 hW1 k1 k2 hb1
 have HR:Hid (brT es vs ss 9 ⟨ev,g,acts,tg⟩ = !q4):=Lib.hid (by rw [HBR.out]; rfl)
 clear HBR
 go_enter Tryz.func156,Tryz.ntmps156
 go_wp2_with (rw [HW1.out]; go_at_call 174; go_fit (HAC.out _ HB1.out))
 rintro e w2 ⟨rfl,hb2⟩
 have HB2:=Lib.hid hb2
 clear hb2
 go_wp2_with fail
 go_ret
 exact ⟨ret_bool HR.out.symm,below_two' HB1.out HB2.out⟩
set_option maxRecDepth 100000 in
set_option maxHeartbeats 4000000 in
theorem breaks_no (rule:Int) (h6:rule ≠ 6) (h7:rule ≠ 7) (h8:rule ≠ 8) (h9:rule ≠ 9) :
 Calls Tryz.prog 156 #[.agg #[.map (some a),.map (some b),.map (some c)],.agg #[.string t.ev,.slice gA gn gc,.slice aA an ac,.string t.tg],.int .i64 rule] w (RetB w (brT es vs ss rule t)):=by
 have HHE:=Lib.hid (fun W (hW:Below w.heap.size w W) => has_in a es t.ev W (h.keep hW).es (by have:=hf.ev; unfold maxLen; omega))
 have HHS:=Lib.hid (fun W (hW:Below w.heap.size w W) => has_in c ss t.tg W (h.keep hW).ss (by have:=hf.tg; unfold maxLen; omega))
 have HEX:=Lib.hid (fun W (hW:Below w.heap.size w W) => wexpr_in a b c es vs ss gA gn gc t.g 2 W (h.keep hW) (hT.g.keep hW) (by have:=hT.len.1; have:=hf.gl; omega) hf.g (.inr rfl))
 have HAC:=Lib.hid (fun W (hW:Below w.heap.size w W) => wacts_in a b c es vs ss aA an ac t.acts W (h.keep hW) (hT.a.keep hW) hf.a (by have:=hT.len.2; have:=hf.al; omega))
 have hgl:=hT.len.1
 obtain ⟨ev,g,acts,tg⟩:=t
 simp only at HHE HHS HEX HAC hgl
 obtain ⟨q1,hq1⟩:∃ q,q = hasS es ev:=⟨_,rfl⟩
 obtain ⟨q2,hq2⟩:∃ q,q = hasS ss tg:=⟨_,rfl⟩
 obtain ⟨q3,hq3⟩:∃ q,q = exprR vs ss g 2:=⟨_,rfl⟩
 obtain ⟨q4,hq4⟩:∃ q,q = actsR vs ss true acts:=⟨_,rfl⟩
 have HBR:Hid (∀ rule,brT es vs ss rule ⟨ev,g,acts,tg⟩ = if rule = 6 then !decide (ev.size = 0) && !q1 else if rule = 7 then !decide (tg.size = 0) && !q2 else if rule = 8 then !decide (gn = 0) && !q3 else if rule = 9 then !q4 else false) :=
  Lib.hid (fun rule => by rw [hq1,hq2,hq3,hq4,hgl]; rfl)
 rw [← hq1] at HHE
 rw [← hq2] at HHS
 rw [← hq3] at HEX
 rw [← hq4] at HAC
 obtain ⟨W1,hW1⟩:∃ W1,(w.alloc (.cells #[.map (some a),.map (some b),.map (some c)] 162)).alloc (.cells #[.string ev,.slice gA gn gc,.slice aA an ac,.string tg] 76) = W1:=⟨_,rfl⟩
 obtain ⟨k1,k2,hb1,-⟩:=KitC.pair_blocks (o:=.cells #[.map (some a),.map (some b),.map (some c)] 162) (p:=.cells #[.string ev,.slice gA gn gc,.slice aA an ac,.string tg] 76) (w:=w) (Below.refl _ _)
 rw [hW1] at k1 k2 hb1
 have HW1:=Lib.hid hW1
 have HB1:=Lib.hid hb1
 have HK:=Lib.hid (fun W (hW:Below W1.heap.size W1 W) => And.intro (KitC.block_on k1 hW) (KitC.block_on k2 hW))
 obtain ⟨c0,c1,c2⟩:=cells_3 k1
 obtain ⟨d0,d1,d2,d3⟩:=cells_4 k2
 clear h hT hf hgl hq1 hq2 hq3 hq4 hW1 k1 k2 hb1
 have HR:Hid (brT es vs ss rule ⟨ev,g,acts,tg⟩ = false):=Lib.hid (by rw [HBR.out,if_neg h6,if_neg h7,if_neg h8,if_neg h9])
 have g6:(rule == 6) = false:=by simpa using h6
 have g7:(rule == 7) = false:=by simpa using h7
 have g8:(rule == 8) = false:=by simpa using h8
 have g9:(rule == 9) = false:=by simpa using h9
 clear HBR h6 h7 h8 h9
 go_enter Tryz.func156,Tryz.ntmps156
 go_wp2_with fail
 go_ret
 exact ⟨ret_bool HR.out.symm,by rw [HW1.out]; exact HB1.out⟩
theorem breaks_any (rule:Int) :
 Calls Tryz.prog 156 #[.agg #[.map (some a),.map (some b),.map (some c)],.agg #[.string t.ev,.slice gA gn gc,.slice aA an ac,.string t.tg],.int .i64 rule] w (RetB w (brT es vs ss rule t)):=by
 by_cases h6:rule = 6
 ·subst h6; exact breaks_6 a b c es vs ss t gA gn gc aA an ac w h hT hf
 by_cases h7:rule = 7
 ·subst h7; exact breaks_7 a b c es vs ss t gA gn gc aA an ac w h hT hf
 by_cases h8:rule = 8
 ·subst h8; exact breaks_8 a b c es vs ss t gA gn gc aA an ac w h hT hf
 by_cases h9:rule = 9
 ·subst h9; exact breaks_9 a b c es vs ss t gA gn gc aA an ac w h hT hf
 exact breaks_no a b c es vs ss t gA gn gc aA an ac w h hT hf rule h6 h7 h8 h9
end
end Go.Proofs.YtapnomdckglehaaGreat