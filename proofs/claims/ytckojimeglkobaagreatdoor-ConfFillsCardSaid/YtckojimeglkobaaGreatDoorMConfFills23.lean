/- RulesBreaks, RulesParts, joined. -/
import Derived.Test.YtckojimeglkobaaGreatDoorMConfFills22
import Derived.Test.YtckojimeglkobaaGreatDoorMConfFills10
import Derived.Test.YtckojimeglkobaaGreatDoorMConfFills11
import Derived.Laws.OwnMore
import Derived.OwnWalk
namespace Go.Proofs.YtckojimeglkobaaGreatDoor
open Go.RowKit TermSpec NamesSpec EvalSpec ActSpec TransSpec SynSpec RulesSpec
set_option maxRecDepth 100000
structure FewTr (t:Tr):Prop where
 ev:t.ev.size ≤ 9223372036854775807
 tg:t.tg.size ≤ 9223372036854775807
 g:Small t.g
 gl:t.g.length ≤ 1000000
 a:∀ x ∈ t.acts,FewAc x
 al:t.acts.length ≤ 1000000
theorem empty_of_size {s:ByteArray} (h:s.size = 0):s = ⟨#[]⟩:=by
 apply ByteArray.ext
 exact Array.eq_empty_of_size_eq_zero h
theorem full_facts {s:ByteArray} (h:¬ s.size = 0):(s.toList == []) = false ∧ (s.toList != []) = true ∧ s.toList.isEmpty = false ∧ (!s.toList.isEmpty) = true:=by
 have h1:s.toList ≠ []:=by
  intro e
  apply h
  have:s.toList.length = 0:=by rw [e]; rfl
  rwa [ByteArray.toList_eq,Array.length_toList] at this
 cases hl:s.toList with
 | nil => exact absurd hl h1
 | cons a l => exact ⟨rfl,rfl,rfl,rfl⟩
section
variable (a b c:Nat) (es vs ss:List ByteArray) (t:Tr) (gA:Option Addr) (gn gc:Nat) (aA:Option Addr) (an ac:Nat) (w:World) (h:WdIn w a b c es vs ss) (hT:TrIn w gA gn gc aA an ac t) (hf:FewTr t)
include h hT hf
set_option maxRecDepth 100000 in
set_option maxHeartbeats 4000000 in
theorem breaks_6 :
 Calls Tryz.prog 131 #[.agg #[.map (some a),.map (some b),.map (some c)],.agg #[.string t.ev,.slice gA gn gc,.slice aA an ac,.string t.tg],.int .i64 6] w (RetB w (brT es vs ss 6 t)):=by
 have HHE:=Lib.hid (fun W (hW:Below w.heap.size w W) => has_in a es t.ev W (h.keep hW).es (by have:=hf.ev; unfold maxLen; omega))
 have HHS:=Lib.hid (fun W (hW:Below w.heap.size w W) => has_in c ss t.tg W (h.keep hW).ss (by have:=hf.tg; unfold maxLen; omega))
 have HEX:=Lib.hid (fun W (hW:Below w.heap.size w W) => wexpr_in a b c es vs ss gA gn gc t.g 2 W (h.keep hW) (hT.g.keep hW) (by have:=hT.len.1; have:=hf.gl; omega) hf.g (.inr rfl))
 have HAC:=Lib.hid (fun W (hW:Below w.heap.size w W) => wacts_in a b c es vs ss aA an ac t.acts W (h.keep hW) (hT.a.keep hW) hf.a (by have:=hT.len.2; have:=hf.al; omega))
 have hgl:=hT.len.1
 obtain ⟨ev,g,acts,tg⟩:=t
 simp only at HHE HHS HEX HAC hgl
 obtain ⟨q1,hq1⟩:∃ q,q = hasS es ev:=⟨_,rfl⟩
 obtain ⟨q2,hq2⟩:∃ q,q = hasS ss tg:=⟨_,rfl⟩
 obtain ⟨q3,hq3⟩:∃ q,q = exprR vs ss g 2:=⟨_,rfl⟩
 obtain ⟨q4,hq4⟩:∃ q,q = actsR vs ss true acts:=⟨_,rfl⟩
 have HBR:Hid (∀ rule,brT es vs ss rule ⟨ev,g,acts,tg⟩ = if rule = 6 then !decide (ev.size = 0) && !q1 else if rule = 7 then !decide (tg.size = 0) && !q2 else if rule = 8 then !decide (gn = 0) && !q3 else if rule = 9 then !q4 else false) :=
  Lib.hid (fun rule => by rw [hq1,hq2,hq3,hq4,hgl]; rfl)
 rw [← hq1] at HHE
 rw [← hq2] at HHS
 rw [← hq3] at HEX
 rw [← hq4] at HAC
 obtain ⟨W1,hW1⟩:∃ W1,(w.alloc (.cells #[.map (some a),.map (some b),.map (some c)] 163)).alloc (.cells #[.string ev,.slice gA gn gc,.slice aA an ac,.string tg] 62) = W1:=⟨_,rfl⟩
 obtain ⟨k1,k2,hb1,-⟩:=KitC.pair_blocks (o:=.cells #[.map (some a),.map (some b),.map (some c)] 163) (p:=.cells #[.string ev,.slice gA gn gc,.slice aA an ac,.string tg] 62) (w:=w) (Below.refl _ _)
 rw [hW1] at k1 k2 hb1
 have HW1:=Lib.hid hW1
 have HB1:=Lib.hid hb1
 have HK:=Lib.hid (fun W (hW:Below W1.heap.size W1 W) => And.intro (KitC.block_on k1 hW) (KitC.block_on k2 hW))
 obtain ⟨c0,c1,c2⟩:=cells_3 k1
 obtain ⟨d0,d1,d2,d3⟩:=cells_4 k2
 clear h hT hf hgl hq1 hq2 hq3 hq4 hW1 k1 k2 hb1
 by_cases e0:ev.size = 0
 ·obtain rfl:=empty_of_size e0
  have HR:Hid (brT es vs ss 6 ⟨⟨#[]⟩,g,acts,tg⟩ = false):=Lib.hid (by rw [HBR.out]; rfl)
  clear e0 HBR
  go_enter Tryz.func131,Tryz.ntmps131
  go_wp2_with fail
  go_ret
  exact ⟨ret_bool HR.out.symm,by rw [HW1.out]; exact HB1.out⟩
 ·have HR:Hid (brT es vs ss 6 ⟨ev,g,acts,tg⟩ = !q1):=Lib.hid (by rw [HBR.out]; simp [e0])
  obtain ⟨g1,g2,g3,g4⟩:=full_facts e0
  clear e0 HBR
  go_enter Tryz.func131,Tryz.ntmps131
  go_wp2_with (rw [HW1.out]; go_at_call 144; go_fit (HHE.out _ HB1.out))
  rintro e w2 ⟨rfl,hb2⟩
  have HB2:=Lib.hid hb2
  clear hb2
  go_wp2_with fail
  go_ret
  exact ⟨ret_bool HR.out.symm,below_two' HB1.out HB2.out⟩
set_option maxRecDepth 100000 in
set_option maxHeartbeats 4000000 in
theorem breaks_7 :
 Calls Tryz.prog 131 #[.agg #[.map (some a),.map (some b),.map (some c)],.agg #[.string t.ev,.slice gA gn gc,.slice aA an ac,.string t.tg],.int .i64 7] w (RetB w (brT es vs ss 7 t)):=by
 have HHE:=Lib.hid (fun W (hW:Below w.heap.size w W) => has_in a es t.ev W (h.keep hW).es (by have:=hf.ev; unfold maxLen; omega))
 have HHS:=Lib.hid (fun W (hW:Below w.heap.size w W) => has_in c ss t.tg W (h.keep hW).ss (by have:=hf.tg; unfold maxLen; omega))
 have HEX:=Lib.hid (fun W (hW:Below w.heap.size w W) => wexpr_in a b c es vs ss gA gn gc t.g 2 W (h.keep hW) (hT.g.keep hW) (by have:=hT.len.1; have:=hf.gl; omega) hf.g (.inr rfl))
 have HAC:=Lib.hid (fun W (hW:Below w.heap.size w W) => wacts_in a b c es vs ss aA an ac t.acts W (h.keep hW) (hT.a.keep hW) hf.a (by have:=hT.len.2; have:=hf.al; omega))
 have hgl:=hT.len.1
 obtain ⟨ev,g,acts,tg⟩:=t
 simp only at HHE HHS HEX HAC hgl
 obtain ⟨q1,hq1⟩:∃ q,q = hasS es ev:=⟨_,rfl⟩
 obtain ⟨q2,hq2⟩:∃ q,q = hasS ss tg:=⟨_,rfl⟩
 obtain ⟨q3,hq3⟩:∃ q,q = exprR vs ss g 2:=⟨_,rfl⟩
 obtain ⟨q4,hq4⟩:∃ q,q = actsR vs ss true acts:=⟨_,rfl⟩
 have HBR:Hid (∀ rule,brT es vs ss rule ⟨ev,g,acts,tg⟩ = if rule = 6 then !decide (ev.size = 0) && !q1 else if rule = 7 then !decide (tg.size = 0) && !q2 else if rule = 8 then !decide (gn = 0) && !q3 else if rule = 9 then !q4 else false) :=
  Lib.hid (fun rule => by rw [hq1,hq2,hq3,hq4,hgl]; rfl)
 rw [← hq1] at HHE
 rw [← hq2] at HHS
 rw [← hq3] at HEX
 rw [← hq4] at HAC
 obtain ⟨W1,hW1⟩:∃ W1,(w.alloc (.cells #[.map (some a),.map (some b),.map (some c)] 163)).alloc (.cells #[.string ev,.slice gA gn gc,.slice aA an ac,.string tg] 62) = W1:=⟨_,rfl⟩
 obtain ⟨k1,k2,hb1,-⟩:=KitC.pair_blocks (o:=.cells #[.map (some a),.map (some b),.map (some c)] 163) (p:=.cells #[.string ev,.slice gA gn gc,.slice aA an ac,.string tg] 62) (w:=w) (Below.refl _ _)
 rw [hW1] at k1 k2 hb1
 have HW1:=Lib.hid hW1
 have HB1:=Lib.hid hb1
 have HK:=Lib.hid (fun W (hW:Below W1.heap.size W1 W) => And.intro (KitC.block_on k1 hW) (KitC.block_on k2 hW))
 obtain ⟨c0,c1,c2⟩:=cells_3 k1
 obtain ⟨d0,d1,d2,d3⟩:=cells_4 k2
 clear h hT hf hgl hq1 hq2 hq3 hq4 hW1 k1 k2 hb1
 by_cases e0:tg.size = 0
 ·obtain rfl:=empty_of_size e0
  have HR:Hid (brT es vs ss 7 ⟨ev,g,acts,⟨#[]⟩⟩ = false):=Lib.hid (by rw [HBR.out]; rfl)
  clear e0 HBR
  go_enter Tryz.func131,Tryz.ntmps131
  go_wp2_with fail
  go_ret
  exact ⟨ret_bool HR.out.symm,by rw [HW1.out]; exact HB1.out⟩
 ·have HR:Hid (brT es vs ss 7 ⟨ev,g,acts,tg⟩ = !q2):=Lib.hid (by rw [HBR.out]; simp [e0])
  obtain ⟨g1,g2,g3,g4⟩:=full_facts e0
  clear e0 HBR
  go_enter Tryz.func131,Tryz.ntmps131
  go_wp2_with (rw [HW1.out]; go_at_call 144; go_fit (HHS.out _ HB1.out))
  rintro e w2 ⟨rfl,hb2⟩
  have HB2:=Lib.hid hb2
  clear hb2
  go_wp2_with fail
  go_ret
  exact ⟨ret_bool HR.out.symm,below_two' HB1.out HB2.out⟩
set_option maxRecDepth 100000 in
set_option maxHeartbeats 4000000 in
theorem breaks_8 :
 Calls Tryz.prog 131 #[.agg #[.map (some a),.map (some b),.map (some c)],.agg #[.string t.ev,.slice gA gn gc,.slice aA an ac,.string t.tg],.int .i64 8] w (RetB w (brT es vs ss 8 t)):=by
 have HHE:=Lib.hid (fun W (hW:Below w.heap.size w W) => has_in a es t.ev W (h.keep hW).es (by have:=hf.ev; unfold maxLen; omega))
 have HHS:=Lib.hid (fun W (hW:Below w.heap.size w W) => has_in c ss t.tg W (h.keep hW).ss (by have:=hf.tg; unfold maxLen; omega))
 have HEX:=Lib.hid (fun W (hW:Below w.heap.size w W) => wexpr_in a b c es vs ss gA gn gc t.g 2 W (h.keep hW) (hT.g.keep hW) (by have:=hT.len.1; have:=hf.gl; omega) hf.g (.inr rfl))
 have HAC:=Lib.hid (fun W (hW:Below w.heap.size w W) => wacts_in a b c es vs ss aA an ac t.acts W (h.keep hW) (hT.a.keep hW) hf.a (by have:=hT.len.2; have:=hf.al; omega))
 have hgl:=hT.len.1
 obtain ⟨ev,g,acts,tg⟩:=t
 simp only at HHE HHS HEX HAC hgl
 obtain ⟨q1,hq1⟩:∃ q,q = hasS es ev:=⟨_,rfl⟩
 obtain ⟨q2,hq2⟩:∃ q,q = hasS ss tg:=⟨_,rfl⟩
 obtain ⟨q3,hq3⟩:∃ q,q = exprR vs ss g 2:=⟨_,rfl⟩
 obtain ⟨q4,hq4⟩:∃ q,q = actsR vs ss true acts:=⟨_,rfl⟩
 have HBR:Hid (∀ rule,brT es vs ss rule ⟨ev,g,acts,tg⟩ = if rule = 6 then !decide (ev.size = 0) && !q1 else if rule = 7 then !decide (tg.size = 0) && !q2 else if rule = 8 then !decide (gn = 0) && !q3 else if rule = 9 then !q4 else false) :=
  Lib.hid (fun rule => by rw [hq1,hq2,hq3,hq4,hgl]; rfl)
 rw [← hq1] at HHE
 rw [← hq2] at HHS
 rw [← hq3] at HEX
 rw [← hq4] at HAC
 obtain ⟨W1,hW1⟩:∃ W1,(w.alloc (.cells #[.map (some a),.map (some b),.map (some c)] 163)).alloc (.cells #[.string ev,.slice gA gn gc,.slice aA an ac,.string tg] 62) = W1:=⟨_,rfl⟩
 obtain ⟨k1,k2,hb1,-⟩:=KitC.pair_blocks (o:=.cells #[.map (some a),.map (some b),.map (some c)] 163) (p:=.cells #[.string ev,.slice gA gn gc,.slice aA an ac,.string tg] 62) (w:=w) (Below.refl _ _)
 rw [hW1] at k1 k2 hb1
 have HW1:=Lib.hid hW1
 have HB1:=Lib.hid hb1
 have HK:=Lib.hid (fun W (hW:Below W1.heap.size W1 W) => And.intro (KitC.block_on k1 hW) (KitC.block_on k2 hW))
 obtain ⟨c0,c1,c2⟩:=cells_3 k1
 obtain ⟨d0,d1,d2,d3⟩:=cells_4 k2
 clear h hT hf hgl hq1 hq2 hq3 hq4 hW1 k1 k2 hb1
 by_cases e0:gn = 0
 ·have HR:Hid (brT es vs ss 8 ⟨ev,g,acts,tg⟩ = false):=Lib.hid (by rw [HBR.out]; simp [e0])
  have g0:decide (0 < (gn:Int)) = false:=by simp; omega
  have g0b:decide (0 < gn) = false:=by simp; omega
  clear e0 HBR
  go_enter Tryz.func131,Tryz.ntmps131
  go_wp2_with fail
  go_ret
  exact ⟨ret_bool HR.out.symm,by rw [HW1.out]; exact HB1.out⟩
 ·have HR:Hid (brT es vs ss 8 ⟨ev,g,acts,tg⟩ = !q3):=Lib.hid (by rw [HBR.out]; simp [e0])
  have g0:decide (0 < (gn:Int)) = true:=by simp; omega
  have g0b:decide (0 < gn) = true:=by simp; omega
  clear e0 HBR
  go_enter Tryz.func131,Tryz.ntmps131
  go_wp2_with (rw [HW1.out]; go_at_call 145; go_fit (HEX.out _ HB1.out))
  rintro e w2 ⟨rfl,hb2⟩
  have HB2:=Lib.hid hb2
  clear hb2
  go_wp2_with fail
  go_ret
  exact ⟨ret_bool HR.out.symm,below_two' HB1.out HB2.out⟩
set_option maxRecDepth 100000 in
set_option maxHeartbeats 4000000 in
theorem breaks_9 :
 Calls Tryz.prog 131 #[.agg #[.map (some a),.map (some b),.map (some c)],.agg #[.string t.ev,.slice gA gn gc,.slice aA an ac,.string t.tg],.int .i64 9] w (RetB w (brT es vs ss 9 t)):=by
 have HHE:=Lib.hid (fun W (hW:Below w.heap.size w W) => has_in a es t.ev W (h.keep hW).es (by have:=hf.ev; unfold maxLen; omega))
 have HHS:=Lib.hid (fun W (hW:Below w.heap.size w W) => has_in c ss t.tg W (h.keep hW).ss (by have:=hf.tg; unfold maxLen; omega))
 have HEX:=Lib.hid (fun W (hW:Below w.heap.size w W) => wexpr_in a b c es vs ss gA gn gc t.g 2 W (h.keep hW) (hT.g.keep hW) (by have:=hT.len.1; have:=hf.gl; omega) hf.g (.inr rfl))
 have HAC:=Lib.hid (fun W (hW:Below w.heap.size w W) => wacts_in a b c es vs ss aA an ac t.acts W (h.keep hW) (hT.a.keep hW) hf.a (by have:=hT.len.2; have:=hf.al; omega))
 have hgl:=hT.len.1
 obtain ⟨ev,g,acts,tg⟩:=t
 simp only at HHE HHS HEX HAC hgl
 obtain ⟨q1,hq1⟩:∃ q,q = hasS es ev:=⟨_,rfl⟩
 obtain ⟨q2,hq2⟩:∃ q,q = hasS ss tg:=⟨_,rfl⟩
 obtain ⟨q3,hq3⟩:∃ q,q = exprR vs ss g 2:=⟨_,rfl⟩
 obtain ⟨q4,hq4⟩:∃ q,q = actsR vs ss true acts:=⟨_,rfl⟩
 have HBR:Hid (∀ rule,brT es vs ss rule ⟨ev,g,acts,tg⟩ = if rule = 6 then !decide (ev.size = 0) && !q1 else if rule = 7 then !decide (tg.size = 0) && !q2 else if rule = 8 then !decide (gn = 0) && !q3 else if rule = 9 then !q4 else false) :=
  Lib.hid (fun rule => by rw [hq1,hq2,hq3,hq4,hgl]; rfl)
 rw [← hq1] at HHE
 rw [← hq2] at HHS
 rw [← hq3] at HEX
 rw [← hq4] at HAC
 obtain ⟨W1,hW1⟩:∃ W1,(w.alloc (.cells #[.map (some a),.map (some b),.map (some c)] 163)).alloc (.cells #[.string ev,.slice gA gn gc,.slice aA an ac,.string tg] 62) = W1:=⟨_,rfl⟩
 obtain ⟨k1,k2,hb1,-⟩:=KitC.pair_blocks (o:=.cells #[.map (some a),.map (some b),.map (some c)] 163) (p:=.cells #[.string ev,.slice gA gn gc,.slice aA an ac,.string tg] 62) (w:=w) (Below.refl _ _)
 rw [hW1] at k1 k2 hb1
 have HW1:=Lib.hid hW1
 have HB1:=Lib.hid hb1
 have HK:=Lib.hid (fun W (hW:Below W1.heap.size W1 W) => And.intro (KitC.block_on k1 hW) (KitC.block_on k2 hW))
 obtain ⟨c0,c1,c2⟩:=cells_3 k1
 obtain ⟨d0,d1,d2,d3⟩:=cells_4 k2
 clear h hT hf hgl hq1 hq2 hq3 hq4 hW1 k1 k2 hb1
 have HR:Hid (brT es vs ss 9 ⟨ev,g,acts,tg⟩ = !q4):=Lib.hid (by rw [HBR.out]; rfl)
 clear HBR
 go_enter Tryz.func131,Tryz.ntmps131
 go_wp2_with (rw [HW1.out]; go_at_call 143; go_fit (HAC.out _ HB1.out))
 rintro e w2 ⟨rfl,hb2⟩
 have HB2:=Lib.hid hb2
 clear hb2
 go_wp2_with fail
 go_ret
 exact ⟨ret_bool HR.out.symm,below_two' HB1.out HB2.out⟩
set_option maxRecDepth 100000 in
set_option maxHeartbeats 4000000 in
theorem breaks_no (rule:Int) (h6:rule ≠ 6) (h7:rule ≠ 7) (h8:rule ≠ 8) (h9:rule ≠ 9) :
 Calls Tryz.prog 131 #[.agg #[.map (some a),.map (some b),.map (some c)],.agg #[.string t.ev,.slice gA gn gc,.slice aA an ac,.string t.tg],.int .i64 rule] w (RetB w (brT es vs ss rule t)):=by
 have HHE:=Lib.hid (fun W (hW:Below w.heap.size w W) => has_in a es t.ev W (h.keep hW).es (by have:=hf.ev; unfold maxLen; omega))
 have HHS:=Lib.hid (fun W (hW:Below w.heap.size w W) => has_in c ss t.tg W (h.keep hW).ss (by have:=hf.tg; unfold maxLen; omega))
 have HEX:=Lib.hid (fun W (hW:Below w.heap.size w W) => wexpr_in a b c es vs ss gA gn gc t.g 2 W (h.keep hW) (hT.g.keep hW) (by have:=hT.len.1; have:=hf.gl; omega) hf.g (.inr rfl))
 have HAC:=Lib.hid (fun W (hW:Below w.heap.size w W) => wacts_in a b c es vs ss aA an ac t.acts W (h.keep hW) (hT.a.keep hW) hf.a (by have:=hT.len.2; have:=hf.al; omega))
 have hgl:=hT.len.1
 obtain ⟨ev,g,acts,tg⟩:=t
 simp only at HHE HHS HEX HAC hgl
 obtain ⟨q1,hq1⟩:∃ q,q = hasS es ev:=⟨_,rfl⟩
 obtain ⟨q2,hq2⟩:∃ q,q = hasS ss tg:=⟨_,rfl⟩
 obtain ⟨q3,hq3⟩:∃ q,q = exprR vs ss g 2:=⟨_,rfl⟩
 obtain ⟨q4,hq4⟩:∃ q,q = actsR vs ss true acts:=⟨_,rfl⟩
 have HBR:Hid (∀ rule,brT es vs ss rule ⟨ev,g,acts,tg⟩ = if rule = 6 then !decide (ev.size = 0) && !q1 else if rule = 7 then !decide (tg.size = 0) && !q2 else if rule = 8 then !decide (gn = 0) && !q3 else if rule = 9 then !q4 else false) :=
  Lib.hid (fun rule => by rw [hq1,hq2,hq3,hq4,hgl]; rfl)
 rw [← hq1] at HHE
 rw [← hq2] at HHS
 rw [← hq3] at HEX
 rw [← hq4] at HAC
 obtain ⟨W1,hW1⟩:∃ W1,(w.alloc (.cells #[.map (some a),.map (some b),.map (some c)] 163)).alloc (.cells #[.string ev,.slice gA gn gc,.slice aA an ac,.string tg] 62) = W1:=⟨_,rfl⟩
 obtain ⟨k1,k2,hb1,-⟩:=KitC.pair_blocks (o:=.cells #[.map (some a),.map (some b),.map (some c)] 163) (p:=.cells #[.string ev,.slice gA gn gc,.slice aA an ac,.string tg] 62) (w:=w) (Below.refl _ _)
 rw [hW1] at k1 k2 hb1
 have HW1:=Lib.hid hW1
 have HB1:=Lib.hid hb1
 have HK:=Lib.hid (fun W (hW:Below W1.heap.size W1 W) => And.intro (KitC.block_on k1 hW) (KitC.block_on k2 hW))
 obtain ⟨c0,c1,c2⟩:=cells_3 k1
 obtain ⟨d0,d1,d2,d3⟩:=cells_4 k2
 clear h hT hf hgl hq1 hq2 hq3 hq4 hW1 k1 k2 hb1
 have HR:Hid (brT es vs ss rule ⟨ev,g,acts,tg⟩ = false):=Lib.hid (by rw [HBR.out,if_neg h6,if_neg h7,if_neg h8,if_neg h9])
 have g6:(rule == 6) = false:=by simpa using h6
 have g7:(rule == 7) = false:=by simpa using h7
 have g8:(rule == 8) = false:=by simpa using h8
 have g9:(rule == 9) = false:=by simpa using h9
 clear HBR h6 h7 h8 h9
 go_enter Tryz.func131,Tryz.ntmps131
 go_wp2_with fail
 go_ret
 exact ⟨ret_bool HR.out.symm,by rw [HW1.out]; exact HB1.out⟩
theorem breaks_any (rule:Int) :
 Calls Tryz.prog 131 #[.agg #[.map (some a),.map (some b),.map (some c)],.agg #[.string t.ev,.slice gA gn gc,.slice aA an ac,.string t.tg],.int .i64 rule] w (RetB w (brT es vs ss rule t)):=by
 by_cases h6:rule = 6
 ·subst h6; exact breaks_6 a b c es vs ss t gA gn gc aA an ac w h hT hf
 by_cases h7:rule = 7
 ·subst h7; exact breaks_7 a b c es vs ss t gA gn gc aA an ac w h hT hf
 by_cases h8:rule = 8
 ·subst h8; exact breaks_8 a b c es vs ss t gA gn gc aA an ac w h hT hf
 by_cases h9:rule = 9
 ·subst h9; exact breaks_9 a b c es vs ss t gA gn gc aA an ac w h hT hf
 exact breaks_no a b c es vs ss t gA gn gc aA an ac w h hT hf rule h6 h7 h8 h9
end
end Go.Proofs.YtckojimeglkobaaGreatDoor
namespace Go.Proofs.YtckojimeglkobaaGreatDoor
open Go.RowKit TermSpec NamesSpec EvalSpec ActSpec TransSpec SynSpec RulesSpec
set_option maxRecDepth 100000
def bolV (l:List Bool):List Value:=l.map .bool
def RetBs (W:World) (l:List Bool) (e:Ending) (w':World):Prop:=∃ g n c,e = .returned (.slice (some ⟨g,0,none⟩) n c) ∧ n = l.length ∧ W.heap.size ≤ g ∧ w'.ownsRow W.heap.size 4 1 (.slice (some ⟨g,0,none⟩) n c) n (bolV l) ∧ Below W.heap.size W w'
structure FewSt (s:Sx):Prop where
 en:∀ x ∈ s.en,FewAc x
 enl:s.en.length ≤ 1000000
 ex:∀ x ∈ s.ex,FewAc x
 exl:s.ex.length ≤ 1000000
 tr:∀ t ∈ s.tr,FewTr t
 trl:s.tr.length ≤ 1000000
def fillB (bs:List Bool) (k:Nat):List Bool:=bs.take k ++ List.replicate (bs.length - k) false
theorem fill_zero (bs:List Bool):bolV (fillB bs 0) = List.replicate bs.length (.bool false):=by simp [fillB,bolV]
theorem fill_full (bs:List Bool):fillB bs bs.length = bs:=by simp [fillB]
theorem fill_set {bs:List Bool} {k:Nat} {q:Bool} (h:bs[k]? = some q):(bolV (fillB bs k)).set k (.bool q) = bolV (fillB bs (k + 1)):=by
 have hk:=get_lt h
 unfold bolV fillB
 rw [← List.map_set,take_next h,List.set_append,if_neg (by rw [List.length_take]; omega),List.length_take,show k - min k bs.length = 0 by omega,show bs.length - k = (bs.length - (k + 1)) + 1 by omega,List.replicate_succ,List.set_cons_zero,List.append_assoc]
 rfl
theorem fill_at {bs:List Bool} {k:Nat} (hk:k < bs.length):(bolV (fillB bs k))[k]? = some (.bool false):=by
 unfold bolV fillB
 rw [List.getElem?_map,List.getElem?_append_right (by rw [List.length_take]; omega),List.length_take,show k - min k bs.length = 0 by omega,List.getElem?_replicate,if_pos (by omega)]
 rfl
theorem inf_bool:(Tryz.prog.info? 4).map (fun i => (i.zero,i.size,i.bytes)) = some (some (.bool false),1,1):=by kernel_rfl
theorem made_below {w w':World} (h:w.grownBy w' none):Below w.heap.size w w':=(Below.refl _ _).grown h (Nat.le_refl _) (fun j hj => by cases hj)
theorem made_false (n:Nat):(madeCells (Value.bool false).cells (n * 1)).toList = List.replicate n (.bool false):=by rw [Nat.mul_one]; exact Go.toList_madeCells_one _ _
def BrkIn (W1:World) (bs:List Bool) (n k:Nat) (wr:World):Prop:=wr.ownsRow W1.heap.size 4 1 (.slice (some ⟨W1.heap.size,0,none⟩) n n) n (bolV (fillB bs k)) ∧ Below W1.heap.size W1 wr
theorem BrkIn.keep {W1 wr w':World} {bs:List Bool} {n k:Nat} (h:BrkIn W1 bs n k wr) (hb:Below wr.heap.size wr w'):BrkIn W1 bs n k w':=⟨own_keep h.1 hb,below_two' h.2 hb⟩
theorem BrkIn.set {W1 wr:World} {bs:List Bool} {n k:Nat} {q:Bool} (h:BrkIn W1 bs n k wr) (hq:bs[k]? = some q):BrkIn W1 bs n (k + 1) (wr.setCell ⟨W1.heap.size,k,none⟩ (.bool q)):=by
 refine ⟨?_,h.2.setCell (Nat.le_refl _) _⟩
 rw [← fill_set hq]
 exact (World.ownsRow.stored h.1 k _).1
theorem BrkIn.free {W1 wr:World} {bs:List Bool} {n k:Nat} (h:BrkIn W1 bs n k wr) (hk:k < n) (hn:bs.length = n):wr.cell? ⟨W1.heap.size,k,none⟩ = some (.bool false) ∧ wr.frozen? ⟨W1.heap.size,k,none⟩ = false :=
 ⟨(World.ownsRow.cellAt h.1 k (by omega)).trans (fill_at (by omega)),World.ownsRow.frozenAt h.1 k⟩
section
variable (a b c:Nat) (es vs ss:List ByteArray) (s:Sx) (a3:Option Addr) (n3 m3:Nat) (a4:Option Addr) (n4 m4:Nat) (a5:Option Addr) (n5 m5:Nat) (w:World) (h:WdIn w a b c es vs ss)
 (k3:Acs w (.slice a3 n3 m3) s.en) (k4:Acs w (.slice a4 n4 m4) s.ex) (k5:Trs w (.slice a5 n5 m5) s.tr) (hf:FewSt s)
include h k3 k4 k5 hf
set_option maxRecDepth 100000 in
set_option maxHeartbeats 8000000 in
theorem broken_ten:Calls Tryz.prog 111 #[.agg #[.map (some a),.map (some b),.map (some c)],.agg #[.string s.s,.int .i64 s.kind,.int .i64 s.par,.slice a3 n3 m3,.slice a4 n4 m4,.slice a5 n5 m5],.int .i64 10] w (RetBs w (brS es vs ss 10 s)):=by
 have H3:=Lib.hid (fun W (hW:Below w.heap.size w W) => wedge_in a b c es vs ss a3 n3 m3 s.en W (h.keep hW) (k3.keep hW) hf.en (by have:=k3.len.1; have:=hf.enl; omega))
 have H4:=Lib.hid (fun W (hW:Below w.heap.size w W) => wedge_in a b c es vs ss a4 n4 m4 s.ex W (h.keep hW) (k4.keep hW) hf.ex (by have:=k4.len.1; have:=hf.exl; omega))
 obtain ⟨nm,kd,pr,en,ex,tr⟩:=s
 simp only at H3 H4
 obtain ⟨q3,hq3⟩:∃ q,q = actsR vs ss false en:=⟨_,rfl⟩
 obtain ⟨q4,hq4⟩:∃ q,q = actsR vs ss false ex:=⟨_,rfl⟩
 have HR:Hid (brS es vs ss 10 ⟨nm,kd,pr,en,ex,tr⟩ = [!q3,!q4]):=Lib.hid (by rw [hq3,hq4]; rfl)
 rw [← hq3] at H3
 rw [← hq4] at H4
 obtain ⟨W1,hW1⟩:∃ W1,(w.alloc (.cells #[.map (some a),.map (some b),.map (some c)] 163)).alloc (.cells #[.string nm,.int .i64 kd,.int .i64 pr,.slice a3 n3 m3,.slice a4 n4 m4,.slice a5 n5 m5] 58) = W1:=⟨_,rfl⟩
 obtain ⟨p1,p2,hb1,-⟩:=KitC.pair_blocks (o:=.cells #[.map (some a),.map (some b),.map (some c)] 163) (p:=.cells #[.string nm,.int .i64 kd,.int .i64 pr,.slice a3 n3 m3,.slice a4 n4 m4,.slice a5 n5 m5] 58) (w:=w) (Below.refl _ _)
 rw [hW1] at p1 p2 hb1
 have HW1:=Lib.hid hW1
 have HB1:=Lib.hid hb1
 have HK:=Lib.hid (fun W (hW:Below W1.heap.size W1 W) => And.intro (KitC.block_on p1 hW) (KitC.block_on p2 hW))
 obtain ⟨c0,c1,c2⟩:=cells_3 p1
 obtain ⟨d0,d1,d2,d3,d4,d5⟩:=cells_6 p2
 have hdr:Below W1.heap.size W1 W1.drew:=(Below.refl _ _).drew
 clear h k3 k4 k5 hf hq3 hq4 hW1 p1 p2 hb1
 go_enter Tryz.func111,Tryz.ntmps111
 go_wp2_with fail
 rw [HW1.out]
 go_region_held3 (fun w' => w'.cell? ⟨w.heap.size,0,none⟩ = some (.map (some a)) ∧ w'.cell? ⟨w.heap.size,1,none⟩ = some (.map (some b)) ∧ w'.cell? ⟨w.heap.size,2,none⟩ = some (.map (some c)) ∧ w'.cell? ⟨w.heap.size + 1,3,none⟩ = some (.slice a3 n3 m3) ∧ w'.cell? ⟨w.heap.size + 1,4,none⟩ = some (.slice a4 n4 m4)) (go_keep)
  ((first
    | (go_at_call 130; (with_reducible refine (H3.out _ (below_two' HB1.out hdr)).mono ?_); rintro e y1 ⟨rfl,k1⟩; have f1:=below_two' hdr k1; obtain ⟨x10,x11,x12⟩:=cells_3 (HK.out _ f1).1; obtain ⟨z10,z11,z12,z13,z14,z15⟩:=cells_6 (HK.out _ f1).2)
    | (go_at_call 130; (with_reducible refine (H4.out _ (below_two' HB1.out f1)).mono ?_); rintro e y2 ⟨rfl,k2⟩; have f2:=below_two' f1 k2; obtain ⟨x20,x21,x22⟩:=cells_3 (HK.out _ f2).1; obtain ⟨z20,z21,z22,z23,z24,z25⟩:=cells_6 (HK.out _ f2).2)))
 all_goals
  have hz:w.heap.size < y2.heap.size ∧ w.heap.size + 1 < y2.heap.size:=⟨(Array.getElem?_eq_some_iff.1 (HK.out _ f2).1).1,(Array.getElem?_eq_some_iff.1 (HK.out _ f2).2).1⟩
  go_wp2_with fail
  go_ret
  have hsz:=(below_two' HB1.out f2).size
  exact ⟨_,_,_,rfl,by rw [HR.out]; rfl,hsz,by rw [HR.out]; exact World.ownsRow_lit y2 #[.bool (!q3),.bool (!q4)] 2 hsz (by decide) rfl,below_two' HB1.out (below_two' f2 (KitC.below_one _ _))⟩
set_option maxRecDepth 100000 in
set_option maxHeartbeats 8000000 in
theorem broken_else (rule:Int) (hr:rule ≠ 10):Calls Tryz.prog 111 #[.agg #[.map (some a),.map (some b),.map (some c)],.agg #[.string s.s,.int .i64 s.kind,.int .i64 s.par,.slice a3 n3 m3,.slice a4 n4 m4,.slice a5 n5 m5],.int .i64 rule] w (RetBs w (brS es vs ss rule s)):=by
 have hn5:=k5.len.1
 have hl5:=hf.trl
 have HF:=Lib.hid hf.tr
 have HK5:=Lib.hid (fun W (hW:Below w.heap.size w W) => k5.keep hW)
 have HH:=Lib.hid (fun W (hW:Below w.heap.size w W) => h.keep hW)
 obtain ⟨nm,kd,pr,en,ex,tr⟩:=s
 simp only at HF HK5 hn5 hl5
 obtain ⟨bs,hbs⟩:∃ bs,bs = tr.map (brT es vs ss rule):=⟨_,rfl⟩
 have HR:Hid (brS es vs ss rule ⟨nm,kd,pr,en,ex,tr⟩ = bs):=Lib.hid (by rw [hbs]; exact if_neg hr)
 have HBL:Hid (bs.length = n5):=Lib.hid (by rw [hbs,List.length_map,hn5])
 have HBG:Hid (∀ k t,tr[k]? = some t → bs[k]? = some (brT es vs ss rule t)):=Lib.hid (fun k t ht => by rw [hbs,List.getElem?_map,ht]; rfl)
 have HN:=Lib.hid hn5
 have hm5:n5 ≤ 1000000:=by omega
 have g10:(rule == 10) = false:=by simpa using hr
 obtain ⟨i0,hi,hz0,hz1,hz2⟩:=info_parts inf_bool
 have HI:=Lib.hid (And.intro hi (And.intro hz0 (And.intro hz1 hz2)))
 obtain ⟨W1,hW1⟩:∃ W1,(w.alloc (.cells #[.map (some a),.map (some b),.map (some c)] 163)).alloc (.cells #[.string nm,.int .i64 kd,.int .i64 pr,.slice a3 n3 m3,.slice a4 n4 m4,.slice a5 n5 m5] 58) = W1:=⟨_,rfl⟩
 obtain ⟨p1,p2,hb1,-⟩:=KitC.pair_blocks (o:=.cells #[.map (some a),.map (some b),.map (some c)] 163) (p:=.cells #[.string nm,.int .i64 kd,.int .i64 pr,.slice a3 n3 m3,.slice a4 n4 m4,.slice a5 n5 m5] 58) (w:=w) (Below.refl _ _)
 rw [hW1] at p1 p2 hb1
 have HW1:=Lib.hid hW1
 have HB1:=Lib.hid hb1
 have HK:=Lib.hid (fun W (hW:Below W1.heap.size W1 W) => And.intro (KitC.block_on p1 hW) (KitC.block_on p2 hW))
 have HZ0:Hid (bolV (fillB bs 0) = List.replicate n5 (.bool false)):=Lib.hid (by rw [fill_zero,HBL.out])
 clear h k3 k4 k5 hf hbs hr hn5 hl5 hi hz0 hz1 hz2 hW1 p1 p2 hb1
 go_enter Tryz.func111,Tryz.ntmps111
 go_wp2_with (at_make; rw [HW1.out]; go_loud (refine wpList_make_full _ rfl _ _ 165 rfl W1.heap.size 4 i0 (.bool false) 1 Tryz.underlying165 HI.out.1 HI.out.2.1 HI.out.2.2.1 .i64 .i64 _ _ n5 rfl rfl rfl rfl (by rw [HI.out.2.2.2]; omega) (by unfold maxLen; omega) (Nat.le_refl _) ?_); intro W2 hrow2 hg2; have HROW:=Lib.hid hrow2; have HG:=Lib.hid hg2; obtain ⟨y0,y1,y2,y3,y4,y5⟩:=cells_6 (HK.out _ (made_below HG.out)).2; clear hrow2 hg2)
 have HST:Hid (BrkIn W1 bs n5 0 W2):=Lib.hid ⟨by rw [HZ0.out]; have hr:=HROW.out; rwa [made_false] at hr,made_below HG.out⟩
 clear y0 y1 y2 y3 y4 y5
 go_loopw [30] (fun i wr => ∃ k:Nat,k ≤ n5 ∧ i = .int .i64 k ∧ Hid (BrkIn W1 bs n5 k wr)) (fun i _ => n5 - (intOf i).toNat)
 case atStart => exact ⟨0,Nat.zero_le _,rfl,HST⟩
 case round =>
  obtain ⟨k,hk,rfl,HL⟩:=hrel
  by_cases hlt:k < n5
  ·obtain ⟨t,ht⟩:∃ t,tr[k]? = some t:=get_some (by have:=HN.out; omega)
   have HBW:=Lib.hid (below_two' HB1.out HL.out.2)
   obtain ⟨bb,off,gA,gn,gc,aA,an,ac,rfl,hb,d0,d1,d2,d3,htr⟩:=(HK5.out _ HBW.out).at_ ht
   have hkI:(k:Int) < n5:=by omega
   have HQ:=Lib.hid (HBG.out k t ht)
   obtain ⟨q,hq⟩:∃ q,q = brT es vs ss rule t:=⟨_,rfl⟩
   have HC:=Lib.hid (fun W (hW:Below wr.heap.size wr W) => breaks_any a b c es vs ss t gA gn gc aA an ac W (HH.out _ (below_two' HBW.out hW)) (htr.keep hW) (HF.out t (List.mem_of_getElem? ht)) rule)
   rw [← hq] at HQ HC
   obtain ⟨ev,g,acts,tg⟩:=t
   simp only at d0 d1 d2 d3 HC
   obtain ⟨c0,c1,c2⟩:=cells_3 (HK.out _ HL.out.2).1
   obtain ⟨e0,e1,e2,e3,e4,e5⟩:=cells_6 (HK.out _ HL.out.2).2
   have hws:w.heap.size < wr.heap.size:=(Array.getElem?_eq_some_iff.1 (HK.out _ HL.out.2).1).1
   have hws2:w.heap.size + 1 < wr.heap.size:=(Array.getElem?_eq_some_iff.1 (HK.out _ HL.out.2).2).1
   have HAL:=Lib.hid (KitC.below_one wr (.cells #[.string ev,.slice gA gn gc,.slice aA an ac,.string tg] 62))
   clear ht htr hq
   go_wp2_with (go_at_call 131; go_fit (HC.out _ HAL.out))
   rintro e w3 ⟨rfl,hb3⟩
   have HL3:=Lib.hid (HL.out.keep (below_two' HAL.out hb3))
   obtain ⟨x0,x1⟩:=HL3.out.free hlt HBL.out
   clear hb3
   go_wp2_with fail
   go_roundw
   case rel => exact ⟨k + 1,hlt,by simp,Lib.hid (HL3.out.set HQ.out)⟩
   case measure => simp [intOf]; omega
  ·obtain rfl:k = n5:=by omega
   have HE:Hid (wr.ownsRow W1.heap.size 4 1 (.slice (some ⟨W1.heap.size,0,none⟩) k k) k (bolV bs)):=Lib.hid (by have h1:=HL.out.1; rwa [← HBL.out,fill_full,HBL.out] at h1)
   go_wp2_with fail
   go_ret
   exact ⟨_,_,_,rfl,by rw [HR.out,HBL.out],HB1.out.size,by rw [HR.out]; exact own_weak HE.out HB1.out.size,below_two' HB1.out HL.out.2⟩
theorem broken_any (rule:Int):Calls Tryz.prog 111 #[.agg #[.map (some a),.map (some b),.map (some c)],.agg #[.string s.s,.int .i64 s.kind,.int .i64 s.par,.slice a3 n3 m3,.slice a4 n4 m4,.slice a5 n5 m5],.int .i64 rule] w (RetBs w (brS es vs ss rule s)):=by
 by_cases hr:rule = 10
 ·subst hr; exact broken_ten a b c es vs ss s a3 n3 m3 a4 n4 m4 a5 n5 m5 w h k3 k4 k5 hf
 ·exact broken_else a b c es vs ss s a3 n3 m3 a4 n4 m4 a5 n5 m5 w h k3 k4 k5 hf rule hr
end
end Go.Proofs.YtckojimeglkobaaGreatDoor