/- TermMay, ExprRdr, ExprSigns, TermEnd, TermRefEnd, RowI, TermBelow, ValPut, ExprText, joined. -/
import Derived.Test.YtapnomdckglehaaGreatMAtlasTells03
import Derived.Laws.StructEq
import Derived.Test.YtapnomdckglehaaGreatMAtlasTells02
import Derived.Laws.Rows
import Derived.Deep.RegionLaw
import Derived.Test.YtapnomdckglehaaGreatRows
import Derived.Deep.RegionHeld3
namespace Go.Proofs.YtapnomdckglehaaGreat
open Go.RowKit TermSpec NamesSpec
set_option maxRecDepth 100000
theorem cells_3 {w:World} {b:Nat} {T:TypeId} {x0 x1 x2:Value} (h:w.heap[b]? = some (.cells #[x0,x1,x2] T (0,0))):w.cell? ⟨b,0,none⟩ = some x0 ∧ w.cell? ⟨b,1,none⟩ = some x1 ∧ w.cell? ⟨b,2,none⟩ = some x2 :=
 ⟨cell_of_block' h (i:=0) rfl,cell_of_block' h (i:=1) rfl,cell_of_block' h (i:=2) rfl⟩
theorem free_3 {w:World} {b:Nat} {T:TypeId} {cs:Array Value} (h:w.heap[b]? = some (.cells cs T (0,0))):w.frozen? ⟨b,0,none⟩ = false ∧ w.frozen? ⟨b,1,none⟩ = false ∧ w.frozen? ⟨b,2,none⟩ = false :=
 ⟨free_of_block' h 0,free_of_block' h 1,free_of_block' h 2⟩
theorem eq_term (a b c d:Int) (s u:ByteArray) (w:World):(Op.equalIn 10000 94 (.agg #[.int .i64 a,.int .i64 b,.string s]) (.agg #[.int .i64 c,.int .i64 d,.string u])).run Tryz.prog w = .ok (a == c && (b == d && s.toList == u.toList)) w:=by
 have u3:=Tryz.underlying3
 have u9:=Tryz.underlying9
 have hS:Tryz.prog.underlying 94 = some (.struct (Tryz.prog.fieldsOf 94)):=by kernel_rfl
 rw [show (10000:Nat) = 9999 + 1 from rfl,run_equalIn_agg w 9999 94 _ _ hS (by kernel_rfl)]
 simp only [Program.fieldsOf,Tryz.underlying94]
 go_simp
 by_cases h1:a = c <;> by_cases h2:b = d <;> by_cases h3:s.toList = u.toList <;> simp [h1,h2,h3]
theorem build_term (a:Int) (w:World):(Instr.build 94 #[(0,.int .i64 a)]).run Tryz.prog w = .ok (.agg #[.int .i64 a,.int .i64 0,.string ⟨#[]⟩]) w:=run_build w 94 _ _ (by kernel_rfl)
theorem may_one {o n:Int} {s:ByteArray} (h1:o = 1):mayB ⟨o,n,s⟩ = (decide (0 ≤ n) && decide (n ≤ 1000000) && decide (s.size = 0)):=by
 unfold mayB
 rw [if_pos h1,if_neg (by show ¬ (o = 2 ∨ o = 11); omega)]
theorem may_name {o n:Int} {s:ByteArray} (h1:o = 2 ∨ o = 11):mayB ⟨o,n,s⟩ = (decide (n = 0) && isName s.data.toList):=by
 unfold mayB
 rw [if_neg (by show ¬ o = 1; omega),if_pos h1]
theorem may_else {o n:Int} {s:ByteArray} (h1:¬ o = 1) (h2:¬ (o = 2 ∨ o = 11)):mayB ⟨o,n,s⟩ = (decide (n = 0) && decide (s.size = 0)):=by
 unfold mayB
 rw [if_neg h1,if_neg h2]
theorem int0_dec (n:Int):(n == 0) = decide (n = 0):=by rw [Bool.eq_iff_iff]; simp
theorem size_dec (s:ByteArray):((s.size:Int) == 0) = decide (s.size = 0):=by rw [Bool.eq_iff_iff,decide_eq_true_iff,beq_iff_eq]; omega
theorem nil_iff (s:ByteArray):(s.toList == []) = decide (s.size = 0):=by
 rw [Bool.eq_iff_iff,decide_eq_true_iff,beq_iff_eq,toList_of]
 exact List.length_eq_zero_iff.symm
set_option maxHeartbeats 1600000 in
theorem may_any1 (o n:Int) (s:ByteArray) (w:World) (h1:o = 1):Calls Tryz.prog 184 #[.agg #[.int .i64 o,.int .i64 n,.string s]] w (RetB w (mayB ⟨o,n,s⟩)):=by
 have HE:=Lib.hid (may_one (n:=n) (s:=s) h1)
 have heq:=eq_term
 have hbd:=build_term
 subst h1
 by_cases hn:n < 0
 ·go_enter Tryz.func184,Tryz.ntmps184
  go_wp2_with fail
  go_ret
  exact ⟨ret_bool (by rw [HE.out,decide_eq_false (show ¬ 0 ≤ n by omega)]; rfl),(Below.refl _ _).alloc (Nat.le_refl _) _⟩
 by_cases hn2:1000000 < n
 ·go_enter Tryz.func184,Tryz.ntmps184
  go_wp2_with fail
  go_ret
  exact ⟨ret_bool (by rw [HE.out,decide_eq_false (show ¬ n ≤ 1000000 by omega)]; simp),(Below.refl _ _).alloc (Nat.le_refl _) _⟩
 ·have HS:=Lib.hid (nil_iff s)
  go_enter Tryz.func184,Tryz.ntmps184
  go_wp2_with fail
  go_ret
  exact ⟨ret_bool (by rw [HE.out,decide_eq_true (show 0 ≤ n by omega),decide_eq_true (show n ≤ 1000000 by omega),← HS.out]; simp),((Below.refl _ _).alloc (Nat.le_refl _) _)⟩
set_option maxHeartbeats 1600000 in
theorem may_any0 (o n:Int) (s:ByteArray) (w:World) (h1:¬ o = 1) (h2:¬ (o = 2 ∨ o = 11)):Calls Tryz.prog 184 #[.agg #[.int .i64 o,.int .i64 n,.string s]] w (RetB w (mayB ⟨o,n,s⟩)):=by
 have HE:=Lib.hid (may_else (n:=n) (s:=s) h1 h2)
 have heq:=eq_term
 have hbd:=build_term
 have g1:(o == 1) = false:=by simp [h1]
 have g2:(o == 2) = false:=by simp; omega
 have g3:(o == 11) = false:=by simp; omega
 have HS:=Lib.hid (nil_iff s)
 clear h1 h2
 go_enter Tryz.func184,Tryz.ntmps184
 go_wp2_with fail
 go_ret
 exact ⟨ret_bool (by rw [HE.out,← HS.out,← int0_dec]; simp),((Below.refl _ _).alloc (Nat.le_refl _) _)⟩
set_option maxHeartbeats 1600000 in
theorem may_any2 (o n:Int) (s:ByteArray) (w:World) (hs:s.size ≤ 9223372036854775807) (h2:o = 2 ∨ o = 11):Calls Tryz.prog 184 #[.agg #[.int .i64 o,.int .i64 n,.string s]] w (RetB w (mayB ⟨o,n,s⟩)):=by
 have HE:=Lib.hid (may_name (n:=n) (s:=s) h2)
 have heq:=eq_term
 have hbd:=build_term
 have HC:Hid (∀ w,Calls Tryz.prog 117 #[.string s] w (RetB w (isName s.data.toList))):=Lib.hid (fun w => is_any s w hs)
 obtain ⟨q,hq⟩:∃ q,q = isName s.data.toList:=⟨_,rfl⟩
 rw [← hq] at HC HE
 clear hq
 have g1:(o == 1) = false:=by simp; omega
 cases q with
 | false =>
   rcases h2 with rfl | rfl
   all_goals
    go_enter Tryz.func184,Tryz.ntmps184
    go_wp2_with (go_at_call 117; (with_reducible refine (HC.out _).mono ?_))
    rintro e w1 ⟨rfl,hb1⟩
    go_wp2_with fail
    go_ret
    exact ⟨ret_bool (by rw [HE.out]; simp),below_two' ((Below.refl _ _).alloc (Nat.le_refl _) _) (hb1.mono (by simp))⟩
 | true =>
   rcases h2 with rfl | rfl
   all_goals
    go_enter Tryz.func184,Tryz.ntmps184
    go_wp2_with (go_at_call 117; (with_reducible refine (HC.out _).mono ?_))
    rintro e w1 ⟨rfl,hb1⟩
    have hbl:=(hb1.block w.heap.size (by simp)).trans (heap_alloc_new w _)
    obtain ⟨c0,c1,c2⟩:=cells_3 hbl
    obtain ⟨f0,f1,f2⟩:=free_3 hbl
    have HB:Hid (Below w.heap.size w w1):=Lib.hid (((Below.refl _ _).alloc (Nat.le_refl _) _).trans (hb1.mono (by simp)))
    have HBL:=Lib.hid hbl
    clear hb1 hbl
    go_wp2_with fail
    go_ret
    exact ⟨ret_bool (by rw [HE.out,← int0_dec]; simp),HB.out.setCell (Nat.le_refl _) _⟩
theorem may_any (t:Tm) (w:World) (hs:t.s.size ≤ 9223372036854775807):Calls Tryz.prog 184 #[.agg #[.int .i64 t.op,.int .i64 t.n,.string t.s]] w (RetB w (mayB t)):=by
 by_cases h1:t.op = 1
 ·exact may_any1 t.op t.n t.s w h1
 ·by_cases h2:t.op = 2 ∨ t.op = 11
  ·exact may_any2 t.op t.n t.s w hs h2
  ·exact may_any0 t.op t.n t.s w h1 h2
set_option maxHeartbeats 1600000 in
theorem rmay_any1 (n:Int) (s:ByteArray) (w:World) (_hs:s.size ≤ 9223372036854775807):Calls Tryz.prog 106 #[.agg #[.int .i64 1,.int .i64 n,.string s]] w (RetB w (mayB ⟨1,n,s⟩)):=by
 have HE:=Lib.hid (may_one (n:=n) (s:=s) (o:=1) rfl)
 by_cases hn:n < 0
 ·go_enter Tryz.func106,Tryz.ntmps106
  go_wp2_with fail
  go_ret
  exact ⟨ret_bool (by rw [HE.out,decide_eq_false (show ¬ 0 ≤ n by omega)]; rfl),(Below.refl _ _).alloc (Nat.le_refl _) _⟩
 by_cases hn2:1000000 < n
 ·go_enter Tryz.func106,Tryz.ntmps106
  go_wp2_with fail
  go_ret
  exact ⟨ret_bool (by rw [HE.out,decide_eq_false (show ¬ n ≤ 1000000 by omega)]; simp),(Below.refl _ _).alloc (Nat.le_refl _) _⟩
 ·go_enter Tryz.func106,Tryz.ntmps106
  go_wp2_with fail
  go_ret
  exact ⟨ret_bool (by rw [HE.out,decide_eq_true (show 0 ≤ n by omega),decide_eq_true (show n ≤ 1000000 by omega),← size_dec]; rfl),((Below.refl _ _).alloc (Nat.le_refl _) _)⟩
set_option maxHeartbeats 1600000 in
theorem rmay_n (o n:Int) (s:ByteArray) (w:World) (h0:1 ≤ o) (h20:o ≤ 20) (h1:¬ o = 1) (hn:¬ n = 0):Calls Tryz.prog 106 #[.agg #[.int .i64 o,.int .i64 n,.string s]] w (RetB w (mayB ⟨o,n,s⟩)):=by
 have HE:Hid (mayB ⟨o,n,s⟩ = false):=Lib.hid (by unfold mayB; rw [if_neg h1,decide_eq_false hn]; rfl)
 have g1:(o != 1) = true:=by simp [h1]
 have g2:(n != 0) = true:=by simp [hn]
 go_enter Tryz.func106,Tryz.ntmps106
 go_wp2_with fail
 go_ret
 exact ⟨ret_bool HE.out.symm,(Below.refl _ _).alloc (Nat.le_refl _) _⟩
set_option maxHeartbeats 1600000 in
theorem rmay_0 (o:Int) (s:ByteArray) (w:World) (h0:1 ≤ o) (h20:o ≤ 20) (h1:¬ o = 1) (h2:¬ (o = 2 ∨ o = 11)) (_hs:s.size ≤ 9223372036854775807):Calls Tryz.prog 106 #[.agg #[.int .i64 o,.int .i64 0,.string s]] w (RetB w (mayB ⟨o,0,s⟩)):=by
 have HE:=Lib.hid (may_else (n:=0) (s:=s) h1 h2)
 have g1:(o != 1) = true:=by simp [h1]
 have g2:(o == 2) = false:=by simp; omega
 have g3:(o == 11) = false:=by simp; omega
 clear h2
 go_enter Tryz.func106,Tryz.ntmps106
 go_wp2_with fail
 go_ret
 exact ⟨ret_bool (by rw [HE.out,← size_dec]; rfl),(Below.refl _ _).alloc (Nat.le_refl _) _⟩
set_option maxHeartbeats 1600000 in
theorem rmay_2 (o:Int) (s:ByteArray) (w:World) (h2:o = 2 ∨ o = 11) (hs:s.size ≤ 9223372036854775807):Calls Tryz.prog 106 #[.agg #[.int .i64 o,.int .i64 0,.string s]] w (RetB w (mayB ⟨o,0,s⟩)):=by
 have HE:=Lib.hid (may_name (n:=0) (s:=s) h2)
 have HC:Hid (∀ w,Calls Tryz.prog 52 #[.string s] w (RetB w (isName s.data.toList))):=Lib.hid (fun w => ris_any s w hs)
 rcases h2 with rfl | rfl
 all_goals
  go_enter Tryz.func106,Tryz.ntmps106
  go_wp2_with (go_at_call 52; (with_reducible refine (HC.out _).mono ?_))
  rintro e w1 ⟨rfl,hb1⟩
  go_wp2_with fail
  go_ret
  exact ⟨ret_bool (by rw [HE.out]; simp),below_two' ((Below.refl _ _).alloc (Nat.le_refl _) _) (hb1.mono (by simp))⟩
theorem rmay_any (t:Tm) (w:World) (hs:t.s.size ≤ 9223372036854775807) (h0:0 ≤ ar t.op):Calls Tryz.prog 106 #[.agg #[.int .i64 t.op,.int .i64 t.n,.string t.s]] w (RetB w (mayB t)):=by
 obtain ⟨h1,h20⟩:=ar_in.1 h0
 obtain ⟨o,n,s⟩:=t
 by_cases e1:o = 1
 ·subst e1
  exact rmay_any1 n s w hs
 ·by_cases en:n = 0
  ·subst en
   by_cases h2:o = 2 ∨ o = 11
   ·exact rmay_2 o s w h2 hs
   ·exact rmay_0 o s w h1 h20 e1 h2 hs
  ·exact rmay_n o n s w h1 h20 e1 en
end Go.Proofs.YtapnomdckglehaaGreat
namespace Go.Proofs.YtapnomdckglehaaGreat
open Go.RowKit CurSpec TermSpec ExprSpec
structure Hold (R B:Nat) (v v':Value) (w w':World):Prop where
 os:w'.os = w.os
 tape:w'.tape = w.tape
 output:w'.output = w.output
 size:w.heap.size ≤ w'.heap.size
 block:∀ i,i < w.heap.size → i ≠ B → i ≠ R → v.ownBlock ≠ some i → w'.heap[i]? = w.heap[i]?
 row:v'.ownBlock = v.ownBlock ∨ ∀ j,v'.ownBlock = some j → w.heap.size ≤ j
theorem Hold.refl (R B:Nat) (v:Value) (w:World):Hold R B v v w w:=⟨rfl,rfl,rfl,Nat.le_refl _,fun _ _ _ _ _ => rfl,.inl rfl⟩
theorem Hold.trans {R B:Nat} {v v' v2:Value} {w w' w2:World} (h:Hold R B v v' w w') (k:Hold R B v' v2 w' w2):Hold R B v v2 w w2:=by
 refine ⟨k.os.trans h.os,k.tape.trans h.tape,k.output.trans h.output,Nat.le_trans h.size k.size,fun i hi h1 h2 h3 => ?_,?_⟩
 ·refine (k.block i (Nat.lt_of_lt_of_le hi h.size) h1 h2 ?_).trans (h.block i hi h1 h2 h3)
  rcases h.row with hr | hr
  ·rw [hr]; exact h3
  ·intro e; have:=hr i e; omega
 ·rcases k.row with hk | hk
  ·rcases h.row with hr | hr
   ·exact .inl (hk.trans hr)
   ·exact .inr (fun j hj => hr j (by rw [← hk]; exact hj))
  ·exact .inr (fun j hj => Nat.le_trans h.size (hk j hj))
theorem Hold.apart {R B:Nat} {v v':Value} {w w':World} (h:Hold R B v v' w w') {i:Nat} (hi:i < w.heap.size) (hne:v.ownBlock ≠ some i):v'.ownBlock ≠ some i:=by
 rcases h.row with hr | hr
 ·rw [hr]; exact hne
 ·intro e; have:=hr i e; omega
def ins (l:List Tm) (i:Nat) (t:Tm):List Tm:=if l.length ≤ 40 then l.take i ++ t :: l.drop i else l
end Go.Proofs.YtapnomdckglehaaGreat
namespace Go.Proofs.YtapnomdckglehaaGreat
open Go.RowKit CurSpec TermSpec ExprSpec
end Go.Proofs.YtapnomdckglehaaGreat
namespace Go.Proofs.YtapnomdckglehaaGreat
open Go.RowKit TermSpec
set_option maxRecDepth 100000
def EndRel (l:List Tm) (n:Nat) (r:Int) (a o:Value):Prop:=∃ (j k:Nat),j ≤ n ∧ a = .int .i64 j ∧ o = .int .i64 k ∧ k ≤ j + 1 ∧ fin k (l.drop j) j = r
theorem endRel_next {l:List Tm} {n j k:Nat} {r:Int} {t:Tm} (hj:j < n) (ht:l[j]? = some t) (h0:0 ≤ ar t.op) (hk:k + 1 ≤ j + 1) (h:fin (k + 1) (l.drop j) j = r) (o:Int) (ho:o = (k + 1:Nat) + (ar t.op - 1)):EndRel l n r (.int .i64 ((j:Int) + 1)) (.int .i64 o):=by
 have h2:=(ar_bd t.op).2
 have e:=arN_of h0
 refine ⟨j + 1,k + arN t.op,by omega,by simp,?_,by omega,?_⟩
 ·congr 1; omega
 ·rw [drop_get ht,fin_cons,if_neg (by omega)] at h
  exact h
theorem fin_stop {l:List Tm} {j k:Nat} {r:Int} {t:Tm} (ht:l[j]? = some t) (h0:ar t.op < 0) (h:fin (k + 1) (l.drop j) j = r):-1 = r:=by
 rw [drop_get ht,fin_cons,if_pos h0] at h
 exact h
theorem fin_out {l:List Tm} {j k:Nat} {r:Int} (hj:l.length ≤ j) (h:fin (k + 1) (l.drop j) j = r):-1 = r:=by
 rw [List.drop_eq_nil_of_le hj] at h
 exact h
set_option maxHeartbeats 1000000 in
theorem end_nat (A:Option Addr) (n c:Nat) (l:List Tm) (a:Nat) (w:World) (h:Tms w (.slice A n c) l) (hn:n = l.length) (hn62:n ≤ 4611686018427387903) (ha:a ≤ n) :
 Calls Tryz.prog 189 #[.slice A n c,.int .i64 a] w (SameI w (endA l a)):=by
 have HT:=Lib.hid h
 have HN:=Lib.hid hn
 have HA:=Lib.hid (endA_nat l a)
 obtain ⟨r,hr⟩:∃ r,r = endA l a:=⟨_,rfl⟩
 rw [← hr] at HA ⊢
 clear h hn hr
 go_enter Tryz.func189,Tryz.ntmps189
 go_wp2_with fail
 go_loop [1,5] (fun a o => EndRel l n r a o) (fun a _ => n - (intOf a).toNat)
 case atStart => exact ⟨a,1,ha,rfl,rfl,by omega,HA.out.symm⟩
 case round =>
  obtain ⟨j,k,hj,rfl,rfl,hk,hf⟩:=hrel
  have HF:=Lib.hid hf
  clear hf
  rcases Nat.eq_zero_or_pos k with hk0 | hk0
  ·subst hk0
   go_wp2_with fail
   go_ret
   exact ⟨ret_int (by rw [← HF.out,fin_zero]),rfl⟩
  ·obtain ⟨k,rfl⟩:∃ k',k = k' + 1:=⟨k - 1,by omega⟩
   have hk1:(0:Int) < ((k + 1:Nat):Int):=by omega
   by_cases hlt:j < n
   ·obtain ⟨t,ht⟩:∃ t,l[j]? = some t:=get_some (by rw [← HN.out]; exact hlt)
    obtain ⟨b,off,rfl,hb,c0,-,-⟩:=HT.out.at_ ht
    have hltI:(j:Int) < (n:Int):=by omega
    have HX:=Lib.hid ht
    have HC:=Lib.hid (arity_any t.op)
    obtain ⟨h1,h2⟩:=ar_bd t.op
    have HR:=Lib.hid (fun h0 => endRel_next (n:=n) (r:=r) hlt ht h0 hk HF.out)
    have HS:=Lib.hid (fun h0 => fin_stop ht h0 HF.out)
    obtain ⟨o,ho⟩:∃ o,o = t.op:=⟨_,rfl⟩
    rw [← ho] at HC h1 h2 c0 HR HS
    obtain ⟨q,hq⟩:∃ q,q = ar o:=⟨_,rfl⟩
    rw [← hq] at HC h1 h2 HR HS
    clear ht ho hq
    by_cases h0:q < 0
    ·go_wp2_with (go_at_call 191; (with_reducible refine (HC.out _).mono ?_); rintro e w' ⟨rfl,rfl⟩)
     go_ret
     exact ⟨ret_int (HS.out h0),rfl⟩
    ·have h0':0 ≤ q:=by omega
     go_wp2_with (go_at_call 191; (with_reducible refine (HC.out _).mono ?_); rintro e w' ⟨rfl,rfl⟩)
     go_round
     case rel => exact HR.out h0' _ (by simp)
     case measure => simp [intOf]; omega
   ·go_wp2_with fail
    go_ret
    exact ⟨ret_int (fin_out (by rw [← HN.out]; omega) HF.out),rfl⟩
theorem end_far (A:Option Addr) (n c:Nat) (l:List Tm) (a:Int) (w:World) (hn:n = l.length) (ha:(n:Int) < a) :
 Calls Tryz.prog 189 #[.slice A n c,.int .i64 a] w (SameI w (endA l a)):=by
 have HE:=Lib.hid (endA_out (l:=l) (a:=a) (by omega))
 have h0:¬ a < 0:=by omega
 have h1:(n:Int) ≤ a:=by omega
 clear hn
 go_enter Tryz.func189,Tryz.ntmps189
 go_wp2_with fail
 go_loop [1,5] (fun v o => v = .int .i64 a ∧ o = .int .i64 1) (fun _ _ => 0)
 case atStart => exact ⟨rfl,rfl⟩
 case round =>
  obtain ⟨rfl,rfl⟩:=hrel
  go_wp2_with fail
  go_ret
  exact ⟨ret_int HE.out.symm,rfl⟩
theorem end_any (A:Option Addr) (n c:Nat) (l:List Tm) (a:Int) (w:World) (h:Tms w (.slice A n c) l) (hn:n = l.length) (hn62:n ≤ 4611686018427387903) :
 Calls Tryz.prog 189 #[.slice A n c,.int .i64 a] w (SameI w (endA l a)):=by
 by_cases h0:a < 0
 ·have HE:=Lib.hid (endA_neg (l:=l) h0)
  clear hn h
  go_enter Tryz.func189,Tryz.ntmps189
  go_wp2_with fail
  go_ret
  exact ⟨ret_int HE.out.symm,rfl⟩
 ·by_cases h1:(n:Int) < a
  ·exact end_far A n c l a w hn h1
  ·obtain ⟨k,rfl⟩:=Int.eq_ofNat_of_zero_le (Int.not_lt.1 h0)
   exact end_nat A n c l k w h hn hn62 (by omega)
end Go.Proofs.YtapnomdckglehaaGreat
namespace Go.Proofs.YtapnomdckglehaaGreat
open Go.RowKit TermSpec
set_option maxRecDepth 100000
theorem rend_out (A:Option Addr) (n c:Nat) (l:List Tm) (a:Int) (w:World) (hn:n = l.length) (ha:a < 0 ∨ (n:Int) ≤ a) :
 Calls Tryz.prog 125 #[.slice A n c,.int .i64 a] w (RetI w (endA l a)):=by
 have HE:Hid (endA l a = -1):=Lib.hid (by rcases ha with h | h; exact endA_neg h; exact endA_out (by omega))
 clear hn
 by_cases h0:a < 0
 ·clear ha
  go_enter Tryz.func125,Tryz.ntmps125
  go_wp2_with fail
  go_ret
  exact ⟨ret_int HE.out.symm,Below.refl _ _⟩
 ·have h1:(n:Int) ≤ a:=by omega
  clear ha
  go_enter Tryz.func125,Tryz.ntmps125
  go_wp2_with fail
  go_ret
  exact ⟨ret_int HE.out.symm,Below.refl _ _⟩
def REndRel (W:World) (l:List Tm) (a:Nat) (q:Int) (v i:Value) (wr:World):Prop :=
 ∃ (k x:Nat),(k:Int) ≤ q ∧ i = .int .i64 k ∧ v = .int .i64 (a + 1 + x:Nat) ∧ cnt k (l.drop (a + 1)) = some x ∧ Below W.heap.size W wr
theorem rend_next {l:List Tm} {a k x:Nat} (hx:cnt k (l.drop (a + 1)) = some x) (h:0 ≤ endA l ((a + 1 + x:Nat):Int)):∃ x',endA l ((a + 1 + x:Nat):Int) = (a + 1 + x':Nat) ∧ cnt (k + 1) (l.drop (a + 1)) = some x':=by
 obtain ⟨p,m,hp,hc,he,hm,hl⟩:=endA_nn h
 obtain rfl:p = a + 1 + x:=by omega
 refine ⟨x + m,by rw [he]; omega,cnt_join hx (by rw [List.drop_drop]; exact hc)⟩
theorem rend_bad {l:List Tm} {a k x:Nat} {t:Tm} (ht:l[a]? = some t) (h0:0 ≤ ar t.op) (hk:(k:Int) < ar t.op) (hx:cnt k (l.drop (a + 1)) = some x) (h:endA l ((a + 1 + x:Nat):Int) < 0):endA l a = -1:=by
 have hc:cnt 1 ((l.drop (a + 1)).drop x) = none:=by
  rw [List.drop_drop]
  cases hc:cnt 1 (l.drop (a + 1 + x)) with
  | none => rfl
  | some m => rw [endA_some hc] at h; omega
 have e:=arN_of h0
 have:=cnt_none (cnt_stop hx hc) (arN t.op - (k + 1))
 rw [show k + 1 + (arN t.op - (k + 1)) = arN t.op by omega] at this
 rw [endA_at ht h0,fin_none this]
theorem rend_done {l:List Tm} {a k x:Nat} {t:Tm} (ht:l[a]? = some t) (h0:0 ≤ ar t.op) (hk:(k:Int) = ar t.op) (hx:cnt k (l.drop (a + 1)) = some x):endA l a = (a + 1 + x:Nat):=by
 have e:=arN_of h0
 obtain rfl:k = arN t.op:=by omega
 rw [endA_at ht h0,fin_some hx]
def RIH (A:Option Addr) (n c:Nat) (l:List Tm) (K:Nat):Prop:=∀ (a:Nat) (w:World),n ≤ a + K → Tms w (.slice A n c) l → Calls Tryz.prog 125 #[.slice A n c,.int .i64 a] w (RetI w (endA l a))
set_option maxHeartbeats 2000000 in
theorem rend_step (A:Option Addr) (n c:Nat) (l:List Tm) (K:Nat) (hn:n = l.length) (hn62:n ≤ 4611686018427387903) (ih:RIH A n c l K) (a:Nat) (w:World) (hK:n ≤ a + (K + 1)) (ha:a < n) (h:Tms w (.slice A n c) l) :
 Calls Tryz.prog 125 #[.slice A n c,.int .i64 a] w (RetI w (endA l a)):=by
 obtain ⟨t,ht⟩:∃ t,l[a]? = some t:=get_some (by omega)
 have HT:=Lib.hid h
 have HN:=Lib.hid hn
 have HIH:=Lib.hid ih
 have HX:=Lib.hid ht
 have haI:(a:Int) < (n:Int):=by omega
 obtain ⟨b,off,rfl,hb,c0,-,-⟩:=h.at_ ht
 have HCELL:=Lib.hid c0
 have HC:=Lib.hid (rarity_any t.op)
 obtain ⟨h1,h2⟩:=ar_bd t.op
 have HE:Hid (ar t.op < 0 → endA l a = -1):=Lib.hid (endA_bad ht)
 have HB:Hid (∀ k x:Nat,0 ≤ ar t.op → (k:Int) < ar t.op → cnt k (l.drop (a + 1)) = some x → endA l ((a + 1 + x:Nat):Int) < 0 → endA l a = -1):=Lib.hid (fun k x h0 hk hx h => rend_bad ht h0 hk hx h)
 have HD:Hid (∀ k x:Nat,0 ≤ ar t.op → (k:Int) = ar t.op → cnt k (l.drop (a + 1)) = some x → endA l a = (a + 1 + x:Nat)):=Lib.hid (fun k x h0 hk hx => rend_done ht h0 hk hx)
 obtain ⟨o,ho⟩:∃ o,o = t.op:=⟨_,rfl⟩
 rw [← ho] at HC h1 h2 c0 HCELL HE HB HD
 obtain ⟨q,hq⟩:∃ q,q = ar o:=⟨_,rfl⟩
 rw [← hq] at HC h1 h2 HE HB HD
 obtain ⟨r,hr⟩:∃ r,r = endA l a:=⟨_,rfl⟩
 rw [← hr] at HE HB HD ⊢
 clear ht ho hq hn ih h HX hr
 by_cases h0:q < 0
 ·go_enter Tryz.func125,Tryz.ntmps125
  go_wp2_with (go_at_call 157; (with_reducible refine (HC.out _).mono ?_))
  rintro e w1 ⟨rfl,hb1⟩
  go_wp2_with fail
  go_ret
  exact ⟨ret_int (HE.out h0).symm,hb1⟩
 ·have h0':0 ≤ q:=by omega
  clear HE
  have d1:decide ((a:Int) < 0) = false:=decide_eq_false (by omega)
  have d2:decide (n ≤ a) = false:=decide_eq_false (by omega)
  have d3:decide (q < 0) = false:=decide_eq_false h0
  go_enter Tryz.func125,Tryz.ntmps125
  go_wp2_with (go_at_call 157; (with_reducible refine (HC.out _).mono ?_))
  rintro e w1 ⟨rfl,hb1⟩
  have HB1:=Lib.hid hb1
  clear c0 hb1
  go_wp2_with fail
  go_loopw [5,6] (fun v i wr => REndRel w l a q v i wr) (fun _ i _ => 3 - (intOf i).toNat)
  case atStart => exact ⟨0,0,by simpa using h0',rfl,by simp,cnt_zero _,HB1.out⟩
  case round =>
   obtain ⟨k,x,hk,rfl,rfl,hx,hbw⟩:=hrel
   have HXc:=Lib.hid hx
   have HBW:=Lib.hid hbw
   have hle:=(cnt_le hx).1
   rw [List.length_drop,← HN.out] at hle
   have c0:wr.cell? ⟨b,off + a * 3,none⟩ = some (.int .i64 o):=(hbw.cell (by exact hb)).trans HCELL.out
   clear hx hbw
   go_wp2_with (go_at_call 157; (with_reducible refine (HC.out _).mono ?_))
   rintro e w2 ⟨rfl,hb2⟩
   have HB2:=Lib.hid (below_two' HBW.out hb2)
   clear hb2 c0
   by_cases hlt:(k:Int) < q
   ·have HI:=Lib.hid (HIH.out (a + 1 + x) w2 (by omega) (HT.out.keep HB2.out))
    obtain ⟨z,hz⟩:∃ z,z = endA l ((a + 1 + x:Nat):Int):=⟨_,rfl⟩
    have HZ:=Lib.hid hz
    rw [← hz] at HI
    obtain ⟨p,hp⟩:∃ p:Nat,p = a + 1 + x:=⟨_,rfl⟩
    rw [← hp] at HI
    have HP:=Lib.hid hp
    obtain ⟨v,hv⟩:∃ v,v = Value.int .i64 ((a + 1 + x:Nat):Int):=⟨_,rfl⟩
    clear hz
    rw [← HP.out] at hv ⊢
    clear hp hv
    go_wp2_with (go_at_call 125; (with_reducible refine (HI.out).mono ?_))
    rintro e w3 ⟨rfl,hb3⟩
    by_cases hz0:z < 0
    ·go_wp2_with fail
     go_ret
     exact ⟨ret_int (HB.out k x h0' hlt HXc.out (by rw [← HZ.out]; exact hz0)).symm,below_two' HB2.out hb3⟩
    ·go_wp2_with fail
     go_roundw
     case rel =>
      obtain ⟨x',hx',hc'⟩:=rend_next HXc.out (by rw [← HZ.out]; omega)
      exact ⟨k + 1,x',by omega,by simp,by rw [HZ.out,hx'],hc',below_two' HB2.out hb3⟩
     case measure => simp [intOf]; omega
   ·go_wp2_with fail
    go_ret
    exact ⟨ret_int (HD.out k x h0' (by omega) HXc.out).symm,HB2.out⟩
theorem rend_all (A:Option Addr) (n c:Nat) (l:List Tm) (hn:n = l.length) (hn62:n ≤ 4611686018427387903) (K:Nat):RIH A n c l K:=by
 induction K with
 | zero => exact fun a w h _ => rend_out A n c l a w hn (.inr (by omega))
 | succ K ih =>
   intro a w hK h
   by_cases ha:a < n
   ·exact rend_step A n c l K hn hn62 ih a w hK ha h
   ·exact rend_out A n c l a w hn (.inr (by omega))
theorem rend_any (A:Option Addr) (n c:Nat) (l:List Tm) (a:Int) (w:World) (h:Tms w (.slice A n c) l) (hn:n = l.length) (hn62:n ≤ 4611686018427387903) :
 Calls Tryz.prog 125 #[.slice A n c,.int .i64 a] w (RetI w (endA l a)):=by
 by_cases h0:a < 0
 ·exact rend_out A n c l a w hn (.inl h0)
 ·obtain ⟨k,rfl⟩:=Int.eq_ofNat_of_zero_le (Int.not_lt.1 h0)
  exact rend_all A n c l hn hn62 n k w (by omega) h
end Go.Proofs.YtapnomdckglehaaGreat
namespace Go.Proofs.YtapnomdckglehaaGreat
open Go.RowKit NamesSpec
set_option maxRecDepth 100000
theorem inf_int:(Tryz.prog.info? 3).map (fun i => (i.zero,i.size,i.bytes)) = some (some (.int .i64 0),1,8):=by kernel_rfl
def RowI (W wr:World) (p:Value) (xs:List Int):Prop:=wr.ownsRow W.heap.size 3 1 p xs.length (intV xs) ∧ Below W.heap.size W wr
theorem RowI.nil (W wr:World) (hb:Below W.heap.size W wr):RowI W wr (.slice none 0 0) []:=⟨World.ownsRow_nil _ _ _ _,hb⟩
theorem RowI.keep {W w w':World} {p:Value} {xs:List Int} (h:RowI W w p xs) (hb:Below w.heap.size w w'):RowI W w' p xs:=⟨own_keep h.1 hb,below_two' h.2 hb⟩
theorem RowI.addL {W wr w2:World} {p p':Value} {xs ys:List Int} {o:Obj} (h:RowI W wr p xs) (hrow:w2.ownsRow W.heap.size 3 1 p' (xs.length + (intV ys).length) (intV xs ++ intV ys)) (hg:(wr.alloc o).grownBy w2 p.ownBlock):RowI W w2 p' (xs ++ ys):=by
 refine ⟨?_,(h.2.alloc h.2.size o).grown hg (by have:=h.2.size; simp; omega) (fun j hj => (own_block_bd h.1 j hj).1)⟩
 rw [← intV_append,List.length_append,← intV_length ys]
 exact hrow
theorem RowI.add {W wr w2:World} {p p':Value} {xs:List Int} {x:Int} {o:Obj} (h:RowI W wr p xs) (hrow:w2.ownsRow W.heap.size 3 1 p' (xs.length + (intV [x]).length) (intV xs ++ intV [x])) (hg:(wr.alloc o).grownBy w2 p.ownBlock):RowI W w2 p' (xs ++ [x]):=h.addL hrow hg
theorem RowI.addB {W wr w2:World} {p p':Value} {xs ys:List Int} (h:RowI W wr p xs) (hrow:w2.ownsRow W.heap.size 3 1 p' (xs.length + (intV ys).length) (intV xs ++ intV ys)) (hg:wr.grownBy w2 p.ownBlock):RowI W w2 p' (xs ++ ys):=by
 refine ⟨?_,h.2.grown hg h.2.size (fun j hj => (own_block_bd h.1 j hj).1)⟩
 rw [← intV_append,List.length_append,← intV_length ys]
 exact hrow
theorem RowI.read {W wr:World} {p:Value} {xs:List Int} (h:RowI W wr p xs):Rd wr p (intV xs):=Rd.own h.1
theorem RowI.ret {W wr:World} {p:Value} {xs:List Int} (h:RowI W wr p xs):RetInts W xs (.returned p) wr:=⟨p,rfl,h.read,h.2⟩
def RetInts' (W:World) (l:List Int) (e:Ending) (w':World):Prop:=∃ A c,e = .returned (.slice A l.length c) ∧ Rd w' (.slice A l.length c) (intV l) ∧ Below W.heap.size W w'
theorem retInts_shape {W w':World} {l:List Int} {e:Ending} (h:RetInts W l e w'):RetInts' W l e w':=by
 obtain ⟨v,rfl,hr,hb⟩:=h
 obtain ⟨A,n,c,rfl,hn,hc,_⟩:=hr.ints
 subst hn
 exact ⟨A,c,rfl,hr,hb⟩
theorem sameI_self (a:List Int):sameI a a = true:=decide_eq_true rfl
theorem same_yes (v u:Value) (a:List Int) (w:World) (h:Rd w v (intV a)) (h':Rd w u (intV a)) (hm:a.length ≤ 9223372036854775807) :
 Calls Tryz.prog 21 #[v,u] w (RetB w true):=(same_any v u a a w h h' hm).mono fun e w' k => by
 have:=k.below
 rwa [sameI_self] at this
end Go.Proofs.YtapnomdckglehaaGreat
namespace Go.Proofs.YtapnomdckglehaaGreat
open Go.RowKit TermSpec
set_option maxRecDepth 100000
theorem below_next {l:List Tm} {a k q m:Nat} (h:cnt q (l.drop (a + 1)) = some m) (hk:k < q) :
 endA l ((a + 1 + (cnt k (l.drop (a + 1))).getD 0:Nat):Int) = (a + 1 + (cnt (k + 1) (l.drop (a + 1))).getD 0:Nat) ∧ a + 1 + (cnt (k + 1) (l.drop (a + 1))).getD 0 ≤ max l.length (a + 1):=by
 rw [show q = (k + 1) + (q - (k + 1)) by omega] at h
 obtain ⟨x,_,hx,_,_⟩:=cnt_split h
 obtain ⟨y,z,hy,hz,rfl⟩:=cnt_split hx
 rw [hy,hx]
 rw [List.drop_drop] at hz
 have:=(cnt_le hx).1
 rw [List.length_drop] at this
 refine ⟨?_,by simp only [Option.getD_some]; omega⟩
 rw [show (some y).getD 0 = y from rfl,endA_some hz]
 simp only [Option.getD_some]
 omega
def BelRel (W:World) (l:List Tm) (a q:Nat) (p v i:Value) (wr:World):Prop :=
 ∃ k:Nat,k ≤ q ∧ i = .int .i64 k ∧ v = .int .i64 (a + 1 + (cnt k (l.drop (a + 1))).getD 0:Nat) ∧ RowI W wr p (belows l a k)
set_option maxHeartbeats 2000000 in
theorem below_yes (A:Option Addr) (n c:Nat) (l:List Tm) (a:Nat) (w:World) (h:Tms w (.slice A n c) l) (hn:n = l.length) (hn62:n ≤ 70368744177664) (t:Tm) (ht:l[a]? = some t) (he:0 ≤ endA l a) :
 Calls Tryz.prog 192 #[.slice A n c,.int .i64 a] w (RetInts w (belows l a (arN t.op))):=by
 obtain ⟨k0,m0,hk0,hc0,_,_,_⟩:=endA_nn he
 obtain rfl:k0 = a:=by omega
 obtain ⟨t',m,ht',h0,_,hm⟩:=first_of hc0
 rw [ht] at ht'
 cases ht'
 have han:=get_lt ht
 have e0:=arN_of h0
 have HT:=Lib.hid h
 have HN:=Lib.hid hn
 have HM:=Lib.hid hm
 obtain ⟨b,off,rfl,hb,c0,-,-⟩:=h.at_ ht
 have HC:=Lib.hid (arity_any t.op)
 have HEE:=Lib.hid (fun (a:Int) w h => end_any (some ⟨b,off,none⟩) n c l a w h hn (by omega))
 have hE:=HEE.out k0 w h
 obtain ⟨r,hr⟩:∃ r,r = endA l k0:=⟨_,rfl⟩
 rw [← hr] at hE he
 have HE:=Lib.hid hE
 obtain ⟨o,ho⟩:∃ o,o = t.op:=⟨_,rfl⟩
 rw [← ho] at HC c0 e0 h0 HM ⊢
 have hq:=(ar_bd o).2
 obtain ⟨q,hqe⟩:∃ q,q = arN o:=⟨_,rfl⟩
 rw [← hqe] at e0 HM ⊢
 rw [← e0] at HC hq
 have hq2:q ≤ 2:=by omega
 have hal:k0 < n:=by omega
 have hal':(k0:Int) < n:=by omega
 obtain ⟨i0,hi,hz0,hz1,hz2⟩:=info_parts inf_int
 have HI:=Lib.hid (And.intro hi (And.intro hz0 (And.intro hz1 hz2)))
 clear ht ho hqe hn h hc0 hk0 hm hr hE h0 e0 han hi hz0 hz1 hz2 hq
 go_enter Tryz.func192,Tryz.ntmps192
 go_wp2_with (first
  | (go_at_call 189; (with_reducible refine HE.out.mono ?_); rintro e w' ⟨rfl,rfl⟩)
  | (go_at_call 191; (with_reducible refine (HC.out _).mono ?_); rintro e w' ⟨rfl,rfl⟩))
 go_loopw [5,6,19] (fun p v i wr => BelRel w l k0 q p v i wr) (fun _ _ i _ => 3 - (intOf i).toNat)
 case atStart => exact ⟨0,Nat.zero_le _,rfl,by rw [cnt_zero]; simp,RowI.nil _ _ (Below.refl _ _)⟩
 case round =>
  obtain ⟨k,hk,rfl,rfl,hrow⟩:=hrel
  have HR:=Lib.hid hrow
  by_cases hlt:k < q
  ·obtain ⟨hx,hx2⟩:=below_next HM.out hlt
   obtain ⟨y,hy⟩:∃ y,y = k0 + 1 + (cnt k (l.drop (k0 + 1))).getD 0:=⟨_,rfl⟩
   obtain ⟨z,hz⟩:∃ z,z = k0 + 1 + (cnt (k + 1) (l.drop (k0 + 1))).getD 0:=⟨_,rfl⟩
   have HX:=Lib.hid hx
   have HY:=Lib.hid hy
   have HZ:=Lib.hid hz
   have hl:=belows_length l k0 k
   have HL1:Hid ((belows l k0 k).length + (intV [(y:Int)]).length ≤ maxLen):=Lib.hid (by rw [hl]; simp [maxLen]; omega)
   have HL2:Hid (((belows l k0 k).length + (intV [(y:Int)]).length) * 8 ≤ 140737488355328):=Lib.hid (by rw [hl]; simp; omega)
   rw [← HY.out]
   have HSZ:Hid (w.heap.size ≤ wr.heap.size):=Lib.hid hrow.2.size
   have HRA:=Lib.hid hrow.1
   clear hx hx2 hy hz hl hrow
   go_wp2_with (first
    | (at_builtin; refine wpList_append_rd _ rfl (.tmp 21) (.tmp 23) _ rfl w.heap.size 3 i0 (.int .i64 0) 8 Tryz.underlying40 HI.out.1 HI.out.2.1 HI.out.2.2.1 HI.out.2.2.2 rfl _ _ _ rfl (HRA.out.alloc _) _ (intV [(y:Int)]) rfl (Rd.lit (cs:=#[.int .i64 y]) rfl) (intV_one _) HL1.out HL2.out ?_ ?_; (have:=HSZ.out; simp; omega); intro p2 w2 hrow2 hg2 _; have HR2:=Lib.hid (RowI.add HR.out hrow2 hg2); have HT2:=Lib.hid (HT.out.keep HR2.out.2); clear hrow2 hg2)
    | (go_at_call 189; (with_reducible refine (HEE.out _ _ HT2.out).mono ?_); rintro e w' ⟨rfl,rfl⟩))
   go_roundw
   case rel => exact ⟨k + 1,hlt,by simp,by rw [HY.out,HX.out],by rw [belows_next,← HY.out]; exact HR2.out⟩
   case measure => simp [intOf]; omega
  ·obtain rfl:k = q:=by omega
   go_wp2_with fail
   go_ret
   exact ⟨_,rfl,HR.out.read,HR.out.2⟩
set_option maxHeartbeats 2000000 in
theorem rbelow_any (A:Option Addr) (n c:Nat) (l:List Tm) (a:Nat) (w:World) (h:Tms w (.slice A n c) l) (hn:n = l.length) (hn62:n ≤ 70368744177664) (t:Tm) (ht:l[a]? = some t) (he:0 ≤ endA l a) :
 Calls Tryz.prog 126 #[.slice A n c,.int .i64 a] w (RetInts w (belows l a (arN t.op))):=by
 obtain ⟨k0,m0,hk0,hc0,_,_,_⟩:=endA_nn he
 obtain rfl:k0 = a:=by omega
 obtain ⟨t',m,ht',h0,_,hm⟩:=first_of hc0
 rw [ht] at ht'
 cases ht'
 have han:=get_lt ht
 have e0:=arN_of h0
 have HT:=Lib.hid h
 have HN:=Lib.hid hn
 have HM:=Lib.hid hm
 obtain ⟨b,off,rfl,hb,c0,-,-⟩:=h.at_ ht
 have HC:=Lib.hid (rarity_any t.op)
 have HEE:=Lib.hid (fun (a:Int) w h => rend_any (some ⟨b,off,none⟩) n c l a w h hn (by omega))
 obtain ⟨o,ho⟩:∃ o,o = t.op:=⟨_,rfl⟩
 rw [← ho] at HC c0 e0 h0 HM ⊢
 have hq:=(ar_bd o).2
 obtain ⟨q,hqe⟩:∃ q,q = arN o:=⟨_,rfl⟩
 rw [← hqe] at e0 HM ⊢
 rw [← e0] at HC hq
 have hq2:q ≤ 2:=by omega
 have hal:k0 < n:=by omega
 have hal':(k0:Int) < n:=by omega
 have HCELL:=Lib.hid c0
 obtain ⟨i0,hi,hz0,hz1,hz2⟩:=info_parts inf_int
 have HI:=Lib.hid (And.intro hi (And.intro hz0 (And.intro hz1 hz2)))
 clear ht ho hqe hn h hc0 hk0 hm he h0 e0 han hi hz0 hz1 hz2 hq c0
 go_enter Tryz.func126,Tryz.ntmps126
 go_wp2_with fail
 go_loopw [5,6,7] (fun p v i wr => BelRel w l k0 q p v i wr) (fun _ _ i _ => 3 - (intOf i).toNat)
 case atStart => exact ⟨0,Nat.zero_le _,rfl,by rw [cnt_zero]; simp,World.ownsRow_lit w #[] 0 (Nat.le_refl _) (Nat.zero_le _) rfl,(Below.refl _ _).alloc (Nat.le_refl _) _⟩
 case round =>
  obtain ⟨k,hk,rfl,rfl,hrow⟩:=hrel
  have HR0:=Lib.hid hrow
  have c0:wr.cell? ⟨b,off + k0 * 3,none⟩ = some (.int .i64 o):=(hrow.2.cell (by exact hb)).trans HCELL.out
  clear hrow
  by_cases hlt:k < q
  ·obtain ⟨hx,hx2⟩:=below_next HM.out hlt
   obtain ⟨y,hy⟩:∃ y,y = k0 + 1 + (cnt k (l.drop (k0 + 1))).getD 0:=⟨_,rfl⟩
   have HX:=Lib.hid hx
   have HY:=Lib.hid hy
   have hl:=belows_length l k0 k
   have HL1:Hid ((belows l k0 k).length + (intV [(y:Int)]).length ≤ maxLen):=Lib.hid (by rw [hl]; simp [maxLen]; omega)
   have HL2:Hid (((belows l k0 k).length + (intV [(y:Int)]).length) * 8 ≤ 140737488355328):=Lib.hid (by rw [hl]; simp; omega)
   rw [← HY.out]
   clear hx hx2 hy hl
   go_wp2_with (go_at_call 157; (with_reducible refine (HC.out _).mono ?_))
   rintro e w1 ⟨rfl,hb1⟩
   have HR:=Lib.hid (HR0.out.keep hb1)
   have HSZ:Hid (w.heap.size ≤ w1.heap.size):=Lib.hid HR.out.2.size
   have HRA:=Lib.hid HR.out.1
   clear hb1 c0
   go_wp2_with (at_builtin; refine wpList_append_rd _ rfl (.tmp 21) (.tmp 23) _ rfl w.heap.size 3 i0 (.int .i64 0) 8 Tryz.underlying40 HI.out.1 HI.out.2.1 HI.out.2.2.1 HI.out.2.2.2 rfl _ _ _ rfl (HRA.out.alloc _) _ (intV [(y:Int)]) rfl (Rd.lit (cs:=#[.int .i64 y]) rfl) (intV_one _) HL1.out HL2.out ?_ ?_; (have:=HSZ.out; simp; omega); intro p2 w2 hrow2 hg2 _; have HR2:=Lib.hid (RowI.add HR.out hrow2 hg2); have HT2:=Lib.hid (HT.out.keep HR2.out.2); clear hrow2 hg2)
   go_wp2_with (go_at_call 125; (with_reducible refine (HEE.out _ _ HT2.out).mono ?_))
   rintro e w3 ⟨rfl,hb3⟩
   have HR3:=Lib.hid (HR2.out.keep hb3)
   clear hb3
   go_wp2_with fail
   go_roundw
   case rel => exact ⟨k + 1,hlt,by simp,by rw [HY.out,HX.out],by rw [belows_next,← HY.out]; exact HR3.out⟩
   case measure => simp [intOf]; omega
  ·obtain rfl:k = q:=by omega
   go_wp2_with (go_at_call 157; (with_reducible refine (HC.out _).mono ?_))
   rintro e w1 ⟨rfl,hb1⟩
   have HR:=Lib.hid (HR0.out.keep hb1)
   clear hb1 c0
   go_wp2_with fail
   go_ret
   exact ⟨_,rfl,HR.out.read,HR.out.2⟩
end Go.Proofs.YtapnomdckglehaaGreat
namespace Go.Proofs.YtapnomdckglehaaGreat
open Go.RowKit ValSpec
def byteV (c:UInt8):Value:=.int .u8 c.toNat
def cellsOf (z:Nat) (cs:List UInt8):Array Value:=(List.replicate z (Value.int .u8 0) ++ cs.map byteV).toArray
end Go.Proofs.YtapnomdckglehaaGreat
namespace Go.Proofs.YtapnomdckglehaaGreat
open Go.RowKit CurSpec TermSpec ExprSpec
namespace ExprSpec
end ExprSpec
end Go.Proofs.YtapnomdckglehaaGreat