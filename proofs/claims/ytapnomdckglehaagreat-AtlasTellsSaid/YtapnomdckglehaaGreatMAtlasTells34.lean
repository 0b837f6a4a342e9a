/- NamesRefUnion, joined. -/
import Derived.Test.YtapnomdckglehaaGreatMAtlasTells12
namespace Go.Proofs.YtapnomdckglehaaGreat
open Go.RowKit NamesSpec Go.Lib
set_option maxRecDepth 100000
theorem elem_strs:Tryz.prog.elem 22 = 9:=by simp [Program.elem,Tryz.underlying22]
theorem slice_from (g n cap j:Nat) (hj:j ≤ n) (hc:n ≤ cap) :
 ∃ A,(∀ W,(Instr.slice 22 (.slice (some ⟨g,0,none⟩) n cap) (some (.int .i64 (j:Int))) none none).run Tryz.prog W = .ok (.slice A (n - j) (cap - j)) W) ∧ (0 < n - j → A = some ⟨g,j,none⟩):=by
 refine ⟨if cap = j then some ⟨g,0,none⟩ else some ⟨g,j,none⟩,fun W => ?_,fun h => if_neg (by omega)⟩
 rw [run_slice_l (P:=Tryz.prog) W 22 _ n cap (by rw [elem_strs]; exact Tryz.underlying22) .i64 (j:Int) (by omega) (by omega),elem_strs,Tryz.sizeOf9]
 simp [sliced,Result.andThen,addr_add]
theorem slice_to (g n cap j:Nat) (hj:j ≤ n) (hc:n ≤ cap) :
 ∀ W,(Instr.slice 22 (.slice (some ⟨g,0,none⟩) n cap) none (some (.int .i64 (j:Int))) none).run Tryz.prog W = .ok (.slice (some ⟨g,0,none⟩) j cap) W:=by
 intro W
 rw [run_slice_h (P:=Tryz.prog) W 22 _ n cap (by rw [elem_strs]; exact Tryz.underlying22) .i64 (j:Int) (by omega) (by omega),elem_strs,Tryz.sizeOf9]
 simp [sliced,Result.andThen,addr_add]
def insAt (l:List ByteArray) (j:Nat) (s:ByteArray):List ByteArray:=l.take j ++ [s] ++ l.drop j
def below (x s:ByteArray):Prop:=x.data.toList < s.data.toList
theorem less_iff (x s:ByteArray):Op.bytesLess x.toList s.toList = true ↔ below x s:=by
 rw [bytesLess_eq,decide_eq_true_iff,ByteArray.toList_eq,ByteArray.toList_eq]; rfl
theorem rises_below {l:List ByteArray}:Rises (NamesSpec.bytesOf l) ↔ l.Pairwise below:=by unfold Rises NamesSpec.bytesOf; exact List.pairwise_map
theorem high_of {l:List ByteArray} {j:Nat} {s:ByteArray} (hr:Rises (NamesSpec.bytesOf l)) (hs:s ∉ l) (h:∀ y,l[j]? = some y → ¬ below y s):∀ x ∈ l.drop j,below s x:=by
 intro x hx
 have hr':l.Pairwise below:=rises_below.1 hr
 rcases hd:l[j]? with _ | y
 ·rw [List.drop_eq_nil_of_le (List.getElem?_eq_none_iff.1 hd)] at hx; simp at hx
 ·have hjl:=get_lt hd
  have hcons:l.drop j = y :: l.drop (j + 1):=by
   rw [List.drop_eq_getElem_cons hjl]
   congr 1
   rw [List.getElem?_eq_getElem hjl] at hd
   injection hd
  have hys:below s y:=by
   rcases lt_or s.data.toList y.data.toList with k | k | k
   ·exact k
   ·have:s = y:=ByteArray.ext (Array.toList_inj.mp k)
    exact absurd (List.mem_of_getElem? (this ▸ hd)) hs
   ·exact absurd k (h y hd)
  rw [hcons] at hx
  rcases List.mem_cons.1 hx with e | e
  ·rw [e]; exact hys
  ·have hp:(l.drop j).Pairwise below:=hr'.sublist (List.drop_sublist _ _)
   rw [hcons] at hp
   exact List.lt_trans hys ((List.pairwise_cons.1 hp).1 x e)
theorem ins_rises {l:List ByteArray} {j:Nat} {s:ByteArray} (hr:Rises (NamesSpec.bytesOf l)) (hlow:∀ x ∈ l.take j,below x s) (hhigh:∀ x ∈ l.drop j,below s x):Rises (NamesSpec.bytesOf (insAt l j s)):=by
 have hr':l.Pairwise below:=rises_below.1 hr
 refine rises_below.2 ?_
 unfold insAt
 rw [← List.take_append_drop j l,List.pairwise_append] at hr'
 rw [List.append_assoc,List.pairwise_append]
 refine ⟨hr'.1,List.pairwise_cons.2 ⟨hhigh,hr'.2.1⟩,fun x hx y hy => ?_⟩
 rcases List.mem_cons.1 hy with e | e
 ·rw [e]; exact hlow x hx
 ·exact hr'.2.2 x hx y e
theorem ins_mem {l:List ByteArray} {j:Nat} {s x:ByteArray}:x ∈ insAt l j s ↔ x ∈ l ∨ x = s:=by
 have:x ∈ l ↔ x ∈ l.take j ∨ x ∈ l.drop j:=by rw [← List.mem_append,List.take_append_drop]
 unfold insAt
 rw [this]
 simp only [List.mem_append,List.mem_singleton]
 constructor
 ·rintro ((h | h) | h)
  ·exact .inl (.inl h)
  ·exact .inr h
  ·exact .inl (.inr h)
 ·rintro ((h | h) | h)
  ·exact .inl (.inl h)
  ·exact .inr h
  ·exact .inl (.inr h)
theorem ins_length {l:List ByteArray} {j:Nat} {s:ByteArray} (hj:j ≤ l.length):(insAt l j s).length = l.length + 1:=by
 unfold insAt; simp; omega
def RUnRel (W:World) (a b:List ByteArray) (n:Nat) (p iv:Value) (wr:World):Prop :=
 ∃ (k:Nat) (l:List ByteArray) (m g cap:Nat),k ≤ n ∧ iv = .int .i64 k ∧ p = .slice (some ⟨g,0,none⟩) m cap ∧ l.length = m ∧ wr.ownsRow W.heap.size 9 1 (.slice (some ⟨g,0,none⟩) m cap) m (strV l) ∧
   Rises (NamesSpec.bytesOf l) ∧ (∀ s,s ∈ l ↔ s ∈ (a ++ b).take k) ∧ m ≤ k ∧ Below W.heap.size W wr
def AtRel (l:List ByteArray) (s:ByteArray) (m:Nat) (av:Value):Prop:=∃ j:Nat,j ≤ m ∧ av = .int .i64 j ∧ ∀ x ∈ l.take j,below x s
theorem own_base {w:World} {base base':Nat} {e:TypeId} {v:Value} {n:Nat} {xs:List Value} (h:w.ownsRow base e 1 v n xs) (hb:base' ≤ base):w.ownsRow base' e 1 v n xs:=by
 refine ⟨h.1,?_⟩
 rcases h.2 with h | ⟨g,cap,cur,h1,h2,h3⟩
 ·exact .inl h
 ·exact .inr ⟨g,cap,cur,h1,by omega,h3⟩
theorem below_app {w w':World} {o:Obj} {n m:Nat} (h:(w.alloc o).grownBy w' (Value.ownBlock (.slice (some ⟨w.heap.size,0,none⟩) n m))):Below w.heap.size w w' :=
 ((Below.refl _ _).alloc (Nat.le_refl _) o).grown h (by simp) (fun k hk => by cases hk; exact Nat.le_refl _)
theorem app_base {w w':World} {o o':Obj} {r:Option Nat} (h:(w.alloc o).grownBy w' r):w.heap.size ≤ (w'.alloc o').heap.size:=by
 have:=h.size; simp at this ⊢; omega
theorem app_base3 {w w' w'':World} {o o':Obj} {r r':Option Nat} (h:(w.alloc o).grownBy w' r) (h':(w'.alloc o').grownBy w'' r'):w.heap.size ≤ w''.heap.size:=by
 have:=h.size; have:=h'.size; simp at *; omega
theorem below_app3 {w1 w2 w3:World} {o o':Obj} {n m:Nat} {x2:Value} {nn:Nat} {e:TypeId} {xs:List Value} (hx2:w2.ownsRow w1.heap.size e 1 x2 nn xs)
 (hg2:(w1.alloc o).grownBy w2 (Value.ownBlock (.slice (some ⟨w1.heap.size,0,none⟩) n m))) (hg3:(w2.alloc o').grownBy w3 x2.ownBlock):Below w1.heap.size w1 w3 :=
 ((below_app hg2).alloc (below_app hg2).size o').grown hg3 (by have:=(below_app hg2).size; simp; omega) (fun k hk => (hx2.lt k hk).1)
theorem rest_kept {w1 w2 w3:World} {o o':Obj} {n m:Nat} {x1 x2:Value} {n1 nn base:Nat} {e:TypeId} {xs ys:List Value} (hx1:w1.ownsRow base e 1 x1 n1 ys) (hx2:w2.ownsRow w1.heap.size e 1 x2 nn xs)
 (hg2:(w1.alloc o).grownBy w2 (Value.ownBlock (.slice (some ⟨w1.heap.size,0,none⟩) n m))) (hg3:(w2.alloc o').grownBy w3 x2.ownBlock):Rd w3 x1 ys :=
 (Rd.own hx1).keep (below_app3 hx2 hg2 hg3)
theorem app_one (l:List ByteArray):∀ u ∈ ([] ++ strV l:List Value),u.oneCell' = true:=by rw [List.nil_append]; exact strV_one l
theorem runion_end {W wr:World} {a b:List ByteArray} {n k j m:Nat} {l:List ByteArray} {s:ByteArray} (hlt:k < n) (hs:(a ++ b)[k]? = some s) (hlm:l.length = m) (hj:j ≤ m) (hmk:m ≤ k) (hri:Rises (NamesSpec.bytesOf l)) (hmem:∀ x,x ∈ l ↔ x ∈ (a ++ b).take k)
 (hlow:∀ x ∈ l.take j,below x s) (hhigh:∀ x ∈ l.drop j,below s x) (hbw:Below W.heap.size W wr) :
 ∀ (x1 x2 x3 x4:Value) (w1 w2 w3 w4:World),w1.ownsRow wr.heap.size 9 1 x1 (0 + (strV (l.drop j)).length) ([] ++ strV (l.drop j)) → (wr.alloc (.cells #[] 9)).grownBy w1 (Value.ownBlock (.slice (some ⟨wr.heap.size,0,none⟩) 0 0)) →
   w2.ownsRow w1.heap.size 9 1 x2 (0 + (strV (l.take j)).length) ([] ++ strV (l.take j)) → (w1.alloc (.cells #[] 9)).grownBy w2 (Value.ownBlock (.slice (some ⟨w1.heap.size,0,none⟩) 0 0)) →
   w3.ownsRow w1.heap.size 9 1 x3 (0 + (strV (l.take j)).length + (strV [s]).length) ([] ++ strV (l.take j) ++ strV [s]) → (w2.alloc (.cells #[.string s] 9)).grownBy w3 x2.ownBlock →
   w4.ownsRow w1.heap.size 9 1 x4 (0 + (strV (l.take j)).length + (strV [s]).length + ([] ++ strV (l.drop j)).length) ([] ++ strV (l.take j) ++ strV [s] ++ ([] ++ strV (l.drop j))) → w3.grownBy w4 x3.ownBlock →
   RUnRel W a b n x4 (.int .i64 ((k:Int) + 1)) w4:=by
 intro x1 x2 x3 x4 w1 w2 w3 w4 hx1 hg1 hx2 hg2 hx3 hg3 hx4 hg4
 have e:[] ++ strV (l.take j) ++ strV [s] ++ ([] ++ strV (l.drop j)) = strV (insAt l j s):=by simp [insAt,strV]
 have en:0 + (strV (l.take j)).length + (strV [s]).length + ([] ++ strV (l.drop j)).length = m + 1:=by simp; omega
 have hil:(insAt l j s).length = m + 1:=by rw [ins_length (by omega),hlm]
 rw [e,en] at hx4
 have hb1:=below_app hg1
 have hb3:=below_app3 hx2 hg2 hg3
 have hb4:Below w1.heap.size w1 w4:=hb3.grown hg4 hb3.size (fun q hq => (hx3.lt q hq).1)
 have hW:Below W.heap.size W w4:=below_two' (below_two' hbw hb1) hb4
 obtain ⟨g,cap,rfl,hg,hlt'⟩:=hx4.form (by omega)
 have hbase:W.heap.size ≤ w1.heap.size:=Nat.le_trans hbw.size hb1.size
 refine ⟨k + 1,insAt l j s,m + 1,g,cap,hlt,by simp,rfl,hil,own_base hx4 hbase,ins_rises hri hlow hhigh,fun x => ?_,by omega,hW⟩
 rw [ins_mem,hmem,take_next hs,List.mem_append,List.mem_singleton]
theorem run_skip {W wr:World} {a b:List ByteArray} {n k m g cap:Nat} {l:List ByteArray} {s:ByteArray} (hlt:k < n) (hs:(a ++ b)[k]? = some s) (hlm:l.length = m) (hmk:m ≤ k)
 (hown:wr.ownsRow W.heap.size 9 1 (.slice (some ⟨g,0,none⟩) m cap) m (strV l)) (hri:Rises (NamesSpec.bytesOf l)) (hmem:∀ x,x ∈ l ↔ x ∈ (a ++ b).take k) (hh:hasS l s = true) (hbw:Below W.heap.size W wr) :
 RUnRel W a b n (.slice (some ⟨g,0,none⟩) m cap) (.int .i64 ((k:Int) + 1)) wr:=by
 refine ⟨k + 1,l,m,g,cap,hlt,by simp,rfl,hlm,hown,hri,fun x => ?_,by omega,hbw⟩
 rw [take_next hs,List.mem_append,List.mem_singleton,← hmem]
 constructor
 ·exact .inl
 ·rintro (h | h)
  ·exact h
  ·rw [h]; exact hasS_iff.1 hh
theorem rd_take {w:World} {base g m cap j:Nat} {e:TypeId} {l:List ByteArray} (hown:w.ownsRow base e 1 (.slice (some ⟨g,0,none⟩) m cap) m (strV l)) (hlm:l.length = m) (hj:j ≤ m) (hc:m ≤ cap):Rd w (.slice (some ⟨g,0,none⟩) j cap) (strV (l.take j)):=by
 obtain ⟨cur,_,hh,_⟩:=own_parts hown
 refine Rd.cells (by simp; omega) (by omega) (Array.getElem?_eq_some_iff.1 hh).1 fun i u hu => ?_
 have hi:=get_lt hu
 rw [strV_length,List.length_take] at hi
 rw [Nat.zero_add,hown.cellAt i (by omega),strV_get]
 rw [strV_get,List.getElem?_take_of_lt (by omega)] at hu
 exact hu
theorem rd_drop {w:World} {base g m cap j:Nat} {e:TypeId} {l:List ByteArray} {A:Option Addr} (hown:w.ownsRow base e 1 (.slice (some ⟨g,0,none⟩) m cap) m (strV l)) (hlm:l.length = m) (hj:j ≤ m) (hc:m ≤ cap) (hA:0 < m - j → A = some ⟨g,j,none⟩) :
 Rd w (.slice A (m - j) (cap - j)) (strV (l.drop j)):=by
 obtain ⟨cur,_,hh,_⟩:=own_parts hown
 refine ⟨A,m - j,cap - j,rfl,by simp; omega,by omega,fun h0 => ⟨g,j,hA h0,(Array.getElem?_eq_some_iff.1 hh).1,fun i u hu => ?_⟩⟩
 have hi:=get_lt hu
 rw [strV_length,List.length_drop] at hi
 rw [hown.cellAt (j + i) (by omega),strV_get]
 rw [strV_get,List.getElem?_drop] at hu
 exact hu
set_option maxHeartbeats 4000000 in
theorem runion_any (v1 v2:Value) (a b:List ByteArray) (w:World) (r1:Rd w v1 (strV a)) (r2:Rd w v2 (strV b)) (hl:a.length + b.length ≤ 1048576) :
 Calls Tryz.prog 39 #[v1,v2] w (RetStrs w (un a b)):=by
 obtain ⟨i0,hi,hz0,hz1,hz2⟩:=info_parts info_str
 obtain ⟨A1,n1,c1,rfl,hn1,hc1,hA1⟩:=r1.strs
 obtain ⟨A2,n2,c2,rfl,hn2,hc2,hA2⟩:=r2.strs
 have HA1:=Lib.hid hA1
 have HA2:=Lib.hid hA2
 have HN1:=Lib.hid hn1
 have HN2:=Lib.hid hn2
 have hb1:n1 ≤ 1048576:=by omega
 have hb2:n1 + n2 ≤ 1048576:=by omega
 clear hA1 hA2 hn1 hn2 r1 r2 hl hc1 hc2
 go_enter Tryz.func39,Tryz.ntmps39
 go_wp2_with fail
 go_loopw [5,6] (fun p i wr => RUnRel w a b (n1 + n2) p i wr) (fun _ i _ => n1 + n2 - (Go.RowKit.intOf i).toNat)
 case atStart => exact ⟨0,[],0,w.heap.size,0,Nat.zero_le _,rfl,rfl,rfl,World.ownsRow_lit w #[] 0 (Nat.le_refl _) (Nat.zero_le _) rfl,List.Pairwise.nil,by simp,Nat.le_refl _,(Below.refl _ _).alloc (Nat.le_refl _) _⟩
 case round =>
  obtain ⟨k,l,m,g,cap,hk,rfl,rfl,hlm,hown,hri,hmem,hmk,hbw⟩:=hrel
  obtain ⟨wo,rfl⟩:∃ wo:World,wo = wr:=⟨_,rfl⟩
  by_cases hlt:k < n1 + n2
  ·obtain ⟨s,hs⟩:∃ s,(a ++ b)[k]? = some s:=get_some (by rw [List.length_append,HN1.out,HN2.out]; exact hlt)
   have HP:=Lib.hid (rplace_any _ l s wo (Rd.own hown) (by omega))
   have hpg:=place_ge l s
   have hcell:(k < n1 → ∃ b1 off1,A1 = some ⟨b1,off1,none⟩ ∧ wo.cell? ⟨b1,off1 + k,none⟩ = some (.string s)) ∧ (¬ k < n1 → ∃ b2 off2,A2 = some ⟨b2,off2,none⟩ ∧ wo.cell? ⟨b2,off2 + (k - n1),none⟩ = some (.string s)):=by
    have e1:=HN1.out
    constructor
    ·intro h
     obtain ⟨b1,off1,e,hb,hc⟩:=HA1.out (by omega)
     exact ⟨b1,off1,e,(hbw.cell (by exact hb)).trans (hc k s (by rw [List.getElem?_append_left (by omega)] at hs; exact hs))⟩
    ·intro h
     obtain ⟨b2,off2,e,hb,hc⟩:=HA2.out (by omega)
     exact ⟨b2,off2,e,(hbw.cell (by exact hb)).trans (hc (k - n1) s (by rw [List.getElem?_append_right (by omega),e1] at hs; exact hs))⟩
   have HC:=Lib.hid hcell
   have HS:=Lib.hid hs
   have HI:=Lib.hid hri
   have HM:=Lib.hid hmem
   have HL:=Lib.hid hlm
   have HW:=Lib.hid hbw
   clear hcell hs hri hmem hlm hbw
   by_cases hk1:k < n1
   ·obtain ⟨b1,off1,rfl,hck⟩:=HC.out.1 hk1
    rcases hh:hasS l s with _ | _
    ·have hpl:=hpg.trans hh
     have HH:=Lib.hid hh
     clear hh hpg
     go_wp2_with (go_at_call 45; refine HP.out.mono ?_; rintro e w' ⟨rfl,rfl⟩)
     clear hck hpl
     go_loop [8] (fun av => AtRel l s m av) (fun av => m - (Go.RowKit.intOf av).toNat)
     case atStart => exact ⟨0,Nat.zero_le _,rfl,by simp⟩
     case round =>
      obtain ⟨j,hjm,rfl,hlow⟩:=hrel
      have hcj:∀ y,l[j]? = some y → wo.cell? ⟨g,j,none⟩ = some (.string y):=fun y hy => by
       have hj':=get_lt hy
       have:=HL.out
       rw [hown.cellAt j (by omega),strV_get,hy]; rfl
      by_cases hgo:∃ y,l[j]? = some y ∧ Op.bytesLess y.toList s.toList = true
      ·obtain ⟨y,hy,hless⟩:=hgo
       have hlt2:j < m:=by have:=get_lt hy; have:=HL.out; omega
       have hcy:=hcj y hy
       have HR:Hid (AtRel l s m (.int .i64 ((j:Int) + 1))):=Lib.hid ⟨j + 1,hlt2,by simp,fun x hx => by
        rw [take_next hy,List.mem_append,List.mem_singleton] at hx
        rcases hx with hx | hx
        ·exact hlow x hx
        ·rw [hx]; exact (less_iff y s).1 hless⟩
       clear hcj hy hlow
       go_wp2_with fail
       go_round
       case rel => exact HR.out
       case measure => simp [Go.RowKit.intOf]; omega
      ·have hhigh:=high_of HI.out (hasS_no.1 HH.out) (fun y hy hlt => hgo ⟨y,hy,(less_iff y s).2 hlt⟩)
       have HEND:=Lib.hid (runion_end hlt HS.out HL.out hjm hmk HI.out HM.out hlow hhigh HW.out)
       have hcap:=(own_parts hown).choose_spec.2.2.1
       obtain ⟨AD,hsl1,hAD⟩:=slice_from g m cap j hjm hcap
       have hsl2:=slice_to g m cap j hjm hcap
       have hdl:(l.drop j).length = m - j:=by rw [List.length_drop,HL.out]
       have hrl:Rd wo (.slice (some ⟨g,0,none⟩) m cap) (strV l):=Rd.own hown
       have HRD:Hid (Rd wo (.slice AD (m - j) (cap - j)) (strV (l.drop j))):=Lib.hid (rd_drop hown HL.out hjm hcap hAD)
       have HRT:Hid (Rd wo (.slice (some ⟨g,0,none⟩) j cap) (strV (l.take j))):=Lib.hid (rd_take hown HL.out hjm hcap)
       have hl2:l.length ≤ 1048576:=by have:=HL.out; omega
       have HS1:Hid (0 + (strV (l.drop j)).length ≤ maxLen):=Lib.hid (by simp [maxLen]; omega)
       have HT1:Hid ((0 + (strV (l.drop j)).length) * 16 ≤ 140737488355328):=Lib.hid (by simp; omega)
       have HS2:Hid (0 + (strV (l.take j)).length ≤ maxLen):=Lib.hid (by simp [maxLen]; omega)
       have HT2:Hid ((0 + (strV (l.take j)).length) * 16 ≤ 140737488355328):=Lib.hid (by simp; omega)
       have HS3:Hid (0 + (strV (l.take j)).length + (strV [s]).length ≤ maxLen):=Lib.hid (by simp [maxLen]; omega)
       have HT3:Hid ((0 + (strV (l.take j)).length + (strV [s]).length) * 16 ≤ 140737488355328):=Lib.hid (by simp; omega)
       have HS4:Hid (0 + (strV (l.take j)).length + (strV [s]).length + ([] ++ strV (l.drop j)).length ≤ maxLen):=Lib.hid (by simp [maxLen]; omega)
       have HT4:Hid ((0 + (strV (l.take j)).length + (strV [s]).length + ([] ++ strV (l.drop j)).length) * 16 ≤ 140737488355328):=Lib.hid (by simp; omega)
       obtain ⟨q,hq⟩:∃ q,q = m - j:=⟨_,rfl⟩
       obtain ⟨c3,hc3⟩:∃ c3,c3 = cap - j:=⟨_,rfl⟩
       rw [← hq,← hc3] at hsl1 HRD
       have HGO:=Lib.hid hgo
       clear hq hc3 hdl hrl hl2 hhigh hlow hgo hAD
       by_cases hjl:j < m
       ·obtain ⟨y,hy⟩:∃ y,l[j]? = some y:=get_some (by have:=HL.out; omega)
        have hcy:=hcj y hy
        have hless:Op.bytesLess y.toList s.toList = false:=by
         rw [← Bool.not_eq_true]; exact fun h => HGO.out ⟨y,hy,h⟩
        clear hcj hy
        go_wp2_with (first
         | (at_builtin; refine wpList_append_rd _ rfl (.tmp 53) (.tmp 56) _ rfl wo.heap.size 9 i0 (.string ByteArray.empty) 16 Tryz.underlying22 hi hz0 hz1 hz2 rfl _ 0 [] rfl (World.ownsRow_lit wo #[] 0 (Nat.le_refl _) (Nat.zero_le _) rfl) _ (strV (l.drop j)) rfl (HRD.out.alloc _) (strV_one _) HS1.out HT1.out ?_ ?_; (simp); intro x1 w1 hx1 hg1 _)
         | (at_builtin; refine wpList_append_rd _ rfl (.tmp 58) (.tmp 61) _ rfl w1.heap.size 9 i0 (.string ByteArray.empty) 16 Tryz.underlying22 hi hz0 hz1 hz2 rfl _ 0 [] rfl (World.ownsRow_lit w1 #[] 0 (Nat.le_refl _) (Nat.zero_le _) rfl) _ (strV (l.take j)) rfl ((HRT.out.keep (below_app hg1)).alloc _) (strV_one _) HS2.out HT2.out ?_ ?_; (simp); intro x2 w2 hx2 hg2 _)
         | (at_builtin; refine wpList_append_rd _ rfl (.tmp 62) (.tmp 64) _ rfl w1.heap.size 9 i0 (.string ByteArray.empty) 16 Tryz.underlying22 hi hz0 hz1 hz2 rfl x2 _ _ rfl (hx2.alloc _) _ (strV [s]) rfl (Rd.lit (cs:=#[.string s]) rfl) (strV_one _) HS3.out HT3.out ?_ ?_; (exact app_base hg2); intro x3 w3 hx3 hg3 _)
         | (at_builtin; refine wpList_append_rd _ rfl (.tmp 65) (.tmp 66) _ rfl w1.heap.size 9 i0 (.string ByteArray.empty) 16 Tryz.underlying22 hi hz0 hz1 hz2 rfl x3 _ _ rfl hx3 x1 ([] ++ strV (l.drop j)) rfl (rest_kept hx1 hx2 hg2 hg3) (app_one _) HS4.out HT4.out ?_ ?_; (exact app_base3 hg2 hg3); intro x4 w4 hx4 hg4 _))
        go_roundw
        case rel => exact HEND.out x1 x2 x3 x4 w1 w2 w3 w4 hx1 hg1 hx2 hg2 hx3 hg3 hx4 hg4
        case measure => simp [Go.RowKit.intOf]; omega
       ·clear hcj
        go_wp2_with (first
         | (at_builtin; refine wpList_append_rd _ rfl (.tmp 53) (.tmp 56) _ rfl wo.heap.size 9 i0 (.string ByteArray.empty) 16 Tryz.underlying22 hi hz0 hz1 hz2 rfl _ 0 [] rfl (World.ownsRow_lit wo #[] 0 (Nat.le_refl _) (Nat.zero_le _) rfl) _ (strV (l.drop j)) rfl (HRD.out.alloc _) (strV_one _) HS1.out HT1.out ?_ ?_; (simp); intro x1 w1 hx1 hg1 _)
         | (at_builtin; refine wpList_append_rd _ rfl (.tmp 58) (.tmp 61) _ rfl w1.heap.size 9 i0 (.string ByteArray.empty) 16 Tryz.underlying22 hi hz0 hz1 hz2 rfl _ 0 [] rfl (World.ownsRow_lit w1 #[] 0 (Nat.le_refl _) (Nat.zero_le _) rfl) _ (strV (l.take j)) rfl ((HRT.out.keep (below_app hg1)).alloc _) (strV_one _) HS2.out HT2.out ?_ ?_; (simp); intro x2 w2 hx2 hg2 _)
         | (at_builtin; refine wpList_append_rd _ rfl (.tmp 62) (.tmp 64) _ rfl w1.heap.size 9 i0 (.string ByteArray.empty) 16 Tryz.underlying22 hi hz0 hz1 hz2 rfl x2 _ _ rfl (hx2.alloc _) _ (strV [s]) rfl (Rd.lit (cs:=#[.string s]) rfl) (strV_one _) HS3.out HT3.out ?_ ?_; (exact app_base hg2); intro x3 w3 hx3 hg3 _)
         | (at_builtin; refine wpList_append_rd _ rfl (.tmp 65) (.tmp 66) _ rfl w1.heap.size 9 i0 (.string ByteArray.empty) 16 Tryz.underlying22 hi hz0 hz1 hz2 rfl x3 _ _ rfl hx3 x1 ([] ++ strV (l.drop j)) rfl (rest_kept hx1 hx2 hg2 hg3) (app_one _) HS4.out HT4.out ?_ ?_; (exact app_base3 hg2 hg3); intro x4 w4 hx4 hg4 _))
        go_roundw
        case rel => exact HEND.out x1 x2 x3 x4 w1 w2 w3 w4 hx1 hg1 hx2 hg2 hx3 hg3 hx4 hg4
        case measure => simp [Go.RowKit.intOf]; omega
    ·have hpl:=hpg.trans hh
     have HH:=Lib.hid hh
     clear hh hpg
     go_wp2_with (go_at_call 45; refine HP.out.mono ?_; rintro e w' ⟨rfl,rfl⟩)
     go_roundw
     case rel => exact run_skip hlt HS.out HL.out hmk hown HI.out HM.out HH.out HW.out
     case measure => simp [Go.RowKit.intOf]; omega
   ·obtain ⟨b2,off2,rfl,hck⟩:=HC.out.2 hk1
    rcases hh:hasS l s with _ | _
    ·have hpl:=hpg.trans hh
     have HH:=Lib.hid hh
     clear hh hpg
     go_wp2_with (go_at_call 45; refine HP.out.mono ?_; rintro e w' ⟨rfl,rfl⟩)
     clear hck hpl
     go_loop [8] (fun av => AtRel l s m av) (fun av => m - (Go.RowKit.intOf av).toNat)
     case atStart => exact ⟨0,Nat.zero_le _,rfl,by simp⟩
     case round =>
      obtain ⟨j,hjm,rfl,hlow⟩:=hrel
      have hcj:∀ y,l[j]? = some y → wo.cell? ⟨g,j,none⟩ = some (.string y):=fun y hy => by
       have hj':=get_lt hy
       have:=HL.out
       rw [hown.cellAt j (by omega),strV_get,hy]; rfl
      by_cases hgo:∃ y,l[j]? = some y ∧ Op.bytesLess y.toList s.toList = true
      ·obtain ⟨y,hy,hless⟩:=hgo
       have hlt2:j < m:=by have:=get_lt hy; have:=HL.out; omega
       have hcy:=hcj y hy
       have HR:Hid (AtRel l s m (.int .i64 ((j:Int) + 1))):=Lib.hid ⟨j + 1,hlt2,by simp,fun x hx => by
        rw [take_next hy,List.mem_append,List.mem_singleton] at hx
        rcases hx with hx | hx
        ·exact hlow x hx
        ·rw [hx]; exact (less_iff y s).1 hless⟩
       clear hcj hy hlow
       go_wp2_with fail
       go_round
       case rel => exact HR.out
       case measure => simp [Go.RowKit.intOf]; omega
      ·have hhigh:=high_of HI.out (hasS_no.1 HH.out) (fun y hy hlt => hgo ⟨y,hy,(less_iff y s).2 hlt⟩)
       have HEND:=Lib.hid (runion_end hlt HS.out HL.out hjm hmk HI.out HM.out hlow hhigh HW.out)
       have hcap:=(own_parts hown).choose_spec.2.2.1
       obtain ⟨AD,hsl1,hAD⟩:=slice_from g m cap j hjm hcap
       have hsl2:=slice_to g m cap j hjm hcap
       have hdl:(l.drop j).length = m - j:=by rw [List.length_drop,HL.out]
       have hrl:Rd wo (.slice (some ⟨g,0,none⟩) m cap) (strV l):=Rd.own hown
       have HRD:Hid (Rd wo (.slice AD (m - j) (cap - j)) (strV (l.drop j))):=Lib.hid (rd_drop hown HL.out hjm hcap hAD)
       have HRT:Hid (Rd wo (.slice (some ⟨g,0,none⟩) j cap) (strV (l.take j))):=Lib.hid (rd_take hown HL.out hjm hcap)
       have hl2:l.length ≤ 1048576:=by have:=HL.out; omega
       have HS1:Hid (0 + (strV (l.drop j)).length ≤ maxLen):=Lib.hid (by simp [maxLen]; omega)
       have HT1:Hid ((0 + (strV (l.drop j)).length) * 16 ≤ 140737488355328):=Lib.hid (by simp; omega)
       have HS2:Hid (0 + (strV (l.take j)).length ≤ maxLen):=Lib.hid (by simp [maxLen]; omega)
       have HT2:Hid ((0 + (strV (l.take j)).length) * 16 ≤ 140737488355328):=Lib.hid (by simp; omega)
       have HS3:Hid (0 + (strV (l.take j)).length + (strV [s]).length ≤ maxLen):=Lib.hid (by simp [maxLen]; omega)
       have HT3:Hid ((0 + (strV (l.take j)).length + (strV [s]).length) * 16 ≤ 140737488355328):=Lib.hid (by simp; omega)
       have HS4:Hid (0 + (strV (l.take j)).length + (strV [s]).length + ([] ++ strV (l.drop j)).length ≤ maxLen):=Lib.hid (by simp [maxLen]; omega)
       have HT4:Hid ((0 + (strV (l.take j)).length + (strV [s]).length + ([] ++ strV (l.drop j)).length) * 16 ≤ 140737488355328):=Lib.hid (by simp; omega)
       obtain ⟨q,hq⟩:∃ q,q = m - j:=⟨_,rfl⟩
       obtain ⟨c3,hc3⟩:∃ c3,c3 = cap - j:=⟨_,rfl⟩
       rw [← hq,← hc3] at hsl1 HRD
       have HGO:=Lib.hid hgo
       clear hq hc3 hdl hrl hl2 hhigh hlow hgo hAD
       by_cases hjl:j < m
       ·obtain ⟨y,hy⟩:∃ y,l[j]? = some y:=get_some (by have:=HL.out; omega)
        have hcy:=hcj y hy
        have hless:Op.bytesLess y.toList s.toList = false:=by
         rw [← Bool.not_eq_true]; exact fun h => HGO.out ⟨y,hy,h⟩
        clear hcj hy
        go_wp2_with (first
         | (at_builtin; refine wpList_append_rd _ rfl (.tmp 53) (.tmp 56) _ rfl wo.heap.size 9 i0 (.string ByteArray.empty) 16 Tryz.underlying22 hi hz0 hz1 hz2 rfl _ 0 [] rfl (World.ownsRow_lit wo #[] 0 (Nat.le_refl _) (Nat.zero_le _) rfl) _ (strV (l.drop j)) rfl (HRD.out.alloc _) (strV_one _) HS1.out HT1.out ?_ ?_; (simp); intro x1 w1 hx1 hg1 _)
         | (at_builtin; refine wpList_append_rd _ rfl (.tmp 58) (.tmp 61) _ rfl w1.heap.size 9 i0 (.string ByteArray.empty) 16 Tryz.underlying22 hi hz0 hz1 hz2 rfl _ 0 [] rfl (World.ownsRow_lit w1 #[] 0 (Nat.le_refl _) (Nat.zero_le _) rfl) _ (strV (l.take j)) rfl ((HRT.out.keep (below_app hg1)).alloc _) (strV_one _) HS2.out HT2.out ?_ ?_; (simp); intro x2 w2 hx2 hg2 _)
         | (at_builtin; refine wpList_append_rd _ rfl (.tmp 62) (.tmp 64) _ rfl w1.heap.size 9 i0 (.string ByteArray.empty) 16 Tryz.underlying22 hi hz0 hz1 hz2 rfl x2 _ _ rfl (hx2.alloc _) _ (strV [s]) rfl (Rd.lit (cs:=#[.string s]) rfl) (strV_one _) HS3.out HT3.out ?_ ?_; (exact app_base hg2); intro x3 w3 hx3 hg3 _)
         | (at_builtin; refine wpList_append_rd _ rfl (.tmp 65) (.tmp 66) _ rfl w1.heap.size 9 i0 (.string ByteArray.empty) 16 Tryz.underlying22 hi hz0 hz1 hz2 rfl x3 _ _ rfl hx3 x1 ([] ++ strV (l.drop j)) rfl (rest_kept hx1 hx2 hg2 hg3) (app_one _) HS4.out HT4.out ?_ ?_; (exact app_base3 hg2 hg3); intro x4 w4 hx4 hg4 _))
        go_roundw
        case rel => exact HEND.out x1 x2 x3 x4 w1 w2 w3 w4 hx1 hg1 hx2 hg2 hx3 hg3 hx4 hg4
        case measure => simp [Go.RowKit.intOf]; omega
       ·clear hcj
        go_wp2_with (first
         | (at_builtin; refine wpList_append_rd _ rfl (.tmp 53) (.tmp 56) _ rfl wo.heap.size 9 i0 (.string ByteArray.empty) 16 Tryz.underlying22 hi hz0 hz1 hz2 rfl _ 0 [] rfl (World.ownsRow_lit wo #[] 0 (Nat.le_refl _) (Nat.zero_le _) rfl) _ (strV (l.drop j)) rfl (HRD.out.alloc _) (strV_one _) HS1.out HT1.out ?_ ?_; (simp); intro x1 w1 hx1 hg1 _)
         | (at_builtin; refine wpList_append_rd _ rfl (.tmp 58) (.tmp 61) _ rfl w1.heap.size 9 i0 (.string ByteArray.empty) 16 Tryz.underlying22 hi hz0 hz1 hz2 rfl _ 0 [] rfl (World.ownsRow_lit w1 #[] 0 (Nat.le_refl _) (Nat.zero_le _) rfl) _ (strV (l.take j)) rfl ((HRT.out.keep (below_app hg1)).alloc _) (strV_one _) HS2.out HT2.out ?_ ?_; (simp); intro x2 w2 hx2 hg2 _)
         | (at_builtin; refine wpList_append_rd _ rfl (.tmp 62) (.tmp 64) _ rfl w1.heap.size 9 i0 (.string ByteArray.empty) 16 Tryz.underlying22 hi hz0 hz1 hz2 rfl x2 _ _ rfl (hx2.alloc _) _ (strV [s]) rfl (Rd.lit (cs:=#[.string s]) rfl) (strV_one _) HS3.out HT3.out ?_ ?_; (exact app_base hg2); intro x3 w3 hx3 hg3 _)
         | (at_builtin; refine wpList_append_rd _ rfl (.tmp 65) (.tmp 66) _ rfl w1.heap.size 9 i0 (.string ByteArray.empty) 16 Tryz.underlying22 hi hz0 hz1 hz2 rfl x3 _ _ rfl hx3 x1 ([] ++ strV (l.drop j)) rfl (rest_kept hx1 hx2 hg2 hg3) (app_one _) HS4.out HT4.out ?_ ?_; (exact app_base3 hg2 hg3); intro x4 w4 hx4 hg4 _))
        go_roundw
        case rel => exact HEND.out x1 x2 x3 x4 w1 w2 w3 w4 hx1 hg1 hx2 hg2 hx3 hg3 hx4 hg4
        case measure => simp [Go.RowKit.intOf]; omega
    ·have hpl:=hpg.trans hh
     have HH:=Lib.hid hh
     clear hh hpg
     go_wp2_with (go_at_call 45; refine HP.out.mono ?_; rintro e w' ⟨rfl,rfl⟩)
     go_roundw
     case rel => exact run_skip hlt HS.out HL.out hmk hown HI.out HM.out HH.out HW.out
     case measure => simp [Go.RowKit.intOf]; omega
  ·have HE:Hid (un a b = l):=Lib.hid (un_eq hri fun s => by rw [hmem,List.take_of_length_le (by rw [List.length_append,HN1.out,HN2.out]; omega),List.mem_append])
   have HR:=Lib.hid (Rd.own hown)
   clear hmem hri hown hlm
   go_wp2_with fail
   go_ret
   exact ⟨_,rfl,by rw [HE.out]; exact HR.out,hbw⟩
end Go.Proofs.YtapnomdckglehaaGreat