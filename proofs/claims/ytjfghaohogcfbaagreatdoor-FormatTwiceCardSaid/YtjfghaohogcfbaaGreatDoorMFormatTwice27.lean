/- PrintTree, PrintStates, PrintScan, FormSpec, EvalOps2, EvalNone, EvalReckon, EvalCheck, EvalLight, ActLight, joined. -/
import Derived.Test.YtjfghaohogcfbaaGreatDoorMFormatTwice26
import Derived.Test.YtjfghaohogcfbaaGreatDoorMFormatTwice19
import Derived.Test.YtjfghaohogcfbaaGreatDoorMFormatTwice20
import Derived.Test.YtjfghaohogcfbaaGreatDoorMFormatTwice03
import Derived.Test.YtjfghaohogcfbaaGreatDoorMFormatTwice06
import Derived.BigQuiet
import Derived.Deep.QuietTactic
import Derived.Test.YtjfghaohogcfbaaGreatDoorMFormatTwice12
import Derived.Test.YtjfghaohogcfbaaGreatDoorMFormatTwice23
import Derived.Lib.QuietBelow
namespace Go.Proofs.YtjfghaohogcfbaaGreatDoor
namespace PrintSpec
open CurSpec TermSpec EvalSpec NamesSpec ExprSpec ScanSpec ActSpec TransSpec SynSpec
open ShapeSpec (Sh up sf endOf SU)
section
variable (sh:List Sh) (l:List Ts)
def cl (i0 m:Nat):List Tx:=((sf sh m).filter fun j => decide (i0 ≤ j)).flatMap (oneK sh l m)
def bodyK (i0 m:Nat):List Tx:=stK sh l m ++ cl sh l i0 m
def seg (i0 a b:Nat):List Tx:=(List.range' a (b - a)).flatMap (bodyK sh l i0)
def shutK (i:Nat):List Tx:=if emptyB sh l i = false then [(3,lShut)] else []
end
section
variable {sh:List Sh} {l:List Ts}
theorem seg_nil (i0 a:Nat):seg sh l i0 a a = []:=by unfold seg; rw [Nat.sub_self]; rfl
theorem seg_app (i0:Nat) {a b c:Nat} (h1:a ≤ b) (h2:b ≤ c):seg sh l i0 a c = seg sh l i0 a b ++ seg sh l i0 b c:=by
 unfold seg
 rw [← List.flatMap_append,show c - a = (b - a) + (c - b) by omega,← List.range'_append_1,show a + (b - a) = b by omega]
theorem seg_one (i0 a:Nat):seg sh l i0 a (a + 1) = bodyK sh l i0 a:=by
 unfold seg
 rw [show a + 1 - a = 1 by omega]
 simp
theorem seg_congr {i0 i1 a b:Nat} (h:∀ m,a ≤ m → m < b → cl sh l i0 m = cl sh l i1 m):seg sh l i0 a b = seg sh l i1 a b:=by
 unfold seg
 rw [List.flatMap_def,List.flatMap_def]
 congr 1
 refine List.map_congr_left fun m hm => ?_
 have:=List.mem_range'_1.1 hm
 unfold bodyK
 rw [h m this.1 (by omega)]
theorem stsK_seg (hl:sh.length = l.length):stsK sh l = seg sh l 0 0 sh.length:=by
 unfold stsK seg
 rw [hl,Nat.sub_zero,List.range_eq_range']
 rw [List.flatMap_def,List.flatMap_def]
 congr 1
 refine List.map_congr_left fun m _ => ?_
 unfold bodyK cl closK
 rw [List.filter_eq_self.2 (fun j _ => by simp)]
theorem upF_desc (l:List Sh):∀ i,(up l i).Pairwise (· > ·):=by
 intro i
 induction i using Nat.strongRecOn with
 | ind i ih =>
   by_cases hp:0 ≤ ShapeSpec.par l i ∧ ShapeSpec.par l i < i
   ·rw [ShapeSpec.up_sf hp.1 hp.2]
    refine List.pairwise_cons.2 ⟨fun j hj => ShapeSpec.up_lt hj,ih _ (by omega)⟩
   ·rw [ShapeSpec.up_no hp]
    exact .nil
theorem sf_desc (l:List Sh) (i:Nat):(sf l i).Pairwise (· > ·):=List.pairwise_cons.2 ⟨fun _j hj => ShapeSpec.up_lt hj,upF_desc l i⟩
theorem desc_filter {i:Nat}:∀ {a:List Nat},a.Pairwise (· > ·) → i ∈ a → a.filter (fun j => decide (i ≤ j)) = a.filter (fun j => decide (i + 1 ≤ j)) ++ [i]
 | [],_,h => by simp at h
 | x :: r,hp,h => by
   obtain ⟨h1,h2⟩:=List.pairwise_cons.1 hp
   rcases List.mem_cons.1 h with rfl | h
   ·rw [List.filter_cons_of_pos (by simp),List.filter_cons_of_neg (by simp)]
    have e:∀ k,i ≤ k → r.filter (fun j => decide (k ≤ j)) = []:=fun k hk => List.filter_eq_nil_iff.2 fun j hj => by have:=h1 j hj; simp; omega
    rw [e i (Nat.le_refl _),e (i + 1) (by omega)]
    rfl
   ·have:=h1 i h
    rw [List.filter_cons_of_pos (by simp; omega),List.filter_cons_of_pos (by simp; omega),desc_filter h2 h]
    rfl
theorem cl_last {i m:Nat} (h:i ∈ sf sh m):cl sh l i m = cl sh l (i + 1) m ++ oneK sh l m i:=by
 unfold cl
 rw [desc_filter (sf_desc sh m) h,List.flatMap_append]
 simp
theorem cl_none (i:Nat):cl sh l (i + 1) i = []:=by
 unfold cl
 rw [List.filter_eq_nil_iff.2 fun j hj => by have:=ShapeSpec.sf_le hj; simp; omega]
 rfl
theorem seg_state (h:SU sh sh.length) {i:Nat} (hi:i < sh.length):seg sh l i i (endOf sh i) = stK sh l i ++ (seg sh l (i + 1) (i + 1) (endOf sh i) ++ shutK sh l i):=by
 obtain ⟨e1,e2⟩:=ShapeSpec.end_bd hi
 obtain ⟨e,he⟩:∃ e,e = endOf sh i:=⟨_,rfl⟩
 rw [← he] at e1 e2 ⊢
 have hin:∀ m,i ≤ m → m < e → i ∈ sf sh m:=fun m h1 h2 => (ShapeSpec.end_iff h hi (by omega)).2 ⟨h1,by omega⟩
 have hno:∀ m,i ≤ m → m + 1 < e → cl sh l i m = cl sh l (i + 1) m:=fun m h1 h2 => by
  rw [cl_last (hin m h1 (by omega))]
  unfold oneK
  rw [if_neg (by omega),List.append_nil]
 have hla:cl sh l i (e - 1) = cl sh l (i + 1) (e - 1) ++ shutK sh l i:=by
  rw [cl_last (hin (e - 1) (by omega) (by omega))]
  unfold oneK shutK
  by_cases hb:emptyB sh l i = false
  ·rw [if_pos ⟨by omega,hb⟩,if_pos hb]
  ·rw [if_neg (fun h' => hb h'.2),if_neg hb]
 have h1:seg sh l i i e = seg sh l (i + 1) i e ++ shutK sh l i:=by
  rw [seg_app i (b:=e - 1) (by omega) (by omega),seg_app (i + 1) (a:=i) (b:=e - 1) (c:=e) (by omega) (by omega),seg_congr (i0:=i) (i1:=i + 1) (a:=i) (b:=e - 1) (fun m a b => hno m a (by omega))]
  have hs:seg sh l i (e - 1) e = seg sh l (i + 1) (e - 1) e ++ shutK sh l i:=by
   have e':e = (e - 1) + 1:=by omega
   rw [e',Nat.add_sub_cancel,seg_one,seg_one]
   unfold bodyK
   rw [hla,List.append_assoc]
  rw [hs,List.append_assoc]
 rw [h1,seg_app (i + 1) (a:=i) (b:=i + 1) (by omega) (by omega),seg_one]
 unfold bodyK
 rw [cl_none,List.append_nil,List.append_assoc]
theorem seg_kid (h:SU sh sh.length) {i m:Nat} (hm:m < sh.length) (hup:up sh m = sf sh i):seg sh l (i + 1) m (endOf sh m) = seg sh l m m (endOf sh m):=by
 refine seg_congr fun k h1 h2 => ?_
 have hk:m ∈ sf sh k:=(ShapeSpec.end_iff h hm (by have:=(ShapeSpec.end_bd hm).2; omega)).2 ⟨h1,h2⟩
 unfold cl
 congr 1
 refine List.filter_congr fun j hj => ?_
 have him:i < m:=ShapeSpec.up_lt (l:=sh) (i:=m) (j:=i) (by rw [hup]; exact ShapeSpec.sf_self _ _)
 by_cases hjm:m ≤ j
 ·simp [hjm]; omega
 ·have h3:=ShapeSpec.sf_chain hk hj (by omega)
  have h4:=ShapeSpec.sf_up h3 (by omega)
  rw [hup] at h4
  have:=ShapeSpec.sf_le h4
  have e1:¬ i + 1 ≤ j:=by omega
  simp [hjm,e1]
theorem kid_first (h:SU sh sh.length) {i:Nat} (hi:i < sh.length) (he:i + 1 < endOf sh i):up sh (i + 1) = sf sh i ∧ ShapeSpec.par sh (i + 1) = i ∧ i + 1 < sh.length:=by
 have hlt:i + 1 < sh.length:=by have:=(ShapeSpec.end_bd hi).2; omega
 have hin:=ShapeSpec.sf_up ((ShapeSpec.end_iff h hi hlt).2 ⟨by omega,he⟩) (by omega)
 obtain ⟨p,hp,hpl,hup,hpin⟩:=h.parn hlt (by omega)
 rw [Nat.add_sub_cancel] at hpin
 rw [hup] at hin
 have h1:=ShapeSpec.sf_le hpin
 have h2:=ShapeSpec.sf_le hin
 obtain rfl:p = i:=by omega
 exact ⟨hup,hp,hlt⟩
theorem kid_next (h:SU sh sh.length) {i m:Nat} (hi:i < sh.length) (hm:m < endOf sh i) (hup:up sh m = sf sh i) (him:i < m) :
 m < sh.length ∧ endOf sh m ≤ endOf sh i ∧ (endOf sh m < endOf sh i → up sh (endOf sh m) = sf sh i ∧ ShapeSpec.par sh (endOf sh m) = i):=by
 have hml:m < sh.length:=by have:=(ShapeSpec.end_bd hi).2; omega
 obtain ⟨a1,a2⟩:=ShapeSpec.end_bd hml
 have hm1:m ∈ sf sh (endOf sh m - 1):=(ShapeSpec.end_iff h hml (by omega)).2 ⟨by omega,by omega⟩
 have him1:i ∈ sf sh m:=ShapeSpec.up_in (by rw [hup]; exact ShapeSpec.sf_self _ _)
 have hi1:=(ShapeSpec.end_iff h hi (k:=endOf sh m - 1) (by omega)).1 (ShapeSpec.sf_sub hm1 him1)
 refine ⟨hml,by omega,fun hlt => ?_⟩
 have hel:endOf sh m < sh.length:=by have:=(ShapeSpec.end_bd hi).2; omega
 have hie:i ∈ up sh (endOf sh m):=ShapeSpec.sf_up ((ShapeSpec.end_iff h hi hel).2 ⟨by omega,hlt⟩) (by omega)
 obtain ⟨p,hp,hpl,hup2,hpin⟩:=h.parn hel (by omega)
 have hip:i ∈ sf sh p:=by rw [← hup2]; exact hie
 have hile:=ShapeSpec.sf_le hip
 have hpm:p < m:=by
  rcases Nat.lt_or_ge p m with h' | h'
  ·exact h'
  ·exfalso
   have:m ∈ sf sh p:=ShapeSpec.sf_chain hpin hm1 h'
   have h2:m ∈ sf sh (endOf sh m):=ShapeSpec.up_in (by rw [hup2]; exact this)
   have:=(ShapeSpec.end_iff h hml hel).1 h2
   omega
 have h3:=ShapeSpec.sf_up (ShapeSpec.sf_chain hm1 hpin (by omega)) (by omega:p ≠ m)
 rw [hup] at h3
 have:=ShapeSpec.sf_le h3
 obtain rfl:p = i:=by omega
 exact ⟨hup2,hp⟩
theorem kids_end (h:SU sh sh.length) {i:Nat} (hi:i < sh.length):ShapeSpec.kids sh i = [] ↔ endOf sh i = i + 1:=by
 have hk:ShapeSpec.kids sh i = [] ↔ ∀ k,k < sh.length → ShapeSpec.par sh k ≠ i:=by
  unfold ShapeSpec.kids ShapeSpec.kidsTo
  rw [List.map_eq_nil_iff,List.filter_eq_nil_iff]
  simp
 rw [hk]
 obtain ⟨a1,a2⟩:=ShapeSpec.end_bd hi
 constructor
 ·intro h'
  by_cases he:i + 1 < endOf sh i
  ·obtain ⟨-,h1,h2⟩:=kid_first h hi he
   exact absurd h1 (h' _ h2)
  ·omega
 ·intro he k hk hp
  have hik:i < k:=by
   rcases Nat.eq_zero_or_pos k with rfl | h0
   ·have:=h.root (by omega)
    rw [hp] at this
    omega
   ·have:=(h.par hk h0).2.1
    omega
  have h1:up sh k = sf sh i:=ShapeSpec.up_of hp hik
  have:=(ShapeSpec.end_iff h hi hk).1 (ShapeSpec.up_in (by rw [h1]; exact ShapeSpec.sf_self _ _))
  omega
end
end PrintSpec
end Go.Proofs.YtjfghaohogcfbaaGreatDoor
namespace Go.Proofs.YtjfghaohogcfbaaGreatDoor
namespace PrintSpec
open CurSpec TermSpec EvalSpec NamesSpec ExprSpec ScanSpec ActSpec TransSpec SynSpec
open ShapeSpec (Sh up sf endOf SU)
def slc (l:List Ts) (a b:Nat):List Sx:=((l.map Ts.sx).drop a).take (b - a)
theorem slc_nil (l:List Ts) (a:Nat):slc l a a = []:=by unfold slc; rw [Nat.sub_self,List.take_zero]
theorem slc_app (l:List Ts) {a b c:Nat} (h1:a ≤ b) (h2:b ≤ c):slc l a c = slc l a b ++ slc l b c:=by
 unfold slc
 rw [show c - a = (b - a) + (c - b) by omega,List.take_add,List.drop_drop,show a + (b - a) = b by omega]
theorem slc_one {l:List Ts} {a:Nat} {t:Ts} (h:l[a]? = some t):slc l a (a + 1) = [t.sx]:=by
 unfold slc
 rw [show a + 1 - a = 1 by omega,List.take_one,List.head?_drop,List.getElem?_map,h]
 rfl
theorem slc_cons {l:List Ts} {a b:Nat} {t:Ts} (h:l[a]? = some t) (hb:a + 1 ≤ b):slc l a b = t.sx :: slc l (a + 1) b:=by
 rw [slc_app l (a:=a) (b:=a + 1) (by omega) hb,slc_one h]
 rfl
theorem slc_len (l:List Ts) {a b:Nat} (h1:a ≤ b) (h2:b ≤ l.length):(slc l a b).length = b - a:=by
 unfold slc
 rw [List.length_take,List.length_drop,List.length_map]
 omega
theorem slc_all (l:List Ts):slc l 0 l.length = l.map Ts.sx:=by
 unfold slc
 rw [List.drop_zero,Nat.sub_zero,List.take_of_length_le (by rw [List.length_map]; exact Nat.le_refl _)]
structure Stand (sh:List Sh) (l:List Ts):Prop where
 eq:sh = l.map fun t => ⟨t.kind,t.par⟩
 su:SU sh sh.length
 deep:∀ i,i < sh.length → (up sh i).length ≤ 11
 few:sh.length ≤ 60
 ok:∀ t ∈ l,t.Ok
section
variable {sh:List Sh} {l:List Ts}
theorem Stand.len (H:Stand sh l):sh.length = l.length:=by rw [H.eq,List.length_map]
theorem Stand.at_ (H:Stand sh l) {i:Nat} (hi:i < sh.length):∃ t,l[i]? = some t ∧ t.Ok ∧ ShapeSpec.kind sh i = t.kind ∧ ShapeSpec.par sh i = t.par ∧ 1 ≤ t.kind ∧ t.kind ≤ 3:=by
 obtain ⟨t,ht⟩:=get_some (l:=l) (k:=i) (by rw [← H.len]; exact hi)
 have hs:sh[i]? = some ⟨t.kind,t.par⟩:=by rw [H.eq,List.getElem?_map,ht]; rfl
 have hk:=ShapeSpec.kind_at hs
 have hg:=H.su i hi
 simp only [ShapeSpec.goodB,Bool.and_eq_true,decide_eq_true_eq] at hg
 rw [hk] at hg
 exact ⟨t,ht,H.ok t (List.mem_of_getElem? ht),hk,ShapeSpec.par_at hs,hg.1.1,hg.1.2⟩
theorem Stand.leaf (H:Stand sh l) {i:Nat} (hi:i < sh.length) (hk:ShapeSpec.kind sh i = 1):endOf sh i = i + 1:=by
 obtain ⟨a1,a2⟩:=ShapeSpec.end_bd hi
 by_cases he:i + 1 < endOf sh i
 ·obtain ⟨-,h1,h2⟩:=kid_first H.su hi he
  have hg:=H.su (i + 1) h2
  simp only [ShapeSpec.goodB,ShapeSpec.hangB,Bool.and_eq_true,decide_eq_true_eq] at hg
  rw [if_neg (by omega)] at hg
  simp only [Bool.and_eq_true,decide_eq_true_eq,h1] at hg
  exact absurd hk hg.2.1.2
 ·omega
theorem stK_head {i:Nat} {t:Ts} (ht:l[i]? = some t):∃ r,stK sh l i = headK t ++ r:=by
 unfold stK
 rw [ht]
 simp only [Option.elim]
 split
 ·exact ⟨_,rfl⟩
 ·exact ⟨_,rfl⟩
theorem seg_first (H:Stand sh l) {i m e:Nat} (hm:m < sh.length) (he:m < e):∃ t r,l[m]? = some t ∧ seg sh l i m e = headK t ++ r ∧ t.Ok ∧ 1 ≤ t.kind ∧ t.kind ≤ 3:=by
 obtain ⟨t,ht,hok,-,-,h1,h3⟩:=H.at_ hm
 obtain ⟨r,hr⟩:=stK_head (sh:=sh) ht
 rw [seg_app i (a:=m) (b:=m + 1) (by omega) (by omega),seg_one]
 unfold bodyK
 rw [hr,List.append_assoc,List.append_assoc]
 exact ⟨t,_,ht,rfl,hok,h1,h3⟩
def ReadsAt (sh:List Sh) (l:List Ts) (i:Nat):Prop:=∀ c d,Goo c (seg sh l i i (endOf sh i)) d → stR (12 - (up sh i).length) i (ShapeSpec.par sh i) c = (d,slc l i (endOf sh i))
theorem kids_goo (H:Stand sh l) {i k:Nat} (hi:i < sh.length) (hk:k + 1 = 12 - (up sh i).length) (IH:∀ m,i < m → m < sh.length → ReadsAt sh l m) :
 ∀ (n m:Nat) (c d:Cur) (out:List Sx),endOf sh i - m ≤ n → i < m → m ≤ endOf sh i → (m < endOf sh i → up sh m = sf sh i ∧ ShapeSpec.par sh m = i) → out.length = m - (i + 1) → Goo c (seg sh l (i + 1) m (endOf sh i)) d → ¬ qS d = true →
   loopT qS (stS (stR k) k i) c out = (d,out ++ slc l m (endOf sh i)):=by
 intro n
 induction n with
 | zero =>
   intro m c d out hn him hme _ _ hg hno
   obtain rfl:m = endOf sh i:=by omega
   rw [seg_nil] at hg
   rw [goo_nil hg] at hno ⊢
   rw [loopT_no hno,slc_nil,List.append_nil]
 | succ n ih =>
   intro m c d out hn him hme hkid hout hg hno
   rcases Nat.lt_or_ge m (endOf sh i) with hlt | hge
   ·obtain ⟨hup,hpar⟩:=hkid hlt
    obtain ⟨hml,hee,hnext⟩:=kid_next H.su hi hlt hup him
    obtain ⟨a1,a2⟩:=ShapeSpec.end_bd hml
    obtain ⟨t,r,ht,hr,hok,h1,h3⟩:=seg_first H (i:=m) hml a1
    rw [seg_app (i + 1) (a:=m) (b:=endOf sh m) (by omega) hee,seg_kid H.su hml hup] at hg
    obtain ⟨x,g1,g2⟩:=goo_app hg
    have hR:=IH m him hml c x g1
    have hul:(up sh m).length = (up sh i).length + 1:=by rw [hup]; rfl
    rw [hul,hpar,show 12 - ((up sh i).length + 1) = k by omega] at hR
    have hq:qS c = true:=by
     rw [hr] at g1
     exact (head_goo ⟨h1,h3⟩ hok.nm g1 0).2.1
    have hdm:=H.deep m hml
    have hroom:SynSpec.room ((i + 1 + out.length:Nat):Int) (13 - (k:Int)) = 0:=by
     unfold SynSpec.room
     have:=H.few
     rw [if_neg (by omega),if_neg (by omega)]
    have hs:stS (stR k) k i c out = (x,out ++ slc l m (endOf sh m)):=by
     unfold stS
     rw [hroom,fail_zero,show i + 1 + out.length = m by omega,hR]
    have hlen:=H.len
    rw [loopT_yes (goes_S k i) hq,hs,ih (endOf sh m) x d _ (by omega) (by omega) hee hnext (by rw [List.length_append,slc_len l (by omega) (by omega)]; omega) g2 hno,List.append_assoc,← slc_app l (by omega) hee]
   ·obtain rfl:m = endOf sh i:=by omega
    rw [seg_nil] at hg
    rw [goo_nil hg] at hno ⊢
    rw [loopT_no hno,slc_nil,List.append_nil]
theorem qS_no {c:Cur} {ws:List (List UInt8)} (h:Nxt c ws) (hw:∀ s ∈ ws,bs s ≠ wLeaf ∧ bs s ≠ wOr ∧ bs s ≠ wAnd):¬ qS c = true:=by
 unfold qS
 rw [Bool.or_eq_true,Bool.or_eq_true]
 rintro (h' | h' | h')
 ·exact nxt_no h (fun s hs => (hw s hs).1) h'
 ·exact nxt_no h (fun s hs => (hw s hs).2.1) h'
 ·exact nxt_no h (fun s hs => (hw s hs).2.2) h'
theorem reads_all_states (H:Stand sh l):∀ (n i:Nat),sh.length - i ≤ n → i < sh.length → ReadsAt sh l i:=by
 intro n
 induction n with
 | zero => intro i h1 h2; omega
 | succ n ih =>
   intro i hn hi c d hg
   obtain ⟨t,ht,hok,hkk,hpp,h1,h3⟩:=H.at_ hi
   obtain ⟨a1,a2⟩:=ShapeSpec.end_bd hi
   have hdeep:=H.deep i hi
   obtain ⟨k,hk⟩:∃ k,k + 1 = 12 - (up sh i).length:=⟨12 - (up sh i).length - 1,by omega⟩
   have hkids:=kids_end H.su hi
   rw [seg_state H.su hi] at hg
   rw [← hk,hpp]
   show bodyS (kidsR (stR k) k i) t.par c = _
   rcases hem:emptyB sh l i with _ | _
   ·have e1:stK sh l i = headK t ++ ((3,[123]) :: insK t):=by unfold stK; rw [ht]; simp [hem]
    have e2:shutK sh l i = [(3,lShut)]:=by unfold shutK; rw [if_pos hem]
    rw [e1,e2,List.append_assoc] at hg
    obtain ⟨g1,-,g2⟩:=head_goo ⟨h1,h3⟩ hok.nm hg t.par
    obtain ⟨y,y1,y2⟩:=goo_app g2
    have hny:Nxt y wsS:=by
     rcases Nat.lt_or_ge (i + 1) (endOf sh i) with hlt | hge
     ·obtain ⟨t',r,-,hr,-⟩:=seg_first H (i:=i + 1) (kid_first H.su hi hlt).2.2 hlt
      rw [hr] at y2
      exact goo_nxt (s:=wordT t'.kind) y2 (word_in _)
     ·rw [show endOf sh i = i + 1 by omega,seg_nil] at y2
      exact goo_nxt (s:=lShut) y2 (by simp)
    have hins:=insR_goo hok y1 y2 hny
    obtain ⟨z,z1,z2⟩:=goo_app y2
    have hw:want z 3 wShut = d:=goo_want z2
    have hsemi:¬ isB (on (on c)) 3 wEnd = true:=isB_ne (by rw [(goo_cons y1).2.2.2]; decide)
    have hset:setI ⟨t.s,t.kind,t.par,[],[],[]⟩ (t.en.map Ta.ac,t.ex.map Ta.ac,t.tr.map Tt.tr) = t.sx:=rfl
    unfold bodyS
    rw [g1]
    dsimp only
    rw [if_neg hsemi,hins]
    dsimp only
    rw [hset,slc_cons ht (by omega)]
    by_cases hleaf:t.kind = 1
    ·have he:=H.leaf hi (by rw [hkk]; exact hleaf)
     rw [he,seg_nil] at z1
     rw [if_pos hleaf,he,slc_nil,← goo_nil z1,hw]
    ·have hno:¬ qS z = true:=qS_no (ws:=[lShut]) (goo_nxt z2 (by simp)) (by decide)
     have hkd:=kids_goo H hi hk (fun m h1 h2 => ih m (by omega) h2) (endOf sh i - (i + 1)) (i + 1) y z [] (Nat.le_refl _) (by omega) (by omega) (fun hlt => ⟨(kid_first H.su hi hlt).1,(kid_first H.su hi hlt).2.1⟩) (by simp) z1 hno
     rw [if_neg hleaf]
     unfold kidsR
     rw [hkd]
     dsimp only
     rw [hw]
     rfl
   ·have hbare:bareB t = true ∧ ShapeSpec.kids sh i = []:=by
     unfold emptyB at hem
     rw [ht] at hem
     simpa using hem
    have he:=hkids.1 hbare.2
    have e1:stK sh l i = headK t ++ [(3,[59])]:=by unfold stK; rw [ht]; simp [hem]
    have e2:shutK sh l i = []:=by unfold shutK; rw [if_neg (by rw [hem]; decide)]
    rw [e1,e2,he,seg_nil,List.append_assoc] at hg
    obtain ⟨g1,-,g2⟩:=head_goo ⟨h1,h3⟩ hok.nm hg t.par
    have g3:Goo (on (on c)) [(3,[59])] d:=by simpa using g2
    obtain ⟨hd,hb⟩:=goo_one g3
    have hsx:t.sx = ⟨t.s,t.kind,t.par,[],[],[]⟩:=by
     have hb:=hbare.1
     unfold bareB at hb
     simp only [Bool.and_eq_true,List.isEmpty_iff] at hb
     unfold Ts.sx
     rw [hb.1,hb.2.1,hb.2.2]
     rfl
    unfold bodyS
    rw [g1]
    dsimp only
    rw [if_pos (show isB (on (on c)) 3 wEnd = true from hb),he,slc_one ht,hsx,← hd]
end
theorem Tc.Ok.stand {c:Tc} (h:c.Ok):Stand c.sh c.sts:=by
 obtain ⟨h1,h2,h3⟩:=ShapeSpec.chk_ok h.sh
 exact ⟨rfl,ShapeSpec.chk_su h.sh,h3,h1,h.sts⟩
theorem chart_goo {x:Tc} (h:x.Ok) {c d:Cur} (hg:Goo c (chK x) d):readC c = (d,x.cx):=by
 have H:=h.stand
 have hpos:0 < x.sh.length:=(ShapeSpec.stand_su (ShapeSpec.chk_ok h.sh).2.1).1
 obtain ⟨t0,r0,-,hr0,-,-⟩:=seg_first H (i:=0) hpos hpos
 unfold chK at hg
 obtain ⟨g1,hb,-,-⟩:=goo_cons hg
 obtain ⟨n1,n2,g2⟩:=goo_name g1 h.nm
 obtain ⟨g3,hb3,-,-⟩:=goo_cons g2
 replace g3:Goo (on (on (on c))) (evK x.evs ++ (x.vars.flatMap varK ++ (stsK x.sh x.sts ++ [(3,[125])]))) d:=g3
 rw [stsK_seg H.len] at g3
 have nS:∀ m e,Goo m (seg x.sh x.sts 0 0 x.sh.length ++ [(3,[125])]) e → Nxt m wsS:=fun m e hm => by
  rw [hr0] at hm
  exact goo_nxt (s:=wordT t0.kind) hm (word_in _)
 have nV:∀ m e,Goo m (x.vars.flatMap varK ++ (seg x.sh x.sts 0 0 x.sh.length ++ [(3,[125])])) e → Nxt m (lVar :: wsS):=fun m e hm => nxt_vars hm fun m' h' => nS m' e h'
 obtain ⟨m1,e1,e2⟩:=goo_app g3
 obtain ⟨m2,v1,v2⟩:=goo_app e2
 obtain ⟨m3,s1,s2⟩:=goo_app v2
 have hev:evR (on (on (on c))) = (m1,x.evs):=ev_goo h.evs h.evf e1 fun h0 => nxt_no (nxt_ev g3 (fun m hm => nV m d hm) h0) (by decide)
 have hva:vaR m1 = (m2,x.vars):=by
  unfold vaR
  rw [vars_goo (out:=[]) h.vars (by simpa using h.vaf) v1 (nxt_no (nS m2 d v2) (by decide))]
  rfl
 have hend:endOf x.sh 0 = x.sh.length:=by
  have:=ShapeSpec.end_bd hpos
  rcases Nat.lt_or_ge (endOf x.sh 0) x.sh.length with hlt | hge
  ·exfalso
   have hin:0 ∈ sf x.sh (endOf x.sh 0):=by
    have key:∀ n k,k ≤ n → k < x.sh.length → 0 ∈ sf x.sh k:=by
     intro n
     induction n with
     | zero => intro k hk _; obtain rfl:k = 0:=by omega
               exact ShapeSpec.sf_self _ _
     | succ n ih =>
       intro k hk hkl
       rcases Nat.eq_zero_or_pos k with rfl | h0
       ·exact ShapeSpec.sf_self _ _
       ·obtain ⟨p,-,hpl,hup,-⟩:=H.su.parn hkl h0
        refine ShapeSpec.up_in ?_
        rw [hup]
        exact ih p (by omega) (by omega)
    exact key _ _ (Nat.le_refl _) hlt
   have:=(ShapeSpec.end_iff H.su hpos hlt).1 hin
   omega
  ·omega
 have hst:stR 12 0 (-1) m2 = (m3,x.sts.map Ts.sx):=by
  have hup:up x.sh 0 = []:=ShapeSpec.up_no (by rw [H.su.root hpos]; omega)
  have:=reads_all_states H _ 0 (Nat.le_refl _) hpos m2 m3 (by rw [hend]; exact s1)
  rw [hup,H.su.root hpos,hend,H.len,slc_all] at this
  exact this
 have hsq:seqC c = (d,x.cx):=by
  unfold seqC
  rw [show want c 1 wChart = on c from want_yes hb,n1,n2,show want (on (on c)) 3 wOpen = on (on (on c)) from want_yes hb3,hev]
  dsimp only
  rw [hva]
  dsimp only
  rw [hst]
  dsimp only
  rw [show want m3 3 wShut = d from goo_want s2]
  rfl
 unfold readC
 rw [hsq]
 dsimp only
 rw [if_pos (goo_good s2)]
end PrintSpec
end Go.Proofs.YtjfghaohogcfbaaGreatDoor
namespace Go.Proofs.YtjfghaohogcfbaaGreatDoor
namespace PrintSpec
open CurSpec TermSpec EvalSpec NamesSpec ExprSpec ScanSpec ActSpec TransSpec SynSpec
open ShapeSpec (Sh up sf endOf SU)
theorem T_bs (l:List UInt8):T (bs l) = l:=by simp [bs]
theorem sc_long {l:List UInt8}:∀ (ts:List Tx) (i j f:Nat) (acc:List Tok),Sc l i ts j → l.length ≤ i + f → acc.length ≤ 4000 → 4000 < acc.length + ts.length → (scanGo l f i acc).2.2 = 8
 | [],_,_,_,_,_,_,h1,h2 => by simp at h2; omega
 | (k,s) :: r,i,j,f,acc,⟨h1,h2,h3,h4,h5⟩,hf,ha,hl => by
   cases f with
   | zero => omega
   | succ f =>
     rw [List.length_cons] at hl
     have hle:i + s.length ≤ l.length:=by
      have:=congrArg List.length h3
      rw [List.length_take,List.length_drop] at this
      omega
     have hg:=(gap_bd hle).1
     rw [scanGo,if_neg (by omega),h2]
     dsimp only
     rw [if_neg (by simp)]
     by_cases hq:acc.length = 4000
     ·rw [if_pos hq]
     ·rw [if_neg hq]
      exact sc_long r _ j f _ h5 (by omega) (by rw [List.length_append,List.length_singleton]; omega) (by rw [List.length_append,List.length_singleton]; omega)
theorem scan_long {p:ByteArray} {ts:List Tx} (h:Ln (T p) ts) (ht:4000 < ts.length):(scanT (T p)).2.2 ≠ 0:=by
 unfold scanT
 split
 ·simp
 ·have:=h (T p) 0 [] (by simp)
  unfold scan
  rw [sc_long ts _ _ (T p).length [] this (by omega) (by simp) (by simpa using ht)]
  decide
theorem scan_ln {p:ByteArray} {ts:List Tx} (h:Ln (T p) ts) (hs:p.size ≤ 65536) (ht:ts.length ≤ 4000) :
 (scanT (T p)).2.2 = 0 ∧ ∃ d,Goo (cur0 (tkAll p)) ts d ∧ (next d).k = 0 ∧ (next d).t = ⟨#[]⟩:=by
 have hlen:(T p).length = p.size:=rfl
 have hsc:=h (T p) 0 [] (by simp)
 rw [Nat.zero_add] at hsc
 have hgl:(T p).length ≤ gap (T p) (T p).length:=(gap_bd (Nat.le_refl _)).1
 have hS:scanT (T p) = (toksAt (T p) (gap (T p) 0) ts ++ [⟨0,gap (T p) (T p).length,0⟩],0,0):=by
  unfold scanT
  rw [if_neg (by omega)]
  unfold scan
  rw [scan_sc ts _ _ _ [] hsc hgl (by omega) (by rw [List.length_nil]; omega)]
  rfl
 have hA:tkAll p = (toksAt (T p) (gap (T p) 0) ts).map (tokOf p) ++ [tokOf p ⟨0,gap (T p) (T p).length,0⟩]:=by
  unfold tkAll
  rw [hS,List.map_append]
  rfl
 obtain ⟨hn,hL⟩:=nx_toks ts _ _ (cur0 (tkAll p)) _ hsc rfl hA
 have hbad:(onN ts.length (cur0 (tkAll p))).bad = 0:=bad_on rfl _
 have hend:next (onN ts.length (cur0 (tkAll p))) = tokOf p ⟨0,gap (T p) (T p).length,0⟩:=by
  unfold next
  rw [if_pos hbad,hL]
 refine ⟨by rw [hS],_,⟨rfl,hn,rfl⟩,by rw [hend]; rfl,?_⟩
 rw [hend]
 show p.extract _ (_ + 0) = _
 apply ByteArray.ext
 simp
theorem parse_put {x:Tc} (h:x.Ok) (hs:(putC x).length ≤ 65536) (ht:(chK x).length ≤ 4000):(scanT (T (bs (putC x)))).2.2 = 0 ∧ parseC (bs (putC x)) = ⟨x.cx,0,0,0⟩:=by
 have hl:Ln (T (bs (putC x))) (chK x):=by rw [T_bs]; exact ln_chart h
 obtain ⟨h1,d,hg,hk,hT⟩:=scan_ln hl (by rw [show (bs (putC x)).size = (putC x).length by simp [bs,ByteArray.size]]; exact hs) ht
 have hr:=chart_goo h hg
 have hb:isB d 0 ⟨#[]⟩ = true:=isB_yes' (goo_good hg) hk hT
 have hw:(want d 0 ⟨#[]⟩).bad = 0:=by rw [SynSpec.want_yes hb,(on_bad d).1]; exact goo_good hg
 refine ⟨h1,?_⟩
 unfold parseC
 rw [if_neg (fun h' => h' h1),hr]
 unfold endPc
 dsimp only
 rw [if_neg (fun h' => h' hw)]
theorem flat_le {α β:Type} (f:α → List β) (w:α → Nat) (A B:Nat):∀ {L:List α},(∀ x ∈ L,(f x).length ≤ A + B * w x) → (L.flatMap f).length ≤ A * L.length + B * (L.map w).sum
 | [],_ => by simp
 | x :: r,h => by
   have h1:=h x (by simp)
   have h2:=flat_le f w A B (L:=r) fun y hy => h y (by simp [hy])
   rw [List.flatMap_cons,List.length_append,List.length_cons,List.map_cons,List.sum_cons,Nat.mul_add,Nat.mul_add]
   omega
def wA (ts:List Ta):Nat:=(ts.map fun t => 1 + t.ac.x.length).sum
def wT (t:Tt):Nat:=1 + wA t.ts + (gFlat t.g).length
def wS (t:Ts):Nat:=wA t.en + wA t.ex + (t.tr.map wT).sum
theorem txA_w {t:Ta} (h:t.Ok):(txA t).size ≤ 30 * (1 + t.ac.x.length) ∧ (ActSpec.tkA t).length ≤ 2 + 6 * t.ac.x.length:=by
 have h1:=name_size h.1
 unfold txA ActSpec.tkA Ta.ac
 rcases ha:t.any with _ | _
 ·have h2:=tx_size (h.2 ha).1
  have h3:=tk_len (h.2 ha).1
  simp only [Bool.false_eq_true,if_false,ByteArray.size_append,List.length_cons]
  constructor
  ·show t.s.size + 4 + (tx t.e).size ≤ _
   omega
  ·omega
 ·simp only [if_true,ByteArray.size_append,List.length_cons,List.length_nil]
  constructor
  ·show 4 + t.s.size ≤ _
   omega
  ·omega
theorem putT_w:∀ {ts:List Ta},(∀ t ∈ ts,t.Ok) → (putT ts).length ≤ 32 * wA ts ∧ (tkL ts).length ≤ 6 * wA ts
 | [],_ => by simp [putT,Lib.join_nil,tkL]
 | [t],h => by
   obtain ⟨h1,h2⟩:=txA_w (h t (by simp))
   have h3:(T (txA t)).length = (txA t).size:=rfl
   rw [putT_one,h3]
   simp only [tkL,wA,List.map_cons,List.map_nil,List.sum_cons,List.sum_nil]
   omega
 | t :: u :: r,h => by
   obtain ⟨h1,h2⟩:=txA_w (h t (by simp))
   obtain ⟨k1,k2⟩:=putT_w (ts:=u :: r) (fun v hv => h v (by simp only [List.mem_cons] at hv ⊢; exact .inr hv))
   have h3:(T (txA t)).length = (txA t).size:=rfl
   rw [putT_cons]
   simp only [List.length_append,List.length_cons,List.length_nil,h3,tkL,wA,List.map_cons,List.sum_cons] at k1 k2 ⊢
   omega
theorem txT_w {x:Tt} (h:x.Ok):(T (txT x)).length ≤ 43 * wT x ∧ (tkT x).length ≤ 8 * wT x:=by
 have h1:=headB_size h
 have h4:=tgB_size h.tg
 obtain ⟨h3,h3'⟩:=putT_w h.ts
 have hg:(guardB x.g).size ≤ 3 + 30 * (gFlat x.g).length ∧ (tkG x.g).length ≤ 2 + 6 * (gFlat x.g).length:=by
  have hx:=h.g
  cases hx':x.g with
  | none => exact ⟨by show 0 ≤ _; omega,by simp [tkG]⟩
  | some e =>
    obtain ⟨a,-⟩:=hx e hx'
    have b1:=tx_size a
    have b2:=tk_len a
    constructor
    ·unfold guardB
     rw [ByteArray.size_append,ByteArray.size_append]
     show 2 + _ + 1 ≤ 3 + 30 * (flat e).length
     omega
    ·simp only [tkG,List.length_cons,List.length_append,List.length_nil]
     show _ ≤ 2 + 6 * (flat e).length
     omega
 have ha:(actsB x.ts).size ≤ 3 + 32 * wA x.ts ∧ (tkC x.ts).length ≤ 1 + 6 * wA x.ts:=by
  unfold actsB tkC
  by_cases h0:x.ts = []
  ·rw [if_pos h0,if_pos h0]
   exact ⟨by show 0 ≤ _; omega,by simp⟩
  ·rw [if_neg h0,if_neg h0,ByteArray.size_append,List.length_cons]
   have:(putB x.ts).size = (putT x.ts).length:=by rw [← putB_T]; rfl
   exact ⟨by show 3 + _ ≤ _; omega,by omega⟩
 have h5:(tkH x).length ≤ 2:=by unfold tkH; split <;> simp
 have h6:(tkD x.tg).length ≤ 2:=by unfold tkD; split <;> simp
 constructor
 ·show (txT x).size ≤ _
  unfold txT wT
  simp only [ByteArray.size_append]
  show _ + _ + _ + _ + 1 ≤ _
  omega
 ·unfold tkT wT
  simp only [List.length_append,List.length_cons,List.length_nil]
  omega
theorem inT_len (n:Nat):(inT n).length = 2 * n:=by simp [inT]
theorem lineA_w {w:List UInt8} (hw:w.length ≤ 5) {n:Nat} (hn:n ≤ 13) {ts:List Ta} (h:∀ t ∈ ts,t.Ok):(lineA w n ts).length ≤ 34 + 32 * wA ts ∧ (actK w ts).length ≤ 2 + 6 * wA ts:=by
 obtain ⟨h1,h2⟩:=putT_w h
 unfold lineA actK
 by_cases h0:ts = []
 ·rw [if_pos h0,if_pos h0]
  simp
 ·rw [if_neg h0,if_neg h0]
  simp only [List.length_append,List.length_cons,List.length_nil,inT_len]
  omega
theorem insT_w {n:Nat} (hn:n ≤ 13) {t:Ts} (h:t.Ok):(insT n t).length ≤ 68 + 70 * wS t ∧ (insK t).length ≤ 4 + 8 * wS t:=by
 obtain ⟨a1,a2⟩:=lineA_w (w:=[101,110,116,101,114]) (by decide) hn h.en
 obtain ⟨b1,b2⟩:=lineA_w (w:=[101,120,105,116]) (by decide) hn h.ex
 have c1:=flat_le (lineT n) wT 0 70 (L:=t.tr) fun x hx => by
  have:=(txT_w (h.tr x hx)).1
  have h0:1 ≤ wT x:=by unfold wT; omega
  simp only [lineT,List.length_append,List.length_cons,List.length_nil,inT_len]
  omega
 have c2:=flat_le tkT wT 0 8 (L:=t.tr) fun x hx => by
  have:=(txT_w (h.tr x hx)).2
  omega
 unfold insT insK wS
 simp only [List.length_append]
 omega
theorem word_len (k:Int):(wordT k).length ≤ 4:=by
 unfold wordT
 split
 ·simp
 ·split <;> simp
section
variable {sh:List Sh} {l:List Ts}
theorem stT_w (H:Stand sh l) {i:Nat} (hi:i < sh.length):(stT sh l i ++ closT sh l i).length ≤ 424 + 70 * (l[i]?).elim 0 wS ∧ (stK sh l i ++ closK sh l i).length ≤ 19 + 8 * (l[i]?).elim 0 wS:=by
 obtain ⟨t,ht,hok,-,-,-,-⟩:=H.at_ hi
 have hd:=H.deep i hi
 have hn:=name_size hok.nm
 have hw:=word_len t.kind
 have hT:(T t.s).length = t.s.size:=rfl
 obtain ⟨a1,a2⟩:=insT_w (n:=(up sh i).length + 2) (by omega) hok
 have c1:(closT sh l i).length ≤ 26 * (sf sh i).length:=by
  have:=flat_le (oneT sh l i) (fun _ => 0) 26 0 (L:=sf sh i) fun j hj => by
   have hj':=H.deep j (by have:=ShapeSpec.sf_le hj; omega)
   unfold oneT
   split
   ·simp only [List.length_append,List.length_cons,List.length_nil,inT_len]; omega
   ·simp
  unfold closT
  omega
 have c2:(closK sh l i).length ≤ 1 * (sf sh i).length:=by
  have:=flat_le (oneK sh l i) (fun _ => 0) 1 0 (L:=sf sh i) fun j _ => by
   unfold oneK
   split <;> simp
  unfold closK
  omega
 have hsf:(sf sh i).length = (up sh i).length + 1:=rfl
 have s1:(stT sh l i).length ≤ 112 + 70 * wS t ∧ (stK sh l i).length ≤ 7 + 8 * wS t:=by
  unfold stT stK
  rw [ht]
  simp only [Option.elim]
  split
  ·simp only [headT,headK,List.length_append,List.length_cons,List.length_nil,inT_len]
   omega
  ·simp only [headT,headK,List.length_append,List.length_cons,List.length_nil,inT_len]
   omega
 rw [ht]
 simp only [List.length_append,Option.elim]
 omega
end
theorem sep_w:∀ {l:List ByteArray},(∀ e ∈ l,isName e.data.toList = true) → (sepT l).length ≤ 14 * l.length ∧ (sepK l).length ≤ 2 * l.length
 | [],_ => by simp [sepT,Lib.join_nil,sepK]
 | [s],h => by
   have:=name_size (h s (by simp))
   have hT:(T s).length = s.size:=rfl
   unfold sepT
   rw [List.map_cons,List.map_nil,Lib.join_one]
   simp only [sepK,List.length_cons,List.length_nil]
   omega
 | s :: u :: r,h => by
   have:=name_size (h s (by simp))
   have hT:(T s).length = s.size:=rfl
   obtain ⟨h1,h2⟩:=sep_w (l:=u :: r) (fun e he => h e (by simp only [List.mem_cons] at he ⊢; exact .inr he))
   unfold sepT at h1 ⊢
   rw [List.map_cons] at h1
   rw [List.map_cons,List.map_cons,join_two]
   simp only [sepK,List.length_append,List.length_cons,List.length_nil] at h1 h2 ⊢
   omega
theorem int_len {n:Int} (h:smallV n = true):(ValSpec.text n).length ≤ 8 ∧ (intK n).length ≤ 2:=by
 have h1:=small_abs h
 have:=ValSpec.digs_len 6 n.natAbs (by omega)
 unfold ValSpec.text intK
 split
 ·simp only [List.length_append,List.length_cons,List.length_nil]; omega
 ·simp only [List.length_append,List.length_cons,List.length_nil]; omega
theorem var_w {v:Vr} (h:okV v = true):(varT v).length ≤ 70 ∧ (varK v).length ≤ 12:=by
 simp only [okV,Bool.and_eq_true] at h
 obtain ⟨h1,h2,h3,h4⟩:=h
 have a:=int_len h2
 have b:=int_len h3
 have c:=int_len h4
 have d:=name_size h1
 have hT:(T v.s).length = v.s.size:=rfl
 unfold varT varK
 simp only [List.length_append,List.length_cons,List.length_nil,inT_len]
 omega
end PrintSpec
end Go.Proofs.YtjfghaohogcfbaaGreatDoor
namespace Go.Proofs.YtjfghaohogcfbaaGreatDoor
namespace FormSpec
open CurSpec TermSpec EvalSpec NamesSpec ExprSpec ActSpec TransSpec SynSpec PrintSpec ScanSpec
structure Fo where
 t:ByteArray
 l:Int
 c:Int
 er:Int
def FoBad (s:ByteArray) (o:Fo):Prop:=(parseC s).er ≠ 0 ∧ o = ⟨⟨#[]⟩,(parseC s).l,(parseC s).c,(parseC s).er⟩
def FoOk (c:Tc) (o:Fo):Prop:=c.Ok ∧ o = if (scanT (T (bs (putC c)))).2.2 = 0 then ⟨bs (putC c),0,0,0⟩ else ⟨⟨#[]⟩,0,0,5⟩
def FoIs (s:ByteArray) (o:Fo):Prop:=FoBad s o ∨ ∃ c:Tc,parseC s = ⟨c.cx,0,0,0⟩ ∧ FoOk c o
theorem parse_good {s:ByteArray} (h:(parseC s).er = 0):∃ c:Tc,parseC s = ⟨c.cx,0,0,0⟩ ∧ c.Ok:=by
 unfold parseC at h ⊢
 split at h
 ·rename_i h1
  exact absurd h h1
 ·rename_i h1
  rw [if_neg h1]
  unfold endPc at h ⊢
  split at h
  ·rename_i h2
   exact absurd h h2
  ·rename_i h2
   rw [if_neg h2]
   have hb:(want (readC (cur0 (tkAll s))).1 0 ⟨#[]⟩).bad = 0:=Decidable.byContradiction h2
   obtain ⟨c,hc,ok⟩:=tc_of (read_may (good_of (to_want _ _ _) hb))
   exact ⟨c,by rw [hc],ok⟩
theorem form_is (s:ByteArray):∃ o,FoIs s o:=by
 by_cases h:(parseC s).er = 0
 ·obtain ⟨c,hc,ok⟩:=parse_good h
  exact ⟨_,.inr ⟨c,hc,ok,rfl⟩⟩
 ·exact ⟨_,.inl ⟨h,rfl⟩⟩
theorem form_twice {c:Tc} (h:c.Ok) (hs:(scanT (T (bs (putC c)))).2.2 = 0):parseC (bs (putC c)) = ⟨c.cx,0,0,0⟩:=by
 have hl:Ln (T (bs (putC c))) (chK c):=by rw [T_bs]; exact ln_chart h
 refine (parse_put h ?_ ?_).2
 ·rcases Nat.lt_or_ge 65536 (putC c).length with h' | h'
  ·refine absurd hs ?_
   unfold scanT
   rw [T_bs,if_pos h']
   decide
  ·exact h'
 ·rcases Nat.lt_or_ge 4000 (chK c).length with h' | h'
  ·exact absurd hs (scan_long hl h')
  ·exact h'
end FormSpec
end Go.Proofs.YtjfghaohogcfbaaGreatDoor
namespace Go.Proofs.YtjfghaohogcfbaaGreatDoor
open Go.RowKit TermSpec EvalSpec ValSpec
end Go.Proofs.YtjfghaohogcfbaaGreatDoor
namespace Go.Proofs.YtjfghaohogcfbaaGreatDoor
open Go.RowKit TermSpec EvalSpec NamesSpec Go.Lib ValSpec
end Go.Proofs.YtjfghaohogcfbaaGreatDoor
namespace Go.Proofs.YtjfghaohogcfbaaGreatDoor
open Go.RowKit TermSpec EvalSpec NamesSpec Go.Lib ValSpec
end Go.Proofs.YtjfghaohogcfbaaGreatDoor
namespace Go.Proofs.YtjfghaohogcfbaaGreatDoor
open Go.RowKit TermSpec EvalSpec NamesSpec
end Go.Proofs.YtjfghaohogcfbaaGreatDoor
namespace Go.Proofs.YtjfghaohogcfbaaGreatDoor
open Go.RowKit TermSpec EvalSpec
end Go.Proofs.YtjfghaohogcfbaaGreatDoor
namespace Go.Proofs.YtjfghaohogcfbaaGreatDoor
open Go.RowKit TermSpec EvalSpec ActSpec NamesSpec
end Go.Proofs.YtjfghaohogcfbaaGreatDoor