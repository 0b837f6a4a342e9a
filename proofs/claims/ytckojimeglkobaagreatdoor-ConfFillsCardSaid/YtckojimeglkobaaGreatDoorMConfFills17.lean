/- ShapeOwn, NamesTwins, NamesUnionSpec, NamesUnion, UnionOwn, joined. -/
import Derived.Test.YtckojimeglkobaaGreatDoorMConfFills05
import Derived.Test.YtckojimeglkobaaGreatDoorMConfFills00
import Derived.Maps.OwnOps
import Derived.Maps.Views
import Derived.StringKeys
import Derived.Lib.SliceRun
import Derived.Test.YtckojimeglkobaaGreatDoorShelf
import Derived.Lib.AppendZerosOnto
namespace Go.Proofs.YtckojimeglkobaaGreatDoor
open Go.RowKit NamesSpec ShapeSpec
set_option maxRecDepth 100000
def RetRowJ (W:World) (l:List Int) (e:Ending) (w':World):Prop:=∃ p,e = .returned p ∧ RowI W w' p l
set_option maxHeartbeats 4000000 in
theorem shkids_own (A:Option Addr) (n c:Nat) (l:List Sh) (i:Int) (w:World) (h:Sts w (.slice A n c) l) (hm:n ≤ 9223372036854775807) :
 Calls Tryz.prog 109 #[.slice A n c,.int .i64 i] w (RetRowJ w (kidsA l i)):=by
 have hn:=h.len
 have HH:=Lib.hid (has_any A n c l i w h hm)
 cases hb:hasB l i with
 | false =>
   rw [hb] at HH
   have HE:Hid (kidsA l i = []):=Lib.hid (if_neg (by simp [hb]))
   rw [HE.out]
   clear h hn hb HE
   go_enter Tryz.func109,Tryz.ntmps109
   go_wp2_with (go_at_call 128; (with_reducible refine HH.out.mono ?_))
   rintro e w1 ⟨rfl,hb1⟩
   go_wp2_with fail
   go_ret
   exact ⟨_,rfl,RowI.nil _ _ hb1⟩
 | true =>
   rw [hb] at HH
   obtain ⟨a,rfl,ha,han,hn60,hsu⟩:=has_at hn hb
   have HE:Hid (kidsA l (a:Int) = kidsTo l a n):=Lib.hid (by unfold kidsA; rw [if_pos hb,hn]; rfl)
   rw [HE.out]
   have HT:=Lib.hid h
   have HN:=Lib.hid hn
   obtain ⟨i0,hi,hz0,hz1,hz2⟩:=info_parts inf_int
   have HI:=Lib.hid (And.intro hi (And.intro hz0 (And.intro hz1 hz2)))
   clear h hn hb HE ha hsu hi hz0 hz1 hz2
   go_enter Tryz.func109,Tryz.ntmps109
   go_wp2_with (go_at_call 128; (with_reducible refine HH.out.mono ?_))
   rintro e w1 ⟨rfl,hb1⟩
   have HB1:=Lib.hid hb1
   clear hb1
   go_wp2_with fail
   go_loopw [5,14] (fun p v wr => KidRel w l a n p v wr) (fun _ v _ => n - (intOf v).toNat)
   case atStart => exact ⟨0,Nat.zero_le _,rfl,RowI.nil _ _ HB1.out⟩
   case round =>
    obtain ⟨k,hk,rfl,hrow⟩:=hrel
    have HR:=Lib.hid hrow
    clear hrow
    by_cases hlt:k < n
    ·have hltI:(k:Int) < n:=by omega
     obtain ⟨t,ht⟩:∃ t,l[k]? = some t:=get_some (by rw [← HN.out]; exact hlt)
     have HT1:=Lib.hid (HT.out.keep HR.out.2)
     obtain ⟨b,off,s,a3,n3,c3,a4,n4,c4,a5,n5,c5,rfl,hb,c0,c1,c2,c3',c4',c5'⟩:=HT1.out.all ht
     have HP:=Lib.hid (par_at ht)
     obtain ⟨q,hq⟩:∃ q,q = t.par:=⟨_,rfl⟩
     rw [← hq] at c2 HP
     have HRA:=Lib.hid (fun (o:Obj) => HR.out.keep ((Below.refl _ _).alloc (Nat.le_refl _) o))
     have HSZ:Hid (w.heap.size ≤ wr.heap.size):=Lib.hid HR.out.2.size
     have hkl:=kids_le l a k
     have HL1:Hid ((kidsTo l a k).length + (intV [(k:Int)]).length ≤ maxLen):=Lib.hid (by simp [maxLen]; omega)
     have HL2:Hid (((kidsTo l a k).length + (intV [(k:Int)]).length) * 8 ≤ 140737488355328):=Lib.hid (by simp; omega)
     clear ht hq hkl
     by_cases hqa:q = a
     ·have g1:(q == (a:Int)) = true:=by simpa using hqa
      have HS:Hid (kidsTo l a (k + 1) = kidsTo l a k ++ [(k:Int)]):=Lib.hid (kids_yes (HP.out.trans hqa))
      clear hqa
      go_wp2_with (at_builtin; refine wpList_append_rd _ rfl (.tmp 23) (.tmp 25) _ rfl w.heap.size 3 i0 (.int .i64 0) 8 Tryz.underlying90 HI.out.1 HI.out.2.1 HI.out.2.2.1 HI.out.2.2.2 rfl _ _ _ rfl (((HRA.out _).1).alloc _) _ (intV [(k:Int)]) rfl (lit_here (by simp) rfl rfl) (intV_one _) HL1.out HL2.out ?_ ?_; (have:=HSZ.out; simp; omega); intro p2 w2 hrow2 hg2 _; have HR2:=Lib.hid (RowI.add (HRA.out _) hrow2 hg2); clear hrow2 hg2)
      go_roundw
      case rel => exact ⟨k + 1,by omega,by simp,by rw [HS.out]; exact HR2.out⟩
      case measure => simp [intOf]; omega
     ·have g1:(q == (a:Int)) = false:=by simpa using hqa
      have HS:Hid (kidsTo l a (k + 1) = kidsTo l a k):=Lib.hid (kids_no (by rw [HP.out]; exact hqa))
      clear hqa
      go_wp2_with fail
      go_roundw
      case rel => exact ⟨k + 1,by omega,by simp,by rw [HS.out]; exact HRA.out _⟩
      case measure => simp [intOf]; omega
    ·obtain rfl:k = n:=by omega
     go_wp2_with fail
     go_ret
     exact ⟨_,rfl,HR.out⟩
set_option maxHeartbeats 4000000 in
theorem shabove_own (A:Option Addr) (n c:Nat) (l:List Sh) (i:Int) (w:World) (h:Sts w (.slice A n c) l) (hm:n ≤ 9223372036854775807) :
 Calls Tryz.prog 116 #[.slice A n c,.int .i64 i] w (RetRowJ w (aboveA l i)):=by
 have hn:=h.len
 have HH:=Lib.hid (has_any A n c l i w h hm)
 cases hb:hasB l i with
 | false =>
   rw [hb] at HH
   have HE:Hid (aboveA l i = []):=Lib.hid (if_neg (by simp [hb]))
   rw [HE.out]
   clear h hn hb HE
   go_enter Tryz.func116,Tryz.ntmps116
   go_wp2_with (go_at_call 128; (with_reducible refine HH.out.mono ?_))
   rintro e w1 ⟨rfl,hb1⟩
   go_wp2_with fail
   go_ret
   exact ⟨_,rfl,RowI.nil _ _ hb1⟩
 | true =>
   rw [hb] at HH
   obtain ⟨a,rfl,ha,han,hn60,hsu⟩:=has_at hn hb
   have HE:Hid (aboveA l (a:Int) = upI l a):=Lib.hid (by unfold aboveA; rw [if_pos hb]; rfl)
   rw [HE.out]
   have HT:=Lib.hid h
   have HSU:=Lib.hid hsu
   obtain ⟨hf1,hf2⟩:=ab_first hsu han
   have HF:=Lib.hid hf2
   obtain ⟨b,off,rfl,hb',-,c2⟩:=h.at_ han
   have HC:=Lib.hid c2
   have hanI:(a:Int) < n:=by omega
   obtain ⟨q,hq⟩:∃ q,q = par l a:=⟨_,rfl⟩
   rw [← hq] at HC HF hf1
   obtain ⟨i0,hi,hz0,hz1,hz2⟩:=info_parts inf_int
   have HI:=Lib.hid (And.intro hi (And.intro hz0 (And.intro hz1 hz2)))
   clear h hn hb HE ha hsu hi hz0 hz1 hz2 hf2 c2 hq
   go_enter Tryz.func116,Tryz.ntmps116
   go_wp2_with (go_at_call 128; (with_reducible refine HH.out.mono ?_))
   rintro e w1 ⟨rfl,hb1⟩
   have c2:=(hb1.cell (p:=⟨b,off + a * 6 + 2,none⟩) hb').trans HC.out
   have HB1:=Lib.hid hb1
   clear hb1
   go_wp2_with fail
   go_loopw [5,6] (fun p v wr => AbQ w l a n p v wr) (fun _ v _ => (intOf v + 1).toNat)
   case atStart => exact ⟨q,[],rfl,hf1,RowI.nil _ _ HB1.out,Nat.zero_le _,HF.out⟩
   case round =>
    obtain ⟨j,xs,rfl,hj,hrow,hxl,hq⟩:=hrel
    have HR:=Lib.hid hrow
    clear hrow c2
    rcases hq with ⟨h0,hq⟩ | ⟨rfl,hq⟩
    ·obtain ⟨j,rfl⟩:=Int.eq_ofNat_of_zero_le h0
     obtain ⟨g1,g2,g3,g4⟩:=ab_next (j:=j) HSU.out (by omega) hq
     have HG:=Lib.hid g4
     have HT1:=Lib.hid (HT.out.keep HR.out.2)
     have HGL:=Lib.hid g3
     obtain ⟨p',hp'⟩:∃ p',p' = par l j:=⟨_,rfl⟩
     have HP:=Lib.hid hp'
     rw [← hp'] at HG g1 g2
     have HSZ:Hid (w.heap.size ≤ wr.heap.size):=Lib.hid HR.out.2.size
     have HL1:Hid (xs.length + (intV [(j:Int)]).length ≤ maxLen):=Lib.hid (by simp [maxLen]; omega)
     have HL2:Hid ((xs.length + (intV [(j:Int)]).length) * 8 ≤ 140737488355328):=Lib.hid (by simp; omega)
     have hjn:j < n:=by omega
     clear hq g4 g3 hp'
     go_wp2_with (at_builtin; refine wpList_append_rd _ rfl (.tmp 23) (.tmp 25) _ rfl w.heap.size 3 i0 (.int .i64 0) 8 Tryz.underlying90 HI.out.1 HI.out.2.1 HI.out.2.2.1 HI.out.2.2.2 rfl _ _ _ rfl (HR.out.1.alloc _) _ (intV [(j:Int)]) rfl (lit_here rfl rfl rfl) (intV_one _) HL1.out HL2.out ?_ ?_; (have:=HSZ.out; simp; omega); intro p2 w2 hrow2 hg2 _; have HR2:=Lib.hid (RowI.add HR.out hrow2 hg2); have HC2:=Lib.hid (HT.out.keep HR2.out.2); obtain ⟨b2,off2,heq2,hb2,-,c2⟩:=HC2.out.at_ hjn; cases heq2; rw [← HP.out] at c2; clear hrow2 hg2)
     go_roundw
     case rel => exact ⟨p',_,rfl,g1,HR2.out,HGL.out,HG.out⟩
     case measure => simp [intOf]; omega
    ·have HX:=Lib.hid hq
     have HR3:Hid (RetRowJ w (upI l a) _ wr):=Lib.hid (by rw [← HX.out]; exact ⟨_,rfl,HR.out⟩)
     clear hq
     go_wp2_with fail
     go_ret
     exact HR3.out
end Go.Proofs.YtckojimeglkobaaGreatDoor
namespace Go.Proofs.YtckojimeglkobaaGreatDoor
open Go.RowKit NamesSpec Go.Lib Go.Maps
set_option maxRecDepth 100000
theorem law_str:Keyed Tryz.prog 9:=string_keyed Tryz.underlying9
theorem zero_int (w:World):(zeroValue 3).run Tryz.prog w = .ok (.int .i64 0) w:=by kernel_rfl
theorem info_int:(Tryz.prog.info? 3).map (fun i => (i.zero,i.size,i.bytes)) = some (some (.int .i64 0),1,8):=by kernel_rfl
theorem info_str:(Tryz.prog.info? 9).map (fun i => (i.zero,i.size,i.bytes)) = some (some (.string ByteArray.empty),1,16):=by kernel_rfl
theorem makeMap_hint {t k e:TypeId} {kd:IntKind} (ht:Tryz.prog.underlying t = some (.map k e)) (n:Int) (w:World) :
 (Instr.makeMap t (some (.int kd n))).run Tryz.prog w = .ok (.map (some w.heap.size)) (w.alloc (.map #[] 0)):=by
 simp [Instr.makeMap,run_underlying ht]; rfl
def keyL (s:ByteArray):Lit:=.string s.data.toList
def intL (c:Int):DataW Unit:=.lit (.int .i64 c)
def Counts (l:List ByteArray) (k:Nat) (D:DataW Unit):Prop:=IsMap D ∧ ∀ s,D.atKey (keyL s) (intL 0) = intL (times (l.take k) s)
theorem keyL_is (s:ByteArray):WideAt.IsKeyLit (keyL s):=trivial
theorem counts_start (l:List ByteArray):Counts l 0 (.map []):=⟨isMap_empty,fun _ => rfl⟩
theorem keyL_inj {s t:ByteArray} (h:keyL s = keyL t):s = t:=by
 unfold keyL at h
 injection h with h
 exact ByteArray.ext (Array.toList_inj.mp h)
theorem intL_inj {a b:Int} (h:intL a = intL b):a = b:=by
 unfold intL at h
 injection h with h
 injection h
theorem counts_next {l:List ByteArray} {k:Nat} {D:DataW Unit} {s:ByteArray} (h:Counts l k D) (hs:l[k]? = some s) (hkey:WideAt.IsKeyLit (keyL s)):Counts l (k + 1) (D.put (keyL s) (intL (times (l.take k) s + 1))):=by
 refine ⟨h.1.put _ _,fun x => ?_⟩
 rw [take_next hs,times_snoc]
 by_cases hx:s = x
 ·subst hx
  rw [atKey_put_same h.1 hkey,if_pos rfl]
 ·rw [atKey_put_other (fun e => hx (keyL_inj e).symm),h.2 x,if_neg hx]
  simp
def TwinsRel (W:World) (l:List ByteArray) (n:Nat) (pv iv:Value) (wr:World):Prop :=
 ∃ (k:Nat) (D:DataW Unit),k ≤ n ∧ iv = .int .i64 k ∧ Counts l k D ∧ wr.ownsMap Tryz.prog 9 (plainElem Tryz.prog 3) W.heap.size k D ∧
   wr.ownsRow (W.heap.size + 1) 3 1 pv (twinsTo l k).length (intV (twinsTo l k)) ∧ Below W.heap.size W wr ∧ W.heap.size + 1 ≤ wr.heap.size
theorem row_kept {w w1:World} {B:Nat} {e:TypeId} {p:Value} {n:Nat} {xs:List Value} (h:w.ownsRow (B + 1) e 1 p n xs) (hg:w.grownBy w1 (some B)):w1.ownsRow (B + 1) e 1 p n xs :=
 h.kept hg (.inr (row_ne_low h (Nat.lt_succ_self _)).symm)
theorem twins_keep {W wr w1:World} {l:List ByteArray} {n k:Nat} {D:DataW Unit} {p:Value} (hk:k < n) (hD:Counts l (k + 1) D) (hown:w1.ownsMap Tryz.prog 9 (plainElem Tryz.prog 3) W.heap.size (k + 1) D)
 (hrow:wr.ownsRow (W.heap.size + 1) 3 1 p (twinsTo l k).length (intV (twinsTo l k))) (hg:wr.grownBy w1 (some W.heap.size)) (hb:Below W.heap.size W wr) (hsz:W.heap.size + 1 ≤ wr.heap.size) (he:twinsTo l (k + 1) = twinsTo l k) :
 TwinsRel W l n p (.int .i64 ((k:Int) + 1)) w1:=by
 refine ⟨k + 1,D,hk,by simp,hD,hown,?_,hb.grown hg hb.size (fun j hj => by cases hj; exact Nat.le_refl _),Nat.le_trans hsz hg.size⟩
 rw [he]
 exact row_kept hrow hg
theorem twins_add {W wr w1 w2:World} {l:List ByteArray} {n k:Nat} {D:DataW Unit} {p p':Value} {o:Obj} (hk:k < n) (hD:Counts l (k + 1) D) (hown:w1.ownsMap Tryz.prog 9 (plainElem Tryz.prog 3) W.heap.size (k + 1) D)
 (hrow:w1.ownsRow (W.heap.size + 1) 3 1 p (twinsTo l k).length (intV (twinsTo l k))) (hg:wr.grownBy w1 (some W.heap.size)) (hb:Below W.heap.size W wr) (hsz:W.heap.size + 1 ≤ wr.heap.size) (he:twinsTo l (k + 1) = twinsTo l k ++ [(k:Int)])
 (hrow2:w2.ownsRow (W.heap.size + 1) 3 1 p' ((twinsTo l k).length + (intV [(k:Int)]).length) (intV (twinsTo l k) ++ intV [(k:Int)])) (hg2:(w1.alloc o).grownBy w2 p.ownBlock) :
 TwinsRel W l n p' (.int .i64 ((k:Int) + 1)) w2:=by
 have hb1:Below W.heap.size W w1:=hb.grown hg hb.size (fun j hj => by cases hj; exact Nat.le_refl _)
 have hne:=row_ne_low hrow (Nat.lt_succ_self _)
 refine ⟨k + 1,D,hk,by simp,hD,(hown.alloc o).kept hg2 hne,?_,(hb1.alloc hb1.size o).grown hg2 (by have:=hb1.size; simp; omega) (fun j hj => ?_),?_⟩
 ·rw [he,← intV_append,List.length_append]; exact hrow2
 ·have:=hrow.lt j hj; omega
 ·have h1:=hg2.size; have h2:=hg.size; rw [World.size_alloc] at h1; omega
set_option maxHeartbeats 1600000 in
theorem twins_any (v:Value) (l:List ByteArray) (w:World) (h:Rd w v (strV l)) (hl:l.length ≤ 4294967296) (hs:∀ s ∈ l,s.size ≤ maxLen) :
 Calls Tryz.prog 88 #[v] w (RetInts w (twins l)):=by
 obtain ⟨A,n,c,rfl,hn,hc,hA⟩:=h.strs
 have HA:=Lib.hid hA
 have HN:=Lib.hid hn
 have HS:=Lib.hid hs
 have hm':n ≤ 4294967296:=by omega
 obtain ⟨i0,hi,hz0,hz1,hz2⟩:=info_parts info_int
 have hmm:=makeMap_hint (kd:=.i64) Tryz.underlying159
 clear hA hn h hc hl hs
 go_enter Tryz.func88,Tryz.ntmps88
 go_wp2
 go_loopw [3,12] (fun p i wr => TwinsRel w l n p i wr) (fun _ i _ => n - (Go.RowKit.intOf i).toNat)
 case atStart => exact ⟨0,.map [],Nat.zero_le _,rfl,counts_start l,World.ownsMap_made _ _ _ _,World.ownsRow_nil _ _ _ _,(Below.refl _ _).alloc (Nat.le_refl _) _,by simp⟩
 case round =>
  obtain ⟨k,D,hk,rfl,hD,hown,hrow,hbw,hsz⟩:=hrel
  by_cases hlt:k < n
  ·obtain ⟨b,off,rfl,hb,hcell⟩:=HA.out (by omega)
   obtain ⟨x,hx⟩:∃ x,l[k]? = some x:=get_some (by have:=HN.out; omega)
   have hck:wr.cell? ⟨b,off + k,none⟩ = some (.string x):=(hbw.cell (by exact hb)).trans (hcell k x hx)
   have hkey:keyOf Tryz.prog 9 (.string x) = some (keyL x):=Go.WideMaps.keyOf_string_mk Tryz.underlying9 (HS.out x (List.mem_of_getElem? hx))
   obtain ⟨t,ht⟩:∃ t,t = times (l.take k) x:=⟨_,rfl⟩
   have htb:=times_bd (l.take k) x
   have htl:(l.take k).length ≤ k:=List.length_take_le _ _
   rw [← ht] at htb
   obtain ⟨ht0,ht1⟩:=htb
   have ht2:t ≤ k:=by omega
   have HT:Hid (∀ c:Int,D.atKey (keyL x) (.lit (.int .i64 0)) = .lit (.int .i64 c) → c = t):=Lib.hid (fun c hc => by rw [ht]; exact intL_inj (hc.symm.trans (hD.2 x)))
   have HD:Hid (Counts l (k + 1) (D.put (keyL x) (intL (t + 1)))):=Lib.hid (by rw [ht]; exact counts_next hD hx (keyL_is x))
   have HU:Hid (∀ c:Int,(D.put (keyL x) (intL (t + 1))).atKey (keyL x) (.lit (.int .i64 0)) = .lit (.int .i64 c) → c = t + 1):=Lib.hid (fun c hc => intL_inj (hc.symm.trans (atKey_put_same hD.1 (keyL_is x) _ _)))
   have hth:=times_has (l.take k) x
   rw [← ht] at hth
   have HX:=Lib.hid hx
   have HW:Hid (Below w.heap.size w wr):=Lib.hid hbw
   have hlen:=twinsTo_length l k
   rcases hm:hasS (l.take k) x with _ | _
   ·have hle:t ≤ 0:=by rw [hm] at hth; simpa using hth
    have HE:=Lib.hid (twinsTo_no hx hm)
    clear hcell hx ht hD hth hm hbw htl hlen
    go_wp2_with (first
     | (at_lookup; refine wpList_lookup_own_int _ rfl _ _ 159 rfl 9 3 .i64 law_str Tryz.underlying159 Tryz.underlying3 (zero_int _) w.heap.size k _ rfl hown _ _ rfl hkey ?_; intro c hat _; obtain rfl:=HT.out c hat; clear hat)
     | (at_lookup; refine wpList_lookup_own_int _ rfl _ _ 159 rfl 9 3 .i64 law_str Tryz.underlying159 Tryz.underlying3 (zero_int _) w.heap.size (k + 1) _ rfl hown1 _ _ rfl hkey ?_; intro c hat _; obtain rfl:=HU.out c hat; clear hat)
     | (at_mapUpdate; refine wpList_mapUpdate_own _ rfl _ _ _ 159 rfl 9 3 law_str Tryz.underlying159 _ w.heap.size k _ rfl hown (by unfold maxLen; omega) _ _ _ rfl rfl hkey _ [] (plainElem_int Tryz.underlying3 (WalkArith.wf_i64 (by omega))) ?_; intro w1 hown1 hgrow1))
    go_roundw
    case rel => exact twins_keep hlt HD.out hown1 hrow hgrow1 HW.out hsz HE.out
    case measure => simp [Go.RowKit.intOf]; omega
   ·have hle:0 < t:=by rw [hm] at hth; simpa using hth
    have HE:=Lib.hid (twinsTo_yes hx hm)
    have HL1:Hid ((twinsTo l k).length + (intV [(k:Int)]).length ≤ maxLen):=Lib.hid (by simp [maxLen]; omega)
    have HL2:Hid (((twinsTo l k).length + (intV [(k:Int)]).length) * 8 ≤ 140737488355328):=Lib.hid (by simp; omega)
    clear hcell hx ht hD hth hm hbw htl hlen
    go_wp2_with (first
     | (at_lookup; refine wpList_lookup_own_int _ rfl _ _ 159 rfl 9 3 .i64 law_str Tryz.underlying159 Tryz.underlying3 (zero_int _) w.heap.size k _ rfl hown _ _ rfl hkey ?_; intro c hat _; obtain rfl:=HT.out c hat; clear hat)
     | (at_lookup; refine wpList_lookup_own_int _ rfl _ _ 159 rfl 9 3 .i64 law_str Tryz.underlying159 Tryz.underlying3 (zero_int _) w.heap.size (k + 1) _ rfl hown1 _ _ rfl hkey ?_; intro c hat _; obtain rfl:=HU.out c hat; clear hat)
     | (at_mapUpdate; refine wpList_mapUpdate_own _ rfl _ _ _ 159 rfl 9 3 law_str Tryz.underlying159 _ w.heap.size k _ rfl hown (by unfold maxLen; omega) _ _ _ rfl rfl hkey _ [] (plainElem_int Tryz.underlying3 (WalkArith.wf_i64 (by omega))) ?_; intro w1 hown1 hgrow1; have hrow1:=row_kept hrow hgrow1)
     | (at_builtin; go_loud (refine wpList_append_rd _ rfl (.tmp 25) (.tmp 27) _ rfl (w.heap.size + 1) 3 i0 (.int .i64 0) 8 Tryz.underlying90 hi hz0 hz1 hz2 rfl _ _ _ rfl (hrow1.alloc _) _ (intV [(k:Int)]) rfl (Rd.lit (cs:=#[.int .i64 k]) rfl) (intV_one _) HL1.out HL2.out ?_ ?_; (have:=hgrow1.size; simp; omega); intro p2 w2 hrow2 hg2 _)))
    go_roundw
    case rel => exact twins_add hlt HD.out hown1 hrow1 hgrow1 HW.out hsz HE.out hrow2 hg2
    case measure => simp [Go.RowKit.intOf]; omega
  ·obtain rfl:k = n:=by omega
   have:=HN.out
   go_wp2
   go_ret
   exact ⟨_,rfl,by unfold twins; rw [HN.out]; exact Rd.own hrow,hbw⟩
end Go.Proofs.YtckojimeglkobaaGreatDoor
namespace Go.Proofs.YtckojimeglkobaaGreatDoor
namespace NamesSpec
open Go.Lib
abbrev Txt:=List UInt8
def sortT (l:List Txt):List Txt:=l.mergeSort fun x y => decide (x ≤ y)
theorem sortT_length (l:List Txt):(sortT l).length = l.length:=(List.mergeSort_perm _ _).length_eq
def unT (l:List Txt):List Txt:=compact (sortT l)
theorem compact_len (zs:List Txt):(compact zs).length ≤ zs.length:=by
 unfold compact compactUpTo
 rw [List.length_map]
 exact Nat.le_trans (List.length_filter_le _ _) (Nat.le_of_eq List.length_range)
theorem unT_length (l:List Txt):(unT l).length ≤ l.length:=by
 unfold unT
 have:=compact_len (sortT l)
 rwa [sortT_length] at this
def bytesOf (l:List ByteArray):List Txt:=l.map (·.data.toList)
def textsOf (l:List Txt):List ByteArray:=l.map fun x => ⟨x.toArray⟩
theorem bytesOf_length (l:List ByteArray):(bytesOf l).length = l.length:=by simp [bytesOf]
theorem textsOf_length (l:List Txt):(textsOf l).length = l.length:=by simp [textsOf]
theorem strV_texts (l:List Txt):strV (textsOf l) = l.map encStr:=by
 unfold strV textsOf
 rw [List.map_map]; rfl
def un (a b:List ByteArray):List ByteArray:=textsOf (unT (bytesOf (a ++ b)))
theorem un_length (a b:List ByteArray):(un a b).length ≤ a.length + b.length:=by
 rw [un,textsOf_length]
 have:=unT_length (bytesOf (a ++ b))
 rw [bytesOf_length,List.length_append] at this
 exact this
end NamesSpec
end Go.Proofs.YtckojimeglkobaaGreatDoor
namespace Go.Proofs.YtckojimeglkobaaGreatDoor
open Go.RowKit NamesSpec Go.Lib
set_option maxRecDepth 100000
def RetOwn (W:World) (l:List ByteArray) (e:Ending) (w':World):Prop:=∃ v,e = .returned v ∧ w'.ownsRow W.heap.size 9 1 v l.length (strV l) ∧ Below W.heap.size W w'
set_option maxHeartbeats 1000000 in
theorem grow_any (n:Nat) (w:World) (hn:n ≤ 4294967296):Calls Tryz.prog 150 #[.slice none 0 0,.int .i64 n] w (RetOwn w []):=by
 obtain ⟨i0,hi,hz0,hz1,hz2⟩:=info_parts info_str
 rcases Nat.eq_zero_or_pos n with h0 | h0
 ·subst h0
  go_enter Tryz.func150,Tryz.ntmps150
  go_wp2
  go_ret
  exact ⟨_,rfl,World.ownsRow_nil _ _ _ _,Below.refl _ _⟩
 ·have hrz:∀ ty,(Builtin.append_ #[22,3] ty #[.slice none 0 0,.int .i64 (n:Int)]).run Tryz.prog w =
   .ok (.slice (some ⟨w.heap.size,0,none⟩) n (grownCap w n 0 9)) (w.drew.alloc (.cells (#[] ++ Builtin.zeroCells (Value.string ByteArray.empty).cells n ++ Builtin.zeroCells (Value.string ByteArray.empty).cells (grownCap w n 0 9 - n)) 9)):=fun ty => by
   have h:=Lib.run_append_grow_zeros w 22 3 ty 9 i0 (.string ByteArray.empty) .i64 .i64 Tryz.underlying22 Tryz.underlying3 hi hz0 none 0 0 [] (run_firstCells_none w.drew i0.size 0 0 0) n (by omega) (by omega) (by omega) (by omega) (by rw [hz2]; omega)
    (growslice_fits (by omega) (by rw [hz2]; omega))
   simpa using h
  have hG:=grownCap_ge w n 0 9
  have hM:=grownCap_le_maxLen w n 0 9 (by unfold maxLen; omega)
  obtain ⟨G,hg⟩:∃ G,G = grownCap w n 0 9:=⟨_,rfl⟩
  rw [← hg] at hrz hG hM
  have HR:=Lib.hid hrz
  have hM':G ≤ 9223372036854775807:=hM
  clear hrz hg
  go_enter Tryz.func150,Tryz.ntmps150
  go_wp2_with (at_builtin; refine Lib.wpList_append_run _ rfl _ _ _ _ rfl _ _ rfl rfl _ _ (HR.out _) ?_)
  go_ret
  refine ⟨_,rfl,World.ownsRow_made _ _ _ (by simp) hM (by simp [Builtin.zeroCells]; omega),?_⟩
  exact ((Below.refl _ _).drew).alloc (Nat.le_refl _) _
def Own (W:World) (p:Value) (l:List ByteArray) (w:World):Prop:=w.ownsRow W.heap.size 9 1 p l.length (strV l) ∧ Below W.heap.size W w
theorem own_add {W w w':World} {p p':Value} {l m:List ByteArray} (h:Own W p l w) (h2:w'.ownsRow W.heap.size 9 1 p' (l.length + (strV m).length) (strV l ++ strV m)) (hg:w.grownBy w' p.ownBlock):Own W p' (l ++ m) w':=by
 refine ⟨?_,h.2.grown hg h.2.size fun k hk => (h.1.lt k hk).1⟩
 rw [strV_append,strV_length] at h2
 rw [List.length_append]
 exact h2
def CatRel1 (n1 m:Nat) (sz i:Value):Prop:=(sz = .int .i64 0 ∧ i = .int .i64 0) ∨ (sz = .int .i64 n1 ∧ i = .int .i64 1) ∨ (sz = .int .i64 m ∧ i = .int .i64 2)
def CatRel2 (W:World) (l1 l2:List ByteArray) (p i:Value) (w:World):Prop:=(i = .int .i64 0 ∧ Own W p [] w) ∨ (i = .int .i64 1 ∧ Own W p l1 w) ∨ (i = .int .i64 2 ∧ Own W p (l1 ++ l2) w)
set_option maxHeartbeats 2000000 in
theorem concat_any (b:Nat) (v1 v2:Value) (l1 l2:List ByteArray) (w:World) (hb:b < w.heap.size) (h1:w.cell? ⟨b,0,none⟩ = some v1) (h2:w.cell? ⟨b,1,none⟩ = some v2) (r1:Rd w v1 (strV l1)) (r2:Rd w v2 (strV l2))
 (hl:l1.length + l2.length ≤ 4294967296):Calls Tryz.prog 137 #[.slice (some ⟨b,0,none⟩) 2 2] w (RetOwn w (l1 ++ l2)):=by
 obtain ⟨i0,hi,hz0,hz1,hz2⟩:=info_parts info_str
 have R1:=Lib.hid r1
 have R2:=Lib.hid r2
 obtain ⟨A1,n1,c1,rfl,hn1,hc1,_⟩:=r1.strs
 obtain ⟨A2,n2,c2,rfl,hn2,hc2,_⟩:=r2.strs
 obtain ⟨m,hm⟩:∃ m,m = n1 + n2:=⟨_,rfl⟩
 have hm4:m ≤ 4294967296:=by omega
 have hn1m:n1 ≤ m:=by omega
 have hn2m:n2 ≤ m:=by omega
 have hsum:(n1:Int) + (n2:Int) = (m:Int):=by omega
 have HL1:Hid (l1.length = n1):=Lib.hid hn1
 have HL2:Hid (l2.length = n2):=Lib.hid hn2
 have HM:=Lib.hid hm
 clear hn1 hn2 hm r1 r2 hl hc1 hc2
 go_enter Tryz.func137,Tryz.ntmps137
 go_wp2_with fail
 go_loop [3,11] (fun sz i => CatRel1 n1 m sz i) (fun _ i => 2 - (Go.RowKit.intOf i).toNat)
 case atStart => exact .inl ⟨rfl,rfl⟩
 case round =>
  rcases hrel with ⟨rfl,rfl⟩ | ⟨rfl,rfl⟩ | ⟨rfl,rfl⟩
  ·go_wp2_with fail
   go_round
   case rel => exact .inr (.inl ⟨by first | rfl | go_num,rfl⟩)
   case measure => simp [Go.RowKit.intOf]
  ·go_wp2_with fail
   go_round
   case rel => exact .inr (.inr ⟨by first | rfl | go_num,rfl⟩)
   case measure => simp [Go.RowKit.intOf]
  ·clear hsum
   go_wp2_with (go_at_call 150; refine (grow_any m _ hm4).mono ?_; rintro e w' ⟨p0,rfl,hown0,hbw0⟩)
   go_loopw [6,27] (fun p i wr => CatRel2 w l1 l2 p i wr) (fun _ i _ => 2 - (Go.RowKit.intOf i).toNat)
   case atStart => exact .inl ⟨rfl,hown0,hbw0⟩
   case round =>
    rcases hrel with ⟨rfl,hO⟩ | ⟨rfl,hO⟩ | ⟨rfl,hO⟩
    ·have hc1:=(hO.2.cell (p:=⟨b,0,none⟩) hb).trans h1
     have HO:=Lib.hid hO
     have hown:=hO.1
     have hR:=R1.out.keep hO.2
     have HS:Hid ([].length (α:=ByteArray) + (strV l1).length ≤ maxLen):=Lib.hid (by have:=HL1.out; simp [maxLen]; omega)
     have HT:Hid (([].length (α:=ByteArray) + (strV l1).length) * 16 ≤ 140737488355328):=Lib.hid (by have:=HL1.out; simp; omega)
     have hsz:=hO.2.size
     clear hO
     go_wp2_with (at_builtin; refine wpList_append_rd _ rfl (.tmp 31) (.tmp 32) _ rfl w.heap.size 9 i0 (.string ByteArray.empty) 16 Tryz.underlying22 hi hz0 hz1 hz2 rfl _ _ _ rfl hown _ (strV l1) rfl hR (strV_one _) HS.out HT.out hsz ?_; intro p2 w2 hown2 hg2 _)
     go_roundw
     case rel => exact .inr (.inl ⟨rfl,own_add HO.out hown2 hg2⟩)
     case measure => simp [Go.RowKit.intOf]
    ·have hc1:=(hO.2.cell (p:=⟨b,1,none⟩) hb).trans h2
     have HO:=Lib.hid hO
     have hown:=hO.1
     have hR:=R2.out.keep hO.2
     have HS:Hid (l1.length + (strV l2).length ≤ maxLen):=Lib.hid (by have:=HL1.out; have:=HL2.out; have:=HM.out; simp [maxLen]; omega)
     have HT:Hid ((l1.length + (strV l2).length) * 16 ≤ 140737488355328):=Lib.hid (by have:=HL1.out; have:=HL2.out; have:=HM.out; simp; omega)
     have hsz:=hO.2.size
     clear hO
     go_wp2_with (at_builtin; refine wpList_append_rd _ rfl (.tmp 31) (.tmp 32) _ rfl w.heap.size 9 i0 (.string ByteArray.empty) 16 Tryz.underlying22 hi hz0 hz1 hz2 rfl _ _ _ rfl hown _ (strV l2) rfl hR (strV_one _) HS.out HT.out hsz ?_; intro p2 w2 hown2 hg2 _)
     go_roundw
     case rel => exact .inr (.inr ⟨rfl,own_add HO.out hown2 hg2⟩)
     case measure => simp [Go.RowKit.intOf]
    ·go_wp2_with fail
     go_ret
     exact ⟨_,rfl,hO.1,hO.2⟩
section
open Go.Sort
variable {base g cap n:Nat} {ss:List Txt} {w:World}
theorem own_head {w:World} {e:TypeId} {xs ys:List Value} (h:w.ownsRow base e 1 (.slice (some ⟨g,0,none⟩) n cap) n (xs ++ ys)):w.ownsRow base e 1 (.slice (some ⟨g,0,none⟩) xs.length cap) xs.length xs:=by
 obtain ⟨hl,hv⟩:=h
 rcases hv with ⟨he,_⟩ | ⟨g',cap',cur,he,hb,hh,h1,h2,h3,h4⟩
 ·cases he
 ·injection he with e1 e2 e3
  injection e1 with e1
  injection e1 with e1
  subst e1; subst e3
  rw [List.length_append,Nat.mul_one] at hl
  refine ⟨by simp,.inr ⟨g,cap,cur,rfl,hb,hh,by omega,h2,h3,?_⟩⟩
  rw [Nat.mul_one] at h4 ⊢
  have:(cur.toList.take n).take xs.length = xs:=by rw [h4,List.take_left]
  rwa [List.take_take,show min xs.length n = xs.length by omega] at this
theorem own_parts {e:TypeId} {xs:List Value} (h:w.ownsRow base e 1 (.slice (some ⟨g,0,none⟩) n cap) n xs) :
 ∃ cur,base ≤ g ∧ w.heap[g]? = some (.cells cur e (0,0)) ∧ n ≤ cap ∧ cap ≤ maxLen ∧ cur.size = cap * 1 ∧ cur.toList.take n = xs:=by
 obtain ⟨hl,hv⟩:=h
 rcases hv with ⟨he,_⟩ | ⟨g',cap',cur,he,hb,hh,h1,h2,h3,h4⟩
 ·cases he
 ·injection he with e1 e2 e3
  injection e1 with e1
  injection e1 with e1
  subst e1; subst e3
  exact ⟨cur,hb,hh,h1,h2,h3,by simpa using h4⟩
def SortPost (base g cap n:Nat) (ss:List Txt) (w:World) (e:Ending) (w':World):Prop :=
 e = .returned (.tuple #[]) ∧ w'.ownsRow base 9 1 (.slice (some ⟨g,0,none⟩) n cap) n ((sortT ss).map encStr) ∧ w.grownBy w' (some g)
theorem sort_row (hown:w.ownsRow base 9 1 (.slice (some ⟨g,0,none⟩) n cap) n (ss.map encStr)) (h62:n < 4611686018427387904) :
 Calls Tryz.prog 138 #[.slice (some ⟨g,0,none⟩) n cap] w (SortPost base g cap n ss w):=by
 have hn:n = ss.length:=by have:=hown.1; simpa using this.symm
 obtain ⟨cur,hb,hh,h1,h2,h3,h4⟩:=own_parts hown
 rcases Nat.eq_zero_or_pos n with h0 | h0
 ·have he:ss = []:=List.eq_nil_of_length_eq_zero (by omega)
  rw [h0] at hown ⊢
  subst he
  exact (Tryz.slices_Sort_string_none (some ⟨g,0,none⟩) cap w).mono fun e w' ⟨he,hw⟩ => by
   subst hw
   exact ⟨he,by rw [show sortT [] = [] from List.eq_nil_of_length_eq_zero (sortT_length [])]; exact hown,⟨rfl,rfl,rfl,Nat.le_refl _,fun _ _ _ => rfl⟩⟩
 ·rw [hn]
  refine (Tryz.slices_Sort_string g 0 cap ss w (holds_of_block hh (by rw [← hn]; exact h4)) (Array.getElem?_eq_some_iff.1 hh).1 (by omega)).mono ?_
  rintro e w' ⟨he,q,os,rfl⟩
  exact ⟨he,ownsRow_sorted (sortT_length ss) hb hh (by omega) h2 h3,grownBy_sorted _⟩
def CompPost (base g cap:Nat) (ss:List Txt) (w:World) (e:Ending) (w':World):Prop :=
 e = .returned (.slice (some ⟨g,0,none⟩) (compact ss).length cap) ∧ w'.ownsRow base 9 1 (.slice (some ⟨g,0,none⟩) (compact ss).length cap) (compact ss).length ((compact ss).map encStr) ∧ w.grownBy w' (some g)
theorem compact_row (hown:w.ownsRow base 9 1 (.slice (some ⟨g,0,none⟩) n cap) n (ss.map encStr)) :
 Calls Tryz.prog 139 #[.slice (some ⟨g,0,none⟩) n cap] w (CompPost base g cap ss w):=by
 have hn:n = ss.length:=by have:=hown.1; simpa using this.symm
 obtain ⟨cur,hb,hh,h1,h2,h3,h4⟩:=own_parts hown
 rw [hn]
 have hm:ss.length ≤ 9223372036854775807:=by unfold maxLen at h2; omega
 refine (Tryz.slices_Compact_string g 0 cap ss w (holds_of_block hh (by rw [← hn]; exact h4)) hm (by omega)).mono ?_
 rintro e w' ⟨he,q,rfl⟩
 have hlen:=compact_len ss
 have hl:(compact ss ++ List.replicate (ss.length - (compact ss).length) ([]:Txt)).length = ss.length:=by simp; omega
 have h5:=ownsRow_sorted (n:=q) (os:=#[]) hl hb hh (by omega) h2 h3
 rw [grow_empty,List.map_append] at h5
 have h6:=own_head h5
 rw [List.length_map] at h6
 have h7:=grownBy_sorted (w:=w) (g:=g) (n:=q) (os:=#[]) (compact ss ++ List.replicate (ss.length - (compact ss).length) ([]:Txt)).toArray
 rw [grow_empty] at h7
 exact ⟨he,h6,h7⟩
end
theorem strV_bytes (l:List ByteArray):strV l = (NamesSpec.bytesOf l).map encStr:=by
 unfold strV NamesSpec.bytesOf
 rw [List.map_map]; rfl
theorem un_nil {a b:List ByteArray} (h:(a ++ b).length = 0):un a b = []:=by
 have:=un_length a b
 rw [List.length_append] at h
 exact List.eq_nil_of_length_eq_zero (by omega)
theorem un_done {W w w1 w2 w3:World} {o:Obj} {a b:List ByteArray} {g cap n:Nat} {e:Ending} (_hw:w = W.alloc o) (hb:Below w.heap.size w w1) (h2:SortPost w.heap.size g cap n (NamesSpec.bytesOf (a ++ b)) w1 e w2)
 (h3:CompPost w.heap.size g cap (sortT (NamesSpec.bytesOf (a ++ b))) w2 (.returned (.slice (some ⟨g,0,none⟩) (compact (sortT (NamesSpec.bytesOf (a ++ b)))).length cap)) w3) :
 RetStrs W (un a b) (.returned (.slice (some ⟨g,0,none⟩) (compact (sortT (NamesSpec.bytesOf (a ++ b)))).length cap)) w3:=by
 obtain ⟨_,h5,h6⟩:=h2
 obtain ⟨_,h7,h8⟩:=h3
 subst _hw
 have hbase:=(own_parts h5).choose_spec.1
 refine ⟨_,rfl,?_,?_⟩
 ·rw [un,strV_texts]; exact Rd.own h7
 ·have k1:Below W.heap.size W w1:=((Below.refl _ _).alloc (Nat.le_refl _) o).trans (hb.mono (by simp))
  have hg:W.heap.size ≤ g:=by simp at hbase; omega
  exact (k1.grown h6 k1.size (fun k hk => by cases hk; exact hg)).grown h8 (Nat.le_trans k1.size h6.size) (fun k hk => by cases hk; exact hg)
end Go.Proofs.YtckojimeglkobaaGreatDoor
namespace Go.Proofs.YtckojimeglkobaaGreatDoor
open Go.RowKit NamesSpec Go.Lib
set_option maxRecDepth 100000
theorem own_low17 {w:World} {base base' n k:Nat} {e:TypeId} {v:Value} {xs:List Value} (h:w.ownsRow base e k v n xs) (hb:base' ≤ base):w.ownsRow base' e k v n xs:=by
 refine ⟨h.1,?_⟩
 rcases h.2 with h | ⟨g,cap,cur,h1,h2,h3⟩
 ·exact .inl h
 ·exact .inr ⟨g,cap,cur,h1,Nat.le_trans hb h2,h3⟩
theorem un_own {W w w1 w2 w3:World} {o:Obj} {a b:List ByteArray} {g cap n:Nat} {e:Ending} (_hw:w = W.alloc o) (hb:Below w.heap.size w w1) (h2:SortPost w.heap.size g cap n (NamesSpec.bytesOf (a ++ b)) w1 e w2)
 (h3:CompPost w.heap.size g cap (sortT (NamesSpec.bytesOf (a ++ b))) w2 (.returned (.slice (some ⟨g,0,none⟩) (compact (sortT (NamesSpec.bytesOf (a ++ b)))).length cap)) w3) :
 RetOwn W (un a b) (.returned (.slice (some ⟨g,0,none⟩) (compact (sortT (NamesSpec.bytesOf (a ++ b)))).length cap)) w3:=by
 have hd:=un_done _hw hb h2 h3
 obtain ⟨_,h7,h8⟩:=h3
 subst _hw
 obtain ⟨v,he,hr,hbw⟩:=hd
 refine ⟨_,rfl,?_,hbw⟩
 have hl:(un a b).length = (compact (sortT (NamesSpec.bytesOf (a ++ b)))).length:=by
  have:=congrArg List.length (strV_texts (compact (sortT (NamesSpec.bytesOf (a ++ b)))))
  rw [strV_length,List.length_map] at this
  exact this
 rw [hl,un,strV_texts]
 exact own_low17 h7 (by simp)
set_option maxHeartbeats 1000000 in
theorem union_own (v1 v2:Value) (a b:List ByteArray) (w:World) (r1:Rd w v1 (strV a)) (r2:Rd w v2 (strV b)) (hl:a.length + b.length ≤ 4294967296) :
 Calls Tryz.prog 118 #[v1,v2] w (RetOwn w (un a b)):=by
 have HL:=Lib.hid hl
 have HR1:=Lib.hid r1
 have HR2:=Lib.hid r2
 obtain ⟨A1,n1,c1,rfl,_,_,_⟩:=r1.strs
 obtain ⟨A2,n2,c2,rfl,_,_,_⟩:=r2.strs
 clear r1 r2 hl
 go_enter Tryz.func118,Tryz.ntmps118
 go_wp2_with (go_at_call 137; refine (concat_any w.heap.size _ _ a b _ (by simp) (World.cell?_alloc_at _ _ _ _ rfl) (World.cell?_alloc_at _ _ _ _ rfl) (HR1.out.alloc _) (HR2.out.alloc _) HL.out).mono ?_)
 rintro e w1 ⟨p,rfl,hown,hbw⟩
 obtain ⟨n,hn⟩:∃ n,n = (a ++ b).length:=⟨_,rfl⟩
 rw [← hn] at hown
 have hown':=hown
 rcases hown.2 with ⟨rfl,h0⟩ | ⟨g,cap,cur,rfl,hbase,hh,_⟩
 ·have HU:Hid (un a b = []):=Lib.hid (un_nil (by omega))
  have HB:Hid (Below w.heap.size w w1):=Lib.hid (((Below.refl _ _).alloc (Nat.le_refl _) _).trans (hbw.mono (by simp)))
  clear hn h0 hown hown' hbw
  go_wp2_with (first
   | (go_at_call 138; refine (Tryz.slices_Sort_string_none none 0 _).mono ?_; rintro e w2 ⟨rfl,rfl⟩)
   | (go_at_call 139; refine (Tryz.slices_Compact_string_empty none 0 _).mono ?_; rintro e w3 ⟨rfl,rfl⟩))
  go_ret
  exact ⟨_,rfl,by rw [HU.out]; exact World.ownsRow_nil _ _ _ _,HB.out⟩
 ·rw [strV_bytes] at hown'
  have HS:=Lib.hid (sort_row hown' (by have:=HL.out; rw [List.length_append] at hn; omega))
  have HB:=Lib.hid hbw
  clear hn hown hown' hbase hh hbw
  go_wp2_with (go_at_call 138; refine HS.out.mono ?_)
  rintro e w2 h2
  have H2:=Lib.hid h2
  obtain ⟨rfl,h3,_⟩:=h2
  have HC:=Lib.hid (compact_row h3)
  clear h3
  go_wp2_with (go_at_call 139; refine HC.out.mono ?_)
  rintro e w3 h4
  have H4:=Lib.hid h4
  obtain ⟨rfl,_,_⟩:=h4
  go_wp2_with fail
  go_ret
  exact un_own rfl HB.out H2.out H4.out
end Go.Proofs.YtckojimeglkobaaGreatDoor