/- ShapeKids, TransPcs, TransPieces, TransPut, ExprRefLevel, ExprRefPut, ExprRefPutB, ActRefPut, TransRefPut, PrintState, joined. -/
import Derived.Test.YtjfghaohogcfbaaGreatDoorMFormatSame24
import Derived.Test.YtjfghaohogcfbaaGreatDoorMFormatSame15
import Derived.Lib.Join
import Derived.Test.YtjfghaohogcfbaaGreatDoorMFormatSame25
import Derived.Test.YtjfghaohogcfbaaGreatDoorMFormatSame29
import Derived.Deep.Cut
import Derived.Test.YtjfghaohogcfbaaGreatDoorMFormatSame16
import Derived.Test.YtjfghaohogcfbaaGreatDoorMFormatSame07
import Derived.Test.YtjfghaohogcfbaaGreatDoorMFormatSame28
import Derived.BigQuiet
import Derived.Test.YtjfghaohogcfbaaGreatDoorMFormatSame22
namespace Go.Proofs.YtjfghaohogcfbaaGreatDoor
open Go.RowKit ShapeSpec
set_option maxRecDepth 100000
def RetRowI (W:World) (xs:List Int) (e:Ending) (w':World):Prop:=∃ A n c,e = .returned (.slice A n c) ∧ n = xs.length ∧ RowI W w' (.slice A n c) xs
def KidQ (W:World) (l:List Sh) (i n:Nat) (p v:Value) (wr:World):Prop:=∃ k:Nat,k ≤ n ∧ v = .int .i64 k ∧ RowI W wr p (kidsTo l i k)
set_option maxHeartbeats 4000000 in
theorem shkids_row (A:Option Addr) (n c:Nat) (l:List Sh) (i:Int) (w:World) (h:Sts w (.slice A n c) l) (hm:n ≤ 9223372036854775807) :
 Calls Tryz.prog 114 #[.slice A n c,.int .i64 i] w (RetRowI w (kidsA l i)):=by
 have hn:=h.len
 have HH:=Lib.hid (has_any A n c l i w h hm)
 cases hb:hasB l i with
 | false =>
   rw [hb] at HH
   have HE:Hid (kidsA l i = []):=Lib.hid (if_neg (by simp [hb]))
   rw [HE.out]
   clear h hn hb HE
   go_enter Tryz.func114,Tryz.ntmps114
   go_wp2_with (go_at_call 151; (with_reducible refine HH.out.mono ?_))
   rintro e w1 ⟨rfl,hb1⟩
   go_wp2_with fail
   go_ret
   exact ⟨none,0,0,rfl,rfl,RowI.nil _ _ hb1⟩
 | true =>
   rw [hb] at HH
   obtain ⟨a,rfl,ha,han,hn60,hsu⟩:=has_at hn hb
   have HE:Hid (kidsA l (a:Int) = kidsTo l a n):=Lib.hid (by unfold kidsA; rw [if_pos hb,hn]; rfl)
   rw [HE.out]
   have HT:=Lib.hid h
   have HN:=Lib.hid hn
   obtain ⟨i0,hi,hz0,hz1,hz2⟩:=info_parts inf_int
   have HI:=Lib.hid (And.intro hi (And.intro hz0 (And.intro hz1 hz2)))
   clear h hn hb HE ha hsu hi hz0 hz1 hz2
   go_enter Tryz.func114,Tryz.ntmps114
   go_wp2_with (go_at_call 151; (with_reducible refine HH.out.mono ?_))
   rintro e w1 ⟨rfl,hb1⟩
   have HB1:=Lib.hid hb1
   clear hb1
   go_wp2_with fail
   go_loopw [5,14] (fun p v wr => KidQ w l a n p v wr) (fun _ v _ => n - (intOf v).toNat)
   case atStart => exact ⟨0,Nat.zero_le _,rfl,RowI.nil _ _ HB1.out⟩
   case round =>
    obtain ⟨k,hk,rfl,hrow⟩:=hrel
    have HR:=Lib.hid hrow
    clear hrow
    by_cases hlt:k < n
    ·have hltI:(k:Int) < n:=by omega
     obtain ⟨t,ht⟩:∃ t,l[k]? = some t:=get_some (by rw [← HN.out]; exact hlt)
     have HT1:=Lib.hid (HT.out.keep HR.out.2)
     obtain ⟨b,off,s,a3,n3,c3,a4,n4,c4,a5,n5,c5,rfl,hb,c0,c1,c2,c3',c4',c5'⟩:=HT1.out.all ht
     have HP:=Lib.hid (par_at ht)
     obtain ⟨q,hq⟩:∃ q,q = t.par:=⟨_,rfl⟩
     rw [← hq] at c2 HP
     have HRA:=Lib.hid (fun (o:Obj) => HR.out.keep ((Below.refl _ _).alloc (Nat.le_refl _) o))
     have HSZ:Hid (w.heap.size ≤ wr.heap.size):=Lib.hid HR.out.2.size
     have hkl:=kids_le l a k
     have HL1:Hid ((kidsTo l a k).length + (intV [(k:Int)]).length ≤ maxLen):=Lib.hid (by simp [maxLen]; omega)
     have HL2:Hid (((kidsTo l a k).length + (intV [(k:Int)]).length) * 8 ≤ 140737488355328):=Lib.hid (by simp; omega)
     clear ht hq hkl
     by_cases hqa:q = a
     ·have g1:(q == (a:Int)) = true:=by simpa using hqa
      have HS:Hid (kidsTo l a (k + 1) = kidsTo l a k ++ [(k:Int)]):=Lib.hid (kids_yes (HP.out.trans hqa))
      clear hqa
      go_wp2_with (at_builtin; refine wpList_append_rd _ rfl (.tmp 23) (.tmp 25) _ rfl w.heap.size 3 i0 (.int .i64 0) 8 Tryz.underlying75 HI.out.1 HI.out.2.1 HI.out.2.2.1 HI.out.2.2.2 rfl _ _ _ rfl (((HRA.out _).1).alloc _) _ (intV [(k:Int)]) rfl (lit_here (by simp) rfl rfl) (intV_one _) HL1.out HL2.out ?_ ?_; (have:=HSZ.out; simp; omega); intro p2 w2 hrow2 hg2 _; have HR2:=Lib.hid (RowI.add (HRA.out _) hrow2 hg2); clear hrow2 hg2)
      go_roundw
      case rel => exact ⟨k + 1,by omega,by simp,by rw [HS.out]; exact HR2.out⟩
      case measure => simp [intOf]; omega
     ·have g1:(q == (a:Int)) = false:=by simpa using hqa
      have HS:Hid (kidsTo l a (k + 1) = kidsTo l a k):=Lib.hid (kids_no (by rw [HP.out]; exact hqa))
      clear hqa
      go_wp2_with fail
      go_roundw
      case rel => exact ⟨k + 1,by omega,by simp,by rw [HS.out]; exact HRA.out _⟩
      case measure => simp [intOf]; omega
    ·obtain rfl:k = n:=by omega
     go_wp2_with fail
     go_ret
     obtain ⟨A2,c2,hp⟩:=own_shape HR.out.1
     exact ⟨A2,_,c2,congrArg Ending.returned hp,rfl,hp ▸ HR.out⟩
end Go.Proofs.YtjfghaohogcfbaaGreatDoor
namespace Go.Proofs.YtjfghaohogcfbaaGreatDoor
namespace TransSpec
open CurSpec TermSpec EvalSpec NamesSpec ExprSpec ScanSpec ActSpec
def pcH (s:ByteArray):List ByteArray:=if s.size = 0 then [wAuto] else [wOn,s]
def pcG:Option Ex → List ByteArray
 | none => []
 | some e => [⟨#[91]⟩ ++ tx e ++ ⟨#[93]⟩]
def pcA (ts:List Ta):List ByteArray:=if ts = [] then [] else [wDo,putB ts]
def pcT (s:ByteArray):List ByteArray:=if s.size = 0 then [] else [wTo,s]
def pcs (x:Tt):List ByteArray:=((pcH x.ev ++ pcG x.g) ++ pcA x.ts) ++ pcT x.tg
theorem pcH_nil {s:ByteArray} (h:s.size = 0):pcH s = [wAuto]:=if_pos h
theorem pcH_ev {s:ByteArray} (h:0 < s.size):pcH s = [wOn,s]:=if_neg (by omega)
theorem pcA_nil {ts:List Ta} (h:ts.length = 0):pcA ts = []:=if_pos (List.eq_nil_of_length_eq_zero h)
theorem pcA_some {ts:List Ta} (h:0 < ts.length):pcA ts = [wDo,putB ts]:=if_neg (fun e => by rw [e] at h; simp at h)
theorem pcT_nil {s:ByteArray} (h:s.size = 0):pcT s = []:=if_pos h
theorem pcT_tg {s:ByteArray} (h:0 < s.size):pcT s = [wTo,s]:=if_neg (by omega)
theorem pcs_len (x:Tt):(pcH x.ev).length ≤ 2 ∧ (pcH x.ev ++ pcG x.g).length ≤ 3 ∧ ((pcH x.ev ++ pcG x.g) ++ pcA x.ts).length ≤ 5 ∧ (pcs x).length ≤ 7:=by
 have h1:(pcH x.ev).length ≤ 2:=by unfold pcH; split <;> simp
 have h2:(pcG x.g).length ≤ 1:=by cases x.g <;> simp [pcG]
 have h3:(pcA x.ts).length ≤ 2:=by unfold pcA; split <;> simp
 have h4:(pcT x.tg).length ≤ 2:=by unfold pcT; split <;> simp
 unfold pcs
 simp only [List.length_append]
 omega
theorem bytes_of {a b:ByteArray} (h:T a = T b):a = b:=by
 obtain ⟨⟨a⟩⟩:=a
 obtain ⟨⟨b⟩⟩:=b
 simp only [T] at h
 rw [h]
theorem pcs_head (x:Tt):∃ p r,pcH x.ev = p :: r ∧ T (headB x) = T p ++ Lib.joinTail [32] (r.map T):=by
 unfold pcH headB
 split
 ·exact ⟨_,_,rfl,by simp [Lib.joinTail]⟩
 ·refine ⟨_,_,rfl,?_⟩
  rw [T,bytes_app]
  simp only [Lib.joinTail,List.map_cons,List.map_nil,List.flatten_cons,List.flatten_nil]
  simp [T]
theorem tail_app (a b:List ByteArray):Lib.joinTail [32] ((a ++ b).map T) = Lib.joinTail [32] (a.map T) ++ Lib.joinTail [32] (b.map T):=by simp [Lib.joinTail]
theorem tail_g (g:Option Ex):Lib.joinTail [32] ((pcG g).map T) = T (guardB g):=by
 cases g with
 | none => rfl
 | some e =>
   unfold pcG guardB
   simp only [T,bytes_app,Lib.joinTail,List.map_cons,List.map_nil,List.flatten_cons,List.flatten_nil]
   simp
theorem tail_a (ts:List Ta):Lib.joinTail [32] ((pcA ts).map T) = T (actsB ts):=by
 unfold pcA actsB
 split
 ·rfl
 ·simp only [T,bytes_app,Lib.joinTail,List.map_cons,List.map_nil,List.flatten_cons,List.flatten_nil]
  simp
theorem tail_t (s:ByteArray):Lib.joinTail [32] ((pcT s).map T) = T (tgB s):=by
 unfold pcT tgB
 split
 ·rfl
 ·simp only [T,bytes_app,Lib.joinTail,List.map_cons,List.map_nil,List.flatten_cons,List.flatten_nil]
  simp
theorem pcs_join' (x:Tt):Lib.join ((pcs x).map T) [32] ++ [59] = T (txT x):=by
 obtain ⟨p,r,h,hh⟩:=pcs_head x
 rw [txT_T,hh]
 unfold pcs
 rw [h]
 simp only [List.cons_append,List.map_cons]
 rw [Lib.join_cons,tail_app,tail_app,tail_app,tail_g,tail_a,tail_t]
 simp only [List.append_assoc]
theorem pcs_join {x:Tt} (h:x.Ok):(Lib.join ((pcs x).map (·.data.toList)) [32]).length ≤ 11659 ∧ (⟨(Lib.join ((pcs x).map (·.data.toList)) [32]).toArray⟩:ByteArray) ++ ⟨#[59]⟩ = txT x:=by
 have hj:Lib.join ((pcs x).map (·.data.toList)) [32] ++ [59] = T (txT x):=pcs_join' x
 have hz:=txT_size h
 have hl:(T (txT x)).length = (txT x).size:=rfl
 refine ⟨?_,bytes_of ?_⟩
 ·rw [← hj,List.length_append] at hl
  simp only [List.length_cons,List.length_nil] at hl
  omega
 ·rw [← hj,T,bytes_app]
end TransSpec
end Go.Proofs.YtjfghaohogcfbaaGreatDoor
namespace Go.Proofs.YtjfghaohogcfbaaGreatDoor
open Go.RowKit TermSpec EvalSpec ActSpec NamesSpec ExprSpec TransSpec
set_option maxRecDepth 100000
theorem RowS.addL {W wr w2:World} {p p':Value} {xs ys:List ByteArray} {o:Obj} (h:RowS W wr p xs) (hrow:w2.ownsRow W.heap.size 9 1 p' (xs.length + (strV ys).length) (strV xs ++ strV ys)) (hg:(wr.alloc o).grownBy w2 p.ownBlock):RowS W w2 p' (xs ++ ys):=by
 refine ⟨?_,(h.2.alloc h.2.size o).grown hg (by have:=h.2.size; simp; omega) (fun j hj => (own_block_bd h.1 j hj).1)⟩
 rw [← strV_append,List.length_append,← strV_length ys]
 exact hrow
theorem RowS.lit1 {W:World} {k:Nat} (hk:k = W.heap.size) (a:ByteArray):RowS W (W.alloc (.cells #[.string a] 9)) (.slice (some ⟨k,0,none⟩) 1 1) [a]:=by
 subst hk
 exact ⟨World.ownsRow_lit W _ 1 (Nat.le_refl _) (by decide) rfl,KitC.below_one _ _⟩
theorem RowS.lit2 {W V:World} {k:Nat} (hk:k = V.heap.size) (hb:Below W.heap.size W V) (a b:ByteArray):RowS W (V.alloc (.cells #[.string a,.string b] 9)) (.slice (some ⟨k,0,none⟩) 2 2) [a,b]:=by
 subst hk
 exact ⟨World.ownsRow_lit V _ 2 hb.size (by decide) rfl,below_two' hb (KitC.below_one _ _)⟩
theorem RowS.weak {w:World} {o:Obj} {wr:World} {p:Value} {xs:List ByteArray} (h:RowS (w.alloc o) wr p xs):RowS w wr p xs:=⟨own_weak h.1 (by simp),below_two' (KitC.below_one w o) h.2⟩
theorem join_blank {W w:World} {p:Value} {xs:List ByteArray} (h:RowS W w p xs) (h8:xs.length ≤ 8) (hl:(Lib.join (xs.map (·.data.toList)) [32]).length ≤ 140737488355328) :
 ∃ A n c,p = .slice A n c ∧ Calls Tryz.prog 63 #[.slice A n c,.string ⟨#[32]⟩] w (RetS w ⟨(Lib.join (xs.map (·.data.toList)) [32]).toArray⟩):=by
 obtain ⟨A,n,c,rfl,hn,hc,hA⟩:=h.read.strs
 rcases Nat.eq_zero_or_pos n with h0 | h0
 ·subst h0
  obtain rfl:xs = []:=List.eq_nil_of_length_eq_zero hn
  exact ⟨A,0,c,rfl,(Tryz.strings_Join_none A c _ w).mono fun e w' ⟨he,hw⟩ => ⟨he,by rw [hw]; exact Below.refl _ _⟩⟩
 ·obtain ⟨b,off,rfl,hb,hcell⟩:=hA h0
  subst hn
  exact ⟨_,_,c,rfl,Tryz.strings_Join b off c xs ⟨#[32]⟩ w hcell hb (by omega) hc hl⟩
def RetRowS (W:World) (xs:List ByteArray) (e:Ending) (w':World):Prop:=∃ A n c,e = .returned (.slice A n c) ∧ RowS W w' (.slice A n c) xs
set_option maxRecDepth 100000 in
set_option maxHeartbeats 8000000 in
theorem pieces_any (x:Tt) (hx:x.Ok) (gA:Option Addr) (gn gc:Nat) (aA:Option Addr) (an ac:Nat) (w:World) (hs:SmallT x.tr) (h:TrIn w gA gn gc aA an ac x.tr) (hg:SignsIn w) :
 Calls Tryz.prog 154 #[.agg #[.string x.ev,.slice gA gn gc,.slice aA an ac,.string x.tg]] w (RetRowS w (pcs x)):=by
 have hgn:gn = (gFlat x.g).length:=h.len.1
 have han:an = x.ts.length:=by rw [h.len.2]; exact List.length_map ..
 obtain ⟨W1,hW1⟩:∃ W1,w.alloc (trO x.ev gA gn gc aA an ac x.tg) = W1:=⟨_,rfl⟩
 have hb1:Below w.heap.size w W1:=by rw [← hW1]; exact KitC.below_one _ _
 have hk1:W1.heap[w.heap.size]? = some (trO x.ev gA gn gc aA an ac x.tg):=by rw [← hW1]; exact heap_alloc_new _ _
 have HK:=Lib.hid (fun W (hW:Below W1.heap.size W1 W) => cells_4 (KitC.block_on hk1 hW))
 have hk0:=cells_4 hk1
 have HPG:Hid (∀ e,x.g = some e → ∀ W,Below W1.heap.size W1 W → Calls Tryz.prog 179 #[.slice gA gn gc] W (RetPut W (tx e) 0)):=Lib.hid (fun e he W hW => by
  have h1:=(hx.g e he)
  have h2:gFlat x.g = flat e:=by rw [he]; rfl
  have h3:Tms w (.slice gA gn gc) (flat e):=by rw [← h2]; exact h.g
  exact put_ok gA gn gc (flat e) W (h3.keep (below_two' hb1 hW)) (by rw [hgn,h2]) (by rw [← h2]; exact hs.g) (hg.keep (below_two' hb1 hW)) rfl h1.1 h1.2 (ex_few h1.2))
 have HPA:Hid (∀ W,Below W1.heap.size W1 W → Calls Tryz.prog 152 #[.slice aA an ac] W (RetPut W (putB x.ts) 0)):=Lib.hid (fun W hW => by
  have h1:chkA (x.ts.map Ta.ac) = 0:=by unfold chkA; rw [if_neg (by rw [List.length_map]; have:=hx.few; omega)]; exact tas_first hx.ts
  exact (aput_any aA an ac (x.ts.map Ta.ac) hs.acts hs.alen W (h.a.keep (below_two' hb1 hW)) (hg.keep (below_two' hb1 hW))).2 x.ts rfl hx.ts h1)
 have HLN:=Lib.hid (pcs_len x)
 have hsg:=guardB_size hx.g
 have HTS:Hid (∀ e,x.g = some e → (tx e).size ≤ 1200):=Lib.hid (fun e he => by
  have h1:=hx.g e he
  have h3:=tx_size h1.1
  have h4:=ex_few h1.2
  omega)
 have HGN:Hid ((gn = 0 ↔ x.g = none) ∧ an = x.ts.length):=Lib.hid ⟨by
  rw [hgn]
  cases x.g with
  | none => simp [gFlat]
  | some e => simp only [gFlat,reduceCtorEq,iff_false]; exact flat_pos e,han⟩
 have HPC:Hid (pcs x = ((pcH x.ev ++ pcG x.g) ++ pcA x.ts) ++ pcT x.tg):=Lib.hid rfl
 obtain ⟨R,hR⟩:∃ R,R = pcs x:=⟨_,rfl⟩
 rw [← hR] at HPC HLN ⊢
 obtain ⟨i0,hi,hz0,hz1,hz2⟩:=info_parts inf_str
 have HI:=Lib.hid (And.intro hi (And.intro hz0 (And.intro hz1 hz2)))
 have HW1:=Lib.hid hW1
 have HZ1:Hid (W1.heap.size = w.heap.size + 1):=Lib.hid (by rw [← hW1,World.size_alloc])
 have hcap:=h.cap
 have hgn40:gn ≤ 4398046511104:=by have:x.tr.g.length ≤ _:=hs.glen; have:=h.len.1; omega
 have han63:an ≤ 9223372036854775807:=by have:x.tr.acts.length ≤ _:=hs.alen; have:=h.len.2; omega
 obtain ⟨ev,g,ts,tg⟩:=x
 simp only at HK hk0 HPG HPA HLN HTS HGN HPC HW1 ⊢
 clear hgn han hb1 hk1 hs h hg hx hsg hR hi hz0 hz1 hz2 hW1
 obtain ⟨k0,k1,k2,k3⟩:=hk0
 have hka:=HK.out _ (KitC.below_one W1 (.cells #[.string ⟨#[97,117,116,111]⟩] 9))
 have HKA:=Lib.hid hka
 clear hka
 go_enter Tryz.func154,Tryz.ntmps154
 go_upto_if 11 with fail
 rw [HW1.out]
 go_cut [3] from 8 (fun p wx => RowS W1 wx p (pcH ev))
 case first =>
  obtain ⟨m0,m1,m2,m3⟩:=HKA.out
  rcases Nat.eq_zero_or_pos ev.size with h0 | h0
  ·have HE:=Lib.hid (pcH_nil h0)
   have g0:(!ev.toList.isEmpty) = false:=by rw [str_nil' h0]; rfl
   clear h0
   rw [g0]
   go_wp2_with fail
   go_meet
   case rel =>
    rw [HE.out]
    exact RowS.lit1 HZ1.out.symm _
  ·have HE:=Lib.hid (pcH_ev h0)
   have g0:(!ev.toList.isEmpty) = true:=by rw [str_ne' h0]; rfl
   clear h0
   rw [g0]
   go_wp2_with fail
   go_meet
   case rel =>
    rw [HE.out]
    exact RowS.lit2 (by simp [HZ1.out]) (KitC.below_one _ _) _ _
 case rest =>
  clear HKA k0 k1 k2 k3
  have HROW:=Lib.hid hcut
  have HBL:=Lib.hid hcut.2
  have hl2:(pcH ev).length ≤ 2:=HLN.out.1
  obtain ⟨L,hL⟩:∃ L,L = pcH ev:=⟨_,rfl⟩
  rw [← hL] at HROW HPC HLN hl2
  obtain ⟨k0,k1,k2,k3⟩:=HK.out _ HROW.out.2
  obtain ⟨pA,pc,hsh⟩:=own_shape HROW.out.1
  have HSH:=Lib.hid hsh
  clear hcut hL hsh
  go_upto_if 18 with fail
  go_cut [3] from 8 (fun p wx => RowS W1 wx p (L ++ pcG g))
  case first =>
   cases g with
   | none =>
     obtain rfl:gn = 0:=HGN.out.1.2 rfl
     go_wp2_with fail
     go_meet
     case rel => rw [show L ++ pcG none = L from List.append_nil L]; exact HROW.out
   | some e =>
     have hgp:gn ≠ 0:=fun h => by cases (HGN.out.1.1 h)
     have g0:decide (0 < gn) = true:=by simp; omega
     have HP:=Lib.hid (HPG.out e rfl)
     have HX:Hid (pcG (some e) = [⟨#[91]⟩ ++ tx e ++ ⟨#[93]⟩]):=Lib.hid rfl
     have hz:=HTS.out e rfl
     obtain ⟨y,hy⟩:∃ y,y = tx e:=⟨_,rfl⟩
     rw [← hy] at HP HX hz
     have q1:¬ 9223372036854775807 < 1 + y.size:=by omega
     have q2:¬ 9223372036854775807 < 1 + y.size + 1:=by omega
     have HL1:Hid (L.length + (strV [(⟨#[91]⟩:ByteArray) ++ y ++ ⟨#[93]⟩]).length ≤ maxLen):=Lib.hid (by simp [maxLen]; omega)
     have HL2:Hid ((L.length + (strV [(⟨#[91]⟩:ByteArray) ++ y ++ ⟨#[93]⟩]).length) * 16 ≤ 140737488355328):=Lib.hid (by simp; omega)
     clear hgp hy
     rw [g0]
     go_wp2_with (go_at_call 179; (with_reducible refine (HP.out _ HBL.out).mono ?_))
     rintro e2 w2 ⟨rfl,hb2⟩
     have HR1:=Lib.hid (HROW.out.keep hb2)
     have HSZ:Hid (W1.heap.size ≤ w2.heap.size):=Lib.hid HR1.out.2.size
     have HRA:=Lib.hid HR1.out.1
     clear hb2 k0 k1 k2 k3
     go_wp2_with (at_builtin; refine wpList_append_rd _ rfl (.tmp 25) (.tmp 29) _ rfl W1.heap.size 9 i0 (.string ByteArray.empty) 16 Tryz.underlying29 HI.out.1 HI.out.2.1 HI.out.2.2.1 HI.out.2.2.2 rfl _ _ _ rfl (own_keep HRA.out (KitC.below_one _ _)) _ (strV [(⟨#[91]⟩:ByteArray) ++ y ++ ⟨#[93]⟩]) rfl (lit_here rfl rfl rfl) (strV_one _) HL1.out HL2.out ?_ ?_; (have:=HSZ.out; simp; omega); intro p2 w3 hrow3 hg3 _; have HR2:=Lib.hid (RowS.addL HR1.out hrow3 hg3); clear hrow3 hg3)
     go_meet
     case rel => rw [HX.out]; exact HR2.out
  case rest =>
   clear k0 k1 k2 k3 HROW HSH HBL
   have HROW:=Lib.hid hcut
   have HBL:=Lib.hid hcut.2
   have hl3:(L ++ pcG g).length ≤ 3:=HLN.out.2.1
   obtain ⟨L2,hL⟩:∃ L2,L2 = L ++ pcG g:=⟨_,rfl⟩
   rw [← hL] at HROW HPC HLN hl3
   obtain ⟨k0,k1,k2,k3⟩:=HK.out _ HROW.out.2
   clear hcut hL
   go_upto_if 34 with fail
   go_cut [3] from 8 (fun p wx => RowS W1 wx p (L2 ++ pcA ts))
   case first =>
    rcases Nat.eq_zero_or_pos an with h0 | h0
    ·have HX:=Lib.hid (pcA_nil (ts:=ts) (by have:=HGN.out.2; omega))
     subst h0
     go_wp2_with fail
     go_meet
     case rel => rw [HX.out,List.append_nil]; exact HROW.out
    ·have HX:=Lib.hid (pcA_some (ts:=ts) (by have:=HGN.out.2; omega))
     have g0:decide (0 < an) = true:=by simp; omega
     obtain ⟨y,hy⟩:∃ y,y = putB ts:=⟨_,rfl⟩
     rw [← hy] at HPA HX
     have HL1:Hid (L2.length + (strV [wDo,y]).length ≤ maxLen):=Lib.hid (by simp [maxLen]; omega)
     have HL2:Hid ((L2.length + (strV [wDo,y]).length) * 16 ≤ 140737488355328):=Lib.hid (by simp; omega)
     clear h0 hy
     rw [g0]
     go_wp2_with (go_at_call 152; (with_reducible refine (HPA.out _ HBL.out).mono ?_))
     rintro e2 w2 ⟨rfl,hb2⟩
     have HR1:=Lib.hid (HROW.out.keep hb2)
     have HSZ:Hid (W1.heap.size ≤ w2.heap.size):=Lib.hid HR1.out.2.size
     have HRA:=Lib.hid HR1.out.1
     clear hb2 k0 k1 k2 k3
     go_wp2_with (at_builtin; refine wpList_append_rd _ rfl (.tmp 41) (.tmp 43) _ rfl W1.heap.size 9 i0 (.string ByteArray.empty) 16 Tryz.underlying29 HI.out.1 HI.out.2.1 HI.out.2.2.1 HI.out.2.2.2 rfl _ _ _ rfl (own_keep HRA.out (KitC.below_one _ _)) _ (strV [wDo,y]) rfl (lit_here rfl rfl rfl) (strV_one _) HL1.out HL2.out ?_ ?_; (have:=HSZ.out; simp; omega); intro p2 w3 hrow3 hg3 _; have HR2:=Lib.hid (RowS.addL HR1.out hrow3 hg3); clear hrow3 hg3)
     go_meet
     case rel => rw [HX.out]; exact HR2.out
   case rest =>
    clear k0 k1 k2 k3 HROW HBL
    have HROW:=Lib.hid hcut
    have hl5:(L2 ++ pcA ts).length ≤ 5:=HLN.out.2.2.1
    obtain ⟨L3,hL⟩:∃ L3,L3 = L2 ++ pcA ts:=⟨_,rfl⟩
    rw [← hL] at HROW HPC hl5
    obtain ⟨k0,k1,k2,k3⟩:=HK.out _ HROW.out.2
    obtain ⟨pA3,pc3,hsh⟩:=own_shape HROW.out.1
    have HSZ:Hid (W1.heap.size ≤ wc.heap.size):=Lib.hid HROW.out.2.size
    have HRA:=Lib.hid HROW.out.1
    clear hcut hL
    rcases Nat.eq_zero_or_pos tg.size with h0 | h0
    ·have HX:Hid (R = L3):=Lib.hid (by rw [HPC.out,pcT_nil h0,List.append_nil])
     have g0:tg.toList.isEmpty = true:=by rw [str_nil' h0]; rfl
     have hn:=str_nil' h0
     subst hsh
     clear h0
     go_wp2_with fail
     go_ret
     have h:=HROW.out
     rw [← HW1.out] at h
     exact ⟨_,_,_,rfl,by rw [HX.out]; exact h.weak⟩
    ·have HX:Hid (R = L3 ++ [wTo,tg]):=Lib.hid (by rw [HPC.out,pcT_tg h0])
     have g0:tg.toList.isEmpty = false:=str_ne' h0
     have HL1:Hid (L3.length + (strV [wTo,tg]).length ≤ maxLen):=Lib.hid (by simp [maxLen]; omega)
     have HL2:Hid ((L3.length + (strV [wTo,tg]).length) * 16 ≤ 140737488355328):=Lib.hid (by simp; omega)
     clear h0 hsh
     go_wp2_with (at_builtin; refine wpList_append_rd _ rfl (.tmp 48) (.tmp 51) _ rfl W1.heap.size 9 i0 (.string ByteArray.empty) 16 Tryz.underlying29 HI.out.1 HI.out.2.1 HI.out.2.2.1 HI.out.2.2.2 rfl _ _ _ rfl (own_keep HRA.out (KitC.below_one _ _)) _ (strV [wTo,tg]) rfl (lit_here rfl rfl rfl) (strV_one _) HL1.out HL2.out ?_ ?_; (have:=HSZ.out; simp; omega); intro p2 w3 hrow3 hg3 _; have HR2:=Lib.hid (RowS.addL HROW.out hrow3 hg3); clear hrow3 hg3)
     obtain ⟨pA4,pc4,rfl⟩:=own_shape HR2.out.1
     go_ret
     have h:=HR2.out
     rw [← HW1.out] at h
     exact ⟨_,_,_,rfl,by rw [HX.out]; exact h.weak⟩
end Go.Proofs.YtjfghaohogcfbaaGreatDoor
namespace Go.Proofs.YtjfghaohogcfbaaGreatDoor
open Go.RowKit TermSpec EvalSpec ActSpec NamesSpec ExprSpec TransSpec
set_option maxRecDepth 100000
set_option maxHeartbeats 4000000 in
theorem tput_ok (x:Tt) (hx:x.Ok) (gA:Option Addr) (gn gc:Nat) (aA:Option Addr) (an ac:Nat) (w:World) (hs:SmallT x.tr) (h:TrIn w gA gn gc aA an ac x.tr) (hg:SignsIn w) :
 Calls Tryz.prog 117 #[.agg #[.string x.ev,.slice gA gn gc,.slice aA an ac,.string x.tg]] w (RetPut w (txT x) 0):=by
 have HC:Hid (Calls Tryz.prog 153 #[.agg #[.string x.ev,.slice gA gn gc,.slice aA an ac,.string x.tg]] (w.alloc (trO x.ev gA gn gc aA an ac x.tg)) (RetI (w.alloc (trO x.ev gA gn gc aA an ac x.tg)) 0)):=Lib.hid (by
  have:=tcheck_any x.tr gA gn gc aA an ac (w.alloc (trO x.ev gA gn gc aA an ac x.tg)) hs (h.alloc _)
  rwa [tt_chk hx] at this)
 have HP:=Lib.hid (fun W (hW:Below w.heap.size w W) => pieces_any x hx gA gn gc aA an ac W hs (h.keep hW) (hg.keep hW))
 have HLN:=Lib.hid (pcs_len x).2.2.2
 have HJ:=Lib.hid (pcs_join hx)
 have hsz:=txT_size hx
 obtain ⟨R,hR⟩:∃ R,R = txT x:=⟨_,rfl⟩
 rw [← hR] at HJ hsz ⊢
 obtain ⟨L,hL⟩:∃ L,L = pcs x:=⟨_,rfl⟩
 rw [← hL] at HP HLN HJ
 obtain ⟨ev,g,ts,tg⟩:=x
 simp only at HC HP ⊢
 clear hs h hR hL hg hx
 go_enter Tryz.func117,Tryz.ntmps117
 go_wp2_with (go_at_call 153; (with_reducible refine HC.out.mono ?_))
 rintro e w2 ⟨rfl,hb⟩
 have HB:=Lib.hid (And.intro (KitC.one_block hb).1 (KitC.one_block hb).2.1)
 obtain ⟨c0,c1,c2,c3⟩:=cells_4 HB.out.1
 clear hb
 go_wp2_with (go_at_call 154; (with_reducible refine (HP.out _ HB.out.2).mono ?_))
 rintro e w3 ⟨A3,n3,c3',rfl,hrow⟩
 obtain ⟨jA,jn,jc,heq,hj⟩:=join_blank hrow (by have:=HLN.out; omega) (by have:=HJ.out.1; omega)
 cases heq
 obtain ⟨j,hjj⟩:∃ j:ByteArray,j = ⟨(Lib.join (L.map (·.data.toList)) [32]).toArray⟩:=⟨_,rfl⟩
 rw [← hjj] at hj
 have HJJ:Hid (j ++ ⟨#[59]⟩ = R):=Lib.hid (by rw [hjj]; exact HJ.out.2)
 have hj1:j.size + 1 ≤ 11659:=by
  have:=HJJ.out
  rw [← this,ByteArray.size_append] at hsz
  exact hsz
 have q1:¬ 9223372036854775807 < j.size + 1:=by omega
 have HJC:=Lib.hid hj
 have HB3:=Lib.hid (below_two' HB.out.2 hrow.2)
 clear hj hjj hrow hsz hj1 c0 c1 c2 c3
 go_wp2_with (go_at_call 63; (with_reducible refine HJC.out.mono ?_))
 rintro e w4 ⟨rfl,hb⟩
 have HB4:=Lib.hid (below_two' HB3.out hb)
 clear hb
 go_wp2_with fail
 go_ret2
 exact ⟨by rw [← HJJ.out]; rfl,HB4.out⟩
end Go.Proofs.YtjfghaohogcfbaaGreatDoor
namespace Go.Proofs.YtjfghaohogcfbaaGreatDoor
open Go.RowKit CurSpec TermSpec ExprSpec NamesSpec
set_option maxRecDepth 100000
end Go.Proofs.YtjfghaohogcfbaaGreatDoor
namespace Go.Proofs.YtjfghaohogcfbaaGreatDoor
open Go.RowKit CurSpec TermSpec ExprSpec
set_option maxRecDepth 100000
end Go.Proofs.YtjfghaohogcfbaaGreatDoor
namespace Go.Proofs.YtjfghaohogcfbaaGreatDoor
open Go.RowKit CurSpec TermSpec ExprSpec Go.BigFrame
set_option maxRecDepth 100000
end Go.Proofs.YtjfghaohogcfbaaGreatDoor
namespace Go.Proofs.YtjfghaohogcfbaaGreatDoor
open Go.RowKit Go.Sort TermSpec EvalSpec ActSpec NamesSpec ExprSpec
set_option maxRecDepth 100000
end Go.Proofs.YtjfghaohogcfbaaGreatDoor
namespace Go.Proofs.YtjfghaohogcfbaaGreatDoor
open Go.RowKit Go.Sort TermSpec EvalSpec ActSpec NamesSpec ExprSpec TransSpec
set_option maxRecDepth 100000
end Go.Proofs.YtjfghaohogcfbaaGreatDoor
namespace Go.Proofs.YtjfghaohogcfbaaGreatDoor
open Go.RowKit Go.Sort CurSpec TermSpec EvalSpec ActSpec NamesSpec ExprSpec TransSpec SynSpec PrintSpec
open ShapeSpec (Sh up sf endOf SU)
theorem stT_at (sh:List Sh) {l:List Ts} {i:Nat} {t:Ts} (h:l[i]? = some t):PrintSpec.stT sh l i = if emptyB sh l i then inT ((up sh i).length + 1) ++ ((headT t ++ [59]) ++ [10]) else inT ((up sh i).length + 1) ++ ((headT t ++ [32,123]) ++ [10]) ++ insT ((up sh i).length + 2) t:=by
 unfold PrintSpec.stT
 rw [h]
 rfl
end Go.Proofs.YtjfghaohogcfbaaGreatDoor