/- SoundOf, OpenN, OpenD, TermOpen, EvalOpen, ActOpen, SoundOpen, SoundMem, SoundLine, KitW, joined. -/
import Derived.Test.YtejbpleghjgpbaaGreatDoorMSoundOf06
import Derived.Test.YtejbpleghjgpbaaGreatDoorMSoundOf13
import Derived.Test.YtejbpleghjgpbaaGreatDoorMSoundOf18
import Derived.Test.YtejbpleghjgpbaaGreatDoorMSoundOf23
import Derived.Test.YtejbpleghjgpbaaGreatDoorMSoundOf01
import Derived.ProofKit
import Derived.OpenShut
import Derived.Deep.Slices
import Derived.Test.YtejbpleghjgpbaaGreatDoorRows
import Derived.Lib.SmallJoins
import Derived.Test.YtejbpleghjgpbaaGreatDoorMSoundOf07
import Derived.Test.YtejbpleghjgpbaaGreatDoorMSoundOf04
import Derived.Deep.DeepFit
import Derived.Test.YtejbpleghjgpbaaGreatDoorMSoundOf12
import Derived.Test.YtejbpleghjgpbaaGreatDoorMSoundOf09
import Derived.Deep.RegionHeld3
namespace Go.Proofs.YtejbpleghjgpbaaGreatDoor
open Go.RowKit TermSpec NamesSpec EvalSpec ActSpec TransSpec SynSpec RulesSpec PrintSpec SoundSpec
set_option maxRecDepth 100000
theorem RowF.addL {W wr w2:World} {p p':Value} {xs ys:List Fw} (h:RowF W wr p xs) (hrow:w2.ownsRow W.heap.size 56 3 p' (xs.length + ys.length) (fwsV xs ++ fwsV ys)) (hg:wr.grownBy w2 p.ownBlock):RowF W w2 p' (xs ++ ys):=by
 refine ⟨?_,h.2.grown hg h.2.size (fun j hj => (own_block_bd h.1 j hj).1)⟩
 rw [← fwsV_append,List.length_append]
 exact hrow
theorem brk_few15 {x:Cx} (hf:FewR x) (r:Int):(brk x r).length ≤ 1000000:=by
 have h1:=hf.evl; have h2:=hf.val; have h3:=hf.stl
 unfold brk
 split
 ·rw [itemsF_length]; exact Nat.le_trans (twinsTo_length _ _) (by omega)
 split
 ·rw [itemsF_length]; exact Nat.le_trans (twinsTo_length _ _) (by unfold vnC; rw [List.length_map]; omega)
 split
 ·rw [itemsF_length]; exact Nat.le_trans (plTo_length _ _) (by omega)
 split
 ·rw [itemsF_length]; exact Nat.le_trans (twinsTo_length _ _) (by unfold snC; rw [List.length_map]; omega)
 split
 ·rw [itemsF_length]; exact Nat.le_trans (plTo_length _ _) (by omega)
 exact Nat.le_trans (ptTo_length (fun s hs => (hf.sts s hs).2.2) _) (by omega)
def RetOf (W:World) (l:List Fw) (er:Int) (e:Ending) (w':World):Prop:=∃ A n c,e = .returned (.tuple #[.slice A n c,.int .i64 er]) ∧ n = l.length ∧ Fws w' (.slice A n c) l ∧ Below W.heap.size W w'
theorem RowF.retOf {W wr:World} {p:Value} {xs:List Fw} (h:RowF W wr p xs):RetOf W xs 0 (.returned (.tuple #[p,.int .i64 0])) wr:=by
 obtain ⟨A,n,c,rfl,hn⟩:=h.fws.shape
 exact ⟨A,n,c,rfl,hn,h.fws,h.2⟩
def SoRel (W1:World) (F:Nat → List Fw) (p i:Value) (wr:World):Prop:=∃ k:Nat,k ≤ 10 ∧ i = .int .i64 ((k:Int) + 1) ∧ Hid (RowF W1 wr p (F k))
def ofF (x:Cx):List Fw:=if mayC x = true then flawsC x else []
def ofE (x:Cx):Int:=if mayC x = true then 0 else 1
section
variable (x:Cx) (eA:Option Addr) (en ec:Nat) (vA:Option Addr) (vn vc:Nat) (sA:Option Addr) (sn sc:Nat) (w:World) (h:ChIn w (.slice eA en ec) (.slice vA vn vc) (.slice sA sn sc) x) (hm:FitM x) (hf:FewR x)
include h hm hf
set_option maxRecDepth 100000 in
set_option maxHeartbeats 8000000 in
theorem sof_any:Calls Tryz.prog 6 #[.agg #[.string x.s,.slice eA en ec,.slice vA vn vc,.slice sA sn sc]] w (RetOf w (ofF x) (ofE x)):=by
 obtain ⟨hvn,-⟩:=h.vars.len
 obtain ⟨_,_,_,heq,hen,-,-⟩:=Rd.strs h.evs
 cases heq
 have e1:=hf.evl; have e2:=hf.val
 have HCK:=Lib.hid (fun W (hW:Below w.heap.size w W) => pcheck_any x eA en ec vA vn vc sA sn sc W (h.keep hW) hm (by omega) (by omega))
 have HBR:=Lib.hid (fun (hc:mayC x = true) (r:Int) W (hW:Below w.heap.size w W) => rbroken_any x eA en ec vA vn vc sA sn sc W (h.keep hW) hf (mayR_of hc).2 r)
 have HBL:Hid (∀ k,(allTo x k).length ≤ k * 1000000):=Lib.hid (fun k => allTo_length (n:=1000000) (fun r => brk_few15 hf r) k)
 have HBF:Hid (∀ r,(brk x r).length ≤ 1000000):=Lib.hid (fun r => brk_few15 hf r)
 obtain ⟨i0,hi,hz0,hz1,hz2⟩:=info_parts inf_flaw
 have HI:=Lib.hid (And.intro hi (And.intro hz0 (And.intro hz1 hz2)))
 obtain ⟨nm,hnm⟩:∃ nm,nm = x.s:=⟨_,rfl⟩
 rw [← hnm] at HCK HBR ⊢
 obtain ⟨W1,hW1⟩:∃ W1,w.alloc (.cells #[.string nm,.slice eA en ec,.slice vA vn vc,.slice sA sn sc] 26) = W1:=⟨_,rfl⟩
 have hb1:Below w.heap.size w W1:=by rw [← hW1]; exact KitC.below_one _ _
 have hk1:W1.heap[w.heap.size]? = some (.cells #[.string nm,.slice eA en ec,.slice vA vn vc,.slice sA sn sc] 26):=by rw [← hW1]; exact heap_alloc_new _ _
 have HK:=Lib.hid (fun W (hW:Below W1.heap.size W1 W) => KitC.block_on hk1 hW)
 have HW1:=Lib.hid hW1
 have HB1:=Lib.hid hb1
 obtain ⟨c0,c1,c2,c3⟩:=cells_4 hk1
 cases hmc:mayC x with
 | false =>
   rw [hmc] at HCK
   have HE:Hid (ofF x = [] ∧ ofE x = 1):=Lib.hid ⟨by unfold ofF; rw [hmc]; rfl,by unfold ofE; rw [hmc]; rfl⟩
   rw [HE.out.1,HE.out.2]
   clear h hm hf hvn hen e1 e2 hnm hW1 hb1 hk1 hmc HBR HBL HBF hi hz0 hz1 hz2
   go_enter Tryz.func6,Tryz.ntmps6
   go_wp2_with (rw [HW1.out]; go_at_call 16; go_fit (HCK.out _ HB1.out))
   rintro e w2 ⟨rfl,hb⟩
   have HB2:=Lib.hid (below_two' HB1.out hb)
   clear hb c0 c1 c2 c3
   go_wp2_with fail
   go_ret2
   exact ⟨none,0,0,rfl,rfl,Rdk.nil 3 _,HB2.out⟩
 | true =>
   rw [hmc] at HCK
   have HE:Hid (ofF x = flawsC x ∧ ofE x = 0):=Lib.hid ⟨by unfold ofF; rw [hmc]; rfl,by unfold ofE; rw [hmc]; rfl⟩
   rw [HE.out.1,HE.out.2]
   have HBR:=Lib.hid (HBR.out hmc)
   obtain ⟨F,hF⟩:∃ F:Nat → List Fw,F = allTo x:=⟨_,rfl⟩
   obtain ⟨B,hB⟩:∃ B:Int → List Fw,B = brk x:=⟨_,rfl⟩
   have HNX:Hid (∀ k:Nat,F (k + 1) = F k ++ B ((k:Int) + 1)):=Lib.hid (fun k => by rw [hF,hB]; rfl)
   have HF0:Hid (F 0 = []):=Lib.hid (by rw [hF]; rfl)
   rw [show flawsC x = F 10 by rw [hF]; rfl]
   rw [← hF] at HBL
   rw [← hB] at HBR HBF
   clear h hm hf hvn hen e1 e2 hnm hW1 hb1 hk1 hmc hF hB hi hz0 hz1 hz2
   go_enter Tryz.func6,Tryz.ntmps6
   go_wp2_with (rw [HW1.out]; go_at_call 16; go_fit (HCK.out _ HB1.out))
   rintro e w2 ⟨rfl,hb⟩
   have HB2:=Lib.hid hb
   clear hb c0 c1 c2 c3
   go_wp2_with fail
   go_loopw [5,6] (fun p i wr => SoRel W1 F p i wr) (fun _ i _ => 11 - (intOf i).toNat)
   case atStart => exact ⟨0,Nat.zero_le _,rfl,Lib.hid (by rw [HF0.out]; exact RowF.nil _ _ HB2.out)⟩
   case round =>
    obtain ⟨k,hk,rfl,HR⟩:=hrel
    by_cases hlt:k < 10
    case neg =>
     obtain rfl:k = 10:=by omega
     go_wp2_with fail
     go_ret2
     obtain ⟨A,n,cp,he,hn,hfw,hbw⟩:=HR.out.retOf
     exact ⟨A,n,cp,he,hn,hfw,below_two' HB1.out hbw⟩
    have hkI:(k:Int) + 1 < 11:=by omega
    have hkl:(k:Int) ≤ 64:=by omega
    obtain ⟨c0,c1,c2,c3⟩:=cells_4 (HK.out _ HR.out.below)
    have hws:w.heap.size < wr.heap.size:=(Array.getElem?_eq_some_iff.1 (HK.out _ HR.out.below)).1
    go_wp2_with (go_at_call 17; go_fit (HBR.out ((k:Int) + 1) _ (below_two' HB1.out HR.out.below)))
    rintro e w5 ⟨A,n,cp,rfl,hn,hfw,hb⟩
    have HR5:=Lib.hid (HR.out.keep hb)
    have HF5:=Lib.hid hfw
    have HN:=Lib.hid hn
    have hl1:=HBL.out k
    have hl2:=HBF.out ((k:Int) + 1)
    have HL1:Hid ((F k).length + (B ((k:Int) + 1)).length ≤ maxLen):=Lib.hid (by simp only [maxLen]; omega)
    have HL2:Hid (((F k).length + (B ((k:Int) + 1)).length) * 24 ≤ 140737488355328):=Lib.hid (by omega)
    have HSZ:Hid (W1.heap.size ≤ w5.heap.size):=Lib.hid HR5.out.below.size
    clear hb hfw hn c0 c1 c2 c3 hws hl1 hl2
    go_wp2_with (at_builtin; refine wpList_append_rdk _ rfl (.tmp 16) (.tmp 19) _ rfl W1.heap.size 56 i0 (.agg #[.int .i64 0,.int .i64 0,.int .i64 0]) 3 24 Tryz.underlying29 HI.out.1 HI.out.2.1 HI.out.2.2.1 HI.out.2.2.2 rfl (by decide) _ _ _ rfl HR5.out.1 _ _ _ rfl HF5.out (fwsV_one _) HL1.out HL2.out HSZ.out ?_; intro p2 w6 hrow2 hg2 hob; have HR2:=Lib.hid (RowF.addL HR5.out hrow2 hg2); clear hrow2 hg2 hob)
    go_roundw
    case rel => exact ⟨k + 1,hlt,by go_num,Lib.hid (by rw [HNX.out]; exact HR2.out)⟩
    case measure => simp [intOf]; omega
theorem sis_any:Calls Tryz.prog 7 #[.agg #[.string x.s,.slice eA en ec,.slice vA vn vc,.slice sA sn sc]] w (RetB w (soundC x)):=by
 have HOF:=Lib.hid (fun W (hW:Below w.heap.size w W) => sof_any x eA en ec vA vn vc sA sn sc W (h.keep hW) hm hf)
 have HS:Hid (soundC x = ((ofE x == 0) && decide ((ofF x).length = 0))):=Lib.hid (by
  unfold soundC ofE ofF
  cases mayC x <;> rfl)
 rw [HS.out]
 have HE:Hid (ofE x = 0 ∨ ofE x = 1):=Lib.hid (by unfold ofE; split <;> simp)
 obtain ⟨er,her⟩:∃ er,er = ofE x:=⟨_,rfl⟩
 obtain ⟨fl,hfl⟩:∃ fl,fl = ofF x:=⟨_,rfl⟩
 obtain ⟨nm,hnm⟩:∃ nm,nm = x.s:=⟨_,rfl⟩
 rw [← her,← hfl,← hnm] at HOF
 rw [← her] at HE
 rw [← her,← hfl,← hnm]
 clear h hm hf her hfl hnm HS
 rcases HE.out with rfl | rfl
 all_goals
  go_enter Tryz.func7,Tryz.ntmps7
  go_wp2_with (go_at_call 6; go_fit (HOF.out _ (KitC.below_one _ _)))
  rintro e w2 ⟨A,n,c,rfl,hn,hfw,hb2⟩
  have HB2:=Lib.hid (below_two' (KitC.below_one _ _) hb2)
  have HN:=Lib.hid hn
  clear hn hfw hb2
  go_wp2_with fail
  go_ret
  exact ⟨ret_bool (by rw [← HN.out,Bool.eq_iff_iff]; simp),HB2.out⟩
end
end Go.Proofs.YtejbpleghjgpbaaGreatDoor
namespace Go.Proofs.YtejbpleghjgpbaaGreatDoor
open Go.RowKit Go.ChangeShapes Go.WideShapes Go.Deep
theorem cell_there' {w:World} {b o:Nat} {u:Value} (h:w.cell? ⟨b,o,none⟩ = some u):b < w.heap.size:=by
 rcases Nat.lt_or_ge b w.heap.size with hlt | hge
 ·exact hlt
 ·simp [World.cell?,Array.getElem?_eq_none hge] at h
theorem list_of {α:Type} {R:Nat → α → Prop}:∀ n,(∀ i,i < n → ∃ a,R i a) → ∃ l:List α,l.length = n ∧ ∀ i a,l[i]? = some a → R i a
 | 0,_ => ⟨[],rfl,fun i a h => by simp at h⟩
 | n + 1,h => by
   obtain ⟨l,hl,hR⟩:=list_of n (fun i hi => h i (by omega))
   obtain ⟨a,ha⟩:=h n (by omega)
   refine ⟨l ++ [a],by simp [hl],fun i b hb => ?_⟩
   rcases Nat.lt_or_ge i l.length with hlt | hge
   ·rw [List.getElem?_append_left hlt] at hb
    exact hR i b hb
   ·rw [List.getElem?_append_right hge] at hb
    obtain hi:i - l.length = 0:=by
     have:=(List.getElem?_eq_some_iff.1 hb).1
     simp at this
     omega
    rw [hi] at hb
    simp at hb
    subst hb
    obtain rfl:i = n:=by omega
    exact ha
theorem flat_at {α:Type} {k:Nat} {f:α → List Value} (hf:∀ a,(f a).length = k) (hk:0 < k) {l:List α} {q:Nat} {u:Value} (h:(l.flatMap f)[q]? = some u):∃ a,l[q / k]? = some a ∧ (f a)[q % k]? = some u:=by
 have hq:q < l.length * k:=by have:=(List.getElem?_eq_some_iff.1 h).1; rwa [flat_length hf] at this
 have hi:q / k < l.length:=Nat.div_lt_of_lt_mul (by rwa [Nat.mul_comm] at hq)
 refine ⟨l[q / k],List.getElem?_eq_getElem hi,?_⟩
 rw [← flat_get hf (List.getElem?_eq_getElem hi) (Nat.mod_lt q hk),Nat.mul_comm (q / k) k,Nat.div_add_mod]
 exact h
end Go.Proofs.YtejbpleghjgpbaaGreatDoor
namespace Go.Proofs.YtejbpleghjgpbaaGreatDoor
namespace OpenD
open Go.RowKit Go.ChangeShapes Go.WideShapes Go.Deep
set_option maxRecDepth 100000
theorem cells_int:Tryz.prog.cellsOf 3 = 1:=by kernel_rfl
theorem cells_str:Tryz.prog.cellsOf 9 = 1:=by kernel_rfl
section
variable {H:Type} {enc:TypeId × Value → H} {W:World} {base:Nat} {spare:Nat → Bool} {held:Bool}
theorem dec_int {n:Nat} {c:Value} {x:Option (DataW H × List MemPlace)} (h:DataW.trod enc Tryz.prog W base spare held n 3 [c] = x) (hx:x.isSome):∃ k,c = .int .i64 k:=by
 obtain ⟨y,rfl⟩:=Option.isSome_iff_exists.1 hx
 obtain ⟨k,hc,_⟩:=DataW.trod_int Tryz.underlying3 h
 simp at hc
 exact ⟨k,hc⟩
theorem dec_str {n:Nat} {c:Value} {x:Option (DataW H × List MemPlace)} (h:DataW.trod enc Tryz.prog W base spare held n 9 [c] = x) (hx:x.isSome):∃ s:ByteArray,c = .string s ∧ s.size ≤ 9223372036854775807:=by
 obtain ⟨y,rfl⟩:=Option.isSome_iff_exists.1 hx
 obtain ⟨s,hc,_,hs⟩:=DataW.trod_string Tryz.underlying9 h
 simp at hc
 exact ⟨s,hc,hs⟩
theorem some_at {α:Type} {l:List α} {i:Nat} (h:i < l.length):(l[i]?).isSome:=by rw [List.getElem?_eq_getElem h]; rfl
end
end OpenD
end Go.Proofs.YtejbpleghjgpbaaGreatDoor
namespace Go.Proofs.YtejbpleghjgpbaaGreatDoor
open Go.RowKit Go.ChangeShapes Go.WideShapes Go.Deep TermSpec OpenD
set_option maxRecDepth 100000
theorem cells_term:Tryz.prog.cellsOf 61 = 3:=by kernel_rfl
section
variable {H:Type} {enc:TypeId × Value → H} {W:World} {base:Nat} {spare:Nat → Bool} {held:Bool}
theorem dec_term (n:Nat) (cs:List Value) (x:DataW H × List MemPlace) (h:DataW.trod enc Tryz.prog W base spare held n 61 cs = some x):∃ t:Tm,cs = tmV t ∧ t.s.size ≤ 9223372036854775807:=by
 obtain ⟨xs,m,_,_,hl,hxl,hg⟩:=DataW.trod_struct Tryz.underlying61 h
 rw [cells_term] at hl
 have hxl':xs.length = 3:=hxl
 match cs,hl with
 | [c0,c1,c2],_ =>
   have g0:DataW.trod enc Tryz.prog W base spare held m 3 (([c0,c1,c2].drop 0).take (Tryz.prog.cellsOf 3)) = xs[0]?:=hg 0 _ rfl
   have g1:DataW.trod enc Tryz.prog W base spare held m 3 (([c0,c1,c2].drop 1).take (Tryz.prog.cellsOf 3)) = xs[1]?:=hg 1 _ rfl
   have g2:DataW.trod enc Tryz.prog W base spare held m 9 (([c0,c1,c2].drop 2).take (Tryz.prog.cellsOf 9)) = xs[2]?:=hg 2 _ rfl
   rw [OpenD.cells_int] at g0 g1
   rw [OpenD.cells_str] at g2
   obtain ⟨a,rfl⟩:=OpenD.dec_int g0 (OpenD.some_at (by omega))
   obtain ⟨b,rfl⟩:=OpenD.dec_int g1 (OpenD.some_at (by omega))
   obtain ⟨s,rfl,hs⟩:=OpenD.dec_str g2 (OpenD.some_at (by omega))
   exact ⟨⟨a,b,s⟩,rfl,hs⟩
variable {b0:Nat} {r:Reach} {v:Value} {d:DataW H} {p:List MemPlace}
end
end Go.Proofs.YtejbpleghjgpbaaGreatDoor
namespace Go.Proofs.YtejbpleghjgpbaaGreatDoor
open Go.RowKit Go.ChangeShapes Go.WideShapes Go.Deep TermSpec EvalSpec
set_option maxRecDepth 100000
theorem open_rows_c {α:Type} {f:α → List Value} {Good:α → Prop} {k:Nat} {H:Type} {enc:TypeId × Value → H} {P:Program} {W:World} {base:Nat} {spare:Nat → Bool} {held:Bool} {fuel:Nat} {t e:TypeId} {v:Value} {x:DataW H × List MemPlace}
 (hf:∀ a,(f a).length = k) (hk0:0 < k) (hk:P.cellsOf e = k) (hu:P.underlying t = some (.slice e))
 (hdec:∀ n cs x,DataW.trod enc P W base spare held n e cs = some x → ∃ a,cs = f a ∧ Good a)
 (h:DataW.trod enc P W base spare held fuel t [v] = some x) :
 ∃ (A:Option Addr) (n cp:Nat) (l:List α),v = .slice A n cp ∧ n = l.length ∧ Rdk k W (.slice A n cp) n (l.flatMap f) ∧ (∀ a ∈ l,Good a) ∧ n ≤ 9223372036854775807:=by
 rcases open_slice hu h with ⟨hcs,_⟩ | ⟨a,len,cap,m,n,D,Pl,hcs,hb,hl,hm,hmm,_,hi⟩
 ·cases hcs
  exact ⟨none,0,0,[],rfl,rfl,Rdk.nil k W,by simp,by omega⟩
 ·cases hcs
  rw [hk] at hi
  have hlm:len ≤ m:=by rw [hmm]; split <;> omega
  obtain ⟨l,hll,hR⟩:=list_of (R:=fun i (x:α) => (∀ j,j < k → W.cell? ((a.add (i * k)).add j) = (f x)[j]?) ∧ Good x) len (fun i hlt => by
   obtain ⟨cs',hc,ht⟩:=hi i (by omega)
   obtain ⟨x,rfl,hg⟩:=hdec _ _ _ ht
   obtain ⟨_,_,hat⟩:=World.cells?_some hc
   exact ⟨x,hat,hg⟩)
  refine ⟨some a,len,cap,l,rfl,hll.symm,⟨some a,cap,rfl,hl,by rw [flat_length hf,hll],fun h0 => ?_⟩,fun x hx => ?_,by unfold maxLen at hm; omega⟩
  ·obtain ⟨x,hx0⟩:∃ x,l[0]? = some x:=get_some (by omega)
   obtain ⟨u,hu0⟩:∃ u,(f x)[0]? = some u:=get_some (by rw [hf]; exact hk0)
   obtain ⟨b,off,spot⟩:=a
   have h00:=(hR 0 x hx0).1 0 hk0
   rw [hu0] at h00
   have hspot:spot = none:=by simpa [Addr.add] using World.cell?_spot h00
   subst hspot
   rw [addr_add,addr_add] at h00
   refine ⟨b,off,rfl,cell_there' h00,fun q u hq => ?_⟩
   obtain ⟨y,hy,hu⟩:=flat_at hf hk0 hq
   have:=(hR _ y hy).1 (q % k) (Nat.mod_lt q hk0)
   rw [addr_add,addr_add,Nat.add_assoc,Nat.mul_comm (q / k) k,Nat.div_add_mod,hu] at this
   exact this
  ·obtain ⟨i,hi⟩:=List.mem_iff_getElem?.1 hx
   exact (hR i x hi).2
theorem cells_var:Tryz.prog.cellsOf 37 = 4:=by kernel_rfl
section
variable {H:Type} {enc:TypeId × Value → H} {W:World} {base:Nat} {spare:Nat → Bool} {held:Bool}
variable {b0:Nat} {r:Reach} {v:Value} {d:DataW H} {p:List MemPlace}
end
end Go.Proofs.YtejbpleghjgpbaaGreatDoor
namespace Go.Proofs.YtejbpleghjgpbaaGreatDoor
open Go.RowKit Go.ChangeShapes Go.WideShapes Go.Deep TermSpec EvalSpec ActSpec
set_option maxRecDepth 100000
theorem cells_act:Tryz.prog.cellsOf 59 = 3:=by kernel_rfl
theorem cells_bool:Tryz.prog.cellsOf 4 = 1:=by kernel_rfl
theorem cells_trms:Tryz.prog.cellsOf 43 = 1:=by kernel_rfl
theorem wf_i64 {n:Int} (h:(Lit.int .i64 n).wf = true):-9223372036854775808 ≤ n ∧ n ≤ 9223372036854775807:=by
 have e1:IntKind.i64.min = -9223372036854775808:=by kernel_rfl
 have e2:IntKind.i64.max = 9223372036854775807:=by kernel_rfl
 simp [Lit.wf,e1,e2] at h
 exact h
section
variable {H:Type} {enc:TypeId × Value → H} {W:World} {base:Nat} {spare:Nat → Bool} {held:Bool}
theorem dec_int_fit {n:Nat} {c:Value} {x:Option (DataW H × List MemPlace)} (h:DataW.trod enc Tryz.prog W base spare held n 3 [c] = x) (hx:x.isSome):∃ k,c = .int .i64 k ∧ -9223372036854775808 ≤ k ∧ k ≤ 9223372036854775807:=by
 obtain ⟨y,rfl⟩:=Option.isSome_iff_exists.1 hx
 obtain ⟨k,hc,_,hw⟩:=DataW.trod_int Tryz.underlying3 h
 simp at hc
 exact ⟨k,hc,wf_i64 hw⟩
theorem dec_bool {n:Nat} {c:Value} {x:Option (DataW H × List MemPlace)} (h:DataW.trod enc Tryz.prog W base spare held n 4 [c] = x) (hx:x.isSome):∃ b,c = .bool b:=by
 obtain ⟨y,rfl⟩:=Option.isSome_iff_exists.1 hx
 obtain ⟨k,hc,_⟩:=DataW.trod_bool Tryz.underlying4 h
 simp at hc
 exact ⟨k,hc⟩
def GoodAP (W:World) (p:AP):Prop:=p.a.s.size ≤ 9223372036854775807 ∧ Small p.a.x ∧ p.a.x.length ≤ 9223372036854775807 ∧ Tms W (.slice p.xA p.xn p.xc) p.a.x
theorem dec_act (n:Nat) (cs:List Value) (x:DataW H × List MemPlace) (h:DataW.trod enc Tryz.prog W base spare held n 59 cs = some x):∃ p:AP,cs = acV p ∧ GoodAP W p:=by
 obtain ⟨xs,m,_,_,hl,hxl,hg⟩:=DataW.trod_struct Tryz.underlying59 h
 rw [cells_act] at hl
 have hxl':xs.length = 3:=hxl
 match cs,hl with
 | [c0,c1,c2],_ =>
   have g0:DataW.trod enc Tryz.prog W base spare held m 9 (([c0,c1,c2].drop 0).take (Tryz.prog.cellsOf 9)) = xs[0]?:=hg 0 _ rfl
   have g1:DataW.trod enc Tryz.prog W base spare held m 4 (([c0,c1,c2].drop 1).take (Tryz.prog.cellsOf 4)) = xs[1]?:=hg 1 _ rfl
   have g2:DataW.trod enc Tryz.prog W base spare held m 43 (([c0,c1,c2].drop 2).take (Tryz.prog.cellsOf 43)) = xs[2]?:=hg 2 _ rfl
   rw [OpenD.cells_str] at g0
   rw [cells_bool] at g1
   rw [cells_trms] at g2
   obtain ⟨s,rfl,hs⟩:=OpenD.dec_str g0 (OpenD.some_at (by omega))
   obtain ⟨b,rfl⟩:=dec_bool g1 (OpenD.some_at (by omega))
   obtain ⟨y2,e2⟩:=Option.isSome_iff_exists.1 (OpenD.some_at (l:=xs) (i:=2) (by omega))
   rw [e2] at g2
   obtain ⟨A,k,cp,l,rfl,hn,hR,hG,hb⟩:=open_rows_c (v:=c2) (f:=tmV) (Good:=fun t => t.s.size ≤ 9223372036854775807) tmV_length (by decide) cells_term Tryz.underlying43 dec_term g2
   exact ⟨⟨⟨s,b,l⟩,A,k,cp⟩,rfl,hs,hG,by simp only; omega,⟨k,hn,hR⟩⟩
variable {b0:Nat} {r:Reach} {v:Value} {d:DataW H} {p:List MemPlace}
end
end Go.Proofs.YtejbpleghjgpbaaGreatDoor
namespace Go.Proofs.YtejbpleghjgpbaaGreatDoor
open Go.RowKit Go.ChangeShapes Go.WideShapes Go.Deep RulesSpec
set_option maxRecDepth 100000
def FwFit (f:Fw):Prop:=(-9223372036854775808 ≤ f.r ∧ f.r ≤ 9223372036854775807) ∧ (-9223372036854775808 ≤ f.i ∧ f.i ≤ 9223372036854775807) ∧ -9223372036854775808 ≤ f.p ∧ f.p ≤ 9223372036854775807
section
variable {H:Type} {enc:TypeId × Value → H} {W:World} {base:Nat} {spare:Nat → Bool} {held:Bool}
variable {b0:Nat} {r:Reach} {v:Value} {d:DataW H} {p:List MemPlace}
end
end Go.Proofs.YtejbpleghjgpbaaGreatDoor
namespace Go.Proofs.YtejbpleghjgpbaaGreatDoor
open Go.RowKit NamesSpec RulesSpec SoundSpec
set_option maxRecDepth 100000
def swordsV:Array Value:=#[.string ⟨#[]⟩,.string ⟨#[101,118,101,110,116]⟩,.string ⟨#[118,97,114]⟩,.string ⟨#[114,97,110,103,101]⟩,.string ⟨#[110,97,109,101]⟩,.string ⟨#[107,105,100,115]⟩,.string ⟨#[111,110]⟩,.string ⟨#[116,97,114,103,101,116]⟩,.string ⟨#[103,117,97,114,100]⟩,.string ⟨#[97,99,116,115]⟩,.string ⟨#[101,100,103,101]⟩]
def SwIn (w:World):Prop:=∃ T fr,w.heap[0]? = some (.cells swordsV T fr)
theorem SwIn.pos {w:World} (h:SwIn w):0 < w.heap.size:=by
 obtain ⟨T,fr,h⟩:=h
 exact (Array.getElem?_eq_some_iff.1 h).1
theorem SwIn.keep {w w':World} (h:SwIn w) (hb:Below w.heap.size w w'):SwIn w':=by
 have hp:=h.pos
 obtain ⟨T,fr,h⟩:=h
 exact ⟨T,fr,(hb.block _ hp).trans h⟩
theorem SwIn.cell {w:World} (h:SwIn w) {i:Nat} {v:Value} (hi:swordsV[i]? = some v):w.cell? ⟨0,i,none⟩ = some v:=by
 obtain ⟨T,fr,h⟩:=h
 simp [World.cell?,h,hi]
def RetW15 (w:World) (s:ByteArray) (e:Ending) (w':World):Prop:=e = .returned (.string s) ∧ w = w'
def RetW15B (w:World) (s:ByteArray) (e:Ending) (w':World):Prop:=e = .returned (.string s) ∧ Below w.heap.size w w'
theorem wordR_other {r:Int} (h:r < 1 ∨ 10 < r):wordR r = ⟨#[]⟩:=by unfold wordR; rw [if_neg (by omega)]
set_option maxHeartbeats 4000000 in
theorem word_any15 (r:Int) (w:World) (hp:SwIn w):Calls Tryz.prog 44 #[.int .i64 r] w (RetW15 w (wordR r)):=by
 have hp0:=hp.pos
 by_cases h0:r < 0
 ·have HE:=Lib.hid (wordR_other (r:=r) (.inl (by omega)))
  go_enter Tryz.func44,Tryz.ntmps44
  go_wp2_with fail
  go_ret
  exact ⟨by rw [HE.out]; rfl,rfl⟩
 by_cases h1:11 ≤ r
 ·have HE:=Lib.hid (wordR_other (r:=r) (.inr (by omega)))
  go_enter Tryz.func44,Tryz.ntmps44
  go_wp2_with fail
  go_ret
  exact ⟨by rw [HE.out]; rfl,rfl⟩
 rcases (show r = 0 ∨ r = 1 ∨ r = 2 ∨ r = 3 ∨ r = 4 ∨ r = 5 ∨ r = 6 ∨ r = 7 ∨ r = 8 ∨ r = 9 ∨ r = 10 by omega) with rfl | rfl | rfl | rfl | rfl | rfl | rfl | rfl | rfl | rfl | rfl
 ·have c0:=hp.cell (i:=0) rfl
  go_enter Tryz.func44,Tryz.ntmps44
  go_wp2_with fail
  go_ret
  exact ⟨rfl,rfl⟩
 ·have c0:=hp.cell (i:=1) rfl
  go_enter Tryz.func44,Tryz.ntmps44
  go_wp2_with fail
  go_ret
  exact ⟨rfl,rfl⟩
 ·have c0:=hp.cell (i:=2) rfl
  go_enter Tryz.func44,Tryz.ntmps44
  go_wp2_with fail
  go_ret
  exact ⟨rfl,rfl⟩
 ·have c0:=hp.cell (i:=3) rfl
  go_enter Tryz.func44,Tryz.ntmps44
  go_wp2_with fail
  go_ret
  exact ⟨rfl,rfl⟩
 ·have c0:=hp.cell (i:=4) rfl
  go_enter Tryz.func44,Tryz.ntmps44
  go_wp2_with fail
  go_ret
  exact ⟨rfl,rfl⟩
 ·have c0:=hp.cell (i:=5) rfl
  go_enter Tryz.func44,Tryz.ntmps44
  go_wp2_with fail
  go_ret
  exact ⟨rfl,rfl⟩
 ·have c0:=hp.cell (i:=6) rfl
  go_enter Tryz.func44,Tryz.ntmps44
  go_wp2_with fail
  go_ret
  exact ⟨rfl,rfl⟩
 ·have c0:=hp.cell (i:=7) rfl
  go_enter Tryz.func44,Tryz.ntmps44
  go_wp2_with fail
  go_ret
  exact ⟨rfl,rfl⟩
 ·have c0:=hp.cell (i:=8) rfl
  go_enter Tryz.func44,Tryz.ntmps44
  go_wp2_with fail
  go_ret
  exact ⟨rfl,rfl⟩
 ·have c0:=hp.cell (i:=9) rfl
  go_enter Tryz.func44,Tryz.ntmps44
  go_wp2_with fail
  go_ret
  exact ⟨rfl,rfl⟩
 ·have c0:=hp.cell (i:=10) rfl
  go_enter Tryz.func44,Tryz.ntmps44
  go_wp2_with fail
  go_ret
  exact ⟨rfl,rfl⟩
theorem wordR_cases (r:Int):(wordR r = ⟨#[]⟩ ∧ lineR r = ⟨#[63]⟩) ∨ (¬ (wordR r).size = 0 ∧ lineR r = wordR r):=by
 by_cases h:1 ≤ r ∧ r ≤ 10
 ·right
  refine ⟨?_,by unfold lineR; rw [if_pos h]⟩
  rcases (show r = 1 ∨ r = 2 ∨ r = 3 ∨ r = 4 ∨ r = 5 ∨ r = 6 ∨ r = 7 ∨ r = 8 ∨ r = 9 ∨ r = 10 by omega) with rfl | rfl | rfl | rfl | rfl | rfl | rfl | rfl | rfl | rfl <;> decide
 ·left
  exact ⟨wordR_other (by omega),by unfold lineR; rw [if_neg h]⟩
end Go.Proofs.YtejbpleghjgpbaaGreatDoor
namespace Go.Proofs.YtejbpleghjgpbaaGreatDoor
open Go.RowKit Go.Sort NamesSpec RulesSpec SoundSpec
set_option maxRecDepth 100000
set_option maxRecDepth 100000 in
set_option maxHeartbeats 8000000 in
theorem line_any15 (f:Fw) (w:World) (hp:SwIn w) (hf:FwFit f):Calls Tryz.prog 25 #[.agg #[.int .i64 f.r,.int .i64 f.i,.int .i64 f.p]] w (RetW15B w (lineF f)):=by
 obtain ⟨r,a,b⟩:=f
 obtain ⟨-,⟨ha1,ha2⟩,hb1,hb2⟩:=hf
 simp only at ha1 ha2 hb1 hb2 ⊢
 obtain ⟨W1,hW1⟩:∃ W1,w.alloc (.cells #[.int .i64 r,.int .i64 a,.int .i64 b] 56) = W1:=⟨_,rfl⟩
 have hb1':Below w.heap.size w W1:=by rw [← hW1]; exact KitC.below_one _ _
 have hk1:W1.heap[w.heap.size]? = some (.cells #[.int .i64 r,.int .i64 a,.int .i64 b] 56):=by rw [← hW1]; exact heap_alloc_new _ _
 have HK:=Lib.hid (fun W (hW:Below W1.heap.size W1 W) => KitC.block_on hk1 hW)
 have HW:=Lib.hid (word_any15 r W1 (hp.keep hb1'))
 have HA:=Lib.hid (fun W => put_any a W ha1 ha2)
 have HB:=Lib.hid (fun W => put_any b W hb1 hb2)
 have HW1:=Lib.hid hW1
 have HB1:=Lib.hid hb1'
 obtain ⟨c0,c1,c2⟩:=cells_3 hk1
 obtain ⟨ta,hta⟩:∃ ta:ByteArray,ta = ⟨(ValSpec.text a).toArray⟩:=⟨_,rfl⟩
 obtain ⟨tb,htb⟩:∃ tb:ByteArray,tb = ⟨(ValSpec.text b).toArray⟩:=⟨_,rfl⟩
 rw [← hta] at HA
 rw [← htb] at HB
 have hsa:ta.size ≤ 20:=by rw [hta]; exact ptext_size a ha1 ha2
 have hsb:tb.size ≤ 20:=by rw [htb]; exact ptext_size b hb1 hb2
 have HL:Hid (lineF ⟨r,a,b⟩ = lineR r ++ ⟨#[32]⟩ ++ ta ++ ⟨#[32]⟩ ++ tb):=Lib.hid (by rw [hta,htb]; rfl)
 rw [HL.out]
 have hdr:Below W1.heap.size W1 W1.drew:=(Below.refl _ _).drew
 obtain ⟨lw,hlw⟩:∃ lw,lw = lineR r:=⟨_,rfl⟩
 obtain ⟨ww,hww⟩:∃ ww,ww = wordR r:=⟨_,rfl⟩
 have HC:=Lib.hid (wordR_cases r)
 have hsl:lw.size ≤ 6:=by rw [hlw]; exact lineR_size r
 have t1:¬ 9223372036854775807 < lw.size + 1:=by omega
 have t2:¬ 9223372036854775807 < lw.size + 1 + ta.size:=by omega
 have t3:¬ 9223372036854775807 < lw.size + 1 + ta.size + 1:=by omega
 have t4:¬ 9223372036854775807 < lw.size + 1 + ta.size + 1 + tb.size:=by omega
 rw [← hlw,← hww] at HC
 rw [← hww] at HW
 rw [← hlw]
 clear hp ha1 ha2 hb1 hb2 hta htb hW1 hb1' hk1 HL hlw hww
 rcases HC.out with ⟨rfl,rfl⟩ | ⟨e0,rfl⟩
 ·have t2':¬ 9223372036854775807 < 2 + ta.size:=by omega
  have t3':¬ 9223372036854775807 < 2 + ta.size + 1:=by omega
  have t4':¬ 9223372036854775807 < 2 + ta.size + 1 + tb.size:=by omega
  go_enter Tryz.func25,Tryz.ntmps25
  go_wp2_with (rw [HW1.out]; go_at_call 44; go_fit HW.out)
  rintro e w2 ⟨rfl,rfl⟩
  go_wp2_with fail
  go_region_held3 (fun w' => w'.cell? ⟨w.heap.size,0,none⟩ = some (.int .i64 r) ∧ w'.cell? ⟨w.heap.size,1,none⟩ = some (.int .i64 a) ∧ w'.cell? ⟨w.heap.size,2,none⟩ = some (.int .i64 b)) (go_keep)
   ((first
     | (go_at_call 45; (with_reducible refine (HA.out _).mono ?_); rintro e y1 ⟨rfl,hb1⟩; have f1:=below_two' hdr hb1; obtain ⟨x10,x11,x12⟩:=cells_3 (HK.out _ f1))
     | (go_at_call 45; (with_reducible refine (HB.out _).mono ?_); rintro e y2 ⟨rfl,hb2⟩; have f2:=below_two' f1 hb2; obtain ⟨x20,x21,x22⟩:=cells_3 (HK.out _ f2))))
  all_goals
   have HBE:=Lib.hid (below_two' HB1.out f2)
   clear hb1 hb2 f1 f2
   go_wp2_with fail
   go_ret
   exact ⟨rfl,HBE.out⟩
 ·obtain ⟨g1,g2,g3,g4⟩:=full_facts e0
  clear e0 HC
  go_enter Tryz.func25,Tryz.ntmps25
  go_wp2_with (rw [HW1.out]; go_at_call 44; go_fit HW.out)
  rintro e w2 ⟨rfl,rfl⟩
  go_wp2_with fail
  go_region_held3 (fun w' => w'.cell? ⟨w.heap.size,0,none⟩ = some (.int .i64 r) ∧ w'.cell? ⟨w.heap.size,1,none⟩ = some (.int .i64 a) ∧ w'.cell? ⟨w.heap.size,2,none⟩ = some (.int .i64 b)) (go_keep)
   ((first
     | (go_at_call 45; (with_reducible refine (HA.out _).mono ?_); rintro e y1 ⟨rfl,hb1⟩; have f1:=below_two' hdr hb1; obtain ⟨x10,x11,x12⟩:=cells_3 (HK.out _ f1))
     | (go_at_call 45; (with_reducible refine (HB.out _).mono ?_); rintro e y2 ⟨rfl,hb2⟩; have f2:=below_two' f1 hb2; obtain ⟨x20,x21,x22⟩:=cells_3 (HK.out _ f2))))
  all_goals
   have HBE:=Lib.hid (below_two' HB1.out f2)
   clear hb1 hb2 f1 f2
   go_wp2_with fail
   go_ret
   exact ⟨rfl,HBE.out⟩
def LnRel (W:World) (l:List Fw) (n:Nat) (p i:Value) (wr:World):Prop:=∃ k:Nat,k ≤ n ∧ i = .int .i64 k ∧ Hid (RowS W wr p ((l.take k).map lineF))
set_option maxRecDepth 100000 in
set_option maxHeartbeats 8000000 in
theorem lines_any15 (A:Option Addr) (n c:Nat) (l:List Fw) (w:World) (hp:SwIn w) (h:Fws w (.slice A n c) l) (hf:∀ f ∈ l,FwFit f) (hl:n ≤ 1000000) :
 Calls Tryz.prog 15 #[.slice A n c] w (RetStrs w (l.map lineF)):=by
 have HN:=Lib.hid h.len
 have HF:=Lib.hid hf
 have HSW:=Lib.hid (fun W (hW:Below w.heap.size w W) => hp.keep hW)
 have HFW:=Lib.hid (fun W (hW:Below w.heap.size w W) => h.keep hW)
 obtain ⟨i0,hi,hz0,hz1,hz2⟩:=info_parts inf_str
 have HI:=Lib.hid (And.intro hi (And.intro hz0 (And.intro hz1 hz2)))
 clear hp h hf hi hz0 hz1 hz2
 go_enter Tryz.func15,Tryz.ntmps15
 go_wp2_with fail
 go_loopw [3,8] (fun p i wr => LnRel w l n p i wr) (fun _ i _ => n - (intOf i).toNat)
 case atStart => exact ⟨0,Nat.zero_le _,rfl,Lib.hid (RowS.nil _ _ (Below.refl _ _))⟩
 case round =>
  obtain ⟨k,hk,rfl,HR⟩:=hrel
  by_cases hlt:k < n
  case neg =>
   obtain rfl:k = n:=by omega
   have HE:=Lib.hid HR.out
   rw [List.take_of_length_le (by rw [HN.out]; exact Nat.le_refl _)] at HE
   go_wp2_with fail
   go_ret
   exact ⟨_,rfl,HE.out.read,HE.out.2⟩
  have hkI:(k:Int) < n:=by omega
  obtain ⟨f,hx⟩:∃ f,l[k]? = some f:=get_some (by rw [← HN.out]; exact hlt)
  obtain ⟨b,off,rfl,hb,d0,d1,d2⟩:=(HFW.out _ HR.out.2).at_ hx
  have HY:Hid ((l.take (k + 1)).map lineF = (l.take k).map lineF ++ [lineF f]):=Lib.hid (by rw [take_next hx,List.map_append]; rfl)
  have hll:((l.take k).map lineF).length ≤ k:=by rw [List.length_map]; exact List.length_take_le _ _
  have HL1:Hid (((l.take k).map lineF).length + (strV [lineF f]).length ≤ maxLen):=Lib.hid (by simp only [maxLen,strV,List.map_cons,List.map_nil,List.length_cons,List.length_nil]; omega)
  have HL2:Hid ((((l.take k).map lineF).length + (strV [lineF f]).length) * 16 ≤ 140737488355328):=Lib.hid (by simp only [strV,List.map_cons,List.map_nil,List.length_cons,List.length_nil]; omega)
  obtain ⟨W4,hW4⟩:∃ W4,wr.alloc (.cells #[.int .i64 f.r,.int .i64 f.i,.int .i64 f.p] 56) = W4:=⟨_,rfl⟩
  have HB4:=Lib.hid (show Below wr.heap.size wr W4 by rw [← hW4]; exact KitC.below_one _ _)
  have HLN:=Lib.hid (line_any15 f W4 (HSW.out _ (below_two' HR.out.2 HB4.out)) (HF.out f (List.mem_of_getElem? hx)))
  have hk4:W4.heap[wr.heap.size]? = some (.cells #[.int .i64 f.r,.int .i64 f.i,.int .i64 f.p] 56):=by rw [← hW4]; exact heap_alloc_new _ _
  have HW4:=Lib.hid hW4
  obtain ⟨fr,fi,fp⟩:=f
  simp only at d0 d1 d2 hk4 HLN HW4
  obtain ⟨e0,e1,e2⟩:=cells_3 hk4
  obtain ⟨ln,hln⟩:∃ ln,ln = lineF ⟨fr,fi,fp⟩:=⟨_,rfl⟩
  rw [← hln] at HY HL1 HL2 HLN
  clear hx hll hW4 hk4 hln
  go_wp2_with (rw [HW4.out]; go_at_call 25; go_fit HLN.out)
  rintro e w5 ⟨rfl,hb5⟩
  have HR5:=Lib.hid (HR.out.keep (below_two' HB4.out hb5))
  have HSZ:Hid (w.heap.size ≤ w5.heap.size):=Lib.hid HR5.out.2.size
  clear hb5 d0 d1 d2 e0 e1 e2
  go_wp2_with (at_builtin; refine wpList_append_rd _ rfl (.tmp 12) (.tmp 15) _ rfl w.heap.size 9 i0 (.string ByteArray.empty) 16 Tryz.underlying22 HI.out.1 HI.out.2.1 HI.out.2.2.1 HI.out.2.2.2 rfl _ _ _ rfl (own_keep HR5.out.1 (KitC.below_one _ _)) _ (strV [ln]) rfl (lit_here rfl rfl rfl) (strV_one _) HL1.out HL2.out ?_ ?_; (have:=HSZ.out; simp; omega); intro p2 w6 hrow2 hg2 _; have HR2:=Lib.hid (RowS.add HR5.out hrow2 hg2); clear hrow2 hg2)
  go_roundw
  case rel => exact ⟨k + 1,hlt,by simp,Lib.hid (by rw [HY.out]; exact HR2.out)⟩
  case measure => simp [intOf]; omega
end Go.Proofs.YtejbpleghjgpbaaGreatDoor
namespace Go.Proofs.YtejbpleghjgpbaaGreatDoor
open Go.RowKit
theorem rdk_whole {k n c b:Nat} {w:World} {cs:Array Value} {T:TypeId} {fr:Nat × Nat} {xs:List Value} (h:w.heap[b]? = some (.cells cs T fr)) (hx:cs.toList = xs) (hl:xs.length = n * k) (hc:n ≤ c):Rdk k w (.slice (some ⟨b,0,none⟩) n c) n xs:=by
 refine ⟨_,c,rfl,hc,hl,fun _ => ⟨b,0,rfl,(Array.getElem?_eq_some_iff.1 h).1,fun j u hj => ?_⟩⟩
 rw [← hx,Array.getElem?_toList] at hj
 simp [World.cell?,h,hj]
end Go.Proofs.YtejbpleghjgpbaaGreatDoor