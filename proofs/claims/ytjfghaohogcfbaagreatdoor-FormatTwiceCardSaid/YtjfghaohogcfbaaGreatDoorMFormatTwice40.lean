/- FormTwiceLaw, Laid, ScanLaid, ExprLaid, joined. -/
import Derived.Test.YtjfghaohogcfbaaGreatDoorMFormatTwice39
import Derived.LaidLaws
import Derived.ChangeArms
import Derived.Lib.LaidTab
import Derived.OpenShut
import Derived.Test.YtjfghaohogcfbaaGreatDoorMFormatTwice00
import Derived.Test.YtjfghaohogcfbaaGreatDoorMFormatTwice14
import Derived.LaidMore
import Derived.Stop.Joined
import Derived.Test.YtjfghaohogcfbaaGreatDoorMFormatTwice07
import Derived.Stop.LaidErr
namespace Go.Proofs.YtjfghaohogcfbaaGreatDoor
open Go.RowKit CurSpec TermSpec EvalSpec ActSpec NamesSpec ExprSpec TransSpec SynSpec FormSpec ScanSpec PrintSpec
set_option maxRecDepth 100000
theorem few_ac {a:Ta} (h:a.Ok):a.ac.x.length ≤ 4398046511104:=by
 obtain ⟨s,any,e⟩:=a
 cases any with
 | true => exact Nat.zero_le _
 | false => exact Nat.le_trans (flat_few (h.2 rfl).2) (by decide)
theorem few_ok {c:Tc} (h:c.Ok) (hn:c.sts.length ≤ 4398046511104):FewC c.cx:=by
 refine ⟨Nat.le_trans h.evf (by decide),Nat.le_trans h.vaf (by decide),by show (c.sts.map Ts.sx).length ≤ _; rw [List.length_map]; exact hn,fun s hs => ?_⟩
 obtain ⟨t,ht,rfl⟩:=List.mem_map.1 hs
 have ok:=h.sts t ht
 refine ⟨by show (t.en.map Ta.ac).length ≤ _; rw [List.length_map]; exact Nat.le_trans ok.enf (by decide),fun a ha => ?_,by show (t.ex.map Ta.ac).length ≤ _; rw [List.length_map]; exact Nat.le_trans ok.exf (by decide),fun a ha => ?_,by show (t.tr.map Tt.tr).length ≤ _; rw [List.length_map]; exact Nat.le_trans ok.trf (by decide),fun u hu => ?_⟩
 ·obtain ⟨b,hb,rfl⟩:=List.mem_map.1 ha
  exact few_ac (ok.en b hb)
 ·obtain ⟨b,hb,rfl⟩:=List.mem_map.1 ha
  exact few_ac (ok.ex b hb)
 ·obtain ⟨v,hv,rfl⟩:=List.mem_map.1 hu
  have okv:=ok.tr v hv
  refine ⟨?_,by show (v.ts.map Ta.ac).length ≤ _; rw [List.length_map]; exact Nat.le_trans okv.few (by decide),fun a ha => ?_⟩
  ·show (gFlat v.g).length ≤ _
   cases hg:v.g with
   | none => exact Nat.zero_le _
   | some e => exact Nat.le_trans (flat_few (okv.g e hg).2) (by decide)
  ·obtain ⟨b,hb,rfl⟩:=List.mem_map.1 ha
   exact few_ac (okv.ts b hb)
theorem form_good {s:ByteArray} {o:Fo} (h:FoIs s o) (h0:o.er = 0):∃ c:Tc,parseC s = ⟨c.cx,0,0,0⟩ ∧ c.Ok ∧ c.sts.length ≤ 4398046511104 ∧ o = ⟨bs (putC c),0,0,0⟩ ∧ parseC (bs (putC c)) = ⟨c.cx,0,0,0⟩ ∧ FoOk c o ∧ (bs (putC c)).size ≤ 65536:=by
 rcases h with ⟨h1,rfl⟩ | ⟨c,hP,ok,ho⟩
 ·exact absurd h0 h1
 ·by_cases hs:(scanT (T (bs (putC c)))).2.2 = 0
  ·rw [if_pos hs] at ho
   refine ⟨c,hP,ok,?_,ho,form_twice ok hs,⟨ok,by rw [if_pos hs]; exact ho⟩,?_⟩
   ·have h1:=(ShapeSpec.chk_ok ok.sh).1
    have h2:c.sh.length = c.sts.length:=by simp [Tc.sh]
    omega
   ·rcases Nat.lt_or_ge 65536 (bs (putC c)).size with h' | h'
    ·refine absurd hs ?_
     unfold scanT
     rw [if_pos (show 65536 < (T (bs (putC c))).length from h')]
     decide
    ·exact h'
  ·rw [if_neg hs] at ho
   rw [ho] at h0
   cases h0
set_option maxRecDepth 100000 in
set_option maxHeartbeats 4000000 in
theorem walk_FormatTwice (s:ByteArray) (w:World) (hp:PairsIn w) (hg:SignsIn w) (hz:s.size ≤ 9223372036854775807):Calls Tryz.prog 4 #[.string s] w fun e w' => e = .returned (.bool true) ∧ Below w.heap.size w w':=by
 have HAW:=Lib.hid (fun W (hW:Below w.heap.size w W) => fawake_any W (hp.keep hW) (hg.keep hW))
 by_cases hb:1500 < s.size
 ·have hbI:(1500:Int) < (s.size:Int):=by omega
  clear hp hg hz hb
  go_enter Tryz.func4,Tryz.ntmps4
  go_wp2_with (go_at_call 6; go_fit (HAW.out _ (Below.refl _ _)))
  rintro e x1 ⟨rfl,hb⟩
  have HB1:=Lib.hid hb
  clear hb
  go_wp2_with fail
  go_ret
  exact ⟨rfl,HB1.out⟩
 ·have hbI:¬ (1500:Int) < (s.size:Int):=by omega
  obtain ⟨o,ho⟩:=form_is s
  have H1:=Lib.hid (fof_any s o ho w hp hg hz)
  by_cases h0:o.er = 0
  ·obtain ⟨c,hP,ok,hn,rfl,hP2,hfo,h65⟩:=form_good ho h0
   have hfew:=few_ok ok hn
   obtain ⟨t,ht⟩:∃ t,t = bs (putC c):=⟨_,rfl⟩
   rw [← ht] at H1 hP2 hfo h65
   have h65':t.size ≤ 9223372036854775807:=by omega
   have H2:=Lib.hid (fun W (hW:Below w.heap.size w W) => fof_any t ⟨t,0,0,0⟩ (.inr ⟨c,hP2,hfo⟩) W (hp.keep hW) (hg.keep hW) h65')
   have H3:=Lib.hid (fun W (hW:Below w.heap.size w W) => parse_chart s W (hp.keep hW) (hg.keep hW) hz)
   have H4:=Lib.hid (fun W (hW:Below w.heap.size w W) => parse_chart t W (hp.keep hW) (hg.keep hW) h65')
   rw [hP] at H3
   rw [hP2] at H4
   have H5:Hid (∀ W,Below w.heap.size w W → Calls Tryz.prog 9 #[.string t] W (RetB W true)):=Lib.hid (fun W hW => by
    have:=fis_any t ⟨t,0,0,0⟩ (.inr ⟨c,hP2,hfo⟩) W (hp.keep hW) (hg.keep hW) h65'
    rwa [show (decide ((⟨t,0,0,0⟩:Fo).er = 0) && decide ((⟨t,0,0,0⟩:Fo).t = t)) = true by simp] at this)
   have H6:=Lib.hid (fun eA en ec vA vn vc sA sn sc fA fn fc uA un uc rA rn rc W h1 h2 => fsame_any c.cx c.cx true (by simp) eA en ec vA vn vc sA sn sc fA fn fc uA un uc rA rn rc W h1 h2 hfew)
   have H7:=Lib.hid (fun eA en ec vA vn vc sA sn sc fA fn fc uA un uc rA rn rc W h1 h2 => csame_any c.cx c.cx true (by simp) eA en ec vA vn vc sA sn sc fA fn fc uA un uc rA rn rc W h1 h2 hfew)
   obtain ⟨x,hx⟩:∃ x,x = c.cx:=⟨_,rfl⟩
   rw [← hx] at H3 H4 H6 H7
   have g1:(t.toList == t.toList) = true:=by simp
   clear hp hg hz hb ho h0 hP ok hn hP2 hfo h65 h65' hfew ht hx
   go_enter Tryz.func4,Tryz.ntmps4
   go_wp2_with (go_at_call 7; go_fit H1.out)
   rintro e x1 ⟨rfl,hb⟩
   have HB1:=Lib.hid (below_two' hb (KitC.below_one x1 poZ))
   clear hb
   go_wp2_with (go_at_call 7; go_fit (H2.out _ HB1.out))
   rintro e x2 ⟨rfl,hb⟩
   have HB2:=Lib.hid (below_two' HB1.out (below_two' hb (KitC.below_one x2 poZ)))
   clear hb
   go_wp2_with (go_at_call 10; go_fit (H3.out _ HB2.out))
   rintro e x3 ⟨eA,en,ec,vA,vn,vc,sA,sn,sc,rfl,hch,hb⟩
   have HB3:=Lib.hid (below_two' HB2.out (below_two' hb (below_two' (KitC.below_one x3 (chO x.s (.slice eA en ec) (.slice vA vn vc) (.slice sA sn sc))) (KitC.below_one _ poZ))))
   have HC3:=Lib.hid (And.intro (hch.keep (below_two' (KitC.below_one x3 (chO x.s (.slice eA en ec) (.slice vA vn vc) (.slice sA sn sc))) (KitC.below_one _ poZ))) (block_on (heap_alloc_new x3 (chO x.s (.slice eA en ec) (.slice vA vn vc) (.slice sA sn sc))) (KitC.below_one _ poZ)))
   clear hch hb
   go_wp2_with (go_at_call 10; go_fit (H4.out _ HB3.out))
   rintro e x4 ⟨fA,fn,fc,uA,un,uc,rA,rn,rc,rfl,hch,hb⟩
   have hb4:=below_two' (KitC.below_one x4 (chO x.s (.slice fA fn fc) (.slice uA un uc) (.slice rA rn rc))) (KitC.below_one (x4.alloc (chO x.s (.slice fA fn fc) (.slice uA un uc) (.slice rA rn rc))) poZ)
   have HB4:=Lib.hid (below_two' HB3.out (below_two' hb hb4))
   have HC4:=Lib.hid (And.intro (And.intro (HC3.out.1.keep (below_two' hb hb4)) (hch.keep hb4)) (And.intro (block_on HC3.out.2 (below_two' hb hb4)) (block_on (heap_alloc_new x4 (chO x.s (.slice fA fn fc) (.slice uA un uc) (.slice rA rn rc))) (KitC.below_one _ poZ))))
   clear hch hb hb4
   go_wp2_with (go_at_call 9; go_fit (H5.out _ HB4.out))
   rintro e x5 ⟨rfl,hb⟩
   have HB5:=Lib.hid (below_two' HB4.out hb)
   have HC5:=Lib.hid (And.intro (And.intro (HC4.out.1.1.keep hb) (HC4.out.1.2.keep hb)) (And.intro (block_on HC4.out.2.1 hb) (block_on HC4.out.2.2 hb)))
   obtain ⟨a0,a1,a2,a3⟩:=cells_4 HC5.out.2.1
   obtain ⟨b0,b1,b2,b3⟩:=cells_4 HC5.out.2.2
   clear hb
   go_wp2_with (go_at_call 11; go_fit (H6.out _ _ _ _ _ _ _ _ _ _ _ _ _ _ _ _ _ _ _ HC5.out.1.1 HC5.out.1.2))
   rintro e x6 ⟨rfl,hb⟩
   have HB6:=Lib.hid (below_two' HB5.out hb)
   have HC6:=Lib.hid (And.intro (And.intro (HC5.out.1.1.keep hb) (HC5.out.1.2.keep hb)) (And.intro (block_on HC5.out.2.1 hb) (block_on HC5.out.2.2 hb)))
   clear hb a0 a1 a2 a3 b0 b1 b2 b3
   obtain ⟨a0,a1,a2,a3⟩:=cells_4 HC6.out.2.1
   obtain ⟨b0,b1,b2,b3⟩:=cells_4 HC6.out.2.2
   go_wp2_with (go_at_call 12; go_fit (H7.out _ _ _ _ _ _ _ _ _ _ _ _ _ _ _ _ _ _ _ HC6.out.1.1 HC6.out.1.2))
   rintro e x7 ⟨rfl,hb⟩
   have HB7:=Lib.hid (below_two' HB6.out hb)
   clear hb
   go_wp2_with (go_at_call 6; go_fit (HAW.out _ HB7.out))
   rintro e x8 ⟨rfl,hb⟩
   have HB8:=Lib.hid (below_two' HB7.out hb)
   clear hb
   go_wp2_with fail
   go_ret
   exact ⟨rfl,HB8.out⟩
  ·have g0:(o.er != 0) = true:=by simpa using h0
   clear hp hg hz hb ho h0
   go_enter Tryz.func4,Tryz.ntmps4
   go_wp2_with (go_at_call 7; go_fit H1.out)
   rintro e x1 ⟨rfl,hb⟩
   have HB1:=Lib.hid (below_two' hb (KitC.below_one x1 (poO o.l o.c)))
   clear hb
   go_wp2_with (go_at_call 6; go_fit (HAW.out _ HB1.out))
   rintro e x2 ⟨rfl,hb⟩
   have HB2:=Lib.hid (below_two' HB1.out hb)
   clear hb
   go_wp2_with fail
   go_ret
   exact ⟨rfl,HB2.out⟩
end Go.Proofs.YtjfghaohogcfbaaGreatDoor
namespace Go.Proofs.YtjfghaohogcfbaaGreatDoor
open Go.RowKit
theorem cells_of_strs {H:Type} {enc:TypeId × Value → H} {P:Program} {w:World} {base:Nat} {sp:Nat → Bool} {held:Bool} {fuel:Nat} {t e:TypeId} {n:Nat} {cs:List Value} {bs:List (List UInt8)} {p:List MemPlace}
 (ht:P.underlying t = some (.array n e)) (he:P.underlying e = some .string) (hce:P.cellsOf e = 1) (hct:P.cellsOf t = n)
 (h:DataW.trod enc P w base sp held fuel t cs = some (.agg (bs.map fun b => .lit (.string b)),p)):cs = bs.map fun b => Value.string ⟨b.toArray⟩:=by
 obtain ⟨xs,m,rfl,hx,hl,hxl,hel⟩:=DataW.trod_array ht h
 simp only [Prod.mk.injEq,DataW.agg.injEq] at hx
 have hxs:=hx.1
 have hbl:bs.length = n:=by
  have:=congrArg List.length hxs
  simp at this
  omega
 rw [hct] at hl
 apply List.ext_getElem?
 intro i
 by_cases hi:i < n
 ·obtain ⟨b,hb⟩:∃ b,xs[i]? = some b:=get_some (by omega)
  have hf:=(hel i hi).trans hb
  rw [hce,Nat.mul_one] at hf
  obtain ⟨s,hc,rfl,_⟩:=DataW.trod_string he hf
  have h1:cs[i]? = some (.string s):=by
   have:=congrArg (·[0]?) hc
   simpa [List.getElem?_take,List.getElem?_drop] using this
  have h2:(xs.map (·.1))[i]? = some (DataW.lit (.string s.data.toList):DataW H):=by simp [hb]
  rw [← hxs] at h2
  simp only [List.getElem?_map,Option.map_eq_some_iff,DataW.lit.injEq,Lit.string.injEq] at h2
  obtain ⟨z,hz,rfl⟩:=h2
  simp [h1,hz]
 ·rw [List.getElem?_eq_none (by omega),List.getElem?_eq_none (by simp; omega)]
end Go.Proofs.YtjfghaohogcfbaaGreatDoor
namespace Go.Proofs.YtjfghaohogcfbaaGreatDoor
open Go.RowKit ScanSpec
set_option maxRecDepth 100000
def pairsB:List (List UInt8):=[[45,62],[58,61],[60,61],[62,61],[33,61],[61,61],[46,46]]
theorem gPairs : Tryz.prog.globalNamed "semblance/scan.pairs" = some 0 := by kernel_rfl
theorem tPairs:(Tryz.prog.globals[0]?).map (·.type) = some 204:=by kernel_rfl
theorem pairs_in {W : World} {rest : List (String × DataW Unit)} (h : laidMet Tryz.prog (("semblance/scan.pairs", Rows.laid_semblance_scan_pairs) :: rest) W) : PairsIn W := by
 obtain ⟨ps,⟨g',t',cs,fuel,p,q,hg',ht',hvar,hd,_,_⟩,_⟩:=h
 obtain rfl:=Option.some.inj (gPairs.symm.trans hg')
 obtain rfl:=Option.some.inj (tPairs.symm.trans ht')
 have hc:=cells_of_strs (bs:=pairsB) Tryz.underlying204 Tryz.underlying9 (by kernel_rfl) (by kernel_rfl) hd
 have e:cs = pairsV:=Array.toList_inj.mp hc
 subst e
 unfold World.var? at hvar
 rw [gPairs] at hvar
 simp only [Option.bind_some] at hvar
 split at hvar
 ·rename_i cs' T fr hb
  cases hvar
  exact ⟨T,fr,hb⟩
 ·cases hvar
end Go.Proofs.YtjfghaohogcfbaaGreatDoor
namespace Go.Proofs.YtjfghaohogcfbaaGreatDoor
open Go.RowKit ExprSpec
set_option maxRecDepth 100000
theorem list5 {α:Type} {l:List α} (h:l.length = 5):∃ a b c d e,l = [a,b,c,d,e]:=by
 match l,h with
 | [a,b,c,d,e],_ => exact ⟨a,b,c,d,e,rfl⟩
def sgD {H:Type} (s:Sg):DataW H:=.agg [.lit (.string s.t.data.toList),.lit (.int .i64 s.op),.lit (.int .i64 s.lev),.lit (.int .i64 s.left),.lit (.int .i64 s.right)]
theorem sg_cells:Tryz.prog.cellsOf 233 = 5:=by kernel_rfl
theorem sg_table:Tryz.prog.cellsOf 241 = 55:=by kernel_rfl
theorem sg_str:Tryz.prog.cellsOf 9 = 1:=by kernel_rfl
theorem sg_int:Tryz.prog.cellsOf 3 = 1:=by kernel_rfl
theorem sign_part {H:Type} {enc:TypeId × Value → H} {w:World} {base:Nat} {sp:Nat → Bool} {held:Bool} {fuel:Nat} {cs:List Value} {s:Sg} {p:List MemPlace}
 (h:DataW.trod enc Tryz.prog w base sp held fuel 233 cs = some (sgD s,p)):cs = sgC s:=by
 obtain ⟨xs,n,_,hx,hl,hlen,hf⟩:=DataW.trod_struct Tryz.underlying233 h
 obtain ⟨a,b,c,d,e,rfl⟩:=list5 (hl.trans sg_cells)
 obtain ⟨y0,y1,y2,y3,y4,rfl⟩:=list5 hlen
 have g0:DataW.trod enc Tryz.prog w base sp held n 9 (([a,b,c,d,e].drop 0).take (Tryz.prog.cellsOf 9)) = some y0:=hf 0 _ rfl
 rw [sg_str] at g0
 have g1:DataW.trod enc Tryz.prog w base sp held n 3 (([a,b,c,d,e].drop 1).take (Tryz.prog.cellsOf 3)) = some y1:=hf 1 _ rfl
 rw [sg_int] at g1
 have g2:DataW.trod enc Tryz.prog w base sp held n 3 (([a,b,c,d,e].drop 2).take (Tryz.prog.cellsOf 3)) = some y2:=hf 2 _ rfl
 rw [sg_int] at g2
 have g3:DataW.trod enc Tryz.prog w base sp held n 3 (([a,b,c,d,e].drop 3).take (Tryz.prog.cellsOf 3)) = some y3:=hf 3 _ rfl
 rw [sg_int] at g3
 have g4:DataW.trod enc Tryz.prog w base sp held n 3 (([a,b,c,d,e].drop 4).take (Tryz.prog.cellsOf 3)) = some y4:=hf 4 _ rfl
 rw [sg_int] at g4
 obtain ⟨s0,c0,rfl,-⟩:=DataW.trod_string Tryz.underlying9 g0
 obtain ⟨n1,c1,rfl,-⟩:=DataW.trod_int Tryz.underlying3 g1
 obtain ⟨n2,c2,rfl,-⟩:=DataW.trod_int Tryz.underlying3 g2
 obtain ⟨n3,c3,rfl,-⟩:=DataW.trod_int Tryz.underlying3 g3
 obtain ⟨n4,c4,rfl,-⟩:=DataW.trod_int Tryz.underlying3 g4
 simp at c0 c1 c2 c3 c4
 subst c0 c1 c2 c3 c4
 simp only [sgD,List.map_cons,List.map_nil,Prod.mk.injEq,DataW.agg.injEq,List.cons.injEq,DataW.lit.injEq,Lit.string.injEq,Lit.int.injEq,true_and,and_true] at hx
 obtain ⟨⟨h0,h1,h2,h3,h4⟩,-⟩:=hx
 have h0':s.t = s0:=ByteArray.ext (Array.toList_inj.mp h0)
 subst h0' h1 h2 h3 h4
 rfl
theorem flat_parts {α β:Type} {g:α → List β} {k:Nat} (hg:∀ a,(g a).length = k):∀ (L:List α) (cs:List β),cs.length = L.length * k → (∀ i a,L[i]? = some a → (cs.drop (i * k)).take k = g a) → cs = L.flatMap g
 | [],cs,hl,_ => by simpa using hl
 | a :: L,cs,hl,h => by
   have h0:=h 0 a rfl
   rw [Nat.zero_mul,List.drop_zero] at h0
   rw [List.length_cons,Nat.succ_mul] at hl
   have ih:=flat_parts hg L (cs.drop k) (by rw [List.length_drop]; omega) (fun i b hb => by
    rw [List.drop_drop,show k + i * k = (i + 1) * k by rw [Nat.succ_mul]; omega]
    exact h (i + 1) b hb)
   rw [List.flatMap_cons,← ih,← h0,List.take_append_drop]
theorem gSigns : Tryz.prog.globalNamed "semblance/expr.signs" = some 2 := by kernel_rfl
theorem tSigns:(Tryz.prog.globals[2]?).map (·.type) = some 241:=by kernel_rfl
theorem laid_signs {H:Type}:(Rows.laid_semblance_expr_signs:DataW H) = .agg (sgs.map sgD):=rfl
theorem signs_one {W : World} {rest : List (String × DataW Unit)} (h : laidMet Tryz.prog (("semblance/expr.signs", Rows.laid_semblance_expr_signs) :: rest) W) : SignsIn W := by
 obtain ⟨ps,⟨g',t',cs,fuel,p,q,hg',ht',hvar,hd,_,_⟩,_⟩:=h
 obtain rfl:=Option.some.inj (gSigns.symm.trans hg')
 obtain rfl:=Option.some.inj (tSigns.symm.trans ht')
 rw [laid_signs] at hd
 obtain ⟨xs,m,_,hx,hl,hxl,hel⟩:=DataW.trod_array Tryz.underlying241 hd
 simp only [Prod.mk.injEq,DataW.agg.injEq] at hx
 have hxs:=hx.1
 rw [sg_table] at hl
 have hc:cs.toList = sgs.flatMap sgC:=by
  refine flat_parts (k:=5) (fun s => rfl) sgs _ (by rw [hl]; rfl) (fun i s hs => ?_)
  have hi:i < 11:=by have:=get_lt hs; rwa [sgs_len] at this
  obtain ⟨y,hy⟩:∃ y,xs[i]? = some y:=get_some (by omega)
  have hf:=(hel i hi).trans hy
  rw [sg_cells] at hf
  have h2:(xs.map (·.1))[i]? = some y.1:=by simp [hy]
  rw [← hxs,List.getElem?_map,hs] at h2
  have h3:sgD s = y.1:=Option.some.inj h2
  obtain ⟨y1,y2⟩:=y
  subst h3
  exact sign_part hf
 have e:cs = signsV:=Array.toList_inj.mp hc
 subst e
 unfold World.var? at hvar
 rw [gSigns] at hvar
 simp only [Option.bind_some] at hvar
 split at hvar
 ·rename_i cs' T fr hb
  cases hvar
  exact ⟨T,fr,hb⟩
 ·cases hvar
theorem signs_in {W : World} {x : String × DataW Unit} {rest : List (String × DataW Unit)} (h : laidMet Tryz.prog (x :: ("semblance/expr.signs", Rows.laid_semblance_expr_signs) :: rest) W) : SignsIn W := signs_one (laidMet.tail h)
end Go.Proofs.YtjfghaohogcfbaaGreatDoor