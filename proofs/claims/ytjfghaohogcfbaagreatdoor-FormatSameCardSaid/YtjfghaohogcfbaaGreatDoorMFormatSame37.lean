/- FormSameLaw, Laid, ScanLaid, ExprLaid, joined. -/
import Derived.Test.YtjfghaohogcfbaaGreatDoorMFormatSame36
import Derived.Deep.RegionHeld3
import Derived.LaidLaws
import Derived.ChangeArms
import Derived.Lib.LaidTab
import Derived.OpenShut
import Derived.Test.YtjfghaohogcfbaaGreatDoorMFormatSame00
import Derived.Test.YtjfghaohogcfbaaGreatDoorMFormatSame13
import Derived.LaidMore
import Derived.Stop.Joined
import Derived.Test.YtjfghaohogcfbaaGreatDoorMFormatSame06
import Derived.Stop.LaidErr
namespace Go.Proofs.YtjfghaohogcfbaaGreatDoor
open Go.RowKit CurSpec TermSpec EvalSpec ActSpec NamesSpec ExprSpec TransSpec SynSpec FormSpec ScanSpec PrintSpec
set_option maxRecDepth 100000
set_option maxRecDepth 100000 in
set_option maxHeartbeats 8000000 in
theorem same_walk (x y:Cx) (eA:Option Addr) (en ec:Nat) (vA:Option Addr) (vn vc:Nat) (sA:Option Addr) (sn sc:Nat) (fA:Option Addr) (fn fc:Nat) (uA:Option Addr) (un uc:Nat) (rA:Option Addr) (rn rc:Nat) (w:World) (hp:PairsIn w) (hg:SignsIn w) (h1:ChIn w (.slice eA en ec) (.slice vA vn vc) (.slice sA sn sc) x) (hf1:FitC x) (h2:ChIn w (.slice fA fn fc) (.slice uA un uc) (.slice rA rn rc) y) (hf2:FitC y) :
 Calls Tryz.prog 5 #[.agg #[.string x.s,.slice eA en ec,.slice vA vn vc,.slice sA sn sc],.agg #[.string y.s,.slice fA fn fc,.slice uA un uc,.slice rA rn rc]] w fun e w' => e = .returned (.bool true) ∧ Below w.heap.size w w':=by
 have HAW:=Lib.hid (fun W (hW:Below w.heap.size w W) => fawake_any W (hp.keep hW) (hg.keep hW))
 have HL1:=Lib.hid (fun W (hW:Below w.heap.size w W) => lightC_any x eA en ec vA vn vc sA sn sc W (h1.keep hW) hf1)
 have HL2:=Lib.hid (fun W (hW:Below w.heap.size w W) => lightC_any y fA fn fc uA un uc rA rn rc W (h2.keep hW) hf2)
 obtain ⟨W1,hW1⟩:∃ W1,(w.alloc (chO x.s (.slice eA en ec) (.slice vA vn vc) (.slice sA sn sc))).alloc (chO y.s (.slice fA fn fc) (.slice uA un uc) (.slice rA rn rc)) = W1:=⟨_,rfl⟩
 obtain ⟨k1,k2,hb1,-⟩:=KitC.pair_blocks (o:=chO x.s (.slice eA en ec) (.slice vA vn vc) (.slice sA sn sc)) (p:=chO y.s (.slice fA fn fc) (.slice uA un uc) (.slice rA rn rc)) (w:=w) (Below.refl _ _)
 rw [hW1] at k1 k2 hb1
 have HW1:=Lib.hid hW1
 have HB1:=Lib.hid hb1
 have HK:=Lib.hid (fun W (hW:Below W1.heap.size W1 W) => And.intro (KitC.block_on k1 hW) (KitC.block_on k2 hW))
 cases hl1:lightC x with
 | false =>
   rw [hl1] at HL1
   clear hp hg h1 hf1 h2 hf2 hl1 hW1 k1 k2 hb1
   obtain ⟨a0,a1,a2,a3⟩:=cells_4 (HK.out _ (Below.refl _ _)).1
   go_enter Tryz.func5,Tryz.ntmps5
   go_wp2_with (rw [HW1.out]; go_at_call 13; go_fit (HL1.out _ HB1.out))
   rintro e x1 ⟨rfl,hb⟩
   have HB2:=Lib.hid (below_two' HB1.out hb)
   clear hb
   go_wp2_with (go_at_call 6; go_fit (HAW.out _ HB2.out))
   rintro e x2 ⟨rfl,hb⟩
   have HB3:=Lib.hid (below_two' HB2.out hb)
   clear hb
   go_wp2_with fail
   go_ret
   exact ⟨rfl,HB3.out⟩
 | true =>
   rw [hl1] at HL1
   cases hl2:lightC y with
   | false =>
     rw [hl2] at HL2
     clear hp hg h1 hf1 h2 hf2 hl1 hl2 hW1 k1 k2 hb1
     obtain ⟨a0,a1,a2,a3⟩:=cells_4 (HK.out _ (Below.refl _ _)).1
     go_enter Tryz.func5,Tryz.ntmps5
     go_wp2_with (rw [HW1.out]; go_at_call 13; go_fit (HL1.out _ HB1.out))
     rintro e x1 ⟨rfl,hb⟩
     have HX1:=Lib.hid hb
     obtain ⟨b0,b1,b2,b3⟩:=cells_4 (HK.out _ hb).2
     clear hb
     go_wp2_with (go_at_call 13; go_fit (HL2.out _ (below_two' HB1.out HX1.out)))
     rintro e x2 ⟨rfl,hb⟩
     have HX2:=Lib.hid (below_two' HX1.out hb)
     clear hb
     go_wp2_with (go_at_call 6; go_fit (HAW.out _ (below_two' HB1.out HX2.out)))
     rintro e x3 ⟨rfl,hb⟩
     have HX3:=Lib.hid (below_two' HX2.out hb)
     clear hb
     go_wp2_with fail
     go_ret
     exact ⟨rfl,below_two' HB1.out HX3.out⟩
   | true =>
     rw [hl2] at HL2
     obtain ⟨r,hr⟩:=some_bool (x = y)
     have hfew:=chart_few (chart_light hl1)
     have HS:=Lib.hid (fun W (hW:Below w.heap.size w W) => fsame_any x y r hr eA en ec vA vn vc sA sn sc fA fn fc uA un uc rA rn rc W (h1.keep hW) (h2.keep hW) hfew)
     have HR:=Lib.hid (fun W (hW:Below w.heap.size w W) => csame_any x y r hr eA en ec vA vn vc sA sn sc fA fn fc uA un uc rA rn rc W (h1.keep hW) (h2.keep hW) hfew)
     have HT:=Lib.hid (fun W (hW:Below w.heap.size w W) => fsame_any x x true (by simp) eA en ec vA vn vc sA sn sc eA en ec vA vn vc sA sn sc W (h1.keep hW) (h1.keep hW) hfew)
     have gr:(r == r) = true:=by simp
     clear hp hg h1 hf1 h2 hf2 hl1 hl2 hW1 k1 k2 hb1 hr hfew
     obtain ⟨a0,a1,a2,a3⟩:=cells_4 (HK.out _ (Below.refl _ _)).1
     go_enter Tryz.func5,Tryz.ntmps5
     go_wp2_with (rw [HW1.out]; go_at_call 13; go_fit (HL1.out _ HB1.out))
     rintro e x1 ⟨rfl,hb⟩
     have HX1:=Lib.hid hb
     obtain ⟨b0,b1,b2,b3⟩:=cells_4 (HK.out _ hb).2
     clear hb
     go_wp2_with (go_at_call 13; go_fit (HL2.out _ (below_two' HB1.out HX1.out)))
     rintro e x2 ⟨rfl,hb⟩
     have HX2:=Lib.hid (below_two' HX1.out hb)
     clear hb a0 a1 a2 a3 b0 b1 b2 b3
     obtain ⟨a0,a1,a2,a3⟩:=cells_4 (HK.out _ HX2.out).1
     obtain ⟨b0,b1,b2,b3⟩:=cells_4 (HK.out _ HX2.out).2
     go_wp2_with fail
     go_region_held3 (fun w' => w'.cell? ⟨w.heap.size,0,none⟩ = some (.string x.s) ∧ w'.cell? ⟨w.heap.size,1,none⟩ = some (.slice eA en ec) ∧ w'.cell? ⟨w.heap.size,2,none⟩ = some (.slice vA vn vc) ∧ w'.cell? ⟨w.heap.size,3,none⟩ = some (.slice sA sn sc) ∧ w'.cell? ⟨w.heap.size + 1,0,none⟩ = some (.string y.s) ∧ w'.cell? ⟨w.heap.size + 1,1,none⟩ = some (.slice fA fn fc) ∧ w'.cell? ⟨w.heap.size + 1,2,none⟩ = some (.slice uA un uc) ∧ w'.cell? ⟨w.heap.size + 1,3,none⟩ = some (.slice rA rn rc)) (go_keep)
      ((first
        | (go_at_call 11; (with_reducible refine (HS.out _ (below_two' HB1.out HX2.out.drew)).mono ?_); rintro e y1 ⟨rfl,hb1'⟩; have hb1:=undrew hb1'; have HY1:=Lib.hid (below_two' HX2.out hb1); clear hb1'; obtain ⟨p10,p11,p12,p13⟩:=cells_4 (HK.out _ HY1.out).1; obtain ⟨s10,s11,s12,s13⟩:=cells_4 (HK.out _ HY1.out).2; clear hb1)
        | (go_at_call 12; (with_reducible refine (HR.out _ (below_two' HB1.out HY1.out)).mono ?_); rintro e y2 ⟨rfl,hb2⟩; have HY2:=Lib.hid (below_two' HY1.out hb2); obtain ⟨p20,p21,p22,p23⟩:=cells_4 (HK.out _ HY2.out).1; obtain ⟨s20,s21,s22,s23⟩:=cells_4 (HK.out _ HY2.out).2; clear hb2)
        | (go_at_call 11; (with_reducible refine (HT.out _ (below_two' HB1.out HY2.out)).mono ?_); rintro e y3 ⟨rfl,hb3⟩; have HY3:=Lib.hid (below_two' HY2.out hb3); obtain ⟨p30,p31,p32,p33⟩:=cells_4 (HK.out _ HY3.out).1; obtain ⟨s30,s31,s32,s33⟩:=cells_4 (HK.out _ HY3.out).2; clear hb3)
        | (go_at_call 6; (with_reducible refine (HAW.out _ (below_two' HB1.out HY3.out)).mono ?_); rintro e y4 ⟨rfl,hb4⟩; have HY4:=Lib.hid (below_two' HY3.out hb4); obtain ⟨p40,p41,p42,p43⟩:=cells_4 (HK.out _ HY4.out).1; obtain ⟨s40,s41,s42,s43⟩:=cells_4 (HK.out _ HY4.out).2; clear hb4)))
     all_goals
      go_wp2_with fail
      go_ret
      exact ⟨rfl,below_two' HB1.out HY4.out⟩
theorem walk_FormatSame (x:Cx) (eA:Option Addr) (en ec:Nat) (vA:Option Addr) (vn vc:Nat) (sA:Option Addr) (sn sc:Nat) (y:Cx) (fA:Option Addr) (fn fc:Nat) (uA:Option Addr) (un uc:Nat) (rA:Option Addr) (rn rc:Nat) (w:World) (hp:PairsIn w) (hg:SignsIn w) (h1:ChIn w (.slice eA en ec) (.slice vA vn vc) (.slice sA sn sc) x) (hf1:FitC x ∧ ∀ v ∈ x.vars,VFit v) (h2:ChIn w (.slice fA fn fc) (.slice uA un uc) (.slice rA rn rc) y) (hf2:FitC y ∧ ∀ v ∈ y.vars,VFit v) :
 Calls Tryz.prog 5 #[.agg #[.string x.s,.slice eA en ec,.slice vA vn vc,.slice sA sn sc],.agg #[.string y.s,.slice fA fn fc,.slice uA un uc,.slice rA rn rc]] w fun e w' => e = .returned (.bool true) ∧ Below w.heap.size w w' :=
 same_walk x y eA en ec vA vn vc sA sn sc fA fn fc uA un uc rA rn rc w hp hg h1 hf1.1 h2 hf2.1
end Go.Proofs.YtjfghaohogcfbaaGreatDoor
namespace Go.Proofs.YtjfghaohogcfbaaGreatDoor
open Go.RowKit
theorem cells_of_strs {H:Type} {enc:TypeId × Value → H} {P:Program} {w:World} {base:Nat} {sp:Nat → Bool} {held:Bool} {fuel:Nat} {t e:TypeId} {n:Nat} {cs:List Value} {bs:List (List UInt8)} {p:List MemPlace}
 (ht:P.underlying t = some (.array n e)) (he:P.underlying e = some .string) (hce:P.cellsOf e = 1) (hct:P.cellsOf t = n)
 (h:DataW.trod enc P w base sp held fuel t cs = some (.agg (bs.map fun b => .lit (.string b)),p)):cs = bs.map fun b => Value.string ⟨b.toArray⟩:=by
 obtain ⟨xs,m,rfl,hx,hl,hxl,hel⟩:=DataW.trod_array ht h
 simp only [Prod.mk.injEq,DataW.agg.injEq] at hx
 have hxs:=hx.1
 have hbl:bs.length = n:=by
  have:=congrArg List.length hxs
  simp at this
  omega
 rw [hct] at hl
 apply List.ext_getElem?
 intro i
 by_cases hi:i < n
 ·obtain ⟨b,hb⟩:∃ b,xs[i]? = some b:=get_some (by omega)
  have hf:=(hel i hi).trans hb
  rw [hce,Nat.mul_one] at hf
  obtain ⟨s,hc,rfl,_⟩:=DataW.trod_string he hf
  have h1:cs[i]? = some (.string s):=by
   have:=congrArg (·[0]?) hc
   simpa [List.getElem?_take,List.getElem?_drop] using this
  have h2:(xs.map (·.1))[i]? = some (DataW.lit (.string s.data.toList):DataW H):=by simp [hb]
  rw [← hxs] at h2
  simp only [List.getElem?_map,Option.map_eq_some_iff,DataW.lit.injEq,Lit.string.injEq] at h2
  obtain ⟨z,hz,rfl⟩:=h2
  simp [h1,hz]
 ·rw [List.getElem?_eq_none (by omega),List.getElem?_eq_none (by simp; omega)]
end Go.Proofs.YtjfghaohogcfbaaGreatDoor
namespace Go.Proofs.YtjfghaohogcfbaaGreatDoor
open Go.RowKit ScanSpec
set_option maxRecDepth 100000
def pairsB:List (List UInt8):=[[45,62],[58,61],[60,61],[62,61],[33,61],[61,61],[46,46]]
theorem gPairs : Tryz.prog.globalNamed "semblance/scan.pairs" = some 0 := by kernel_rfl
theorem tPairs:(Tryz.prog.globals[0]?).map (·.type) = some 204:=by kernel_rfl
theorem pairs_in {W : World} {rest : List (String × DataW Unit)} (h : laidMet Tryz.prog (("semblance/scan.pairs", Rows.laid_semblance_scan_pairs) :: rest) W) : PairsIn W := by
 obtain ⟨ps,⟨g',t',cs,fuel,p,q,hg',ht',hvar,hd,_,_⟩,_⟩:=h
 obtain rfl:=Option.some.inj (gPairs.symm.trans hg')
 obtain rfl:=Option.some.inj (tPairs.symm.trans ht')
 have hc:=cells_of_strs (bs:=pairsB) Tryz.underlying204 Tryz.underlying9 (by kernel_rfl) (by kernel_rfl) hd
 have e:cs = pairsV:=Array.toList_inj.mp hc
 subst e
 unfold World.var? at hvar
 rw [gPairs] at hvar
 simp only [Option.bind_some] at hvar
 split at hvar
 ·rename_i cs' T fr hb
  cases hvar
  exact ⟨T,fr,hb⟩
 ·cases hvar
end Go.Proofs.YtjfghaohogcfbaaGreatDoor
namespace Go.Proofs.YtjfghaohogcfbaaGreatDoor
open Go.RowKit ExprSpec
set_option maxRecDepth 100000
theorem list5 {α:Type} {l:List α} (h:l.length = 5):∃ a b c d e,l = [a,b,c,d,e]:=by
 match l,h with
 | [a,b,c,d,e],_ => exact ⟨a,b,c,d,e,rfl⟩
def sgD {H:Type} (s:Sg):DataW H:=.agg [.lit (.string s.t.data.toList),.lit (.int .i64 s.op),.lit (.int .i64 s.lev),.lit (.int .i64 s.left),.lit (.int .i64 s.right)]
theorem sg_cells:Tryz.prog.cellsOf 233 = 5:=by kernel_rfl
theorem sg_table:Tryz.prog.cellsOf 241 = 55:=by kernel_rfl
theorem sg_str:Tryz.prog.cellsOf 9 = 1:=by kernel_rfl
theorem sg_int:Tryz.prog.cellsOf 3 = 1:=by kernel_rfl
theorem sign_part {H:Type} {enc:TypeId × Value → H} {w:World} {base:Nat} {sp:Nat → Bool} {held:Bool} {fuel:Nat} {cs:List Value} {s:Sg} {p:List MemPlace}
 (h:DataW.trod enc Tryz.prog w base sp held fuel 233 cs = some (sgD s,p)):cs = sgC s:=by
 obtain ⟨xs,n,_,hx,hl,hlen,hf⟩:=DataW.trod_struct Tryz.underlying233 h
 obtain ⟨a,b,c,d,e,rfl⟩:=list5 (hl.trans sg_cells)
 obtain ⟨y0,y1,y2,y3,y4,rfl⟩:=list5 hlen
 have g0:DataW.trod enc Tryz.prog w base sp held n 9 (([a,b,c,d,e].drop 0).take (Tryz.prog.cellsOf 9)) = some y0:=hf 0 _ rfl
 rw [sg_str] at g0
 have g1:DataW.trod enc Tryz.prog w base sp held n 3 (([a,b,c,d,e].drop 1).take (Tryz.prog.cellsOf 3)) = some y1:=hf 1 _ rfl
 rw [sg_int] at g1
 have g2:DataW.trod enc Tryz.prog w base sp held n 3 (([a,b,c,d,e].drop 2).take (Tryz.prog.cellsOf 3)) = some y2:=hf 2 _ rfl
 rw [sg_int] at g2
 have g3:DataW.trod enc Tryz.prog w base sp held n 3 (([a,b,c,d,e].drop 3).take (Tryz.prog.cellsOf 3)) = some y3:=hf 3 _ rfl
 rw [sg_int] at g3
 have g4:DataW.trod enc Tryz.prog w base sp held n 3 (([a,b,c,d,e].drop 4).take (Tryz.prog.cellsOf 3)) = some y4:=hf 4 _ rfl
 rw [sg_int] at g4
 obtain ⟨s0,c0,rfl,-⟩:=DataW.trod_string Tryz.underlying9 g0
 obtain ⟨n1,c1,rfl,-⟩:=DataW.trod_int Tryz.underlying3 g1
 obtain ⟨n2,c2,rfl,-⟩:=DataW.trod_int Tryz.underlying3 g2
 obtain ⟨n3,c3,rfl,-⟩:=DataW.trod_int Tryz.underlying3 g3
 obtain ⟨n4,c4,rfl,-⟩:=DataW.trod_int Tryz.underlying3 g4
 simp at c0 c1 c2 c3 c4
 subst c0 c1 c2 c3 c4
 simp only [sgD,List.map_cons,List.map_nil,Prod.mk.injEq,DataW.agg.injEq,List.cons.injEq,DataW.lit.injEq,Lit.string.injEq,Lit.int.injEq,true_and,and_true] at hx
 obtain ⟨⟨h0,h1,h2,h3,h4⟩,-⟩:=hx
 have h0':s.t = s0:=ByteArray.ext (Array.toList_inj.mp h0)
 subst h0' h1 h2 h3 h4
 rfl
theorem flat_parts {α β:Type} {g:α → List β} {k:Nat} (hg:∀ a,(g a).length = k):∀ (L:List α) (cs:List β),cs.length = L.length * k → (∀ i a,L[i]? = some a → (cs.drop (i * k)).take k = g a) → cs = L.flatMap g
 | [],cs,hl,_ => by simpa using hl
 | a :: L,cs,hl,h => by
   have h0:=h 0 a rfl
   rw [Nat.zero_mul,List.drop_zero] at h0
   rw [List.length_cons,Nat.succ_mul] at hl
   have ih:=flat_parts hg L (cs.drop k) (by rw [List.length_drop]; omega) (fun i b hb => by
    rw [List.drop_drop,show k + i * k = (i + 1) * k by rw [Nat.succ_mul]; omega]
    exact h (i + 1) b hb)
   rw [List.flatMap_cons,← ih,← h0,List.take_append_drop]
theorem gSigns : Tryz.prog.globalNamed "semblance/expr.signs" = some 2 := by kernel_rfl
theorem tSigns:(Tryz.prog.globals[2]?).map (·.type) = some 241:=by kernel_rfl
theorem laid_signs {H:Type}:(Rows.laid_semblance_expr_signs:DataW H) = .agg (sgs.map sgD):=rfl
theorem signs_one {W : World} {rest : List (String × DataW Unit)} (h : laidMet Tryz.prog (("semblance/expr.signs", Rows.laid_semblance_expr_signs) :: rest) W) : SignsIn W := by
 obtain ⟨ps,⟨g',t',cs,fuel,p,q,hg',ht',hvar,hd,_,_⟩,_⟩:=h
 obtain rfl:=Option.some.inj (gSigns.symm.trans hg')
 obtain rfl:=Option.some.inj (tSigns.symm.trans ht')
 rw [laid_signs] at hd
 obtain ⟨xs,m,_,hx,hl,hxl,hel⟩:=DataW.trod_array Tryz.underlying241 hd
 simp only [Prod.mk.injEq,DataW.agg.injEq] at hx
 have hxs:=hx.1
 rw [sg_table] at hl
 have hc:cs.toList = sgs.flatMap sgC:=by
  refine flat_parts (k:=5) (fun s => rfl) sgs _ (by rw [hl]; rfl) (fun i s hs => ?_)
  have hi:i < 11:=by have:=get_lt hs; rwa [sgs_len] at this
  obtain ⟨y,hy⟩:∃ y,xs[i]? = some y:=get_some (by omega)
  have hf:=(hel i hi).trans hy
  rw [sg_cells] at hf
  have h2:(xs.map (·.1))[i]? = some y.1:=by simp [hy]
  rw [← hxs,List.getElem?_map,hs] at h2
  have h3:sgD s = y.1:=Option.some.inj h2
  obtain ⟨y1,y2⟩:=y
  subst h3
  exact sign_part hf
 have e:cs = signsV:=Array.toList_inj.mp hc
 subst e
 unfold World.var? at hvar
 rw [gSigns] at hvar
 simp only [Option.bind_some] at hvar
 split at hvar
 ·rename_i cs' T fr hb
  cases hvar
  exact ⟨T,fr,hb⟩
 ·cases hvar
theorem signs_in {W : World} {x : String × DataW Unit} {rest : List (String × DataW Unit)} (h : laidMet Tryz.prog (x :: ("semblance/expr.signs", Rows.laid_semblance_expr_signs) :: rest) W) : SignsIn W := signs_one (laidMet.tail h)
end Go.Proofs.YtjfghaohogcfbaaGreatDoor