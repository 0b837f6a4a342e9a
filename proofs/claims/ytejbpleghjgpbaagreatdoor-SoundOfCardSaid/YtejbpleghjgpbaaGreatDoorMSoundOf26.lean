/- SoundOfLaw, Laid, SoundLaid, joined. -/
import Derived.Test.YtejbpleghjgpbaaGreatDoorMSoundOf25
import Derived.Test.YtejbpleghjgpbaaGreatDoorMSoundOf23
import Derived.LaidLaws
import Derived.ChangeArms
import Derived.Lib.LaidTab
import Derived.OpenShut
import Derived.Test.YtejbpleghjgpbaaGreatDoorMSoundOf00
import Derived.Test.YtejbpleghjgpbaaGreatDoorMSoundOf24
import Derived.LaidMore
import Derived.Stop.Joined
namespace Go.Proofs.YtejbpleghjgpbaaGreatDoor
open Go.RowKit Go.Sort TermSpec NamesSpec EvalSpec ActSpec TransSpec SynSpec RulesSpec PrintSpec SoundSpec
set_option maxRecDepth 100000
section
variable (x:Cx) (eA:Option Addr) (en ec:Nat) (vA:Option Addr) (vn vc:Nat) (sA:Option Addr) (sn sc:Nat) (w:World) (h:ChIn w (.slice eA en ec) (.slice vA vn vc) (.slice sA sn sc) x) (hf:FitC x) (hv:∀ v ∈ x.vars,VFit v) (hp:SwIn w)
include h hf hv hp
omit hv in
set_option maxRecDepth 100000 in
set_option maxHeartbeats 16000000 in
theorem soundof_no (hl:lightC x = false):Calls Tryz.prog 3 #[.agg #[.string x.s,.slice eA en ec,.slice vA vn vc,.slice sA sn sc]] w fun e w' => e = .returned (.bool true) ∧ Below w.heap.size w w':=by
 have HAW:=Lib.hid (fun W (hW:Below w.heap.size w W) => soawake_any W (hp.keep hW))
 have HL:=Lib.hid (fun W (hW:Below w.heap.size w W) => lightC_any x eA en ec vA vn vc sA sn sc W (h.keep hW) hf)
 rw [hl] at HL
 clear h hf hl hp
 go_enter Tryz.func3,Tryz.ntmps3
 go_wp2_with (go_at_call 4; go_fit (HL.out _ (KitC.below_one _ _)))
 rintro e w2 ⟨rfl,hb⟩
 have HB2:=Lib.hid (below_two' (KitC.below_one _ _) hb)
 clear hb
 go_wp2_with (go_at_call 5; go_fit (HAW.out _ HB2.out))
 rintro e w3 ⟨rfl,hb⟩
 have HB3:=Lib.hid (below_two' HB2.out hb)
 clear hb
 go_wp2_with fail
 go_ret
 exact ⟨rfl,HB3.out⟩
set_option maxRecDepth 100000 in
set_option maxHeartbeats 16000000 in
theorem soundof_bad (hl:lightC x = true) (hm:mayC x = false):Calls Tryz.prog 3 #[.agg #[.string x.s,.slice eA en ec,.slice vA vn vc,.slice sA sn sc]] w fun e w' => e = .returned (.bool true) ∧ Below w.heap.size w w':=by
 have HAW:=Lib.hid (fun W (hW:Below w.heap.size w W) => soawake_any W (hp.keep hW))
 have HL:=Lib.hid (fun W (hW:Below w.heap.size w W) => lightC_any x eA en ec vA vn vc sA sn sc W (h.keep hW) hf)
 have hfr:=fewR_of (chart_light hl) hf hv
 have hfm:=chart_fit (chart_light hl) hf
 have HOF:=Lib.hid (fun W (hW:Below w.heap.size w W) => sof_any x eA en ec vA vn vc sA sn sc W (h.keep hW) hfm hfr)
 have HSI:=Lib.hid (fun W (hW:Below w.heap.size w W) => sis_any x eA en ec vA vn vc sA sn sc W (h.keep hW) hfm hfr)
 have HRI:=Lib.hid (fun W (hW:Below w.heap.size w W) => rsis_any x eA en ec vA vn vc sA sn sc W (h.keep hW) hfm hfr)
 have HM:=Lib.hid (fun W (hW:Below w.heap.size w W) => mayC_any x eA en ec vA vn vc sA sn sc W (h.keep hW) hfm)
 rw [hl] at HL
 rw [hm] at HM
 rw [show soundC x = false by unfold soundC; rw [hm]; rfl] at HSI HRI
 rw [show ofF x = [] by unfold ofF; rw [hm]; rfl,show ofE x = 1 by unfold ofE; rw [hm]; rfl] at HOF
 obtain ⟨nm,hnm⟩:∃ nm,nm = x.s:=⟨_,rfl⟩
 rw [← hnm] at HL HM HOF HSI HRI ⊢
 clear h hf hv hp hl hm hfr hfm hnm
 go_enter Tryz.func3,Tryz.ntmps3
 go_wp2_with (go_at_call 4; go_fit (HL.out _ (KitC.below_one _ _)))
 rintro e w2 ⟨rfl,hb⟩
 have HK:=Lib.hid (fun W (hW:Below w2.heap.size w2 W) => And.intro (KitC.one_block (below_two' hb hW)).1 (KitC.one_block (below_two' hb hW)).2.1)
 obtain ⟨c0,c1,c2,c3⟩:=cells_4 (HK.out _ (Below.refl _ _)).1
 clear hb
 go_wp2_with (go_at_call 6; go_fit (HOF.out _ (HK.out _ (Below.refl _ _)).2))
 rintro e w3 ⟨A,n,c,rfl,hn,hfw,hb⟩
 obtain rfl:n = 0:=hn
 have HB3:=Lib.hid hb
 clear hb hfw c0 c1 c2 c3
 obtain ⟨c0,c1,c2,c3⟩:=cells_4 (HK.out _ HB3.out).1
 have hdr:=HB3.out.drew
 go_wp2_with fail
 go_region_held3 (fun w' => w'.cell? ⟨w.heap.size,0,none⟩ = some (.string nm) ∧ w'.cell? ⟨w.heap.size,1,none⟩ = some (.slice eA en ec) ∧ w'.cell? ⟨w.heap.size,2,none⟩ = some (.slice vA vn vc) ∧ w'.cell? ⟨w.heap.size,3,none⟩ = some (.slice sA sn sc)) (go_keep)
  ((first
    | (go_at_call 7; (with_reducible refine (HSI.out _ (HK.out _ hdr).2).mono ?_); rintro e y1 ⟨rfl,hb1⟩; have f1:=below_two' hdr hb1; obtain ⟨x10,x11,x12,x13⟩:=cells_4 (HK.out _ f1).1)
    | (go_at_call 8; (with_reducible refine (HRI.out _ (HK.out _ f1).2).mono ?_); rintro e y2 ⟨rfl,hb2⟩; have f2:=below_two' f1 hb2; obtain ⟨x20,x21,x22,x23⟩:=cells_4 (HK.out _ f2).1)))
 all_goals
  have HB5:=Lib.hid f2
  clear hb1 hb2 f1 f2 hdr c0 c1 c2 c3 x10 x11 x12 x13 x20 x21 x22 x23
  obtain ⟨c0,c1,c2,c3⟩:=cells_4 (HK.out _ HB5.out).1
  go_wp2_with (go_at_call 9; go_fit (HM.out _ (HK.out _ HB5.out).2))
  rintro e w6 ⟨rfl,hb⟩
  have HB6:=Lib.hid (below_two' HB5.out hb)
  clear hb c0 c1 c2 c3
  go_wp2_with (go_at_call 5; go_fit (HAW.out _ (HK.out _ HB6.out).2))
  rintro e w7 ⟨rfl,hb⟩
  have HB7:=Lib.hid (below_two' HB6.out hb)
  clear hb
  go_wp2_with fail
  go_ret
  exact ⟨rfl,(HK.out _ HB7.out).2⟩
set_option maxRecDepth 100000 in
set_option maxHeartbeats 16000000 in
theorem soundof_ok (hl:lightC x = true) (hm:mayC x = true):Calls Tryz.prog 3 #[.agg #[.string x.s,.slice eA en ec,.slice vA vn vc,.slice sA sn sc]] w fun e w' => e = .returned (.bool true) ∧ Below w.heap.size w w':=by
 have HAW:=Lib.hid (fun W (hW:Below w.heap.size w W) => soawake_any W (hp.keep hW))
 have HL:=Lib.hid (fun W (hW:Below w.heap.size w W) => lightC_any x eA en ec vA vn vc sA sn sc W (h.keep hW) hf)
 have hfr:=fewR_of (chart_light hl) hf hv
 have hfm:=chart_fit (chart_light hl) hf
 have HOF:=Lib.hid (fun W (hW:Below w.heap.size w W) => sof_any x eA en ec vA vn vc sA sn sc W (h.keep hW) hfm hfr)
 have HSI:=Lib.hid (fun W (hW:Below w.heap.size w W) => sis_any x eA en ec vA vn vc sA sn sc W (h.keep hW) hfm hfr)
 have HRI:=Lib.hid (fun W (hW:Below w.heap.size w W) => rsis_any x eA en ec vA vn vc sA sn sc W (h.keep hW) hfm hfr)
 have HM:=Lib.hid (fun W (hW:Below w.heap.size w W) => mayC_any x eA en ec vA vn vc sA sn sc W (h.keep hW) hfm)
 have HRO:=Lib.hid (fun W (hW:Below w.heap.size w W) => rsof_any x eA en ec vA vn vc sA sn sc W (h.keep hW) hfr (mayR_of hm).1)
 rw [hl] at HL
 rw [hm] at HM
 rw [show ofF x = flawsC x by unfold ofF; rw [hm]; rfl,show ofE x = 0 by unfold ofE; rw [hm]; rfl] at HOF
 have HSD:Hid (soundC x = decide ((flawsC x).length = 0)):=Lib.hid (by unfold soundC; rw [hm]; rfl)
 have HFL:Hid ((flawsC x).length ≤ 10000000):=Lib.hid (allTo_length (n:=1000000) (fun r => brk_few15 hfr r) 10)
 obtain ⟨nm,hnm⟩:∃ nm,nm = x.s:=⟨_,rfl⟩
 obtain ⟨fl,hfl⟩:∃ fl,fl = flawsC x:=⟨_,rfl⟩
 obtain ⟨sd,hsd⟩:∃ sd,sd = soundC x:=⟨_,rfl⟩
 rw [← hnm] at HL HM HOF HSI HRI HRO ⊢
 rw [← hfl] at HOF HRO HSD HFL
 rw [← hsd] at HSI HRI HSD
 clear h hf hv hp hl hm hfr hfm hnm hfl hsd
 cases sd
 all_goals
  go_enter Tryz.func3,Tryz.ntmps3
  go_wp2_with (go_at_call 4; go_fit (HL.out _ (KitC.below_one _ _)))
  rintro e w2 ⟨rfl,hb⟩
  have HK:=Lib.hid (fun W (hW:Below w2.heap.size w2 W) => And.intro (KitC.one_block (below_two' hb hW)).1 (KitC.one_block (below_two' hb hW)).2.1)
  obtain ⟨c0,c1,c2,c3⟩:=cells_4 (HK.out _ (Below.refl _ _)).1
  clear hb
  go_wp2_with (go_at_call 6; go_fit (HOF.out _ (HK.out _ (Below.refl _ _)).2))
  rintro e w3 ⟨A,n,c,rfl,hn,hfw,hb⟩
  have HB3:=Lib.hid hb
  have HFW:=Lib.hid hfw
  have HN:=Lib.hid hn
  have hnl:n ≤ 10000000:=by rw [hn]; exact HFL.out
  have HZ:=Lib.hid (HSD.out.trans (show decide (fl.length = 0) = decide (n = 0) by rw [hn]))
  clear hb hfw hn c0 c1 c2 c3
  obtain ⟨c0,c1,c2,c3⟩:=cells_4 (HK.out _ HB3.out).1
  have hdr:=HB3.out.drew
  go_wp2_with fail
  go_region_held3 (fun w' => w'.cell? ⟨w.heap.size,0,none⟩ = some (.string nm) ∧ w'.cell? ⟨w.heap.size,1,none⟩ = some (.slice eA en ec) ∧ w'.cell? ⟨w.heap.size,2,none⟩ = some (.slice vA vn vc) ∧ w'.cell? ⟨w.heap.size,3,none⟩ = some (.slice sA sn sc)) (go_keep)
   ((first
     | (go_at_call 7; (with_reducible refine (HSI.out _ (HK.out _ hdr).2).mono ?_); rintro e y1 ⟨rfl,hb1⟩; have f1:=below_two' hdr hb1; obtain ⟨x10,x11,x12,x13⟩:=cells_4 (HK.out _ f1).1)
     | (go_at_call 8; (with_reducible refine (HRI.out _ (HK.out _ f1).2).mono ?_); rintro e y2 ⟨rfl,hb2⟩; have f2:=below_two' f1 hb2; obtain ⟨x20,x21,x22,x23⟩:=cells_4 (HK.out _ f2).1)))
  all_goals
   have HB5:=Lib.hid f2
   have HB35:=Lib.hid (below_two' hb1 hb2)
   clear hb1 hb2 f1 f2 hdr c0 c1 c2 c3 x10 x11 x12 x13 x20 x21 x22 x23
   obtain ⟨c0,c1,c2,c3⟩:=cells_4 (HK.out _ HB5.out).1
   go_wp2_with (go_at_call 9; go_fit (HM.out _ (HK.out _ HB5.out).2))
   rintro e w6 ⟨rfl,hb⟩
   have HB6:=Lib.hid (below_two' HB5.out hb)
   have HB36:=Lib.hid (below_two' HB35.out hb)
   clear hb c0 c1 c2 c3
   obtain ⟨c0,c1,c2,c3⟩:=cells_4 (HK.out _ HB6.out).1
   go_wp2_with (go_at_call 11; go_fit (HRO.out _ (HK.out _ HB6.out).2))
   rintro e w7 ⟨A2,n2,c2',rfl,hn2,hfw2,hb⟩
   have HB7:=Lib.hid (below_two' HB6.out hb)
   have HF1:=Lib.hid ((HFW.out.keep (undrawn HB36.out)).keep hb)
   have HF2:=Lib.hid hfw2
   clear hb hfw2 hn2 c0 c1 c2 c3
   go_wp2_with (go_at_call 10; go_fit (fwsame_any A A2 n n2 c c2' fl _ HF1.out HF2.out (by omega)))
   rintro e w8 ⟨rfl,hb⟩
   have HB8:=Lib.hid (below_two' HB7.out hb)
   clear hb
   obtain ⟨c0,c1,c2,c3⟩:=cells_4 (HK.out _ HB8.out).1
   go_wp2_with (go_at_call 7; go_fit (HSI.out _ (HK.out _ HB8.out).2))
   rintro e w9 ⟨rfl,hb⟩
   have HB9:=Lib.hid (below_two' HB8.out hb)
   clear hb c0 c1 c2 c3
   have ge:((n:Int) == 0) = decide (n = 0):=by rw [Bool.eq_iff_iff]; simp
   rw [← HZ.out] at ge
   go_wp2_with (go_at_call 5; go_fit (HAW.out _ (HK.out _ HB9.out).2))
   rintro e w10 ⟨rfl,hb⟩
   have HB10:=Lib.hid (below_two' HB9.out hb)
   clear hb
   go_wp2_with fail
   go_ret
   exact ⟨rfl,(HK.out _ HB10.out).2⟩
end
theorem walk_SoundOf (x:Cx) (eA:Option Addr) (en ec:Nat) (vA:Option Addr) (vn vc:Nat) (sA:Option Addr) (sn sc:Nat) (w:World) (hp:SwIn w) (h:ChIn w (.slice eA en ec) (.slice vA vn vc) (.slice sA sn sc) x) (hf:FitC x ∧ ∀ v ∈ x.vars,VFit v) :
 Calls Tryz.prog 3 #[.agg #[.string x.s,.slice eA en ec,.slice vA vn vc,.slice sA sn sc]] w fun e w' => e = .returned (.bool true) ∧ Below w.heap.size w w':=by
 cases hl:lightC x with
 | false => exact soundof_no x eA en ec vA vn vc sA sn sc w h hf.1 hp hl
 | true =>
   cases hm:mayC x with
   | false => exact soundof_bad x eA en ec vA vn vc sA sn sc w h hf.1 hf.2 hp hl hm
   | true => exact soundof_ok x eA en ec vA vn vc sA sn sc w h hf.1 hf.2 hp hl hm
end Go.Proofs.YtejbpleghjgpbaaGreatDoor
namespace Go.Proofs.YtejbpleghjgpbaaGreatDoor
open Go.RowKit
theorem cells_of_strs {H:Type} {enc:TypeId × Value → H} {P:Program} {w:World} {base:Nat} {sp:Nat → Bool} {held:Bool} {fuel:Nat} {t e:TypeId} {n:Nat} {cs:List Value} {bs:List (List UInt8)} {p:List MemPlace}
 (ht:P.underlying t = some (.array n e)) (he:P.underlying e = some .string) (hce:P.cellsOf e = 1) (hct:P.cellsOf t = n)
 (h:DataW.trod enc P w base sp held fuel t cs = some (.agg (bs.map fun b => .lit (.string b)),p)):cs = bs.map fun b => Value.string ⟨b.toArray⟩:=by
 obtain ⟨xs,m,rfl,hx,hl,hxl,hel⟩:=DataW.trod_array ht h
 simp only [Prod.mk.injEq,DataW.agg.injEq] at hx
 have hxs:=hx.1
 have hbl:bs.length = n:=by
  have:=congrArg List.length hxs
  simp at this
  omega
 rw [hct] at hl
 apply List.ext_getElem?
 intro i
 by_cases hi:i < n
 ·obtain ⟨b,hb⟩:∃ b,xs[i]? = some b:=get_some (by omega)
  have hf:=(hel i hi).trans hb
  rw [hce,Nat.mul_one] at hf
  obtain ⟨s,hc,rfl,_⟩:=DataW.trod_string he hf
  have h1:cs[i]? = some (.string s):=by
   have:=congrArg (·[0]?) hc
   simpa [List.getElem?_take,List.getElem?_drop] using this
  have h2:(xs.map (·.1))[i]? = some (DataW.lit (.string s.data.toList):DataW H):=by simp [hb]
  rw [← hxs] at h2
  simp only [List.getElem?_map,Option.map_eq_some_iff,DataW.lit.injEq,Lit.string.injEq] at h2
  obtain ⟨z,hz,rfl⟩:=h2
  simp [h1,hz]
 ·rw [List.getElem?_eq_none (by omega),List.getElem?_eq_none (by simp; omega)]
end Go.Proofs.YtejbpleghjgpbaaGreatDoor
namespace Go.Proofs.YtejbpleghjgpbaaGreatDoor
open Go.RowKit
set_option maxRecDepth 100000
def swordsB:List (List UInt8):=[[],[101,118,101,110,116],[118,97,114],[114,97,110,103,101],[110,97,109,101],[107,105,100,115],[111,110],[116,97,114,103,101,116],[103,117,97,114,100],[97,99,116,115],[101,100,103,101]]
theorem gSwords : Tryz.prog.globalNamed "semblance/sound.words" = some 0 := by kernel_rfl
theorem tSwords:(Tryz.prog.globals[0]?).map (·.type) = some 101:=by kernel_rfl
theorem swords_in {W : World} {rest : List (String × DataW Unit)} (h : laidMet Tryz.prog (("semblance/sound.words", Rows.laid_semblance_sound_words) :: rest) W) : SwIn W := by
 obtain ⟨ps,⟨g',t',cs,fuel,p,q,hg',ht',hvar,hd,_,_⟩,_⟩:=h
 obtain rfl:=Option.some.inj (gSwords.symm.trans hg')
 obtain rfl:=Option.some.inj (tSwords.symm.trans ht')
 have hc:=cells_of_strs (bs:=swordsB) Tryz.underlying101 Tryz.underlying9 (by kernel_rfl) (by kernel_rfl) hd
 have e:cs = swordsV:=Array.toList_inj.mp hc
 subst e
 unfold World.var? at hvar
 rw [gSwords] at hvar
 simp only [Option.bind_some] at hvar
 split at hvar
 ·rename_i cs' T fr hb
  cases hvar
  exact ⟨T,fr,hb⟩
 ·cases hvar
end Go.Proofs.YtejbpleghjgpbaaGreatDoor