/- RulesSet, RulesNames, RulesKnown, RulesExpr, joined. -/
import Derived.Test.YtapnomdckglehaaGreatMAtlasTurns10
import Derived.Test.YtapnomdckglehaaGreatMAtlasTurns14
import Derived.Test.YtapnomdckglehaaGreatMAtlasTurns02
import Derived.Test.YtapnomdckglehaaGreatMAtlasTurns00
import Derived.Maps.OwnSet
import Derived.Test.YtapnomdckglehaaGreatMAtlasTurns05
import Derived.Test.YtapnomdckglehaaGreatMAtlasTurns11
import Derived.Deep.DeepFit
import Derived.Deep.RegionHeld3
import Derived.Lib.QuietBelow
import Derived.BigQuiet
namespace Go.Proofs.YtapnomdckglehaaGreat
open Go.RowKit NamesSpec Go.Lib Go.Maps RulesSpec
set_option maxRecDepth 100000
theorem zero_unit (w:World):(zeroValue 49).run Tryz.prog w = .ok (.agg #[]) w:=by kernel_rfl
theorem build_unit (w:World):(Instr.build 49 #[]).run Tryz.prog w = .ok (.agg #[]) w:=by kernel_rfl
def SetAt (w:World) (B:Nat) (l:List ByteArray):Prop:=∃ (n:Nat) (D:DataW Unit),w.ownsMap Tryz.prog 9 unitElem B n D ∧ ∀ s,Maps.has D (keyL s) = hasS l s
theorem SetAt.keep {w w':World} {B:Nat} {l:List ByteArray} (h:SetAt w B l) (hb:Below w.heap.size w w'):SetAt w' B l:=by
 obtain ⟨n,D,⟨es,clock,hk,r⟩,hs⟩:=h
 exact ⟨n,D,⟨es,clock,(hb.block B (Array.getElem?_eq_some_iff.1 hk).1).trans hk,r⟩,hs⟩
theorem SetAt.lt {w:World} {B:Nat} {l:List ByteArray} (h:SetAt w B l):B < w.heap.size:=by
 obtain ⟨n,D,h,_⟩:=h
 exact h.lt
def Holds (l:List ByteArray) (k:Nat) (D:DataW Unit):Prop:=IsMap D ∧ ∀ s,Maps.has D (keyL s) = hasS (l.take k) s
theorem holds_start (l:List ByteArray):Holds l 0 (.map []):=⟨isMap_empty,fun _ => rfl⟩
theorem hasS_snoc (l:List ByteArray) (x s:ByteArray):hasS (l ++ [x]) s = (hasS l s || decide (x = s)):=by unfold hasS; rw [List.any_append]; simp
theorem holds_next {l:List ByteArray} {k:Nat} {D:DataW Unit} {s:ByteArray} (h:Holds l k D) (hs:l[k]? = some s):Holds l (k + 1) (D.put (keyL s) (.agg [])):=by
 refine ⟨h.1.put _ _,fun x => ?_⟩
 rw [take_next hs,hasS_snoc,← h.2 x]
 by_cases hx:s = x
 ·subst hx
  rw [has_put_same h.1 (keyL_is s)]
  simp
 ·rw [has_put_other (fun e => hx (keyL_inj e).symm)]
  simp [hx]
def RetSet (W:World) (l:List ByteArray) (e:Ending) (w':World):Prop:=∃ B,e = .returned (.map (some B)) ∧ SetAt w' B l ∧ Below W.heap.size W w'
def SetRel (W:World) (l:List ByteArray) (n:Nat) (iv:Value) (wr:World):Prop :=
 ∃ (k:Nat) (D:DataW Unit),k ≤ n ∧ iv = .int .i64 k ∧ Holds l k D ∧ wr.ownsMap Tryz.prog 9 unitElem W.heap.size k D ∧ Below W.heap.size W wr
theorem set_next {W wr w1:World} {l:List ByteArray} {n k:Nat} {D:DataW Unit} (hk:k < n) (hD:Holds l (k + 1) D) (hown:w1.ownsMap Tryz.prog 9 unitElem W.heap.size (k + 1) D) (hg:wr.grownBy w1 (some W.heap.size)) (hb:Below W.heap.size W wr) :
 SetRel W l n (.int .i64 ((k:Int) + 1)) w1 :=
 ⟨k + 1,D,hk,by simp,hD,hown,hb.grown hg hb.size (fun j hj => by cases hj; exact Nat.le_refl _)⟩
set_option maxHeartbeats 1600000 in
theorem setOf_any (v:Value) (l:List ByteArray) (w:World) (h:Rd w v (strV l)) (hl:l.length ≤ 4294967296) (hs:∀ s ∈ l,s.size ≤ maxLen) :
 Calls Tryz.prog 154 #[v] w (RetSet w l):=by
 obtain ⟨A,n,c,rfl,hn,hc,hA⟩:=h.strs
 have HA:=Lib.hid hA
 have HN:=Lib.hid hn
 have HS:=Lib.hid hs
 have hm':n ≤ 4294967296:=by omega
 have hmm:=makeMap_hint (kd:=.i64) Tryz.underlying160
 have hbu:=build_unit
 clear hA hn h hc hl hs
 go_enter Tryz.func154,Tryz.ntmps154
 go_wp2
 go_loopw [11] (fun i wr => SetRel w l n i wr) (fun i _ => n - (Go.RowKit.intOf i).toNat)
 case atStart => exact ⟨0,.map [],Nat.zero_le _,rfl,holds_start l,World.ownsMap_made _ _ _ _,(Below.refl _ _).alloc (Nat.le_refl _) _⟩
 case round =>
  obtain ⟨k,D,hk,rfl,hD,hown,hbw⟩:=hrel
  by_cases hlt:k < n
  ·obtain ⟨b,off,rfl,hb,hcell⟩:=HA.out (by omega)
   obtain ⟨x,hx⟩:∃ x,l[k]? = some x:=get_some (by have:=HN.out; omega)
   have hck:wr.cell? ⟨b,off + k,none⟩ = some (.string x):=(hbw.cell (by exact hb)).trans (hcell k x hx)
   have hkey:keyOf Tryz.prog 9 (.string x) = some (keyL x):=Go.WideMaps.keyOf_string_mk Tryz.underlying9 (HS.out x (List.mem_of_getElem? hx))
   have HD:=Lib.hid (holds_next hD hx)
   have HW:Hid (Below w.heap.size w wr):=Lib.hid hbw
   clear hcell hx hD hbw
   go_wp2_with (at_mapUpdate; refine wpList_mapUpdate_own _ rfl _ _ _ 160 rfl 9 49 law_str Tryz.underlying160 _ w.heap.size k _ rfl hown (by unfold maxLen; omega) _ _ _ rfl rfl hkey _ [] unitElem_mk ?_; intro w1 hown1 hgrow1)
   go_roundw
   case rel => exact set_next hlt HD.out hown1 hgrow1 HW.out
   case measure => simp [Go.RowKit.intOf]; omega
  ·obtain rfl:k = n:=by omega
   have HF:Hid (∀ s,Maps.has D (keyL s) = hasS l s):=Lib.hid (fun s => by rw [hD.2 s,List.take_of_length_le (by rw [HN.out]; omega)])
   have HW:Hid (Below w.heap.size w wr):=Lib.hid hbw
   have HO:=Lib.hid hown
   clear hD hbw hown
   go_wp2
   go_ret
   exact ⟨w.heap.size,rfl,⟨_,D,HO.out,HF.out⟩,HW.out⟩
set_option maxHeartbeats 800000 in
theorem has_in (B:Nat) (l:List ByteArray) (s:ByteArray) (w:World) (h:SetAt w B l) (hs:s.size ≤ maxLen) :
 Calls Tryz.prog 175 #[.map (some B),.string s] w (RetB w (hasS l s)):=by
 obtain ⟨n,D,hown,hD⟩:=h
 have hkey:keyOf Tryz.prog 9 (.string s) = some (keyL s):=Go.WideMaps.keyOf_string_mk Tryz.underlying9 hs
 obtain ⟨r,hr⟩:∃ r,r = Maps.has D (keyL s):=⟨_,rfl⟩
 rw [← hD s,← hr]
 have HR:=Lib.hid hr
 clear hD hr hs
 go_enter Tryz.func175,Tryz.ntmps175
 go_wp2_with (at_lookup; refine wpList_lookup_own_unit _ rfl _ _ 160 rfl 9 49 law_str Tryz.underlying160 (zero_unit _) B n D rfl hown _ _ rfl hkey ?_; rw [← HR.out])
 go_ret
 exact ⟨rfl,KitC.below_one _ _⟩
end Go.Proofs.YtapnomdckglehaaGreat
namespace Go.Proofs.YtapnomdckglehaaGreat
open Go.RowKit NamesSpec EvalSpec SynSpec RulesSpec PrintSpec
set_option maxRecDepth 100000
def RetTx (W:World) (s:ByteArray) (e:Ending) (w':World):Prop:=e = .returned (.string s) ∧ Below W.heap.size W w'
set_option maxHeartbeats 400000 in
theorem varName_any (v:Vr) (w:World):Calls Tryz.prog 99 #[.agg #[.string v.s,.int .i64 v.lo,.int .i64 v.hi,.int .i64 v.ini]] w (RetTx w v.s):=by
 obtain ⟨s,lo,hi,ini⟩:=v
 go_enter Tryz.func99,Tryz.ntmps99
 go_wp2_with fail
 go_ret
 exact ⟨rfl,KitC.below_one _ _⟩
set_option maxHeartbeats 400000 in
theorem stateName_any (s:ByteArray) (k p:Int) (a3:Option Addr) (n3 m3:Nat) (a4:Option Addr) (n4 m4:Nat) (a5:Option Addr) (n5 m5:Nat) (w:World) :
 Calls Tryz.prog 102 #[.agg #[.string s,.int .i64 k,.int .i64 p,.slice a3 n3 m3,.slice a4 n4 m4,.slice a5 n5 m5]] w (RetTx w s):=by
 go_enter Tryz.func102,Tryz.ntmps102
 go_wp2_with fail
 go_ret
 exact ⟨rfl,KitC.below_one _ _⟩
def SaidRel (W:World) (l:List ByteArray) (n:Nat) (p i:Value) (wr:World):Prop:=∃ k:Nat,k ≤ n ∧ i = .int .i64 k ∧ RowS W wr p (l.take k)
theorem said_next {l:List ByteArray} {k:Nat} {s:ByteArray} (h:l[k]? = some s):l.take (k + 1) = l.take k ++ [s]:=take_next h
set_option maxHeartbeats 4000000 in
theorem saidVars_any (A:Option Addr) (n c:Nat) (l:List Vr) (w:World) (h:RdV w (.slice A n c) l) (hm:n ≤ 1000000) :
 Calls Tryz.prog 98 #[.slice A n c,.func (.func 99) #[] #[]] w (RetStrs w (l.map (·.s))):=by
 have hn:=h.len.1
 have HV:=Lib.hid (fun W (hW:Below w.heap.size w W) => RdV.vars (w:=W) (Rdk.keep h hW))
 have HN:=Lib.hid hn
 obtain ⟨i0,hi,hz0,hz1,hz2⟩:=info_parts inf_str
 have HI:=Lib.hid (And.intro hi (And.intro hz0 (And.intro hz1 hz2)))
 clear h hn hi hz0 hz1 hz2
 go_enter Tryz.func98,Tryz.ntmps98
 go_wp2_with fail
 go_loopw [5,7,10] (fun p _ i wr => SaidRel w (l.map (·.s)) n p i wr) (fun _ _ i _ => n - (intOf i).toNat)
 case atStart => exact ⟨0,Nat.zero_le _,rfl,RowS.nil _ _ (Below.refl _ _)⟩
 case round =>
  obtain ⟨k,hk,rfl,hrow⟩:=hrel
  have HR:=Lib.hid hrow
  clear hrow
  by_cases hlt:k < n
  ·obtain ⟨v,hv⟩:∃ v,l[k]? = some v:=get_some (by rw [← HN.out]; exact hlt)
   obtain ⟨b,off,rfl,hb,c0,c1,c2,c3⟩:=VarsIn.at_ (HV.out _ HR.out.2) hv
   have HY:Hid ((l.map (·.s)).take (k + 1) = (l.map (·.s)).take k ++ [v.s]):=Lib.hid (said_next (by rw [List.getElem?_map,hv]; rfl))
   have hl:((l.map (·.s)).take k).length ≤ k:=List.length_take_le _ _
   have HL1:Hid (((l.map (·.s)).take k).length + (strV [v.s]).length ≤ maxLen):=Lib.hid (by simp [maxLen]; omega)
   have HL2:Hid ((((l.map (·.s)).take k).length + (strV [v.s]).length) * 16 ≤ 140737488355328):=Lib.hid (by simp; omega)
   have HX:=Lib.hid (fun W => varName_any v W)
   obtain ⟨s,lo,hi',ini⟩:=v
   simp only at c0 c1 c2 c3
   have HRA:=Lib.hid (HR.out.alloc (.cells #[.string s,.int .i64 lo,.int .i64 hi',.int .i64 ini] 68))
   clear hv hl
   go_wp2_with (go_at_call 99; go_fit (HX.out _))
   rintro e w2 ⟨rfl,hb2⟩
   have HR2:=Lib.hid (HRA.out.keep hb2)
   have HSZ:Hid (w.heap.size ≤ w2.heap.size):=Lib.hid HR2.out.2.size
   clear hb2
   go_wp2_with (at_builtin; refine wpList_append_rd _ rfl (.tmp 14) (.tmp 18) _ rfl w.heap.size 9 i0 (.string ByteArray.empty) 16 Tryz.underlying22 HI.out.1 HI.out.2.1 HI.out.2.2.1 HI.out.2.2.2 rfl _ _ _ rfl (HR2.out.1.alloc _) _ (strV [s]) rfl (lit_here rfl rfl rfl) (strV_one _) HL1.out HL2.out ?_ ?_; (have:=HSZ.out; simp; omega); intro p2 w3 hrow2 hg2 _; have HR3:=Lib.hid (RowS.add HR2.out hrow2 hg2); clear hrow2 hg2)
   go_roundw
   case rel => exact ⟨k + 1,hlt,by simp,by rw [HY.out]; exact HR3.out⟩
   case measure => simp [intOf]; omega
  ·obtain rfl:k = n:=by omega
   go_wp2_with fail
   go_ret
   have hr:=HR.out
   rw [List.take_of_length_le (by rw [List.length_map,← HN.out]; omega)] at hr
   exact ⟨_,rfl,hr.read,hr.2⟩
set_option maxHeartbeats 4000000 in
theorem saidSts_any (A:Option Addr) (n c:Nat) (l:List Sx) (w:World) (h:StsP w (.slice A n c) l) (hm:n ≤ 1000000) :
 Calls Tryz.prog 101 #[.slice A n c,.func (.func 102) #[] #[]] w (RetStrs w (l.map (·.s))):=by
 have hn:=h.len.1
 have HV:=Lib.hid (fun W (hW:Below w.heap.size w W) => h.keep hW)
 have HN:=Lib.hid hn
 obtain ⟨i0,hi,hz0,hz1,hz2⟩:=info_parts inf_str
 have HI:=Lib.hid (And.intro hi (And.intro hz0 (And.intro hz1 hz2)))
 clear h hn hi hz0 hz1 hz2
 go_enter Tryz.func101,Tryz.ntmps101
 go_wp2_with fail
 go_loopw [5,7,10] (fun p _ i wr => SaidRel w (l.map (·.s)) n p i wr) (fun _ _ i _ => n - (intOf i).toNat)
 case atStart => exact ⟨0,Nat.zero_le _,rfl,RowS.nil _ _ (Below.refl _ _)⟩
 case round =>
  obtain ⟨k,hk,rfl,hrow⟩:=hrel
  have HR:=Lib.hid hrow
  clear hrow
  by_cases hlt:k < n
  ·obtain ⟨v,hv⟩:∃ v,l[k]? = some v:=get_some (by rw [← HN.out]; exact hlt)
   obtain ⟨b,off,a3,n3,m3,a4,n4,m4,a5,n5,m5,rfl,hb,c0,c1,c2,c3,c4,c5,-,-,-⟩:=(HV.out _ HR.out.2).at_ hv
   have HY:Hid ((l.map (·.s)).take (k + 1) = (l.map (·.s)).take k ++ [v.s]):=Lib.hid (said_next (by rw [List.getElem?_map,hv]; rfl))
   have hl:((l.map (·.s)).take k).length ≤ k:=List.length_take_le _ _
   have HL1:Hid (((l.map (·.s)).take k).length + (strV [v.s]).length ≤ maxLen):=Lib.hid (by simp [maxLen]; omega)
   have HL2:Hid ((((l.map (·.s)).take k).length + (strV [v.s]).length) * 16 ≤ 140737488355328):=Lib.hid (by simp; omega)
   obtain ⟨s,kd,pr,en,ex,tr⟩:=v
   simp only at c0 c1 c2
   have HX:=Lib.hid (fun W => stateName_any s kd pr a3 n3 m3 a4 n4 m4 a5 n5 m5 W)
   have HRA:=Lib.hid (HR.out.alloc (.cells #[.string s,.int .i64 kd,.int .i64 pr,.slice a3 n3 m3,.slice a4 n4 m4,.slice a5 n5 m5] 72))
   clear hv hl
   go_wp2_with (go_at_call 102; go_fit (HX.out _))
   rintro e w2 ⟨rfl,hb2⟩
   have HR2:=Lib.hid (HRA.out.keep hb2)
   have HSZ:Hid (w.heap.size ≤ w2.heap.size):=Lib.hid HR2.out.2.size
   clear hb2
   go_wp2_with (at_builtin; refine wpList_append_rd _ rfl (.tmp 14) (.tmp 18) _ rfl w.heap.size 9 i0 (.string ByteArray.empty) 16 Tryz.underlying22 HI.out.1 HI.out.2.1 HI.out.2.2.1 HI.out.2.2.2 rfl _ _ _ rfl (HR2.out.1.alloc _) _ (strV [s]) rfl (lit_here rfl rfl rfl) (strV_one _) HL1.out HL2.out ?_ ?_; (have:=HSZ.out; simp; omega); intro p2 w3 hrow2 hg2 _; have HR3:=Lib.hid (RowS.add HR2.out hrow2 hg2); clear hrow2 hg2)
   go_roundw
   case rel => exact ⟨k + 1,hlt,by simp,by rw [HY.out]; exact HR3.out⟩
   case measure => simp [intOf]; omega
  ·obtain rfl:k = n:=by omega
   go_wp2_with fail
   go_ret
   have hr:=HR.out
   rw [List.take_of_length_le (by rw [List.length_map,← HN.out]; omega)] at hr
   exact ⟨_,rfl,hr.read,hr.2⟩
end Go.Proofs.YtapnomdckglehaaGreat
namespace Go.Proofs.YtapnomdckglehaaGreat
open Go.RowKit NamesSpec EvalSpec SynSpec RulesSpec PrintSpec
set_option maxRecDepth 100000
theorem SetAt.but {w w':World} {B k:Nat} {l:List ByteArray} {cs:Array Value} {T:TypeId} (h:SetAt w B l) (hg:w.grownBy w' (some k)) (hk:w.heap[k]? = some (.cells cs T (0,0))):SetAt w' B l:=by
 obtain ⟨n,D,⟨es,clock,hb,r⟩,hs⟩:=h
 refine ⟨n,D,⟨es,clock,(hg.block B (Array.getElem?_eq_some_iff.1 hb).1 (fun e => ?_)).trans hb,r⟩,hs⟩
 cases e
 rw [hb] at hk
 cases hk
structure WdIn (w:World) (a b c:Nat) (es vs ss:List ByteArray):Prop where
 es:SetAt w a es
 vs:SetAt w b vs
 ss:SetAt w c ss
theorem WdIn.keep {w w':World} {a b c:Nat} {es vs ss:List ByteArray} (h:WdIn w a b c es vs ss) (hb:Below w.heap.size w w'):WdIn w' a b c es vs ss:=⟨h.es.keep hb,h.vs.keep hb,h.ss.keep hb⟩
def RetW (W:World) (es vs ss:List ByteArray) (e:Ending) (w':World):Prop:=∃ a b c,e = .returned (.agg #[.map (some a),.map (some b),.map (some c)]) ∧ WdIn w' a b c es vs ss ∧ Below W.heap.size W w'
set_option maxHeartbeats 400000 in
theorem hasAll_in (B:Nat) (all:List ByteArray) (v:Value) (l:List ByteArray) (w:World) (h:SetAt w B all) (hv:Rd w v (strV l)) (hl:l.length ≤ 4294967296) (hs:∀ s ∈ l,s.size ≤ maxLen) :
 Calls Tryz.prog 181 #[.map (some B),v] w (RetB w (allIn l all)):=by
 obtain ⟨A,n,c,rfl,hn,hc,hA⟩:=hv.strs
 have HA:=Lib.hid hA
 have HN:=Lib.hid hn
 have HS:=Lib.hid hs
 have HB:=Lib.hid h
 have hm':n ≤ 4294967296:=by omega
 clear hA hn h hc hl hs hv
 go_enter Tryz.func181,Tryz.ntmps181
 go_wp2_with fail
 go_loopw [9] (fun i wr => ∃ k:Nat,k ≤ n ∧ i = .int .i64 k ∧ Hid (allIn (l.take k) all = true ∧ Below w.heap.size w wr)) (fun i _ => n - (intOf i).toNat)
 case atStart => exact ⟨0,Nat.zero_le _,rfl,Lib.hid ⟨rfl,Below.refl _ _⟩⟩
 case round =>
  obtain ⟨k,hk,rfl,HR⟩:=hrel
  by_cases hlt:k < n
  ·obtain ⟨b,off,rfl,hb,hcell⟩:=HA.out (by omega)
   obtain ⟨x,hx⟩:∃ x,l[k]? = some x:=get_some (by have:=HN.out; omega)
   have hck:wr.cell? ⟨b,off + k,none⟩ = some (.string x):=(HR.out.2.cell (by exact hb)).trans (hcell k x hx)
   obtain ⟨r,hr⟩:∃ r,r = hasS all x:=⟨_,rfl⟩
   have HC:=Lib.hid (fun W (hW:Below w.heap.size w W) => has_in B all x W (HB.out.keep hW) (HS.out x (List.mem_of_getElem? hx)))
   rw [← hr] at HC
   cases r with
   | false =>
     have HE:Hid (allIn l all = false):=Lib.hid (by unfold allIn; rw [List.all_eq_false]; exact ⟨x,List.mem_of_getElem? hx,by rw [← hr]; simp⟩)
     clear hcell hx hr
     go_wp2_with (go_at_call 175; go_fit (HC.out _ HR.out.2))
     rintro e w2 ⟨rfl,hb2⟩
     have HB2:=Lib.hid (below_two' HR.out.2 hb2)
     clear hb2
     go_wp2_with fail
     go_ret
     exact ⟨ret_bool HE.out.symm,HB2.out⟩
   | true =>
     have HE:Hid (allIn (l.take (k + 1)) all = true):=Lib.hid (by have h1:=HR.out.1; unfold allIn at h1 ⊢; rw [take_next hx,List.all_append,h1]; simp [← hr])
     clear hcell hx hr
     go_wp2_with (go_at_call 175; go_fit (HC.out _ HR.out.2))
     rintro e w2 ⟨rfl,hb2⟩
     have HB2:=Lib.hid (below_two' HR.out.2 hb2)
     clear hb2
     go_wp2_with fail
     go_roundw
     case rel => exact ⟨k + 1,hlt,by simp,Lib.hid ⟨HE.out,HB2.out⟩⟩
     case measure => simp [intOf]; omega
  ·obtain rfl:k = n:=by omega
   have HE:Hid (allIn l all = true):=Lib.hid (by have h1:=HR.out.1; rwa [List.take_of_length_le (by rw [HN.out]; omega)] at h1)
   go_wp2_with fail
   go_ret
   exact ⟨ret_bool HE.out.symm,HR.out.2⟩
set_option maxRecDepth 100000 in
set_option maxHeartbeats 16000000 in
theorem known_any (x:Cx) (eA:Option Addr) (en ec:Nat) (vA:Option Addr) (vn vc:Nat) (sA:Option Addr) (sn sc:Nat) (w:World) (h:ChIn w (.slice eA en ec) (.slice vA vn vc) (.slice sA sn sc) x)
 (h1:x.evs.length ≤ 1000000) (h2:x.vars.length ≤ 1000000) (h3:x.sts.length ≤ 1000000) (g1:∀ s ∈ x.evs,s.size ≤ maxLen) (g2:∀ v ∈ x.vars,v.s.size ≤ maxLen) (g3:∀ s ∈ x.sts,s.s.size ≤ maxLen) :
 Calls Tryz.prog 123 #[.agg #[.string x.s,.slice eA en ec,.slice vA vn vc,.slice sA sn sc]] w (RetW w x.evs (vnC x) (snC x)):=by
 have q2:=h.vars.len.1
 have q3:=h.sts.len.1
 have HSE:=Lib.hid (fun W (hW:Below w.heap.size w W) => setOf_any (.slice eA en ec) x.evs W (Rd.keep h.evs hW) (by omega) g1)
 have HSV:=Lib.hid (fun W (hW:Below w.heap.size w W) => saidVars_any vA vn vc x.vars W (Rdk.keep h.vars hW) (by omega))
 have HSS:=Lib.hid (fun W (hW:Below w.heap.size w W) => saidSts_any sA sn sc x.sts W (h.sts.keep hW) (by omega))
 have HTV:=Lib.hid (fun v W (hv:Rd W v (strV (vnC x))) => setOf_any v (vnC x) W hv (by unfold vnC; rw [List.length_map]; omega) (fun s hs => by obtain ⟨v,hv,rfl⟩:=List.mem_map.1 hs; exact g2 v hv))
 have HTS:=Lib.hid (fun v W (hv:Rd W v (strV (snC x))) => setOf_any v (snC x) W hv (by unfold snC; rw [List.length_map]; omega) (fun s hs => by obtain ⟨v,hv,rfl⟩:=List.mem_map.1 hs; exact g3 v hv))
 obtain ⟨es,hes⟩:∃ es,es = x.evs:=⟨_,rfl⟩
 obtain ⟨vs,hvs⟩:∃ vs,vs = vnC x:=⟨_,rfl⟩
 obtain ⟨ss,hss⟩:∃ ss,ss = snC x:=⟨_,rfl⟩
 rw [show x.vars.map (·.s) = vs from hvs.symm] at HSV
 rw [show x.sts.map (·.s) = ss from hss.symm] at HSS
 rw [← hes] at HSE
 rw [← hvs] at HTV
 rw [← hss] at HTS
 rw [← hes,← hvs,← hss]
 obtain ⟨nm,hnm⟩:∃ nm,nm = x.s:=⟨_,rfl⟩
 rw [← hnm]
 obtain ⟨W1,hW1⟩:∃ W1,(w.alloc (.cells #[.string nm,.slice eA en ec,.slice vA vn vc,.slice sA sn sc] 26)).alloc (.cells #[.map none,.map none,.map none] 162) = W1:=⟨_,rfl⟩
 have hb1:Below w.heap.size w W1:=by rw [← hW1]; exact KitC.below_pair _ _ _
 have hk1:W1.heap[w.heap.size]? = some (.cells #[.string nm,.slice eA en ec,.slice vA vn vc,.slice sA sn sc] 26):=by rw [← hW1]; exact (heap_alloc_old _ _ (by simp)).trans (heap_alloc_new _ _)
 have hk2:W1.heap[w.heap.size + 1]? = some (.cells #[.map none,.map none,.map none] 162):=by rw [← hW1]; have:=heap_alloc_new (w.alloc (.cells #[.string nm,.slice eA en ec,.slice vA vn vc,.slice sA sn sc] 26)) (.cells #[.map none,.map none,.map none] 162); rwa [World.size_alloc] at this
 have HK:=Lib.hid (fun W (hW:Below W1.heap.size W1 W) => And.intro (KitC.block_on hk1 hW) (KitC.block_on hk2 hW))
 have HW1:=Lib.hid hW1
 have HB1:=Lib.hid hb1
 obtain ⟨c0,c1,c2,c3⟩:=cells_4 hk1
 clear h h1 h2 h3 g1 g2 g3 q2 q3 hes hvs hss hnm hW1 hb1 hk1 hk2
 go_enter Tryz.func123,Tryz.ntmps123
 go_wp2_with fail
 rw [HW1.out]
 have hdr:Below W1.heap.size W1 W1.drew:=(Below.refl _ _).drew
 obtain ⟨s0,s1,s2⟩:=cells_3 (HK.out _ (Below.refl _ _)).2
 obtain ⟨t0,t1,t2⟩:=free_3 (HK.out _ (Below.refl _ _)).2
 go_region_held3 (fun w' => w'.cell? ⟨w.heap.size,1,none⟩ = some (.slice eA en ec) ∧ w'.cell? ⟨w.heap.size,2,none⟩ = some (.slice vA vn vc) ∧ w'.cell? ⟨w.heap.size,3,none⟩ = some (.slice sA sn sc)) (go_keep)
  ((first
    | (go_at_call 98; (with_reducible refine (HSV.out _ (below_two' HB1.out (by assumption))).mono ?_); rintro e yv ⟨vv,rfl,hv,bv⟩; have fv:=below_two' (show Below W1.heap.size W1 _ by assumption) bv; obtain ⟨pv0,pv1,pv2,pv3⟩:=cells_4 (HK.out _ fv).1; obtain ⟨sv0,sv1,sv2⟩:=cells_3 (HK.out _ fv).2; obtain ⟨tv0,tv1,tv2⟩:=free_3 (HK.out _ fv).2)
    | (go_at_call 101; (with_reducible refine (HSS.out _ (below_two' HB1.out (by assumption))).mono ?_); rintro e ys ⟨us,rfl,hs,bs⟩; have fs:=below_two' (show Below W1.heap.size W1 _ by assumption) bs; obtain ⟨ps0,ps1,ps2,ps3⟩:=cells_4 (HK.out _ fs).1; obtain ⟨ss0,ss1,ss2⟩:=cells_3 (HK.out _ fs).2; obtain ⟨ts0,ts1,ts2⟩:=free_3 (HK.out _ fs).2)
    | (go_at_call 154; (with_reducible refine (HSE.out _ (below_two' HB1.out (by assumption))).mono ?_); rintro e ya ⟨a,rfl,ha,ba⟩; have fa:=below_two' (show Below W1.heap.size W1 _ by assumption) ba; obtain ⟨pa0,pa1,pa2,pa3⟩:=cells_4 (HK.out _ fa).1; obtain ⟨sa0,sa1,sa2⟩:=cells_3 (HK.out _ fa).2; obtain ⟨ta0,ta1,ta2⟩:=free_3 (HK.out _ fa).2)
    | (go_at_call 154; (with_reducible refine (HTV.out vv _ (Rd.keep hv (by first | exact Below.refl _ _ | assumption | exact below_two' (by assumption) (by assumption) | exact below_two' (by assumption) (below_two' (by assumption) (by assumption)) | exact below_two' (by assumption) (below_two' (by assumption) (below_two' (by assumption) (by assumption)))))).mono ?_); rintro e yb ⟨b,rfl,hb,bb⟩; have fb:=below_two' (show Below W1.heap.size W1 _ by assumption) bb; obtain ⟨pb0,pb1,pb2,pb3⟩:=cells_4 (HK.out _ fb).1; obtain ⟨sb0,sb1,sb2⟩:=cells_3 (HK.out _ fb).2; obtain ⟨tb0,tb1,tb2⟩:=free_3 (HK.out _ fb).2)
    | (go_at_call 154; (with_reducible refine (HTS.out us _ (Rd.keep hs (by first | exact Below.refl _ _ | assumption | exact below_two' (by assumption) (by assumption) | exact below_two' (by assumption) (below_two' (by assumption) (by assumption)) | exact below_two' (by assumption) (below_two' (by assumption) (below_two' (by assumption) (by assumption)))))).mono ?_); rintro e yc ⟨c,rfl,hc,bc⟩; have fc:=below_two' (show Below W1.heap.size W1 _ by assumption) bc; obtain ⟨pc0,pc1,pc2,pc3⟩:=cells_4 (HK.out _ fc).1; obtain ⟨sc0,sc1,sc2⟩:=cells_3 (HK.out _ fc).2; obtain ⟨tc0,tc1,tc2⟩:=free_3 (HK.out _ fc).2)))
 all_goals
  go_wp2_with fail
  obtain ⟨q0,q1,q2⟩:=store_three (blk_of (HK.out _ fc).2 (n:=3) rfl) (.map (some a)) (.map (some b)) (.map (some c))
  have HG:=Lib.hid (set_three yc (w.heap.size + 1) (.map (some a)) (.map (some b)) (.map (some c)))
  refine bodyPost_ret (v:=.agg #[.map (some a),.map (some b),.map (some c)]) (by simp [results,Tryz.results123,go_sem,q0,q1,q2]) rfl ?_
  refine ⟨a,b,c,rfl,⟨SetAt.but (ha.keep ?_) HG.out (HK.out _ fc).2,SetAt.but (hb.keep ?_) HG.out (HK.out _ fc).2,hc.but HG.out (HK.out _ fc).2⟩,(below_two' HB1.out fc).grown HG.out (below_two' HB1.out fc).size (fun j hj => by cases hj; omega)⟩
  ·exact below_two' bv (below_two' bb (below_two' bs bc))
  ·exact below_two' bs bc
end Go.Proofs.YtapnomdckglehaaGreat
namespace Go.Proofs.YtapnomdckglehaaGreat
open Go.RowKit Go.Sort TermSpec NamesSpec EvalSpec ActSpec SynSpec RulesSpec
set_option maxRecDepth 100000
theorem names_small {l:List Tm} {o:Int} (h:Small l):∀ s ∈ namesOf l o,s.size ≤ maxLen:=by
 intro s hs
 unfold namesOf at hs
 obtain ⟨t,ht,rfl⟩:=List.mem_map.1 hs
 have:=h t (List.mem_filter.1 ht).1
 unfold maxLen
 omega
theorem typ_few (l:List Tm):typ l = 0 ∨ typ l = 1 ∨ typ l = 2:=by
 unfold typ tell
 split
 ·unfold come
  cases l with
  | nil => exact .inl rfl
  | cons t r =>
    show typF _ _ = 0 ∨ typF _ _ = 1 ∨ typF _ _ = 2
    unfold typF ownT
    split
    ·split <;> simp
    ·exact .inl rfl
 ·exact .inl rfl
section
variable (a b c:Nat) (es vs ss:List ByteArray)
set_option maxRecDepth 100000 in
set_option maxHeartbeats 8000000 in
theorem wexpr_in (A:Option Addr) (n cp:Nat) (l:List Tm) (ty:Int) (w:World) (h:WdIn w a b c es vs ss) (hT:Tms w (.slice A n cp) l) (hn:n ≤ 1000000) (hs:Small l) (hty:ty = 1 ∨ ty = 2) :
 Calls Tryz.prog 176 #[.agg #[.map (some a),.map (some b),.map (some c)],.slice A n cp,.int .i64 ty] w (RetB w (exprR vs ss l ty)):=by
 obtain ⟨_,_,_,heq,hnl,_⟩:=hT.shape
 cases heq
 have HTY:=Lib.hid (fun W (hW:Below w.heap.size w W) => typ_any A n cp l hnl (by omega) W (hT.keep hW))
 have HNM:=Lib.hid (fun (o:Int) W (hW:Below w.heap.size w W) => names_any A n cp l o hnl (by omega) W (hT.keep hW))
 have hl2:=namesOf_length l 2
 have hl11:=namesOf_length l 11
 have HAV:=Lib.hid (fun v W (hW:Below w.heap.size w W) (hv:Rd W v (strV (namesOf l 2))) => hasAll_in b vs v (namesOf l 2) W (h.vs.keep hW) hv (by omega) (names_small hs))
 have HAS:=Lib.hid (fun v W (hW:Below w.heap.size w W) (hv:Rd W v (strV (namesOf l 11))) => hasAll_in c ss v (namesOf l 11) W (h.ss.keep hW) hv (by omega) (names_small hs))
 have hR:=exprR_is vs ss l ty
 have hq3:=typ_few l
 obtain ⟨q,hq⟩:∃ q,q = typ l:=⟨_,rfl⟩
 obtain ⟨r1,hr1⟩:∃ r,r = allIn (namesOf l 2) vs:=⟨_,rfl⟩
 obtain ⟨r2,hr2⟩:∃ r,r = allIn (namesOf l 11) ss:=⟨_,rfl⟩
 obtain ⟨r,hr⟩:∃ r,r = exprR vs ss l ty:=⟨_,rfl⟩
 obtain ⟨n2,hn2⟩:∃ x,x = namesOf l 2:=⟨_,rfl⟩
 obtain ⟨n11,hn11⟩:∃ x,x = namesOf l 11:=⟨_,rfl⟩
 have HN2:=Lib.hid (HNM.out 2)
 have HN11:=Lib.hid (HNM.out 11)
 rw [← hq] at HTY hq3
 rw [← hr1] at HAV
 rw [← hr2] at HAS
 rw [← hn2] at HN2 HAV
 rw [← hn11] at HN11 HAS
 rw [← hq,← hr1,← hr2,← hr] at hR
 rw [← hr]
 obtain ⟨W1,hW1⟩:∃ W1,w.alloc (.cells #[.map (some a),.map (some b),.map (some c)] 162) = W1:=⟨_,rfl⟩
 have hb1:Below w.heap.size w W1:=by rw [← hW1]; exact KitC.below_one _ _
 have hk1:W1.heap[w.heap.size]? = some (.cells #[.map (some a),.map (some b),.map (some c)] 162):=by rw [← hW1]; exact heap_alloc_new _ _
 have HK:=Lib.hid (fun W (hW:Below W1.heap.size W1 W) => KitC.block_on hk1 hW)
 have HW1:=Lib.hid hW1
 have HB1:=Lib.hid hb1
 obtain ⟨c0,c1,c2⟩:=cells_3 hk1
 have hdr:Below W1.heap.size W1 W1.drew:=(Below.refl _ _).drew
 clear h hT hn hs hnl hl2 hl11 HNM hq hr1 hr2 hr hn2 hn11 hW1 hb1 hk1
 have hc:(q ≠ ty ∧ ((q = 0 ∧ ty = 1) ∨ (q = 0 ∧ ty = 2) ∨ (q = 1 ∧ ty = 2) ∨ (q = 2 ∧ ty = 1))) ∨ (q = ty ∧ ((q = 1 ∧ ty = 1) ∨ (q = 2 ∧ ty = 2))):=by omega
 clear hq3 hty
 rcases hc with ⟨e1,hc⟩ | ⟨e1,hc⟩
 ·have HR:Hid (r = false):=Lib.hid (by rw [hR]; simp [e1])
  have g:(q == ty) = false:=by simpa using e1
  clear e1 hR
  have HTR:Hid (∀ d os,Calls Tryz.prog 180 #[.slice A n cp] (grow (redrawn W1 d) os) fun e w'' => e = .returned (.int .i64 q) ∧ ∃ p:Regrown,w'' = grow (redrawn W1 p.d) p.os) :=
   Lib.hid (fun d os => Calls.regrown_of (HTY.out _ (below_two' HB1.out (below_regrown W1 d os))))
  clear hc
  go_enter Tryz.func176,Tryz.ntmps176
  go_wp2_with fail
  rw [HW1.out]
  refine wp_region_quiet_below (by kernel_rfl) (by kernel_rfl) ?_
  repeat (go_big_quiet_step (with_reducible exact HTR.out _ _))
  refine wpQuiet_nil ?_
  intro _ hw'
  obtain ⟨⟨dq,osq⟩,hw''⟩:=hw'
  subst hw''
  simp only
  have hb3:=below_regrown W1 dq osq
  go_wp2_with fail
  go_ret
  exact ⟨ret_bool HR.out.symm,below_two' HB1.out hb3⟩
 cases r1 with
 | false =>
   have HR:Hid (r = false):=Lib.hid (by rw [hR]; simp)
   clear e1 hR
   rcases hc with ⟨rfl,rfl⟩ | ⟨rfl,rfl⟩
   all_goals
    go_enter Tryz.func176,Tryz.ntmps176
    go_wp2_with fail
    rw [HW1.out]
    first
    | (go_region_with ((first
        | (go_at_call 180; (with_reducible refine (HTY.out _ (below_two' HB1.out (by assumption))).mono ?_); rintro e y1 ⟨rfl,k1⟩; have f1:=below_two' (show Below W1.heap.size W1 _ by assumption) k1; obtain ⟨p10,p11,p12⟩:=cells_3 (HK.out _ f1))
        | (go_at_call 182; (with_reducible refine (HN2.out _ (below_two' HB1.out (by assumption))).mono ?_); rintro e y2 ⟨v2,rfl,k2v,k2⟩; have f2:=below_two' f1 k2; obtain ⟨p20,p21,p22⟩:=cells_3 (HK.out _ f2))
        | (go_at_call 181; (with_reducible refine (HAV.out v2 _ (below_two' HB1.out f2) k2v).mono ?_); rintro e y3 ⟨rfl,k3⟩; have f3:=below_two' f2 k3; obtain ⟨p30,p31,p32⟩:=cells_3 (HK.out _ f3)))))
    | fail
    all_goals
     go_wp2_with fail
     go_ret
     exact ⟨ret_bool HR.out.symm,below_two' HB1.out f3⟩
 | true =>
   have HR:Hid (r = r2):=Lib.hid (by rw [hR]; simp [e1])
   clear e1 hR
   rcases hc with ⟨rfl,rfl⟩ | ⟨rfl,rfl⟩
   all_goals
    go_enter Tryz.func176,Tryz.ntmps176
    go_wp2_with fail
    rw [HW1.out]
    go_region_held3 (fun w' => w'.cell? ⟨w.heap.size,1,none⟩ = some (.map (some b)) ∧ w'.cell? ⟨w.heap.size,2,none⟩ = some (.map (some c))) (go_keep)
     ((first
       | (go_at_call 180; (with_reducible refine (HTY.out _ (below_two' HB1.out (by assumption))).mono ?_); rintro e y1 ⟨rfl,k1⟩; have f1:=below_two' (show Below W1.heap.size W1 _ by assumption) k1; obtain ⟨p10,p11,p12⟩:=cells_3 (HK.out _ f1))
       | (go_at_call 182; (with_reducible refine (HN2.out _ (below_two' HB1.out f1)).mono ?_); rintro e y2 ⟨v2,rfl,k2v,k2⟩; have f2:=below_two' f1 k2; obtain ⟨p20,p21,p22⟩:=cells_3 (HK.out _ f2))
       | (go_at_call 181; (with_reducible refine (HAV.out v2 _ (below_two' HB1.out f2) k2v).mono ?_); rintro e y3 ⟨rfl,k3⟩; have f3:=below_two' f2 k3; obtain ⟨p30,p31,p32⟩:=cells_3 (HK.out _ f3))
       | (go_at_call 182; (with_reducible refine (HN11.out _ (below_two' HB1.out f3)).mono ?_); rintro e y4 ⟨v4,rfl,k4v,k4⟩; have f4:=below_two' f3 k4; obtain ⟨p40,p41,p42⟩:=cells_3 (HK.out _ f4))
       | (go_at_call 181; (with_reducible refine (HAS.out v4 _ (below_two' HB1.out f4) k4v).mono ?_); rintro e y5 ⟨rfl,k5⟩; have f5:=below_two' f4 k5; obtain ⟨p50,p51,p52⟩:=cells_3 (HK.out _ f5))))
    go_wp2_with fail
    go_ret
    exact ⟨ret_bool HR.out.symm,below_two' HB1.out f5⟩
end
end Go.Proofs.YtapnomdckglehaaGreat