/- ExprPutW, ActText, PrintFits, PrintState2, PrintText, joined. -/
import Derived.Test.YtjfghaohogcfbaaGreatDoorMFormatSame28
import Derived.Test.YtjfghaohogcfbaaGreatDoorMFormatSame11
import Derived.Test.YtjfghaohogcfbaaGreatDoorMFormatSame24
import Derived.Test.YtjfghaohogcfbaaGreatDoorMFormatSame07
import Derived.Test.YtjfghaohogcfbaaGreatDoorMFormatSame19
import Derived.Test.YtjfghaohogcfbaaGreatDoorShelf
import Derived.Test.YtjfghaohogcfbaaGreatDoorMFormatSame01
import Derived.Test.YtjfghaohogcfbaaGreatDoorMFormatSame27
import Derived.Test.YtjfghaohogcfbaaGreatDoorMFormatSame22
namespace Go.Proofs.YtjfghaohogcfbaaGreatDoor
open Go.RowKit CurSpec TermSpec ExprSpec
set_option maxRecDepth 100000
def RetPut (W:World) (s:ByteArray) (k:Int) (e:Ending) (w':World):Prop:=e = .returned (.tuple #[.string s,.int .i64 k]) ∧ Below W.heap.size W w'
theorem put_ok (A:Option Addr) (n c:Nat) (l:List Tm) (w:World) (ht:Tms w (.slice A n c) l) (hn:n = l.length) (hs:Small l) (hg:SignsIn w) {x:Ex} (hx:flat x = l) (hgx:ExprSpec.Good x) (hk:chk l = 0) (h40:l.length ≤ 40) :
 Calls Tryz.prog 179 #[.slice A n c] w (RetPut w (tx x) 0):=by
 have HC:=Lib.hid (check_any A n c l hn (by omega) hs w ht)
 rw [hk] at HC
 have HT:Hid (∀ w1,Below w.heap.size w w1 → Calls Tryz.prog 190 #[.slice A n c,.int .i64 0] w1 (RetS w1 (tx x))):=Lib.hid (fun w1 (hb:Below w.heap.size w w1) => text_all x hgx A n c l 0 [] w1 ⟨ht.keep hb,hn,by omega,hg.keep hb⟩ (by rw [hx]; simp))
 clear ht hn hs hg hx hgx hk h40
 go_enter Tryz.func179,Tryz.ntmps179
 go_wp2_with (go_at_call 178; (with_reducible refine HC.out.mono ?_))
 rintro e w1 ⟨rfl,hb1⟩
 have HB:=Lib.hid hb1
 clear hb1
 go_wp2_with (go_at_call 190; (with_reducible refine (HT.out _ HB.out).mono ?_))
 rintro e w2 ⟨rfl,hb2⟩
 have HB2:=Lib.hid (below_two' HB.out hb2)
 clear hb2
 go_wp2_with fail
 go_ret2
 exact ⟨rfl,HB2.out⟩
end Go.Proofs.YtjfghaohogcfbaaGreatDoor
namespace Go.Proofs.YtjfghaohogcfbaaGreatDoor
open Go.RowKit TermSpec EvalSpec ActSpec NamesSpec ExprSpec
set_option maxRecDepth 100000
set_option maxHeartbeats 1000000 in
theorem atext_any (t:Ta) (h:t.Ok) (A:Option Addr) (n c:Nat) (w:World) (ht:Tms w (.slice A n c) t.ac.x) (hsm:Small t.ac.x) (hg:SignsIn w) :
 Calls Tryz.prog 176 #[.agg #[.string t.s,.bool t.any,.slice A n c]] w (RetS w (txA t)):=by
 have hsz:=name_size h.1
 rcases ha:t.any with _ | _
 ·obtain ⟨hgx,hk⟩:=h.2 ha
  have h40:=ta_few h ha
  have htz:=tx_size hgx
  have hx:t.ac.x = flat t.e:=by simp [Ta.ac,ha]
  rw [hx] at ht hsm
  obtain ⟨A',n',c',heq,hn,hnc⟩:=ht.shape
  cases heq
  have HP:Hid (∀ W,Below w.heap.size w W → Calls Tryz.prog 179 #[.slice A n c] W (RetPut W (tx t.e) 0)):=Lib.hid (fun W hW => put_ok A n c (flat t.e) W (ht.keep hW) hn hsm (hg.keep hW) rfl hgx hk h40)
  have HT:Hid (txA t = t.s ++ ⟨#[32,58,61,32]⟩ ++ tx t.e):=Lib.hid (by unfold txA; rw [if_neg (by simp [ha])])
  obtain ⟨x,hxx⟩:∃ x,x = tx t.e:=⟨_,rfl⟩
  rw [← hxx] at HP HT htz
  have h5:t.s.size ≤ 12:=hsz
  have h6:x.size ≤ 1200:=by omega
  obtain ⟨s,hs⟩:∃ s,s = t.s:=⟨_,rfl⟩
  rw [← hs] at HT h5 ⊢
  have h7:¬ 9223372036854775807 < s.size + 4:=by omega
  have h8:¬ 9223372036854775807 < s.size + 4 + x.size:=by omega
  clear hx ht hn hnc hgx hk h40 htz hxx hs hsz ha hg hsm
  go_enter Tryz.func176,Tryz.ntmps176
  go_wp2_with (go_at_call 179; (with_reducible refine (HP.out _ (KitC.below_one _ _)).mono ?_))
  rintro e2 w2 ⟨rfl,hb2⟩
  obtain ⟨B2,hbb,_⟩:=KitC.one_block hb2
  have HB2:=Lib.hid hbb
  obtain ⟨c0,c1,c2⟩:=cells_3 B2
  clear hb2 hbb B2
  go_wp2_with fail
  go_ret
  exact ⟨by rw [HT.out]; rfl,HB2.out⟩
 ·have HT:Hid (txA t = ⟨#[97,110,121,32]⟩ ++ t.s):=Lib.hid (by unfold txA; rw [if_pos ha])
  obtain ⟨s,hs⟩:∃ s,s = t.s:=⟨_,rfl⟩
  rw [← hs] at HT hsz ⊢
  have h7:¬ 9223372036854775807 < 4 + s.size:=by omega
  clear ht hs ha hg h hsm
  go_enter Tryz.func176,Tryz.ntmps176
  go_wp2_with fail
  go_ret
  exact ⟨by rw [HT.out]; rfl,KitC.below_one _ _⟩
def APutRel (W w1:World) (ts:List Ta) (p i:Value) (wr:World):Prop:=∃ k:Nat,k ≤ ts.length ∧ i = .int .i64 k ∧ RowS w1 wr p ((ts.take k).map txA) ∧ Below W.heap.size W w1
theorem txs_next {ts:List Ta} {k:Nat} {t:Ta} (h:ts[k]? = some t):(ts.take (k + 1)).map txA = (ts.take k).map txA ++ [txA t]:=by rw [take_next h,List.map_append]; rfl
theorem join_row {W w:World} {p:Value} {xs:List ByteArray} (h:RowS W w p xs) (h8:xs.length ≤ 8) (hl:(Lib.join (xs.map (·.data.toList)) [44,32]).length ≤ 140737488355328) :
 ∃ A n c,p = .slice A n c ∧ Calls Tryz.prog 63 #[.slice A n c,.string ⟨#[44,32]⟩] w (RetS w ⟨(Lib.join (xs.map (·.data.toList)) [44,32]).toArray⟩):=by
 obtain ⟨A,n,c,rfl,hn,hc,hA⟩:=h.read.strs
 rcases Nat.eq_zero_or_pos n with h0 | h0
 ·subst h0
  obtain rfl:xs = []:=List.eq_nil_of_length_eq_zero hn
  exact ⟨A,0,c,rfl,(Tryz.strings_Join_none A c _ w).mono fun e w' ⟨he,hw⟩ => ⟨he,by rw [hw]; exact Below.refl _ _⟩⟩
 ·obtain ⟨b,off,rfl,hb,hcell⟩:=hA h0
  subst hn
  exact ⟨_,_,c,rfl,Tryz.strings_Join b off c xs ⟨#[44,32]⟩ w hcell hb (by omega) hc hl⟩
set_option maxHeartbeats 4000000 in
theorem aput_any (A:Option Addr) (n c:Nat) (l:List Ac) (hs:∀ a ∈ l,SmallA a) (hl:l.length ≤ 9223372036854775807) (w:World) (h:Acs w (.slice A n c) l) (hg:SignsIn w) :
 (chkA l ≠ 0 → Calls Tryz.prog 152 #[.slice A n c] w (RetPut w ⟨#[]⟩ (chkA l))) ∧
 (∀ ts:List Ta,ts.map Ta.ac = l → (∀ t ∈ ts,t.Ok) → chkA l = 0 → Calls Tryz.prog 152 #[.slice A n c] w (RetPut w (putB ts) 0)):=by
 have HT:=Lib.hid h
 have HN:=Lib.hid h.len.1
 have hcap:=h.len.2
 have HCK:=Lib.hid (check_acts A n c l hs hl w h)
 have HG:=Lib.hid hg
 have HS:=Lib.hid hs
 refine ⟨fun hk => ?_,fun ts hts hok hk => ?_⟩
 ·obtain ⟨k,hkk⟩:∃ k,k = chkA l:=⟨_,rfl⟩
  rw [← hkk] at HCK hk ⊢
  have e1:(k != 0) = true:=by simpa using hk
  clear h hs hl hg hkk hk
  go_enter Tryz.func152,Tryz.ntmps152
  go_wp2_with (go_at_call 143; (with_reducible refine HCK.out.mono ?_))
  rintro e w1 ⟨rfl,hb1⟩
  have HB:=Lib.hid hb1
  clear hb1
  go_wp2_with fail
  go_ret2
  exact ⟨rfl,HB.out⟩
 ·have h8:ts.length ≤ 8:=by
   have h1:l.length = ts.length:=by rw [← hts,List.length_map]
   have h2:l.length ≤ 8:=by
    unfold chkA at hk
    split at hk
    ·cases hk
    ·omega
   omega
  have HLN:Hid (l.length = ts.length):=Lib.hid (by rw [← hts,List.length_map])
  rw [hk] at HCK
  obtain ⟨i0,hi,hz0,hz1,hz2⟩:=info_parts inf_str
  have HI:=Lib.hid (And.intro hi (And.intro hz0 (And.intro hz1 hz2)))
  have HOK:=Lib.hid hok
  have HTS:=Lib.hid hts
  obtain ⟨P,hP⟩:∃ P,P = putB ts:=⟨_,rfl⟩
  rw [← hP]
  have HP:=Lib.hid hP
  have HJL:Hid ((Lib.join ((ts.map txA).map (·.data.toList)) [44,32]).length ≤ 140737488355328 ∧ (⟨(Lib.join ((ts.map txA).map (·.data.toList)) [44,32]).toArray⟩:ByteArray) = putB ts):=Lib.hid (by
   have h1:=putB_size hok
   have h2:(putB ts).size = (putT ts).length:=by simp [putB,ByteArray.size]
   have h3:Lib.join ((ts.map txA).map (·.data.toList)) [44,32] = putT ts:=by unfold putT; rw [List.map_map]; rfl
   rw [h3]
   exact ⟨by omega,rfl⟩)
  clear h hs hl hg hk hts hok hi hz0 hz1 hz2 hP
  go_enter Tryz.func152,Tryz.ntmps152
  go_wp2_with (go_at_call 143; (with_reducible refine HCK.out.mono ?_))
  rintro e w1 ⟨rfl,hb1⟩
  have HB1:=Lib.hid hb1
  clear hb1
  go_wp2_with fail
  go_loopw [5,7,15] (fun p _ i wr => APutRel w w1 ts p i wr) (fun _ _ i _ => ts.length - (intOf i).toNat)
  case atStart => exact ⟨0,Nat.zero_le _,rfl,RowS.nil _ _ (Below.refl _ _),HB1.out⟩
  case round =>
   obtain ⟨k,hkt,rfl,hrow,_⟩:=hrel
   have HR0:=Lib.hid hrow
   have HWB:=Lib.hid (below_two' HB1.out hrow.2)
   clear hrow
   by_cases hlt:k < n
   ·have hkI:(k:Int) < n:=by omega
    have hk8:(k:Int) ≤ 8:=by omega
    obtain ⟨t,ht⟩:∃ t,ts[k]? = some t:=get_some (by have:=HN.out; have:=HLN.out; omega)
    have hla:l[k]? = some t.ac:=by rw [← HTS.out,List.getElem?_map,ht]; rfl
    obtain ⟨b,off,tA,tn,tc,rfl,hb,htm,d0,d1,d2⟩:=(HT.out.keep HWB.out).at_ hla
    obtain ⟨tA',tn',tc',heq,htn,htc⟩:=htm.shape
    cases heq
    have HC:Hid (∀ V,Below wr.heap.size wr V → Calls Tryz.prog 176 #[.agg #[.string t.s,.bool t.any,.slice tA tn tc]] V (RetS V (txA t))):=Lib.hid (fun V hV => atext_any t (HOK.out t (List.mem_of_getElem? ht)) tA tn tc V (htm.keep hV) (HS.out _ (List.mem_of_getElem? hla)).2.1 (HG.out.keep (below_two' HWB.out hV)))
    have HX:=Lib.hid (txs_next ht)
    have hd0:wr.cell? ⟨b,off + k * 3,none⟩ = some (.string t.s):=d0
    have hd1:wr.cell? ⟨b,off + k * 3 + 1,none⟩ = some (.bool t.any):=d1
    obtain ⟨x,hx⟩:∃ x,x = txA t:=⟨_,rfl⟩
    rw [← hx] at HC HX
    have HL1:Hid (((ts.take k).map txA).length + (strV [x]).length ≤ maxLen):=Lib.hid (by rw [List.length_map,List.length_take]; simp [maxLen]; omega)
    have HL2:Hid ((((ts.take k).map txA).length + (strV [x]).length) * 16 ≤ 140737488355328):=Lib.hid (by rw [List.length_map,List.length_take]; simp; omega)
    clear ht hla htm htn hx d0 d1
    obtain ⟨ta,tany,te⟩:=t
    simp only at hd0 hd1 HC
    go_wp2_with (go_at_call 176; (with_reducible refine (HC.out _ (KitC.below_one _ _)).mono ?_))
    rintro e w2 ⟨rfl,hb2⟩
    have HR1:=Lib.hid (HR0.out.keep (below_two' (KitC.below_one _ _) hb2))
    have HSZ:Hid (w1.heap.size ≤ w2.heap.size):=Lib.hid HR1.out.2.size
    have HRA:=Lib.hid HR1.out.1
    clear hb2
    go_wp2_with (at_builtin; refine wpList_append_rd _ rfl (.tmp 19) (.tmp 22) _ rfl w1.heap.size 9 i0 (.string ByteArray.empty) 16 Tryz.underlying29 HI.out.1 HI.out.2.1 HI.out.2.2.1 HI.out.2.2.2 rfl _ _ _ rfl (own_keep HRA.out (KitC.below_one _ _)) _ (strV [x]) rfl (lit_here rfl rfl rfl) (strV_one _) HL1.out HL2.out ?_ ?_; (have:=HSZ.out; simp; omega); intro p2 w3 hrow3 hg3 _; have HR2:=Lib.hid (RowS.add HR1.out hrow3 hg3); clear hrow3 hg3)
    go_roundw
    case rel => first | exact ⟨k + 1,by have:=HN.out; have:=HLN.out; omega,by go_num,by rw [HX.out]; exact HR2.out,HB1.out⟩ | ((repeat apply Exists.intro); exact ⟨⟨k + 1,by have:=HN.out; have:=HLN.out; omega,by go_num,by rw [HX.out]; exact HR2.out,HB1.out⟩,rfl⟩)
    case measure => have:=HN.out; have:=HLN.out; simp [intOf]; omega
   ·have hkI:¬ (k:Int) < n:=by omega
    have hall:ts.take k = ts:=List.take_of_length_le (by have:=HN.out; have:=HLN.out; omega)
    have hr:=HR0.out
    rw [hall] at hr
    obtain ⟨jA,jn,jc,rfl,hj⟩:=join_row hr (by rw [List.length_map]; exact h8) HJL.out.1
    rw [HJL.out.2,← HP.out] at hj
    have HJ:=Lib.hid hj
    clear hall hr hj
    go_wp2_with (go_at_call 63; (with_reducible refine HJ.out.mono ?_))
    rintro e w2 ⟨rfl,hb2⟩
    have HB2:=Lib.hid (below_two' HWB.out hb2)
    clear hb2
    go_wp2_with fail
    go_ret2
    exact ⟨rfl,HB2.out⟩
end Go.Proofs.YtjfghaohogcfbaaGreatDoor
namespace Go.Proofs.YtjfghaohogcfbaaGreatDoor
open Go.RowKit CurSpec TermSpec EvalSpec ActSpec NamesSpec ExprSpec TransSpec SynSpec PrintSpec
theorem none_fits:(⟨#[]⟩:ByteArray).size ≤ 9223372036854775807:=by decide
theorem flat_fits:∀ {e:Ex},ExprSpec.Good e → Small (flat e)
 | .leaf t,h => by
   intro x hx
   rw [show flat (.leaf t) = [t] from rfl,List.mem_singleton] at hx
   subst hx
   rcases leaf_ops h.1 with h1 | h1 | h1 | h1 | h1
   ·rw [(may_num h1 h.2).2]; exact none_fits
   ·have:=name_size (ExprSpec.may_name (.inl h1) h.2).1
    omega
   ·rw [may_word (.inl h1) h.2]; exact none_fits
   ·rw [may_word (.inr h1) h.2]; exact none_fits
   ·have:=name_size (ExprSpec.may_name (.inr h1) h.2).1
    omega
 | .un o a,h => by
   intro x hx
   rw [show flat (.un o a) = opT o :: flat a from rfl,List.mem_cons] at hx
   rcases hx with rfl | hx
   ·exact none_fits
   ·exact flat_fits h.2 x hx
 | .bin o a b,h => by
   intro x hx
   rw [show flat (.bin o a b) = opT o :: (flat a ++ flat b) from rfl,List.mem_cons,List.mem_append] at hx
   rcases hx with rfl | hx | hx
   ·exact none_fits
   ·exact flat_fits h.2.1 x hx
   ·exact flat_fits h.2.2 x hx
theorem flat_few {e:Ex} (h:chk (flat e) = 0):(flat e).length ≤ 40:=(wholeB_iff.1 (chk_ok h).1).1
theorem act_fits {t:Ta} (h:t.Ok):SmallA t.ac:=by
 refine ⟨by have:=name_size h.1; show t.s.size ≤ _; omega,?_,?_⟩
 ·show Small (if t.any then [] else flat t.e)
  rcases ha:t.any with _ | _
  ·exact flat_fits (h.2 ha).1
  ·intro x hx; simp at hx
 ·show (if t.any then [] else flat t.e).length ≤ _
  rcases ha:t.any with _ | _
  ·have:=flat_few (h.2 ha).2
   simp only [Bool.false_eq_true,if_false]
   omega
  ·simp
theorem acts_fit {ts:List Ta} (h:∀ t ∈ ts,t.Ok):∀ a ∈ ts.map Ta.ac,SmallA a:=by
 intro a ha
 obtain ⟨t,ht,rfl⟩:=List.mem_map.1 ha
 exact act_fits (h t ht)
theorem trans_fits {x:Tt} (h:x.Ok):SmallT x.tr where
 ev:=by have:=okN_size h.ev; show x.ev.size ≤ _; omega
 tg:=by have:=okN_size h.tg; show x.tg.size ≤ _; omega
 g:=by
  show Small (gFlat x.g)
  have hx:=h.g
  cases hx':x.g with
  | none => intro t ht; simp [gFlat] at ht
  | some e => exact flat_fits (hx e hx').1
 glen:=by
  show (gFlat x.g).length ≤ _
  have hx:=h.g
  cases hx':x.g with
  | none => simp [gFlat]
  | some e => have:=flat_few (hx e hx').2; show (flat e).length ≤ _; omega
 acts:=acts_fit h.ts
 alen:=by have:=h.few; show (x.ts.map Ta.ac).length ≤ _; rw [List.length_map]; omega
theorem chart_fits {c:Tc} (h:c.Ok):FitM c.cx where
 s:=by have:=name_size h.nm; show c.s.size ≤ _; omega
 evs:=fun e he => by have:=name_size (h.evs e he); omega
 vars:=fun v hv => by
  have:=h.vars v hv
  simp only [okV,Bool.and_eq_true] at this
  have:=name_size this.1
  omega
 stl:=by have:=h.stand.few; have:=h.stand.len; show (c.sts.map Ts.sx).length ≤ _; rw [List.length_map]; omega
 sts:=fun s hs => by
  obtain ⟨t,ht,rfl⟩:=List.mem_map.1 (show s ∈ c.sts.map Ts.sx from hs)
  have hk:=h.sts t ht
  have h1:=hk.enf
  have h2:=hk.exf
  have h3:=hk.trf
  refine ⟨by have:=name_size hk.nm; show t.s.size ≤ _; omega,acts_fit hk.en,?_,acts_fit hk.ex,?_,?_,?_⟩
  ·show (t.en.map Ta.ac).length ≤ _; rw [List.length_map]; omega
  ·show (t.ex.map Ta.ac).length ≤ _; rw [List.length_map]; omega
  ·show (t.tr.map Tt.tr).length ≤ _; rw [List.length_map]; omega
  ·intro x hx
   obtain ⟨u,hu,rfl⟩:=List.mem_map.1 (show x ∈ t.tr.map Tt.tr from hx)
   exact trans_fits (hk.tr u hu)
end Go.Proofs.YtjfghaohogcfbaaGreatDoor
namespace Go.Proofs.YtjfghaohogcfbaaGreatDoor
open Go.RowKit CurSpec TermSpec EvalSpec ActSpec NamesSpec ExprSpec TransSpec SynSpec PrintSpec
set_option maxRecDepth 100000
theorem line_lit (b n:Nat) (l:List UInt8) (ps:List ByteArray) (cs:Array Value) (k m:Nat) (W:World) (hk:k = W.heap.size) (h:WrAt b n l W) (hcs:cs = (strV ps).toArray) (hm:m = ps.length) (hn:n ≤ 20) (hps:m ≤ 100)
 (hlen:l.length + (lnT n ps).length ≤ 140737488355328):Calls Tryz.prog 62 #[.pointer (some ⟨b,0,none⟩),.slice (some ⟨k,0,none⟩) m m] (W.alloc (.cells cs 9)) (RetWr W b n (l ++ lnT n ps)):=by
 subst hcs
 subst hk
 have hlt:=h.lt
 refine (line_any b n l ps W.heap.size m m _ (h.keep (KitC.below_one _ _)) (heap_alloc_new _ _) (by omega) hm hn hps (Nat.le_refl _) hlen).mono ?_
 rintro e w' ⟨rfl,h1,h2⟩
 exact ⟨rfl,h1,(Wrote.of hlt (KitC.below_one _ _)).trans h2⟩
theorem join_nil_sep (l:List (List UInt8)):Lib.join l [] = l.flatten:=by
 cases l with
 | nil => rfl
 | cons a r => rw [Lib.join_cons]; simp [Lib.joinTail]
def endT (n:Nat):List UInt8:=inT n ++ ([125] ++ [10])
theorem end_ln (n:Nat):lnT n [⟨#[125]⟩] = endT n:=by
 unfold lnT endT
 simp [T]
set_option maxHeartbeats 2000000 in
theorem wend_any (b n:Nat) (l:List UInt8) (w:World) (h:WrAt b ((n + 1:Nat):Int) l w) (hn:n ≤ 20) (hlen:l.length + (endT n).length ≤ 140737488355328) :
 Calls Tryz.prog 66 #[.pointer (some ⟨b,0,none⟩)] w (RetWr w b n (l ++ endT n)):=by
 rw [← end_ln] at hlen ⊢
 obtain ⟨c2,f2⟩:=h.open_
 obtain ⟨h1,h2⟩:=wr_open h n
 have HX:=Lib.hid h2
 have HC:=Lib.hid (line_lit b n l [⟨#[125]⟩] #[.string ⟨#[125]⟩] w.heap.size 1 _ (by simp [World.setCell]) h1 rfl rfl hn (by omega) hlen)
 have ho:((n + 1:Nat):Int) = (n:Int) + 1:=by omega
 rw [ho] at c2
 have hn':(n:Int) ≤ 20:=by omega
 clear h h1 h2 hlen hn ho
 go_enter Tryz.func66,Tryz.ntmps66
 go_wp2_with (go_at_call 62; (with_reducible refine HC.out.mono ?_))
 rintro e w3 ⟨rfl,h3,hx3⟩
 have HW4:=Lib.hid h3
 have HX4:=Lib.hid (HX.out.trans hx3)
 clear h3 hx3
 go_wp2_with fail
 go_end0
 exact ⟨rfl,HW4.out,HX4.out⟩
def begT (n:Nat) (ps:List ByteArray):List UInt8:=inT n ++ (ps.flatMap T ++ [32,123] ++ [10])
theorem beg_ln (n:Nat) (ps:List ByteArray):lnT n [bs (ps.flatMap T),⟨#[32,123]⟩] = begT n ps:=by
 unfold lnT begT
 simp [T,bs]
theorem join_any (ps:List ByteArray) (k c m:Nat) (w:World) (hk:w.heap[k]? = some (.cells (strV ps).toArray 9 (0,0))) (hm:m = ps.length) (hc:m ≤ c) (hps:m ≤ 100) (hlen:(ps.flatMap T).length ≤ 140737488355328) :
 Calls Tryz.prog 63 #[.slice (some ⟨k,0,none⟩) m c,.string ⟨#[]⟩] w (RetS w (bs (ps.flatMap T))):=by
 subst hm
 have e:Lib.join (ps.map (·.data.toList)) (⟨#[]⟩:ByteArray).data.toList = ps.flatMap T:=by
  show Lib.join _ [] = _
  rw [join_nil_sep,List.flatMap_def]
 have h:=Tryz.strings_Join k 0 c ps ⟨#[]⟩ w (fun j x hx => by rw [Nat.zero_add]; exact cell_of_block' hk (by simp [strV,hx])) (Array.getElem?_eq_some_iff.1 hk).1 (by omega) hc (by rw [e]; exact hlen)
 rw [e] at h
 exact h
set_option maxHeartbeats 2000000 in
theorem beg_lit (b n:Nat) (l:List UInt8) (ps:List ByteArray) (cs:Array Value) (k m:Nat) (W:World) (hk:k = W.heap.size) (h:WrAt b n l W) (hcs:cs = (strV ps).toArray) (hm:m = ps.length) (hn:n ≤ 20) (hps:m ≤ 100)
 (hlen:l.length + (begT n ps).length ≤ 140737488355328):Calls Tryz.prog 61 #[.pointer (some ⟨b,0,none⟩),.slice (some ⟨k,0,none⟩) m m] (W.alloc (.cells cs 9)) (RetWr W b ((n + 1:Nat):Int) (l ++ begT n ps)):=by
 subst hcs
 subst hk
 have hlt:=h.lt
 have hjl:(ps.flatMap T).length ≤ 140737488355328:=by
  unfold begT at hlen
  simp only [List.length_append] at hlen
  omega
 obtain ⟨W1,hW1⟩:∃ W1,W1 = W.alloc (.cells (strV ps).toArray 9):=⟨_,rfl⟩
 have hb1:Below W.heap.size W W1:=by rw [hW1]; exact KitC.below_one _ _
 have hk1:W1.heap[W.heap.size]? = some (.cells (strV ps).toArray 9 (0,0)):=by rw [hW1]; exact heap_alloc_new _ _
 obtain ⟨k,hk⟩:∃ k,k = W.heap.size:=⟨_,rfl⟩
 have HJ:=Lib.hid (join_any ps k m m W1 (by rw [hk]; exact hk1) hm (Nat.le_refl _) hps hjl)
 rw [← hW1,← hk]
 obtain ⟨J,hJ⟩:∃ J,J = bs (ps.flatMap T):=⟨_,rfl⟩
 have HE:Hid (lnT n [J,⟨#[32,123]⟩] = begT n ps):=Lib.hid (by rw [hJ]; exact beg_ln n ps)
 rw [← hJ] at HJ
 have HC:Hid (∀ w2,Below W.heap.size W w2 → Calls Tryz.prog 62 #[.pointer (some ⟨b,0,none⟩),.slice (some ⟨w2.heap.size,0,none⟩) 2 2] (w2.alloc (.cells #[.string J,.string ⟨#[32,123]⟩] 9)) (RetWr w2 b n (l ++ begT n ps))):=Lib.hid fun w2 hb2 => by
  rw [← HE.out]
  exact line_lit b n l [J,⟨#[32,123]⟩] _ w2.heap.size 2 w2 rfl (h.keep hb2) rfl rfl hn (by omega) (by rw [HE.out]; exact hlen)
 have HB1:=Lib.hid hb1
 have HLT:=Lib.hid hlt
 have hn':(n:Int) ≤ 20:=by omega
 clear h hW1 hb1 hk1 hk hJ hlen hjl hm hps hlt
 go_enter Tryz.func61,Tryz.ntmps61
 go_wp2_with (go_at_call 63; (with_reducible refine HJ.out.mono ?_))
 rintro e w2 ⟨rfl,hb2⟩
 have HB2:=Lib.hid (below_two' HB1.out hb2)
 clear hb2
 go_wp2_with (go_at_call 62; (with_reducible refine (HC.out _ HB2.out).mono ?_))
 rintro e w3 ⟨rfl,h3,hx3⟩
 obtain ⟨c2,f2⟩:=h3.open_
 have HO:=Lib.hid (wr_open h3 ((n:Int) + 1))
 have HX:=Lib.hid ((Wrote.of HLT.out HB2.out).trans hx3)
 clear h3 hx3
 go_wp2_with fail
 go_end0
 exact ⟨rfl,by rw [show ((n + 1:Nat):Int) = (n:Int) + 1 by omega]; exact HO.out.1,HX.out.trans HO.out.2⟩
theorem line_ln (n:Nat) (w:ByteArray) (ts:List Ta) (h:ts ≠ []):lnT n [w,⟨#[32]⟩,putB ts,⟨#[59]⟩] = lineA w.data.toList n ts:=by
 unfold lnT lineA
 rw [if_neg h,← putB_T]
 simp [T]
set_option maxHeartbeats 2000000 in
theorem wacts_any (b n:Nat) (l:List UInt8) (what:ByteArray) (A:Option Addr) (an c:Nat) (ts:List Ta) (w:World) (h:WrAt b n l w) (ha:Acs w (.slice A an c) (ts.map Ta.ac)) (ok:∀ t ∈ ts,t.Ok) (h8:ts.length ≤ 8) (hg:SignsIn w) (hn:n ≤ 20)
 (hlen:l.length + (lineA what.data.toList n ts).length ≤ 140737488355328):Calls Tryz.prog 116 #[.pointer (some ⟨b,0,none⟩),.string what,.slice A an c] w (RetWr w b n (l ++ lineA what.data.toList n ts)):=by
 have han:an = ts.length:=by rw [ha.len.1]; exact List.length_map _
 rcases Nat.eq_zero_or_pos an with h0 | h0
 ·have hts:ts = []:=List.eq_nil_of_length_eq_zero (by omega)
  subst hts
  have HW:Hid (WrAt b n (l ++ lineA what.data.toList n []) w):=Lib.hid (by unfold lineA; rw [if_pos rfl,List.append_nil]; exact h)
  subst h0
  clear h ha ok h8 hg han hlen
  go_enter Tryz.func116,Tryz.ntmps116
  go_wp2_with fail
  go_end0
  exact ⟨rfl,HW.out,Wrote.refl _ _⟩
 ·have hne:ts ≠ []:=fun e => by rw [e] at han; simp at han; omega
  have hE:=line_ln n what ts hne
  have HP:=Lib.hid ((aput_any A an c _ (acts_fit ok) (by rw [List.length_map]; omega) w ha hg).2 ts rfl ok (chkA_map ok h8))
  obtain ⟨R,hR⟩:∃ R,R = putB ts:=⟨_,rfl⟩
  rw [← hR] at hE HP
  have HC:Hid (∀ w2,Below w.heap.size w w2 → Calls Tryz.prog 62 #[.pointer (some ⟨b,0,none⟩),.slice (some ⟨w2.heap.size,0,none⟩) 4 4] (w2.alloc (.cells #[.string what,.string ⟨#[32]⟩,.string R,.string ⟨#[59]⟩] 9)) (RetWr w2 b n (l ++ lineA what.data.toList n ts))):=Lib.hid fun w2 hb2 => by
   rw [← hE]
   exact line_lit b n l [what,⟨#[32]⟩,R,⟨#[59]⟩] _ w2.heap.size 4 w2 rfl (h.keep hb2) rfl rfl hn (by omega) (by rw [hE]; exact hlen)
  have HLT:=Lib.hid h.lt
  have g0:decide (0 < an) = true:=decide_eq_true h0
  clear h ha ok h8 hg han hlen hn hne hE hR h0
  go_enter Tryz.func116,Tryz.ntmps116
  go_wp2_with (go_at_call 152; (with_reducible refine HP.out.mono ?_))
  rintro e w2 ⟨rfl,hb2⟩
  have HB2:=Lib.hid hb2
  clear hb2
  go_wp2_with (go_at_call 62; (with_reducible refine (HC.out _ HB2.out).mono ?_))
  rintro e w3 ⟨rfl,h3,hx3⟩
  have HW:=Lib.hid h3
  have HX:=Lib.hid ((Wrote.of HLT.out HB2.out).trans hx3)
  clear h3 hx3
  go_wp2_with fail
  go_end0
  exact ⟨rfl,HW.out,HX.out⟩
theorem word_any (k:Int) (w:World):Calls Tryz.prog 115 #[.int .i64 k] w (SameS w (bs (wordT k))):=by
 unfold wordT
 by_cases h1:k = 1
 ·subst h1
  go_enter Tryz.func115,Tryz.ntmps115
  go_wp2_with fail
  go_ret
  exact ⟨rfl,rfl⟩
 ·by_cases h2:k = 2
  ·subst h2
   go_enter Tryz.func115,Tryz.ntmps115
   go_wp2_with fail
   go_ret
   exact ⟨rfl,rfl⟩
  ·rw [if_neg h1,if_neg h2]
   have g1:(k == 1) = false:=by simpa using h1
   have g2:(k == 2) = false:=by simpa using h2
   clear h1 h2
   go_enter Tryz.func115,Tryz.ntmps115
   go_wp2_with fail
   go_ret
   exact ⟨rfl,rfl⟩
end Go.Proofs.YtjfghaohogcfbaaGreatDoor
namespace Go.Proofs.YtjfghaohogcfbaaGreatDoor
namespace PrintSpec
open CurSpec TermSpec EvalSpec NamesSpec ExprSpec ScanSpec ActSpec TransSpec SynSpec
open ShapeSpec (Sh up sf endOf SU)
section
variable (sh:List Sh) (l:List Ts)
def clU (i0 m:Nat):List UInt8:=((sf sh m).filter fun j => decide (i0 ≤ j)).flatMap (oneT sh l m)
def bodyU (i0 m:Nat):List UInt8:=stT sh l m ++ clU sh l i0 m
def segU (i0 a b:Nat):List UInt8:=(List.range' a (b - a)).flatMap (bodyU sh l i0)
def shutU (i:Nat):List UInt8:=if emptyB sh l i = false then inT ((up sh i).length + 1) ++ ([125] ++ [10]) else []
end
section
variable {sh:List Sh} {l:List Ts}
theorem segU_nil (i0 a:Nat):segU sh l i0 a a = []:=by unfold segU; rw [Nat.sub_self]; rfl
theorem segU_app (i0:Nat) {a b c:Nat} (h1:a ≤ b) (h2:b ≤ c):segU sh l i0 a c = segU sh l i0 a b ++ segU sh l i0 b c:=by
 unfold segU
 rw [← List.flatMap_append,show c - a = (b - a) + (c - b) by omega,← List.range'_append_1,show a + (b - a) = b by omega]
theorem segU_one (i0 a:Nat):segU sh l i0 a (a + 1) = bodyU sh l i0 a:=by
 unfold segU
 rw [show a + 1 - a = 1 by omega]
 simp
theorem segU_congr {i0 i1 a b:Nat} (h:∀ m,a ≤ m → m < b → clU sh l i0 m = clU sh l i1 m):segU sh l i0 a b = segU sh l i1 a b:=by
 unfold segU
 rw [List.flatMap_def,List.flatMap_def]
 congr 1
 refine List.map_congr_left fun m hm => ?_
 have:=List.mem_range'_1.1 hm
 unfold bodyU
 rw [h m this.1 (by omega)]
theorem stsT_seg (hl:sh.length = l.length):stsT sh l = segU sh l 0 0 sh.length:=by
 unfold stsT segU
 rw [hl,Nat.sub_zero,List.range_eq_range']
 rw [List.flatMap_def,List.flatMap_def]
 congr 1
 refine List.map_congr_left fun m _ => ?_
 unfold bodyU clU closT
 rw [List.filter_eq_self.2 (fun j _ => by simp)]
theorem clU_last {i m:Nat} (h:i ∈ sf sh m):clU sh l i m = clU sh l (i + 1) m ++ oneT sh l m i:=by
 unfold clU
 rw [desc_filter (sf_desc sh m) h,List.flatMap_append]
 simp
theorem clU_none (i:Nat):clU sh l (i + 1) i = []:=by
 unfold clU
 rw [List.filter_eq_nil_iff.2 fun j hj => by have:=ShapeSpec.sf_le hj; simp; omega]
 rfl
theorem segU_state (h:SU sh sh.length) {i:Nat} (hi:i < sh.length):segU sh l i i (endOf sh i) = stT sh l i ++ (segU sh l (i + 1) (i + 1) (endOf sh i) ++ shutU sh l i):=by
 obtain ⟨e1,e2⟩:=ShapeSpec.end_bd hi
 obtain ⟨e,he⟩:∃ e,e = endOf sh i:=⟨_,rfl⟩
 rw [← he] at e1 e2 ⊢
 have hin:∀ m,i ≤ m → m < e → i ∈ sf sh m:=fun m h1 h2 => (ShapeSpec.end_iff h hi (by omega)).2 ⟨h1,by omega⟩
 have hno:∀ m,i ≤ m → m + 1 < e → clU sh l i m = clU sh l (i + 1) m:=fun m h1 h2 => by
  rw [clU_last (hin m h1 (by omega))]
  unfold oneT
  rw [if_neg (by omega),List.append_nil]
 have hla:clU sh l i (e - 1) = clU sh l (i + 1) (e - 1) ++ shutU sh l i:=by
  rw [clU_last (hin (e - 1) (by omega) (by omega))]
  unfold oneT shutU
  by_cases hb:emptyB sh l i = false
  ·rw [if_pos ⟨by omega,hb⟩,if_pos hb]
  ·rw [if_neg (fun h' => hb h'.2),if_neg hb]
 have h1:segU sh l i i e = segU sh l (i + 1) i e ++ shutU sh l i:=by
  rw [segU_app i (b:=e - 1) (by omega) (by omega),segU_app (i + 1) (a:=i) (b:=e - 1) (c:=e) (by omega) (by omega),segU_congr (i0:=i) (i1:=i + 1) (a:=i) (b:=e - 1) (fun m a b => hno m a (by omega))]
  have hs:segU sh l i (e - 1) e = segU sh l (i + 1) (e - 1) e ++ shutU sh l i:=by
   have e':e = (e - 1) + 1:=by omega
   rw [e',Nat.add_sub_cancel,segU_one,segU_one]
   unfold bodyU
   rw [hla,List.append_assoc]
  rw [hs,List.append_assoc]
 rw [h1,segU_app (i + 1) (a:=i) (b:=i + 1) (by omega) (by omega),segU_one]
 unfold bodyU
 rw [clU_none,List.append_nil,List.append_assoc]
theorem segU_kid (h:SU sh sh.length) {i m:Nat} (hm:m < sh.length) (hup:up sh m = sf sh i):segU sh l (i + 1) m (endOf sh m) = segU sh l m m (endOf sh m):=by
 refine segU_congr fun k h1 h2 => ?_
 have hk:m ∈ sf sh k:=(ShapeSpec.end_iff h hm (by have:=(ShapeSpec.end_bd hm).2; omega)).2 ⟨h1,h2⟩
 unfold clU
 congr 1
 refine List.filter_congr fun j hj => ?_
 have him:i < m:=ShapeSpec.up_lt (l:=sh) (i:=m) (j:=i) (by rw [hup]; exact ShapeSpec.sf_self _ _)
 by_cases hjm:m ≤ j
 ·simp [hjm]; omega
 ·have h3:=ShapeSpec.sf_chain hk hj (by omega)
  have h4:=ShapeSpec.sf_up h3 (by omega)
  rw [hup] at h4
  have:=ShapeSpec.sf_le h4
  have e1:¬ i + 1 ≤ j:=by omega
  simp [hjm,e1]
def stX (sh:List Sh) (l:List Ts) (i:Nat):List UInt8:=segU sh l i i (endOf sh i)
def kidN (sh:List Sh) (i m:Nat):List Nat:=(List.range' m (sh.length - m)).filter fun k => decide (ShapeSpec.par sh k = i)
theorem kidN_zero (i:Nat):ShapeSpec.kids sh i = (kidN sh i 0).map Int.ofNat:=by
 unfold ShapeSpec.kids ShapeSpec.kidsTo kidN
 rw [List.range_eq_range',Nat.sub_zero]
theorem kidN_past (h:SU sh sh.length) {i:Nat} (hi:i < sh.length):kidN sh i (endOf sh i) = []:=by
 unfold kidN
 rw [List.filter_eq_nil_iff]
 intro k hk
 obtain ⟨h1,h2⟩:=List.mem_range'_1.1 hk
 simp only [decide_eq_true_eq]
 intro hp
 have e1:=ShapeSpec.end_bd hi
 have hup:up sh k = sf sh i:=ShapeSpec.up_of hp (by omega)
 have:=(ShapeSpec.end_iff h hi (k:=k) (by omega)).1 (ShapeSpec.up_in (by rw [hup]; exact ShapeSpec.sf_self _ _))
 omega
theorem kidN_early (h:SU sh sh.length) {i:Nat} (hi:i < sh.length):kidN sh i 0 = kidN sh i (i + 1):=by
 unfold kidN
 have e:sh.length - 0 = (i + 1) + (sh.length - (i + 1)):=by omega
 rw [e,← List.range'_append_1,List.filter_append,Nat.zero_add,List.filter_eq_nil_iff.2,List.nil_append]
 intro k hk
 obtain ⟨h1,h2⟩:=List.mem_range'_1.1 hk
 simp only [decide_eq_true_eq]
 intro hp
 rcases Nat.eq_zero_or_pos k with rfl | h0
 ·have:=h.root (by omega)
  rw [hp] at this
  omega
 ·have:=(h.par (by omega) h0).2.1
  omega
theorem kidN_step (h:SU sh sh.length) {i m:Nat} (hm:m < sh.length) (hp:ShapeSpec.par sh m = i) (him:i < m):kidN sh i m = m :: kidN sh i (endOf sh m):=by
 obtain ⟨e1,e2⟩:=ShapeSpec.end_bd hm
 have hup:up sh m = sf sh i:=ShapeSpec.up_of hp him
 unfold kidN
 have e:sh.length - m = 1 + ((endOf sh m - (m + 1)) + (sh.length - endOf sh m)):=by omega
 rw [e,← List.range'_append_1,← List.range'_append_1,show m + 1 + (endOf sh m - (m + 1)) = endOf sh m by omega,List.filter_append,List.filter_append]
 have h1:(List.range' m 1).filter (fun k => decide (ShapeSpec.par sh k = i)) = [m]:=by simp [hp]
 have h2:(List.range' (m + 1) (endOf sh m - (m + 1))).filter (fun k => decide (ShapeSpec.par sh k = i)) = []:=by
  rw [List.filter_eq_nil_iff]
  intro k hk
  obtain ⟨k1,k2⟩:=List.mem_range'_1.1 hk
  simp only [decide_eq_true_eq]
  intro hpk
  have hupk:up sh k = sf sh i:=ShapeSpec.up_of hpk (by omega)
  have hin:=ShapeSpec.sf_up ((ShapeSpec.end_iff h hm (k:=k) (by omega)).2 ⟨by omega,by omega⟩) (by omega)
  rw [hupk] at hin
  have:=ShapeSpec.sf_le hin
  omega
 rw [h1,h2]
 rfl
theorem kids_text (h:SU sh sh.length) {i:Nat} (hi:i < sh.length):∀ (n m:Nat),endOf sh i - m ≤ n → i < m → m ≤ endOf sh i → (m < endOf sh i → up sh m = sf sh i ∧ ShapeSpec.par sh m = i) → segU sh l (i + 1) m (endOf sh i) = (kidN sh i m).flatMap (stX sh l):=by
 intro n
 induction n with
 | zero =>
   intro m h1 h2 h3 _
   obtain rfl:m = endOf sh i:=by omega
   rw [segU_nil,kidN_past h hi]
   rfl
 | succ n ih =>
   intro m h1 h2 h3 h4
   rcases Nat.lt_or_ge m (endOf sh i) with hlt | hge
   ·obtain ⟨hup,hpar⟩:=h4 hlt
    obtain ⟨hml,hee,hnext⟩:=kid_next h hi hlt hup h2
    have e1:=ShapeSpec.end_bd hml
    rw [segU_app (i + 1) (a:=m) (b:=endOf sh m) (by omega) hee,segU_kid h hml hup,kidN_step h hml hpar h2,List.flatMap_cons,ih (endOf sh m) (by omega) (by omega) hee hnext]
    rfl
   ·obtain rfl:m = endOf sh i:=by omega
    rw [segU_nil,kidN_past h hi]
    rfl
theorem stX_eq (h:SU sh sh.length) {i:Nat} (hi:i < sh.length):stX sh l i = stT sh l i ++ ((kidN sh i 0).flatMap (stX sh l) ++ shutU sh l i):=by
 have e1:=ShapeSpec.end_bd hi
 unfold stX
 rw [segU_state h hi,kids_text h hi (endOf sh i - (i + 1)) (i + 1) (Nat.le_refl _) (by omega) (by omega) (fun hlt => ⟨(kid_first h hi hlt).1,(kid_first h hi hlt).2.1⟩),kidN_early h hi]
 rfl
theorem end_root (h:SU sh sh.length) (hpos:0 < sh.length):endOf sh 0 = sh.length:=by
 have:=ShapeSpec.end_bd hpos
 rcases Nat.lt_or_ge (endOf sh 0) sh.length with hlt | hge
 ·exfalso
  have hin:0 ∈ sf sh (endOf sh 0):=by
   have key:∀ n k,k ≤ n → k < sh.length → 0 ∈ sf sh k:=by
    intro n
    induction n with
    | zero => intro k hk _; obtain rfl:k = 0:=by omega
              exact ShapeSpec.sf_self _ _
    | succ n ih =>
      intro k hk hkl
      rcases Nat.eq_zero_or_pos k with rfl | h0
      ·exact ShapeSpec.sf_self _ _
      ·obtain ⟨p,-,hpl,hup,-⟩:=h.parn hkl h0
       refine ShapeSpec.up_in ?_
       rw [hup]
       exact ih p (by omega) (by omega)
   exact key _ _ (Nat.le_refl _) hlt
  have:=(ShapeSpec.end_iff h hpos hlt).1 hin
  omega
 ·omega
theorem stsT_X (h:SU sh sh.length) (hl:sh.length = l.length) (hpos:0 < sh.length):stsT sh l = stX sh l 0:=by
 rw [stsT_seg hl]
 unfold stX
 rw [end_root h hpos]
theorem kidN_mem (h:SU sh sh.length) {i k:Nat} (hi:i < sh.length) (hk:k ∈ kidN sh i 0):i < k ∧ k < sh.length ∧ (up sh k).length = (up sh i).length + 1:=by
 have hk':=hk
 rw [kidN_early h hi] at hk'
 unfold kidN at hk'
 obtain ⟨h1,h2⟩:=List.mem_filter.1 hk'
 obtain ⟨h3,h4⟩:=List.mem_range'_1.1 h1
 have hp:ShapeSpec.par sh k = i:=by simpa using h2
 refine ⟨by omega,by omega,?_⟩
 rw [ShapeSpec.up_of hp (by omega)]
 rfl
end
end PrintSpec
end Go.Proofs.YtjfghaohogcfbaaGreatDoor