/- RulesKnown, RulesExpr, RulesActs, joined. -/
import Derived.Test.YtckojimeglkobaaGreatDoorMConfFills21
import Derived.Test.YtckojimeglkobaaGreatDoorMConfFills10
import Derived.Deep.RegionHeld3
import Derived.Lib.QuietBelow
import Derived.BigQuiet
namespace Go.Proofs.YtckojimeglkobaaGreatDoor
open Go.RowKit NamesSpec EvalSpec SynSpec RulesSpec PrintSpec
set_option maxRecDepth 100000
theorem SetAt.but {w w':World} {B k:Nat} {l:List ByteArray} {cs:Array Value} {T:TypeId} (h:SetAt w B l) (hg:w.grownBy w' (some k)) (hk:w.heap[k]? = some (.cells cs T (0,0))):SetAt w' B l:=by
 obtain ⟨n,D,⟨es,clock,hb,r⟩,hs⟩:=h
 refine ⟨n,D,⟨es,clock,(hg.block B (Array.getElem?_eq_some_iff.1 hb).1 (fun e => ?_)).trans hb,r⟩,hs⟩
 cases e
 rw [hb] at hk
 cases hk
structure WdIn (w:World) (a b c:Nat) (es vs ss:List ByteArray):Prop where
 es:SetAt w a es
 vs:SetAt w b vs
 ss:SetAt w c ss
theorem WdIn.keep {w w':World} {a b c:Nat} {es vs ss:List ByteArray} (h:WdIn w a b c es vs ss) (hb:Below w.heap.size w w'):WdIn w' a b c es vs ss:=⟨h.es.keep hb,h.vs.keep hb,h.ss.keep hb⟩
def RetW (W:World) (es vs ss:List ByteArray) (e:Ending) (w':World):Prop:=∃ a b c,e = .returned (.agg #[.map (some a),.map (some b),.map (some c)]) ∧ WdIn w' a b c es vs ss ∧ Below W.heap.size W w'
set_option maxHeartbeats 400000 in
theorem hasAll_in (B:Nat) (all:List ByteArray) (v:Value) (l:List ByteArray) (w:World) (h:SetAt w B all) (hv:Rd w v (strV l)) (hl:l.length ≤ 4294967296) (hs:∀ s ∈ l,s.size ≤ maxLen) :
 Calls Tryz.prog 156 #[.map (some B),v] w (RetB w (allIn l all)):=by
 obtain ⟨A,n,c,rfl,hn,hc,hA⟩:=hv.strs
 have HA:=Lib.hid hA
 have HN:=Lib.hid hn
 have HS:=Lib.hid hs
 have HB:=Lib.hid h
 have hm':n ≤ 4294967296:=by omega
 clear hA hn h hc hl hs hv
 go_enter Tryz.func156,Tryz.ntmps156
 go_wp2_with fail
 go_loopw [9] (fun i wr => ∃ k:Nat,k ≤ n ∧ i = .int .i64 k ∧ Hid (allIn (l.take k) all = true ∧ Below w.heap.size w wr)) (fun i _ => n - (intOf i).toNat)
 case atStart => exact ⟨0,Nat.zero_le _,rfl,Lib.hid ⟨rfl,Below.refl _ _⟩⟩
 case round =>
  obtain ⟨k,hk,rfl,HR⟩:=hrel
  by_cases hlt:k < n
  ·obtain ⟨b,off,rfl,hb,hcell⟩:=HA.out (by omega)
   obtain ⟨x,hx⟩:∃ x,l[k]? = some x:=get_some (by have:=HN.out; omega)
   have hck:wr.cell? ⟨b,off + k,none⟩ = some (.string x):=(HR.out.2.cell (by exact hb)).trans (hcell k x hx)
   obtain ⟨r,hr⟩:∃ r,r = hasS all x:=⟨_,rfl⟩
   have HC:=Lib.hid (fun W (hW:Below w.heap.size w W) => has_in B all x W (HB.out.keep hW) (HS.out x (List.mem_of_getElem? hx)))
   rw [← hr] at HC
   cases r with
   | false =>
     have HE:Hid (allIn l all = false):=Lib.hid (by unfold allIn; rw [List.all_eq_false]; exact ⟨x,List.mem_of_getElem? hx,by rw [← hr]; simp⟩)
     clear hcell hx hr
     go_wp2_with (go_at_call 144; go_fit (HC.out _ HR.out.2))
     rintro e w2 ⟨rfl,hb2⟩
     have HB2:=Lib.hid (below_two' HR.out.2 hb2)
     clear hb2
     go_wp2_with fail
     go_ret
     exact ⟨ret_bool HE.out.symm,HB2.out⟩
   | true =>
     have HE:Hid (allIn (l.take (k + 1)) all = true):=Lib.hid (by have h1:=HR.out.1; unfold allIn at h1 ⊢; rw [take_next hx,List.all_append,h1]; simp [← hr])
     clear hcell hx hr
     go_wp2_with (go_at_call 144; go_fit (HC.out _ HR.out.2))
     rintro e w2 ⟨rfl,hb2⟩
     have HB2:=Lib.hid (below_two' HR.out.2 hb2)
     clear hb2
     go_wp2_with fail
     go_roundw
     case rel => exact ⟨k + 1,hlt,by simp,Lib.hid ⟨HE.out,HB2.out⟩⟩
     case measure => simp [intOf]; omega
  ·obtain rfl:k = n:=by omega
   have HE:Hid (allIn l all = true):=Lib.hid (by have h1:=HR.out.1; rwa [List.take_of_length_le (by rw [HN.out]; omega)] at h1)
   go_wp2_with fail
   go_ret
   exact ⟨ret_bool HE.out.symm,HR.out.2⟩
set_option maxRecDepth 100000 in
set_option maxHeartbeats 16000000 in
theorem known_any (x:Cx) (eA:Option Addr) (en ec:Nat) (vA:Option Addr) (vn vc:Nat) (sA:Option Addr) (sn sc:Nat) (w:World) (h:ChIn w (.slice eA en ec) (.slice vA vn vc) (.slice sA sn sc) x)
 (h1:x.evs.length ≤ 1000000) (h2:x.vars.length ≤ 1000000) (h3:x.sts.length ≤ 1000000) (g1:∀ s ∈ x.evs,s.size ≤ maxLen) (g2:∀ v ∈ x.vars,v.s.size ≤ maxLen) (g3:∀ s ∈ x.sts,s.s.size ≤ maxLen) :
 Calls Tryz.prog 110 #[.agg #[.string x.s,.slice eA en ec,.slice vA vn vc,.slice sA sn sc]] w (RetW w x.evs (vnC x) (snC x)):=by
 have q2:=h.vars.len.1
 have q3:=h.sts.len.1
 have HSE:=Lib.hid (fun W (hW:Below w.heap.size w W) => setOf_any (.slice eA en ec) x.evs W (Rd.keep h.evs hW) (by omega) g1)
 have HSV:=Lib.hid (fun W (hW:Below w.heap.size w W) => saidVars_any vA vn vc x.vars W (Rdk.keep h.vars hW) (by omega))
 have HSS:=Lib.hid (fun W (hW:Below w.heap.size w W) => saidSts_any sA sn sc x.sts W (h.sts.keep hW) (by omega))
 have HTV:=Lib.hid (fun v W (hv:Rd W v (strV (vnC x))) => setOf_any v (vnC x) W hv (by unfold vnC; rw [List.length_map]; omega) (fun s hs => by obtain ⟨v,hv,rfl⟩:=List.mem_map.1 hs; exact g2 v hv))
 have HTS:=Lib.hid (fun v W (hv:Rd W v (strV (snC x))) => setOf_any v (snC x) W hv (by unfold snC; rw [List.length_map]; omega) (fun s hs => by obtain ⟨v,hv,rfl⟩:=List.mem_map.1 hs; exact g3 v hv))
 obtain ⟨es,hes⟩:∃ es,es = x.evs:=⟨_,rfl⟩
 obtain ⟨vs,hvs⟩:∃ vs,vs = vnC x:=⟨_,rfl⟩
 obtain ⟨ss,hss⟩:∃ ss,ss = snC x:=⟨_,rfl⟩
 rw [show x.vars.map (·.s) = vs from hvs.symm] at HSV
 rw [show x.sts.map (·.s) = ss from hss.symm] at HSS
 rw [← hes] at HSE
 rw [← hvs] at HTV
 rw [← hss] at HTS
 rw [← hes,← hvs,← hss]
 obtain ⟨nm,hnm⟩:∃ nm,nm = x.s:=⟨_,rfl⟩
 rw [← hnm]
 obtain ⟨W1,hW1⟩:∃ W1,(w.alloc (.cells #[.string nm,.slice eA en ec,.slice vA vn vc,.slice sA sn sc] 26)).alloc (.cells #[.map none,.map none,.map none] 163) = W1:=⟨_,rfl⟩
 have hb1:Below w.heap.size w W1:=by rw [← hW1]; exact KitC.below_pair _ _ _
 have hk1:W1.heap[w.heap.size]? = some (.cells #[.string nm,.slice eA en ec,.slice vA vn vc,.slice sA sn sc] 26):=by rw [← hW1]; exact (heap_alloc_old _ _ (by simp)).trans (heap_alloc_new _ _)
 have hk2:W1.heap[w.heap.size + 1]? = some (.cells #[.map none,.map none,.map none] 163):=by rw [← hW1]; have:=heap_alloc_new (w.alloc (.cells #[.string nm,.slice eA en ec,.slice vA vn vc,.slice sA sn sc] 26)) (.cells #[.map none,.map none,.map none] 163); rwa [World.size_alloc] at this
 have HK:=Lib.hid (fun W (hW:Below W1.heap.size W1 W) => And.intro (KitC.block_on hk1 hW) (KitC.block_on hk2 hW))
 have HW1:=Lib.hid hW1
 have HB1:=Lib.hid hb1
 obtain ⟨c0,c1,c2,c3⟩:=cells_4 hk1
 clear h h1 h2 h3 g1 g2 g3 q2 q3 hes hvs hss hnm hW1 hb1 hk1 hk2
 go_enter Tryz.func110,Tryz.ntmps110
 go_wp2_with fail
 rw [HW1.out]
 have hdr:Below W1.heap.size W1 W1.drew:=(Below.refl _ _).drew
 obtain ⟨s0,s1,s2⟩:=cells_3 (HK.out _ (Below.refl _ _)).2
 obtain ⟨t0,t1,t2⟩:=free_3 (HK.out _ (Below.refl _ _)).2
 go_region_held3 (fun w' => w'.cell? ⟨w.heap.size,1,none⟩ = some (.slice eA en ec) ∧ w'.cell? ⟨w.heap.size,2,none⟩ = some (.slice vA vn vc) ∧ w'.cell? ⟨w.heap.size,3,none⟩ = some (.slice sA sn sc)) (go_keep)
  ((first
    | (go_at_call 89; (with_reducible refine (HSV.out _ (below_two' HB1.out (by assumption))).mono ?_); rintro e yv ⟨vv,rfl,hv,bv⟩; have fv:=below_two' (show Below W1.heap.size W1 _ by assumption) bv; obtain ⟨pv0,pv1,pv2,pv3⟩:=cells_4 (HK.out _ fv).1; obtain ⟨sv0,sv1,sv2⟩:=cells_3 (HK.out _ fv).2; obtain ⟨tv0,tv1,tv2⟩:=free_3 (HK.out _ fv).2)
    | (go_at_call 92; (with_reducible refine (HSS.out _ (below_two' HB1.out (by assumption))).mono ?_); rintro e ys ⟨us,rfl,hs,bs⟩; have fs:=below_two' (show Below W1.heap.size W1 _ by assumption) bs; obtain ⟨ps0,ps1,ps2,ps3⟩:=cells_4 (HK.out _ fs).1; obtain ⟨ss0,ss1,ss2⟩:=cells_3 (HK.out _ fs).2; obtain ⟨ts0,ts1,ts2⟩:=free_3 (HK.out _ fs).2)
    | (go_at_call 129; (with_reducible refine (HSE.out _ (below_two' HB1.out (by assumption))).mono ?_); rintro e ya ⟨a,rfl,ha,ba⟩; have fa:=below_two' (show Below W1.heap.size W1 _ by assumption) ba; obtain ⟨pa0,pa1,pa2,pa3⟩:=cells_4 (HK.out _ fa).1; obtain ⟨sa0,sa1,sa2⟩:=cells_3 (HK.out _ fa).2; obtain ⟨ta0,ta1,ta2⟩:=free_3 (HK.out _ fa).2)
    | (go_at_call 129; (with_reducible refine (HTV.out vv _ (Rd.keep hv (by first | exact Below.refl _ _ | assumption | exact below_two' (by assumption) (by assumption) | exact below_two' (by assumption) (below_two' (by assumption) (by assumption)) | exact below_two' (by assumption) (below_two' (by assumption) (below_two' (by assumption) (by assumption)))))).mono ?_); rintro e yb ⟨b,rfl,hb,bb⟩; have fb:=below_two' (show Below W1.heap.size W1 _ by assumption) bb; obtain ⟨pb0,pb1,pb2,pb3⟩:=cells_4 (HK.out _ fb).1; obtain ⟨sb0,sb1,sb2⟩:=cells_3 (HK.out _ fb).2; obtain ⟨tb0,tb1,tb2⟩:=free_3 (HK.out _ fb).2)
    | (go_at_call 129; (with_reducible refine (HTS.out us _ (Rd.keep hs (by first | exact Below.refl _ _ | assumption | exact below_two' (by assumption) (by assumption) | exact below_two' (by assumption) (below_two' (by assumption) (by assumption)) | exact below_two' (by assumption) (below_two' (by assumption) (below_two' (by assumption) (by assumption)))))).mono ?_); rintro e yc ⟨c,rfl,hc,bc⟩; have fc:=below_two' (show Below W1.heap.size W1 _ by assumption) bc; obtain ⟨pc0,pc1,pc2,pc3⟩:=cells_4 (HK.out _ fc).1; obtain ⟨sc0,sc1,sc2⟩:=cells_3 (HK.out _ fc).2; obtain ⟨tc0,tc1,tc2⟩:=free_3 (HK.out _ fc).2)))
 all_goals
  go_wp2_with fail
  obtain ⟨q0,q1,q2⟩:=store_three (blk_of (HK.out _ fc).2 (n:=3) rfl) (.map (some a)) (.map (some b)) (.map (some c))
  have HG:=Lib.hid (set_three yc (w.heap.size + 1) (.map (some a)) (.map (some b)) (.map (some c)))
  refine bodyPost_ret (v:=.agg #[.map (some a),.map (some b),.map (some c)]) (by simp [results,Tryz.results110,go_sem,q0,q1,q2]) rfl ?_
  refine ⟨a,b,c,rfl,⟨SetAt.but (ha.keep ?_) HG.out (HK.out _ fc).2,SetAt.but (hb.keep ?_) HG.out (HK.out _ fc).2,hc.but HG.out (HK.out _ fc).2⟩,(below_two' HB1.out fc).grown HG.out (below_two' HB1.out fc).size (fun j hj => by cases hj; omega)⟩
  ·exact below_two' bv (below_two' bb (below_two' bs bc))
  ·exact below_two' bs bc
end Go.Proofs.YtckojimeglkobaaGreatDoor
namespace Go.Proofs.YtckojimeglkobaaGreatDoor
open Go.RowKit Go.Sort TermSpec NamesSpec EvalSpec ActSpec SynSpec RulesSpec
set_option maxRecDepth 100000
theorem names_small {l:List Tm} {o:Int} (h:Small l):∀ s ∈ namesOf l o,s.size ≤ maxLen:=by
 intro s hs
 unfold namesOf at hs
 obtain ⟨t,ht,rfl⟩:=List.mem_map.1 hs
 have:=h t (List.mem_filter.1 ht).1
 unfold maxLen
 omega
theorem typ_few (l:List Tm):typ l = 0 ∨ typ l = 1 ∨ typ l = 2:=by
 unfold typ tell
 split
 ·unfold come
  cases l with
  | nil => exact .inl rfl
  | cons t r =>
    show typF _ _ = 0 ∨ typF _ _ = 1 ∨ typF _ _ = 2
    unfold typF ownT
    split
    ·split <;> simp
    ·exact .inl rfl
 ·exact .inl rfl
section
variable (a b c:Nat) (es vs ss:List ByteArray)
set_option maxRecDepth 100000 in
set_option maxHeartbeats 8000000 in
theorem wexpr_in (A:Option Addr) (n cp:Nat) (l:List Tm) (ty:Int) (w:World) (h:WdIn w a b c es vs ss) (hT:Tms w (.slice A n cp) l) (hn:n ≤ 1000000) (hs:Small l) (hty:ty = 1 ∨ ty = 2) :
 Calls Tryz.prog 145 #[.agg #[.map (some a),.map (some b),.map (some c)],.slice A n cp,.int .i64 ty] w (RetB w (exprR vs ss l ty)):=by
 obtain ⟨_,_,_,heq,hnl,_⟩:=hT.shape
 cases heq
 have HTY:=Lib.hid (fun W (hW:Below w.heap.size w W) => typ_any A n cp l hnl (by omega) W (hT.keep hW))
 have HNM:=Lib.hid (fun (o:Int) W (hW:Below w.heap.size w W) => names_any A n cp l o hnl (by omega) W (hT.keep hW))
 have hl2:=namesOf_length l 2
 have hl11:=namesOf_length l 11
 have HAV:=Lib.hid (fun v W (hW:Below w.heap.size w W) (hv:Rd W v (strV (namesOf l 2))) => hasAll_in b vs v (namesOf l 2) W (h.vs.keep hW) hv (by omega) (names_small hs))
 have HAS:=Lib.hid (fun v W (hW:Below w.heap.size w W) (hv:Rd W v (strV (namesOf l 11))) => hasAll_in c ss v (namesOf l 11) W (h.ss.keep hW) hv (by omega) (names_small hs))
 have hR:=exprR_is vs ss l ty
 have hq3:=typ_few l
 obtain ⟨q,hq⟩:∃ q,q = typ l:=⟨_,rfl⟩
 obtain ⟨r1,hr1⟩:∃ r,r = allIn (namesOf l 2) vs:=⟨_,rfl⟩
 obtain ⟨r2,hr2⟩:∃ r,r = allIn (namesOf l 11) ss:=⟨_,rfl⟩
 obtain ⟨r,hr⟩:∃ r,r = exprR vs ss l ty:=⟨_,rfl⟩
 obtain ⟨n2,hn2⟩:∃ x,x = namesOf l 2:=⟨_,rfl⟩
 obtain ⟨n11,hn11⟩:∃ x,x = namesOf l 11:=⟨_,rfl⟩
 have HN2:=Lib.hid (HNM.out 2)
 have HN11:=Lib.hid (HNM.out 11)
 rw [← hq] at HTY hq3
 rw [← hr1] at HAV
 rw [← hr2] at HAS
 rw [← hn2] at HN2 HAV
 rw [← hn11] at HN11 HAS
 rw [← hq,← hr1,← hr2,← hr] at hR
 rw [← hr]
 obtain ⟨W1,hW1⟩:∃ W1,w.alloc (.cells #[.map (some a),.map (some b),.map (some c)] 163) = W1:=⟨_,rfl⟩
 have hb1:Below w.heap.size w W1:=by rw [← hW1]; exact KitC.below_one _ _
 have hk1:W1.heap[w.heap.size]? = some (.cells #[.map (some a),.map (some b),.map (some c)] 163):=by rw [← hW1]; exact heap_alloc_new _ _
 have HK:=Lib.hid (fun W (hW:Below W1.heap.size W1 W) => KitC.block_on hk1 hW)
 have HW1:=Lib.hid hW1
 have HB1:=Lib.hid hb1
 obtain ⟨c0,c1,c2⟩:=cells_3 hk1
 have hdr:Below W1.heap.size W1 W1.drew:=(Below.refl _ _).drew
 clear h hT hn hs hnl hl2 hl11 HNM hq hr1 hr2 hr hn2 hn11 hW1 hb1 hk1
 have hc:(q ≠ ty ∧ ((q = 0 ∧ ty = 1) ∨ (q = 0 ∧ ty = 2) ∨ (q = 1 ∧ ty = 2) ∨ (q = 2 ∧ ty = 1))) ∨ (q = ty ∧ ((q = 1 ∧ ty = 1) ∨ (q = 2 ∧ ty = 2))):=by omega
 clear hq3 hty
 rcases hc with ⟨e1,hc⟩ | ⟨e1,hc⟩
 ·have HR:Hid (r = false):=Lib.hid (by rw [hR]; simp [e1])
  have g:(q == ty) = false:=by simpa using e1
  clear e1 hR
  have HTR:Hid (∀ d os,Calls Tryz.prog 155 #[.slice A n cp] (grow (redrawn W1 d) os) fun e w'' => e = .returned (.int .i64 q) ∧ ∃ p:Regrown,w'' = grow (redrawn W1 p.d) p.os) :=
   Lib.hid (fun d os => Calls.regrown_of (HTY.out _ (below_two' HB1.out (below_regrown W1 d os))))
  clear hc
  go_enter Tryz.func145,Tryz.ntmps145
  go_wp2_with fail
  rw [HW1.out]
  refine wp_region_quiet_below (by kernel_rfl) (by kernel_rfl) ?_
  repeat (go_big_quiet_step (with_reducible exact HTR.out _ _))
  refine wpQuiet_nil ?_
  intro _ hw'
  obtain ⟨⟨dq,osq⟩,hw''⟩:=hw'
  subst hw''
  simp only
  have hb3:=below_regrown W1 dq osq
  go_wp2_with fail
  go_ret
  exact ⟨ret_bool HR.out.symm,below_two' HB1.out hb3⟩
 cases r1 with
 | false =>
   have HR:Hid (r = false):=Lib.hid (by rw [hR]; simp)
   clear e1 hR
   rcases hc with ⟨rfl,rfl⟩ | ⟨rfl,rfl⟩
   all_goals
    go_enter Tryz.func145,Tryz.ntmps145
    go_wp2_with fail
    rw [HW1.out]
    first
    | (go_region_with ((first
        | (go_at_call 155; (with_reducible refine (HTY.out _ (below_two' HB1.out (by assumption))).mono ?_); rintro e y1 ⟨rfl,k1⟩; have f1:=below_two' (show Below W1.heap.size W1 _ by assumption) k1; obtain ⟨p10,p11,p12⟩:=cells_3 (HK.out _ f1))
        | (go_at_call 157; (with_reducible refine (HN2.out _ (below_two' HB1.out (by assumption))).mono ?_); rintro e y2 ⟨v2,rfl,k2v,k2⟩; have f2:=below_two' f1 k2; obtain ⟨p20,p21,p22⟩:=cells_3 (HK.out _ f2))
        | (go_at_call 156; (with_reducible refine (HAV.out v2 _ (below_two' HB1.out f2) k2v).mono ?_); rintro e y3 ⟨rfl,k3⟩; have f3:=below_two' f2 k3; obtain ⟨p30,p31,p32⟩:=cells_3 (HK.out _ f3)))))
    | fail
    all_goals
     go_wp2_with fail
     go_ret
     exact ⟨ret_bool HR.out.symm,below_two' HB1.out f3⟩
 | true =>
   have HR:Hid (r = r2):=Lib.hid (by rw [hR]; simp [e1])
   clear e1 hR
   rcases hc with ⟨rfl,rfl⟩ | ⟨rfl,rfl⟩
   all_goals
    go_enter Tryz.func145,Tryz.ntmps145
    go_wp2_with fail
    rw [HW1.out]
    go_region_held3 (fun w' => w'.cell? ⟨w.heap.size,1,none⟩ = some (.map (some b)) ∧ w'.cell? ⟨w.heap.size,2,none⟩ = some (.map (some c))) (go_keep)
     ((first
       | (go_at_call 155; (with_reducible refine (HTY.out _ (below_two' HB1.out (by assumption))).mono ?_); rintro e y1 ⟨rfl,k1⟩; have f1:=below_two' (show Below W1.heap.size W1 _ by assumption) k1; obtain ⟨p10,p11,p12⟩:=cells_3 (HK.out _ f1))
       | (go_at_call 157; (with_reducible refine (HN2.out _ (below_two' HB1.out f1)).mono ?_); rintro e y2 ⟨v2,rfl,k2v,k2⟩; have f2:=below_two' f1 k2; obtain ⟨p20,p21,p22⟩:=cells_3 (HK.out _ f2))
       | (go_at_call 156; (with_reducible refine (HAV.out v2 _ (below_two' HB1.out f2) k2v).mono ?_); rintro e y3 ⟨rfl,k3⟩; have f3:=below_two' f2 k3; obtain ⟨p30,p31,p32⟩:=cells_3 (HK.out _ f3))
       | (go_at_call 157; (with_reducible refine (HN11.out _ (below_two' HB1.out f3)).mono ?_); rintro e y4 ⟨v4,rfl,k4v,k4⟩; have f4:=below_two' f3 k4; obtain ⟨p40,p41,p42⟩:=cells_3 (HK.out _ f4))
       | (go_at_call 156; (with_reducible refine (HAS.out v4 _ (below_two' HB1.out f4) k4v).mono ?_); rintro e y5 ⟨rfl,k5⟩; have f5:=below_two' f4 k5; obtain ⟨p50,p51,p52⟩:=cells_3 (HK.out _ f5))))
    go_wp2_with fail
    go_ret
    exact ⟨ret_bool HR.out.symm,below_two' HB1.out f5⟩
end
end Go.Proofs.YtckojimeglkobaaGreatDoor
namespace Go.Proofs.YtckojimeglkobaaGreatDoor
open Go.RowKit TermSpec NamesSpec EvalSpec ActSpec SynSpec RulesSpec
set_option maxRecDepth 100000
def FewAc (a:Ac):Prop:=a.s.size ≤ 9223372036854775807 ∧ Small a.x ∧ a.x.length ≤ 1000000
theorem actR_no {vs ss:List ByteArray} {any:Bool} {a:Ac} (h:hasS vs a.s = false):actR vs ss any a = false:=by unfold actR; rw [h]; rfl
theorem actR_any {vs ss:List ByteArray} {any:Bool} {a:Ac} (h:hasS vs a.s = true) (h2:a.any = true):actR vs ss any a = any:=by unfold actR; rw [h,h2]; rfl
theorem actR_expr {vs ss:List ByteArray} {any:Bool} {a:Ac} (h:hasS vs a.s = true) (h2:a.any = false):actR vs ss any a = exprR vs ss a.x 1:=by unfold actR; rw [h,h2]; rfl
theorem actsR_next {vs ss:List ByteArray} {any:Bool} {l:List Ac} {k:Nat} {a:Ac} (ha:l[k]? = some a) (h:actsR vs ss any (l.take k) = true) (h2:actR vs ss any a = true):actsR vs ss any (l.take (k + 1)) = true:=by
 unfold actsR at h ⊢
 rw [take_next ha,List.all_append,h]
 simp [h2]
theorem actsR_stop {vs ss:List ByteArray} {any:Bool} {l:List Ac} {k:Nat} {a:Ac} (ha:l[k]? = some a) (h2:actR vs ss any a = false):actsR vs ss any l = false:=by
 unfold actsR
 rw [List.all_eq_false]
 exact ⟨a,List.mem_of_getElem? ha,by simp [h2]⟩
section
variable (a b c:Nat) (es vs ss:List ByteArray)
set_option maxRecDepth 100000 in
set_option maxHeartbeats 4000000 in
theorem wacts_in (A:Option Addr) (n cp:Nat) (l:List Ac) (w:World) (h:WdIn w a b c es vs ss) (hT:Acs w (.slice A n cp) l) (hf:∀ x ∈ l,FewAc x) (hm:n ≤ 1000000) :
 Calls Tryz.prog 143 #[.agg #[.map (some a),.map (some b),.map (some c)],.slice A n cp] w (RetB w (actsR vs ss true l)):=by
 have HN:=Lib.hid hT.len.1
 obtain ⟨W1,hW1⟩:∃ W1,w.alloc (.cells #[.map (some a),.map (some b),.map (some c)] 163) = W1:=⟨_,rfl⟩
 have hb1:Below w.heap.size w W1:=by rw [← hW1]; exact KitC.below_one _ _
 have hk1:W1.heap[w.heap.size]? = some (.cells #[.map (some a),.map (some b),.map (some c)] 163):=by rw [← hW1]; exact heap_alloc_new _ _
 have HK:=Lib.hid (fun W (hW:Below W1.heap.size W1 W) => KitC.block_on hk1 hW)
 have HT:=Lib.hid (fun W (hW:Below W1.heap.size W1 W) => hT.keep (below_two' hb1 hW))
 have HH:=Lib.hid (fun W (hW:Below W1.heap.size W1 W) => h.keep (below_two' hb1 hW))
 have HF:=Lib.hid hf
 have HW1:=Lib.hid hW1
 have HB1:=Lib.hid hb1
 obtain ⟨r,hr⟩:∃ r,r = actsR vs ss true l:=⟨_,rfl⟩
 have HR:=Lib.hid hr
 rw [← hr]
 clear h hT hf hW1 hb1 hk1 hr
 go_enter Tryz.func143,Tryz.ntmps143
 go_wp2_with fail
 rw [HW1.out]
 go_loopw [9] (fun i wr => ∃ k:Nat,k ≤ n ∧ i = .int .i64 k ∧ Hid (actsR vs ss true (l.take k) = true ∧ Below W1.heap.size W1 wr)) (fun i _ => n - (intOf i).toNat)
 case atStart => exact ⟨0,Nat.zero_le _,rfl,Lib.hid ⟨rfl,Below.refl _ _⟩⟩
 case round =>
  obtain ⟨k,hk,rfl,HL⟩:=hrel
  by_cases hlt:k < n
  ·obtain ⟨x,hx⟩:∃ x,l[k]? = some x:=get_some (by have:=HN.out; omega)
   obtain ⟨bb,off,xA,xn,xc,rfl,hb,htm,d0,d1,d2⟩:=(HT.out _ HL.out.2).at_ hx
   obtain ⟨f1,f2,f3⟩:=HF.out x (List.mem_of_getElem? hx)
   obtain ⟨_,_,_,heq,hxn,_⟩:=htm.shape
   cases heq
   have HSTOP:=Lib.hid (fun h2 => HR.out.trans (actsR_stop (vs:=vs) (ss:=ss) (any:=true) hx h2))
   have HNEXT:=Lib.hid (fun h2 => actsR_next hx HL.out.1 h2)
   have hkI:(k:Int) < n:=by omega
   obtain ⟨q,hq⟩:∃ q,q = hasS vs x.s:=⟨_,rfl⟩
   obtain ⟨r2,hr2⟩:∃ q,q = exprR vs ss x.x 1:=⟨_,rfl⟩
   have HNO:=Lib.hid (fun h2 => actR_no (vs:=vs) (ss:=ss) (any:=true) (a:=x) (hq.symm.trans h2))
   have HANY:=Lib.hid (fun h2 h3 => actR_any (vs:=vs) (ss:=ss) (any:=true) (a:=x) (hq.symm.trans h2) h3)
   have HEX:=Lib.hid (fun h2 h3 => (actR_expr (vs:=vs) (ss:=ss) (any:=true) (a:=x) (hq.symm.trans h2) h3).trans hr2.symm)
   have HHAS:=Lib.hid (fun W (hW:Below W1.heap.size W1 W) => has_in b vs x.s W (HH.out W hW).vs (by unfold maxLen; omega))
   have HEXPR:=Lib.hid (fun W (hW:Below W1.heap.size W1 W) (hT:Tms W (.slice xA xn xc) x.x) => wexpr_in a b c es vs ss xA xn xc x.x 1 W (HH.out W hW) hT (by omega) f2 (.inl rfl))
   rw [← hq] at HHAS
   rw [← hr2] at HEXPR
   obtain ⟨s,any,t⟩:=x
   simp only at d0 d1 d2 f1 f2 f3 htm hxn HANY HEX HHAS HEXPR HSTOP HNEXT
   obtain ⟨W2,hW2⟩:∃ W2,wr.alloc (.cells #[.string s,.bool any,.slice xA xn xc] 98) = W2:=⟨_,rfl⟩
   have hb2:Below wr.heap.size wr W2:=by rw [← hW2]; exact KitC.below_one _ _
   have hk2:W2.heap[wr.heap.size]? = some (.cells #[.string s,.bool any,.slice xA xn xc] 98):=by rw [← hW2]; exact heap_alloc_new _ _
   have HK2:=Lib.hid (fun W (hW:Below W2.heap.size W2 W) => KitC.block_on hk2 hW)
   have HTM:=Lib.hid (fun W (hW:Below W2.heap.size W2 W) => htm.keep (below_two' hb2 hW))
   have HB2:=Lib.hid (below_two' HL.out.2 hb2)
   have HW2:=Lib.hid hW2
   obtain ⟨c0,c1,c2⟩:=cells_3 (HK.out _ HL.out.2)
   have hws:w.heap.size < wr.heap.size:=(Array.getElem?_eq_some_iff.1 (HK.out _ HL.out.2)).1
   clear hx htm f1 f2 f3 hxn hq hr2 hW2 hb2 hk2
   cases q with
   | false =>
     have HE:=Lib.hid (HSTOP.out (HNO.out rfl))
     clear HSTOP HNEXT HNO HANY HEX
     go_wp2_with (rw [HW2.out]; go_at_call 144; go_fit (HHAS.out _ HB2.out))
     rintro e w3 ⟨rfl,hb3⟩
     have HB3:=Lib.hid (below_two' HB2.out hb3)
     clear hb3
     go_wp2_with fail
     go_ret
     exact ⟨ret_bool HE.out.symm,below_two' HB1.out HB3.out⟩
   | true =>
     cases any with
     | true =>
       have HE:=Lib.hid (HNEXT.out (HANY.out rfl rfl))
       clear HSTOP HNEXT HNO HANY HEX
       go_wp2_with (rw [HW2.out]; go_at_call 144; go_fit (HHAS.out _ HB2.out))
       rintro e w3 ⟨rfl,hb3⟩
       have HB3:=Lib.hid (below_two' HB2.out hb3)
       obtain ⟨e0',e1',e2'⟩:=cells_3 (HK2.out _ hb3)
       clear hb3
       go_wp2_with fail
       go_roundw
       case rel => exact ⟨k + 1,hlt,by simp,Lib.hid ⟨HE.out,HB3.out⟩⟩
       case measure => simp [intOf]; omega
     | false =>
       cases r2 with
       | false =>
         have HE:=Lib.hid (HSTOP.out (HEX.out rfl rfl))
         clear HSTOP HNEXT HNO HANY HEX
         go_wp2_with (rw [HW2.out]; go_at_call 144; go_fit (HHAS.out _ HB2.out))
         rintro e w3 ⟨rfl,hb3⟩
         have HB3:=Lib.hid (below_two' HB2.out hb3)
         obtain ⟨e0',e1',e2'⟩:=cells_3 (HK2.out _ hb3)
         obtain ⟨c0',c1',c2'⟩:=cells_3 (HK.out _ HB3.out)
         have HT3:=Lib.hid (HTM.out _ hb3)
         clear hb3
         go_wp2_with (go_at_call 145; go_fit (HEXPR.out _ HB3.out HT3.out))
         rintro e w4 ⟨rfl,hb4⟩
         have HB4:=Lib.hid (below_two' HB3.out hb4)
         clear hb4
         go_wp2_with fail
         go_ret
         exact ⟨ret_bool HE.out.symm,below_two' HB1.out HB4.out⟩
       | true =>
         have HE:=Lib.hid (HNEXT.out (HEX.out rfl rfl))
         clear HSTOP HNEXT HNO HANY HEX
         go_wp2_with (rw [HW2.out]; go_at_call 144; go_fit (HHAS.out _ HB2.out))
         rintro e w3 ⟨rfl,hb3⟩
         have HB3:=Lib.hid (below_two' HB2.out hb3)
         obtain ⟨e0',e1',e2'⟩:=cells_3 (HK2.out _ hb3)
         obtain ⟨c0',c1',c2'⟩:=cells_3 (HK.out _ HB3.out)
         have HT3:=Lib.hid (HTM.out _ hb3)
         clear hb3
         go_wp2_with (go_at_call 145; go_fit (HEXPR.out _ HB3.out HT3.out))
         rintro e w4 ⟨rfl,hb4⟩
         have HB4:=Lib.hid (below_two' HB3.out hb4)
         clear hb4
         go_wp2_with fail
         go_roundw
         case rel => exact ⟨k + 1,hlt,by simp,Lib.hid ⟨HE.out,HB4.out⟩⟩
         case measure => simp [intOf]; omega
  ·obtain rfl:k = n:=by omega
   have HE:Hid (r = true):=Lib.hid (by have h1:=HL.out.1; rw [List.take_of_length_le (by rw [← HN.out]; omega)] at h1; rw [HR.out,h1])
   go_wp2_with fail
   go_ret
   exact ⟨ret_bool HE.out.symm,below_two' HB1.out HL.out.2⟩
theorem noneAny_stop {l:List Ac} {k:Nat} {x:Ac} (hx:l[k]? = some x) (h:x.any = true):noneAny l = false:=by unfold noneAny; rw [List.all_eq_false]; exact ⟨x,List.mem_of_getElem? hx,by simp [h]⟩
theorem noneAny_next {l:List Ac} {k:Nat} {x:Ac} (hx:l[k]? = some x) (h0:noneAny (l.take k) = true) (h:x.any = false):noneAny (l.take (k + 1)) = true:=by unfold noneAny at h0 ⊢; rw [take_next hx,List.all_append,h0]; simp [h]
set_option maxRecDepth 100000 in
set_option maxHeartbeats 4000000 in
theorem wedge_in (A:Option Addr) (n cp:Nat) (l:List Ac) (w:World) (h:WdIn w a b c es vs ss) (hT:Acs w (.slice A n cp) l) (hf:∀ x ∈ l,FewAc x) (hm:n ≤ 1000000) :
 Calls Tryz.prog 130 #[.agg #[.map (some a),.map (some b),.map (some c)],.slice A n cp] w (RetB w (actsR vs ss false l)):=by
 have HN:=Lib.hid hT.len.1
 have HACTS:=Lib.hid (fun W (hW:Below w.heap.size w W) => wacts_in a b c es vs ss A n cp l W (h.keep hW) (hT.keep hW) hf hm)
 have HED:=Lib.hid (edge_is vs ss l)
 obtain ⟨r2,hr2⟩:∃ q,q = actsR vs ss true l:=⟨_,rfl⟩
 obtain ⟨r,hr⟩:∃ q,q = actsR vs ss false l:=⟨_,rfl⟩
 rw [← hr2] at HACTS HED
 rw [← hr] at HED ⊢
 obtain ⟨W1,hW1⟩:∃ W1,w.alloc (.cells #[.map (some a),.map (some b),.map (some c)] 163) = W1:=⟨_,rfl⟩
 have hb1:Below w.heap.size w W1:=by rw [← hW1]; exact KitC.below_one _ _
 have hk1:W1.heap[w.heap.size]? = some (.cells #[.map (some a),.map (some b),.map (some c)] 163):=by rw [← hW1]; exact heap_alloc_new _ _
 have HK:=Lib.hid (fun W (hW:Below W1.heap.size W1 W) => KitC.block_on hk1 hW)
 have HT:=Lib.hid (fun W (hW:Below W1.heap.size W1 W) => hT.keep (below_two' hb1 hW))
 have HW1:=Lib.hid hW1
 have HB1:=Lib.hid hb1
 clear h hT hf hW1 hb1 hk1 hr hr2
 go_enter Tryz.func130,Tryz.ntmps130
 go_wp2_with fail
 rw [HW1.out]
 go_loopw [9] (fun i wr => ∃ k:Nat,k ≤ n ∧ i = .int .i64 k ∧ Hid (noneAny (l.take k) = true ∧ Below W1.heap.size W1 wr)) (fun i _ => n - (intOf i).toNat)
 case atStart => exact ⟨0,Nat.zero_le _,rfl,Lib.hid ⟨rfl,Below.refl _ _⟩⟩
 case round =>
  obtain ⟨k,hk,rfl,HL⟩:=hrel
  by_cases hlt:k < n
  ·obtain ⟨x,hx⟩:∃ x,l[k]? = some x:=get_some (by have:=HN.out; omega)
   obtain ⟨bb,off,xA,xn,xc,rfl,hb,htm,d0,d1,d2⟩:=(HT.out _ HL.out.2).at_ hx
   have hkI:(k:Int) < n:=by omega
   have HSTOP:=Lib.hid (fun h => noneAny_stop hx h)
   have HNEXT:=Lib.hid (fun h => noneAny_next hx HL.out.1 h)
   obtain ⟨s,any,t⟩:=x
   simp only at d0 d1 d2 HSTOP HNEXT
   have HBA:=Lib.hid (below_two' HL.out.2 (KitC.below_one wr (.cells #[.string s,.bool any,.slice xA xn xc] 98)))
   clear hx htm
   cases any with
   | true =>
     have HE:Hid (r = false):=Lib.hid (by rw [HED.out,HSTOP.out rfl]; rfl)
     clear HSTOP HNEXT
     go_wp2_with fail
     go_ret
     exact ⟨ret_bool HE.out.symm,below_two' HB1.out HBA.out⟩
   | false =>
     have HE:=Lib.hid (HNEXT.out rfl)
     clear HSTOP HNEXT
     go_wp2_with fail
     go_roundw
     case rel => exact ⟨k + 1,hlt,by simp,Lib.hid ⟨HE.out,HBA.out⟩⟩
     case measure => simp [intOf]; omega
  ·obtain rfl:k = n:=by omega
   have HE:Hid (r = r2):=Lib.hid (by have h1:=HL.out.1; rw [List.take_of_length_le (by rw [← HN.out]; omega)] at h1; rw [HED.out,h1]; rfl)
   obtain ⟨c0,c1,c2⟩:=cells_3 (HK.out _ HL.out.2)
   go_wp2_with (go_at_call 143; go_fit (HACTS.out _ (below_two' HB1.out HL.out.2)))
   rintro e w3 ⟨rfl,hb3⟩
   have HB3:=Lib.hid (below_two' HL.out.2 hb3)
   clear hb3
   go_wp2_with fail
   go_ret
   exact ⟨ret_bool HE.out.symm,below_two' HB1.out HB3.out⟩
end
end Go.Proofs.YtckojimeglkobaaGreatDoor