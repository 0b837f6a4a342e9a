/- PrintStates, SynParse, joined. -/
import Derived.Test.YtcofikjpplkjdaaGreatDoorMPrintLong25
import Derived.Test.YtcofikjpplkjdaaGreatDoorMPrintLong17
import Derived.Test.YtcofikjpplkjdaaGreatDoorMPrintLong22
namespace Go.Proofs.YtcofikjpplkjdaaGreatDoor
namespace PrintSpec
open CurSpec TermSpec EvalSpec NamesSpec ExprSpec ScanSpec ActSpec TransSpec SynSpec
open ShapeSpec (Sh up sf endOf SU)
def slc (l:List Ts) (a b:Nat):List Sx:=((l.map Ts.sx).drop a).take (b - a)
theorem slc_nil (l:List Ts) (a:Nat):slc l a a = []:=by unfold slc; rw [Nat.sub_self,List.take_zero]
theorem slc_app (l:List Ts) {a b c:Nat} (h1:a ≤ b) (h2:b ≤ c):slc l a c = slc l a b ++ slc l b c:=by
 unfold slc
 rw [show c - a = (b - a) + (c - b) by omega,List.take_add,List.drop_drop,show a + (b - a) = b by omega]
theorem slc_one {l:List Ts} {a:Nat} {t:Ts} (h:l[a]? = some t):slc l a (a + 1) = [t.sx]:=by
 unfold slc
 rw [show a + 1 - a = 1 by omega,List.take_one,List.head?_drop,List.getElem?_map,h]
 rfl
theorem slc_cons {l:List Ts} {a b:Nat} {t:Ts} (h:l[a]? = some t) (hb:a + 1 ≤ b):slc l a b = t.sx :: slc l (a + 1) b:=by
 rw [slc_app l (a:=a) (b:=a + 1) (by omega) hb,slc_one h]
 rfl
theorem slc_len (l:List Ts) {a b:Nat} (h1:a ≤ b) (h2:b ≤ l.length):(slc l a b).length = b - a:=by
 unfold slc
 rw [List.length_take,List.length_drop,List.length_map]
 omega
theorem slc_all (l:List Ts):slc l 0 l.length = l.map Ts.sx:=by
 unfold slc
 rw [List.drop_zero,Nat.sub_zero,List.take_of_length_le (by rw [List.length_map]; exact Nat.le_refl _)]
structure Stand (sh:List Sh) (l:List Ts):Prop where
 eq:sh = l.map fun t => ⟨t.kind,t.par⟩
 su:SU sh sh.length
 deep:∀ i,i < sh.length → (up sh i).length ≤ 11
 few:sh.length ≤ 60
 ok:∀ t ∈ l,t.Ok
section
variable {sh:List Sh} {l:List Ts}
theorem Stand.len (H:Stand sh l):sh.length = l.length:=by rw [H.eq,List.length_map]
theorem Stand.at_ (H:Stand sh l) {i:Nat} (hi:i < sh.length):∃ t,l[i]? = some t ∧ t.Ok ∧ ShapeSpec.kind sh i = t.kind ∧ ShapeSpec.par sh i = t.par ∧ 1 ≤ t.kind ∧ t.kind ≤ 3:=by
 obtain ⟨t,ht⟩:=get_some (l:=l) (k:=i) (by rw [← H.len]; exact hi)
 have hs:sh[i]? = some ⟨t.kind,t.par⟩:=by rw [H.eq,List.getElem?_map,ht]; rfl
 have hk:=ShapeSpec.kind_at hs
 have hg:=H.su i hi
 simp only [ShapeSpec.goodB,Bool.and_eq_true,decide_eq_true_eq] at hg
 rw [hk] at hg
 exact ⟨t,ht,H.ok t (List.mem_of_getElem? ht),hk,ShapeSpec.par_at hs,hg.1.1,hg.1.2⟩
theorem Stand.leaf (H:Stand sh l) {i:Nat} (hi:i < sh.length) (hk:ShapeSpec.kind sh i = 1):endOf sh i = i + 1:=by
 obtain ⟨a1,a2⟩:=ShapeSpec.end_bd hi
 by_cases he:i + 1 < endOf sh i
 ·obtain ⟨-,h1,h2⟩:=kid_first H.su hi he
  have hg:=H.su (i + 1) h2
  simp only [ShapeSpec.goodB,ShapeSpec.hangB,Bool.and_eq_true,decide_eq_true_eq] at hg
  rw [if_neg (by omega)] at hg
  simp only [Bool.and_eq_true,decide_eq_true_eq,h1] at hg
  exact absurd hk hg.2.1.2
 ·omega
theorem stK_head {i:Nat} {t:Ts} (ht:l[i]? = some t):∃ r,stK sh l i = headK t ++ r:=by
 unfold stK
 rw [ht]
 simp only [Option.elim]
 split
 ·exact ⟨_,rfl⟩
 ·exact ⟨_,rfl⟩
theorem seg_first (H:Stand sh l) {i m e:Nat} (hm:m < sh.length) (he:m < e):∃ t r,l[m]? = some t ∧ seg sh l i m e = headK t ++ r ∧ t.Ok ∧ 1 ≤ t.kind ∧ t.kind ≤ 3:=by
 obtain ⟨t,ht,hok,-,-,h1,h3⟩:=H.at_ hm
 obtain ⟨r,hr⟩:=stK_head (sh:=sh) ht
 rw [seg_app i (a:=m) (b:=m + 1) (by omega) (by omega),seg_one]
 unfold bodyK
 rw [hr,List.append_assoc,List.append_assoc]
 exact ⟨t,_,ht,rfl,hok,h1,h3⟩
def ReadsAt (sh:List Sh) (l:List Ts) (i:Nat):Prop:=∀ c d,Goo c (seg sh l i i (endOf sh i)) d → stR (12 - (up sh i).length) i (ShapeSpec.par sh i) c = (d,slc l i (endOf sh i))
theorem kids_goo (H:Stand sh l) {i k:Nat} (hi:i < sh.length) (hk:k + 1 = 12 - (up sh i).length) (IH:∀ m,i < m → m < sh.length → ReadsAt sh l m) :
 ∀ (n m:Nat) (c d:Cur) (out:List Sx),endOf sh i - m ≤ n → i < m → m ≤ endOf sh i → (m < endOf sh i → up sh m = sf sh i ∧ ShapeSpec.par sh m = i) → out.length = m - (i + 1) → Goo c (seg sh l (i + 1) m (endOf sh i)) d → ¬ qS d = true →
   loopT qS (stS (stR k) k i) c out = (d,out ++ slc l m (endOf sh i)):=by
 intro n
 induction n with
 | zero =>
   intro m c d out hn him hme _ _ hg hno
   obtain rfl:m = endOf sh i:=by omega
   rw [seg_nil] at hg
   rw [goo_nil hg] at hno ⊢
   rw [loopT_no hno,slc_nil,List.append_nil]
 | succ n ih =>
   intro m c d out hn him hme hkid hout hg hno
   rcases Nat.lt_or_ge m (endOf sh i) with hlt | hge
   ·obtain ⟨hup,hpar⟩:=hkid hlt
    obtain ⟨hml,hee,hnext⟩:=kid_next H.su hi hlt hup him
    obtain ⟨a1,a2⟩:=ShapeSpec.end_bd hml
    obtain ⟨t,r,ht,hr,hok,h1,h3⟩:=seg_first H (i:=m) hml a1
    rw [seg_app (i + 1) (a:=m) (b:=endOf sh m) (by omega) hee,seg_kid H.su hml hup] at hg
    obtain ⟨x,g1,g2⟩:=goo_app hg
    have hR:=IH m him hml c x g1
    have hul:(up sh m).length = (up sh i).length + 1:=by rw [hup]; rfl
    rw [hul,hpar,show 12 - ((up sh i).length + 1) = k by omega] at hR
    have hq:qS c = true:=by
     rw [hr] at g1
     exact (head_goo ⟨h1,h3⟩ hok.nm g1 0).2.1
    have hdm:=H.deep m hml
    have hroom:SynSpec.room ((i + 1 + out.length:Nat):Int) (13 - (k:Int)) = 0:=by
     unfold SynSpec.room
     have:=H.few
     rw [if_neg (by omega),if_neg (by omega)]
    have hs:stS (stR k) k i c out = (x,out ++ slc l m (endOf sh m)):=by
     unfold stS
     rw [hroom,fail_zero,show i + 1 + out.length = m by omega,hR]
    have hlen:=H.len
    rw [loopT_yes (goes_S k i) hq,hs,ih (endOf sh m) x d _ (by omega) (by omega) hee hnext (by rw [List.length_append,slc_len l (by omega) (by omega)]; omega) g2 hno,List.append_assoc,← slc_app l (by omega) hee]
   ·obtain rfl:m = endOf sh i:=by omega
    rw [seg_nil] at hg
    rw [goo_nil hg] at hno ⊢
    rw [loopT_no hno,slc_nil,List.append_nil]
theorem qS_no {c:Cur} {ws:List (List UInt8)} (h:Nxt c ws) (hw:∀ s ∈ ws,bs s ≠ wLeaf ∧ bs s ≠ wOr ∧ bs s ≠ wAnd):¬ qS c = true:=by
 unfold qS
 rw [Bool.or_eq_true,Bool.or_eq_true]
 rintro (h' | h' | h')
 ·exact nxt_no h (fun s hs => (hw s hs).1) h'
 ·exact nxt_no h (fun s hs => (hw s hs).2.1) h'
 ·exact nxt_no h (fun s hs => (hw s hs).2.2) h'
theorem reads_all_states (H:Stand sh l):∀ (n i:Nat),sh.length - i ≤ n → i < sh.length → ReadsAt sh l i:=by
 intro n
 induction n with
 | zero => intro i h1 h2; omega
 | succ n ih =>
   intro i hn hi c d hg
   obtain ⟨t,ht,hok,hkk,hpp,h1,h3⟩:=H.at_ hi
   obtain ⟨a1,a2⟩:=ShapeSpec.end_bd hi
   have hdeep:=H.deep i hi
   obtain ⟨k,hk⟩:∃ k,k + 1 = 12 - (up sh i).length:=⟨12 - (up sh i).length - 1,by omega⟩
   have hkids:=kids_end H.su hi
   rw [seg_state H.su hi] at hg
   rw [← hk,hpp]
   show bodyS (kidsR (stR k) k i) t.par c = _
   rcases hem:emptyB sh l i with _ | _
   ·have e1:stK sh l i = headK t ++ ((3,[123]) :: insK t):=by unfold stK; rw [ht]; simp [hem]
    have e2:shutK sh l i = [(3,lShut)]:=by unfold shutK; rw [if_pos hem]
    rw [e1,e2,List.append_assoc] at hg
    obtain ⟨g1,-,g2⟩:=head_goo ⟨h1,h3⟩ hok.nm hg t.par
    obtain ⟨y,y1,y2⟩:=goo_app g2
    have hny:Nxt y wsS:=by
     rcases Nat.lt_or_ge (i + 1) (endOf sh i) with hlt | hge
     ·obtain ⟨t',r,-,hr,-⟩:=seg_first H (i:=i + 1) (kid_first H.su hi hlt).2.2 hlt
      rw [hr] at y2
      exact goo_nxt (s:=wordT t'.kind) y2 (word_in _)
     ·rw [show endOf sh i = i + 1 by omega,seg_nil] at y2
      exact goo_nxt (s:=lShut) y2 (by simp)
    have hins:=insR_goo hok y1 y2 hny
    obtain ⟨z,z1,z2⟩:=goo_app y2
    have hw:want z 3 wShut = d:=goo_want z2
    have hsemi:¬ isB (on (on c)) 3 wEnd = true:=isB_ne (by rw [(goo_cons y1).2.2.2]; decide)
    have hset:setI ⟨t.s,t.kind,t.par,[],[],[]⟩ (t.en.map Ta.ac,t.ex.map Ta.ac,t.tr.map Tt.tr) = t.sx:=rfl
    unfold bodyS
    rw [g1]
    dsimp only
    rw [if_neg hsemi,hins]
    dsimp only
    rw [hset,slc_cons ht (by omega)]
    by_cases hleaf:t.kind = 1
    ·have he:=H.leaf hi (by rw [hkk]; exact hleaf)
     rw [he,seg_nil] at z1
     rw [if_pos hleaf,he,slc_nil,← goo_nil z1,hw]
    ·have hno:¬ qS z = true:=qS_no (ws:=[lShut]) (goo_nxt z2 (by simp)) (by decide)
     have hkd:=kids_goo H hi hk (fun m h1 h2 => ih m (by omega) h2) (endOf sh i - (i + 1)) (i + 1) y z [] (Nat.le_refl _) (by omega) (by omega) (fun hlt => ⟨(kid_first H.su hi hlt).1,(kid_first H.su hi hlt).2.1⟩) (by simp) z1 hno
     rw [if_neg hleaf]
     unfold kidsR
     rw [hkd]
     dsimp only
     rw [hw]
     rfl
   ·have hbare:bareB t = true ∧ ShapeSpec.kids sh i = []:=by
     unfold emptyB at hem
     rw [ht] at hem
     simpa using hem
    have he:=hkids.1 hbare.2
    have e1:stK sh l i = headK t ++ [(3,[59])]:=by unfold stK; rw [ht]; simp [hem]
    have e2:shutK sh l i = []:=by unfold shutK; rw [if_neg (by rw [hem]; decide)]
    rw [e1,e2,he,seg_nil,List.append_assoc] at hg
    obtain ⟨g1,-,g2⟩:=head_goo ⟨h1,h3⟩ hok.nm hg t.par
    have g3:Goo (on (on c)) [(3,[59])] d:=by simpa using g2
    obtain ⟨hd,hb⟩:=goo_one g3
    have hsx:t.sx = ⟨t.s,t.kind,t.par,[],[],[]⟩:=by
     have hb:=hbare.1
     unfold bareB at hb
     simp only [Bool.and_eq_true,List.isEmpty_iff] at hb
     unfold Ts.sx
     rw [hb.1,hb.2.1,hb.2.2]
     rfl
    unfold bodyS
    rw [g1]
    dsimp only
    rw [if_pos (show isB (on (on c)) 3 wEnd = true from hb),he,slc_one ht,hsx,← hd]
end
theorem Tc.Ok.stand {c:Tc} (h:c.Ok):Stand c.sh c.sts:=by
 obtain ⟨h1,h2,h3⟩:=ShapeSpec.chk_ok h.sh
 exact ⟨rfl,ShapeSpec.chk_su h.sh,h3,h1,h.sts⟩
theorem chart_goo {x:Tc} (h:x.Ok) {c d:Cur} (hg:Goo c (chK x) d):readC c = (d,x.cx):=by
 have H:=h.stand
 have hpos:0 < x.sh.length:=(ShapeSpec.stand_su (ShapeSpec.chk_ok h.sh).2.1).1
 obtain ⟨t0,r0,-,hr0,-,-⟩:=seg_first H (i:=0) hpos hpos
 unfold chK at hg
 obtain ⟨g1,hb,-,-⟩:=goo_cons hg
 obtain ⟨n1,n2,g2⟩:=goo_name g1 h.nm
 obtain ⟨g3,hb3,-,-⟩:=goo_cons g2
 replace g3:Goo (on (on (on c))) (evK x.evs ++ (x.vars.flatMap varK ++ (stsK x.sh x.sts ++ [(3,[125])]))) d:=g3
 rw [stsK_seg H.len] at g3
 have nS:∀ m e,Goo m (seg x.sh x.sts 0 0 x.sh.length ++ [(3,[125])]) e → Nxt m wsS:=fun m e hm => by
  rw [hr0] at hm
  exact goo_nxt (s:=wordT t0.kind) hm (word_in _)
 have nV:∀ m e,Goo m (x.vars.flatMap varK ++ (seg x.sh x.sts 0 0 x.sh.length ++ [(3,[125])])) e → Nxt m (lVar :: wsS):=fun m e hm => nxt_vars hm fun m' h' => nS m' e h'
 obtain ⟨m1,e1,e2⟩:=goo_app g3
 obtain ⟨m2,v1,v2⟩:=goo_app e2
 obtain ⟨m3,s1,s2⟩:=goo_app v2
 have hev:evR (on (on (on c))) = (m1,x.evs):=ev_goo h.evs h.evf e1 fun h0 => nxt_no (nxt_ev g3 (fun m hm => nV m d hm) h0) (by decide)
 have hva:vaR m1 = (m2,x.vars):=by
  unfold vaR
  rw [vars_goo (out:=[]) h.vars (by simpa using h.vaf) v1 (nxt_no (nS m2 d v2) (by decide))]
  rfl
 have hend:endOf x.sh 0 = x.sh.length:=by
  have:=ShapeSpec.end_bd hpos
  rcases Nat.lt_or_ge (endOf x.sh 0) x.sh.length with hlt | hge
  ·exfalso
   have hin:0 ∈ sf x.sh (endOf x.sh 0):=by
    have key:∀ n k,k ≤ n → k < x.sh.length → 0 ∈ sf x.sh k:=by
     intro n
     induction n with
     | zero => intro k hk _; obtain rfl:k = 0:=by omega
               exact ShapeSpec.sf_self _ _
     | succ n ih =>
       intro k hk hkl
       rcases Nat.eq_zero_or_pos k with rfl | h0
       ·exact ShapeSpec.sf_self _ _
       ·obtain ⟨p,-,hpl,hup,-⟩:=H.su.parn hkl h0
        refine ShapeSpec.up_in ?_
        rw [hup]
        exact ih p (by omega) (by omega)
    exact key _ _ (Nat.le_refl _) hlt
   have:=(ShapeSpec.end_iff H.su hpos hlt).1 hin
   omega
  ·omega
 have hst:stR 12 0 (-1) m2 = (m3,x.sts.map Ts.sx):=by
  have hup:up x.sh 0 = []:=ShapeSpec.up_no (by rw [H.su.root hpos]; omega)
  have:=reads_all_states H _ 0 (Nat.le_refl _) hpos m2 m3 (by rw [hend]; exact s1)
  rw [hup,H.su.root hpos,hend,H.len,slc_all] at this
  exact this
 have hsq:seqC c = (d,x.cx):=by
  unfold seqC
  rw [show want c 1 wChart = on c from want_yes hb,n1,n2,show want (on (on c)) 3 wOpen = on (on (on c)) from want_yes hb3,hev]
  dsimp only
  rw [hva]
  dsimp only
  rw [hst]
  dsimp only
  rw [show want m3 3 wShut = d from goo_want s2]
  rfl
 unfold readC
 rw [hsq]
 dsimp only
 rw [if_pos (goo_good s2)]
end PrintSpec
end Go.Proofs.YtcofikjpplkjdaaGreatDoor
namespace Go.Proofs.YtcofikjpplkjdaaGreatDoor
open Go.RowKit CurSpec TermSpec EvalSpec ActSpec NamesSpec ExprSpec TransSpec SynSpec ScanSpec
set_option maxRecDepth 100000
structure Pc where
 x:Cx
 l:Int
 c:Int
 er:Int
def endPc (r:Cur × Cx):Pc:=if (want r.1 0 ⟨#[]⟩).bad ≠ 0 then ⟨zeroC,(want r.1 0 ⟨#[]⟩).a1,(want r.1 0 ⟨#[]⟩).a2,(want r.1 0 ⟨#[]⟩).bad⟩ else ⟨r.2,0,0,0⟩
def parseC (s:ByteArray):Pc :=
 if (scanT s.data.toList).2.2 ≠ 0 then ⟨zeroC,(pos s.data.toList (scanT s.data.toList).2.1).1,(pos s.data.toList (scanT s.data.toList).2.1).2,(scanT s.data.toList).2.2⟩ else endPc (readC (cur0 (tkAll s)))
theorem toks_at {s:ByteArray} {W w:World} {e:Ending} (h:TokPost W s e w) (h0:(scanT s.data.toList).2.2 = 0) :
 ∃ A n cp,e = .returned (.tuple #[.slice A n cp,.agg #[.int .i64 0,.int .i64 0],.int .i64 0]) ∧ Toks w (.slice A n cp) (tkAll s) ∧ n ≤ 4001 ∧ Below W.heap.size W w:=by
 obtain ⟨hb,-,hv⟩:=h
 obtain ⟨v,rfl,A,cp,rfl,hrest⟩:=hv h0
 refine ⟨A,_,cp,rfl,?_,scanT_len _,hb⟩
 exact ⟨_,by simp [tkAll],A,cp,rfl,hrest.1,by rw [show tkAll s = (scanT s.data.toList).1.map (tokOf s) from rfl,← toks_map]; exact hrest.2.1,by rw [show tkAll s = (scanT s.data.toList).1.map (tokOf s) from rfl,← toks_map]; exact hrest.2.2⟩
def RetPc (W:World) (p:Pc) (e:Ending) (w':World):Prop :=
 ∃ eA en ec vA vn vc sA sn sc,e = .returned (.tuple #[.agg #[.string p.x.s,.slice eA en ec,.slice vA vn vc,.slice sA sn sc],.agg #[.int .i64 p.l,.int .i64 p.c],.int .i64 p.er]) ∧ ChIn w' (.slice eA en ec) (.slice vA vn vc) (.slice sA sn sc) p.x ∧ Below W.heap.size W w'
abbrev chZ:Obj:=.cells #[.string ⟨#[]⟩,.slice none 0 0,.slice none 0 0,.slice none 0 0] 26
abbrev poZ:Obj:=.cells #[.int .i64 0,.int .i64 0] 34
theorem pb_zero (w:World):(Instr.build 34 #[]).run Tryz.prog w = .ok (.agg #[.int .i64 0,.int .i64 0]) w:=run_build w 34 _ _ (by kernel_rfl)
abbrev set42 (w:World) (b:Nat) (u0 u1 u2 u3 v0 v1:Value):World:=(((((w.setCell ⟨b,0,none⟩ u0).setCell ⟨b,1,none⟩ u1).setCell ⟨b,2,none⟩ u2).setCell ⟨b,3,none⟩ u3).setCell ⟨b + 1,0,none⟩ v0).setCell ⟨b + 1,1,none⟩ v1
theorem store_42 {w:World} {b:Nat} {T T2:TypeId} {z0 z1 z2 z3 y0 y1:Value} (h1:w.heap[b]? = some (.cells #[z0,z1,z2,z3] T (0,0))) (h2:w.heap[b + 1]? = some (.cells #[y0,y1] T2 (0,0))) (u0 u1 u2 u3 v0 v1:Value) :
 (set42 w b u0 u1 u2 u3 v0 v1).heap[b]? = some (.cells #[u0,u1,u2,u3] T (0,0)) ∧ (set42 w b u0 u1 u2 u3 v0 v1).heap[b + 1]? = some (.cells #[v0,v1] T2 (0,0)):=by
 have k1:=block_setCell' (block_setCell' (block_setCell' (block_setCell' h1 0 u0) 1 u1) 2 u2) 3 u3
 have k2:((((w.setCell ⟨b,0,none⟩ u0).setCell ⟨b,1,none⟩ u1).setCell ⟨b,2,none⟩ u2).setCell ⟨b,3,none⟩ u3).heap[b + 1]? = some (.cells #[y0,y1] T2 (0,0)):=by
  rw [Below.heap_setCell _ _ _ _ (by simp),Below.heap_setCell _ _ _ _ (by simp),Below.heap_setCell _ _ _ _ (by simp),Below.heap_setCell _ _ _ _ (by simp)]
  exact h2
 refine ⟨?_,block_setCell' (block_setCell' k2 0 v0) 1 v1⟩
 rw [Below.heap_setCell _ _ _ _ (by simp),Below.heap_setCell _ _ _ _ (by simp)]
 exact k1
theorem below_42 {B:Nat} {w x:World} {b:Nat} (h:Below B w x) (hb:B ≤ b) (u0 u1 u2 u3 v0 v1:Value):Below B w (set42 x b u0 u1 u2 u3 v0 v1) :=
 (below_4 h hb u0 u1 u2 u3).setCell (by simp; omega) v0 |>.setCell (by simp; omega) v1
set_option maxRecDepth 100000 in
set_option maxHeartbeats 8000000 in
theorem parse_chart_bad (s:ByteArray) (w:World) (hp:PairsIn w) (he:(scanT s.data.toList).2.2 ≠ 0):Calls Tryz.prog 10 #[.string s] w (RetPc w (parseC s)):=by
 have b1:=cb_zero
 have b2:=pb_zero
 have HT:=Lib.hid (stoks_any s ((w.alloc chZ).alloc poZ) ((hp.alloc _).alloc _))
 obtain ⟨er,her⟩:∃ er,er = (scanT s.data.toList).2.2:=⟨_,rfl⟩
 obtain ⟨l,hl⟩:∃ l,l = (pos s.data.toList (scanT s.data.toList).2.1).1:=⟨_,rfl⟩
 obtain ⟨c,hc⟩:∃ c,c = (pos s.data.toList (scanT s.data.toList).2.1).2:=⟨_,rfl⟩
 have HP:Hid (parseC s = ⟨zeroC,l,c,er⟩):=Lib.hid (by unfold parseC; rw [if_pos he,← her,← hl,← hc])
 rw [← her] at he
 have e1:(er != 0) = true:=by simpa using he
 have HX:=Lib.hid (fun e w' (h:TokPost ((w.alloc chZ).alloc poZ) s e w') => by
  have:=h.2.1 (by rw [← her]; exact he)
  rw [← her,← hl,← hc] at this
  exact And.intro this h.1)
 clear hp he her hl hc
 go_enter Tryz.func10,Tryz.ntmps10
 go_wp2_with (go_at_call 17; (with_reducible refine HT.out.mono ?_))
 intro e x1 hx1
 obtain ⟨rfl,hb1⟩:=HX.out e x1 hx1
 obtain ⟨k1,k2,hB1,hz1⟩:=pair_blocks hb1
 have HB1:=Lib.hid hB1
 have HK1:=Lib.hid (And.intro k1 k2)
 clear hx1 hb1 hB1 k1 k2
 have HA:Hid ((x1.alloc (.cells #[.int .i64 l,.int .i64 c] 34)).heap[w.heap.size]? = some chZ ∧ (x1.alloc (.cells #[.int .i64 l,.int .i64 c] 34)).heap[w.heap.size + 1]? = some poZ) :=
  Lib.hid ⟨(heap_alloc_old _ _ (by omega)).trans HK1.out.1,(heap_alloc_old _ _ (by omega)).trans HK1.out.2⟩
 obtain ⟨q0,q1,q2,q3⟩:=cells_4 HA.out.1
 obtain ⟨f0,f1,f2,f3⟩:=free_4 HA.out.1
 obtain ⟨r0,r1⟩:=cells_2 HA.out.2
 obtain ⟨g0,g1⟩:=free_2 HA.out.2
 go_wp2_with fail
 go_region
 have HS:=Lib.hid (store_42 HA.out.1 HA.out.2 (.string ⟨#[]⟩) (.slice none 0 0) (.slice none 0 0) (.slice none 0 0) (.int .i64 l) (.int .i64 c))
 go_wp2_with fail
 obtain ⟨p0,p1,p2,p3⟩:=cells_4 HS.out.1
 obtain ⟨p4,p5⟩:=cells_2 HS.out.2
 refine bodyPost_ret (v:=.tuple #[.agg #[.string ⟨#[]⟩,.slice none 0 0,.slice none 0 0,.slice none 0 0],.agg #[.int .i64 l,.int .i64 c],.int .i64 er]) (by simp [results,Tryz.results10,go_sem,p0,p1,p2,p3,p4,p5]) rfl ?_
 rw [HP.out]
 exact ⟨none,0,0,none,0,0,none,0,0,rfl,ChIn.zero _,(below_42 (HB1.out.alloc HB1.out.size _) (Nat.le_refl _) _ _ _ _ _ _).drew⟩
theorem blocks_but {w w':World} {B b:Nat} {o:Obj} (h:w.heap[b]? = some o) (hb:w.grownBy w' (some B)) (hlt:b < B):w'.heap[b]? = some o:=grown_block h hb (by omega)
set_option maxRecDepth 100000 in
set_option maxHeartbeats 8000000 in
theorem parse_chart_ok (s:ByteArray) (w:World) (hp:PairsIn w) (hs:SignsIn w) (hz:s.size ≤ 9223372036854775807) (he:(scanT s.data.toList).2.2 = 0):Calls Tryz.prog 10 #[.string s] w (RetPc w (parseC s)):=by
 have b1:=cb_zero
 have b2:=pb_zero
 have HT:=Lib.hid (stoks_any s ((w.alloc chZ).alloc poZ) ((hp.alloc _).alloc _))
 have HP:Hid (parseC s = endPc (readC (cur0 (tkAll s)))):=Lib.hid (if_neg (fun h => h he))
 have HX:=Lib.hid (fun e w' (h:TokPost ((w.alloc chZ).alloc poZ) s e w') => toks_at h he)
 have HS:=Lib.hid hs
 have HOK:=Lib.hid (tkAll_ok s hz)
 obtain ⟨P,hP⟩:∃ P,P = parseC s:=⟨_,rfl⟩
 rw [← hP] at HP ⊢
 obtain ⟨L,hL⟩:∃ L,L = tkAll s:=⟨_,rfl⟩
 rw [← hL] at HP HX HOK
 clear hp he hs hz hP hL
 go_enter Tryz.func10,Tryz.ntmps10
 go_wp2_with (go_at_call 17; (with_reducible refine HT.out.mono ?_))
 intro e x1 hx1
 obtain ⟨A,n,cp,rfl,hT,hn,hb1⟩:=HX.out e x1 hx1
 obtain ⟨k1,k2,hB1,hz1⟩:=pair_blocks hb1
 have HNEW:=Lib.hid (new_any A n cp L _ (hT.alloc (.cells #[.int .i64 0,.int .i64 0] 34)) (by omega))
 have HB1:=Lib.hid (hB1.alloc hB1.size (.cells #[.int .i64 0,.int .i64 0] 34))
 have HA:Hid ((x1.alloc (.cells #[.int .i64 0,.int .i64 0] 34)).heap[w.heap.size]? = some chZ ∧ (x1.alloc (.cells #[.int .i64 0,.int .i64 0] 34)).heap[w.heap.size + 1]? = some poZ ∧ (x1.alloc (.cells #[.int .i64 0,.int .i64 0] 34)).heap[x1.heap.size]? = some poZ) :=
  Lib.hid ⟨(heap_alloc_old _ _ (by omega)).trans k1,(heap_alloc_old _ _ (by omega)).trans k2,heap_alloc_new _ _⟩
 clear hx1 hb1 hB1 k1 k2 hT hn HX HT
 go_wp2_with (go_at_call 24; (with_reducible refine HNEW.out.mono ?_))
 rintro e x2 ⟨B,rfl,hBs,hC2,hb2⟩
 have HB2:=Lib.hid (below_two' HB1.out hb2)
 have HA2:=Lib.hid (And.intro (block_on HA.out.1 hb2) (And.intro (block_on HA.out.2.1 hb2) (block_on HA.out.2.2 hb2)))
 have hBs':x1.heap.size < B:=by rw [World.size_alloc] at hBs; omega
 have HRD:=Lib.hid (read_at_chart B (cur0 L) x2 (HS.out.keep HB2.out) hC2 HOK.out)
 obtain ⟨r,hr⟩:∃ r,r = readC (cur0 L):=⟨_,rfl⟩
 rw [← hr] at HRD HP
 have HLT:=Lib.hid hC2.lt
 clear hBs hC2 hb2 hr HA HB1 HNEW
 go_wp2_with (go_at_call 25; (with_reducible refine HRD.out.mono ?_))
 rintro e x3 ⟨eA,en,ec,vA,vn,vc,sA,sn,sc,rfl,hC3,hD3,hb3⟩
 have HA3:=Lib.hid (And.intro (blocks_but HA2.out.1 hb3 (by omega)) (And.intro (blocks_but HA2.out.2.1 hb3 (by omega)) (blocks_but HA2.out.2.2 hb3 (by omega))))
 obtain ⟨d,hdd⟩:∃ d,d = want r.1 0 ⟨#[]⟩:=⟨_,rfl⟩
 have HB3:Hid (Below w.heap.size w x3):=Lib.hid (HB2.out.trans ⟨hb3.os,hb3.tape,hb3.output,hb3.size,fun i hi => hb3.block i (Nat.lt_of_lt_of_le hi HB2.out.size) (by simp; omega)⟩)
 obtain ⟨CO,hCO⟩:∃ CO:Obj,CO = .cells #[.string r.2.s,.slice eA en ec,.slice vA vn vc,.slice sA sn sc] 26:=⟨_,rfl⟩
 have hC3':=hC3.alloc CO
 have HW:=Lib.hid (want_at B r.1 0 ⟨#[]⟩ _ hC3')
 rw [← hdd,hCO] at HW
 have HD3:=Lib.hid (hD3.alloc CO)
 rw [hCO] at HD3
 have hz3:x1.heap.size < x3.heap.size:=(Array.getElem?_eq_some_iff.1 HA3.out.2.2).1
 have hBz:=hC3.lt
 have HA4:Hid ((x3.alloc CO).heap[w.heap.size]? = some chZ ∧ (x3.alloc CO).heap[w.heap.size + 1]? = some poZ ∧ (x3.alloc CO).heap[x1.heap.size]? = some poZ ∧ (x3.alloc CO).heap[x3.heap.size]? = some CO) :=
  Lib.hid ⟨(heap_alloc_old _ _ (by omega)).trans HA3.out.1,(heap_alloc_old _ _ (by omega)).trans HA3.out.2.1,(heap_alloc_old _ _ (by omega)).trans HA3.out.2.2,heap_alloc_new _ _⟩
 have HB4:=Lib.hid (HB3.out.alloc HB3.out.size CO)
 rw [hCO] at HA4 HB4
 have HDD:=Lib.hid hdd
 clear hC3 hD3 hb3 hdd hC3' HA3 HA2 HB2 HB3 HRD hCO
 go_wp2_with (go_at_call 26; (with_reducible refine HW.out.mono ?_))
 rintro e x5 ⟨rfl,hC5,hb5⟩
 have HA5:=Lib.hid (And.intro (blocks_but HA4.out.1 hb5 (by omega)) (And.intro (blocks_but HA4.out.2.1 hb5 (by omega)) (And.intro (blocks_but HA4.out.2.2.1 hb5 (by omega)) (grown_block HA4.out.2.2.2 hb5 (by omega)))))
 have hlt2:=HLT.out
 have HD5:=Lib.hid (HD3.out.go hb5 fun b hS e => by injection e with e; omega)
 have HB5:Hid (Below w.heap.size w x5):=Lib.hid (HB4.out.trans ⟨hb5.os,hb5.tape,hb5.output,hb5.size,fun i hi => hb5.block i (Nat.lt_of_lt_of_le hi HB4.out.size) (by simp; omega)⟩)
 have HF:=Lib.hid (fault_any _ _ _ _ x5 (Fl.of hC5))
 clear hC5 hb5 HA4 HB4 HD3 HW
 by_cases h0:d.bad = 0
 ·have HQ:Hid (P = ⟨r.2,0,0,0⟩):=Lib.hid (by rw [HP.out]; unfold endPc; rw [← HDD.out,if_neg (by simpa using h0)])
  have e1:(d.bad != 0) = false:=by simpa using h0
  clear h0
  go_wp2_with (go_at_call 27; (with_reducible refine HF.out.mono ?_))
  rintro e x6 ⟨rfl,hb6⟩
  have HB6:=Lib.hid (below_two' HB5.out hb6)
  have HA6:=Lib.hid (And.intro (block_on HA5.out.1 hb6) (And.intro (block_on HA5.out.2.1 hb6) (And.intro (block_on HA5.out.2.2.1 hb6) (block_on HA5.out.2.2.2 hb6))))
  have HD6:=Lib.hid (HD5.out.keep hb6)
  clear hb6 HA5 HB5 HD5
  obtain ⟨t0,t1⟩:=cells_2 HA6.out.2.2.1
  obtain ⟨u0,u1⟩:=free_2 HA6.out.2.2.1
  obtain ⟨y,hy⟩:∃ y,y = (x6.setCell ⟨x1.heap.size,0,none⟩ (.int .i64 d.a1)).setCell ⟨x1.heap.size,1,none⟩ (.int .i64 d.a2):=⟨_,rfl⟩
  have hg:x6.grownBy y (some x1.heap.size):=by rw [hy]; exact but_set (but_set (but_refl _ _) 0 _) 1 _
  have HA7:=Lib.hid (And.intro (grown_block HA6.out.1 hg (by omega)) (And.intro (grown_block HA6.out.2.1 hg (by omega)) (grown_block HA6.out.2.2.2 hg (by omega))))
  have HB7:Hid (Below w.heap.size w y):=Lib.hid (by rw [hy]; exact (HB6.out.setCell (by simp; omega) _).setCell (by simp; omega) _)
  have HD7:=Lib.hid (HD6.out.go hg fun b hS e => by injection e with e; omega)
  rw [hy] at HA7
  obtain ⟨q0,q1,q2,q3⟩:=cells_4 HA7.out.1
  obtain ⟨f0,f1,f2,f3⟩:=free_4 HA7.out.1
  obtain ⟨r0,r1⟩:=cells_2 HA7.out.2.1
  obtain ⟨g0,g1⟩:=free_2 HA7.out.2.1
  obtain ⟨v0,v1,v2,v3⟩:=cells_4 HA7.out.2.2
  have HST:=Lib.hid (store_42 HA7.out.1 HA7.out.2.1 (.string r.2.s) (.slice eA en ec) (.slice vA vn vc) (.slice sA sn sc) (.int .i64 0) (.int .i64 0))
  have HY:=Lib.hid hy
  clear hg hy
  go_wp2_with fail
  obtain ⟨p0,p1,p2,p3⟩:=cells_4 HST.out.1
  obtain ⟨p4,p5⟩:=cells_2 HST.out.2
  refine bodyPost_ret (v:=.tuple #[.agg #[.string r.2.s,.slice eA en ec,.slice vA vn vc,.slice sA sn sc],.agg #[.int .i64 0,.int .i64 0],.int .i64 0]) (by simp [results,Tryz.results10,go_sem,p0,p1,p2,p3,p4,p5]) rfl ?_
  have hb:=below_42 HB7.out (Nat.le_refl _) (.string r.2.s) (.slice eA en ec) (.slice vA vn vc) (.slice sA sn sc) (.int .i64 0) (.int .i64 0)
  have hch:=HD7.out (set42 y w.heap.size (.string r.2.s) (.slice eA en ec) (.slice vA vn vc) (.slice sA sn sc) (.int .i64 0) (.int .i64 0)) (by simp [World.setCell]) fun b _ hS => by
   rw [Below.heap_setCell _ _ _ _ (by simp; omega),Below.heap_setCell _ _ _ _ (by simp; omega),Below.heap_setCell _ _ _ _ (by simp; omega),Below.heap_setCell _ _ _ _ (by simp; omega),Below.heap_setCell _ _ _ _ (by simp; omega),Below.heap_setCell _ _ _ _ (by simp; omega)]
  rw [HY.out] at hb hch
  rw [HQ.out]
  exact ⟨eA,en,ec,vA,vn,vc,sA,sn,sc,rfl,hch,hb⟩
 ·have HQ:Hid (P = ⟨zeroC,d.a1,d.a2,d.bad⟩):=Lib.hid (by rw [HP.out]; unfold endPc; rw [← HDD.out,if_pos h0])
  have e1:(d.bad != 0) = true:=by simpa using h0
  clear h0
  go_wp2_with (go_at_call 27; (with_reducible refine HF.out.mono ?_))
  rintro e x6 ⟨rfl,hb6⟩
  have HB6:=Lib.hid (below_two' HB5.out hb6)
  have HA6:=Lib.hid (And.intro (block_on HA5.out.1 hb6) (And.intro (block_on HA5.out.2.1 hb6) (And.intro (block_on HA5.out.2.2.1 hb6) (block_on HA5.out.2.2.2 hb6))))
  clear hb6 HA5 HB5 HD5
  obtain ⟨t0,t1⟩:=cells_2 HA6.out.2.2.1
  obtain ⟨u0,u1⟩:=free_2 HA6.out.2.2.1
  obtain ⟨y,hy⟩:∃ y,y = (x6.setCell ⟨x1.heap.size,0,none⟩ (.int .i64 d.a1)).setCell ⟨x1.heap.size,1,none⟩ (.int .i64 d.a2):=⟨_,rfl⟩
  have hg:x6.grownBy y (some x1.heap.size):=by rw [hy]; exact but_set (but_set (but_refl _ _) 0 _) 1 _
  have HA7:=Lib.hid (And.intro (grown_block HA6.out.1 hg (by omega)) (grown_block HA6.out.2.1 hg (by omega)))
  have HB7:Hid (Below w.heap.size w y):=Lib.hid (by rw [hy]; exact (HB6.out.setCell (by simp; omega) _).setCell (by simp; omega) _)
  rw [hy] at HA7
  obtain ⟨q0,q1,q2,q3⟩:=cells_4 HA7.out.1
  obtain ⟨f0,f1,f2,f3⟩:=free_4 HA7.out.1
  obtain ⟨r0,r1⟩:=cells_2 HA7.out.2
  obtain ⟨g0,g1⟩:=free_2 HA7.out.2
  have HST:=Lib.hid (store_42 HA7.out.1 HA7.out.2 (.string ⟨#[]⟩) (.slice none 0 0) (.slice none 0 0) (.slice none 0 0) (.int .i64 d.a1) (.int .i64 d.a2))
  have HY:=Lib.hid hy
  clear hg hy
  go_wp2_with fail
  go_region
  go_wp2_with fail
  obtain ⟨p0,p1,p2,p3⟩:=cells_4 HST.out.1
  obtain ⟨p4,p5⟩:=cells_2 HST.out.2
  refine bodyPost_ret (v:=.tuple #[.agg #[.string ⟨#[]⟩,.slice none 0 0,.slice none 0 0,.slice none 0 0],.agg #[.int .i64 d.a1,.int .i64 d.a2],.int .i64 d.bad]) (by simp [results,Tryz.results10,go_sem,p0,p1,p2,p3,p4,p5]) rfl ?_
  have hb:=(below_42 HB7.out (Nat.le_refl _) (.string ⟨#[]⟩) (.slice none 0 0) (.slice none 0 0) (.slice none 0 0) (.int .i64 d.a1) (.int .i64 d.a2)).drew
  rw [HY.out] at hb
  rw [HQ.out]
  exact ⟨none,0,0,none,0,0,none,0,0,rfl,ChIn.zero _,hb⟩
theorem parse_chart (s:ByteArray) (w:World) (hp:PairsIn w) (hs:SignsIn w) (hz:s.size ≤ 9223372036854775807):Calls Tryz.prog 10 #[.string s] w (RetPc w (parseC s)):=by
 by_cases he:(scanT s.data.toList).2.2 = 0
 ·exact parse_chart_ok s w hp hs hz he
 ·exact parse_chart_bad s w hp he
end Go.Proofs.YtcofikjpplkjdaaGreatDoor