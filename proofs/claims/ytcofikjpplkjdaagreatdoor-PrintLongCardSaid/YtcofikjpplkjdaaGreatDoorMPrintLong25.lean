/- PrintLight, PrintMem, PrintRead, PrintTree, joined. -/
import Derived.Test.YtcofikjpplkjdaaGreatDoorMPrintLong17
import Derived.Test.YtcofikjpplkjdaaGreatDoorMPrintLong24
namespace Go.Proofs.YtcofikjpplkjdaaGreatDoor
open Go.RowKit TermSpec EvalSpec ActSpec NamesSpec ExprSpec TransSpec SynSpec PrintSpec
set_option maxRecDepth 100000
def termsW (l:List Tm):Nat:=if 45 < l.length then 1000 else if l.any (fun t => decide (100 < t.s.size)) then 1000 else l.length
def actW (a:Ac):Nat:=1 + termsW a.x + if 100 < a.s.size then 1000 else 0
def weighA (l:List Ac):Nat:=(l.map actW).sum
end Go.Proofs.YtcofikjpplkjdaaGreatDoor
namespace Go.Proofs.YtcofikjpplkjdaaGreatDoor
open Go.RowKit TermSpec EvalSpec ActSpec NamesSpec ExprSpec TransSpec SynSpec PrintSpec
theorem StsP.len {w:World} {A:Option Addr} {n c:Nat} {l:List Sx} (h:StsP w (.slice A n c) l):n = l.length ∧ n ≤ c:=by
 obtain ⟨ps,rfl,⟨A',c',heq,hc,-⟩,-⟩:=h
 cases heq
 exact ⟨(List.length_map _).symm,hc⟩
theorem StsP.at_ {w:World} {A:Option Addr} {n c:Nat} {l:List Sx} {i:Nat} {s:Sx} (h:StsP w (.slice A n c) l) (hi:l[i]? = some s) :
 ∃ b off a3 n3 c3 a4 n4 c4 a5 n5 c5,A = some ⟨b,off,none⟩ ∧ b < w.heap.size ∧ w.cell? ⟨b,off + i * 6,none⟩ = some (.string s.s) ∧ w.cell? ⟨b,off + i * 6 + 1,none⟩ = some (.int .i64 s.kind) ∧ w.cell? ⟨b,off + i * 6 + 2,none⟩ = some (.int .i64 s.par) ∧
   w.cell? ⟨b,off + i * 6 + 3,none⟩ = some (.slice a3 n3 c3) ∧ w.cell? ⟨b,off + i * 6 + 4,none⟩ = some (.slice a4 n4 c4) ∧ w.cell? ⟨b,off + i * 6 + 5,none⟩ = some (.slice a5 n5 c5) ∧
   Acs w (.slice a3 n3 c3) s.en ∧ Acs w (.slice a4 n4 c4) s.ex ∧ Trs w (.slice a5 n5 c5) s.tr:=by
 obtain ⟨ps,rfl,⟨A',c',heq,hc,hl,hA⟩,hn⟩:=h
 cases heq
 have hlt:=get_lt hi
 rw [List.getElem?_map] at hi
 obtain ⟨p,hp,rfl⟩:=Option.map_eq_some_iff.1 hi
 obtain ⟨b,off,rfl,hb,hcell⟩:=hA (by rw [List.length_map] at hlt; omega)
 obtain ⟨k1,k2,k3⟩:=hn p (List.mem_of_getElem? hp)
 refine ⟨b,off,p.a3,p.n3,p.c3,p.a4,p.n4,p.c4,p.a5,p.n5,p.c5,rfl,hb,?_,?_,?_,?_,?_,?_,k1,k2,k3⟩
 ·exact hcell _ _ (flat_get (j:=0) spV_length hp (by omega))
 ·rw [Nat.add_assoc]; exact hcell _ _ (flat_get (j:=1) spV_length hp (by omega))
 ·rw [Nat.add_assoc]; exact hcell _ _ (flat_get (j:=2) spV_length hp (by omega))
 ·rw [Nat.add_assoc]; exact hcell _ _ (flat_get (j:=3) spV_length hp (by omega))
 ·rw [Nat.add_assoc]; exact hcell _ _ (flat_get (j:=4) spV_length hp (by omega))
 ·rw [Nat.add_assoc]; exact hcell _ _ (flat_get (j:=5) spV_length hp (by omega))
theorem Trs.len {w:World} {A:Option Addr} {n c:Nat} {l:List Tr} (h:Trs w (.slice A n c) l):n = l.length ∧ n ≤ c:=by
 obtain ⟨ps,rfl,⟨A',c',heq,hc,-⟩,-⟩:=h
 cases heq
 exact ⟨(List.length_map _).symm,hc⟩
theorem Trs.at_ {w:World} {A:Option Addr} {n c:Nat} {l:List Tr} {i:Nat} {t:Tr} (h:Trs w (.slice A n c) l) (hi:l[i]? = some t) :
 ∃ b off gA gn gc aA an ac,A = some ⟨b,off,none⟩ ∧ b < w.heap.size ∧ w.cell? ⟨b,off + i * 4,none⟩ = some (.string t.ev) ∧ w.cell? ⟨b,off + i * 4 + 1,none⟩ = some (.slice gA gn gc) ∧ w.cell? ⟨b,off + i * 4 + 2,none⟩ = some (.slice aA an ac) ∧ w.cell? ⟨b,off + i * 4 + 3,none⟩ = some (.string t.tg) ∧
   TrIn w gA gn gc aA an ac t:=by
 obtain ⟨ps,rfl,⟨A',c',heq,hc,hl,hA⟩,hn⟩:=h
 cases heq
 have hlt:=get_lt hi
 rw [List.getElem?_map] at hi
 obtain ⟨p,hp,rfl⟩:=Option.map_eq_some_iff.1 hi
 obtain ⟨b,off,rfl,hb,hcell⟩:=hA (by rw [List.length_map] at hlt; omega)
 refine ⟨b,off,p.gA,p.gn,p.gc,p.aA,p.an,p.ac,rfl,hb,?_,?_,?_,?_,hn p (List.mem_of_getElem? hp)⟩
 ·exact hcell _ _ (flat_get (j:=0) tpV_length hp (by omega))
 ·rw [Nat.add_assoc]; exact hcell _ _ (flat_get (j:=1) tpV_length hp (by omega))
 ·rw [Nat.add_assoc]; exact hcell _ _ (flat_get (j:=2) tpV_length hp (by omega))
 ·rw [Nat.add_assoc]; exact hcell _ _ (flat_get (j:=3) tpV_length hp (by omega))
theorem RdV.len {w:World} {A:Option Addr} {n c:Nat} {l:List Vr} (h:RdV w (.slice A n c) l):n = l.length ∧ n ≤ c:=by
 obtain ⟨A',c',heq,hc,-⟩:=h
 cases heq
 exact ⟨rfl,hc⟩
theorem RdV.vars {w:World} {A:Option Addr} {n c:Nat} {l:List Vr} (h:RdV w (.slice A n c) l):VarsIn w A n c l:=by
 obtain ⟨hn,-⟩:=RdV.len h
 refine ⟨hn,?_⟩
 rw [hn]
 rw [hn] at h
 exact h
theorem StsP.sts {w:World} {v:Value} {l:List Sx} (h:StsP w v l):Sts w v (l.map shOf):=by
 obtain ⟨ps,rfl,hr,-⟩:=h
 refine ⟨ps.map fun p => ⟨p.x.s,shOf p.x,p.a3,p.n3,p.c3,p.a4,p.n4,p.c4,p.a5,p.n5,p.c5⟩,by rw [List.map_map,List.map_map]; rfl,?_⟩
 rw [List.length_map,List.length_map]
 have:stsV (ps.map fun p => ⟨p.x.s,shOf p.x,p.a3,p.n3,p.c3,p.a4,p.n4,p.c4,p.a5,p.n5,p.c5⟩) = ps.flatMap spV:=by
  unfold stsV
  rw [List.flatMap_map]
  rfl
 rw [this]
 exact hr
structure FitC (x:Cx):Prop where
 s:x.s.size ≤ 9223372036854775807
 evs:∀ e ∈ x.evs,e.size ≤ 9223372036854775807
 evl:x.evs.length ≤ 9223372036854775807
 vars:∀ v ∈ x.vars,v.s.size ≤ 9223372036854775807
 sts:∀ s ∈ x.sts,s.s.size ≤ 9223372036854775807 ∧ (∀ a ∈ s.en,a.s.size ≤ 9223372036854775807 ∧ Small a.x) ∧ (∀ a ∈ s.ex,a.s.size ≤ 9223372036854775807 ∧ Small a.x) ∧
  ∀ t ∈ s.tr,t.ev.size ≤ 9223372036854775807 ∧ t.tg.size ≤ 9223372036854775807 ∧ Small t.g ∧ ∀ a ∈ t.acts,a.s.size ≤ 9223372036854775807 ∧ Small a.x
def wTr (t:Tr):Nat:=1 + weighA t.acts + termsW t.g
def wSt (s:Sx):Nat:=weighA s.en + weighA s.ex + (s.tr.map wTr).sum
def wCx (l:List Sx):Nat:=(l.map wSt).sum
theorem all_take {α:Type} {f:α → Bool} {l:List α} {k:Nat} {x:α} (hx:l[k]? = some x) (h:(l.take k).all f = true) (hf:f x = true):(l.take (k + 1)).all f = true:=by
 rw [take_next hx,List.all_append,h]
 simp [hf]
theorem all_bad {α:Type} {f:α → Bool} {l:List α} {k:Nat} {x:α} (hx:l[k]? = some x) (hf:f x = false):l.all f = false:=by
 rw [List.all_eq_false]
 exact ⟨x,List.mem_of_getElem? hx,by simp [hf]⟩
end Go.Proofs.YtcofikjpplkjdaaGreatDoor
namespace Go.Proofs.YtcofikjpplkjdaaGreatDoor
namespace PrintSpec
open CurSpec TermSpec EvalSpec NamesSpec ExprSpec ScanSpec ActSpec TransSpec SynSpec
open ShapeSpec (Sh up sf endOf)
def Goo (c:Cur) (ts:List Tx) (d:Cur):Prop:=c.bad = 0 ∧ Nx c ts ∧ d = onN ts.length c
theorem goo_nil {c d:Cur} (h:Goo c [] d):d = c:=h.2.2
theorem goo_app {c d:Cur} {a b:List Tx} (h:Goo c (a ++ b) d):∃ m,Goo c a m ∧ Goo m b d:=by
 obtain ⟨h0,h1,h2⟩:=h
 rw [nx_app] at h1
 exact ⟨_,⟨h0,h1.1,rfl⟩,bad_on h0 _,h1.2,by rw [h2,onN_app]⟩
theorem goo_cons {c d:Cur} {k:Int} {s:List UInt8} {r:List Tx} (h:Goo c ((k,s) :: r) d):Goo (on c) r d ∧ isB c k (bs s) = true ∧ (next c).k = k ∧ (next c).t = bs s:=by
 obtain ⟨h0,h1,h2⟩:=h
 exact ⟨⟨by rw [(on_bad c).1]; exact h0,h1.2.2,h2⟩,nx_isB h0 h1,h1.1,h1.2.1⟩
theorem goo_one {c d:Cur} {k:Int} {s:List UInt8} (h:Goo c [(k,s)] d):d = on c ∧ isB c k (bs s) = true:=⟨goo_nil (goo_cons h).1,(goo_cons h).2.1⟩
theorem goo_good {c d:Cur} {ts:List Tx} (h:Goo c ts d):d.bad = 0:=by rw [h.2.2]; exact bad_on h.1 _
theorem goo_want {c d:Cur} {k:Int} {s:List UInt8} (h:Goo c [(k,s)] d):want c k (bs s) = d:=by rw [(goo_one h).1]; exact want_yes (goo_one h).2
theorem goo_name {c d:Cur} {s:ByteArray} {r:List Tx} (h:Goo c ((1,T s) :: r) d) (hn:isName s.data.toList = true):nameC c = on c ∧ nameS c = s ∧ Goo (on c) r d:=by
 obtain ⟨h1,-,h3,h4⟩:=goo_cons h
 obtain ⟨a,b⟩:=name_yes h.1 h3 h4 hn
 exact ⟨a,b,h1⟩
def Nxt (c:Cur) (ws:List (List UInt8)):Prop:=∃ s ∈ ws,(next c).t = bs s
theorem nxt_no {c:Cur} {ws:List (List UInt8)} (h:Nxt c ws) {k:Int} {w:ByteArray} (hw:∀ s ∈ ws,bs s ≠ w):¬ isB c k w = true:=by
 obtain ⟨s,hs,e⟩:=h
 exact isB_ne (by rw [e]; exact hw s hs)
theorem nxt_mono {c:Cur} {ws vs:List (List UInt8)} (h:Nxt c ws) (hv:∀ s ∈ ws,s ∈ vs):Nxt c vs:=by
 obtain ⟨s,hs,e⟩:=h
 exact ⟨s,hv s hs,e⟩
theorem goo_nxt {c d:Cur} {k:Int} {s:List UInt8} {r:List Tx} (h:Goo c ((k,s) :: r) d) {ws:List (List UInt8)} (hs:s ∈ ws):Nxt c ws:=⟨s,hs,(goo_cons h).2.2.2⟩
abbrev lExit:List UInt8:=[101,120,105,116]
abbrev lOn:List UInt8:=[111,110]
abbrev lAuto:List UInt8:=[97,117,116,111]
abbrev lLeaf:List UInt8:=[108,101,97,102]
abbrev lOr:List UInt8:=[111,114]
abbrev lAnd:List UInt8:=[97,110,100]
abbrev lShut:List UInt8:=[125]
abbrev lVar:List UInt8:=[118,97,114]
theorem acX_goo {w:List UInt8} {ts:List Ta} (h:∀ t ∈ ts,t.Ok) (h8:ts.length ≤ 8) {c d:Cur} (hg:Goo c (actK w ts) d) (hno:ts = [] → ¬ isB c 1 (bs w) = true):acX c (bs w) = (d,ts.map Ta.ac):=by
 unfold actK at hg
 unfold acX
 by_cases h0:ts = []
 ·rw [if_pos h0] at hg
  rw [if_neg (hno h0),h0,goo_nil hg]
  rfl
 ·rw [if_neg h0] at hg
  obtain ⟨hg1,hb,-,-⟩:=goo_cons hg
  obtain ⟨m,hm1,hm2⟩:=goo_app hg1
  obtain ⟨-,hk,hkk,ht⟩:=goo_cons hm2
  have hR:=allR_acts (out:=[]) h0 h (by simpa using h8) hg1.1 hm1.2.1 (by rw [← hm1.2.2]; exact past_mark hkk ht (by decide)) (by rw [← hm1.2.2]; exact isB_ne (by rw [ht]; decide))
  have hRA:readA (on c) = (m,ts.map Ta.ac):=by
   unfold readA
   rw [hR,← hm1.2.2,if_pos (goo_good hm1)]
   rfl
  rw [if_pos hb,hRA]
  dsimp only
  rw [show want m 3 wEnd = d from goo_want hm2]
theorem qT_on {x:Tt} {c d:Cur} {r:List Tx} (hg:Goo c (tkT x ++ r) d):qT c = true:=by
 unfold tkT tkH at hg
 unfold qT
 rw [Bool.or_eq_true]
 by_cases hz:x.ev.size = 0
 ·rw [if_pos hz] at hg
  exact .inr (goo_cons hg).2.1
 ·rw [if_neg hz] at hg
  exact .inl (goo_cons hg).2.1
theorem qT_no {c:Cur} {ws:List (List UInt8)} (h:Nxt c ws) (hw:∀ s ∈ ws,bs s ≠ wOn ∧ bs s ≠ wAuto):¬ qT c = true:=by
 unfold qT
 rw [Bool.or_eq_true]
 rintro (h' | h')
 ·exact nxt_no h (fun s hs => (hw s hs).1) h'
 ·exact nxt_no h (fun s hs => (hw s hs).2) h'
theorem trX_goo:∀ {ts:List Tt} {c d:Cur} {out:List Tr},(∀ t ∈ ts,t.Ok) → out.length + ts.length ≤ 16 → Goo c (ts.flatMap tkT) d → ¬ qT d = true → loopT qT SynSpec.stT c out = (d,out ++ ts.map Tt.tr)
 | [],c,d,out,_,_,hg,hno => by
   rw [goo_nil hg] at hno ⊢
   rw [loopT_no hno]
   simp
 | x :: r,c,d,out,h,h16,hg,hno => by
   rw [List.flatMap_cons] at hg
   have hq:=qT_on hg
   obtain ⟨m,hm1,hm2⟩:=goo_app hg
   have hs:SynSpec.stT c out = (m,out ++ [x.tr]):=by
    unfold SynSpec.stT fullO
    rw [if_neg (by simp at h16; omega),readT_tk (h x (by simp)) hg.1 hm1.2.1,← hm1.2.2]
   rw [loopT_yes goes_T hq,hs,trX_goo (fun t ht => h t (by simp [ht])) (by simp at h16 ⊢; omega) hm2 hno]
   simp
theorem nxt_trs {ts:List Tt} {c d:Cur} {r:List Tx} {ws:List (List UInt8)} (hg:Goo c (ts.flatMap tkT ++ r) d) (h:∀ m,Goo m r d → Nxt m ws):Nxt c (lOn :: lAuto :: ws):=by
 cases ts with
 | nil => exact nxt_mono (h c hg) (fun s hs => by simp [hs])
 | cons x q =>
   rw [List.flatMap_cons] at hg
   unfold tkT tkH at hg
   by_cases hz:x.ev.size = 0
   ·rw [if_pos hz] at hg
    exact goo_nxt (s:=lAuto) hg (by simp)
   ·rw [if_neg hz] at hg
    exact goo_nxt (s:=lOn) hg (by simp)
theorem nxt_acts {w:List UInt8} {ts:List Ta} {c d:Cur} {r:List Tx} {ws:List (List UInt8)} (hg:Goo c (actK w ts ++ r) d) (h:∀ m,Goo m r d → Nxt m ws):Nxt c (w :: ws):=by
 unfold actK at hg
 by_cases h0:ts = []
 ·rw [if_pos h0] at hg
  exact nxt_mono (h c hg) (fun s hs => by simp [hs])
 ·rw [if_neg h0] at hg
  exact goo_nxt hg (by simp)
abbrev wsS:List (List UInt8):=[lLeaf,lOr,lAnd,lShut]
theorem insR_goo {t:Ts} (h:t.Ok) {c d e:Cur} {r:List Tx} (hg:Goo c ((3,[123]) :: insK t) d) (_hr:Goo d r e) (hn:Nxt d wsS):insR c = (d,t.en.map Ta.ac,t.ex.map Ta.ac,t.tr.map Tt.tr):=by
 obtain ⟨hg1,hb,-,-⟩:=goo_cons hg
 have hw:want c 3 wOpen = on c:=want_yes hb
 unfold insK at hg1
 have n3:∀ m,Goo m (t.tr.flatMap tkT) d → Nxt m (lOn :: lAuto :: wsS):=fun m hm =>
  nxt_trs (r:=[]) (d:=d) (by rw [List.append_nil]; exact hm) fun m' hm' => by rw [← goo_nil hm']; exact hn
 have n2:∀ m,Goo m (actK lExit t.ex ++ t.tr.flatMap tkT) d → Nxt m (lExit :: lOn :: lAuto :: wsS):=fun m hm => nxt_acts hm n3
 obtain ⟨m1,a1,a2⟩:=goo_app hg1
 obtain ⟨m2,b1,b2⟩:=goo_app a2
 have e1:acX (on c) wEnter = (m1,t.en.map Ta.ac):=acX_goo h.en h.enf a1 fun h0 => by
  unfold actK at a1
  rw [if_pos h0] at a1
  rw [goo_nil a1] at a2
  exact nxt_no (n2 _ a2) (by decide)
 have e2:acX m1 wExit = (m2,t.ex.map Ta.ac):=acX_goo h.ex h.exf b1 fun h0 => by
  unfold actK at b1
  rw [if_pos h0] at b1
  rw [goo_nil b1] at b2
  exact nxt_no (n3 _ b2) (by decide)
 have e3:trX m2 = (d,t.tr.map Tt.tr):=by
  unfold trX
  rw [trX_goo (out:=[]) h.tr (by simpa using h.trf) b2 (qT_no hn (by decide))]
  simp
 unfold insR
 rw [hw,e1]
 dsimp only
 rw [e2]
 dsimp only
 rw [e3]
theorem digs_get {n:Nat} (h:n ≤ 1000000):ValSpec.getE (ValSpec.digs n) = 0 ∧ ValSpec.getN (ValSpec.digs n) = n:=by
 have h1:ValSpec.text (n:Int) = ValSpec.digs n:=by unfold ValSpec.text; rw [if_neg (by omega)]; rfl
 have:=(ValSpec.get_put (n:Int)).2 ⟨by omega,by omega⟩
 rw [h1] at this
 exact ⟨this.2,this.1⟩
theorem num_goo {n:Nat} (h:n ≤ 1000) {c d:Cur} (hg:Goo c [(2,ValSpec.digs n)] d):numC c 1000 = d ∧ numN c 1000 = n:=by
 obtain ⟨h1,hb,hk,ht⟩:=goo_cons hg
 have hT:(next c).t.data.toList = ValSpec.digs n:=by rw [ht]; simp [bs]
 obtain ⟨g1,g2⟩:=digs_get (n:=n) (by omega)
 have hE:numE c 1000 = 0:=by
  unfold numE
  rw [if_pos ⟨hg.1,hk⟩,hT,if_pos g1,g2,if_neg (by omega)]
 unfold numC numN
 rw [if_pos hE,if_pos hE,hT,g2,goo_nil h1]
 exact ⟨rfl,rfl⟩
theorem int_goo {n:Int} (h:smallV n = true) {c d:Cur} (hg:Goo c (intK n) d):intR c = (d,n):=by
 simp only [smallV,Bool.and_eq_true,decide_eq_true_eq] at h
 unfold intK at hg
 unfold intR
 by_cases h0:n < 0
 ·rw [if_pos h0] at hg
  obtain ⟨h1,hb,-,-⟩:=goo_cons hg
  obtain ⟨a,b⟩:=num_goo (n:=n.natAbs) (by omega) h1
  rw [if_pos (show isB c 3 wMin = true from hb),a,b]
  congr 1
  omega
 ·rw [if_neg h0] at hg
  obtain ⟨a,b⟩:=num_goo (n:=n.natAbs) (by omega) (by simpa using hg)
  obtain ⟨-,-,hk,-⟩:=goo_cons (show Goo c ((2,ValSpec.digs n.natAbs) :: []) d by simpa using hg)
  rw [if_neg (isB_nk (by rw [hk]; decide)),a,b]
  congr 1
  omega
theorem var_goo {v:Vr} (h:okV v = true) {c d:Cur} (hg:Goo c (varK v) d):varR c = (d,v):=by
 simp only [okV,Bool.and_eq_true] at h
 obtain ⟨h1,h2,h3,h4⟩:=h
 unfold varK at hg
 obtain ⟨g1,hb,-,-⟩:=goo_cons hg
 obtain ⟨n1,n2,g2⟩:=goo_name g1 h1
 obtain ⟨m1,i1,g3⟩:=goo_app g2
 obtain ⟨g4,hb4,-,-⟩:=goo_cons g3
 obtain ⟨m2,i2,g5⟩:=goo_app g4
 obtain ⟨g6,hb6,-,-⟩:=goo_cons g5
 obtain ⟨m3,i3,g7⟩:=goo_app g6
 unfold varR
 rw [show want c 1 wVar = on c from want_yes hb,n1,n2,int_goo h2 i1]
 dsimp only
 rw [show want m1 3 wDots = on m1 from want_yes hb4,int_goo h3 i2]
 dsimp only
 rw [show want m2 3 wIs = on m2 from want_yes hb6,int_goo h4 i3]
 dsimp only
 rw [show want m3 3 wEnd = d from goo_want g7]
theorem vars_goo:∀ {vs:List Vr} {c d:Cur} {out:List Vr},(∀ v ∈ vs,okV v = true) → out.length + vs.length ≤ 4 → Goo c (vs.flatMap varK) d → ¬ isB d 1 wVar = true → loopT qV SynSpec.stV c out = (d,out ++ vs)
 | [],c,d,out,_,_,hg,hno => by
   rw [goo_nil hg] at hno ⊢
   rw [loopT_no hno]
   simp
 | v :: r,c,d,out,h,h4,hg,hno => by
   rw [List.flatMap_cons] at hg
   obtain ⟨m,hm1,hm2⟩:=goo_app hg
   have hq:qV c = true:=(goo_cons (show Goo c ((1,lVar) :: _) m from hm1)).2.1
   have hs:SynSpec.stV c out = (m,out ++ [v]):=by
    unfold SynSpec.stV fullO
    rw [if_neg (by simp at h4; omega),var_goo (h v (by simp)) hm1]
   rw [loopT_yes goes_V hq,hs,vars_goo (fun t ht => h t (by simp [ht])) (by simp at h4 ⊢; omega) hm2 hno]
   simp
theorem nxt_vars {vs:List Vr} {c d:Cur} {r:List Tx} {ws:List (List UInt8)} (hg:Goo c (vs.flatMap varK ++ r) d) (h:∀ m,Goo m r d → Nxt m ws):Nxt c (lVar :: ws):=by
 cases vs with
 | nil => exact nxt_mono (h c hg) (fun s hs => by simp [hs])
 | cons x q => rw [List.flatMap_cons] at hg; exact goo_nxt (s:=lVar) hg (by simp)
theorem sep_goo:∀ {l:List ByteArray} {c d:Cur} {out:List ByteArray} {s:ByteArray},(∀ e ∈ s :: l,isName e.data.toList = true) → out.length + l.length < 8 → Goo c (sepK (s :: l)) d → ¬ isB d 3 wCom = true → nameC c = on c ∧ nameS c = s ∧ loopT qE stE (on c) (out ++ [s]) = (d,out ++ s :: l)
 | [],c,d,out,s,h,_,hg,hno => by
   obtain ⟨n1,n2,g⟩:=goo_name (r:=[]) hg (h s (by simp))
   refine ⟨n1,n2,?_⟩
   rw [← goo_nil g,loopT_no hno]
 | u :: r,c,d,out,s,h,h8,hg,hno => by
   obtain ⟨n1,n2,g⟩:=goo_name (r:=(3,[44]) :: sepK (u :: r)) hg (h s (by simp))
   obtain ⟨g2,hb,-,-⟩:=goo_cons g
   obtain ⟨k1,k2,k3⟩:=sep_goo (out:=out ++ [s]) (fun e he => h e (List.mem_cons_of_mem _ he)) (by simp at h8 ⊢; omega) g2 hno
   refine ⟨n1,n2,?_⟩
   have hs:stE (on c) (out ++ [s]) = (on (on (on c)),(out ++ [s]) ++ [u]):=by
    unfold stE fullE
    rw [if_neg (by simp at h8 ⊢; omega),k1,k2]
   rw [loopT_yes goes_E (show qE (on c) = true from hb),hs,k3]
   simp
theorem ev_goo {l:List ByteArray} (h:∀ e ∈ l,isName e.data.toList = true) (h8:l.length ≤ 8) {c d:Cur} (hg:Goo c (evK l) d) (hno:l = [] → ¬ isB c 1 wEvent = true):evR c = (d,l):=by
 unfold evK at hg
 unfold evR
 cases l with
 | nil =>
   rw [if_pos rfl] at hg
   rw [if_neg (hno rfl),goo_nil hg]
 | cons s r =>
   rw [if_neg (by simp)] at hg
   obtain ⟨g1,hb,-,-⟩:=goo_cons hg
   obtain ⟨m,m1,m2⟩:=goo_app g1
   obtain ⟨-,-,-,ht⟩:=goo_cons m2
   obtain ⟨n1,n2,n3⟩:=sep_goo (out:=[]) h (by simp at h8 ⊢; omega) m1 (isB_ne (by rw [ht]; decide))
   rw [if_pos (show isB c 1 wEvent = true from hb),n1,n2]
   rw [List.nil_append] at n3
   rw [n3]
   dsimp only
   rw [show want m 3 wEnd = d from goo_want m2]
   rfl
theorem nxt_ev {l:List ByteArray} {c d:Cur} {r:List Tx} {ws:List (List UInt8)} (hg:Goo c (evK l ++ r) d) (h:∀ m,Goo m r d → Nxt m ws) (h0:l = []):Nxt c ws:=by
 rw [h0] at hg
 exact h c hg
theorem kd_goo {t:Ts} (hk:1 ≤ t.kind ∧ t.kind ≤ 3) {c d:Cur} {r:List Tx} (hg:Goo c ((1,wordT t.kind) :: r) d):kdR c = (on c,t.kind) ∧ qS c = true ∧ Goo (on c) r d:=by
 obtain ⟨g,hb,-,ht⟩:=goo_cons hg
 unfold wordT at hb ht
 have h3:t.kind = 1 ∨ t.kind = 2 ∨ t.kind = 3:=by omega
 rcases h3 with e | e | e
 ·rw [if_pos e] at hb
  exact ⟨by unfold kdR; rw [if_pos (show isB c 1 wLeaf = true from hb),e],by unfold qS; rw [show isB c 1 wLeaf = true from hb]; rfl,g⟩
 ·rw [if_neg (by omega),if_pos e] at hb ht
  refine ⟨by unfold kdR; rw [if_neg (isB_ne (by rw [ht]; decide)),if_pos (show isB c 1 wOr = true from hb),e],by unfold qS; rw [show isB c 1 wOr = true from hb]; simp,g⟩
 ·rw [if_neg (by omega),if_neg (by omega)] at hb ht
  refine ⟨?_,by unfold qS; rw [show isB c 1 wAnd = true from hb]; simp,g⟩
  unfold kdR
  rw [if_neg (isB_ne (by rw [ht]; decide)),if_neg (isB_ne (by rw [ht]; decide)),show want c 1 wAnd = on c from want_yes hb,e]
theorem head_goo {t:Ts} (hk:1 ≤ t.kind ∧ t.kind ≤ 3) (hn:isName t.s.data.toList = true) {c d:Cur} {r:List Tx} (hg:Goo c (headK t ++ r) d) (par:Int):headR c par = (on (on c),⟨t.s,t.kind,par,[],[],[]⟩) ∧ qS c = true ∧ Goo (on (on c)) r d:=by
 obtain ⟨h1,h2,h3⟩:=kd_goo hk (r:=(1,T t.s) :: r) hg
 obtain ⟨n1,n2,n3⟩:=goo_name h3 hn
 unfold headR
 rw [h1]
 dsimp only
 rw [n1,n2]
 exact ⟨rfl,h2,n3⟩
theorem word_in (k:Int):wordT k ∈ wsS:=by
 unfold wordT
 split
 ·simp
 ·split <;> simp
end PrintSpec
end Go.Proofs.YtcofikjpplkjdaaGreatDoor
namespace Go.Proofs.YtcofikjpplkjdaaGreatDoor
namespace PrintSpec
open CurSpec TermSpec EvalSpec NamesSpec ExprSpec ScanSpec ActSpec TransSpec SynSpec
open ShapeSpec (Sh up sf endOf SU)
section
variable (sh:List Sh) (l:List Ts)
def cl (i0 m:Nat):List Tx:=((sf sh m).filter fun j => decide (i0 ≤ j)).flatMap (oneK sh l m)
def bodyK (i0 m:Nat):List Tx:=stK sh l m ++ cl sh l i0 m
def seg (i0 a b:Nat):List Tx:=(List.range' a (b - a)).flatMap (bodyK sh l i0)
def shutK (i:Nat):List Tx:=if emptyB sh l i = false then [(3,lShut)] else []
end
section
variable {sh:List Sh} {l:List Ts}
theorem seg_nil (i0 a:Nat):seg sh l i0 a a = []:=by unfold seg; rw [Nat.sub_self]; rfl
theorem seg_app (i0:Nat) {a b c:Nat} (h1:a ≤ b) (h2:b ≤ c):seg sh l i0 a c = seg sh l i0 a b ++ seg sh l i0 b c:=by
 unfold seg
 rw [← List.flatMap_append,show c - a = (b - a) + (c - b) by omega,← List.range'_append_1,show a + (b - a) = b by omega]
theorem seg_one (i0 a:Nat):seg sh l i0 a (a + 1) = bodyK sh l i0 a:=by
 unfold seg
 rw [show a + 1 - a = 1 by omega]
 simp
theorem seg_congr {i0 i1 a b:Nat} (h:∀ m,a ≤ m → m < b → cl sh l i0 m = cl sh l i1 m):seg sh l i0 a b = seg sh l i1 a b:=by
 unfold seg
 rw [List.flatMap_def,List.flatMap_def]
 congr 1
 refine List.map_congr_left fun m hm => ?_
 have:=List.mem_range'_1.1 hm
 unfold bodyK
 rw [h m this.1 (by omega)]
theorem stsK_seg (hl:sh.length = l.length):stsK sh l = seg sh l 0 0 sh.length:=by
 unfold stsK seg
 rw [hl,Nat.sub_zero,List.range_eq_range']
 rw [List.flatMap_def,List.flatMap_def]
 congr 1
 refine List.map_congr_left fun m _ => ?_
 unfold bodyK cl closK
 rw [List.filter_eq_self.2 (fun j _ => by simp)]
theorem upF_desc (l:List Sh):∀ i,(up l i).Pairwise (· > ·):=by
 intro i
 induction i using Nat.strongRecOn with
 | ind i ih =>
   by_cases hp:0 ≤ ShapeSpec.par l i ∧ ShapeSpec.par l i < i
   ·rw [ShapeSpec.up_sf hp.1 hp.2]
    refine List.pairwise_cons.2 ⟨fun j hj => ShapeSpec.up_lt hj,ih _ (by omega)⟩
   ·rw [ShapeSpec.up_no hp]
    exact .nil
theorem sf_desc (l:List Sh) (i:Nat):(sf l i).Pairwise (· > ·):=List.pairwise_cons.2 ⟨fun _j hj => ShapeSpec.up_lt hj,upF_desc l i⟩
theorem desc_filter {i:Nat}:∀ {a:List Nat},a.Pairwise (· > ·) → i ∈ a → a.filter (fun j => decide (i ≤ j)) = a.filter (fun j => decide (i + 1 ≤ j)) ++ [i]
 | [],_,h => by simp at h
 | x :: r,hp,h => by
   obtain ⟨h1,h2⟩:=List.pairwise_cons.1 hp
   rcases List.mem_cons.1 h with rfl | h
   ·rw [List.filter_cons_of_pos (by simp),List.filter_cons_of_neg (by simp)]
    have e:∀ k,i ≤ k → r.filter (fun j => decide (k ≤ j)) = []:=fun k hk => List.filter_eq_nil_iff.2 fun j hj => by have:=h1 j hj; simp; omega
    rw [e i (Nat.le_refl _),e (i + 1) (by omega)]
    rfl
   ·have:=h1 i h
    rw [List.filter_cons_of_pos (by simp; omega),List.filter_cons_of_pos (by simp; omega),desc_filter h2 h]
    rfl
theorem cl_last {i m:Nat} (h:i ∈ sf sh m):cl sh l i m = cl sh l (i + 1) m ++ oneK sh l m i:=by
 unfold cl
 rw [desc_filter (sf_desc sh m) h,List.flatMap_append]
 simp
theorem cl_none (i:Nat):cl sh l (i + 1) i = []:=by
 unfold cl
 rw [List.filter_eq_nil_iff.2 fun j hj => by have:=ShapeSpec.sf_le hj; simp; omega]
 rfl
theorem seg_state (h:SU sh sh.length) {i:Nat} (hi:i < sh.length):seg sh l i i (endOf sh i) = stK sh l i ++ (seg sh l (i + 1) (i + 1) (endOf sh i) ++ shutK sh l i):=by
 obtain ⟨e1,e2⟩:=ShapeSpec.end_bd hi
 obtain ⟨e,he⟩:∃ e,e = endOf sh i:=⟨_,rfl⟩
 rw [← he] at e1 e2 ⊢
 have hin:∀ m,i ≤ m → m < e → i ∈ sf sh m:=fun m h1 h2 => (ShapeSpec.end_iff h hi (by omega)).2 ⟨h1,by omega⟩
 have hno:∀ m,i ≤ m → m + 1 < e → cl sh l i m = cl sh l (i + 1) m:=fun m h1 h2 => by
  rw [cl_last (hin m h1 (by omega))]
  unfold oneK
  rw [if_neg (by omega),List.append_nil]
 have hla:cl sh l i (e - 1) = cl sh l (i + 1) (e - 1) ++ shutK sh l i:=by
  rw [cl_last (hin (e - 1) (by omega) (by omega))]
  unfold oneK shutK
  by_cases hb:emptyB sh l i = false
  ·rw [if_pos ⟨by omega,hb⟩,if_pos hb]
  ·rw [if_neg (fun h' => hb h'.2),if_neg hb]
 have h1:seg sh l i i e = seg sh l (i + 1) i e ++ shutK sh l i:=by
  rw [seg_app i (b:=e - 1) (by omega) (by omega),seg_app (i + 1) (a:=i) (b:=e - 1) (c:=e) (by omega) (by omega),seg_congr (i0:=i) (i1:=i + 1) (a:=i) (b:=e - 1) (fun m a b => hno m a (by omega))]
  have hs:seg sh l i (e - 1) e = seg sh l (i + 1) (e - 1) e ++ shutK sh l i:=by
   have e':e = (e - 1) + 1:=by omega
   rw [e',Nat.add_sub_cancel,seg_one,seg_one]
   unfold bodyK
   rw [hla,List.append_assoc]
  rw [hs,List.append_assoc]
 rw [h1,seg_app (i + 1) (a:=i) (b:=i + 1) (by omega) (by omega),seg_one]
 unfold bodyK
 rw [cl_none,List.append_nil,List.append_assoc]
theorem seg_kid (h:SU sh sh.length) {i m:Nat} (hm:m < sh.length) (hup:up sh m = sf sh i):seg sh l (i + 1) m (endOf sh m) = seg sh l m m (endOf sh m):=by
 refine seg_congr fun k h1 h2 => ?_
 have hk:m ∈ sf sh k:=(ShapeSpec.end_iff h hm (by have:=(ShapeSpec.end_bd hm).2; omega)).2 ⟨h1,h2⟩
 unfold cl
 congr 1
 refine List.filter_congr fun j hj => ?_
 have him:i < m:=ShapeSpec.up_lt (l:=sh) (i:=m) (j:=i) (by rw [hup]; exact ShapeSpec.sf_self _ _)
 by_cases hjm:m ≤ j
 ·simp [hjm]; omega
 ·have h3:=ShapeSpec.sf_chain hk hj (by omega)
  have h4:=ShapeSpec.sf_up h3 (by omega)
  rw [hup] at h4
  have:=ShapeSpec.sf_le h4
  have e1:¬ i + 1 ≤ j:=by omega
  simp [hjm,e1]
theorem kid_first (h:SU sh sh.length) {i:Nat} (hi:i < sh.length) (he:i + 1 < endOf sh i):up sh (i + 1) = sf sh i ∧ ShapeSpec.par sh (i + 1) = i ∧ i + 1 < sh.length:=by
 have hlt:i + 1 < sh.length:=by have:=(ShapeSpec.end_bd hi).2; omega
 have hin:=ShapeSpec.sf_up ((ShapeSpec.end_iff h hi hlt).2 ⟨by omega,he⟩) (by omega)
 obtain ⟨p,hp,hpl,hup,hpin⟩:=h.parn hlt (by omega)
 rw [Nat.add_sub_cancel] at hpin
 rw [hup] at hin
 have h1:=ShapeSpec.sf_le hpin
 have h2:=ShapeSpec.sf_le hin
 obtain rfl:p = i:=by omega
 exact ⟨hup,hp,hlt⟩
theorem kid_next (h:SU sh sh.length) {i m:Nat} (hi:i < sh.length) (hm:m < endOf sh i) (hup:up sh m = sf sh i) (him:i < m) :
 m < sh.length ∧ endOf sh m ≤ endOf sh i ∧ (endOf sh m < endOf sh i → up sh (endOf sh m) = sf sh i ∧ ShapeSpec.par sh (endOf sh m) = i):=by
 have hml:m < sh.length:=by have:=(ShapeSpec.end_bd hi).2; omega
 obtain ⟨a1,a2⟩:=ShapeSpec.end_bd hml
 have hm1:m ∈ sf sh (endOf sh m - 1):=(ShapeSpec.end_iff h hml (by omega)).2 ⟨by omega,by omega⟩
 have him1:i ∈ sf sh m:=ShapeSpec.up_in (by rw [hup]; exact ShapeSpec.sf_self _ _)
 have hi1:=(ShapeSpec.end_iff h hi (k:=endOf sh m - 1) (by omega)).1 (ShapeSpec.sf_sub hm1 him1)
 refine ⟨hml,by omega,fun hlt => ?_⟩
 have hel:endOf sh m < sh.length:=by have:=(ShapeSpec.end_bd hi).2; omega
 have hie:i ∈ up sh (endOf sh m):=ShapeSpec.sf_up ((ShapeSpec.end_iff h hi hel).2 ⟨by omega,hlt⟩) (by omega)
 obtain ⟨p,hp,hpl,hup2,hpin⟩:=h.parn hel (by omega)
 have hip:i ∈ sf sh p:=by rw [← hup2]; exact hie
 have hile:=ShapeSpec.sf_le hip
 have hpm:p < m:=by
  rcases Nat.lt_or_ge p m with h' | h'
  ·exact h'
  ·exfalso
   have:m ∈ sf sh p:=ShapeSpec.sf_chain hpin hm1 h'
   have h2:m ∈ sf sh (endOf sh m):=ShapeSpec.up_in (by rw [hup2]; exact this)
   have:=(ShapeSpec.end_iff h hml hel).1 h2
   omega
 have h3:=ShapeSpec.sf_up (ShapeSpec.sf_chain hm1 hpin (by omega)) (by omega:p ≠ m)
 rw [hup] at h3
 have:=ShapeSpec.sf_le h3
 obtain rfl:p = i:=by omega
 exact ⟨hup2,hp⟩
theorem kids_end (h:SU sh sh.length) {i:Nat} (hi:i < sh.length):ShapeSpec.kids sh i = [] ↔ endOf sh i = i + 1:=by
 have hk:ShapeSpec.kids sh i = [] ↔ ∀ k,k < sh.length → ShapeSpec.par sh k ≠ i:=by
  unfold ShapeSpec.kids ShapeSpec.kidsTo
  rw [List.map_eq_nil_iff,List.filter_eq_nil_iff]
  simp
 rw [hk]
 obtain ⟨a1,a2⟩:=ShapeSpec.end_bd hi
 constructor
 ·intro h'
  by_cases he:i + 1 < endOf sh i
  ·obtain ⟨-,h1,h2⟩:=kid_first h hi he
   exact absurd h1 (h' _ h2)
  ·omega
 ·intro he k hk hp
  have hik:i < k:=by
   rcases Nat.eq_zero_or_pos k with rfl | h0
   ·have:=h.root (by omega)
    rw [hp] at this
    omega
   ·have:=(h.par hk h0).2.1
    omega
  have h1:up sh k = sf sh i:=ShapeSpec.up_of hp hik
  have:=(ShapeSpec.end_iff h hi hk).1 (ShapeSpec.up_in (by rw [h1]; exact ShapeSpec.sf_self _ _))
  omega
end
end PrintSpec
end Go.Proofs.YtcofikjpplkjdaaGreatDoor