/- AtlasCopyMem, ShapeSpec, GroupSpec, GroupBits, joined. -/
import Derived.Test.YtapnomdckglehaaGreatMAtlasTurns06
import Derived.Test.YtapnomdckglehaaGreatMAtlasTurns00
import Derived.Lib.TrailingZeros
namespace Go.Proofs.YtapnomdckglehaaGreat
open Go.RowKit TermSpec EvalSpec ActSpec NamesSpec ExprSpec TransSpec SynSpec CurSpec
structure FewQ (x:Cx):Prop where
 evs:x.evs.length ≤ 1000000
 vars:x.vars.length ≤ 1000000
 stl:x.sts.length ≤ 1000000
 sts:∀ s ∈ x.sts,(s.en.length ≤ 1000000 ∧ ∀ a ∈ s.en,a.x.length ≤ 1000000) ∧ (s.ex.length ≤ 1000000 ∧ ∀ a ∈ s.ex,a.x.length ≤ 1000000) ∧ s.tr.length ≤ 1000000 ∧ ∀ t ∈ s.tr,t.g.length ≤ 1000000 ∧ t.acts.length ≤ 1000000 ∧ ∀ a ∈ t.acts,a.x.length ≤ 1000000
abbrev MixT (N:Nat) (wr:World) (pv:Value) (ps:List TP) (m:Nat):Prop:=MixR 76 4 tpV tpN N wr pv ps m
abbrev MixS (N:Nat) (wr:World) (pv:Value) (ps:List SP) (m:Nat):Prop:=MixR 72 6 spV spN N wr pv ps m
abbrev chO17 (nm:ByteArray) (e v s:Value):Obj:=.cells #[.string nm,e,v,s] 26
abbrev chZ17:Obj:=chO17 ⟨#[]⟩ (.slice none 0 0) (.slice none 0 0) (.slice none 0 0)
def CsRel (W4:World) (N:Nat) (l:List Sx) (ps0:List SP) (A:Option Addr) (n c:Nat) (i:Value) (wr:World):Prop :=
 ∃ (k:Nat) (ps:List SP),k ≤ n ∧ i = .int .i64 k ∧ Hid (ps.map (·.x) = l) ∧ Hid (ps.length = n) ∧ Hid (MixS N wr (.slice A n c) ps k) ∧ Hid (W4.grownBy wr (Value.slice A n c).ownBlock) ∧ Hid (∀ j,k ≤ j → ps[j]? = ps0[j]?)
def CtRel (W6:World) (N:Nat) (l:List Tr) (A:Option Addr) (n c:Nat) (i:Value) (wr:World):Prop :=
 ∃ (k:Nat) (ps:List TP),k ≤ n ∧ i = .int .i64 k ∧ Hid (ps.map (·.t) = l) ∧ Hid (ps.length = n) ∧ Hid (MixT N wr (.slice A n c) ps k) ∧ Hid (W6.grownBy wr (Value.slice A n c).ownBlock)
def RetCx (W:World) (x:Cx) (e:Ending) (w':World):Prop:=∃ eA ec vA vc sA sc,e = .returned (.agg #[.string x.s,.slice eA x.evs.length ec,.slice vA x.vars.length vc,.slice sA x.sts.length sc]) ∧ Dep w' (fun b => W.heap.size ≤ b) (fun X => ChIn X (.slice eA x.evs.length ec) (.slice vA x.vars.length vc) (.slice sA x.sts.length sc) x) ∧ Below W.heap.size W w'
theorem vrsV_one17 (l:List Vr):∀ u ∈ vrsV l,u.oneCell' = true:=by
 intro u hu
 obtain ⟨t,_,h⟩:=List.mem_flatMap.1 hu
 simp only [vrV,List.mem_cons,List.not_mem_nil,or_false] at h
 rcases h with rfl | rfl | rfl | rfl <;> rfl
theorem flat_one17 {α:Type} {f:α → List Value} (hf:∀ a,∀ u ∈ f a,u.oneCell' = true) (l:List α):∀ u ∈ l.flatMap f,u.oneCell' = true:=by
 intro u hu
 obtain ⟨t,_,h⟩:=List.mem_flatMap.1 hu
 exact hf t u h
theorem MixR.begin {α:Type} {T:TypeId} {k:Nat} {cv:α → List Value} {nest:α → World → Prop} {N:Nat} {wr:World} {pv:Value} {ps:List α} (hown:wr.ownsRow N T k pv ps.length (ps.flatMap cv)) (hn:∀ p ∈ ps,Dep wr (fun b => b < N) (nest p)):MixR T k cv nest N wr pv ps 0 :=
 ⟨hown,fun j p hj => (hn p (List.mem_of_getElem? hj)).mono fun b _ h => ⟨fun h0 => by omega,fun e => by have:=(own_block_bd hown b e).1; omega⟩⟩
theorem own_upd {α:Type} {T:TypeId} {k:Nat} {cv:α → List Value} {N i j g n cap:Nat} {wr:World} {ps:List α} {p p':α} {u:Value} (h:wr.ownsRow N T k (.slice (some ⟨g,0,none⟩) n cap) n (ps.flatMap cv)) (hlen:∀ a,(cv a).length = k) (hp:ps[i]? = some p) (hj:j < k) (hu:cv p' = (cv p).set j u) :
 (wr.setCell ⟨g,i * k + j,none⟩ u).ownsRow N T k (.slice (some ⟨g,0,none⟩) n cap) n ((ps.set i p').flatMap cv):=by
 have hi:=(List.getElem?_eq_some_iff.1 hp).1
 have hlt:i * k + j < (ps.flatMap cv).length:=by
  rw [flat_length hlen]
  have:(i + 1) * k ≤ ps.length * k:=Nat.mul_le_mul_right k hi
  rw [Nat.add_mul] at this
  omega
 rw [flat_set hlen hp hj hu]
 exact own_set h hlt u
theorem set_at {α:Type} {l:List α} {i:Nat} {a b:α} (h:l[i]? = some a):(l.set i b)[i]? = some b:=List.getElem?_set_self (List.getElem?_eq_some_iff.1 h).1
def CpA (w:World) (nm:ByteArray) (x:Cx) (ps:List SP) (wx:World):Prop:=∃ A1 c1 A2 c2 A3 c3 N,
 wx.heap[w.heap.size]? = some (chO17 nm (.slice A1 x.evs.length c1) (.slice A2 x.vars.length c2) (.slice A3 ps.length c3)) ∧ wx.heap[w.heap.size + 1]? = some chZ17 ∧
 Dep wx (fun b => w.heap.size + 1 < b ∧ b < N) (fun X => RdS X (.slice A1 x.evs.length c1) x.evs ∧ RdV X (.slice A2 x.vars.length c2) x.vars) ∧ MixS N wx (.slice A3 ps.length c3) ps 0 ∧ w.heap.size + 1 < N ∧ Below w.heap.size w wx
theorem cpA_done {w W1 y1 y2 y3:World} {nm:ByteArray} {x:Cx} {ps:List SP} {e v s:Value} {A1 A2 A3:Option Addr} {c1 c2 c3:Nat} (hb1:Below w.heap.size w W1) (hsz:w.heap.size + 1 < W1.heap.size) (hk:∀ W,Below W1.heap.size W1 W → W.heap[w.heap.size]? = some (chO17 nm e v s) ∧ W.heap[w.heap.size + 1]? = some chZ17)
 (b1:Below W1.drew.heap.size W1.drew y1) (b2:Below y1.heap.size y1 y2) (b3:Below y2.heap.size y2 y3)
 (o1:y1.ownsRow W1.drew.heap.size 9 1 (.slice A1 x.evs.length c1) x.evs.length (strV x.evs)) (o2:y2.ownsRow y1.heap.size 68 4 (.slice A2 x.vars.length c2) x.vars.length (vrsV x.vars)) (o3:y3.ownsRow y2.heap.size 72 6 (.slice A3 ps.length c3) ps.length (ps.flatMap spV))
 (hn:∀ p ∈ ps,Dep w (fun b => b < w.heap.size) (spN p)) :
 CpA w nm x ps (((y3.setCell ⟨w.heap.size,1,none⟩ (.slice A1 x.evs.length c1)).setCell ⟨w.heap.size,2,none⟩ (.slice A2 x.vars.length c2)).setCell ⟨w.heap.size,3,none⟩ (.slice A3 ps.length c3)):=by
 have hdr:Below W1.heap.size W1 W1.drew:=(Below.refl _ _).drew
 have g1:=below_two' hdr b1
 have g2:=below_two' g1 b2
 have g3:=below_two' g2 b3
 have hd:W1.drew.heap.size = W1.heap.size:=rfl
 have z1:=b1.size; have z2:=b2.size; have z3:=b3.size
 have G:y3.grownBy (((y3.setCell ⟨w.heap.size,1,none⟩ (.slice A1 x.evs.length c1)).setCell ⟨w.heap.size,2,none⟩ (.slice A2 x.vars.length c2)).setCell ⟨w.heap.size,3,none⟩ (.slice A3 ps.length c3)) (some w.heap.size):=but_set (but_set (but_set (but_refl _ _) _ _) _ _) _ _
 refine ⟨A1,c1,A2,c2,A3,c3,y2.heap.size,block_setCell' (block_setCell' (block_setCell' (hk _ g3).1 1 _) 2 _) 3 _,keep_but (hk _ g3).2 G (by omega),Dep.and ?_ ?_,?_,by omega,?_⟩
 ·refine Dep.go (((rdk_dep (S:=fun b => w.heap.size + 1 < b ∧ b < y2.heap.size) (Rdk.own o1) fun _ b eb => ?_).keep b2).keep b3 |>.imp fun _ h => rd_one h) G (fun b h1 h2 => by injection h2 with h2; omega)
  have:=own_block_bd o1 b eb
  omega
 ·refine Dep.go ((rdk_dep (S:=fun b => w.heap.size + 1 < b ∧ b < y2.heap.size) (Rdk.own o2) fun _ b eb => ?_).keep b3) G (fun b h1 h2 => by injection h2 with h2; omega)
  have:=own_block_bd o2 b eb
  omega
 ·refine MixR.begin (own_go o3 G fun j ej e' => by injection ej with ej; have:=(own_block_bd o3 j e').1; omega) fun p hp => ?_
  refine Dep.mono (Dep.go ((hn p hp).keep (below_two' hb1 g3)) G (fun b h1 h2 => by injection h2 with h2; omega)) fun b _ h1 => by omega
 ·exact ((((below_two' hb1 g3).setCell (Nat.le_refl _) _).setCell (Nat.le_refl _) _).setCell (Nat.le_refl _) _)
def CpB (wr:World) (N g n c k:Nat) (ps:List SP) (s:Sx) (ts:List TP) (wx:World):Prop:=∃ A3 c3 A4 c4 A5 c5 N3,
 wx.ownsRow N 72 6 (.slice (some ⟨g,0,none⟩) n c) n ((ps.set k ⟨s,A3,s.en.length,c3,A4,s.ex.length,c4,A5,ts.length,c5⟩).flatMap spV) ∧
 Dep wx (fun b => wr.heap.size ≤ b ∧ b < N3) (fun X => Acs X (.slice A3 s.en.length c3) s.en ∧ Acs X (.slice A4 s.ex.length c4) s.ex) ∧ MixT N3 wx (.slice A5 ts.length c5) ts 0 ∧ wr.heap.size ≤ N3 ∧ wr.grownBy wx (some g)
theorem cpB_done {wr y1 y2 y3:World} {N g n c k m:Nat} {ps:List SP} {s:Sx} {a3 a4 a5:Option Addr} {n3 c3 n4 c4 n5 c5:Nat} {ts:List TP} {A3 A4 A5:Option Addr} {c3' c4' c5':Nat} (hM:MixS N wr (.slice (some ⟨g,0,none⟩) n c) ps m) (hnl:ps.length = n) (hp:ps[k]? = some ⟨s,a3,n3,c3,a4,n4,c4,a5,n5,c5⟩)
 (b1:Below wr.drew.heap.size wr.drew y1) (b2:Below y1.heap.size y1 y2) (b3:Below y2.heap.size y2 y3)
 (o1:Dep y1 (fun b => wr.drew.heap.size ≤ b) (fun x => Acs x (.slice A3 s.en.length c3') s.en)) (o2:Dep y2 (fun b => y1.heap.size ≤ b) (fun x => Acs x (.slice A4 s.ex.length c4') s.ex)) (o3:y3.ownsRow y2.heap.size 76 4 (.slice A5 ts.length c5') ts.length (ts.flatMap tpV))
 (hn:∀ p ∈ ts,Dep wr (fun b => g ≠ b) (tpN p)) :
 CpB wr N g n c k ps s ts (((y3.setCell ⟨g,k * 6 + 3,none⟩ (.slice A3 s.en.length c3')).setCell ⟨g,k * 6 + 4,none⟩ (.slice A4 s.ex.length c4')).setCell ⟨g,k * 6 + 5,none⟩ (.slice A5 ts.length c5')):=by
 have hdr:Below wr.heap.size wr wr.drew:=(Below.refl _ _).drew
 have g1:=below_two' hdr b1
 have g2:=below_two' g1 b2
 have g3:=below_two' g2 b3
 have hd:wr.drew.heap.size = wr.heap.size:=rfl
 have z1:=b1.size; have z2:=b2.size; have z3:=b3.size
 obtain ⟨-,-,hg1,hg2⟩:=hM.cells hnl
 have G:y3.grownBy (((y3.setCell ⟨g,k * 6 + 3,none⟩ (.slice A3 s.en.length c3')).setCell ⟨g,k * 6 + 4,none⟩ (.slice A4 s.ex.length c4')).setCell ⟨g,k * 6 + 5,none⟩ (.slice A5 ts.length c5')) (some g):=but_set (but_set (but_set (but_refl _ _) _ _) _ _) _ _
 have r0:=(hM.keep g3).own
 rw [hnl] at r0
 have r1:=own_upd r0 spV_length hp (j:=3) (p':=⟨s,A3,s.en.length,c3',a4,n4,c4,a5,n5,c5⟩) (by decide) rfl
 have r2:=own_upd r1 spV_length (set_at hp) (j:=4) (p':=⟨s,A3,s.en.length,c3',A4,s.ex.length,c4',a5,n5,c5⟩) (by decide) rfl
 have r3:=own_upd r2 spV_length (set_at (set_at hp)) (j:=5) (p':=⟨s,A3,s.en.length,c3',A4,s.ex.length,c4',A5,ts.length,c5'⟩) (by decide) rfl
 rw [List.set_set,List.set_set] at r3
 refine ⟨A3,c3',A4,c4',A5,c5',y2.heap.size,r3,Dep.and ?_ ?_,?_,by omega,?_⟩
 ·exact Dep.go (((o1.mono (S':=fun b => wr.heap.size ≤ b ∧ b < y2.heap.size) fun b h1 h2 => ⟨by omega,by omega⟩).keep b2).keep b3) G (fun b h1 h2 => by injection h2 with h2; omega)
 ·exact Dep.go ((o2.mono (S':=fun b => wr.heap.size ≤ b ∧ b < y2.heap.size) fun b h1 h2 => ⟨by omega,by omega⟩).keep b3) G (fun b h1 h2 => by injection h2 with h2; omega)
 ·refine MixR.begin (own_go o3 G fun j ej e' => by injection ej with ej; have:=(own_block_bd o3 j e').1; omega) fun p hp => ?_
  refine Dep.go ((((hn p hp).mono (S':=fun b => b < wr.heap.size ∧ g ≠ b) fun b h1 h2 => ⟨h1,h2⟩).keep g3).mono (S':=fun b => b < y2.heap.size ∧ g ≠ b) fun b _ h => ⟨by omega,h.2⟩) G (fun b h1 h2 => h1.2 (by injection h2)) |>.mono fun b _ h => h.1
 ·exact gr_any (gr_none g3 (some g)) G (fun j e => .inl e)
theorem cs_step {wr wx w2:World} {N N3 g n c k:Nat} {ps:List SP} {s:Sx} {p:SP} {ts ts2:List TP} {A3 A4 A5:Option Addr} {c3 c4 c5:Nat} (hM:MixS N wr (.slice (some ⟨g,0,none⟩) n c) ps k) (hnl:ps.length = n) (hp:ps[k]? = some p) (hps:p.x = s)
 (r:wx.ownsRow N 72 6 (.slice (some ⟨g,0,none⟩) n c) n ((ps.set k ⟨s,A3,s.en.length,c3,A4,s.ex.length,c4,A5,ts.length,c5⟩).flatMap spV))
 (hd:Dep wx (fun b => wr.heap.size ≤ b ∧ b < N3) (fun X => Acs X (.slice A3 s.en.length c3) s.en ∧ Acs X (.slice A4 s.ex.length c4) s.ex)) (hz:wr.heap.size ≤ N3) (hg:wr.grownBy wx (some g))
 (hT:MixT N3 w2 (.slice A5 ts.length c5) ts2 ts.length) (htl:ts2.length = ts.length) (htm:ts2.map (·.t) = s.tr) (hG:wx.grownBy w2 (Value.slice A5 ts.length c5).ownBlock) :
 MixS N w2 (.slice (some ⟨g,0,none⟩) n c) (ps.set k ⟨s,A3,s.en.length,c3,A4,s.ex.length,c4,A5,ts.length,c5⟩) (k + 1) ∧ wr.grownBy w2 (some g) ∧ (ps.set k ⟨s,A3,s.en.length,c3,A4,s.ex.length,c4,A5,ts.length,c5⟩).map (·.x) = ps.map (·.x) ∧ (ps.set k ⟨s,A3,s.en.length,c3,A4,s.ex.length,c4,A5,ts.length,c5⟩).length = n:=by
 obtain ⟨-,-,hg1,hg2⟩:=hM.cells hnl
 have hbd:∀ j,(Value.slice A5 ts.length c5).ownBlock = some j → N3 ≤ j:=fun j e => (hT.bd j e).1
 have hgr:wr.grownBy w2 (some g):=gr_any hg hG (fun j e => .inr (by have:=hbd j e; omega))
 refine ⟨⟨?_,fun q p2 hq => ?_⟩,hgr,map_same hp hps.symm,by rw [List.length_set,hnl]⟩
 ·rw [List.length_set,hnl]
  have r':wx.ownsRow N 72 6 (.slice (some ⟨g,0,none⟩) n c) (ps.set k ⟨s,A3,s.en.length,c3,A4,s.ex.length,c4,A5,ts.length,c5⟩).length ((ps.set k ⟨s,A3,s.en.length,c3,A4,s.ex.length,c4,A5,ts.length,c5⟩).flatMap spV):=by rw [List.length_set,hnl]; exact r
  have:=own_go r' hG fun j e e' => by injection e' with e'; simp only at e'; have:=hbd j e; omega
  rwa [List.length_set,hnl] at this
 ·by_cases e:q = k
  ·subst e
   rw [set_at hp] at hq
   injection hq with hq
   subst hq
   have d1:=(hd.go hG fun b h1 h2 => by have:=hbd b h2; omega).mono (S':=fun b => (q < q + 1 → N ≤ b) ∧ (Value.slice (some ⟨g,0,none⟩) n c).ownBlock ≠ some b) fun b _ h1 => ⟨fun _ => by omega,fun e' => by injection e' with e'; simp only at e'; omega⟩
   have d2:=(hT.far (Nat.le_of_eq htl)).mono (S':=fun b => (q < q + 1 → N ≤ b) ∧ (Value.slice (some ⟨g,0,none⟩) n c).ownBlock ≠ some b) fun b _ h1 => ⟨fun _ => by omega,fun e' => by injection e' with e'; simp only at e'; omega⟩
   exact (d1.and d2).imp fun X h => ⟨h.1.1,h.1.2,ts2,htm,by rw [htl] at h ⊢; exact h.2.1,h.2.2⟩
  ·rw [List.getElem?_set_ne (fun e' => e e'.symm)] at hq
   refine ((hM.dep q p2 hq).go hgr fun b hS e => hS.2 e).mono fun b _ hS => ⟨fun h0 => hS.1 (by omega),hS.2⟩
theorem blk_go {w w':World} {ob:Option Nat} {b:Nat} {o:Obj} (h:w.heap[b]? = some o) (g:w.grownBy w' ob) (hne:ob ≠ some b):w'.heap[b]? = some o:=(g.block b (Array.getElem?_eq_some_iff.1 h).1 fun e => hne e.symm).trans h
theorem cell_go {w w':World} {ob:Option Nat} {b i:Nat} {u:Value} (h:w.cell? ⟨b,i,none⟩ = some u) (hlt:b < w.heap.size) (g:w.grownBy w' ob) (hne:ob ≠ some b):w'.cell? ⟨b,i,none⟩ = some u:=by
 rw [← h]
 simp [World.cell?,g.block b hlt fun e => hne e.symm]
theorem ct_step {wr y1 y2:World} {N g n c k:Nat} {qs:List TP} {t:Tr} {gA aA A1 A2:Option Addr} {gn gc an ac c1 c2:Nat} (hM:MixT N wr (.slice (some ⟨g,0,none⟩) n c) qs k) (hnl:qs.length = n) (hq:qs[k]? = some ⟨t,gA,gn,gc,aA,an,ac⟩) (hgl:gn = t.g.length)
 (b1:Below wr.drew.heap.size wr.drew y1) (b2:Below y1.heap.size y1 y2) (o1:y1.ownsRow wr.drew.heap.size 94 3 (.slice A1 gn c1) gn (tmsV t.g)) (o2:Dep y2 (fun b => y1.heap.size ≤ b) (fun x => Acs x (.slice A2 t.acts.length c2) t.acts)) :
 MixT N ((y2.setCell ⟨g,k * 4 + 1,none⟩ (.slice A1 gn c1)).setCell ⟨g,k * 4 + 2,none⟩ (.slice A2 t.acts.length c2)) (.slice (some ⟨g,0,none⟩) n c) (qs.set k ⟨t,A1,gn,c1,A2,t.acts.length,c2⟩) (k + 1) ∧
  wr.grownBy ((y2.setCell ⟨g,k * 4 + 1,none⟩ (.slice A1 gn c1)).setCell ⟨g,k * 4 + 2,none⟩ (.slice A2 t.acts.length c2)) (some g) ∧ (qs.set k ⟨t,A1,gn,c1,A2,t.acts.length,c2⟩).map (·.t) = qs.map (·.t) ∧ (qs.set k ⟨t,A1,gn,c1,A2,t.acts.length,c2⟩).length = n:=by
 have hdr:Below wr.heap.size wr wr.drew:=(Below.refl _ _).drew
 have g1:=below_two' hdr b1
 have g2:=below_two' g1 b2
 have hd:wr.drew.heap.size = wr.heap.size:=rfl
 have z1:=b1.size; have z2:=b2.size
 obtain ⟨-,-,hg1,hg2⟩:=hM.cells hnl
 have G:y2.grownBy ((y2.setCell ⟨g,k * 4 + 1,none⟩ (.slice A1 gn c1)).setCell ⟨g,k * 4 + 2,none⟩ (.slice A2 t.acts.length c2)) (some g):=but_set (but_set (but_refl _ _) _ _) _ _
 have r0:=(hM.keep g2).own
 rw [hnl] at r0
 have r1:=own_upd r0 tpV_length hq (j:=1) (p':=⟨t,A1,gn,c1,aA,an,ac⟩) (by decide) rfl
 have r2:=own_upd r1 tpV_length (set_at hq) (j:=2) (p':=⟨t,A1,gn,c1,A2,t.acts.length,c2⟩) (by decide) rfl
 rw [List.set_set] at r2
 have hgr:=gr_any (gr_none g2 (some g)) G (fun j e => .inl e)
 refine ⟨⟨by rw [List.length_set,hnl]; exact r2,fun q p2 hp2 => ?_⟩,hgr,map_same hq rfl,by rw [List.length_set,hnl]⟩
 by_cases e:q = k
 ·subst e
  rw [set_at hq] at hp2
  injection hp2 with hp2
  subst hp2
  have S2:∀ b,wr.heap.size ≤ b → (q < q + 1 → N ≤ b) ∧ (Value.slice (some ⟨g,0,none⟩) n c).ownBlock ≠ some b:=fun b hb => ⟨fun _ => by omega,fun e' => by injection e' with e'; simp only at e'; omega⟩
  have d1:=(((rdk_dep (S:=fun b => wr.heap.size ≤ b) (Rdk.own o1) fun _ b e => by have:=(own_block_bd o1 b e).1; omega).keep b2).go G fun b h1 h2 => by injection h2 with h2; omega).mono (S':=fun b => (q < q + 1 → N ≤ b) ∧ (Value.slice (some ⟨g,0,none⟩) n c).ownBlock ≠ some b) fun b _ h1 => S2 b h1
  have d2:=(o2.go G fun b h1 h2 => by injection h2 with h2; omega).mono (S':=fun b => (q < q + 1 → N ≤ b) ∧ (Value.slice (some ⟨g,0,none⟩) n c).ownBlock ≠ some b) fun b _ h1 => S2 b (by omega)
  exact (d1.and d2).imp fun X h => ⟨⟨gn,hgl,h.1⟩,h.2⟩
 ·rw [List.getElem?_set_ne (fun e' => e e'.symm)] at hp2
  refine ((hM.dep q p2 hp2).go hgr fun b hS e => hS.2 e).mono fun b _ hS => ⟨fun h0 => hS.1 (by omega),hS.2⟩
theorem cs_end {w wc wr wz:World} {N n c c1 c2:Nat} {x:Cx} {ps:List SP} {A A1 A2:Option Addr} (hd:Dep wc (fun b => w.heap.size + 1 < b ∧ b < N) (fun X => RdS X (.slice A1 x.evs.length c1) x.evs ∧ RdV X (.slice A2 x.vars.length c2) x.vars)) (hN:w.heap.size + 1 < N) (hb:Below w.heap.size w wc)
 (hM:MixS N wr (.slice A n c) ps n) (hpl:ps.length = n) (hpm:ps.map (·.x) = x.sts) (hG:wc.grownBy wr (Value.slice A n c).ownBlock) (hz:wr.grownBy wz (some (w.heap.size + 1))) :
 n = x.sts.length ∧ Dep wz (fun b => w.heap.size ≤ b) (fun X => ChIn X (.slice A1 x.evs.length c1) (.slice A2 x.vars.length c2) (.slice A n c) x) ∧ Below w.heap.size w wz:=by
 have hbd:∀ j,(Value.slice A n c).ownBlock = some j → N ≤ j:=fun j e => (hM.bd j e).1
 have d1:=(hd.go hG fun b h1 h2 => by have:=hbd b h2; omega).go hz fun b h1 h2 => by injection h2 with h2; omega
 have d2:=(hM.far (Nat.le_of_eq hpl)).go hz fun b h1 h2 => by injection h2 with h2; omega
 refine ⟨by rw [← hpl,← hpm,List.length_map],((d1.mono (S':=fun b => w.heap.size ≤ b) fun b _ h => by omega).and (d2.mono (S':=fun b => w.heap.size ≤ b) fun b _ h => by omega)).imp fun X g => ⟨g.1.1,g.1.2,ps,hpm,g.2.1,g.2.2⟩,?_⟩
 exact (hb.grown hG hb.size (fun j e => by have:=hbd j e; omega)).grown hz (Nat.le_trans hb.size hG.size) (fun j e => by injection e with e; omega)
end Go.Proofs.YtapnomdckglehaaGreat
namespace Go.Proofs.YtapnomdckglehaaGreat
namespace ShapeSpec
structure Sh where
 kind:Int
 par:Int
def par (l:List Sh) (i:Nat):Int:=(l[i]?).elim (-1) (·.par)
def kind (l:List Sh) (i:Nat):Int:=(l[i]?).elim 0 (·.kind)
theorem par_at {l:List Sh} {i:Nat} {s:Sh} (h:l[i]? = some s):par l i = s.par:=by simp [par,h]
theorem kind_at {l:List Sh} {i:Nat} {s:Sh} (h:l[i]? = some s):kind l i = s.kind:=by simp [kind,h]
def upF (l:List Sh):Nat → Nat → List Nat
 | 0,_ => []
 | f + 1,i => if 0 ≤ par l i ∧ par l i < i then (par l i).toNat :: upF l f (par l i).toNat else []
theorem upF_fuel (l:List Sh):∀ f g i,i ≤ f → i ≤ g → upF l f i = upF l g i
 | 0,0,_,_,_ => rfl
 | 0,g + 1,i,h,_ => by
   obtain rfl:i = 0:=by omega
   rw [upF,upF,if_neg (by omega)]
 | f + 1,0,i,_,h => by
   obtain rfl:i = 0:=by omega
   rw [upF,upF,if_neg (by omega)]
 | f + 1,g + 1,i,hf,hg => by
   rw [upF,upF]
   split
   ·rw [upF_fuel l f g _ (by omega) (by omega)]
   ·rfl
def up (l:List Sh) (i:Nat):List Nat:=upF l i i
theorem up_no {l:List Sh} {i:Nat} (h:¬ (0 ≤ par l i ∧ par l i < i)):up l i = []:=by
 unfold up
 cases i with
 | zero => rfl
 | succ i => rw [upF,if_neg h]
theorem up_par {l:List Sh} {i:Nat} (h0:0 ≤ par l i) (h1:par l i < i):up l i = (par l i).toNat :: up l (par l i).toNat:=by
 unfold up
 cases i with
 | zero => omega
 | succ i => rw [upF,if_pos ⟨h0,h1⟩,upF_fuel l i _ _ (by omega) (Nat.le_refl _)]
def sf (l:List Sh) (i:Nat):List Nat:=i :: up l i
theorem up_sf {l:List Sh} {i:Nat} (h0:0 ≤ par l i) (h1:par l i < i):up l i = sf l (par l i).toNat:=up_par h0 h1
theorem up_lt {l:List Sh}:∀ {i j:Nat},j ∈ up l i → j < i:=by
 intro i
 induction i using Nat.strongRecOn with
 | ind i ih =>
   intro j h
   by_cases hp:0 ≤ par l i ∧ par l i < i
   ·rw [up_par hp.1 hp.2,List.mem_cons] at h
    rcases h with rfl | h
    ·omega
    ·have:=ih _ (by omega) h
     omega
   ·rw [up_no hp] at h
    simp at h
theorem sf_le {l:List Sh} {i j:Nat} (h:j ∈ sf l i):j ≤ i:=by
 rcases List.mem_cons.1 h with rfl | h
 ·omega
 ·exact Nat.le_of_lt (up_lt h)
theorem sf_self (l:List Sh) (i:Nat):i ∈ sf l i:=List.mem_cons_self ..
theorem sf_up {l:List Sh} {i j:Nat} (h:j ∈ sf l i) (hne:j ≠ i):j ∈ up l i:=by
 rcases List.mem_cons.1 h with rfl | h
 ·exact absurd rfl hne
 ·exact h
theorem up_in {l:List Sh} {i j:Nat} (h:j ∈ up l i):j ∈ sf l i:=List.mem_cons_of_mem _ h
theorem sf_sub {l:List Sh}:∀ {i j m:Nat},j ∈ sf l i → m ∈ sf l j → m ∈ sf l i:=by
 intro i
 induction i using Nat.strongRecOn with
 | ind i ih =>
   intro j m hj hm
   by_cases hji:j = i
   ·subst hji
    exact hm
   ·have hj':=sf_up hj hji
    by_cases hp:0 ≤ par l i ∧ par l i < i
    ·rw [up_sf hp.1 hp.2] at hj'
     refine up_in ?_
     rw [up_sf hp.1 hp.2]
     exact ih _ (by omega) hj' hm
    ·rw [up_no hp] at hj'
     simp at hj'
theorem up_length_le (l:List Sh):∀ i,(up l i).length ≤ i:=by
 intro i
 induction i using Nat.strongRecOn with
 | ind i ih =>
   by_cases hp:0 ≤ par l i ∧ par l i < i
   ·rw [up_par hp.1 hp.2,List.length_cons]
    have:=ih (par l i).toNat (by omega)
    omega
   ·rw [up_no hp]
    simp
def hangB (l:List Sh) (i:Nat):Bool :=
 if i = 0 then decide (par l i = -1) else decide (0 ≤ par l i) && decide (par l i < i) && decide (kind l (par l i).toNat ≠ 1) && decide ((par l i).toNat ∈ sf l (i - 1))
def goodB (l:List Sh) (i:Nat):Bool:=decide (1 ≤ kind l i) && decide (kind l i ≤ 3) && hangB l i
def standB (l:List Sh):Bool:=decide (0 < l.length) && (List.range l.length).all (goodB l)
def deepB (l:List Sh):Bool:=(List.range l.length).any fun i => decide (11 < (up l i).length)
def chk (l:List Sh):Int:=if 60 < l.length then 8 else if standB l = false then 1 else if deepB l = true then 6 else 0
def SU (l:List Sh) (n:Nat):Prop:=∀ i,i < n → goodB l i = true
theorem SU.zero (l:List Sh):SU l 0:=fun _ h => absurd h (by omega)
theorem SU.next {l:List Sh} {n:Nat} (h:SU l n) (hg:goodB l n = true):SU l (n + 1):=fun i hi => by
 by_cases e:i = n
 ·rw [e]; exact hg
 ·exact h i (by omega)
theorem SU.mono {l:List Sh} {n m:Nat} (h:SU l n) (hm:m ≤ n):SU l m:=fun i hi => h i (by omega)
theorem SU.root {l:List Sh} {n:Nat} (h:SU l n) (hn:0 < n):par l 0 = -1:=by
 have:=h 0 hn
 simp [goodB,hangB] at this
 exact this.2
theorem SU.par {l:List Sh} {n i:Nat} (h:SU l n) (hi:i < n) (h0:0 < i):0 ≤ par l i ∧ par l i < i ∧ (par l i).toNat ∈ sf l (i - 1):=by
 have:=h i hi
 have e:i ≠ 0:=by omega
 simp [goodB,hangB,e] at this
 exact ⟨this.2.1.1.1,this.2.1.1.2,this.2.2⟩
theorem SU.parn {l:List Sh} {n i:Nat} (h:SU l n) (hi:i < n) (h0:0 < i):∃ p:Nat,ShapeSpec.par l i = p ∧ p < i ∧ up l i = sf l p ∧ p ∈ sf l (i - 1):=by
 obtain ⟨a,b,c⟩:=h.par hi h0
 exact ⟨(ShapeSpec.par l i).toNat,by omega,by omega,up_sf a b,c⟩
theorem stand_su {l:List Sh} (h:standB l = true):0 < l.length ∧ SU l l.length:=by
 simp [standB] at h
 refine ⟨?_,fun i hi => h.2 i hi⟩
 cases l with
 | nil => simp at h
 | cons => simp
theorem stand_of {l:List Sh} (h0:0 < l.length) (h:SU l l.length):standB l = true:=by
 simp only [standB,Bool.and_eq_true,decide_eq_true_eq,List.all_eq_true,List.mem_range]
 exact ⟨h0,h⟩
theorem stand_not {l:List Sh} {i:Nat} (hi:i < l.length) (h:goodB l i = false):standB l = false:=by
 cases hs:standB l with
 | false => rfl
 | true => rw [(stand_su hs).2 i hi] at h; cases h
theorem chk_ok {l:List Sh} (h:chk l = 0):l.length ≤ 60 ∧ standB l = true ∧ ∀ i,i < l.length → (up l i).length ≤ 11:=by
 unfold chk at h
 split at h
 ·cases h
 ·split at h
  ·cases h
  ·split at h
   ·cases h
   ·rename_i h1 h2 h3
    refine ⟨by omega,by simpa using h2,fun i hi => ?_⟩
    simp only [deepB,Bool.not_eq_true,List.any_eq_false,List.mem_range,decide_eq_true_eq] at h3
    exact Nat.le_of_not_lt (h3 i hi)
theorem chk_su {l:List Sh} (h:chk l = 0):SU l l.length:=(stand_su (chk_ok h).2.1).2
def kidsTo (l:List Sh) (i n:Nat):List Int:=((List.range n).filter fun k => decide (par l k = i)).map Int.ofNat
def kids (l:List Sh) (i:Nat):List Int:=kidsTo l i l.length
theorem kids_yes {l:List Sh} {i n:Nat} (h:par l n = i):kidsTo l i (n + 1) = kidsTo l i n ++ [(n:Int)]:=by simp [kidsTo,List.range_succ,List.filter_append,h]
theorem kids_no {l:List Sh} {i n:Nat} (h:par l n ≠ i):kidsTo l i (n + 1) = kidsTo l i n:=by simp [kidsTo,List.range_succ,List.filter_append,h]
theorem kids_le (l:List Sh) (i n:Nat):(kidsTo l i n).length ≤ n:=by
 unfold kidsTo
 rw [List.length_map]
 have:=List.length_filter_le (fun k => decide (par l k = i)) (List.range n)
 simpa using this
def upI (l:List Sh) (i:Nat):List Int:=(up l i).map Int.ofNat
def sfI (l:List Sh) (i:Nat):List Int:=(sf l i).map Int.ofNat
theorem upI_length (l:List Sh) (i:Nat):(upI l i).length = (up l i).length:=by simp [upI]
theorem sfI_length (l:List Sh) (i:Nat):(sfI l i).length = (up l i).length + 1:=by simp [sfI,sf]
theorem sfI_cons (l:List Sh) (i:Nat):sfI l i = [(i:Int)] ++ upI l i:=rfl
theorem mem_ints {a:List Nat} {j:Nat}:(j:Int) ∈ a.map Int.ofNat ↔ j ∈ a:=by
 rw [List.mem_map]
 constructor
 ·rintro ⟨x,hx,e⟩
  obtain rfl:x = j:=Int.ofNat.inj e
  exact hx
 ·exact fun h => ⟨j,h,rfl⟩
theorem upI_mem {l:List Sh} {i j:Nat}:(j:Int) ∈ upI l i ↔ j ∈ up l i:=mem_ints
def endTo (l:List Sh) (i:Nat):Nat → Nat
 | 0 => i + 1
 | k + 1 => if i ∈ up l k then k + 1 else endTo l i k
def endOf (l:List Sh) (i:Nat):Nat:=endTo l i l.length
theorem endTo_gt {l:List Sh} {i:Nat}:∀ n,i < endTo l i n
 | 0 => by rw [endTo]; omega
 | n + 1 => by
   rw [endTo]
   split
   ·have:=up_lt ‹_›
    omega
   ·exact endTo_gt n
theorem endTo_le {l:List Sh} {i:Nat}:∀ {n},endTo l i n ≤ max (i + 1) n
 | 0 => by rw [endTo]; omega
 | n + 1 => by
   rw [endTo]
   split
   ·omega
   ·have:=endTo_le (l:=l) (i:=i) (n:=n)
    omega
theorem endTo_mem {l:List Sh} {i k:Nat} (h:i ∈ up l k):∀ {n},k < n → k < endTo l i n
 | 0,hk => absurd hk (by omega)
 | n + 1,hk => by
   rw [endTo]
   split
   ·omega
   ·rename_i hn
    have:k ≠ n:=by rintro rfl; exact hn h
    exact endTo_mem h (by omega)
theorem endTo_last {l:List Sh} {i:Nat}:∀ {n},endTo l i n = i + 1 ∨ i ∈ up l (endTo l i n - 1) ∧ endTo l i n ≤ n
 | 0 => .inl rfl
 | n + 1 => by
   rw [endTo]
   split
   ·exact .inr ⟨by simpa using ‹i ∈ up l n›,Nat.le_refl _⟩
   ·rcases endTo_last (l:=l) (i:=i) (n:=n) with h | ⟨h,h'⟩
    ·exact .inl h
    ·exact .inr ⟨h,by omega⟩
theorem below_stop {l:List Sh} {n i k:Nat} (h:SU l n) (hk:k < n) (hi:i < k) (hno:i ∉ sf l (k - 1)):i ∉ up l k:=by
 obtain ⟨p,hp,hlt,hup,hin⟩:=h.parn hk (by omega)
 rw [hup]
 exact fun hm => hno (sf_sub hin hm)
theorem below_none {l:List Sh} {n i e:Nat} (h:SU l n) (hi:i < e) (hno:i ∉ up l e):∀ k,e ≤ k → k < n → i ∉ up l k:=by
 intro k
 induction k with
 | zero => intro h1 _; omega
 | succ k ih =>
   intro h1 h2
   by_cases e1:e = k + 1
   ·rw [← e1]
    exact hno
   ·have hk:=ih (by omega) (by omega)
    refine below_stop h h2 (by omega) fun hm => hk (sf_up (by simpa using hm) (by omega))
theorem end_bd {l:List Sh} {i:Nat} (hi:i < l.length):i < endOf l i ∧ endOf l i ≤ l.length:=by
 refine ⟨endTo_gt _,?_⟩
 have:=endTo_le (l:=l) (i:=i) (n:=l.length)
 unfold endOf
 omega
theorem end_iff {l:List Sh} {i k:Nat} (h:SU l l.length) (hi:i < l.length) (hk:k < l.length):i ∈ sf l k ↔ i ≤ k ∧ k < endOf l i:=by
 constructor
 ·intro hm
  refine ⟨sf_le hm,?_⟩
  by_cases e:i = k
  ·rw [← e]
   exact (end_bd hi).1
  ·exact endTo_mem (sf_up hm e) hk
 ·rintro ⟨h1,h2⟩
  rcases Classical.em (i ∈ sf l k) with hm | hm
  ·exact hm
  ·exfalso
   have hne:i ≠ k:=by rintro rfl; exact hm (sf_self _ _)
   have hno:i ∉ up l k:=fun hu => hm (up_in hu)
   rcases endTo_last (l:=l) (i:=i) (n:=l.length) with e | ⟨e,e'⟩
   ·have:endOf l i = i + 1:=e
    omega
   ·have hlt:k < endTo l i l.length:=h2
    exact below_none h (by omega) hno (endTo l i l.length - 1) (by omega) (by omega) e
def meet (l:List Sh) (i k:Nat):Int:=((sf l i).find? fun a => decide (a ∈ sf l k)).elim (-1) Int.ofNat
end ShapeSpec
end Go.Proofs.YtapnomdckglehaaGreat
namespace Go.Proofs.YtapnomdckglehaaGreat
namespace GroupSpec
def valTo (f:Nat → Bool):Nat → Nat
 | 0 => 0
 | k + 1 => valTo f k + if f k then 2 ^ k else 0
theorem valTo_lt (f:Nat → Bool) (k:Nat):valTo f k < 2 ^ k:=by
 induction k with
 | zero => exact Nat.one_pos
 | succ k ih =>
   show valTo f k + _ < _
   rw [Nat.pow_succ]
   split <;> omega
theorem valTo_bit (f:Nat → Bool) (k i:Nat):(valTo f k).testBit i = (decide (i < k) && f i):=by
 induction k with
 | zero => simp [valTo]
 | succ k ih =>
   show (valTo f k + _).testBit i = _
   have hlt:=valTo_lt f k
   cases hf:f k with
   | false =>
     rw [if_neg (by simp),Nat.add_zero,ih]
     by_cases h:i = k
     ·subst h; simp [hf]
     ·have e:decide (i < k + 1) = decide (i < k):=by simp; omega
      rw [e]
   | true =>
     rw [if_pos rfl,Nat.add_comm]
     by_cases h:i = k
     ·subst h
      rw [Nat.testBit_two_pow_add_eq,ih]
      simp [hf]
     ·rcases Nat.lt_or_gt_of_ne h with h1 | h1
      ·rw [Nat.testBit_two_pow_add_gt h1,ih]
       have e:decide (i < k + 1) = decide (i < k):=by simp; omega
       rw [e]
      ·have h2:2 ^ k + valTo f k < 2 ^ i:=by
        have:2 ^ (k + 1) ≤ 2 ^ i:=Nat.pow_le_pow_right (by decide) h1
        rw [Nat.pow_succ] at this
        omega
       rw [Nat.testBit_lt_two_pow h2]
       have e:decide (i < k + 1) = false:=by simp; omega
       rw [e]; rfl
theorem bits_eq {a b:Nat} (ha:a < 2 ^ 64) (hb:b < 2 ^ 64) (h:∀ i,i < 64 → a.testBit i = b.testBit i):a = b:=by
 apply Nat.eq_of_testBit_eq
 intro i
 by_cases hi:i < 64
 ·exact h i hi
 ·have hp:2 ^ 64 ≤ 2 ^ i:=Nat.pow_le_pow_right (by decide) (by omega)
  rw [Nat.testBit_lt_two_pow (Nat.lt_of_lt_of_le ha hp),Nat.testBit_lt_two_pow (Nat.lt_of_lt_of_le hb hp)]
def hasG (m:Nat) (i:Int):Bool:=decide (0 ≤ i) && (decide (i ≤ 63) && m.testBit i.toNat)
def ofG (l:List Int):Nat:=valTo (fun i => decide ((i:Int) ∈ l)) 64
theorem ofG_lt (l:List Int):ofG l < 2 ^ 64:=valTo_lt _ _
theorem ofG_bit (l:List Int) (i:Nat):(ofG l).testBit i = (decide (i < 64) && decide ((i:Int) ∈ l)):=valTo_bit _ _ _
def withG (m:Nat) (i:Int):Nat:=if 0 ≤ i ∧ i ≤ 63 then m ||| 2 ^ i.toNat else m
theorem bit_hasG {m i:Nat} (hi:i < 64):hasG m (i:Int) = m.testBit i:=by
 unfold hasG
 rw [Int.toNat_natCast,decide_eq_true (by omega:(0:Int) ≤ i),decide_eq_true (by omega:(i:Int) ≤ 63)]
 rfl
end GroupSpec
end Go.Proofs.YtapnomdckglehaaGreat
namespace Go.Proofs.YtapnomdckglehaaGreat
namespace GroupSpec
def aloneG (i:Int):Nat:=if 0 ≤ i ∧ i ≤ 63 then 2 ^ i.toNat else 0
theorem aloneG_lt (i:Int):aloneG i < 2 ^ 64:=by
 unfold aloneG
 split
 ·exact Nat.pow_lt_pow_right (by decide) (by omega)
 ·decide
theorem aloneG_bit (i:Int) (k:Nat):(aloneG i).testBit k = (decide (i ≤ 63) && decide ((k:Int) = i)):=by
 unfold aloneG
 split
 ·rename_i h
  rw [Nat.testBit_two_pow,Bool.eq_iff_iff]
  simp only [Bool.and_eq_true,decide_eq_true_eq]
  omega
 ·rename_i h
  rw [Nat.zero_testBit,eq_comm,Bool.and_eq_false_iff]
  simp only [decide_eq_false_iff_not]
  omega
theorem has_and {m:Nat} (i:Int):decide (m &&& aloneG i ≠ 0) = hasG m i:=by
 rw [Bool.eq_iff_iff,decide_eq_true_iff]
 unfold hasG
 simp only [Bool.and_eq_true,decide_eq_true_eq]
 constructor
 ·intro h
  obtain ⟨k,hk⟩:=Nat.exists_testBit_of_ne_zero h
  rw [Nat.testBit_and,aloneG_bit] at hk
  simp only [Bool.and_eq_true,decide_eq_true_eq] at hk
  obtain ⟨h1,h2,rfl⟩:=hk
  exact ⟨by omega,by omega,by simpa using h1⟩
 ·rintro ⟨h1,h2,h3⟩ h0
  have:(m &&& aloneG i).testBit i.toNat = true:=by
   rw [Nat.testBit_and,aloneG_bit,h3]
   simp only [Bool.true_and,Bool.and_eq_true,decide_eq_true_eq]
   omega
  rw [h0,Nat.zero_testBit] at this
  cases this
theorem with_or (m:Nat) (i:Int):m ||| aloneG i = withG m i:=by
 unfold aloneG withG
 split
 ·rfl
 ·exact Nat.or_zero m
theorem withG_lt {m:Nat} (h:m < 2 ^ 64) (i:Int):withG m i < 2 ^ 64:=by
 rw [← with_or]
 exact Nat.or_lt_two_pow h (aloneG_lt i)
theorem withG_bit (m:Nat) (i:Int) (k:Nat):(withG m i).testBit k = (m.testBit k || (decide (i ≤ 63) && decide ((k:Int) = i))):=by
 rw [← with_or,Nat.testBit_or,aloneG_bit]
theorem foldl_bit (l:List Int) (m k:Nat) (hk:k < 64):(l.foldl withG m).testBit k = (m.testBit k || decide ((k:Int) ∈ l)):=by
 induction l generalizing m with
 | nil => simp
 | cons x l ih =>
   rw [List.foldl_cons,ih,withG_bit,Bool.eq_iff_iff]
   simp only [Bool.or_eq_true,Bool.and_eq_true,decide_eq_true_eq,List.mem_cons]
   constructor
   ·rintro ((h | ⟨_,h⟩) | h)
    ·exact .inl h
    ·exact .inr (.inl h)
    ·exact .inr (.inr h)
   ·rintro (h | h | h)
    ·exact .inl (.inl h)
    ·exact .inl (.inr ⟨by omega,h⟩)
    ·exact .inr h
theorem foldl_lt (l:List Int) {m:Nat} (h:m < 2 ^ 64):l.foldl withG m < 2 ^ 64:=by
 induction l generalizing m with
 | nil => exact h
 | cons x l ih => exact ih (withG_lt h x)
theorem of_foldl (l:List Int):l.foldl withG 0 = ofG l:=by
 refine bits_eq (foldl_lt l (by decide)) (ofG_lt l) fun k hk => ?_
 rw [foldl_bit l 0 k hk,ofG_bit,Nat.zero_testBit,decide_eq_true hk]
 rfl
end GroupSpec
end Go.Proofs.YtapnomdckglehaaGreat