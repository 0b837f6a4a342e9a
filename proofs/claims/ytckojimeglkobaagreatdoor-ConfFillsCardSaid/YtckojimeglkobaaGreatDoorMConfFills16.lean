/- AtlasCopyMem, AtlasOnce, AtlasDo, joined. -/
import Derived.Test.YtckojimeglkobaaGreatDoorMConfFills15
import Derived.Test.YtckojimeglkobaaGreatDoorRows
import Derived.Test.YtckojimeglkobaaGreatDoorMConfFills00
import Derived.Tactics
import Derived.Tactics2
import Derived.Defers
import Derived.Laws.Pointers
import Derived.Laws.LoneSync
import Derived.RegionTactic
import Derived.RegionCalls
import Derived.ChangeAlike
import Derived.WalkKit
import Derived.Test.YtckojimeglkobaaGreatDoorMConfFills01
import Derived.Laws.NewBlocks
namespace Go.Proofs.YtckojimeglkobaaGreatDoor
open Go.RowKit TermSpec EvalSpec ActSpec NamesSpec ExprSpec TransSpec SynSpec CurSpec
structure FewQ (x:Cx):Prop where
 evs:x.evs.length ≤ 1000000
 vars:x.vars.length ≤ 1000000
 stl:x.sts.length ≤ 1000000
 sts:∀ s ∈ x.sts,(s.en.length ≤ 1000000 ∧ ∀ a ∈ s.en,a.x.length ≤ 1000000) ∧ (s.ex.length ≤ 1000000 ∧ ∀ a ∈ s.ex,a.x.length ≤ 1000000) ∧ s.tr.length ≤ 1000000 ∧ ∀ t ∈ s.tr,t.g.length ≤ 1000000 ∧ t.acts.length ≤ 1000000 ∧ ∀ a ∈ t.acts,a.x.length ≤ 1000000
abbrev MixT (N:Nat) (wr:World) (pv:Value) (ps:List TP) (m:Nat):Prop:=MixR 62 4 tpV tpN N wr pv ps m
abbrev MixS (N:Nat) (wr:World) (pv:Value) (ps:List SP) (m:Nat):Prop:=MixR 58 6 spV spN N wr pv ps m
abbrev chO17 (nm:ByteArray) (e v s:Value):Obj:=.cells #[.string nm,e,v,s] 26
abbrev chZ17:Obj:=chO17 ⟨#[]⟩ (.slice none 0 0) (.slice none 0 0) (.slice none 0 0)
def CsRel (W4:World) (N:Nat) (l:List Sx) (ps0:List SP) (A:Option Addr) (n c:Nat) (i:Value) (wr:World):Prop :=
 ∃ (k:Nat) (ps:List SP),k ≤ n ∧ i = .int .i64 k ∧ Hid (ps.map (·.x) = l) ∧ Hid (ps.length = n) ∧ Hid (MixS N wr (.slice A n c) ps k) ∧ Hid (W4.grownBy wr (Value.slice A n c).ownBlock) ∧ Hid (∀ j,k ≤ j → ps[j]? = ps0[j]?)
def CtRel (W6:World) (N:Nat) (l:List Tr) (A:Option Addr) (n c:Nat) (i:Value) (wr:World):Prop :=
 ∃ (k:Nat) (ps:List TP),k ≤ n ∧ i = .int .i64 k ∧ Hid (ps.map (·.t) = l) ∧ Hid (ps.length = n) ∧ Hid (MixT N wr (.slice A n c) ps k) ∧ Hid (W6.grownBy wr (Value.slice A n c).ownBlock)
def RetCx (W:World) (x:Cx) (e:Ending) (w':World):Prop:=∃ eA ec vA vc sA sc,e = .returned (.agg #[.string x.s,.slice eA x.evs.length ec,.slice vA x.vars.length vc,.slice sA x.sts.length sc]) ∧ Dep w' (fun b => W.heap.size ≤ b) (fun X => ChIn X (.slice eA x.evs.length ec) (.slice vA x.vars.length vc) (.slice sA x.sts.length sc) x) ∧ Below W.heap.size W w'
theorem vrsV_one17 (l:List Vr):∀ u ∈ vrsV l,u.oneCell' = true:=by
 intro u hu
 obtain ⟨t,_,h⟩:=List.mem_flatMap.1 hu
 simp only [vrV,List.mem_cons,List.not_mem_nil,or_false] at h
 rcases h with rfl | rfl | rfl | rfl <;> rfl
theorem flat_one17 {α:Type} {f:α → List Value} (hf:∀ a,∀ u ∈ f a,u.oneCell' = true) (l:List α):∀ u ∈ l.flatMap f,u.oneCell' = true:=by
 intro u hu
 obtain ⟨t,_,h⟩:=List.mem_flatMap.1 hu
 exact hf t u h
theorem MixR.begin {α:Type} {T:TypeId} {k:Nat} {cv:α → List Value} {nest:α → World → Prop} {N:Nat} {wr:World} {pv:Value} {ps:List α} (hown:wr.ownsRow N T k pv ps.length (ps.flatMap cv)) (hn:∀ p ∈ ps,Dep wr (fun b => b < N) (nest p)):MixR T k cv nest N wr pv ps 0 :=
 ⟨hown,fun j p hj => (hn p (List.mem_of_getElem? hj)).mono fun b _ h => ⟨fun h0 => by omega,fun e => by have:=(own_block_bd hown b e).1; omega⟩⟩
theorem own_upd {α:Type} {T:TypeId} {k:Nat} {cv:α → List Value} {N i j g n cap:Nat} {wr:World} {ps:List α} {p p':α} {u:Value} (h:wr.ownsRow N T k (.slice (some ⟨g,0,none⟩) n cap) n (ps.flatMap cv)) (hlen:∀ a,(cv a).length = k) (hp:ps[i]? = some p) (hj:j < k) (hu:cv p' = (cv p).set j u) :
 (wr.setCell ⟨g,i * k + j,none⟩ u).ownsRow N T k (.slice (some ⟨g,0,none⟩) n cap) n ((ps.set i p').flatMap cv):=by
 have hi:=(List.getElem?_eq_some_iff.1 hp).1
 have hlt:i * k + j < (ps.flatMap cv).length:=by
  rw [flat_length hlen]
  have:(i + 1) * k ≤ ps.length * k:=Nat.mul_le_mul_right k hi
  rw [Nat.add_mul] at this
  omega
 rw [flat_set hlen hp hj hu]
 exact own_set h hlt u
theorem set_at {α:Type} {l:List α} {i:Nat} {a b:α} (h:l[i]? = some a):(l.set i b)[i]? = some b:=List.getElem?_set_self (List.getElem?_eq_some_iff.1 h).1
def CpA (w:World) (nm:ByteArray) (x:Cx) (ps:List SP) (wx:World):Prop:=∃ A1 c1 A2 c2 A3 c3 N,
 wx.heap[w.heap.size]? = some (chO17 nm (.slice A1 x.evs.length c1) (.slice A2 x.vars.length c2) (.slice A3 ps.length c3)) ∧ wx.heap[w.heap.size + 1]? = some chZ17 ∧
 Dep wx (fun b => w.heap.size + 1 < b ∧ b < N) (fun X => RdS X (.slice A1 x.evs.length c1) x.evs ∧ RdV X (.slice A2 x.vars.length c2) x.vars) ∧ MixS N wx (.slice A3 ps.length c3) ps 0 ∧ w.heap.size + 1 < N ∧ Below w.heap.size w wx
theorem cpA_done {w W1 y1 y2 y3:World} {nm:ByteArray} {x:Cx} {ps:List SP} {e v s:Value} {A1 A2 A3:Option Addr} {c1 c2 c3:Nat} (hb1:Below w.heap.size w W1) (hsz:w.heap.size + 1 < W1.heap.size) (hk:∀ W,Below W1.heap.size W1 W → W.heap[w.heap.size]? = some (chO17 nm e v s) ∧ W.heap[w.heap.size + 1]? = some chZ17)
 (b1:Below W1.drew.heap.size W1.drew y1) (b2:Below y1.heap.size y1 y2) (b3:Below y2.heap.size y2 y3)
 (o1:y1.ownsRow W1.drew.heap.size 9 1 (.slice A1 x.evs.length c1) x.evs.length (strV x.evs)) (o2:y2.ownsRow y1.heap.size 52 4 (.slice A2 x.vars.length c2) x.vars.length (vrsV x.vars)) (o3:y3.ownsRow y2.heap.size 58 6 (.slice A3 ps.length c3) ps.length (ps.flatMap spV))
 (hn:∀ p ∈ ps,Dep w (fun b => b < w.heap.size) (spN p)) :
 CpA w nm x ps (((y3.setCell ⟨w.heap.size,1,none⟩ (.slice A1 x.evs.length c1)).setCell ⟨w.heap.size,2,none⟩ (.slice A2 x.vars.length c2)).setCell ⟨w.heap.size,3,none⟩ (.slice A3 ps.length c3)):=by
 have hdr:Below W1.heap.size W1 W1.drew:=(Below.refl _ _).drew
 have g1:=below_two' hdr b1
 have g2:=below_two' g1 b2
 have g3:=below_two' g2 b3
 have hd:W1.drew.heap.size = W1.heap.size:=rfl
 have z1:=b1.size; have z2:=b2.size; have z3:=b3.size
 have G:y3.grownBy (((y3.setCell ⟨w.heap.size,1,none⟩ (.slice A1 x.evs.length c1)).setCell ⟨w.heap.size,2,none⟩ (.slice A2 x.vars.length c2)).setCell ⟨w.heap.size,3,none⟩ (.slice A3 ps.length c3)) (some w.heap.size):=but_set (but_set (but_set (but_refl _ _) _ _) _ _) _ _
 refine ⟨A1,c1,A2,c2,A3,c3,y2.heap.size,block_setCell' (block_setCell' (block_setCell' (hk _ g3).1 1 _) 2 _) 3 _,keep_but (hk _ g3).2 G (by omega),Dep.and ?_ ?_,?_,by omega,?_⟩
 ·refine Dep.go (((rdk_dep (S:=fun b => w.heap.size + 1 < b ∧ b < y2.heap.size) (Rdk.own o1) fun _ b eb => ?_).keep b2).keep b3 |>.imp fun _ h => rd_one h) G (fun b h1 h2 => by injection h2 with h2; omega)
  have:=own_block_bd o1 b eb
  omega
 ·refine Dep.go ((rdk_dep (S:=fun b => w.heap.size + 1 < b ∧ b < y2.heap.size) (Rdk.own o2) fun _ b eb => ?_).keep b3) G (fun b h1 h2 => by injection h2 with h2; omega)
  have:=own_block_bd o2 b eb
  omega
 ·refine MixR.begin (own_go o3 G fun j ej e' => by injection ej with ej; have:=(own_block_bd o3 j e').1; omega) fun p hp => ?_
  refine Dep.mono (Dep.go ((hn p hp).keep (below_two' hb1 g3)) G (fun b h1 h2 => by injection h2 with h2; omega)) fun b _ h1 => by omega
 ·exact ((((below_two' hb1 g3).setCell (Nat.le_refl _) _).setCell (Nat.le_refl _) _).setCell (Nat.le_refl _) _)
def CpB (wr:World) (N g n c k:Nat) (ps:List SP) (s:Sx) (ts:List TP) (wx:World):Prop:=∃ A3 c3 A4 c4 A5 c5 N3,
 wx.ownsRow N 58 6 (.slice (some ⟨g,0,none⟩) n c) n ((ps.set k ⟨s,A3,s.en.length,c3,A4,s.ex.length,c4,A5,ts.length,c5⟩).flatMap spV) ∧
 Dep wx (fun b => wr.heap.size ≤ b ∧ b < N3) (fun X => Acs X (.slice A3 s.en.length c3) s.en ∧ Acs X (.slice A4 s.ex.length c4) s.ex) ∧ MixT N3 wx (.slice A5 ts.length c5) ts 0 ∧ wr.heap.size ≤ N3 ∧ wr.grownBy wx (some g)
theorem cpB_done {wr y1 y2 y3:World} {N g n c k m:Nat} {ps:List SP} {s:Sx} {a3 a4 a5:Option Addr} {n3 c3 n4 c4 n5 c5:Nat} {ts:List TP} {A3 A4 A5:Option Addr} {c3' c4' c5':Nat} (hM:MixS N wr (.slice (some ⟨g,0,none⟩) n c) ps m) (hnl:ps.length = n) (hp:ps[k]? = some ⟨s,a3,n3,c3,a4,n4,c4,a5,n5,c5⟩)
 (b1:Below wr.drew.heap.size wr.drew y1) (b2:Below y1.heap.size y1 y2) (b3:Below y2.heap.size y2 y3)
 (o1:Dep y1 (fun b => wr.drew.heap.size ≤ b) (fun x => Acs x (.slice A3 s.en.length c3') s.en)) (o2:Dep y2 (fun b => y1.heap.size ≤ b) (fun x => Acs x (.slice A4 s.ex.length c4') s.ex)) (o3:y3.ownsRow y2.heap.size 62 4 (.slice A5 ts.length c5') ts.length (ts.flatMap tpV))
 (hn:∀ p ∈ ts,Dep wr (fun b => g ≠ b) (tpN p)) :
 CpB wr N g n c k ps s ts (((y3.setCell ⟨g,k * 6 + 3,none⟩ (.slice A3 s.en.length c3')).setCell ⟨g,k * 6 + 4,none⟩ (.slice A4 s.ex.length c4')).setCell ⟨g,k * 6 + 5,none⟩ (.slice A5 ts.length c5')):=by
 have hdr:Below wr.heap.size wr wr.drew:=(Below.refl _ _).drew
 have g1:=below_two' hdr b1
 have g2:=below_two' g1 b2
 have g3:=below_two' g2 b3
 have hd:wr.drew.heap.size = wr.heap.size:=rfl
 have z1:=b1.size; have z2:=b2.size; have z3:=b3.size
 obtain ⟨-,-,hg1,hg2⟩:=hM.cells hnl
 have G:y3.grownBy (((y3.setCell ⟨g,k * 6 + 3,none⟩ (.slice A3 s.en.length c3')).setCell ⟨g,k * 6 + 4,none⟩ (.slice A4 s.ex.length c4')).setCell ⟨g,k * 6 + 5,none⟩ (.slice A5 ts.length c5')) (some g):=but_set (but_set (but_set (but_refl _ _) _ _) _ _) _ _
 have r0:=(hM.keep g3).own
 rw [hnl] at r0
 have r1:=own_upd r0 spV_length hp (j:=3) (p':=⟨s,A3,s.en.length,c3',a4,n4,c4,a5,n5,c5⟩) (by decide) rfl
 have r2:=own_upd r1 spV_length (set_at hp) (j:=4) (p':=⟨s,A3,s.en.length,c3',A4,s.ex.length,c4',a5,n5,c5⟩) (by decide) rfl
 have r3:=own_upd r2 spV_length (set_at (set_at hp)) (j:=5) (p':=⟨s,A3,s.en.length,c3',A4,s.ex.length,c4',A5,ts.length,c5'⟩) (by decide) rfl
 rw [List.set_set,List.set_set] at r3
 refine ⟨A3,c3',A4,c4',A5,c5',y2.heap.size,r3,Dep.and ?_ ?_,?_,by omega,?_⟩
 ·exact Dep.go (((o1.mono (S':=fun b => wr.heap.size ≤ b ∧ b < y2.heap.size) fun b h1 h2 => ⟨by omega,by omega⟩).keep b2).keep b3) G (fun b h1 h2 => by injection h2 with h2; omega)
 ·exact Dep.go ((o2.mono (S':=fun b => wr.heap.size ≤ b ∧ b < y2.heap.size) fun b h1 h2 => ⟨by omega,by omega⟩).keep b3) G (fun b h1 h2 => by injection h2 with h2; omega)
 ·refine MixR.begin (own_go o3 G fun j ej e' => by injection ej with ej; have:=(own_block_bd o3 j e').1; omega) fun p hp => ?_
  refine Dep.go ((((hn p hp).mono (S':=fun b => b < wr.heap.size ∧ g ≠ b) fun b h1 h2 => ⟨h1,h2⟩).keep g3).mono (S':=fun b => b < y2.heap.size ∧ g ≠ b) fun b _ h => ⟨by omega,h.2⟩) G (fun b h1 h2 => h1.2 (by injection h2)) |>.mono fun b _ h => h.1
 ·exact gr_any (gr_none g3 (some g)) G (fun j e => .inl e)
theorem cs_step {wr wx w2:World} {N N3 g n c k:Nat} {ps:List SP} {s:Sx} {p:SP} {ts ts2:List TP} {A3 A4 A5:Option Addr} {c3 c4 c5:Nat} (hM:MixS N wr (.slice (some ⟨g,0,none⟩) n c) ps k) (hnl:ps.length = n) (hp:ps[k]? = some p) (hps:p.x = s)
 (r:wx.ownsRow N 58 6 (.slice (some ⟨g,0,none⟩) n c) n ((ps.set k ⟨s,A3,s.en.length,c3,A4,s.ex.length,c4,A5,ts.length,c5⟩).flatMap spV))
 (hd:Dep wx (fun b => wr.heap.size ≤ b ∧ b < N3) (fun X => Acs X (.slice A3 s.en.length c3) s.en ∧ Acs X (.slice A4 s.ex.length c4) s.ex)) (hz:wr.heap.size ≤ N3) (hg:wr.grownBy wx (some g))
 (hT:MixT N3 w2 (.slice A5 ts.length c5) ts2 ts.length) (htl:ts2.length = ts.length) (htm:ts2.map (·.t) = s.tr) (hG:wx.grownBy w2 (Value.slice A5 ts.length c5).ownBlock) :
 MixS N w2 (.slice (some ⟨g,0,none⟩) n c) (ps.set k ⟨s,A3,s.en.length,c3,A4,s.ex.length,c4,A5,ts.length,c5⟩) (k + 1) ∧ wr.grownBy w2 (some g) ∧ (ps.set k ⟨s,A3,s.en.length,c3,A4,s.ex.length,c4,A5,ts.length,c5⟩).map (·.x) = ps.map (·.x) ∧ (ps.set k ⟨s,A3,s.en.length,c3,A4,s.ex.length,c4,A5,ts.length,c5⟩).length = n:=by
 obtain ⟨-,-,hg1,hg2⟩:=hM.cells hnl
 have hbd:∀ j,(Value.slice A5 ts.length c5).ownBlock = some j → N3 ≤ j:=fun j e => (hT.bd j e).1
 have hgr:wr.grownBy w2 (some g):=gr_any hg hG (fun j e => .inr (by have:=hbd j e; omega))
 refine ⟨⟨?_,fun q p2 hq => ?_⟩,hgr,map_same hp hps.symm,by rw [List.length_set,hnl]⟩
 ·rw [List.length_set,hnl]
  have r':wx.ownsRow N 58 6 (.slice (some ⟨g,0,none⟩) n c) (ps.set k ⟨s,A3,s.en.length,c3,A4,s.ex.length,c4,A5,ts.length,c5⟩).length ((ps.set k ⟨s,A3,s.en.length,c3,A4,s.ex.length,c4,A5,ts.length,c5⟩).flatMap spV):=by rw [List.length_set,hnl]; exact r
  have:=own_go r' hG fun j e e' => by injection e' with e'; simp only at e'; have:=hbd j e; omega
  rwa [List.length_set,hnl] at this
 ·by_cases e:q = k
  ·subst e
   rw [set_at hp] at hq
   injection hq with hq
   subst hq
   have d1:=(hd.go hG fun b h1 h2 => by have:=hbd b h2; omega).mono (S':=fun b => (q < q + 1 → N ≤ b) ∧ (Value.slice (some ⟨g,0,none⟩) n c).ownBlock ≠ some b) fun b _ h1 => ⟨fun _ => by omega,fun e' => by injection e' with e'; simp only at e'; omega⟩
   have d2:=(hT.far (Nat.le_of_eq htl)).mono (S':=fun b => (q < q + 1 → N ≤ b) ∧ (Value.slice (some ⟨g,0,none⟩) n c).ownBlock ≠ some b) fun b _ h1 => ⟨fun _ => by omega,fun e' => by injection e' with e'; simp only at e'; omega⟩
   exact (d1.and d2).imp fun X h => ⟨h.1.1,h.1.2,ts2,htm,by rw [htl] at h ⊢; exact h.2.1,h.2.2⟩
  ·rw [List.getElem?_set_ne (fun e' => e e'.symm)] at hq
   refine ((hM.dep q p2 hq).go hgr fun b hS e => hS.2 e).mono fun b _ hS => ⟨fun h0 => hS.1 (by omega),hS.2⟩
theorem blk_go {w w':World} {ob:Option Nat} {b:Nat} {o:Obj} (h:w.heap[b]? = some o) (g:w.grownBy w' ob) (hne:ob ≠ some b):w'.heap[b]? = some o:=(g.block b (Array.getElem?_eq_some_iff.1 h).1 fun e => hne e.symm).trans h
theorem cell_go {w w':World} {ob:Option Nat} {b i:Nat} {u:Value} (h:w.cell? ⟨b,i,none⟩ = some u) (hlt:b < w.heap.size) (g:w.grownBy w' ob) (hne:ob ≠ some b):w'.cell? ⟨b,i,none⟩ = some u:=by
 rw [← h]
 simp [World.cell?,g.block b hlt fun e => hne e.symm]
theorem ct_step {wr y1 y2:World} {N g n c k:Nat} {qs:List TP} {t:Tr} {gA aA A1 A2:Option Addr} {gn gc an ac c1 c2:Nat} (hM:MixT N wr (.slice (some ⟨g,0,none⟩) n c) qs k) (hnl:qs.length = n) (hq:qs[k]? = some ⟨t,gA,gn,gc,aA,an,ac⟩) (hgl:gn = t.g.length)
 (b1:Below wr.drew.heap.size wr.drew y1) (b2:Below y1.heap.size y1 y2) (o1:y1.ownsRow wr.drew.heap.size 100 3 (.slice A1 gn c1) gn (tmsV t.g)) (o2:Dep y2 (fun b => y1.heap.size ≤ b) (fun x => Acs x (.slice A2 t.acts.length c2) t.acts)) :
 MixT N ((y2.setCell ⟨g,k * 4 + 1,none⟩ (.slice A1 gn c1)).setCell ⟨g,k * 4 + 2,none⟩ (.slice A2 t.acts.length c2)) (.slice (some ⟨g,0,none⟩) n c) (qs.set k ⟨t,A1,gn,c1,A2,t.acts.length,c2⟩) (k + 1) ∧
  wr.grownBy ((y2.setCell ⟨g,k * 4 + 1,none⟩ (.slice A1 gn c1)).setCell ⟨g,k * 4 + 2,none⟩ (.slice A2 t.acts.length c2)) (some g) ∧ (qs.set k ⟨t,A1,gn,c1,A2,t.acts.length,c2⟩).map (·.t) = qs.map (·.t) ∧ (qs.set k ⟨t,A1,gn,c1,A2,t.acts.length,c2⟩).length = n:=by
 have hdr:Below wr.heap.size wr wr.drew:=(Below.refl _ _).drew
 have g1:=below_two' hdr b1
 have g2:=below_two' g1 b2
 have hd:wr.drew.heap.size = wr.heap.size:=rfl
 have z1:=b1.size; have z2:=b2.size
 obtain ⟨-,-,hg1,hg2⟩:=hM.cells hnl
 have G:y2.grownBy ((y2.setCell ⟨g,k * 4 + 1,none⟩ (.slice A1 gn c1)).setCell ⟨g,k * 4 + 2,none⟩ (.slice A2 t.acts.length c2)) (some g):=but_set (but_set (but_refl _ _) _ _) _ _
 have r0:=(hM.keep g2).own
 rw [hnl] at r0
 have r1:=own_upd r0 tpV_length hq (j:=1) (p':=⟨t,A1,gn,c1,aA,an,ac⟩) (by decide) rfl
 have r2:=own_upd r1 tpV_length (set_at hq) (j:=2) (p':=⟨t,A1,gn,c1,A2,t.acts.length,c2⟩) (by decide) rfl
 rw [List.set_set] at r2
 have hgr:=gr_any (gr_none g2 (some g)) G (fun j e => .inl e)
 refine ⟨⟨by rw [List.length_set,hnl]; exact r2,fun q p2 hp2 => ?_⟩,hgr,map_same hq rfl,by rw [List.length_set,hnl]⟩
 by_cases e:q = k
 ·subst e
  rw [set_at hq] at hp2
  injection hp2 with hp2
  subst hp2
  have S2:∀ b,wr.heap.size ≤ b → (q < q + 1 → N ≤ b) ∧ (Value.slice (some ⟨g,0,none⟩) n c).ownBlock ≠ some b:=fun b hb => ⟨fun _ => by omega,fun e' => by injection e' with e'; simp only at e'; omega⟩
  have d1:=(((rdk_dep (S:=fun b => wr.heap.size ≤ b) (Rdk.own o1) fun _ b e => by have:=(own_block_bd o1 b e).1; omega).keep b2).go G fun b h1 h2 => by injection h2 with h2; omega).mono (S':=fun b => (q < q + 1 → N ≤ b) ∧ (Value.slice (some ⟨g,0,none⟩) n c).ownBlock ≠ some b) fun b _ h1 => S2 b h1
  have d2:=(o2.go G fun b h1 h2 => by injection h2 with h2; omega).mono (S':=fun b => (q < q + 1 → N ≤ b) ∧ (Value.slice (some ⟨g,0,none⟩) n c).ownBlock ≠ some b) fun b _ h1 => S2 b (by omega)
  exact (d1.and d2).imp fun X h => ⟨⟨gn,hgl,h.1⟩,h.2⟩
 ·rw [List.getElem?_set_ne (fun e' => e e'.symm)] at hp2
  refine ((hM.dep q p2 hp2).go hgr fun b hS e => hS.2 e).mono fun b _ hS => ⟨fun h0 => hS.1 (by omega),hS.2⟩
theorem cs_end {w wc wr wz:World} {N n c c1 c2:Nat} {x:Cx} {ps:List SP} {A A1 A2:Option Addr} (hd:Dep wc (fun b => w.heap.size + 1 < b ∧ b < N) (fun X => RdS X (.slice A1 x.evs.length c1) x.evs ∧ RdV X (.slice A2 x.vars.length c2) x.vars)) (hN:w.heap.size + 1 < N) (hb:Below w.heap.size w wc)
 (hM:MixS N wr (.slice A n c) ps n) (hpl:ps.length = n) (hpm:ps.map (·.x) = x.sts) (hG:wc.grownBy wr (Value.slice A n c).ownBlock) (hz:wr.grownBy wz (some (w.heap.size + 1))) :
 n = x.sts.length ∧ Dep wz (fun b => w.heap.size ≤ b) (fun X => ChIn X (.slice A1 x.evs.length c1) (.slice A2 x.vars.length c2) (.slice A n c) x) ∧ Below w.heap.size w wz:=by
 have hbd:∀ j,(Value.slice A n c).ownBlock = some j → N ≤ j:=fun j e => (hM.bd j e).1
 have d1:=(hd.go hG fun b h1 h2 => by have:=hbd b h2; omega).go hz fun b h1 h2 => by injection h2 with h2; omega
 have d2:=(hM.far (Nat.le_of_eq hpl)).go hz fun b h1 h2 => by injection h2 with h2; omega
 refine ⟨by rw [← hpl,← hpm,List.length_map],((d1.mono (S':=fun b => w.heap.size ≤ b) fun b _ h => by omega).and (d2.mono (S':=fun b => w.heap.size ≤ b) fun b _ h => by omega)).imp fun X g => ⟨g.1.1,g.1.2,ps,hpm,g.2.1,g.2.2⟩,?_⟩
 exact (hb.grown hG hb.size (fun j e => by have:=hbd j e; omega)).grown hz (Nat.le_trans hb.size hG.size) (fun j e => by injection e with e; omega)
end Go.Proofs.YtckojimeglkobaaGreatDoor
namespace Go.Proofs.YtckojimeglkobaaGreatDoor
open Go.RowKit
set_option maxRecDepth 100000
theorem on_disable (w:World):(callFunc 158 #[]).run Tryz.prog w = .ok (.value (.tuple #[])) w:=run_call_mark0 Tryz.func158 (by kernel_rfl) (by kernel_rfl) (by kernel_rfl) .disable (by kernel_rfl) w
theorem on_enable (w:World):(callFunc 160 #[]).run Tryz.prog w = .ok (.value (.tuple #[])) w:=run_call_mark0 Tryz.func160 (by kernel_rfl) (by kernel_rfl) (by kernel_rfl) .enable (by kernel_rfl) w
theorem on_acquire (a:Addr) (w:World):(callFunc 161 #[.pointer (some a)]).run Tryz.prog w = .ok (.value (.tuple #[])) w:=run_call_marked Tryz.func161 (by kernel_rfl) (by kernel_rfl) (by kernel_rfl) .acquire (by kernel_rfl) a w
theorem on_release (a:Addr) (w:World):(callFunc 163 #[.pointer (some a)]).run Tryz.prog w = .ok (.value (.tuple #[])) w:=run_call_marked Tryz.func163 (by kernel_rfl) (by kernel_rfl) (by kernel_rfl) .releaseMerge (by kernel_rfl) a w
theorem par_one (a:TypeId):(#[a]:Array TypeId).getD 0 0 = a:=rfl
theorem store_deferred (a:Addr) (x:Value) (u:FrameMode) (w:World) (hc:w.cell? a = some x) (hz:w.frozen? a = false) :
 CallsD Tryz.prog 136 #[.pointer (some a),.bool true] u w fun e u' w' => u' = u ∧ (e = .returned (.tuple #[]) ∧ w' = w.drew.setCell a (.int .u32 1)):=by
 have hc':w.drew.cell? a = some x:=by go_simp
 have hz':w.drew.frozen? a = false:=by go_simp
 have hst:=run_call_store (P:=Tryz.prog) Tryz.func148 (by kernel_rfl) (by kernel_rfl) (by kernel_rfl) (by kernel_rfl) (k:=.u32) (y:=1) hc' hz'
 go_enter_d Tryz.func136,Tryz.ntmps136
 go_wp2
 go_region_calls
 all_goals (go_end0; exact ⟨rfl,rfl⟩)
theorem unlock_deferred (a:Addr) (u:FrameMode) (w:World) (hc:w.cell? a = some (.int .i32 1)) (hz:w.frozen? a = false) :
 CallsD Tryz.prog 135 #[.pointer (some a)] u w fun e u' w' => u' = u ∧ (e = .returned (.tuple #[]) ∧ w' = w.setCell a (.int .i32 0)):=by
 have hd:=on_disable
 have he:=on_enable
 have hr:=on_release
 have hadd:=run_call_add (P:=Tryz.prog) Tryz.func164 (by kernel_rfl) (by kernel_rfl) (by kernel_rfl) .i32 (by kernel_rfl) (y:=-1) (s:=0) hc hz (by simp [go_sem]; rfl)
 have hcv:=run_convert_to_unsafe (P:=Tryz.prog) (src:=Tryz.f146.params.getD 0 0) (dst:=199) (t:=72) (by kernel_rfl) (by kernel_rfl) (by kernel_rfl) hc
 simp only [Tryz.params146,par_one] at hcv
 go_enter_d Tryz.func135,Tryz.ntmps135
 go_wp2
 go_end0
 go_wp2
 go_end0
 exact ⟨rfl,rfl⟩
theorem lock_free (a:Addr) (w:World) (hc:w.cell? a = some (.int .i32 0)) (hz:w.frozen? a = false) :
 Calls Tryz.prog 134 #[.pointer (some a)] w fun e w' => e = .returned (.tuple #[]) ∧ w' = w.setCell a (.int .i32 1):=by
 have hd:=on_disable
 have he:=on_enable
 have ha:=on_acquire
 have hcas:=run_call_cas_hit (P:=Tryz.prog) Tryz.func159 (by kernel_rfl) (by kernel_rfl) (by kernel_rfl) .i32 (by kernel_rfl) (y:=1) hc hz
 have hc':(w.setCell a (.int .i32 1)).cell? a = some (.int .i32 1):=World.cell?_setCell_same w a _ hc
 have hcv:=run_convert_to_unsafe (P:=Tryz.prog) (src:=Tryz.f146.params.getD 0 0) (dst:=199) (t:=72) (by kernel_rfl) (by kernel_rfl) (by kernel_rfl) hc'
 simp only [Tryz.params146,par_one] at hcv
 go_enter Tryz.func134,Tryz.ntmps134
 go_wp2
 first | go_end0 | (simp only [Exit.inBlock,Exit.then]; refine bodyPost_ret (results_none rfl _ _ _) rfl ?_) | refine bodyPost_ret (results_none rfl _ _ _) rfl ?_
 go_wp2
 go_end0
 exact ⟨rfl,rfl⟩
end Go.Proofs.YtckojimeglkobaaGreatDoor
namespace Go.Proofs.YtckojimeglkobaaGreatDoor
open Go.RowKit
set_option maxRecDepth 100000
abbrev atO (nm:ByteArray) (e v s:Value) (d m:Int) (pl rw ev:Value):Obj:=.cells #[.bool true,.string nm,e,v,s,.int .u32 d,.int .i32 m,.int .u32 0,pl,rw,ev] 79
theorem at_cells {w:World} {B:Nat} {nm:ByteArray} {e v s pl rw ev:Value} {d m:Int} (h:w.heap[B]? = some (atO nm e v s d m pl rw ev)) :
 w.cell? ⟨B,0,none⟩ = some (.bool true) ∧ w.cell? ⟨B,1,none⟩ = some (.string nm) ∧ w.cell? ⟨B,2,none⟩ = some e ∧ w.cell? ⟨B,3,none⟩ = some v ∧ w.cell? ⟨B,4,none⟩ = some s ∧
  w.cell? ⟨B,5,none⟩ = some (.int .u32 d) ∧ w.cell? ⟨B,6,none⟩ = some (.int .i32 m) ∧ w.cell? ⟨B,8,none⟩ = some pl ∧ w.cell? ⟨B,9,none⟩ = some rw ∧ w.cell? ⟨B,10,none⟩ = some ev :=
 ⟨cell_of_block' h rfl,cell_of_block' h rfl,cell_of_block' h rfl,cell_of_block' h rfl,cell_of_block' h rfl,cell_of_block' h rfl,cell_of_block' h rfl,cell_of_block' h rfl,cell_of_block' h rfl,cell_of_block' h rfl⟩
theorem load_done (a:Addr) (d:Int) (w:World) (h0:w.cell? a = some (.int .u32 d)) :
 Calls Tryz.prog 114 #[.pointer (some a)] w fun r w' => r = .returned (.bool (d != 0)) ∧ w' = w:=by
 have hl:=run_call_load (P:=Tryz.prog) Tryz.func133 (by kernel_rfl) (by kernel_rfl) (by kernel_rfl) .u32 (by kernel_rfl) h0
 go_enter Tryz.func114,Tryz.ntmps114
 go_wp2
 go_ret
 exact ⟨rfl,rfl⟩
set_option maxRecDepth 100000 in
set_option maxHeartbeats 4000000 in
theorem slow_at (B:Nat) (nm:ByteArray) (e v s pl rw ev:Value) (Q:World → Value → Value → Value → World → Prop) (w:World) (h:w.heap[B]? = some (atO nm e v s 0 0 pl rw ev))
 (HM:Calls Tryz.prog 101 #[.pointer (some ⟨B,0,none⟩)] (w.setCell ⟨B,6,none⟩ (.int .i32 1)) fun r w' => r = .returned (.tuple #[]) ∧ ∃ pl' rw' ev',w'.heap[B]? = some (atO nm e v s 0 1 pl' rw' ev') ∧ Q (w.setCell ⟨B,6,none⟩ (.int .i32 1)) pl' rw' ev' w') :
 Calls Tryz.prog 115 #[.pointer (some ⟨B,5,none⟩),.func (.func 101) #[.pointer (some ⟨B,0,none⟩)] #[]] w fun r w' => r = .returned (.tuple #[]) ∧ ∃ pl' rw' ev' w2,w2.heap[B]? = some (atO nm e v s 0 1 pl' rw' ev') ∧ Q (w.setCell ⟨B,6,none⟩ (.int .i32 1)) pl' rw' ev' w2 ∧
  w' = (w2.drew.setCell ⟨B,5,none⟩ (.int .u32 1)).setCell ⟨B,6,none⟩ (.int .i32 0):=by
 obtain ⟨-,-,-,-,-,c5,c6,-⟩:=at_cells h
 have f5:w.frozen? ⟨B,5,none⟩ = false:=free_of_block' h 5
 have f6:w.frozen? ⟨B,6,none⟩ = false:=free_of_block' h 6
 have c5':(w.setCell ⟨B,6,none⟩ (.int .i32 1)).cell? ⟨B,5,none⟩ = some (.int .u32 0):=(World.cell?_setCell_other _ ⟨B,6,none⟩ ⟨B,5,none⟩ _ (by simp)).trans c5
 have HLD:=Lib.hid (load_done _ _ _ c5')
 have hnot:∀ (x:Bool) (w:World),(Op.unary .not (.bool x)).run Tryz.prog w = .ok (.bool (!x)) w:=fun _ _ => rfl
 have HM':=Lib.hid HM
 clear HM h c5'
 go_enter_defers Tryz.func115,Tryz.ntmps115
 go_wp2_with (go_at_call 134; refine (lock_free ⟨B,6,none⟩ _ (by go_simp) (by go_simp)).mono ?_; rintro e w' ⟨rfl,rfl⟩)
 go_wp2_with (go_at_call 114; refine HLD.out.mono ?_; rintro r w1 ⟨rfl,rfl⟩)
 go_wp2_with (go_at_call 101; refine HM'.out.mono ?_; rintro r w2 ⟨rfl,pl',rw',ev',h2,hq⟩)
 have hd5:w2.drew.heap[B]? = some (atO nm e v s 0 1 pl' rw' ev'):=h2
 have h3:(w2.drew.setCell ⟨B,5,none⟩ (.int .u32 1)).heap[B]? = some (atO nm e v s 1 1 pl' rw' ev'):=block_setCell' hd5 5 _
 obtain ⟨-,-,-,-,-,d5,d6,-⟩:=at_cells h2
 obtain ⟨-,-,-,-,-,-,e6,-⟩:=at_cells h3
 refine leaves_cons (f:=136) (args:=#[.pointer (some ⟨B,5,none⟩),.bool true]) (by simp) (by simp [go_sem]) ?_
 refine (store_deferred ⟨B,5,none⟩ (.int .u32 0) .returning _ d5 (free_of_block' h2 5)).mono ?_
 rintro e u' w'' ⟨rfl,rfl,rfl⟩
 refine leaves_cons (f:=135) (args:=#[.pointer (some ⟨B,6,none⟩)]) (by simp [settle]) (by simp [go_sem]) ?_
 refine (unlock_deferred ⟨B,6,none⟩ _ _ e6 (free_of_block' h3 6)).mono ?_
 rintro e u' w'' ⟨rfl,rfl,rfl⟩
 simp [Leaves,settle,results,Tryz.results115]
 exact ⟨pl',rw',ev',w2,h2,hq,rfl⟩
set_option maxRecDepth 100000 in
set_option maxHeartbeats 4000000 in
theorem do_first (B:Nat) (nm:ByteArray) (e v s pl rw ev:Value) (Q:World → Value → Value → Value → World → Prop) (w:World) (h:w.heap[B]? = some (atO nm e v s 0 0 pl rw ev))
 (HM:Calls Tryz.prog 101 #[.pointer (some ⟨B,0,none⟩)] (w.setCell ⟨B,6,none⟩ (.int .i32 1)) fun r w' => r = .returned (.tuple #[]) ∧ ∃ pl' rw' ev',w'.heap[B]? = some (atO nm e v s 0 1 pl' rw' ev') ∧ Q (w.setCell ⟨B,6,none⟩ (.int .i32 1)) pl' rw' ev' w') :
 Calls Tryz.prog 100 #[.pointer (some ⟨B,5,none⟩),.func (.func 101) #[.pointer (some ⟨B,0,none⟩)] #[]] w fun r w' => r = .returned (.tuple #[]) ∧ ∃ pl' rw' ev' w2,w2.heap[B]? = some (atO nm e v s 0 1 pl' rw' ev') ∧ Q (w.setCell ⟨B,6,none⟩ (.int .i32 1)) pl' rw' ev' w2 ∧
  w' = (w2.drew.setCell ⟨B,5,none⟩ (.int .u32 1)).setCell ⟨B,6,none⟩ (.int .i32 0):=by
 have HS:=Lib.hid (slow_at B nm e v s pl rw ev Q w h HM)
 have HLD:=Lib.hid (load_done _ _ w (at_cells h).2.2.2.2.2.1)
 have hnot:∀ (x:Bool) (w:World),(Op.unary .not (.bool x)).run Tryz.prog w = .ok (.bool (!x)) w:=fun _ _ => rfl
 clear HM h
 go_enter Tryz.func100,Tryz.ntmps100
 go_wp2_with (go_at_call 114; refine HLD.out.mono ?_; rintro r w1 ⟨rfl,rfl⟩)
 go_wp2_with (go_at_call 115; refine HS.out.mono ?_; rintro r w2 ⟨rfl,hq⟩)
 go_end0
 exact ⟨rfl,hq⟩
theorem do_done (a:Addr) (fv:Value) (w:World) (h0:w.cell? a = some (.int .u32 1)) :
 Calls Tryz.prog 100 #[.pointer (some a),fv] w fun r w' => r = .returned (.tuple #[]) ∧ w' = w:=by
 have HLD:=Lib.hid (load_done _ _ w h0)
 have hnot:∀ (x:Bool) (w:World),(Op.unary .not (.bool x)).run Tryz.prog w = .ok (.bool (!x)) w:=fun _ _ => rfl
 go_enter Tryz.func100,Tryz.ntmps100
 go_wp2_with (go_at_call 114; refine HLD.out.mono ?_; rintro r w1 ⟨rfl,rfl⟩)
 go_end0
 exact ⟨rfl,rfl⟩
end Go.Proofs.YtckojimeglkobaaGreatDoor