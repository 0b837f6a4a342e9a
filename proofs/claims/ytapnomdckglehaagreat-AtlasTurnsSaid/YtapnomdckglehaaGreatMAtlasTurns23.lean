/- PrintOpen, joined. -/
import Derived.Test.YtapnomdckglehaaGreatMAtlasTurns22
import Derived.Test.YtapnomdckglehaaGreatMAtlasTurns11
namespace Go.Proofs.YtapnomdckglehaaGreat
open Go.RowKit Go.ChangeShapes Go.WideShapes Go.Deep TermSpec EvalSpec ActSpec TransSpec SynSpec PrintSpec
set_option maxRecDepth 100000
theorem cells_chart:Tryz.prog.cellsOf 26 = 4:=by kernel_rfl
theorem cells_lvars:Tryz.prog.cellsOf 23 = 1:=by kernel_rfl
theorem cells_lsts:Tryz.prog.cellsOf 24 = 1:=by kernel_rfl
theorem cells_levs:Tryz.prog.cellsOf 22 = 1:=by kernel_rfl
section
variable {H:Type} {enc:TypeId × Value → H} {W:World} {base:Nat} {spare:Nat → Bool} {held:Bool}
theorem dec_text (n:Nat) (cs:List Value) (x:DataW H × List MemPlace) (h:DataW.trod enc Tryz.prog W base spare held n 9 cs = some x):∃ s:ByteArray,cs = sC s ∧ s.size ≤ 9223372036854775807:=by
 obtain ⟨s,hc,_,hw⟩:=DataW.trod_string Tryz.underlying9 h
 exact ⟨s,hc,hw⟩
theorem dec_variable (n:Nat) (cs:List Value) (x:DataW H × List MemPlace) (h:DataW.trod enc Tryz.prog W base spare held n 68 cs = some x):∃ v:Vr,cs = vrV v ∧ (v.s.size ≤ 9223372036854775807 ∧ VFit v):=by
 obtain ⟨xs,m,_,_,hl,hxl,hg⟩:=DataW.trod_struct Tryz.underlying68 h
 rw [cells_var] at hl
 have hxl':xs.length = 4:=hxl
 match cs,hl with
 | [c0,c1,c2,c3],_ =>
   have g0:DataW.trod enc Tryz.prog W base spare held m 9 (([c0,c1,c2,c3].drop 0).take (Tryz.prog.cellsOf 9)) = xs[0]?:=hg 0 _ rfl
   have g1:DataW.trod enc Tryz.prog W base spare held m 3 (([c0,c1,c2,c3].drop 1).take (Tryz.prog.cellsOf 3)) = xs[1]?:=hg 1 _ rfl
   have g2:DataW.trod enc Tryz.prog W base spare held m 3 (([c0,c1,c2,c3].drop 2).take (Tryz.prog.cellsOf 3)) = xs[2]?:=hg 2 _ rfl
   have g3:DataW.trod enc Tryz.prog W base spare held m 3 (([c0,c1,c2,c3].drop 3).take (Tryz.prog.cellsOf 3)) = xs[3]?:=hg 3 _ rfl
   rw [OpenD.cells_int] at g1 g2 g3
   rw [OpenD.cells_str] at g0
   obtain ⟨s,rfl,hs⟩:=OpenD.dec_str g0 (OpenD.some_at (by omega))
   obtain ⟨a,rfl,a1,a2⟩:=dec_int_fit g1 (OpenD.some_at (by omega))
   obtain ⟨b,rfl,b1,b2⟩:=dec_int_fit g2 (OpenD.some_at (by omega))
   obtain ⟨c,rfl⟩:=OpenD.dec_int g3 (OpenD.some_at (by omega))
   exact ⟨⟨s,a,b,c⟩,rfl,hs,a1,a2,b1,b2⟩
theorem dec_acts {m:Nat} {c:Value} {x:Option (DataW H × List MemPlace)} (h:DataW.trod enc Tryz.prog W base spare held m 69 [c] = x) (hx:x.isSome) :
 ∃ (A:Option Addr) (n cp:Nat) (l:List Ac),c = .slice A n cp ∧ Acs W (.slice A n cp) l ∧ ∀ a ∈ l,a.s.size ≤ 9223372036854775807 ∧ Small a.x:=by
 obtain ⟨y,rfl⟩:=Option.isSome_iff_exists.1 hx
 obtain ⟨A,n,cp,ps,rfl,hn,hR,hG,-⟩:=open_rows_c (v:=c) (f:=acV) (Good:=GoodAP W) acV_length (by decide) cells_act Tryz.underlying69 dec_act h
 refine ⟨A,n,cp,ps.map (·.a),rfl,⟨ps,rfl,by rw [List.length_map,← hn]; exact hR,fun p hp => (hG p hp).2.2.2⟩,fun a ha => ?_⟩
 obtain ⟨p,hp,rfl⟩:=List.mem_map.1 ha
 exact ⟨(hG p hp).1,(hG p hp).2.1⟩
def GoodTP (W:World) (p:TP):Prop:=tpN p W ∧ p.t.ev.size ≤ 9223372036854775807 ∧ p.t.tg.size ≤ 9223372036854775807 ∧ Small p.t.g ∧ ∀ a ∈ p.t.acts,a.s.size ≤ 9223372036854775807 ∧ Small a.x
theorem dec_trans (n:Nat) (cs:List Value) (x:DataW H × List MemPlace) (h:DataW.trod enc Tryz.prog W base spare held n 76 cs = some x):∃ p:TP,cs = tpV p ∧ GoodTP W p:=by
 obtain ⟨xs,m,_,_,hl,hxl,hg⟩:=DataW.trod_struct Tryz.underlying76 h
 rw [cells_trans] at hl
 have hxl':xs.length = 4:=hxl
 match cs,hl with
 | [c0,c1,c2,c3],_ =>
   have g0:DataW.trod enc Tryz.prog W base spare held m 9 (([c0,c1,c2,c3].drop 0).take (Tryz.prog.cellsOf 9)) = xs[0]?:=hg 0 _ rfl
   have g1:DataW.trod enc Tryz.prog W base spare held m 74 (([c0,c1,c2,c3].drop 1).take (Tryz.prog.cellsOf 74)) = xs[1]?:=hg 1 _ rfl
   have g2:DataW.trod enc Tryz.prog W base spare held m 69 (([c0,c1,c2,c3].drop 2).take (Tryz.prog.cellsOf 69)) = xs[2]?:=hg 2 _ rfl
   have g3:DataW.trod enc Tryz.prog W base spare held m 9 (([c0,c1,c2,c3].drop 3).take (Tryz.prog.cellsOf 9)) = xs[3]?:=hg 3 _ rfl
   rw [OpenD.cells_str] at g0 g3
   rw [cells_trms] at g1
   rw [cells_acts] at g2
   obtain ⟨ev,rfl,hev⟩:=OpenD.dec_str g0 (OpenD.some_at (by omega))
   obtain ⟨tg,rfl,htg⟩:=OpenD.dec_str g3 (OpenD.some_at (by omega))
   obtain ⟨y1,e1⟩:=Option.isSome_iff_exists.1 (OpenD.some_at (l:=xs) (i:=1) (by omega))
   rw [e1] at g1
   obtain ⟨gA,gn,gc,g,rfl,hgn,hgR,hgG,hgb⟩:=open_rows_c (v:=c1) (f:=tmV) (Good:=fun t => t.s.size ≤ 9223372036854775807) tmV_length (by decide) cells_term Tryz.underlying74 dec_term g1
   obtain ⟨aA,an,ac,l,rfl,haR,haG⟩:=dec_acts g2 (OpenD.some_at (by omega))
   exact ⟨⟨⟨ev,g,l,tg⟩,gA,gn,gc,aA,an,ac⟩,rfl,⟨⟨gn,hgn,hgR⟩,haR⟩,hev,htg,hgG,haG⟩
def GoodSP (W:World) (p:SP):Prop:=spN p W ∧ p.x.s.size ≤ 9223372036854775807 ∧ (∀ a ∈ p.x.en,a.s.size ≤ 9223372036854775807 ∧ Small a.x) ∧ (∀ a ∈ p.x.ex,a.s.size ≤ 9223372036854775807 ∧ Small a.x) ∧
    ∀ t ∈ p.x.tr,t.ev.size ≤ 9223372036854775807 ∧ t.tg.size ≤ 9223372036854775807 ∧ Small t.g ∧ ∀ a ∈ t.acts,a.s.size ≤ 9223372036854775807 ∧ Small a.x
theorem dec_sp (n:Nat) (cs:List Value) (x:DataW H × List MemPlace) (h:DataW.trod enc Tryz.prog W base spare held n 72 cs = some x):∃ p:SP,cs = spV p ∧ GoodSP W p:=by
 obtain ⟨xs,m,_,_,hl,hxl,hg⟩:=DataW.trod_struct Tryz.underlying72 h
 rw [cells_state] at hl
 have hxl':xs.length = 6:=hxl
 match cs,hl with
 | [c0,c1,c2,c3,c4,c5],_ =>
   have g0:DataW.trod enc Tryz.prog W base spare held m 9 (([c0,c1,c2,c3,c4,c5].drop 0).take (Tryz.prog.cellsOf 9)) = xs[0]?:=hg 0 _ rfl
   have g1:DataW.trod enc Tryz.prog W base spare held m 3 (([c0,c1,c2,c3,c4,c5].drop 1).take (Tryz.prog.cellsOf 3)) = xs[1]?:=hg 1 _ rfl
   have g2:DataW.trod enc Tryz.prog W base spare held m 3 (([c0,c1,c2,c3,c4,c5].drop 2).take (Tryz.prog.cellsOf 3)) = xs[2]?:=hg 2 _ rfl
   have g3:DataW.trod enc Tryz.prog W base spare held m 69 (([c0,c1,c2,c3,c4,c5].drop 3).take (Tryz.prog.cellsOf 69)) = xs[3]?:=hg 3 _ rfl
   have g4:DataW.trod enc Tryz.prog W base spare held m 69 (([c0,c1,c2,c3,c4,c5].drop 4).take (Tryz.prog.cellsOf 69)) = xs[4]?:=hg 4 _ rfl
   have g5:DataW.trod enc Tryz.prog W base spare held m 70 (([c0,c1,c2,c3,c4,c5].drop 5).take (Tryz.prog.cellsOf 70)) = xs[5]?:=hg 5 _ rfl
   rw [OpenD.cells_str] at g0
   rw [OpenD.cells_int] at g1 g2
   rw [cells_sacts] at g3 g4
   rw [shcells_strs] at g5
   obtain ⟨s,rfl,hs⟩:=OpenD.dec_str g0 (OpenD.some_at (by omega))
   obtain ⟨a,rfl⟩:=OpenD.dec_int g1 (OpenD.some_at (by omega))
   obtain ⟨b,rfl⟩:=OpenD.dec_int g2 (OpenD.some_at (by omega))
   obtain ⟨a3,n3,k3,l3,rfl,r3,q3⟩:=dec_acts g3 (OpenD.some_at (by omega))
   obtain ⟨a4,n4,k4,l4,rfl,r4,q4⟩:=dec_acts g4 (OpenD.some_at (by omega))
   obtain ⟨y5,e5⟩:=Option.isSome_iff_exists.1 (OpenD.some_at (l:=xs) (i:=5) (by omega))
   rw [e5] at g5
   obtain ⟨a5,n5,k5,ps,rfl,hn5,hR5,hG5,-⟩:=open_rows_c (v:=c5) (f:=tpV) (Good:=GoodTP W) tpV_length (by decide) cells_trans Tryz.underlying70 dec_trans g5
   refine ⟨⟨⟨s,a,b,l3,l4,ps.map (·.t)⟩,a3,n3,k3,a4,n4,k4,a5,n5,k5⟩,rfl,⟨r3,r4,ps,rfl,by rw [← hn5]; exact hR5,fun p hp => (hG5 p hp).1⟩,hs,q3,q4,fun t ht => ?_⟩
   obtain ⟨p,hp,rfl⟩:=List.mem_map.1 ht
   exact (hG5 p hp).2
variable {b0:Nat} {r:Reach} {v:Value} {d:DataW H} {p:List MemPlace}
theorem open_chart (hv:Value.okWide Tryz.prog W r b0 26 v) (h:DataW.Trod enc Tryz.prog W base spare held 26 v d p) :
 ∃ (x:Cx) (eA:Option Addr) (en ec:Nat) (vA:Option Addr) (vn vc:Nat) (sA:Option Addr) (sn sc:Nat),v = .agg #[.string x.s,.slice eA en ec,.slice vA vn vc,.slice sA sn sc] ∧ ChIn W (.slice eA en ec) (.slice vA vn vc) (.slice sA sn sc) x ∧ (FitC x ∧ ∀ v ∈ x.vars,VFit v):=by
 obtain ⟨cs,rfl,_⟩:=okWide_struct Tryz.underlying26 hv
 obtain ⟨fuel,hx⟩:=h
 obtain ⟨xs,m,_,_,hl,hxl,hg⟩:=DataW.trod_struct Tryz.underlying26 hx
 rw [cells_chart] at hl
 have hxl':xs.length = 4:=hxl
 obtain ⟨l⟩:=cs
 match l,hl with
 | [c0,c1,c2,c3],_ =>
   have g0:DataW.trod enc Tryz.prog W base spare held m 9 (([c0,c1,c2,c3].drop 0).take (Tryz.prog.cellsOf 9)) = xs[0]?:=hg 0 _ rfl
   have g1:DataW.trod enc Tryz.prog W base spare held m 22 (([c0,c1,c2,c3].drop 1).take (Tryz.prog.cellsOf 22)) = xs[1]?:=hg 1 _ rfl
   have g2:DataW.trod enc Tryz.prog W base spare held m 23 (([c0,c1,c2,c3].drop 2).take (Tryz.prog.cellsOf 23)) = xs[2]?:=hg 2 _ rfl
   have g3:DataW.trod enc Tryz.prog W base spare held m 24 (([c0,c1,c2,c3].drop 3).take (Tryz.prog.cellsOf 24)) = xs[3]?:=hg 3 _ rfl
   rw [OpenD.cells_str] at g0
   rw [cells_levs] at g1
   rw [cells_lvars] at g2
   rw [cells_lsts] at g3
   obtain ⟨s,rfl,hs⟩:=OpenD.dec_str g0 (OpenD.some_at (by omega))
   obtain ⟨y1,e1⟩:=Option.isSome_iff_exists.1 (OpenD.some_at (l:=xs) (i:=1) (by omega))
   obtain ⟨y2,e2⟩:=Option.isSome_iff_exists.1 (OpenD.some_at (l:=xs) (i:=2) (by omega))
   obtain ⟨y3,e3⟩:=Option.isSome_iff_exists.1 (OpenD.some_at (l:=xs) (i:=3) (by omega))
   rw [e1] at g1
   rw [e2] at g2
   rw [e3] at g3
   obtain ⟨eA,en,ec,es,rfl,hen,heR,heG,heb⟩:=open_rows_c (v:=c1) (f:=sC) (Good:=fun s => s.size ≤ 9223372036854775807) (fun _ => rfl) (by decide) OpenD.cells_str Tryz.underlying22 dec_text g1
   obtain ⟨vA,vn,vc,vs,rfl,hvn,hvR,hvG,hvb⟩:=open_rows_c (v:=c2) (f:=vrV) (Good:=fun v => v.s.size ≤ 9223372036854775807 ∧ VFit v) vrV_length (by decide) cells_var Tryz.underlying23 dec_variable g2
   obtain ⟨sA,sn,sc,ps,rfl,hsn,hsR,hsG,hsb⟩:=open_rows_c (v:=c3) (f:=spV) (Good:=GoodSP W) spV_length (by decide) cells_state Tryz.underlying24 dec_sp g3
   refine ⟨⟨s,es,vs,ps.map (·.x)⟩,eA,en,ec,vA,vn,vc,sA,sn,sc,rfl,⟨?_,?_,ps,rfl,by rw [← hsn]; exact hsR,fun p hp => (hsG p hp).1⟩,⟨hs,heG,by simp only; omega,fun v hv => (hvG v hv).1,fun t ht => ?_⟩,fun v hv => (hvG v hv).2⟩
   ·rw [sC_flat] at heR
    exact rd_one heR
   ·show Rdk 4 W _ vs.length (vrsV vs)
    rw [← hvn]
    exact hvR
   ·obtain ⟨p,hp,rfl⟩:=List.mem_map.1 ht
    exact (hsG p hp).2
end
end Go.Proofs.YtapnomdckglehaaGreat