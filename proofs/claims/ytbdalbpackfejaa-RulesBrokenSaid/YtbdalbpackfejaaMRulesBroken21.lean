/- RulesAwake, OpenN, OpenD, TermOpen, EvalOpen, ActOpen, TransOpen, ShapeOpen, PrintOpen, joined. -/
import Derived.Test.YtbdalbpackfejaaMRulesBroken20
import Derived.Laws.StructEq
import Derived.Deep.RegionHeld3
import Derived.Test.YtbdalbpackfejaaMRulesBroken01
import Derived.ProofKit
import Derived.OpenShut
import Derived.Deep.Slices
import Derived.Test.YtbdalbpackfejaaRows
import Derived.Lib.SmallJoins
import Derived.Test.YtbdalbpackfejaaMRulesBroken05
import Derived.Test.YtbdalbpackfejaaMRulesBroken06
import Derived.Test.YtbdalbpackfejaaMRulesBroken07
import Derived.Test.YtbdalbpackfejaaMRulesBroken08
namespace Go.Proofs.Ytbdalbpackfejaa
open Go.RowKit Go.Sort TermSpec NamesSpec EvalSpec ActSpec TransSpec SynSpec RulesSpec PrintSpec
set_option maxRecDepth 100000
def rwA:Tr:=⟨⟨#[]⟩,[],[],⟨#[97]⟩⟩
def rwB:Tr:=⟨⟨#[]⟩,[],[],⟨#[98]⟩⟩
def rwS:Sx:=⟨⟨#[97]⟩,2,-1,[],[],[rwA,rwB]⟩
def rwX:Cx:=⟨⟨#[99]⟩,[],[],[rwS]⟩
theorem rw_few:FewR rwX:=by
 have hs:(0:Nat) ≤ 9223372036854775807:=by decide
 refine ⟨(fun s h => by cases h),by decide,(fun v h => by cases h),by decide,fun s h => ?_,by decide⟩
 rw [List.mem_singleton.1 h]
 refine ⟨by decide,⟨(fun a h => by cases h),by decide,(fun a h => by cases h),by decide,fun t ht => ?_,by decide⟩,by decide⟩
 rcases List.mem_cons.1 ht with rfl | ht
 ·exact ⟨by decide,by decide,(fun a h => by cases h),by decide,(fun a h => by cases h),by decide⟩
 ·rw [List.mem_singleton.1 ht]
  exact ⟨by decide,by decide,(fun a h => by cases h),by decide,(fun a h => by cases h),by decide⟩
theorem rw_chk:ShapeSpec.chk (rwX.sts.map shOf) = 0:=by decide +kernel
theorem rw_five:brk rwX 5 = [⟨5,0,0⟩]:=by rfl
theorem rw_seven:brk rwX 7 = [⟨7,0,1⟩]:=by rfl
theorem rw_four:brk rwX 4 = []:=by rfl
theorem rw_tb (s:ByteArray) (w:World):(Instr.build 43 #[(3,.string s)]).run Try.prog w = .ok (.agg #[.string ⟨#[]⟩,.slice none 0 0,.slice none 0 0,.string s]) w:=run_build w 43 _ _ (by kernel_rfl)
theorem rw_sb (s:ByteArray) (a b:Int) (A:Option Addr) (n c:Nat) (w:World):(Instr.build 39 #[(0,.string s),(1,.int .i64 a),(2,.int .i64 b),(5,.slice A n c)]).run Try.prog w = .ok (.agg #[.string s,.int .i64 a,.int .i64 b,.slice none 0 0,.slice none 0 0,.slice A n c]) w:=run_build w 39 _ _ (by kernel_rfl)
theorem rw_cb (s:ByteArray) (A:Option Addr) (n c:Nat) (w:World):(Instr.build 26 #[(0,.string s),(3,.slice A n c)]).run Try.prog w = .ok (.agg #[.string s,.slice none 0 0,.slice none 0 0,.slice A n c]) w:=run_build w 26 _ _ (by kernel_rfl)
theorem rw_f1 (a:Int) (w:World):(Instr.build 52 #[(0,.int .i64 a)]).run Try.prog w = .ok (.agg #[.int .i64 a,.int .i64 0,.int .i64 0]) w:=run_build w 52 _ _ (by kernel_rfl)
theorem rw_f2 (a b:Int) (w:World):(Instr.build 52 #[(0,.int .i64 a),(2,.int .i64 b)]).run Try.prog w = .ok (.agg #[.int .i64 a,.int .i64 0,.int .i64 b]) w:=run_build w 52 _ _ (by kernel_rfl)
abbrev rwT:Obj:=.cells #[.string ⟨#[]⟩,.slice none 0 0,.slice none 0 0,.string ⟨#[97]⟩,.string ⟨#[]⟩,.slice none 0 0,.slice none 0 0,.string ⟨#[98]⟩] 43
abbrev rwO (k:Nat):Obj:=.cells #[.string ⟨#[97]⟩,.int .i64 2,.int .i64 (-1),.slice none 0 0,.slice none 0 0,.slice (some ⟨k,0,none⟩) 2 2] 39
abbrev rwC (k:Nat):Obj:=.cells #[.string ⟨#[99]⟩,.slice none 0 0,.slice none 0 0,.slice (some ⟨k,0,none⟩) 1 1] 26
set_option maxRecDepth 100000 in
set_option maxHeartbeats 8000000 in
theorem rwawake_any (w:World):Calls Try.prog 7 #[] w (RetB w true):=by
 have b1:=rw_tb
 have b2:=rw_sb
 have b3:=rw_cb
 have b4:=rw_f1
 have b5:=rw_f2
 obtain ⟨W3,hW3⟩:∃ W3,((w.alloc rwT).alloc (rwO w.heap.size)).alloc (rwC (w.heap.size + 1)) = W3:=⟨_,rfl⟩
 have q1:=KitC.below_one w rwT
 have q2:=KitC.below_one (w.alloc rwT) (rwO w.heap.size)
 have q3:=KitC.below_one ((w.alloc rwT).alloc (rwO w.heap.size)) (rwC (w.heap.size + 1))
 rw [hW3] at q3
 have hb3:=below_two' q1 (below_two' q2 q3)
 have h1:=KitC.block_on (heap_alloc_new w rwT) (below_two' q2 q3)
 have h2:=KitC.block_on (heap_alloc_new (w.alloc rwT) (rwO w.heap.size)) q3
 have h3:=heap_alloc_new ((w.alloc rwT).alloc (rwO w.heap.size)) (rwC (w.heap.size + 1))
 rw [hW3] at h3
 rw [World.size_alloc] at h2
 rw [World.size_alloc,World.size_alloc] at h3
 have hz:∀ x,Acs x (.slice none 0 0) []:=fun x => acs_nil x
 have hin:ChIn W3 (.slice none 0 0) (.slice none 0 0) (.slice (some ⟨w.heap.size + 1,0,none⟩) 1 1) rwX:=by
  refine ⟨Rd.nil _,Rdk.nil 4 _,⟨[⟨rwS,none,0,0,none,0,0,some ⟨w.heap.size,0,none⟩,2,2⟩],rfl,rdk_whole h2 rfl rfl (Nat.le_refl _),fun p hp => ?_⟩⟩
  rw [List.mem_singleton.1 hp]
  refine ⟨hz _,hz _,⟨[⟨rwA,none,0,0,none,0,0⟩,⟨rwB,none,0,0,none,0,0⟩],rfl,rdk_whole h1 rfl rfl (Nat.le_refl _),fun q hq => ?_⟩⟩
  rcases List.mem_cons.1 hq with rfl | hq
  ·exact ⟨⟨0,rfl,Rdk.nil 3 _⟩,hz _⟩
  ·rw [List.mem_singleton.1 hq]
   exact ⟨⟨0,rfl,Rdk.nil 3 _⟩,hz _⟩
 have HBR:=Lib.hid (fun (rule:Int) W (hW:Below W3.heap.size W3 W) => rbroken_any rwX none 0 0 none 0 0 (some ⟨w.heap.size + 1,0,none⟩) 1 1 W (hin.keep hW) rw_few rw_chk rule)
 have HKP:=Lib.hid (fun (rule:Int) W (hW:Below W3.heap.size W3 W) => rkept_any rwX none 0 0 none 0 0 (some ⟨w.heap.size + 1,0,none⟩) 1 1 W (hin.keep hW) rw_few rw_chk rule)
 rw [show rwX.s = ⟨#[99]⟩ from rfl] at HBR HKP
 have H5:=Lib.hid (HBR.out 5)
 have H7:=Lib.hid (HBR.out 7)
 have K4:=Lib.hid (HKP.out 4)
 have K5:=Lib.hid (HKP.out 5)
 rw [rw_five] at H5 K5
 rw [rw_seven] at H7
 rw [rw_four] at K4
 have HK:=Lib.hid (fun W (hW:Below W3.heap.size W3 W) => KitC.block_on h3 hW)
 have HB:=Lib.hid hb3
 have HW3:=Lib.hid hW3
 have hdr:Below W3.heap.size W3 W3.drew:=(Below.refl _ _).drew
 obtain ⟨c0,c1,c2,c3⟩:=cells_4 (HK.out _ (Below.refl _ _))
 clear hW3 q1 q2 q3 hb3 h1 h2 h3 hz hin HBR HKP
 go_enter Try.func7,Try.ntmps7
 go_wp2_with fail
 rw [HW3.out]
 go_region_held3 (fun w' => w'.cell? ⟨w.heap.size + 1 + 1,0,none⟩ = some (.string ⟨#[99]⟩) ∧ w'.cell? ⟨w.heap.size + 1 + 1,1,none⟩ = some (.slice none 0 0) ∧ w'.cell? ⟨w.heap.size + 1 + 1,2,none⟩ = some (.slice none 0 0) ∧ w'.cell? ⟨w.heap.size + 1 + 1,3,none⟩ = some (.slice (some ⟨w.heap.size + 1,0,none⟩) 1 1)) (go_keep)
  ((first
    | (go_at_call 8; (with_reducible refine (H5.out _ hdr).mono ?_); rintro e y1 ⟨A1,n1,k1,rfl,hn1,hf1,hb1⟩; have f1:=below_two' hdr hb1; obtain rfl:n1 = 1:=hn1; obtain ⟨x10,x11,x12,x13⟩:=cells_4 (HK.out _ f1))
    | (go_at_call 8; (with_reducible refine (H7.out _ f1).mono ?_); rintro e y2 ⟨A2,n2,k2,rfl,hn2,hf2,hb2⟩; have f2:=below_two' f1 hb2; obtain rfl:n2 = 1:=hn2; obtain ⟨x20,x21,x22,x23⟩:=cells_4 (HK.out _ f2))))
 all_goals
  obtain ⟨bA,oA,rfl,hbA,u0,u1,u2⟩:=(hf1.keep hb2).at_ (i:=0) rfl
  obtain ⟨bB,oB,rfl,hbB,v0,v1,v2⟩:=hf2.at_ (i:=0) rfl
  rw [Nat.zero_mul,Nat.add_zero] at u0 u1 u2 v0 v1 v2
  simp only at u0 u1 u2 v0 v1 v2
  have HB2:=Lib.hid f2
  obtain ⟨x20',x21',x22',x23'⟩:=cells_4 (HK.out _ f2)
  clear hf1 hf2 hb1 hb2 f1 f2
  go_wp2_with (go_at_call 11; go_fit (K4.out _ HB2.out))
  rintro e y3 ⟨rfl,hb3⟩
  have HB3:=Lib.hid (below_two' HB2.out hb3)
  obtain ⟨x30,x31,x32,x33⟩:=cells_4 (HK.out _ HB3.out)
  clear hb3
  go_wp2_with (go_at_call 11; go_fit (K5.out _ HB3.out))
  rintro e y4 ⟨rfl,hb4⟩
  have HB4:=Lib.hid (below_two' HB3.out hb4)
  clear hb4
  go_wp2_with fail
  go_ret
  exact ⟨rfl,below_two' HB.out HB4.out⟩
end Go.Proofs.Ytbdalbpackfejaa
namespace Go.Proofs.Ytbdalbpackfejaa
open Go.RowKit Go.ChangeShapes Go.WideShapes Go.Deep
theorem cell_there' {w:World} {b o:Nat} {u:Value} (h:w.cell? ⟨b,o,none⟩ = some u):b < w.heap.size:=by
 rcases Nat.lt_or_ge b w.heap.size with hlt | hge
 ·exact hlt
 ·simp [World.cell?,Array.getElem?_eq_none hge] at h
theorem list_of {α:Type} {R:Nat → α → Prop}:∀ n,(∀ i,i < n → ∃ a,R i a) → ∃ l:List α,l.length = n ∧ ∀ i a,l[i]? = some a → R i a
 | 0,_ => ⟨[],rfl,fun i a h => by simp at h⟩
 | n + 1,h => by
   obtain ⟨l,hl,hR⟩:=list_of n (fun i hi => h i (by omega))
   obtain ⟨a,ha⟩:=h n (by omega)
   refine ⟨l ++ [a],by simp [hl],fun i b hb => ?_⟩
   rcases Nat.lt_or_ge i l.length with hlt | hge
   ·rw [List.getElem?_append_left hlt] at hb
    exact hR i b hb
   ·rw [List.getElem?_append_right hge] at hb
    obtain hi:i - l.length = 0:=by
     have:=(List.getElem?_eq_some_iff.1 hb).1
     simp at this
     omega
    rw [hi] at hb
    simp at hb
    subst hb
    obtain rfl:i = n:=by omega
    exact ha
theorem flat_at {α:Type} {k:Nat} {f:α → List Value} (hf:∀ a,(f a).length = k) (hk:0 < k) {l:List α} {q:Nat} {u:Value} (h:(l.flatMap f)[q]? = some u):∃ a,l[q / k]? = some a ∧ (f a)[q % k]? = some u:=by
 have hq:q < l.length * k:=by have:=(List.getElem?_eq_some_iff.1 h).1; rwa [flat_length hf] at this
 have hi:q / k < l.length:=Nat.div_lt_of_lt_mul (by rwa [Nat.mul_comm] at hq)
 refine ⟨l[q / k],List.getElem?_eq_getElem hi,?_⟩
 rw [← flat_get hf (List.getElem?_eq_getElem hi) (Nat.mod_lt q hk),Nat.mul_comm (q / k) k,Nat.div_add_mod]
 exact h
end Go.Proofs.Ytbdalbpackfejaa
namespace Go.Proofs.Ytbdalbpackfejaa
namespace OpenD
open Go.RowKit Go.ChangeShapes Go.WideShapes Go.Deep
set_option maxRecDepth 100000
theorem cells_int:Try.prog.cellsOf 3 = 1:=by kernel_rfl
theorem cells_str:Try.prog.cellsOf 9 = 1:=by kernel_rfl
section
variable {H:Type} {enc:TypeId × Value → H} {W:World} {base:Nat} {spare:Nat → Bool} {held:Bool}
theorem dec_int {n:Nat} {c:Value} {x:Option (DataW H × List MemPlace)} (h:DataW.trod enc Try.prog W base spare held n 3 [c] = x) (hx:x.isSome):∃ k,c = .int .i64 k:=by
 obtain ⟨y,rfl⟩:=Option.isSome_iff_exists.1 hx
 obtain ⟨k,hc,_⟩:=DataW.trod_int Try.underlying3 h
 simp at hc
 exact ⟨k,hc⟩
theorem dec_str {n:Nat} {c:Value} {x:Option (DataW H × List MemPlace)} (h:DataW.trod enc Try.prog W base spare held n 9 [c] = x) (hx:x.isSome):∃ s:ByteArray,c = .string s ∧ s.size ≤ 9223372036854775807:=by
 obtain ⟨y,rfl⟩:=Option.isSome_iff_exists.1 hx
 obtain ⟨s,hc,_,hs⟩:=DataW.trod_string Try.underlying9 h
 simp at hc
 exact ⟨s,hc,hs⟩
theorem some_at {α:Type} {l:List α} {i:Nat} (h:i < l.length):(l[i]?).isSome:=by rw [List.getElem?_eq_getElem h]; rfl
end
end OpenD
end Go.Proofs.Ytbdalbpackfejaa
namespace Go.Proofs.Ytbdalbpackfejaa
open Go.RowKit Go.ChangeShapes Go.WideShapes Go.Deep TermSpec OpenD
set_option maxRecDepth 100000
theorem cells_term:Try.prog.cellsOf 69 = 3:=by kernel_rfl
section
variable {H:Type} {enc:TypeId × Value → H} {W:World} {base:Nat} {spare:Nat → Bool} {held:Bool}
theorem dec_term (n:Nat) (cs:List Value) (x:DataW H × List MemPlace) (h:DataW.trod enc Try.prog W base spare held n 69 cs = some x):∃ t:Tm,cs = tmV t ∧ t.s.size ≤ 9223372036854775807:=by
 obtain ⟨xs,m,_,_,hl,hxl,hg⟩:=DataW.trod_struct Try.underlying69 h
 rw [cells_term] at hl
 have hxl':xs.length = 3:=hxl
 match cs,hl with
 | [c0,c1,c2],_ =>
   have g0:DataW.trod enc Try.prog W base spare held m 3 (([c0,c1,c2].drop 0).take (Try.prog.cellsOf 3)) = xs[0]?:=hg 0 _ rfl
   have g1:DataW.trod enc Try.prog W base spare held m 3 (([c0,c1,c2].drop 1).take (Try.prog.cellsOf 3)) = xs[1]?:=hg 1 _ rfl
   have g2:DataW.trod enc Try.prog W base spare held m 9 (([c0,c1,c2].drop 2).take (Try.prog.cellsOf 9)) = xs[2]?:=hg 2 _ rfl
   rw [OpenD.cells_int] at g0 g1
   rw [OpenD.cells_str] at g2
   obtain ⟨a,rfl⟩:=OpenD.dec_int g0 (OpenD.some_at (by omega))
   obtain ⟨b,rfl⟩:=OpenD.dec_int g1 (OpenD.some_at (by omega))
   obtain ⟨s,rfl,hs⟩:=OpenD.dec_str g2 (OpenD.some_at (by omega))
   exact ⟨⟨a,b,s⟩,rfl,hs⟩
variable {b0:Nat} {r:Reach} {v:Value} {d:DataW H} {p:List MemPlace}
end
end Go.Proofs.Ytbdalbpackfejaa
namespace Go.Proofs.Ytbdalbpackfejaa
open Go.RowKit Go.ChangeShapes Go.WideShapes Go.Deep TermSpec EvalSpec
set_option maxRecDepth 100000
theorem open_rows_c {α:Type} {f:α → List Value} {Good:α → Prop} {k:Nat} {H:Type} {enc:TypeId × Value → H} {P:Program} {W:World} {base:Nat} {spare:Nat → Bool} {held:Bool} {fuel:Nat} {t e:TypeId} {v:Value} {x:DataW H × List MemPlace}
 (hf:∀ a,(f a).length = k) (hk0:0 < k) (hk:P.cellsOf e = k) (hu:P.underlying t = some (.slice e))
 (hdec:∀ n cs x,DataW.trod enc P W base spare held n e cs = some x → ∃ a,cs = f a ∧ Good a)
 (h:DataW.trod enc P W base spare held fuel t [v] = some x) :
 ∃ (A:Option Addr) (n cp:Nat) (l:List α),v = .slice A n cp ∧ n = l.length ∧ Rdk k W (.slice A n cp) n (l.flatMap f) ∧ (∀ a ∈ l,Good a) ∧ n ≤ 9223372036854775807:=by
 rcases open_slice hu h with ⟨hcs,_⟩ | ⟨a,len,cap,m,n,D,Pl,hcs,hb,hl,hm,hmm,_,hi⟩
 ·cases hcs
  exact ⟨none,0,0,[],rfl,rfl,Rdk.nil k W,by simp,by omega⟩
 ·cases hcs
  rw [hk] at hi
  have hlm:len ≤ m:=by rw [hmm]; split <;> omega
  obtain ⟨l,hll,hR⟩:=list_of (R:=fun i (x:α) => (∀ j,j < k → W.cell? ((a.add (i * k)).add j) = (f x)[j]?) ∧ Good x) len (fun i hlt => by
   obtain ⟨cs',hc,ht⟩:=hi i (by omega)
   obtain ⟨x,rfl,hg⟩:=hdec _ _ _ ht
   obtain ⟨_,_,hat⟩:=World.cells?_some hc
   exact ⟨x,hat,hg⟩)
  refine ⟨some a,len,cap,l,rfl,hll.symm,⟨some a,cap,rfl,hl,by rw [flat_length hf,hll],fun h0 => ?_⟩,fun x hx => ?_,by unfold maxLen at hm; omega⟩
  ·obtain ⟨x,hx0⟩:∃ x,l[0]? = some x:=get_some (by omega)
   obtain ⟨u,hu0⟩:∃ u,(f x)[0]? = some u:=get_some (by rw [hf]; exact hk0)
   obtain ⟨b,off,spot⟩:=a
   have h00:=(hR 0 x hx0).1 0 hk0
   rw [hu0] at h00
   have hspot:spot = none:=by simpa [Addr.add] using World.cell?_spot h00
   subst hspot
   rw [addr_add,addr_add] at h00
   refine ⟨b,off,rfl,cell_there' h00,fun q u hq => ?_⟩
   obtain ⟨y,hy,hu⟩:=flat_at hf hk0 hq
   have:=(hR _ y hy).1 (q % k) (Nat.mod_lt q hk0)
   rw [addr_add,addr_add,Nat.add_assoc,Nat.mul_comm (q / k) k,Nat.div_add_mod,hu] at this
   exact this
  ·obtain ⟨i,hi⟩:=List.mem_iff_getElem?.1 hx
   exact (hR i x hi).2
theorem cells_var:Try.prog.cellsOf 35 = 4:=by kernel_rfl
section
variable {H:Type} {enc:TypeId × Value → H} {W:World} {base:Nat} {spare:Nat → Bool} {held:Bool}
variable {b0:Nat} {r:Reach} {v:Value} {d:DataW H} {p:List MemPlace}
end
end Go.Proofs.Ytbdalbpackfejaa
namespace Go.Proofs.Ytbdalbpackfejaa
open Go.RowKit Go.ChangeShapes Go.WideShapes Go.Deep TermSpec EvalSpec ActSpec
set_option maxRecDepth 100000
theorem cells_act:Try.prog.cellsOf 67 = 3:=by kernel_rfl
theorem cells_bool:Try.prog.cellsOf 4 = 1:=by kernel_rfl
theorem cells_trms:Try.prog.cellsOf 41 = 1:=by kernel_rfl
theorem wf_i64 {n:Int} (h:(Lit.int .i64 n).wf = true):-9223372036854775808 ≤ n ∧ n ≤ 9223372036854775807:=by
 have e1:IntKind.i64.min = -9223372036854775808:=by kernel_rfl
 have e2:IntKind.i64.max = 9223372036854775807:=by kernel_rfl
 simp [Lit.wf,e1,e2] at h
 exact h
section
variable {H:Type} {enc:TypeId × Value → H} {W:World} {base:Nat} {spare:Nat → Bool} {held:Bool}
theorem dec_int_fit {n:Nat} {c:Value} {x:Option (DataW H × List MemPlace)} (h:DataW.trod enc Try.prog W base spare held n 3 [c] = x) (hx:x.isSome):∃ k,c = .int .i64 k ∧ -9223372036854775808 ≤ k ∧ k ≤ 9223372036854775807:=by
 obtain ⟨y,rfl⟩:=Option.isSome_iff_exists.1 hx
 obtain ⟨k,hc,_,hw⟩:=DataW.trod_int Try.underlying3 h
 simp at hc
 exact ⟨k,hc,wf_i64 hw⟩
theorem dec_bool {n:Nat} {c:Value} {x:Option (DataW H × List MemPlace)} (h:DataW.trod enc Try.prog W base spare held n 4 [c] = x) (hx:x.isSome):∃ b,c = .bool b:=by
 obtain ⟨y,rfl⟩:=Option.isSome_iff_exists.1 hx
 obtain ⟨k,hc,_⟩:=DataW.trod_bool Try.underlying4 h
 simp at hc
 exact ⟨k,hc⟩
def GoodAP (W:World) (p:AP):Prop:=p.a.s.size ≤ 9223372036854775807 ∧ Small p.a.x ∧ p.a.x.length ≤ 9223372036854775807 ∧ Tms W (.slice p.xA p.xn p.xc) p.a.x
theorem dec_act (n:Nat) (cs:List Value) (x:DataW H × List MemPlace) (h:DataW.trod enc Try.prog W base spare held n 67 cs = some x):∃ p:AP,cs = acV p ∧ GoodAP W p:=by
 obtain ⟨xs,m,_,_,hl,hxl,hg⟩:=DataW.trod_struct Try.underlying67 h
 rw [cells_act] at hl
 have hxl':xs.length = 3:=hxl
 match cs,hl with
 | [c0,c1,c2],_ =>
   have g0:DataW.trod enc Try.prog W base spare held m 9 (([c0,c1,c2].drop 0).take (Try.prog.cellsOf 9)) = xs[0]?:=hg 0 _ rfl
   have g1:DataW.trod enc Try.prog W base spare held m 4 (([c0,c1,c2].drop 1).take (Try.prog.cellsOf 4)) = xs[1]?:=hg 1 _ rfl
   have g2:DataW.trod enc Try.prog W base spare held m 41 (([c0,c1,c2].drop 2).take (Try.prog.cellsOf 41)) = xs[2]?:=hg 2 _ rfl
   rw [OpenD.cells_str] at g0
   rw [cells_bool] at g1
   rw [cells_trms] at g2
   obtain ⟨s,rfl,hs⟩:=OpenD.dec_str g0 (OpenD.some_at (by omega))
   obtain ⟨b,rfl⟩:=dec_bool g1 (OpenD.some_at (by omega))
   obtain ⟨y2,e2⟩:=Option.isSome_iff_exists.1 (OpenD.some_at (l:=xs) (i:=2) (by omega))
   rw [e2] at g2
   obtain ⟨A,k,cp,l,rfl,hn,hR,hG,hb⟩:=open_rows_c (v:=c2) (f:=tmV) (Good:=fun t => t.s.size ≤ 9223372036854775807) tmV_length (by decide) cells_term Try.underlying41 dec_term g2
   exact ⟨⟨⟨s,b,l⟩,A,k,cp⟩,rfl,hs,hG,by simp only; omega,⟨k,hn,hR⟩⟩
variable {b0:Nat} {r:Reach} {v:Value} {d:DataW H} {p:List MemPlace}
end
end Go.Proofs.Ytbdalbpackfejaa
namespace Go.Proofs.Ytbdalbpackfejaa
open Go.RowKit Go.ChangeShapes Go.WideShapes Go.Deep TermSpec EvalSpec ActSpec TransSpec
set_option maxRecDepth 100000
theorem cells_trans:Try.prog.cellsOf 43 = 4:=by kernel_rfl
theorem cells_acts:Try.prog.cellsOf 36 = 1:=by kernel_rfl
section
variable {H:Type} {enc:TypeId × Value → H} {W:World} {base:Nat} {spare:Nat → Bool} {held:Bool} {b0:Nat} {r:Reach} {v:Value} {d:DataW H} {p:List MemPlace}
end
end Go.Proofs.Ytbdalbpackfejaa
namespace Go.Proofs.Ytbdalbpackfejaa
open Go.RowKit Go.ChangeShapes Go.WideShapes Go.Deep ShapeSpec OpenD
set_option maxRecDepth 100000
theorem cells_state:Try.prog.cellsOf 39 = 6:=by kernel_rfl
theorem cells_sacts:Try.prog.cellsOf 36 = 1:=by kernel_rfl
theorem shcells_strs:Try.prog.cellsOf 37 = 1:=by kernel_rfl
section
variable {H:Type} {enc:TypeId × Value → H} {W:World} {base:Nat} {spare:Nat → Bool} {held:Bool}
variable {b0:Nat} {r:Reach} {v:Value} {d:DataW H} {p:List MemPlace}
end
end Go.Proofs.Ytbdalbpackfejaa
namespace Go.Proofs.Ytbdalbpackfejaa
open Go.RowKit Go.ChangeShapes Go.WideShapes Go.Deep TermSpec EvalSpec ActSpec TransSpec SynSpec PrintSpec
set_option maxRecDepth 100000
theorem cells_chart:Try.prog.cellsOf 26 = 4:=by kernel_rfl
theorem cells_lvars:Try.prog.cellsOf 23 = 1:=by kernel_rfl
theorem cells_lsts:Try.prog.cellsOf 24 = 1:=by kernel_rfl
theorem cells_levs:Try.prog.cellsOf 22 = 1:=by kernel_rfl
section
variable {H:Type} {enc:TypeId × Value → H} {W:World} {base:Nat} {spare:Nat → Bool} {held:Bool}
theorem dec_text (n:Nat) (cs:List Value) (x:DataW H × List MemPlace) (h:DataW.trod enc Try.prog W base spare held n 9 cs = some x):∃ s:ByteArray,cs = sC s ∧ s.size ≤ 9223372036854775807:=by
 obtain ⟨s,hc,_,hw⟩:=DataW.trod_string Try.underlying9 h
 exact ⟨s,hc,hw⟩
theorem dec_variable (n:Nat) (cs:List Value) (x:DataW H × List MemPlace) (h:DataW.trod enc Try.prog W base spare held n 35 cs = some x):∃ v:Vr,cs = vrV v ∧ (v.s.size ≤ 9223372036854775807 ∧ VFit v):=by
 obtain ⟨xs,m,_,_,hl,hxl,hg⟩:=DataW.trod_struct Try.underlying35 h
 rw [cells_var] at hl
 have hxl':xs.length = 4:=hxl
 match cs,hl with
 | [c0,c1,c2,c3],_ =>
   have g0:DataW.trod enc Try.prog W base spare held m 9 (([c0,c1,c2,c3].drop 0).take (Try.prog.cellsOf 9)) = xs[0]?:=hg 0 _ rfl
   have g1:DataW.trod enc Try.prog W base spare held m 3 (([c0,c1,c2,c3].drop 1).take (Try.prog.cellsOf 3)) = xs[1]?:=hg 1 _ rfl
   have g2:DataW.trod enc Try.prog W base spare held m 3 (([c0,c1,c2,c3].drop 2).take (Try.prog.cellsOf 3)) = xs[2]?:=hg 2 _ rfl
   have g3:DataW.trod enc Try.prog W base spare held m 3 (([c0,c1,c2,c3].drop 3).take (Try.prog.cellsOf 3)) = xs[3]?:=hg 3 _ rfl
   rw [OpenD.cells_int] at g1 g2 g3
   rw [OpenD.cells_str] at g0
   obtain ⟨s,rfl,hs⟩:=OpenD.dec_str g0 (OpenD.some_at (by omega))
   obtain ⟨a,rfl,a1,a2⟩:=dec_int_fit g1 (OpenD.some_at (by omega))
   obtain ⟨b,rfl,b1,b2⟩:=dec_int_fit g2 (OpenD.some_at (by omega))
   obtain ⟨c,rfl⟩:=OpenD.dec_int g3 (OpenD.some_at (by omega))
   exact ⟨⟨s,a,b,c⟩,rfl,hs,a1,a2,b1,b2⟩
theorem dec_acts {m:Nat} {c:Value} {x:Option (DataW H × List MemPlace)} (h:DataW.trod enc Try.prog W base spare held m 36 [c] = x) (hx:x.isSome) :
 ∃ (A:Option Addr) (n cp:Nat) (l:List Ac),c = .slice A n cp ∧ Acs W (.slice A n cp) l ∧ ∀ a ∈ l,a.s.size ≤ 9223372036854775807 ∧ Small a.x:=by
 obtain ⟨y,rfl⟩:=Option.isSome_iff_exists.1 hx
 obtain ⟨A,n,cp,ps,rfl,hn,hR,hG,-⟩:=open_rows_c (v:=c) (f:=acV) (Good:=GoodAP W) acV_length (by decide) cells_act Try.underlying36 dec_act h
 refine ⟨A,n,cp,ps.map (·.a),rfl,⟨ps,rfl,by rw [List.length_map,← hn]; exact hR,fun p hp => (hG p hp).2.2.2⟩,fun a ha => ?_⟩
 obtain ⟨p,hp,rfl⟩:=List.mem_map.1 ha
 exact ⟨(hG p hp).1,(hG p hp).2.1⟩
def GoodTP (W:World) (p:TP):Prop:=tpN p W ∧ p.t.ev.size ≤ 9223372036854775807 ∧ p.t.tg.size ≤ 9223372036854775807 ∧ Small p.t.g ∧ ∀ a ∈ p.t.acts,a.s.size ≤ 9223372036854775807 ∧ Small a.x
theorem dec_trans (n:Nat) (cs:List Value) (x:DataW H × List MemPlace) (h:DataW.trod enc Try.prog W base spare held n 43 cs = some x):∃ p:TP,cs = tpV p ∧ GoodTP W p:=by
 obtain ⟨xs,m,_,_,hl,hxl,hg⟩:=DataW.trod_struct Try.underlying43 h
 rw [cells_trans] at hl
 have hxl':xs.length = 4:=hxl
 match cs,hl with
 | [c0,c1,c2,c3],_ =>
   have g0:DataW.trod enc Try.prog W base spare held m 9 (([c0,c1,c2,c3].drop 0).take (Try.prog.cellsOf 9)) = xs[0]?:=hg 0 _ rfl
   have g1:DataW.trod enc Try.prog W base spare held m 41 (([c0,c1,c2,c3].drop 1).take (Try.prog.cellsOf 41)) = xs[1]?:=hg 1 _ rfl
   have g2:DataW.trod enc Try.prog W base spare held m 36 (([c0,c1,c2,c3].drop 2).take (Try.prog.cellsOf 36)) = xs[2]?:=hg 2 _ rfl
   have g3:DataW.trod enc Try.prog W base spare held m 9 (([c0,c1,c2,c3].drop 3).take (Try.prog.cellsOf 9)) = xs[3]?:=hg 3 _ rfl
   rw [OpenD.cells_str] at g0 g3
   rw [cells_trms] at g1
   rw [cells_acts] at g2
   obtain ⟨ev,rfl,hev⟩:=OpenD.dec_str g0 (OpenD.some_at (by omega))
   obtain ⟨tg,rfl,htg⟩:=OpenD.dec_str g3 (OpenD.some_at (by omega))
   obtain ⟨y1,e1⟩:=Option.isSome_iff_exists.1 (OpenD.some_at (l:=xs) (i:=1) (by omega))
   rw [e1] at g1
   obtain ⟨gA,gn,gc,g,rfl,hgn,hgR,hgG,hgb⟩:=open_rows_c (v:=c1) (f:=tmV) (Good:=fun t => t.s.size ≤ 9223372036854775807) tmV_length (by decide) cells_term Try.underlying41 dec_term g1
   obtain ⟨aA,an,ac,l,rfl,haR,haG⟩:=dec_acts g2 (OpenD.some_at (by omega))
   exact ⟨⟨⟨ev,g,l,tg⟩,gA,gn,gc,aA,an,ac⟩,rfl,⟨⟨gn,hgn,hgR⟩,haR⟩,hev,htg,hgG,haG⟩
def GoodSP (W:World) (p:SP):Prop:=spN p W ∧ p.x.s.size ≤ 9223372036854775807 ∧ (∀ a ∈ p.x.en,a.s.size ≤ 9223372036854775807 ∧ Small a.x) ∧ (∀ a ∈ p.x.ex,a.s.size ≤ 9223372036854775807 ∧ Small a.x) ∧
    ∀ t ∈ p.x.tr,t.ev.size ≤ 9223372036854775807 ∧ t.tg.size ≤ 9223372036854775807 ∧ Small t.g ∧ ∀ a ∈ t.acts,a.s.size ≤ 9223372036854775807 ∧ Small a.x
theorem dec_sp (n:Nat) (cs:List Value) (x:DataW H × List MemPlace) (h:DataW.trod enc Try.prog W base spare held n 39 cs = some x):∃ p:SP,cs = spV p ∧ GoodSP W p:=by
 obtain ⟨xs,m,_,_,hl,hxl,hg⟩:=DataW.trod_struct Try.underlying39 h
 rw [cells_state] at hl
 have hxl':xs.length = 6:=hxl
 match cs,hl with
 | [c0,c1,c2,c3,c4,c5],_ =>
   have g0:DataW.trod enc Try.prog W base spare held m 9 (([c0,c1,c2,c3,c4,c5].drop 0).take (Try.prog.cellsOf 9)) = xs[0]?:=hg 0 _ rfl
   have g1:DataW.trod enc Try.prog W base spare held m 3 (([c0,c1,c2,c3,c4,c5].drop 1).take (Try.prog.cellsOf 3)) = xs[1]?:=hg 1 _ rfl
   have g2:DataW.trod enc Try.prog W base spare held m 3 (([c0,c1,c2,c3,c4,c5].drop 2).take (Try.prog.cellsOf 3)) = xs[2]?:=hg 2 _ rfl
   have g3:DataW.trod enc Try.prog W base spare held m 36 (([c0,c1,c2,c3,c4,c5].drop 3).take (Try.prog.cellsOf 36)) = xs[3]?:=hg 3 _ rfl
   have g4:DataW.trod enc Try.prog W base spare held m 36 (([c0,c1,c2,c3,c4,c5].drop 4).take (Try.prog.cellsOf 36)) = xs[4]?:=hg 4 _ rfl
   have g5:DataW.trod enc Try.prog W base spare held m 37 (([c0,c1,c2,c3,c4,c5].drop 5).take (Try.prog.cellsOf 37)) = xs[5]?:=hg 5 _ rfl
   rw [OpenD.cells_str] at g0
   rw [OpenD.cells_int] at g1 g2
   rw [cells_sacts] at g3 g4
   rw [shcells_strs] at g5
   obtain ⟨s,rfl,hs⟩:=OpenD.dec_str g0 (OpenD.some_at (by omega))
   obtain ⟨a,rfl⟩:=OpenD.dec_int g1 (OpenD.some_at (by omega))
   obtain ⟨b,rfl⟩:=OpenD.dec_int g2 (OpenD.some_at (by omega))
   obtain ⟨a3,n3,k3,l3,rfl,r3,q3⟩:=dec_acts g3 (OpenD.some_at (by omega))
   obtain ⟨a4,n4,k4,l4,rfl,r4,q4⟩:=dec_acts g4 (OpenD.some_at (by omega))
   obtain ⟨y5,e5⟩:=Option.isSome_iff_exists.1 (OpenD.some_at (l:=xs) (i:=5) (by omega))
   rw [e5] at g5
   obtain ⟨a5,n5,k5,ps,rfl,hn5,hR5,hG5,-⟩:=open_rows_c (v:=c5) (f:=tpV) (Good:=GoodTP W) tpV_length (by decide) cells_trans Try.underlying37 dec_trans g5
   refine ⟨⟨⟨s,a,b,l3,l4,ps.map (·.t)⟩,a3,n3,k3,a4,n4,k4,a5,n5,k5⟩,rfl,⟨r3,r4,ps,rfl,by rw [← hn5]; exact hR5,fun p hp => (hG5 p hp).1⟩,hs,q3,q4,fun t ht => ?_⟩
   obtain ⟨p,hp,rfl⟩:=List.mem_map.1 ht
   exact (hG5 p hp).2
variable {b0:Nat} {r:Reach} {v:Value} {d:DataW H} {p:List MemPlace}
theorem open_chart (hv:Value.okWide Try.prog W r b0 26 v) (h:DataW.Trod enc Try.prog W base spare held 26 v d p) :
 ∃ (x:Cx) (eA:Option Addr) (en ec:Nat) (vA:Option Addr) (vn vc:Nat) (sA:Option Addr) (sn sc:Nat),v = .agg #[.string x.s,.slice eA en ec,.slice vA vn vc,.slice sA sn sc] ∧ ChIn W (.slice eA en ec) (.slice vA vn vc) (.slice sA sn sc) x ∧ (FitC x ∧ ∀ v ∈ x.vars,VFit v):=by
 obtain ⟨cs,rfl,_⟩:=okWide_struct Try.underlying26 hv
 obtain ⟨fuel,hx⟩:=h
 obtain ⟨xs,m,_,_,hl,hxl,hg⟩:=DataW.trod_struct Try.underlying26 hx
 rw [cells_chart] at hl
 have hxl':xs.length = 4:=hxl
 obtain ⟨l⟩:=cs
 match l,hl with
 | [c0,c1,c2,c3],_ =>
   have g0:DataW.trod enc Try.prog W base spare held m 9 (([c0,c1,c2,c3].drop 0).take (Try.prog.cellsOf 9)) = xs[0]?:=hg 0 _ rfl
   have g1:DataW.trod enc Try.prog W base spare held m 22 (([c0,c1,c2,c3].drop 1).take (Try.prog.cellsOf 22)) = xs[1]?:=hg 1 _ rfl
   have g2:DataW.trod enc Try.prog W base spare held m 23 (([c0,c1,c2,c3].drop 2).take (Try.prog.cellsOf 23)) = xs[2]?:=hg 2 _ rfl
   have g3:DataW.trod enc Try.prog W base spare held m 24 (([c0,c1,c2,c3].drop 3).take (Try.prog.cellsOf 24)) = xs[3]?:=hg 3 _ rfl
   rw [OpenD.cells_str] at g0
   rw [cells_levs] at g1
   rw [cells_lvars] at g2
   rw [cells_lsts] at g3
   obtain ⟨s,rfl,hs⟩:=OpenD.dec_str g0 (OpenD.some_at (by omega))
   obtain ⟨y1,e1⟩:=Option.isSome_iff_exists.1 (OpenD.some_at (l:=xs) (i:=1) (by omega))
   obtain ⟨y2,e2⟩:=Option.isSome_iff_exists.1 (OpenD.some_at (l:=xs) (i:=2) (by omega))
   obtain ⟨y3,e3⟩:=Option.isSome_iff_exists.1 (OpenD.some_at (l:=xs) (i:=3) (by omega))
   rw [e1] at g1
   rw [e2] at g2
   rw [e3] at g3
   obtain ⟨eA,en,ec,es,rfl,hen,heR,heG,heb⟩:=open_rows_c (v:=c1) (f:=sC) (Good:=fun s => s.size ≤ 9223372036854775807) (fun _ => rfl) (by decide) OpenD.cells_str Try.underlying22 dec_text g1
   obtain ⟨vA,vn,vc,vs,rfl,hvn,hvR,hvG,hvb⟩:=open_rows_c (v:=c2) (f:=vrV) (Good:=fun v => v.s.size ≤ 9223372036854775807 ∧ VFit v) vrV_length (by decide) cells_var Try.underlying23 dec_variable g2
   obtain ⟨sA,sn,sc,ps,rfl,hsn,hsR,hsG,hsb⟩:=open_rows_c (v:=c3) (f:=spV) (Good:=GoodSP W) spV_length (by decide) cells_state Try.underlying24 dec_sp g3
   refine ⟨⟨s,es,vs,ps.map (·.x)⟩,eA,en,ec,vA,vn,vc,sA,sn,sc,rfl,⟨?_,?_,ps,rfl,by rw [← hsn]; exact hsR,fun p hp => (hsG p hp).1⟩,⟨hs,heG,by simp only; omega,fun v hv => (hvG v hv).1,fun t ht => ?_⟩,fun v hv => (hvG v hv).2⟩
   ·rw [sC_flat] at heR
    exact rd_one heR
   ·show Rdk 4 W _ vs.length (vrsV vs)
    rw [← hvn]
    exact hvR
   ·obtain ⟨p,hp,rfl⟩:=List.mem_map.1 ht
    exact (hsG p hp).2
end
end Go.Proofs.Ytbdalbpackfejaa