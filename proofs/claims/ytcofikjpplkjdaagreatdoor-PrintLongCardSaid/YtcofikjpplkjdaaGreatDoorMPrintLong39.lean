/- OpenN, OpenD, TermOpen, EvalOpen, ActMem, ActVar, ActOpen, TransOpen, ShapeOpen, PrintOpen, PrintSays, PrintPutP, PrintLaws, Laid, ScanLaid, ExprLaid, joined. -/
import Derived.Test.YtcofikjpplkjdaaGreatDoorMPrintLong02
import Derived.ProofKit
import Derived.OpenShut
import Derived.Deep.Slices
import Derived.Test.YtcofikjpplkjdaaGreatDoorRows
import Derived.Lib.SmallJoins
import Derived.Test.YtcofikjpplkjdaaGreatDoorMPrintLong03
import Derived.Test.YtcofikjpplkjdaaGreatDoorMPrintLong11
import Derived.Test.YtcofikjpplkjdaaGreatDoorMPrintLong00
import Derived.BigQuiet
import Derived.Lib.QuietBelow
import Derived.Test.YtcofikjpplkjdaaGreatDoorMPrintLong12
import Derived.Test.YtcofikjpplkjdaaGreatDoorMPrintLong24
import Derived.Test.YtcofikjpplkjdaaGreatDoorMPrintLong25
import Derived.Test.YtcofikjpplkjdaaGreatDoorMPrintLong38
import Derived.Test.YtcofikjpplkjdaaGreatDoorMPrintLong29
import Derived.Test.YtcofikjpplkjdaaGreatDoorMPrintLong35
import Derived.LaidLaws
import Derived.ChangeArms
import Derived.Lib.LaidTab
import Derived.Test.YtcofikjpplkjdaaGreatDoorMPrintLong20
import Derived.LaidMore
import Derived.Stop.Joined
import Derived.Test.YtcofikjpplkjdaaGreatDoorMPrintLong07
import Derived.Stop.LaidErr
namespace Go.Proofs.YtcofikjpplkjdaaGreatDoor
open Go.RowKit Go.ChangeShapes Go.WideShapes Go.Deep
end Go.Proofs.YtcofikjpplkjdaaGreatDoor
namespace Go.Proofs.YtcofikjpplkjdaaGreatDoor
namespace OpenD
open Go.RowKit Go.ChangeShapes Go.WideShapes Go.Deep
set_option maxRecDepth 100000
section
variable {H:Type} {enc:TypeId × Value → H} {W:World} {base:Nat} {spare:Nat → Bool} {held:Bool}
end
end OpenD
end Go.Proofs.YtcofikjpplkjdaaGreatDoor
namespace Go.Proofs.YtcofikjpplkjdaaGreatDoor
open Go.RowKit Go.ChangeShapes Go.WideShapes Go.Deep TermSpec OpenD
set_option maxRecDepth 100000
section
variable {H:Type} {enc:TypeId × Value → H} {W:World} {base:Nat} {spare:Nat → Bool} {held:Bool}
variable {b0:Nat} {r:Reach} {v:Value} {d:DataW H} {p:List MemPlace}
end
end Go.Proofs.YtcofikjpplkjdaaGreatDoor
namespace Go.Proofs.YtcofikjpplkjdaaGreatDoor
open Go.RowKit Go.ChangeShapes Go.WideShapes Go.Deep TermSpec EvalSpec
set_option maxRecDepth 100000
section
variable {H:Type} {enc:TypeId × Value → H} {W:World} {base:Nat} {spare:Nat → Bool} {held:Bool}
variable {b0:Nat} {r:Reach} {v:Value} {d:DataW H} {p:List MemPlace}
end
end Go.Proofs.YtcofikjpplkjdaaGreatDoor
namespace Go.Proofs.YtcofikjpplkjdaaGreatDoor
open Go.RowKit Go.Sort TermSpec EvalSpec ActSpec
def v4V (x:V4):List Value:=[.int .i64 x.a,.int .i64 x.b,.int .i64 x.c,.int .i64 x.d]
def v4sV (l:List V4):List Value:=l.flatMap v4V
theorem v4V_length (x:V4):(v4V x).length = 4:=rfl
theorem v4sV_get {l:List V4} {i:Nat} {x:V4} (h:l[i]? = some x):(v4sV l)[i * 4]? = some (.int .i64 x.a) ∧ (v4sV l)[i * 4 + 1]? = some (.int .i64 x.b) ∧ (v4sV l)[i * 4 + 2]? = some (.int .i64 x.c) ∧ (v4sV l)[i * 4 + 3]? = some (.int .i64 x.d) :=
 ⟨flat_get (j:=0) v4V_length h (by omega),flat_get (j:=1) v4V_length h (by omega),flat_get (j:=2) v4V_length h (by omega),flat_get (j:=3) v4V_length h (by omega)⟩
def V4s (w:World) (v:Value) (l:List V4):Prop:=∃ n,n = l.length ∧ Rdk 4 w v n (v4sV l)
theorem V4s.keep {w w':World} {v:Value} {l:List V4} (h:V4s w v l) (hb:Below w.heap.size w w'):V4s w' v l:=by
 obtain ⟨n,hn,h⟩:=h
 exact ⟨n,hn,h.keep hb⟩
theorem V4s.shape {w:World} {v:Value} {l:List V4} (h:V4s w v l):∃ A n c,v = .slice A n c ∧ n = l.length ∧ n ≤ c:=by
 obtain ⟨n,hn,A,c,hv,hc,_⟩:=h
 exact ⟨A,n,c,hv,hn,hc⟩
theorem V4s.at_ {w:World} {A:Option Addr} {n c:Nat} {l:List V4} {i:Nat} {x:V4} (h:V4s w (.slice A n c) l) (hi:l[i]? = some x) :
 ∃ b off,A = some ⟨b,off,none⟩ ∧ b < w.heap.size ∧ w.cell? ⟨b,off + i * 4,none⟩ = some (.int .i64 x.a) ∧ w.cell? ⟨b,off + i * 4 + 1,none⟩ = some (.int .i64 x.b) ∧ w.cell? ⟨b,off + i * 4 + 2,none⟩ = some (.int .i64 x.c) ∧ w.cell? ⟨b,off + i * 4 + 3,none⟩ = some (.int .i64 x.d):=by
 obtain ⟨m,hm,A',c',heq,hc,hl,hA⟩:=h
 cases heq
 have:=get_lt hi
 obtain ⟨b,off,rfl,hb,hcell⟩:=hA (by omega)
 obtain ⟨g0,g1,g2,g3⟩:=v4sV_get hi
 exact ⟨b,off,rfl,hb,hcell _ _ g0,by rw [Nat.add_assoc]; exact hcell _ _ g1,by rw [Nat.add_assoc]; exact hcell _ _ g2,by rw [Nat.add_assoc]; exact hcell _ _ g3⟩
end Go.Proofs.YtcofikjpplkjdaaGreatDoor
namespace Go.Proofs.YtcofikjpplkjdaaGreatDoor
open Go.RowKit TermSpec EvalSpec ActSpec NamesSpec Go.Lib
end Go.Proofs.YtcofikjpplkjdaaGreatDoor
namespace Go.Proofs.YtcofikjpplkjdaaGreatDoor
open Go.RowKit Go.ChangeShapes Go.WideShapes Go.Deep TermSpec EvalSpec ActSpec
set_option maxRecDepth 100000
section
variable {H:Type} {enc:TypeId × Value → H} {W:World} {base:Nat} {spare:Nat → Bool} {held:Bool}
variable {b0:Nat} {r:Reach} {v:Value} {d:DataW H} {p:List MemPlace}
end
end Go.Proofs.YtcofikjpplkjdaaGreatDoor
namespace Go.Proofs.YtcofikjpplkjdaaGreatDoor
open Go.RowKit Go.ChangeShapes Go.WideShapes Go.Deep TermSpec EvalSpec ActSpec TransSpec
set_option maxRecDepth 100000
section
variable {H:Type} {enc:TypeId × Value → H} {W:World} {base:Nat} {spare:Nat → Bool} {held:Bool} {b0:Nat} {r:Reach} {v:Value} {d:DataW H} {p:List MemPlace}
end
end Go.Proofs.YtcofikjpplkjdaaGreatDoor
namespace Go.Proofs.YtcofikjpplkjdaaGreatDoor
open Go.RowKit Go.ChangeShapes Go.WideShapes Go.Deep ShapeSpec OpenD
set_option maxRecDepth 100000
section
variable {H:Type} {enc:TypeId × Value → H} {W:World} {base:Nat} {spare:Nat → Bool} {held:Bool}
variable {b0:Nat} {r:Reach} {v:Value} {d:DataW H} {p:List MemPlace}
end
end Go.Proofs.YtcofikjpplkjdaaGreatDoor
namespace Go.Proofs.YtcofikjpplkjdaaGreatDoor
open Go.RowKit Go.ChangeShapes Go.WideShapes Go.Deep TermSpec EvalSpec ActSpec TransSpec SynSpec PrintSpec
set_option maxRecDepth 100000
section
variable {H:Type} {enc:TypeId × Value → H} {W:World} {base:Nat} {spare:Nat → Bool} {held:Bool}
variable {b0:Nat} {r:Reach} {v:Value} {d:DataW H} {p:List MemPlace}
end
end Go.Proofs.YtcofikjpplkjdaaGreatDoor
namespace Go.Proofs.YtcofikjpplkjdaaGreatDoor
open Go.RowKit Go.Sort TermSpec EvalSpec ActSpec NamesSpec ExprSpec TransSpec SynSpec PrintSpec
set_option maxRecDepth 100000
structure PrintSays (w:World):Prop where
 ok:∀ (c:Tc) (eA:Option Addr) (en ec:Nat) (vA:Option Addr) (vn vc:Nat) (sA:Option Addr) (sn sc:Nat) (W:World),Below w.heap.size w W → ChIn W (.slice eA en ec) (.slice vA vn vc) (.slice sA sn sc) c.cx → c.Ok → (putC c).length ≤ 65536 → (chK c).length ≤ 4000 →
  Calls Tryz.prog 7 #[.agg #[.string c.s,.slice eA en ec,.slice vA vn vc,.slice sA sn sc]] W (RetPP W (bs (putC c)) 0)
 long:∀ (c:Tc) (eA:Option Addr) (en ec:Nat) (vA:Option Addr) (vn vc:Nat) (sA:Option Addr) (sn sc:Nat) (W:World),Below w.heap.size w W → ChIn W (.slice eA en ec) (.slice vA vn vc) (.slice sA sn sc) c.cx → c.Ok → 4000 < (chK c).length →
  Calls Tryz.prog 7 #[.agg #[.string c.s,.slice eA en ec,.slice vA vn vc,.slice sA sn sc]] W (RetPP W ⟨#[]⟩ 5)
 bad:∀ (x:Cx) (eA:Option Addr) (en ec:Nat) (vA:Option Addr) (vn vc:Nat) (sA:Option Addr) (sn sc:Nat) (W:World),Below w.heap.size w W → ChIn W (.slice eA en ec) (.slice vA vn vc) (.slice sA sn sc) x → FitM x → LightC x → mayC x = false →
  Calls Tryz.prog 7 #[.agg #[.string x.s,.slice eA en ec,.slice vA vn vc,.slice sA sn sc]] W (RetPP W ⟨#[]⟩ 1)
 check:∀ (x:Cx) (eA:Option Addr) (en ec:Nat) (vA:Option Addr) (vn vc:Nat) (sA:Option Addr) (sn sc:Nat) (W:World),Below w.heap.size w W → ChIn W (.slice eA en ec) (.slice vA vn vc) (.slice sA sn sc) x → FitM x → LightC x →
  Calls Tryz.prog 9 #[.agg #[.string x.s,.slice eA en ec,.slice vA vn vc,.slice sA sn sc]] W (RetI W (if mayC x = true then 0 else 1))
theorem PrintSays.keep {w w':World} (h:PrintSays w) (hb:Below w.heap.size w w'):PrintSays w' :=
 ⟨fun c eA en ec vA vn vc sA sn sc W hW => h.ok c eA en ec vA vn vc sA sn sc W (below_two' hb hW),fun c eA en ec vA vn vc sA sn sc W hW => h.long c eA en ec vA vn vc sA sn sc W (below_two' hb hW),
  fun x eA en ec vA vn vc sA sn sc W hW => h.bad x eA en ec vA vn vc sA sn sc W (below_two' hb hW),fun x eA en ec vA vn vc sA sn sc W hW => h.check x eA en ec vA vn vc sA sn sc W (below_two' hb hW)⟩
theorem says_long (a b:Int) (w:World) (hp:PairsIn w) (hg:SignsIn w) (says:PrintSays w) (ha:(Lit.int .u8 a).wf = true) (hb:(Lit.int .u8 b).wf = true) :
 Calls Tryz.prog 4 #[.int .u8 a,.int .u8 b] w fun e w' => e = .returned (.bool true) ∧ Below w.heap.size w w':=by
 have e1:IntKind.u8.min = 0:=by decide
 have e2:IntKind.u8.max = 255:=by decide
 have h1:0 ≤ a ∧ a ≤ 255:=by simp [Lit.wf] at ha; omega
 have h2:0 ≤ b ∧ b ≤ 255:=by simp [Lit.wf] at hb; omega
 obtain ⟨a',rfl⟩:=Int.eq_ofNat_of_zero_le h1.1
 obtain ⟨b',rfl⟩:=Int.eq_ofNat_of_zero_le h2.1
 exact plong_any a' b' (by omega) (by omega) w hp hg (fun W hW => pawake_any W (says.keep hW).ok) says.ok says.long
end Go.Proofs.YtcofikjpplkjdaaGreatDoor
namespace Go.Proofs.YtcofikjpplkjdaaGreatDoor
open Go.RowKit Go.Sort CurSpec TermSpec EvalSpec ActSpec NamesSpec ExprSpec TransSpec SynSpec ScanSpec PrintSpec
set_option maxRecDepth 100000
theorem cx_evs {W:World} {x:Cx} {eA:Option Addr} {en ec:Nat} {v t:Value} (h:ChIn W (.slice eA en ec) v t x):en = x.evs.length:=by
 obtain ⟨_,_,_,heq,hn,_⟩:=Rd.strs h.evs
 cases heq
 exact hn.symm
set_option maxHeartbeats 2000000 in
theorem pput_bad (x:Cx) (eA:Option Addr) (en ec:Nat) (vA:Option Addr) (vn vc:Nat) (sA:Option Addr) (sn sc:Nat) (w:World) (h:ChIn w (.slice eA en ec) (.slice vA vn vc) (.slice sA sn sc) x) (hf:FitM x) (hen9:en ≤ 9223372036854775807) (hvn9:vn ≤ 9223372036854775807) (hm:mayC x = false) :
 Calls Tryz.prog 7 #[.agg #[.string x.s,.slice eA en ec,.slice vA vn vc,.slice sA sn sc]] w (RetPP w ⟨#[]⟩ 1):=by
 have HC:Hid (Calls Tryz.prog 9 #[.agg #[.string x.s,.slice eA en ec,.slice vA vn vc,.slice sA sn sc]] (w.alloc (.cells #[.string x.s,.slice eA en ec,.slice vA vn vc,.slice sA sn sc] 26)) (RetI (w.alloc (.cells #[.string x.s,.slice eA en ec,.slice vA vn vc,.slice sA sn sc] 26)) 1)):=Lib.hid (by
  have:=pcheck_any x eA en ec vA vn vc sA sn sc _ (h.keep (KitC.below_one _ (.cells #[.string x.s,.slice eA en ec,.slice vA vn vc,.slice sA sn sc] 26))) hf hen9 hvn9
  rwa [hm] at this)
 obtain ⟨s,evs,vars,sts⟩:=x
 simp only at HC
 clear h hf hm
 go_enter Tryz.func7,Tryz.ntmps7
 go_wp2_with (go_at_call 9; (with_reducible refine HC.out.mono ?_))
 rintro e w2 ⟨rfl,hb2⟩
 have HB2:=Lib.hid (below_two' (KitC.below_one _ _) hb2)
 clear hb2
 go_wp2_with fail
 go_ret2
 exact ⟨rfl,HB2.out⟩
theorem toks_bad {s:ByteArray} {W w:World} {e:Ending} (h:TokPost W s e w) (h0:(scanT s.data.toList).2.2 ≠ 0) :
 ∃ a c er:Int,e = .returned (.tuple #[.slice none 0 0,.agg #[.int .i64 a,.int .i64 c],.int .i64 er]) ∧ (er != 0) = true ∧ Below W.heap.size W w :=
 ⟨_,_,_,h.2.1 h0,by simpa using h0,h.1⟩
set_option maxHeartbeats 4000000 in
theorem pput_tree (c:Tc) (eA:Option Addr) (en ec:Nat) (vA:Option Addr) (vn vc:Nat) (sA:Option Addr) (sn sc:Nat) (w:World) (hp:PairsIn w) (hg:SignsIn w) (h:ChIn w (.slice eA en ec) (.slice vA vn vc) (.slice sA sn sc) c.cx) (ok:c.Ok) :
 ((scanT (T (bs (putC c)))).2.2 = 0 → Calls Tryz.prog 7 #[.agg #[.string c.s,.slice eA en ec,.slice vA vn vc,.slice sA sn sc]] w (RetPP w (bs (putC c)) 0)) ∧
 ((scanT (T (bs (putC c)))).2.2 ≠ 0 → Calls Tryz.prog 7 #[.agg #[.string c.s,.slice eA en ec,.slice vA vn vc,.slice sA sn sc]] w (RetPP w ⟨#[]⟩ 5)):=by
 have hen:en ≤ 9223372036854775807:=by have:=cx_evs h; have:=ok.evf; rw [show c.cx.evs = c.evs from rfl] at *; omega
 have hvn:vn ≤ 9223372036854775807:=by have:=(RdV.len h.vars).1; have:=ok.vaf; rw [show c.cx.vars = c.vars from rfl] at *; omega
 obtain ⟨W1,hW1⟩:∃ W1,w.alloc (.cells #[.string c.s,.slice eA en ec,.slice vA vn vc,.slice sA sn sc] 26) = W1:=⟨_,rfl⟩
 have hb1:Below w.heap.size w W1:=by rw [← hW1]; exact KitC.below_one _ _
 have hk1:W1.heap[w.heap.size]? = some (.cells #[.string c.s,.slice eA en ec,.slice vA vn vc,.slice sA sn sc] 26 (0,0)):=by rw [← hW1]; exact heap_alloc_new _ _
 have HK:=Lib.hid (fun W (hW:Below W1.heap.size W1 W) => cells_4 (KitC.block_on hk1 hW))
 have HC:Hid (Calls Tryz.prog 9 #[.agg #[.string c.s,.slice eA en ec,.slice vA vn vc,.slice sA sn sc]] W1 (RetI W1 0)):=Lib.hid (by
  have:=pcheck_any c.cx eA en ec vA vn vc sA sn sc W1 (h.keep hb1) (chart_fits ok) hen hvn
  rwa [mayC_of ok] at this)
 have HT:=Lib.hid (fun W (hW:Below W1.heap.size W1 W) => wtext_any c eA en ec vA vn vc sA sn sc W (h.keep (below_two' hb1 hW)) ok (hg.keep (below_two' hb1 hW)))
 obtain ⟨s,hs⟩:∃ s,s = bs (putC c):=⟨_,rfl⟩
 rw [← hs] at HT ⊢
 have HS:=Lib.hid (fun W (hW:Below W1.heap.size W1 W) => stoks_any s W (hp.keep (below_two' hb1 hW)))
 obtain ⟨c0,c1,c2,c3⟩:=cells_4 hk1
 have HW1:=Lib.hid hW1
 have HB1:=Lib.hid hb1
 obtain ⟨nm,evs,vars,sts⟩:=c
 simp only at HK HC HT HW1 c0
 clear hen hvn h ok hg hp hs hW1 hb1 hk1
 refine ⟨fun h0 => ?_,fun h0 => ?_⟩
 ·have HX:=Lib.hid (fun W e w' (h:TokPost W s e w') => toks_at h h0)
  clear h0
  go_enter Tryz.func7,Tryz.ntmps7
  go_wp2_with (rw [HW1.out]; go_at_call 9; (with_reducible refine HC.out.mono ?_))
  rintro e w2 ⟨rfl,hb2⟩
  have HB2:=Lib.hid hb2
  clear c0 c1 c2 c3
  obtain ⟨c0,c1,c2,c3⟩:=HK.out _ hb2
  clear hb2
  go_wp2_with (go_at_call 16; (with_reducible refine (HT.out _ HB2.out).mono ?_))
  rintro e w3 ⟨rfl,hb3⟩
  have HB3:=Lib.hid (below_two' HB2.out hb3)
  clear hb3
  go_wp2_with (go_at_call 17; (with_reducible refine (HS.out _ HB3.out).mono ?_))
  intro e w4 hx
  obtain ⟨A,n,cp,rfl,-,-,hb4⟩:=HX.out _ _ _ hx
  have HB4:=Lib.hid (below_two' HB3.out hb4)
  clear hx hb4
  go_wp2_with fail
  go_ret2
  exact ⟨rfl,below_two' HB1.out (below_two' HB4.out (KitC.below_one _ _))⟩
 ·have HX:=Lib.hid (fun W e w' (h:TokPost W s e w') => toks_bad h h0)
  clear h0
  go_enter Tryz.func7,Tryz.ntmps7
  go_wp2_with (rw [HW1.out]; go_at_call 9; (with_reducible refine HC.out.mono ?_))
  rintro e w2 ⟨rfl,hb2⟩
  have HB2:=Lib.hid hb2
  clear c0 c1 c2 c3
  obtain ⟨c0,c1,c2,c3⟩:=HK.out _ hb2
  clear hb2
  go_wp2_with (go_at_call 16; (with_reducible refine (HT.out _ HB2.out).mono ?_))
  rintro e w3 ⟨rfl,hb3⟩
  have HB3:=Lib.hid (below_two' HB2.out hb3)
  clear hb3
  go_wp2_with (go_at_call 17; (with_reducible refine (HS.out _ HB3.out).mono ?_))
  intro e w4 hx
  obtain ⟨a,c,er,rfl,g1,hb4⟩:=HX.out _ _ _ hx
  have HB4:=Lib.hid (below_two' HB3.out hb4)
  clear hx hb4
  go_wp2_with fail
  go_ret2
  exact ⟨rfl,below_two' HB1.out (below_two' HB4.out (KitC.below_one _ _))⟩
theorem print_says (w:World) (hp:PairsIn w) (hg:SignsIn w):PrintSays w where
 ok:=fun c eA en ec vA vn vc sA sn sc W hW h ok k1 k2 => (pput_tree c eA en ec vA vn vc sA sn sc W (hp.keep hW) (hg.keep hW) h ok).1 (parse_put ok k1 k2).1
 long:=fun c eA en ec vA vn vc sA sn sc W hW h ok k => (pput_tree c eA en ec vA vn vc sA sn sc W (hp.keep hW) (hg.keep hW) h ok).2 (scan_long (by rw [T_bs]; exact ln_chart ok) k)
 bad:=fun x eA en ec vA vn vc sA sn sc W _ h hf hl hm => pput_bad x eA en ec vA vn vc sA sn sc W h hf (by have:=cx_evs h; have:=hl.evl; omega) (by have:=(RdV.len h.vars).1; have:=hl.val; omega) hm
 check:=fun x eA en ec vA vn vc sA sn sc W _ h hf hl => pcheck_any x eA en ec vA vn vc sA sn sc W h hf (by have:=cx_evs h; have:=hl.evl; omega) (by have:=(RdV.len h.vars).1; have:=hl.val; omega)
end Go.Proofs.YtcofikjpplkjdaaGreatDoor
namespace Go.Proofs.YtcofikjpplkjdaaGreatDoor
open Go.RowKit Go.Sort TermSpec EvalSpec ActSpec NamesSpec ExprSpec TransSpec SynSpec PrintSpec
set_option maxRecDepth 100000
theorem walk_PrintLong (a b:Int) (w:World) (hp:PairsIn w) (hg:SignsIn w) (ha:(Lit.int .u8 a).wf = true) (hb:(Lit.int .u8 b).wf = true) :
 Calls Tryz.prog 4 #[.int .u8 a,.int .u8 b] w fun e w' => e = .returned (.bool true) ∧ Below w.heap.size w w' :=
 says_long a b w hp hg (print_says w hp hg) ha hb
end Go.Proofs.YtcofikjpplkjdaaGreatDoor
namespace Go.Proofs.YtcofikjpplkjdaaGreatDoor
open Go.RowKit
theorem cells_of_strs {H:Type} {enc:TypeId × Value → H} {P:Program} {w:World} {base:Nat} {sp:Nat → Bool} {held:Bool} {fuel:Nat} {t e:TypeId} {n:Nat} {cs:List Value} {bs:List (List UInt8)} {p:List MemPlace}
 (ht:P.underlying t = some (.array n e)) (he:P.underlying e = some .string) (hce:P.cellsOf e = 1) (hct:P.cellsOf t = n)
 (h:DataW.trod enc P w base sp held fuel t cs = some (.agg (bs.map fun b => .lit (.string b)),p)):cs = bs.map fun b => Value.string ⟨b.toArray⟩:=by
 obtain ⟨xs,m,rfl,hx,hl,hxl,hel⟩:=DataW.trod_array ht h
 simp only [Prod.mk.injEq,DataW.agg.injEq] at hx
 have hxs:=hx.1
 have hbl:bs.length = n:=by
  have:=congrArg List.length hxs
  simp at this
  omega
 rw [hct] at hl
 apply List.ext_getElem?
 intro i
 by_cases hi:i < n
 ·obtain ⟨b,hb⟩:∃ b,xs[i]? = some b:=get_some (by omega)
  have hf:=(hel i hi).trans hb
  rw [hce,Nat.mul_one] at hf
  obtain ⟨s,hc,rfl,_⟩:=DataW.trod_string he hf
  have h1:cs[i]? = some (.string s):=by
   have:=congrArg (·[0]?) hc
   simpa [List.getElem?_take,List.getElem?_drop] using this
  have h2:(xs.map (·.1))[i]? = some (DataW.lit (.string s.data.toList):DataW H):=by simp [hb]
  rw [← hxs] at h2
  simp only [List.getElem?_map,Option.map_eq_some_iff,DataW.lit.injEq,Lit.string.injEq] at h2
  obtain ⟨z,hz,rfl⟩:=h2
  simp [h1,hz]
 ·rw [List.getElem?_eq_none (by omega),List.getElem?_eq_none (by simp; omega)]
end Go.Proofs.YtcofikjpplkjdaaGreatDoor
namespace Go.Proofs.YtcofikjpplkjdaaGreatDoor
open Go.RowKit ScanSpec
set_option maxRecDepth 100000
def pairsB:List (List UInt8):=[[45,62],[58,61],[60,61],[62,61],[33,61],[61,61],[46,46]]
theorem gPairs : Tryz.prog.globalNamed "semblance/scan.pairs" = some 0 := by kernel_rfl
theorem tPairs:(Tryz.prog.globals[0]?).map (·.type) = some 178:=by kernel_rfl
theorem pairs_in {W : World} {rest : List (String × DataW Unit)} (h : laidMet Tryz.prog (("semblance/scan.pairs", Rows.laid_semblance_scan_pairs) :: rest) W) : PairsIn W := by
 obtain ⟨ps,⟨g',t',cs,fuel,p,q,hg',ht',hvar,hd,_,_⟩,_⟩:=h
 obtain rfl:=Option.some.inj (gPairs.symm.trans hg')
 obtain rfl:=Option.some.inj (tPairs.symm.trans ht')
 have hc:=cells_of_strs (bs:=pairsB) Tryz.underlying178 Tryz.underlying9 (by kernel_rfl) (by kernel_rfl) hd
 have e:cs = pairsV:=Array.toList_inj.mp hc
 subst e
 unfold World.var? at hvar
 rw [gPairs] at hvar
 simp only [Option.bind_some] at hvar
 split at hvar
 ·rename_i cs' T fr hb
  cases hvar
  exact ⟨T,fr,hb⟩
 ·cases hvar
end Go.Proofs.YtcofikjpplkjdaaGreatDoor
namespace Go.Proofs.YtcofikjpplkjdaaGreatDoor
open Go.RowKit ExprSpec
set_option maxRecDepth 100000
theorem list5 {α:Type} {l:List α} (h:l.length = 5):∃ a b c d e,l = [a,b,c,d,e]:=by
 match l,h with
 | [a,b,c,d,e],_ => exact ⟨a,b,c,d,e,rfl⟩
def sgD {H:Type} (s:Sg):DataW H:=.agg [.lit (.string s.t.data.toList),.lit (.int .i64 s.op),.lit (.int .i64 s.lev),.lit (.int .i64 s.left),.lit (.int .i64 s.right)]
theorem sg_cells:Tryz.prog.cellsOf 190 = 5:=by kernel_rfl
theorem sg_table:Tryz.prog.cellsOf 198 = 55:=by kernel_rfl
theorem sg_str:Tryz.prog.cellsOf 9 = 1:=by kernel_rfl
theorem sg_int:Tryz.prog.cellsOf 3 = 1:=by kernel_rfl
theorem sign_part {H:Type} {enc:TypeId × Value → H} {w:World} {base:Nat} {sp:Nat → Bool} {held:Bool} {fuel:Nat} {cs:List Value} {s:Sg} {p:List MemPlace}
 (h:DataW.trod enc Tryz.prog w base sp held fuel 190 cs = some (sgD s,p)):cs = sgC s:=by
 obtain ⟨xs,n,_,hx,hl,hlen,hf⟩:=DataW.trod_struct Tryz.underlying190 h
 obtain ⟨a,b,c,d,e,rfl⟩:=list5 (hl.trans sg_cells)
 obtain ⟨y0,y1,y2,y3,y4,rfl⟩:=list5 hlen
 have g0:DataW.trod enc Tryz.prog w base sp held n 9 (([a,b,c,d,e].drop 0).take (Tryz.prog.cellsOf 9)) = some y0:=hf 0 _ rfl
 rw [sg_str] at g0
 have g1:DataW.trod enc Tryz.prog w base sp held n 3 (([a,b,c,d,e].drop 1).take (Tryz.prog.cellsOf 3)) = some y1:=hf 1 _ rfl
 rw [sg_int] at g1
 have g2:DataW.trod enc Tryz.prog w base sp held n 3 (([a,b,c,d,e].drop 2).take (Tryz.prog.cellsOf 3)) = some y2:=hf 2 _ rfl
 rw [sg_int] at g2
 have g3:DataW.trod enc Tryz.prog w base sp held n 3 (([a,b,c,d,e].drop 3).take (Tryz.prog.cellsOf 3)) = some y3:=hf 3 _ rfl
 rw [sg_int] at g3
 have g4:DataW.trod enc Tryz.prog w base sp held n 3 (([a,b,c,d,e].drop 4).take (Tryz.prog.cellsOf 3)) = some y4:=hf 4 _ rfl
 rw [sg_int] at g4
 obtain ⟨s0,c0,rfl,-⟩:=DataW.trod_string Tryz.underlying9 g0
 obtain ⟨n1,c1,rfl,-⟩:=DataW.trod_int Tryz.underlying3 g1
 obtain ⟨n2,c2,rfl,-⟩:=DataW.trod_int Tryz.underlying3 g2
 obtain ⟨n3,c3,rfl,-⟩:=DataW.trod_int Tryz.underlying3 g3
 obtain ⟨n4,c4,rfl,-⟩:=DataW.trod_int Tryz.underlying3 g4
 simp at c0 c1 c2 c3 c4
 subst c0 c1 c2 c3 c4
 simp only [sgD,List.map_cons,List.map_nil,Prod.mk.injEq,DataW.agg.injEq,List.cons.injEq,DataW.lit.injEq,Lit.string.injEq,Lit.int.injEq,true_and,and_true] at hx
 obtain ⟨⟨h0,h1,h2,h3,h4⟩,-⟩:=hx
 have h0':s.t = s0:=ByteArray.ext (Array.toList_inj.mp h0)
 subst h0' h1 h2 h3 h4
 rfl
theorem flat_parts {α β:Type} {g:α → List β} {k:Nat} (hg:∀ a,(g a).length = k):∀ (L:List α) (cs:List β),cs.length = L.length * k → (∀ i a,L[i]? = some a → (cs.drop (i * k)).take k = g a) → cs = L.flatMap g
 | [],cs,hl,_ => by simpa using hl
 | a :: L,cs,hl,h => by
   have h0:=h 0 a rfl
   rw [Nat.zero_mul,List.drop_zero] at h0
   rw [List.length_cons,Nat.succ_mul] at hl
   have ih:=flat_parts hg L (cs.drop k) (by rw [List.length_drop]; omega) (fun i b hb => by
    rw [List.drop_drop,show k + i * k = (i + 1) * k by rw [Nat.succ_mul]; omega]
    exact h (i + 1) b hb)
   rw [List.flatMap_cons,← ih,← h0,List.take_append_drop]
theorem gSigns : Tryz.prog.globalNamed "semblance/expr.signs" = some 2 := by kernel_rfl
theorem tSigns:(Tryz.prog.globals[2]?).map (·.type) = some 198:=by kernel_rfl
theorem laid_signs {H:Type}:(Rows.laid_semblance_expr_signs:DataW H) = .agg (sgs.map sgD):=rfl
theorem signs_one {W : World} {rest : List (String × DataW Unit)} (h : laidMet Tryz.prog (("semblance/expr.signs", Rows.laid_semblance_expr_signs) :: rest) W) : SignsIn W := by
 obtain ⟨ps,⟨g',t',cs,fuel,p,q,hg',ht',hvar,hd,_,_⟩,_⟩:=h
 obtain rfl:=Option.some.inj (gSigns.symm.trans hg')
 obtain rfl:=Option.some.inj (tSigns.symm.trans ht')
 rw [laid_signs] at hd
 obtain ⟨xs,m,_,hx,hl,hxl,hel⟩:=DataW.trod_array Tryz.underlying198 hd
 simp only [Prod.mk.injEq,DataW.agg.injEq] at hx
 have hxs:=hx.1
 rw [sg_table] at hl
 have hc:cs.toList = sgs.flatMap sgC:=by
  refine flat_parts (k:=5) (fun s => rfl) sgs _ (by rw [hl]; rfl) (fun i s hs => ?_)
  have hi:i < 11:=by have:=get_lt hs; rwa [sgs_len] at this
  obtain ⟨y,hy⟩:∃ y,xs[i]? = some y:=get_some (by omega)
  have hf:=(hel i hi).trans hy
  rw [sg_cells] at hf
  have h2:(xs.map (·.1))[i]? = some y.1:=by simp [hy]
  rw [← hxs,List.getElem?_map,hs] at h2
  have h3:sgD s = y.1:=Option.some.inj h2
  obtain ⟨y1,y2⟩:=y
  subst h3
  exact sign_part hf
 have e:cs = signsV:=Array.toList_inj.mp hc
 subst e
 unfold World.var? at hvar
 rw [gSigns] at hvar
 simp only [Option.bind_some] at hvar
 split at hvar
 ·rename_i cs' T fr hb
  cases hvar
  exact ⟨T,fr,hb⟩
 ·cases hvar
theorem signs_in {W : World} {x : String × DataW Unit} {rest : List (String × DataW Unit)} (h : laidMet Tryz.prog (x :: ("semblance/expr.signs", Rows.laid_semblance_expr_signs) :: rest) W) : SignsIn W := signs_one (laidMet.tail h)
end Go.Proofs.YtcofikjpplkjdaaGreatDoor