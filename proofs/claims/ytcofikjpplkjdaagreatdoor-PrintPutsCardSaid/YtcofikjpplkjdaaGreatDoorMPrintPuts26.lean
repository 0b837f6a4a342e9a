/- PrintAwake, OpenN, OpenD, TermOpen, EvalOpen, ActMem, ActVar, ActOpen, TransOpen, ShapeOpen, PrintOpen, PrintSays, PrintPutP, PrintLaws, Laid, ScanLaid, ExprLaid, joined. -/
import Derived.Test.YtcofikjpplkjdaaGreatDoorMPrintPuts25
import Derived.Test.YtcofikjpplkjdaaGreatDoorMPrintPuts01
import Derived.ProofKit
import Derived.OpenShut
import Derived.Deep.Slices
import Derived.Test.YtcofikjpplkjdaaGreatDoorRows
import Derived.Lib.SmallJoins
import Derived.Test.YtcofikjpplkjdaaGreatDoorMPrintPuts02
import Derived.Test.YtcofikjpplkjdaaGreatDoorMPrintPuts06
import Derived.Test.YtcofikjpplkjdaaGreatDoorMPrintPuts00
import Derived.BigQuiet
import Derived.Lib.QuietBelow
import Derived.Test.YtcofikjpplkjdaaGreatDoorMPrintPuts07
import Derived.Test.YtcofikjpplkjdaaGreatDoorMPrintPuts13
import Derived.Test.YtcofikjpplkjdaaGreatDoorMPrintPuts14
import Derived.Test.YtcofikjpplkjdaaGreatDoorMPrintPuts18
import Derived.Test.YtcofikjpplkjdaaGreatDoorMPrintPuts23
import Derived.LaidLaws
import Derived.ChangeArms
import Derived.Lib.LaidTab
import Derived.Test.YtcofikjpplkjdaaGreatDoorMPrintPuts11
import Derived.LaidMore
import Derived.Stop.Joined
import Derived.Test.YtcofikjpplkjdaaGreatDoorMPrintPuts04
import Derived.Stop.LaidErr
namespace Go.Proofs.YtcofikjpplkjdaaGreatDoor
open Go.RowKit Go.Sort TermSpec EvalSpec ActSpec NamesSpec ExprSpec TransSpec SynSpec PrintSpec
set_option maxRecDepth 100000
def awT:Tt:=⟨⟨#[103,111]⟩,none,[],⟨#[]⟩⟩
def awC:Tc:=⟨⟨#[99]⟩,[⟨#[103,111]⟩],[⟨⟨#[110]⟩,-1,3,0⟩],[topG,⟨⟨#[97]⟩,1,0,[],[],[awT]⟩]⟩
theorem aw_text:bs (putC awC) = ⟨#[99,104,97,114,116,32,99,32,123,10,32,32,101,118,101,110,116,32,103,111,59,10,32,32,118,97,114,32,110,32,45,49,32,46,46,32,51,32,61,32,48,59,10,32,32,111,114,32,116,111,112,32,123,10,32,32,32,32,108,101,97,102,32,97,32,123,10,32,32,32,32,32,32,111,110,32,103,111,59,10,32,32,32,32,125,10,32,32,125,10,125,10]⟩:=by kernel_rfl
theorem aw_len:(putC awC).length ≤ 65536 ∧ (chK awC).length ≤ 4000:=by decide +kernel
theorem awT_ok:awT.Ok:=by
 refine ⟨by decide +kernel,by decide +kernel,?_,?_,by decide⟩
 ·intro e he
  cases he
 ·intro t ht
  cases ht
theorem aw_ok:awC.Ok:=by
 refine ⟨(by decide +kernel),(by decide),(by decide),(by decide +kernel),?_,?_,?_⟩
 ·intro e he
  rw [List.mem_singleton.1 he]
  decide +kernel
 ·intro v hv
  rw [List.mem_singleton.1 hv]
  decide +kernel
 ·intro t ht
  rcases List.mem_cons.1 ht with rfl | ht
  ·exact ⟨by decide +kernel,(fun e he => by cases he),by decide,(fun e he => by cases he),by decide,(fun e he => by cases he),by decide⟩
  ·rw [List.mem_singleton.1 ht]
   refine ⟨by decide +kernel,(fun e he => by cases he),by decide,(fun e he => by cases he),by decide,?_,by decide⟩
   intro u hu
   rw [List.mem_singleton.1 hu]
   exact awT_ok
theorem vb_aw (s:ByteArray) (a b:Int) (w:World):(Instr.build 53 #[(0,.string s),(1,.int .i64 a),(2,.int .i64 b)]).run Tryz.prog w = .ok (.agg #[.string s,.int .i64 a,.int .i64 b,.int .i64 0]) w:=run_build w 53 _ _ (by kernel_rfl)
theorem tb_aw (s:ByteArray) (w:World):(Instr.build 49 #[(0,.string s)]).run Tryz.prog w = .ok (.agg #[.string s,.slice none 0 0,.slice none 0 0,.string ⟨#[]⟩]) w:=run_build w 49 _ _ (by kernel_rfl)
theorem sb_aw (s:ByteArray) (a:Int) (A:Option Addr) (n c:Nat) (w:World):(Instr.build 42 #[(0,.string s),(1,.int .i64 a),(5,.slice A n c)]).run Tryz.prog w = .ok (.agg #[.string s,.int .i64 a,.int .i64 0,.slice none 0 0,.slice none 0 0,.slice A n c]) w:=run_build w 42 _ _ (by kernel_rfl)
theorem cb_aw (s:ByteArray) (A A' B:Option Addr) (n c n' c' m d:Nat) (w:World):(Instr.build 26 #[(0,.string s),(1,.slice A n c),(2,.slice A' n' c'),(3,.slice B m d)]).run Tryz.prog w = .ok (.agg #[.string s,.slice A n c,.slice A' n' c',.slice B m d]) w:=run_build w 26 _ _ (by kernel_rfl)
abbrev awE:Obj:=.cells #[.string ⟨#[103,111]⟩] 9
abbrev awV:Obj:=.cells #[.string ⟨#[110]⟩,.int .i64 (-1),.int .i64 3,.int .i64 0] 53
abbrev awR:Obj:=.cells #[.string ⟨#[103,111]⟩,.slice none 0 0,.slice none 0 0,.string ⟨#[]⟩] 49
abbrev awS (k:Nat):Obj:=.cells #[.string ⟨#[116,111,112]⟩,.int .i64 2,.int .i64 (-1),.slice none 0 0,.slice none 0 0,.slice none 0 0,.string ⟨#[97]⟩,.int .i64 1,.int .i64 0,.slice none 0 0,.slice none 0 0,.slice (some ⟨k,0,none⟩) 1 1] 42
set_option maxRecDepth 100000 in
set_option maxHeartbeats 4000000 in
theorem pawake_any (w:World)
 (hok:∀ (c:Tc) (eA:Option Addr) (en ec:Nat) (vA:Option Addr) (vn vc:Nat) (sA:Option Addr) (sn sc:Nat) (W:World),Below w.heap.size w W → ChIn W (.slice eA en ec) (.slice vA vn vc) (.slice sA sn sc) c.cx → c.Ok → (putC c).length ≤ 65536 → (chK c).length ≤ 4000 → Calls Tryz.prog 7 #[.agg #[.string c.s,.slice eA en ec,.slice vA vn vc,.slice sA sn sc]] W (RetPP W (bs (putC c)) 0)) :
 Calls Tryz.prog 6 #[] w (RetB w true):=by
 have b1:=vb_aw
 have b2:=tb_aw
 have b3:=sb_aw
 have b4:=cb_aw
 have b5:=sb_top
 obtain ⟨W4,hW4⟩:∃ W4,(((w.alloc awE).alloc awV).alloc awR).alloc (awS (w.heap.size + 1 + 1)) = W4:=⟨_,rfl⟩
 have q1:=KitC.below_one w awE
 have q2:=KitC.below_one (w.alloc awE) awV
 have q3:=KitC.below_one ((w.alloc awE).alloc awV) awR
 have q4:=KitC.below_one (((w.alloc awE).alloc awV).alloc awR) (awS (w.heap.size + 1 + 1))
 rw [hW4] at q4
 have hb4:=below_two' q1 (below_two' q2 (below_two' q3 q4))
 have h1:=KitC.block_on (heap_alloc_new w awE) (below_two' q2 (below_two' q3 q4))
 have h2:=KitC.block_on (heap_alloc_new (w.alloc awE) awV) (below_two' q3 q4)
 have h3:=KitC.block_on (heap_alloc_new ((w.alloc awE).alloc awV) awR) q4
 have h4:=heap_alloc_new (((w.alloc awE).alloc awV).alloc awR) (awS (w.heap.size + 1 + 1))
 rw [hW4] at h4
 rw [World.size_alloc] at h2
 rw [World.size_alloc,World.size_alloc] at h3
 rw [World.size_alloc,World.size_alloc,World.size_alloc] at h4
 have hz:∀ x,Acs x (.slice none 0 0) []:=fun x => acs_nil x
 have hin:ChIn W4 (.slice (some ⟨w.heap.size,0,none⟩) 1 1) (.slice (some ⟨w.heap.size + 1,0,none⟩) 1 1) (.slice (some ⟨w.heap.size + 1 + 1 + 1,0,none⟩) 2 2) awC.cx:=by
  refine ⟨⟨_,1,1,rfl,rfl,Nat.le_refl _,fun _ => ⟨w.heap.size,0,rfl,(Array.getElem?_eq_some_iff.1 h1).1,fun j u hj => ?_⟩⟩,rdk_whole h2 rfl rfl (Nat.le_refl _),?_⟩
  ·rw [Nat.zero_add]
   exact cell_of_block' h1 (i:=j) (by rw [← Array.getElem?_toList]; exact hj)
  ·refine ⟨[topP,⟨⟨⟨#[97]⟩,1,0,[],[],[awT.tr]⟩,none,0,0,none,0,0,some ⟨w.heap.size + 1 + 1,0,none⟩,1,1⟩],rfl,rdk_whole h4 rfl rfl (Nat.le_refl _),fun p hp => ?_⟩
   rcases List.mem_cons.1 hp with rfl | hp
   ·exact ⟨hz _,hz _,⟨[],rfl,Rdk.nil 4 _,by simp⟩⟩
   ·rw [List.mem_singleton.1 hp]
    refine ⟨hz _,hz _,⟨[⟨awT.tr,none,0,0,none,0,0⟩],rfl,rdk_whole h3 rfl rfl (Nat.le_refl _),fun q hq => ?_⟩⟩
    rw [List.mem_singleton.1 hq]
    exact ⟨tmsNil _,hz _⟩
 obtain ⟨P,hP⟩:∃ P:ByteArray,P = ⟨#[99,104,97,114,116,32,99,32,123,10,32,32,101,118,101,110,116,32,103,111,59,10,32,32,118,97,114,32,110,32,45,49,32,46,46,32,51,32,61,32,48,59,10,32,32,111,114,32,116,111,112,32,123,10,32,32,32,32,108,101,97,102,32,97,32,123,10,32,32,32,32,32,32,111,110,32,103,111,59,10,32,32,32,32,125,10,32,32,125,10,125,10]⟩:=⟨_,rfl⟩
 have HP:=Lib.hid (show Calls Tryz.prog 7 #[.agg #[.string ⟨#[99]⟩,.slice (some ⟨w.heap.size,0,none⟩) 1 1,.slice (some ⟨w.heap.size + 1,0,none⟩) 1 1,.slice (some ⟨w.heap.size + 1 + 1 + 1,0,none⟩) 2 2]] W4 (RetPP W4 (bs (putC awC)) 0) from hok awC _ _ _ _ _ _ _ _ _ W4 hb4 hin aw_ok aw_len.1 aw_len.2)
 rw [aw_text,← hP] at HP
 have g1:(P.toList == [99,104,97,114,116,32,99,32,123,10,32,32,101,118,101,110,116,32,103,111,59,10,32,32,118,97,114,32,110,32,45,49,32,46,46,32,51,32,61,32,48,59,10,32,32,111,114,32,116,111,112,32,123,10,32,32,32,32,108,101,97,102,32,97,32,123,10,32,32,32,32,32,32,111,110,32,103,111,59,10,32,32,32,32,125,10,32,32,125,10,125,10]) = true:=by rw [hP]; kernel_rfl
 have HB:=Lib.hid hb4
 have HW4:=Lib.hid hW4
 clear hok hW4 q1 q2 q3 q4 hb4 h1 h2 h3 h4 hz hin hP
 go_enter Tryz.func6,Tryz.ntmps6
 go_wp2_with (rw [HW4.out]; go_at_call 7; (with_reducible refine HP.out.mono ?_))
 rintro e w5 ⟨rfl,hb⟩
 have HB5:=Lib.hid (below_two' HB.out hb)
 clear hb
 go_wp2_with fail
 go_ret
 exact ⟨rfl,HB5.out⟩
end Go.Proofs.YtcofikjpplkjdaaGreatDoor
namespace Go.Proofs.YtcofikjpplkjdaaGreatDoor
open Go.RowKit Go.ChangeShapes Go.WideShapes Go.Deep
theorem cell_there' {w:World} {b o:Nat} {u:Value} (h:w.cell? ⟨b,o,none⟩ = some u):b < w.heap.size:=by
 rcases Nat.lt_or_ge b w.heap.size with hlt | hge
 ·exact hlt
 ·simp [World.cell?,Array.getElem?_eq_none hge] at h
theorem list_of {α:Type} {R:Nat → α → Prop}:∀ n,(∀ i,i < n → ∃ a,R i a) → ∃ l:List α,l.length = n ∧ ∀ i a,l[i]? = some a → R i a
 | 0,_ => ⟨[],rfl,fun i a h => by simp at h⟩
 | n + 1,h => by
   obtain ⟨l,hl,hR⟩:=list_of n (fun i hi => h i (by omega))
   obtain ⟨a,ha⟩:=h n (by omega)
   refine ⟨l ++ [a],by simp [hl],fun i b hb => ?_⟩
   rcases Nat.lt_or_ge i l.length with hlt | hge
   ·rw [List.getElem?_append_left hlt] at hb
    exact hR i b hb
   ·rw [List.getElem?_append_right hge] at hb
    obtain hi:i - l.length = 0:=by
     have:=(List.getElem?_eq_some_iff.1 hb).1
     simp at this
     omega
    rw [hi] at hb
    simp at hb
    subst hb
    obtain rfl:i = n:=by omega
    exact ha
theorem flat_at {α:Type} {k:Nat} {f:α → List Value} (hf:∀ a,(f a).length = k) (hk:0 < k) {l:List α} {q:Nat} {u:Value} (h:(l.flatMap f)[q]? = some u):∃ a,l[q / k]? = some a ∧ (f a)[q % k]? = some u:=by
 have hq:q < l.length * k:=by have:=(List.getElem?_eq_some_iff.1 h).1; rwa [flat_length hf] at this
 have hi:q / k < l.length:=Nat.div_lt_of_lt_mul (by rwa [Nat.mul_comm] at hq)
 refine ⟨l[q / k],List.getElem?_eq_getElem hi,?_⟩
 rw [← flat_get hf (List.getElem?_eq_getElem hi) (Nat.mod_lt q hk),Nat.mul_comm (q / k) k,Nat.div_add_mod]
 exact h
end Go.Proofs.YtcofikjpplkjdaaGreatDoor
namespace Go.Proofs.YtcofikjpplkjdaaGreatDoor
namespace OpenD
open Go.RowKit Go.ChangeShapes Go.WideShapes Go.Deep
set_option maxRecDepth 100000
theorem cells_int:Tryz.prog.cellsOf 3 = 1:=by kernel_rfl
theorem cells_str:Tryz.prog.cellsOf 9 = 1:=by kernel_rfl
section
variable {H:Type} {enc:TypeId × Value → H} {W:World} {base:Nat} {spare:Nat → Bool} {held:Bool}
theorem dec_int {n:Nat} {c:Value} {x:Option (DataW H × List MemPlace)} (h:DataW.trod enc Tryz.prog W base spare held n 3 [c] = x) (hx:x.isSome):∃ k,c = .int .i64 k:=by
 obtain ⟨y,rfl⟩:=Option.isSome_iff_exists.1 hx
 obtain ⟨k,hc,_⟩:=DataW.trod_int Tryz.underlying3 h
 simp at hc
 exact ⟨k,hc⟩
theorem dec_str {n:Nat} {c:Value} {x:Option (DataW H × List MemPlace)} (h:DataW.trod enc Tryz.prog W base spare held n 9 [c] = x) (hx:x.isSome):∃ s:ByteArray,c = .string s ∧ s.size ≤ 9223372036854775807:=by
 obtain ⟨y,rfl⟩:=Option.isSome_iff_exists.1 hx
 obtain ⟨s,hc,_,hs⟩:=DataW.trod_string Tryz.underlying9 h
 simp at hc
 exact ⟨s,hc,hs⟩
theorem some_at {α:Type} {l:List α} {i:Nat} (h:i < l.length):(l[i]?).isSome:=by rw [List.getElem?_eq_getElem h]; rfl
end
end OpenD
end Go.Proofs.YtcofikjpplkjdaaGreatDoor
namespace Go.Proofs.YtcofikjpplkjdaaGreatDoor
open Go.RowKit Go.ChangeShapes Go.WideShapes Go.Deep TermSpec OpenD
set_option maxRecDepth 100000
theorem cells_term:Tryz.prog.cellsOf 44 = 3:=by kernel_rfl
section
variable {H:Type} {enc:TypeId × Value → H} {W:World} {base:Nat} {spare:Nat → Bool} {held:Bool}
theorem dec_term (n:Nat) (cs:List Value) (x:DataW H × List MemPlace) (h:DataW.trod enc Tryz.prog W base spare held n 44 cs = some x):∃ t:Tm,cs = tmV t ∧ t.s.size ≤ 9223372036854775807:=by
 obtain ⟨xs,m,_,_,hl,hxl,hg⟩:=DataW.trod_struct Tryz.underlying44 h
 rw [cells_term] at hl
 have hxl':xs.length = 3:=hxl
 match cs,hl with
 | [c0,c1,c2],_ =>
   have g0:DataW.trod enc Tryz.prog W base spare held m 3 (([c0,c1,c2].drop 0).take (Tryz.prog.cellsOf 3)) = xs[0]?:=hg 0 _ rfl
   have g1:DataW.trod enc Tryz.prog W base spare held m 3 (([c0,c1,c2].drop 1).take (Tryz.prog.cellsOf 3)) = xs[1]?:=hg 1 _ rfl
   have g2:DataW.trod enc Tryz.prog W base spare held m 9 (([c0,c1,c2].drop 2).take (Tryz.prog.cellsOf 9)) = xs[2]?:=hg 2 _ rfl
   rw [OpenD.cells_int] at g0 g1
   rw [OpenD.cells_str] at g2
   obtain ⟨a,rfl⟩:=OpenD.dec_int g0 (OpenD.some_at (by omega))
   obtain ⟨b,rfl⟩:=OpenD.dec_int g1 (OpenD.some_at (by omega))
   obtain ⟨s,rfl,hs⟩:=OpenD.dec_str g2 (OpenD.some_at (by omega))
   exact ⟨⟨a,b,s⟩,rfl,hs⟩
variable {b0:Nat} {r:Reach} {v:Value} {d:DataW H} {p:List MemPlace}
end
end Go.Proofs.YtcofikjpplkjdaaGreatDoor
namespace Go.Proofs.YtcofikjpplkjdaaGreatDoor
open Go.RowKit Go.ChangeShapes Go.WideShapes Go.Deep TermSpec EvalSpec
set_option maxRecDepth 100000
theorem open_rows_c {α:Type} {f:α → List Value} {Good:α → Prop} {k:Nat} {H:Type} {enc:TypeId × Value → H} {P:Program} {W:World} {base:Nat} {spare:Nat → Bool} {held:Bool} {fuel:Nat} {t e:TypeId} {v:Value} {x:DataW H × List MemPlace}
 (hf:∀ a,(f a).length = k) (hk0:0 < k) (hk:P.cellsOf e = k) (hu:P.underlying t = some (.slice e))
 (hdec:∀ n cs x,DataW.trod enc P W base spare held n e cs = some x → ∃ a,cs = f a ∧ Good a)
 (h:DataW.trod enc P W base spare held fuel t [v] = some x) :
 ∃ (A:Option Addr) (n cp:Nat) (l:List α),v = .slice A n cp ∧ n = l.length ∧ Rdk k W (.slice A n cp) n (l.flatMap f) ∧ (∀ a ∈ l,Good a) ∧ n ≤ 9223372036854775807:=by
 rcases open_slice hu h with ⟨hcs,_⟩ | ⟨a,len,cap,m,n,D,Pl,hcs,hb,hl,hm,hmm,_,hi⟩
 ·cases hcs
  exact ⟨none,0,0,[],rfl,rfl,Rdk.nil k W,by simp,by omega⟩
 ·cases hcs
  rw [hk] at hi
  have hlm:len ≤ m:=by rw [hmm]; split <;> omega
  obtain ⟨l,hll,hR⟩:=list_of (R:=fun i (x:α) => (∀ j,j < k → W.cell? ((a.add (i * k)).add j) = (f x)[j]?) ∧ Good x) len (fun i hlt => by
   obtain ⟨cs',hc,ht⟩:=hi i (by omega)
   obtain ⟨x,rfl,hg⟩:=hdec _ _ _ ht
   obtain ⟨_,_,hat⟩:=World.cells?_some hc
   exact ⟨x,hat,hg⟩)
  refine ⟨some a,len,cap,l,rfl,hll.symm,⟨some a,cap,rfl,hl,by rw [flat_length hf,hll],fun h0 => ?_⟩,fun x hx => ?_,by unfold maxLen at hm; omega⟩
  ·obtain ⟨x,hx0⟩:∃ x,l[0]? = some x:=get_some (by omega)
   obtain ⟨u,hu0⟩:∃ u,(f x)[0]? = some u:=get_some (by rw [hf]; exact hk0)
   obtain ⟨b,off,spot⟩:=a
   have h00:=(hR 0 x hx0).1 0 hk0
   rw [hu0] at h00
   have hspot:spot = none:=by simpa [Addr.add] using World.cell?_spot h00
   subst hspot
   rw [addr_add,addr_add] at h00
   refine ⟨b,off,rfl,cell_there' h00,fun q u hq => ?_⟩
   obtain ⟨y,hy,hu⟩:=flat_at hf hk0 hq
   have:=(hR _ y hy).1 (q % k) (Nat.mod_lt q hk0)
   rw [addr_add,addr_add,Nat.add_assoc,Nat.mul_comm (q / k) k,Nat.div_add_mod,hu] at this
   exact this
  ·obtain ⟨i,hi⟩:=List.mem_iff_getElem?.1 hx
   exact (hR i x hi).2
theorem cells_var:Tryz.prog.cellsOf 53 = 4:=by kernel_rfl
section
variable {H:Type} {enc:TypeId × Value → H} {W:World} {base:Nat} {spare:Nat → Bool} {held:Bool}
variable {b0:Nat} {r:Reach} {v:Value} {d:DataW H} {p:List MemPlace}
end
end Go.Proofs.YtcofikjpplkjdaaGreatDoor
namespace Go.Proofs.YtcofikjpplkjdaaGreatDoor
open Go.RowKit Go.Sort TermSpec EvalSpec ActSpec
end Go.Proofs.YtcofikjpplkjdaaGreatDoor
namespace Go.Proofs.YtcofikjpplkjdaaGreatDoor
open Go.RowKit TermSpec EvalSpec ActSpec NamesSpec Go.Lib
def VFit (v:Vr):Prop:=-9223372036854775808 ≤ v.lo ∧ v.lo ≤ 9223372036854775807 ∧ -9223372036854775808 ≤ v.hi ∧ v.hi ≤ 9223372036854775807
end Go.Proofs.YtcofikjpplkjdaaGreatDoor
namespace Go.Proofs.YtcofikjpplkjdaaGreatDoor
open Go.RowKit Go.ChangeShapes Go.WideShapes Go.Deep TermSpec EvalSpec ActSpec
set_option maxRecDepth 100000
theorem cells_act:Tryz.prog.cellsOf 47 = 3:=by kernel_rfl
theorem cells_bool:Tryz.prog.cellsOf 4 = 1:=by kernel_rfl
theorem cells_trms:Tryz.prog.cellsOf 45 = 1:=by kernel_rfl
theorem wf_i64 {n:Int} (h:(Lit.int .i64 n).wf = true):-9223372036854775808 ≤ n ∧ n ≤ 9223372036854775807:=by
 have e1:IntKind.i64.min = -9223372036854775808:=by kernel_rfl
 have e2:IntKind.i64.max = 9223372036854775807:=by kernel_rfl
 simp [Lit.wf,e1,e2] at h
 exact h
section
variable {H:Type} {enc:TypeId × Value → H} {W:World} {base:Nat} {spare:Nat → Bool} {held:Bool}
theorem dec_int_fit {n:Nat} {c:Value} {x:Option (DataW H × List MemPlace)} (h:DataW.trod enc Tryz.prog W base spare held n 3 [c] = x) (hx:x.isSome):∃ k,c = .int .i64 k ∧ -9223372036854775808 ≤ k ∧ k ≤ 9223372036854775807:=by
 obtain ⟨y,rfl⟩:=Option.isSome_iff_exists.1 hx
 obtain ⟨k,hc,_,hw⟩:=DataW.trod_int Tryz.underlying3 h
 simp at hc
 exact ⟨k,hc,wf_i64 hw⟩
theorem dec_bool {n:Nat} {c:Value} {x:Option (DataW H × List MemPlace)} (h:DataW.trod enc Tryz.prog W base spare held n 4 [c] = x) (hx:x.isSome):∃ b,c = .bool b:=by
 obtain ⟨y,rfl⟩:=Option.isSome_iff_exists.1 hx
 obtain ⟨k,hc,_⟩:=DataW.trod_bool Tryz.underlying4 h
 simp at hc
 exact ⟨k,hc⟩
def GoodAP (W:World) (p:AP):Prop:=p.a.s.size ≤ 9223372036854775807 ∧ Small p.a.x ∧ p.a.x.length ≤ 9223372036854775807 ∧ Tms W (.slice p.xA p.xn p.xc) p.a.x
theorem dec_act (n:Nat) (cs:List Value) (x:DataW H × List MemPlace) (h:DataW.trod enc Tryz.prog W base spare held n 47 cs = some x):∃ p:AP,cs = acV p ∧ GoodAP W p:=by
 obtain ⟨xs,m,_,_,hl,hxl,hg⟩:=DataW.trod_struct Tryz.underlying47 h
 rw [cells_act] at hl
 have hxl':xs.length = 3:=hxl
 match cs,hl with
 | [c0,c1,c2],_ =>
   have g0:DataW.trod enc Tryz.prog W base spare held m 9 (([c0,c1,c2].drop 0).take (Tryz.prog.cellsOf 9)) = xs[0]?:=hg 0 _ rfl
   have g1:DataW.trod enc Tryz.prog W base spare held m 4 (([c0,c1,c2].drop 1).take (Tryz.prog.cellsOf 4)) = xs[1]?:=hg 1 _ rfl
   have g2:DataW.trod enc Tryz.prog W base spare held m 45 (([c0,c1,c2].drop 2).take (Tryz.prog.cellsOf 45)) = xs[2]?:=hg 2 _ rfl
   rw [OpenD.cells_str] at g0
   rw [cells_bool] at g1
   rw [cells_trms] at g2
   obtain ⟨s,rfl,hs⟩:=OpenD.dec_str g0 (OpenD.some_at (by omega))
   obtain ⟨b,rfl⟩:=dec_bool g1 (OpenD.some_at (by omega))
   obtain ⟨y2,e2⟩:=Option.isSome_iff_exists.1 (OpenD.some_at (l:=xs) (i:=2) (by omega))
   rw [e2] at g2
   obtain ⟨A,k,cp,l,rfl,hn,hR,hG,hb⟩:=open_rows_c (v:=c2) (f:=tmV) (Good:=fun t => t.s.size ≤ 9223372036854775807) tmV_length (by decide) cells_term Tryz.underlying45 dec_term g2
   exact ⟨⟨⟨s,b,l⟩,A,k,cp⟩,rfl,hs,hG,by simp only; omega,⟨k,hn,hR⟩⟩
variable {b0:Nat} {r:Reach} {v:Value} {d:DataW H} {p:List MemPlace}
end
end Go.Proofs.YtcofikjpplkjdaaGreatDoor
namespace Go.Proofs.YtcofikjpplkjdaaGreatDoor
open Go.RowKit Go.ChangeShapes Go.WideShapes Go.Deep TermSpec EvalSpec ActSpec TransSpec
set_option maxRecDepth 100000
theorem cells_trans:Tryz.prog.cellsOf 49 = 4:=by kernel_rfl
theorem cells_acts:Tryz.prog.cellsOf 39 = 1:=by kernel_rfl
section
variable {H:Type} {enc:TypeId × Value → H} {W:World} {base:Nat} {spare:Nat → Bool} {held:Bool} {b0:Nat} {r:Reach} {v:Value} {d:DataW H} {p:List MemPlace}
end
end Go.Proofs.YtcofikjpplkjdaaGreatDoor
namespace Go.Proofs.YtcofikjpplkjdaaGreatDoor
open Go.RowKit Go.ChangeShapes Go.WideShapes Go.Deep ShapeSpec OpenD
set_option maxRecDepth 100000
theorem cells_state:Tryz.prog.cellsOf 42 = 6:=by kernel_rfl
theorem cells_sacts:Tryz.prog.cellsOf 39 = 1:=by kernel_rfl
theorem shcells_strs:Tryz.prog.cellsOf 40 = 1:=by kernel_rfl
section
variable {H:Type} {enc:TypeId × Value → H} {W:World} {base:Nat} {spare:Nat → Bool} {held:Bool}
variable {b0:Nat} {r:Reach} {v:Value} {d:DataW H} {p:List MemPlace}
end
end Go.Proofs.YtcofikjpplkjdaaGreatDoor
namespace Go.Proofs.YtcofikjpplkjdaaGreatDoor
open Go.RowKit Go.ChangeShapes Go.WideShapes Go.Deep TermSpec EvalSpec ActSpec TransSpec SynSpec PrintSpec
set_option maxRecDepth 100000
theorem cells_chart:Tryz.prog.cellsOf 26 = 4:=by kernel_rfl
theorem cells_lvars:Tryz.prog.cellsOf 23 = 1:=by kernel_rfl
theorem cells_lsts:Tryz.prog.cellsOf 24 = 1:=by kernel_rfl
theorem cells_levs:Tryz.prog.cellsOf 22 = 1:=by kernel_rfl
section
variable {H:Type} {enc:TypeId × Value → H} {W:World} {base:Nat} {spare:Nat → Bool} {held:Bool}
theorem dec_text (n:Nat) (cs:List Value) (x:DataW H × List MemPlace) (h:DataW.trod enc Tryz.prog W base spare held n 9 cs = some x):∃ s:ByteArray,cs = sC s ∧ s.size ≤ 9223372036854775807:=by
 obtain ⟨s,hc,_,hw⟩:=DataW.trod_string Tryz.underlying9 h
 exact ⟨s,hc,hw⟩
theorem dec_variable (n:Nat) (cs:List Value) (x:DataW H × List MemPlace) (h:DataW.trod enc Tryz.prog W base spare held n 53 cs = some x):∃ v:Vr,cs = vrV v ∧ (v.s.size ≤ 9223372036854775807 ∧ VFit v):=by
 obtain ⟨xs,m,_,_,hl,hxl,hg⟩:=DataW.trod_struct Tryz.underlying53 h
 rw [cells_var] at hl
 have hxl':xs.length = 4:=hxl
 match cs,hl with
 | [c0,c1,c2,c3],_ =>
   have g0:DataW.trod enc Tryz.prog W base spare held m 9 (([c0,c1,c2,c3].drop 0).take (Tryz.prog.cellsOf 9)) = xs[0]?:=hg 0 _ rfl
   have g1:DataW.trod enc Tryz.prog W base spare held m 3 (([c0,c1,c2,c3].drop 1).take (Tryz.prog.cellsOf 3)) = xs[1]?:=hg 1 _ rfl
   have g2:DataW.trod enc Tryz.prog W base spare held m 3 (([c0,c1,c2,c3].drop 2).take (Tryz.prog.cellsOf 3)) = xs[2]?:=hg 2 _ rfl
   have g3:DataW.trod enc Tryz.prog W base spare held m 3 (([c0,c1,c2,c3].drop 3).take (Tryz.prog.cellsOf 3)) = xs[3]?:=hg 3 _ rfl
   rw [OpenD.cells_int] at g1 g2 g3
   rw [OpenD.cells_str] at g0
   obtain ⟨s,rfl,hs⟩:=OpenD.dec_str g0 (OpenD.some_at (by omega))
   obtain ⟨a,rfl,a1,a2⟩:=dec_int_fit g1 (OpenD.some_at (by omega))
   obtain ⟨b,rfl,b1,b2⟩:=dec_int_fit g2 (OpenD.some_at (by omega))
   obtain ⟨c,rfl⟩:=OpenD.dec_int g3 (OpenD.some_at (by omega))
   exact ⟨⟨s,a,b,c⟩,rfl,hs,a1,a2,b1,b2⟩
theorem dec_acts {m:Nat} {c:Value} {x:Option (DataW H × List MemPlace)} (h:DataW.trod enc Tryz.prog W base spare held m 39 [c] = x) (hx:x.isSome) :
 ∃ (A:Option Addr) (n cp:Nat) (l:List Ac),c = .slice A n cp ∧ Acs W (.slice A n cp) l ∧ ∀ a ∈ l,a.s.size ≤ 9223372036854775807 ∧ Small a.x:=by
 obtain ⟨y,rfl⟩:=Option.isSome_iff_exists.1 hx
 obtain ⟨A,n,cp,ps,rfl,hn,hR,hG,-⟩:=open_rows_c (v:=c) (f:=acV) (Good:=GoodAP W) acV_length (by decide) cells_act Tryz.underlying39 dec_act h
 refine ⟨A,n,cp,ps.map (·.a),rfl,⟨ps,rfl,by rw [List.length_map,← hn]; exact hR,fun p hp => (hG p hp).2.2.2⟩,fun a ha => ?_⟩
 obtain ⟨p,hp,rfl⟩:=List.mem_map.1 ha
 exact ⟨(hG p hp).1,(hG p hp).2.1⟩
def GoodTP (W:World) (p:TP):Prop:=tpN p W ∧ p.t.ev.size ≤ 9223372036854775807 ∧ p.t.tg.size ≤ 9223372036854775807 ∧ Small p.t.g ∧ ∀ a ∈ p.t.acts,a.s.size ≤ 9223372036854775807 ∧ Small a.x
theorem dec_trans (n:Nat) (cs:List Value) (x:DataW H × List MemPlace) (h:DataW.trod enc Tryz.prog W base spare held n 49 cs = some x):∃ p:TP,cs = tpV p ∧ GoodTP W p:=by
 obtain ⟨xs,m,_,_,hl,hxl,hg⟩:=DataW.trod_struct Tryz.underlying49 h
 rw [cells_trans] at hl
 have hxl':xs.length = 4:=hxl
 match cs,hl with
 | [c0,c1,c2,c3],_ =>
   have g0:DataW.trod enc Tryz.prog W base spare held m 9 (([c0,c1,c2,c3].drop 0).take (Tryz.prog.cellsOf 9)) = xs[0]?:=hg 0 _ rfl
   have g1:DataW.trod enc Tryz.prog W base spare held m 45 (([c0,c1,c2,c3].drop 1).take (Tryz.prog.cellsOf 45)) = xs[1]?:=hg 1 _ rfl
   have g2:DataW.trod enc Tryz.prog W base spare held m 39 (([c0,c1,c2,c3].drop 2).take (Tryz.prog.cellsOf 39)) = xs[2]?:=hg 2 _ rfl
   have g3:DataW.trod enc Tryz.prog W base spare held m 9 (([c0,c1,c2,c3].drop 3).take (Tryz.prog.cellsOf 9)) = xs[3]?:=hg 3 _ rfl
   rw [OpenD.cells_str] at g0 g3
   rw [cells_trms] at g1
   rw [cells_acts] at g2
   obtain ⟨ev,rfl,hev⟩:=OpenD.dec_str g0 (OpenD.some_at (by omega))
   obtain ⟨tg,rfl,htg⟩:=OpenD.dec_str g3 (OpenD.some_at (by omega))
   obtain ⟨y1,e1⟩:=Option.isSome_iff_exists.1 (OpenD.some_at (l:=xs) (i:=1) (by omega))
   rw [e1] at g1
   obtain ⟨gA,gn,gc,g,rfl,hgn,hgR,hgG,hgb⟩:=open_rows_c (v:=c1) (f:=tmV) (Good:=fun t => t.s.size ≤ 9223372036854775807) tmV_length (by decide) cells_term Tryz.underlying45 dec_term g1
   obtain ⟨aA,an,ac,l,rfl,haR,haG⟩:=dec_acts g2 (OpenD.some_at (by omega))
   exact ⟨⟨⟨ev,g,l,tg⟩,gA,gn,gc,aA,an,ac⟩,rfl,⟨⟨gn,hgn,hgR⟩,haR⟩,hev,htg,hgG,haG⟩
def GoodSP (W:World) (p:SP):Prop:=spN p W ∧ p.x.s.size ≤ 9223372036854775807 ∧ (∀ a ∈ p.x.en,a.s.size ≤ 9223372036854775807 ∧ Small a.x) ∧ (∀ a ∈ p.x.ex,a.s.size ≤ 9223372036854775807 ∧ Small a.x) ∧
    ∀ t ∈ p.x.tr,t.ev.size ≤ 9223372036854775807 ∧ t.tg.size ≤ 9223372036854775807 ∧ Small t.g ∧ ∀ a ∈ t.acts,a.s.size ≤ 9223372036854775807 ∧ Small a.x
theorem dec_sp (n:Nat) (cs:List Value) (x:DataW H × List MemPlace) (h:DataW.trod enc Tryz.prog W base spare held n 42 cs = some x):∃ p:SP,cs = spV p ∧ GoodSP W p:=by
 obtain ⟨xs,m,_,_,hl,hxl,hg⟩:=DataW.trod_struct Tryz.underlying42 h
 rw [cells_state] at hl
 have hxl':xs.length = 6:=hxl
 match cs,hl with
 | [c0,c1,c2,c3,c4,c5],_ =>
   have g0:DataW.trod enc Tryz.prog W base spare held m 9 (([c0,c1,c2,c3,c4,c5].drop 0).take (Tryz.prog.cellsOf 9)) = xs[0]?:=hg 0 _ rfl
   have g1:DataW.trod enc Tryz.prog W base spare held m 3 (([c0,c1,c2,c3,c4,c5].drop 1).take (Tryz.prog.cellsOf 3)) = xs[1]?:=hg 1 _ rfl
   have g2:DataW.trod enc Tryz.prog W base spare held m 3 (([c0,c1,c2,c3,c4,c5].drop 2).take (Tryz.prog.cellsOf 3)) = xs[2]?:=hg 2 _ rfl
   have g3:DataW.trod enc Tryz.prog W base spare held m 39 (([c0,c1,c2,c3,c4,c5].drop 3).take (Tryz.prog.cellsOf 39)) = xs[3]?:=hg 3 _ rfl
   have g4:DataW.trod enc Tryz.prog W base spare held m 39 (([c0,c1,c2,c3,c4,c5].drop 4).take (Tryz.prog.cellsOf 39)) = xs[4]?:=hg 4 _ rfl
   have g5:DataW.trod enc Tryz.prog W base spare held m 40 (([c0,c1,c2,c3,c4,c5].drop 5).take (Tryz.prog.cellsOf 40)) = xs[5]?:=hg 5 _ rfl
   rw [OpenD.cells_str] at g0
   rw [OpenD.cells_int] at g1 g2
   rw [cells_sacts] at g3 g4
   rw [shcells_strs] at g5
   obtain ⟨s,rfl,hs⟩:=OpenD.dec_str g0 (OpenD.some_at (by omega))
   obtain ⟨a,rfl⟩:=OpenD.dec_int g1 (OpenD.some_at (by omega))
   obtain ⟨b,rfl⟩:=OpenD.dec_int g2 (OpenD.some_at (by omega))
   obtain ⟨a3,n3,k3,l3,rfl,r3,q3⟩:=dec_acts g3 (OpenD.some_at (by omega))
   obtain ⟨a4,n4,k4,l4,rfl,r4,q4⟩:=dec_acts g4 (OpenD.some_at (by omega))
   obtain ⟨y5,e5⟩:=Option.isSome_iff_exists.1 (OpenD.some_at (l:=xs) (i:=5) (by omega))
   rw [e5] at g5
   obtain ⟨a5,n5,k5,ps,rfl,hn5,hR5,hG5,-⟩:=open_rows_c (v:=c5) (f:=tpV) (Good:=GoodTP W) tpV_length (by decide) cells_trans Tryz.underlying40 dec_trans g5
   refine ⟨⟨⟨s,a,b,l3,l4,ps.map (·.t)⟩,a3,n3,k3,a4,n4,k4,a5,n5,k5⟩,rfl,⟨r3,r4,ps,rfl,by rw [← hn5]; exact hR5,fun p hp => (hG5 p hp).1⟩,hs,q3,q4,fun t ht => ?_⟩
   obtain ⟨p,hp,rfl⟩:=List.mem_map.1 ht
   exact (hG5 p hp).2
variable {b0:Nat} {r:Reach} {v:Value} {d:DataW H} {p:List MemPlace}
theorem open_chart (hv:Value.okWide Tryz.prog W r b0 26 v) (h:DataW.Trod enc Tryz.prog W base spare held 26 v d p) :
 ∃ (x:Cx) (eA:Option Addr) (en ec:Nat) (vA:Option Addr) (vn vc:Nat) (sA:Option Addr) (sn sc:Nat),v = .agg #[.string x.s,.slice eA en ec,.slice vA vn vc,.slice sA sn sc] ∧ ChIn W (.slice eA en ec) (.slice vA vn vc) (.slice sA sn sc) x ∧ (FitC x ∧ ∀ v ∈ x.vars,VFit v):=by
 obtain ⟨cs,rfl,_⟩:=okWide_struct Tryz.underlying26 hv
 obtain ⟨fuel,hx⟩:=h
 obtain ⟨xs,m,_,_,hl,hxl,hg⟩:=DataW.trod_struct Tryz.underlying26 hx
 rw [cells_chart] at hl
 have hxl':xs.length = 4:=hxl
 obtain ⟨l⟩:=cs
 match l,hl with
 | [c0,c1,c2,c3],_ =>
   have g0:DataW.trod enc Tryz.prog W base spare held m 9 (([c0,c1,c2,c3].drop 0).take (Tryz.prog.cellsOf 9)) = xs[0]?:=hg 0 _ rfl
   have g1:DataW.trod enc Tryz.prog W base spare held m 22 (([c0,c1,c2,c3].drop 1).take (Tryz.prog.cellsOf 22)) = xs[1]?:=hg 1 _ rfl
   have g2:DataW.trod enc Tryz.prog W base spare held m 23 (([c0,c1,c2,c3].drop 2).take (Tryz.prog.cellsOf 23)) = xs[2]?:=hg 2 _ rfl
   have g3:DataW.trod enc Tryz.prog W base spare held m 24 (([c0,c1,c2,c3].drop 3).take (Tryz.prog.cellsOf 24)) = xs[3]?:=hg 3 _ rfl
   rw [OpenD.cells_str] at g0
   rw [cells_levs] at g1
   rw [cells_lvars] at g2
   rw [cells_lsts] at g3
   obtain ⟨s,rfl,hs⟩:=OpenD.dec_str g0 (OpenD.some_at (by omega))
   obtain ⟨y1,e1⟩:=Option.isSome_iff_exists.1 (OpenD.some_at (l:=xs) (i:=1) (by omega))
   obtain ⟨y2,e2⟩:=Option.isSome_iff_exists.1 (OpenD.some_at (l:=xs) (i:=2) (by omega))
   obtain ⟨y3,e3⟩:=Option.isSome_iff_exists.1 (OpenD.some_at (l:=xs) (i:=3) (by omega))
   rw [e1] at g1
   rw [e2] at g2
   rw [e3] at g3
   obtain ⟨eA,en,ec,es,rfl,hen,heR,heG,heb⟩:=open_rows_c (v:=c1) (f:=sC) (Good:=fun s => s.size ≤ 9223372036854775807) (fun _ => rfl) (by decide) OpenD.cells_str Tryz.underlying22 dec_text g1
   obtain ⟨vA,vn,vc,vs,rfl,hvn,hvR,hvG,hvb⟩:=open_rows_c (v:=c2) (f:=vrV) (Good:=fun v => v.s.size ≤ 9223372036854775807 ∧ VFit v) vrV_length (by decide) cells_var Tryz.underlying23 dec_variable g2
   obtain ⟨sA,sn,sc,ps,rfl,hsn,hsR,hsG,hsb⟩:=open_rows_c (v:=c3) (f:=spV) (Good:=GoodSP W) spV_length (by decide) cells_state Tryz.underlying24 dec_sp g3
   refine ⟨⟨s,es,vs,ps.map (·.x)⟩,eA,en,ec,vA,vn,vc,sA,sn,sc,rfl,⟨?_,?_,ps,rfl,by rw [← hsn]; exact hsR,fun p hp => (hsG p hp).1⟩,⟨hs,heG,by simp only; omega,fun v hv => (hvG v hv).1,fun t ht => ?_⟩,fun v hv => (hvG v hv).2⟩
   ·rw [sC_flat] at heR
    exact rd_one heR
   ·show Rdk 4 W _ vs.length (vrsV vs)
    rw [← hvn]
    exact hvR
   ·obtain ⟨p,hp,rfl⟩:=List.mem_map.1 ht
    exact (hsG p hp).2
end
end Go.Proofs.YtcofikjpplkjdaaGreatDoor
namespace Go.Proofs.YtcofikjpplkjdaaGreatDoor
open Go.RowKit Go.Sort TermSpec EvalSpec ActSpec NamesSpec ExprSpec TransSpec SynSpec PrintSpec
set_option maxRecDepth 100000
structure PrintSays (w:World):Prop where
 ok:∀ (c:Tc) (eA:Option Addr) (en ec:Nat) (vA:Option Addr) (vn vc:Nat) (sA:Option Addr) (sn sc:Nat) (W:World),Below w.heap.size w W → ChIn W (.slice eA en ec) (.slice vA vn vc) (.slice sA sn sc) c.cx → c.Ok → (putC c).length ≤ 65536 → (chK c).length ≤ 4000 →
  Calls Tryz.prog 7 #[.agg #[.string c.s,.slice eA en ec,.slice vA vn vc,.slice sA sn sc]] W (RetPP W (bs (putC c)) 0)
 long:∀ (c:Tc) (eA:Option Addr) (en ec:Nat) (vA:Option Addr) (vn vc:Nat) (sA:Option Addr) (sn sc:Nat) (W:World),Below w.heap.size w W → ChIn W (.slice eA en ec) (.slice vA vn vc) (.slice sA sn sc) c.cx → c.Ok → 4000 < (chK c).length →
  Calls Tryz.prog 7 #[.agg #[.string c.s,.slice eA en ec,.slice vA vn vc,.slice sA sn sc]] W (RetPP W ⟨#[]⟩ 5)
 bad:∀ (x:Cx) (eA:Option Addr) (en ec:Nat) (vA:Option Addr) (vn vc:Nat) (sA:Option Addr) (sn sc:Nat) (W:World),Below w.heap.size w W → ChIn W (.slice eA en ec) (.slice vA vn vc) (.slice sA sn sc) x → FitM x → LightC x → mayC x = false →
  Calls Tryz.prog 7 #[.agg #[.string x.s,.slice eA en ec,.slice vA vn vc,.slice sA sn sc]] W (RetPP W ⟨#[]⟩ 1)
 check:∀ (x:Cx) (eA:Option Addr) (en ec:Nat) (vA:Option Addr) (vn vc:Nat) (sA:Option Addr) (sn sc:Nat) (W:World),Below w.heap.size w W → ChIn W (.slice eA en ec) (.slice vA vn vc) (.slice sA sn sc) x → FitM x → LightC x →
  Calls Tryz.prog 9 #[.agg #[.string x.s,.slice eA en ec,.slice vA vn vc,.slice sA sn sc]] W (RetI W (if mayC x = true then 0 else 1))
theorem PrintSays.keep {w w':World} (h:PrintSays w) (hb:Below w.heap.size w w'):PrintSays w' :=
 ⟨fun c eA en ec vA vn vc sA sn sc W hW => h.ok c eA en ec vA vn vc sA sn sc W (below_two' hb hW),fun c eA en ec vA vn vc sA sn sc W hW => h.long c eA en ec vA vn vc sA sn sc W (below_two' hb hW),
  fun x eA en ec vA vn vc sA sn sc W hW => h.bad x eA en ec vA vn vc sA sn sc W (below_two' hb hW),fun x eA en ec vA vn vc sA sn sc W hW => h.check x eA en ec vA vn vc sA sn sc W (below_two' hb hW)⟩
theorem says_puts (x:Cx) (eA:Option Addr) (en ec:Nat) (vA:Option Addr) (vn vc:Nat) (sA:Option Addr) (sn sc:Nat) (w:World) (hp:PairsIn w) (hg:SignsIn w) (says:PrintSays w) (h:ChIn w (.slice eA en ec) (.slice vA vn vc) (.slice sA sn sc) x) (hf:FitC x) :
 Calls Tryz.prog 3 #[.agg #[.string x.s,.slice eA en ec,.slice vA vn vc,.slice sA sn sc]] w fun e w' => e = .returned (.bool true) ∧ Below w.heap.size w w':=by
 have haw:∀ W,Below w.heap.size w W → Calls Tryz.prog 6 #[] W (RetB W true):=fun W hW => pawake_any W (says.keep hW).ok
 rcases hl:lightC x with _ | _
 ·exact pputs_no x eA en ec vA vn vc sA sn sc w h hf haw hl
 ·have hL:=chart_light hl
  have hM:=chart_fit hL hf
  have hchk:=fun W (hW:Below w.heap.size w W) => says.check x eA en ec vA vn vc sA sn sc W hW (h.keep hW) hM hL
  rcases hm:mayC x with _ | _
  ·exact pputs_bad x eA en ec vA vn vc sA sn sc w h hf haw (fun _ W hW => says.bad x eA en ec vA vn vc sA sn sc W hW (h.keep hW) hM hL hm) hchk hl hm
  ·exact pputs_ok x eA en ec vA vn vc sA sn sc w h hf haw (fun c hc ok k1 k2 W hW => by subst hc; exact says.ok c eA en ec vA vn vc sA sn sc W hW (h.keep hW) ok k1 k2) hchk hp hg hl hm
end Go.Proofs.YtcofikjpplkjdaaGreatDoor
namespace Go.Proofs.YtcofikjpplkjdaaGreatDoor
open Go.RowKit Go.Sort CurSpec TermSpec EvalSpec ActSpec NamesSpec ExprSpec TransSpec SynSpec ScanSpec PrintSpec
set_option maxRecDepth 100000
theorem cx_evs {W:World} {x:Cx} {eA:Option Addr} {en ec:Nat} {v t:Value} (h:ChIn W (.slice eA en ec) v t x):en = x.evs.length:=by
 obtain ⟨_,_,_,heq,hn,_⟩:=Rd.strs h.evs
 cases heq
 exact hn.symm
set_option maxHeartbeats 2000000 in
theorem pput_bad (x:Cx) (eA:Option Addr) (en ec:Nat) (vA:Option Addr) (vn vc:Nat) (sA:Option Addr) (sn sc:Nat) (w:World) (h:ChIn w (.slice eA en ec) (.slice vA vn vc) (.slice sA sn sc) x) (hf:FitM x) (hen9:en ≤ 9223372036854775807) (hvn9:vn ≤ 9223372036854775807) (hm:mayC x = false) :
 Calls Tryz.prog 7 #[.agg #[.string x.s,.slice eA en ec,.slice vA vn vc,.slice sA sn sc]] w (RetPP w ⟨#[]⟩ 1):=by
 have HC:Hid (Calls Tryz.prog 9 #[.agg #[.string x.s,.slice eA en ec,.slice vA vn vc,.slice sA sn sc]] (w.alloc (.cells #[.string x.s,.slice eA en ec,.slice vA vn vc,.slice sA sn sc] 26)) (RetI (w.alloc (.cells #[.string x.s,.slice eA en ec,.slice vA vn vc,.slice sA sn sc] 26)) 1)):=Lib.hid (by
  have:=pcheck_any x eA en ec vA vn vc sA sn sc _ (h.keep (KitC.below_one _ (.cells #[.string x.s,.slice eA en ec,.slice vA vn vc,.slice sA sn sc] 26))) hf hen9 hvn9
  rwa [hm] at this)
 obtain ⟨s,evs,vars,sts⟩:=x
 simp only at HC
 clear h hf hm
 go_enter Tryz.func7,Tryz.ntmps7
 go_wp2_with (go_at_call 9; (with_reducible refine HC.out.mono ?_))
 rintro e w2 ⟨rfl,hb2⟩
 have HB2:=Lib.hid (below_two' (KitC.below_one _ _) hb2)
 clear hb2
 go_wp2_with fail
 go_ret2
 exact ⟨rfl,HB2.out⟩
theorem toks_bad {s:ByteArray} {W w:World} {e:Ending} (h:TokPost W s e w) (h0:(scanT s.data.toList).2.2 ≠ 0) :
 ∃ a c er:Int,e = .returned (.tuple #[.slice none 0 0,.agg #[.int .i64 a,.int .i64 c],.int .i64 er]) ∧ (er != 0) = true ∧ Below W.heap.size W w :=
 ⟨_,_,_,h.2.1 h0,by simpa using h0,h.1⟩
set_option maxHeartbeats 4000000 in
theorem pput_tree (c:Tc) (eA:Option Addr) (en ec:Nat) (vA:Option Addr) (vn vc:Nat) (sA:Option Addr) (sn sc:Nat) (w:World) (hp:PairsIn w) (hg:SignsIn w) (h:ChIn w (.slice eA en ec) (.slice vA vn vc) (.slice sA sn sc) c.cx) (ok:c.Ok) :
 ((scanT (T (bs (putC c)))).2.2 = 0 → Calls Tryz.prog 7 #[.agg #[.string c.s,.slice eA en ec,.slice vA vn vc,.slice sA sn sc]] w (RetPP w (bs (putC c)) 0)) ∧
 ((scanT (T (bs (putC c)))).2.2 ≠ 0 → Calls Tryz.prog 7 #[.agg #[.string c.s,.slice eA en ec,.slice vA vn vc,.slice sA sn sc]] w (RetPP w ⟨#[]⟩ 5)):=by
 have hen:en ≤ 9223372036854775807:=by have:=cx_evs h; have:=ok.evf; rw [show c.cx.evs = c.evs from rfl] at *; omega
 have hvn:vn ≤ 9223372036854775807:=by have:=(RdV.len h.vars).1; have:=ok.vaf; rw [show c.cx.vars = c.vars from rfl] at *; omega
 obtain ⟨W1,hW1⟩:∃ W1,w.alloc (.cells #[.string c.s,.slice eA en ec,.slice vA vn vc,.slice sA sn sc] 26) = W1:=⟨_,rfl⟩
 have hb1:Below w.heap.size w W1:=by rw [← hW1]; exact KitC.below_one _ _
 have hk1:W1.heap[w.heap.size]? = some (.cells #[.string c.s,.slice eA en ec,.slice vA vn vc,.slice sA sn sc] 26 (0,0)):=by rw [← hW1]; exact heap_alloc_new _ _
 have HK:=Lib.hid (fun W (hW:Below W1.heap.size W1 W) => cells_4 (KitC.block_on hk1 hW))
 have HC:Hid (Calls Tryz.prog 9 #[.agg #[.string c.s,.slice eA en ec,.slice vA vn vc,.slice sA sn sc]] W1 (RetI W1 0)):=Lib.hid (by
  have:=pcheck_any c.cx eA en ec vA vn vc sA sn sc W1 (h.keep hb1) (chart_fits ok) hen hvn
  rwa [mayC_of ok] at this)
 have HT:=Lib.hid (fun W (hW:Below W1.heap.size W1 W) => wtext_any c eA en ec vA vn vc sA sn sc W (h.keep (below_two' hb1 hW)) ok (hg.keep (below_two' hb1 hW)))
 obtain ⟨s,hs⟩:∃ s,s = bs (putC c):=⟨_,rfl⟩
 rw [← hs] at HT ⊢
 have HS:=Lib.hid (fun W (hW:Below W1.heap.size W1 W) => stoks_any s W (hp.keep (below_two' hb1 hW)))
 obtain ⟨c0,c1,c2,c3⟩:=cells_4 hk1
 have HW1:=Lib.hid hW1
 have HB1:=Lib.hid hb1
 obtain ⟨nm,evs,vars,sts⟩:=c
 simp only at HK HC HT HW1 c0
 clear hen hvn h ok hg hp hs hW1 hb1 hk1
 refine ⟨fun h0 => ?_,fun h0 => ?_⟩
 ·have HX:=Lib.hid (fun W e w' (h:TokPost W s e w') => toks_at h h0)
  clear h0
  go_enter Tryz.func7,Tryz.ntmps7
  go_wp2_with (rw [HW1.out]; go_at_call 9; (with_reducible refine HC.out.mono ?_))
  rintro e w2 ⟨rfl,hb2⟩
  have HB2:=Lib.hid hb2
  clear c0 c1 c2 c3
  obtain ⟨c0,c1,c2,c3⟩:=HK.out _ hb2
  clear hb2
  go_wp2_with (go_at_call 16; (with_reducible refine (HT.out _ HB2.out).mono ?_))
  rintro e w3 ⟨rfl,hb3⟩
  have HB3:=Lib.hid (below_two' HB2.out hb3)
  clear hb3
  go_wp2_with (go_at_call 17; (with_reducible refine (HS.out _ HB3.out).mono ?_))
  intro e w4 hx
  obtain ⟨A,n,cp,rfl,-,-,hb4⟩:=HX.out _ _ _ hx
  have HB4:=Lib.hid (below_two' HB3.out hb4)
  clear hx hb4
  go_wp2_with fail
  go_ret2
  exact ⟨rfl,below_two' HB1.out (below_two' HB4.out (KitC.below_one _ _))⟩
 ·have HX:=Lib.hid (fun W e w' (h:TokPost W s e w') => toks_bad h h0)
  clear h0
  go_enter Tryz.func7,Tryz.ntmps7
  go_wp2_with (rw [HW1.out]; go_at_call 9; (with_reducible refine HC.out.mono ?_))
  rintro e w2 ⟨rfl,hb2⟩
  have HB2:=Lib.hid hb2
  clear c0 c1 c2 c3
  obtain ⟨c0,c1,c2,c3⟩:=HK.out _ hb2
  clear hb2
  go_wp2_with (go_at_call 16; (with_reducible refine (HT.out _ HB2.out).mono ?_))
  rintro e w3 ⟨rfl,hb3⟩
  have HB3:=Lib.hid (below_two' HB2.out hb3)
  clear hb3
  go_wp2_with (go_at_call 17; (with_reducible refine (HS.out _ HB3.out).mono ?_))
  intro e w4 hx
  obtain ⟨a,c,er,rfl,g1,hb4⟩:=HX.out _ _ _ hx
  have HB4:=Lib.hid (below_two' HB3.out hb4)
  clear hx hb4
  go_wp2_with fail
  go_ret2
  exact ⟨rfl,below_two' HB1.out (below_two' HB4.out (KitC.below_one _ _))⟩
theorem print_says (w:World) (hp:PairsIn w) (hg:SignsIn w):PrintSays w where
 ok:=fun c eA en ec vA vn vc sA sn sc W hW h ok k1 k2 => (pput_tree c eA en ec vA vn vc sA sn sc W (hp.keep hW) (hg.keep hW) h ok).1 (parse_put ok k1 k2).1
 long:=fun c eA en ec vA vn vc sA sn sc W hW h ok k => (pput_tree c eA en ec vA vn vc sA sn sc W (hp.keep hW) (hg.keep hW) h ok).2 (scan_long (by rw [T_bs]; exact ln_chart ok) k)
 bad:=fun x eA en ec vA vn vc sA sn sc W _ h hf hl hm => pput_bad x eA en ec vA vn vc sA sn sc W h hf (by have:=cx_evs h; have:=hl.evl; omega) (by have:=(RdV.len h.vars).1; have:=hl.val; omega) hm
 check:=fun x eA en ec vA vn vc sA sn sc W _ h hf hl => pcheck_any x eA en ec vA vn vc sA sn sc W h hf (by have:=cx_evs h; have:=hl.evl; omega) (by have:=(RdV.len h.vars).1; have:=hl.val; omega)
end Go.Proofs.YtcofikjpplkjdaaGreatDoor
namespace Go.Proofs.YtcofikjpplkjdaaGreatDoor
open Go.RowKit Go.Sort TermSpec EvalSpec ActSpec NamesSpec ExprSpec TransSpec SynSpec PrintSpec
set_option maxRecDepth 100000
theorem walk_PrintPuts (x:Cx) (eA:Option Addr) (en ec:Nat) (vA:Option Addr) (vn vc:Nat) (sA:Option Addr) (sn sc:Nat) (w:World) (hp:PairsIn w) (hg:SignsIn w) (h:ChIn w (.slice eA en ec) (.slice vA vn vc) (.slice sA sn sc) x) (hf:FitC x ∧ ∀ v ∈ x.vars,VFit v) :
 Calls Tryz.prog 3 #[.agg #[.string x.s,.slice eA en ec,.slice vA vn vc,.slice sA sn sc]] w fun e w' => e = .returned (.bool true) ∧ Below w.heap.size w w' :=
 says_puts x eA en ec vA vn vc sA sn sc w hp hg (print_says w hp hg) h hf.1
end Go.Proofs.YtcofikjpplkjdaaGreatDoor
namespace Go.Proofs.YtcofikjpplkjdaaGreatDoor
open Go.RowKit
theorem cells_of_strs {H:Type} {enc:TypeId × Value → H} {P:Program} {w:World} {base:Nat} {sp:Nat → Bool} {held:Bool} {fuel:Nat} {t e:TypeId} {n:Nat} {cs:List Value} {bs:List (List UInt8)} {p:List MemPlace}
 (ht:P.underlying t = some (.array n e)) (he:P.underlying e = some .string) (hce:P.cellsOf e = 1) (hct:P.cellsOf t = n)
 (h:DataW.trod enc P w base sp held fuel t cs = some (.agg (bs.map fun b => .lit (.string b)),p)):cs = bs.map fun b => Value.string ⟨b.toArray⟩:=by
 obtain ⟨xs,m,rfl,hx,hl,hxl,hel⟩:=DataW.trod_array ht h
 simp only [Prod.mk.injEq,DataW.agg.injEq] at hx
 have hxs:=hx.1
 have hbl:bs.length = n:=by
  have:=congrArg List.length hxs
  simp at this
  omega
 rw [hct] at hl
 apply List.ext_getElem?
 intro i
 by_cases hi:i < n
 ·obtain ⟨b,hb⟩:∃ b,xs[i]? = some b:=get_some (by omega)
  have hf:=(hel i hi).trans hb
  rw [hce,Nat.mul_one] at hf
  obtain ⟨s,hc,rfl,_⟩:=DataW.trod_string he hf
  have h1:cs[i]? = some (.string s):=by
   have:=congrArg (·[0]?) hc
   simpa [List.getElem?_take,List.getElem?_drop] using this
  have h2:(xs.map (·.1))[i]? = some (DataW.lit (.string s.data.toList):DataW H):=by simp [hb]
  rw [← hxs] at h2
  simp only [List.getElem?_map,Option.map_eq_some_iff,DataW.lit.injEq,Lit.string.injEq] at h2
  obtain ⟨z,hz,rfl⟩:=h2
  simp [h1,hz]
 ·rw [List.getElem?_eq_none (by omega),List.getElem?_eq_none (by simp; omega)]
end Go.Proofs.YtcofikjpplkjdaaGreatDoor
namespace Go.Proofs.YtcofikjpplkjdaaGreatDoor
open Go.RowKit ScanSpec
set_option maxRecDepth 100000
def pairsB:List (List UInt8):=[[45,62],[58,61],[60,61],[62,61],[33,61],[61,61],[46,46]]
theorem gPairs : Tryz.prog.globalNamed "semblance/scan.pairs" = some 0 := by kernel_rfl
theorem tPairs:(Tryz.prog.globals[0]?).map (·.type) = some 178:=by kernel_rfl
theorem pairs_in {W : World} {rest : List (String × DataW Unit)} (h : laidMet Tryz.prog (("semblance/scan.pairs", Rows.laid_semblance_scan_pairs) :: rest) W) : PairsIn W := by
 obtain ⟨ps,⟨g',t',cs,fuel,p,q,hg',ht',hvar,hd,_,_⟩,_⟩:=h
 obtain rfl:=Option.some.inj (gPairs.symm.trans hg')
 obtain rfl:=Option.some.inj (tPairs.symm.trans ht')
 have hc:=cells_of_strs (bs:=pairsB) Tryz.underlying178 Tryz.underlying9 (by kernel_rfl) (by kernel_rfl) hd
 have e:cs = pairsV:=Array.toList_inj.mp hc
 subst e
 unfold World.var? at hvar
 rw [gPairs] at hvar
 simp only [Option.bind_some] at hvar
 split at hvar
 ·rename_i cs' T fr hb
  cases hvar
  exact ⟨T,fr,hb⟩
 ·cases hvar
end Go.Proofs.YtcofikjpplkjdaaGreatDoor
namespace Go.Proofs.YtcofikjpplkjdaaGreatDoor
open Go.RowKit ExprSpec
set_option maxRecDepth 100000
theorem list5 {α:Type} {l:List α} (h:l.length = 5):∃ a b c d e,l = [a,b,c,d,e]:=by
 match l,h with
 | [a,b,c,d,e],_ => exact ⟨a,b,c,d,e,rfl⟩
def sgD {H:Type} (s:Sg):DataW H:=.agg [.lit (.string s.t.data.toList),.lit (.int .i64 s.op),.lit (.int .i64 s.lev),.lit (.int .i64 s.left),.lit (.int .i64 s.right)]
theorem sg_cells:Tryz.prog.cellsOf 190 = 5:=by kernel_rfl
theorem sg_table:Tryz.prog.cellsOf 198 = 55:=by kernel_rfl
theorem sg_str:Tryz.prog.cellsOf 9 = 1:=by kernel_rfl
theorem sg_int:Tryz.prog.cellsOf 3 = 1:=by kernel_rfl
theorem sign_part {H:Type} {enc:TypeId × Value → H} {w:World} {base:Nat} {sp:Nat → Bool} {held:Bool} {fuel:Nat} {cs:List Value} {s:Sg} {p:List MemPlace}
 (h:DataW.trod enc Tryz.prog w base sp held fuel 190 cs = some (sgD s,p)):cs = sgC s:=by
 obtain ⟨xs,n,_,hx,hl,hlen,hf⟩:=DataW.trod_struct Tryz.underlying190 h
 obtain ⟨a,b,c,d,e,rfl⟩:=list5 (hl.trans sg_cells)
 obtain ⟨y0,y1,y2,y3,y4,rfl⟩:=list5 hlen
 have g0:DataW.trod enc Tryz.prog w base sp held n 9 (([a,b,c,d,e].drop 0).take (Tryz.prog.cellsOf 9)) = some y0:=hf 0 _ rfl
 rw [sg_str] at g0
 have g1:DataW.trod enc Tryz.prog w base sp held n 3 (([a,b,c,d,e].drop 1).take (Tryz.prog.cellsOf 3)) = some y1:=hf 1 _ rfl
 rw [sg_int] at g1
 have g2:DataW.trod enc Tryz.prog w base sp held n 3 (([a,b,c,d,e].drop 2).take (Tryz.prog.cellsOf 3)) = some y2:=hf 2 _ rfl
 rw [sg_int] at g2
 have g3:DataW.trod enc Tryz.prog w base sp held n 3 (([a,b,c,d,e].drop 3).take (Tryz.prog.cellsOf 3)) = some y3:=hf 3 _ rfl
 rw [sg_int] at g3
 have g4:DataW.trod enc Tryz.prog w base sp held n 3 (([a,b,c,d,e].drop 4).take (Tryz.prog.cellsOf 3)) = some y4:=hf 4 _ rfl
 rw [sg_int] at g4
 obtain ⟨s0,c0,rfl,-⟩:=DataW.trod_string Tryz.underlying9 g0
 obtain ⟨n1,c1,rfl,-⟩:=DataW.trod_int Tryz.underlying3 g1
 obtain ⟨n2,c2,rfl,-⟩:=DataW.trod_int Tryz.underlying3 g2
 obtain ⟨n3,c3,rfl,-⟩:=DataW.trod_int Tryz.underlying3 g3
 obtain ⟨n4,c4,rfl,-⟩:=DataW.trod_int Tryz.underlying3 g4
 simp at c0 c1 c2 c3 c4
 subst c0 c1 c2 c3 c4
 simp only [sgD,List.map_cons,List.map_nil,Prod.mk.injEq,DataW.agg.injEq,List.cons.injEq,DataW.lit.injEq,Lit.string.injEq,Lit.int.injEq,true_and,and_true] at hx
 obtain ⟨⟨h0,h1,h2,h3,h4⟩,-⟩:=hx
 have h0':s.t = s0:=ByteArray.ext (Array.toList_inj.mp h0)
 subst h0' h1 h2 h3 h4
 rfl
theorem flat_parts {α β:Type} {g:α → List β} {k:Nat} (hg:∀ a,(g a).length = k):∀ (L:List α) (cs:List β),cs.length = L.length * k → (∀ i a,L[i]? = some a → (cs.drop (i * k)).take k = g a) → cs = L.flatMap g
 | [],cs,hl,_ => by simpa using hl
 | a :: L,cs,hl,h => by
   have h0:=h 0 a rfl
   rw [Nat.zero_mul,List.drop_zero] at h0
   rw [List.length_cons,Nat.succ_mul] at hl
   have ih:=flat_parts hg L (cs.drop k) (by rw [List.length_drop]; omega) (fun i b hb => by
    rw [List.drop_drop,show k + i * k = (i + 1) * k by rw [Nat.succ_mul]; omega]
    exact h (i + 1) b hb)
   rw [List.flatMap_cons,← ih,← h0,List.take_append_drop]
theorem gSigns : Tryz.prog.globalNamed "semblance/expr.signs" = some 2 := by kernel_rfl
theorem tSigns:(Tryz.prog.globals[2]?).map (·.type) = some 198:=by kernel_rfl
theorem laid_signs {H:Type}:(Rows.laid_semblance_expr_signs:DataW H) = .agg (sgs.map sgD):=rfl
theorem signs_one {W : World} {rest : List (String × DataW Unit)} (h : laidMet Tryz.prog (("semblance/expr.signs", Rows.laid_semblance_expr_signs) :: rest) W) : SignsIn W := by
 obtain ⟨ps,⟨g',t',cs,fuel,p,q,hg',ht',hvar,hd,_,_⟩,_⟩:=h
 obtain rfl:=Option.some.inj (gSigns.symm.trans hg')
 obtain rfl:=Option.some.inj (tSigns.symm.trans ht')
 rw [laid_signs] at hd
 obtain ⟨xs,m,_,hx,hl,hxl,hel⟩:=DataW.trod_array Tryz.underlying198 hd
 simp only [Prod.mk.injEq,DataW.agg.injEq] at hx
 have hxs:=hx.1
 rw [sg_table] at hl
 have hc:cs.toList = sgs.flatMap sgC:=by
  refine flat_parts (k:=5) (fun s => rfl) sgs _ (by rw [hl]; rfl) (fun i s hs => ?_)
  have hi:i < 11:=by have:=get_lt hs; rwa [sgs_len] at this
  obtain ⟨y,hy⟩:∃ y,xs[i]? = some y:=get_some (by omega)
  have hf:=(hel i hi).trans hy
  rw [sg_cells] at hf
  have h2:(xs.map (·.1))[i]? = some y.1:=by simp [hy]
  rw [← hxs,List.getElem?_map,hs] at h2
  have h3:sgD s = y.1:=Option.some.inj h2
  obtain ⟨y1,y2⟩:=y
  subst h3
  exact sign_part hf
 have e:cs = signsV:=Array.toList_inj.mp hc
 subst e
 unfold World.var? at hvar
 rw [gSigns] at hvar
 simp only [Option.bind_some] at hvar
 split at hvar
 ·rename_i cs' T fr hb
  cases hvar
  exact ⟨T,fr,hb⟩
 ·cases hvar
theorem signs_in {W : World} {x : String × DataW Unit} {rest : List (String × DataW Unit)} (h : laidMet Tryz.prog (x :: ("semblance/expr.signs", Rows.laid_semblance_expr_signs) :: rest) W) : SignsIn W := signs_one (laidMet.tail h)
end Go.Proofs.YtcofikjpplkjdaaGreatDoor