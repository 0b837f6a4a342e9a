/- AtlasSpec, AtlasOnce, AtlasDo, ShapeMem, joined. -/
import Derived.Test.YtapnomdckglehaaGreatMAtlasTurns07
import Derived.Test.YtapnomdckglehaaGreatRows
import Derived.Test.YtapnomdckglehaaGreatMAtlasTurns00
import Derived.Tactics
import Derived.Tactics2
import Derived.Defers
import Derived.Laws.Pointers
import Derived.Laws.LoneSync
import Derived.RegionTactic
import Derived.RegionCalls
import Derived.ChangeAlike
import Derived.WalkKit
import Derived.Laws.NewBlocks
import Derived.Test.YtapnomdckglehaaGreatMAtlasTurns02
import Derived.Test.YtapnomdckglehaaGreatMAtlasTurns03
namespace Go.Proofs.YtapnomdckglehaaGreat
namespace AtlasSpec
open ShapeSpec GroupSpec
def belowTo (l:List Sh) (i n:Nat):List Int:=((List.range n).filter fun k => decide (i ∈ sf l k)).map Int.ofNat
theorem belowTo_yes {l:List Sh} {i n:Nat} (h:i ∈ sf l n):belowTo l i (n + 1) = belowTo l i n ++ [(n:Int)]:=by simp [belowTo,List.range_succ,List.filter_append,h]
theorem belowTo_no {l:List Sh} {i n:Nat} (h:i ∉ sf l n):belowTo l i (n + 1) = belowTo l i n:=by simp [belowTo,List.range_succ,List.filter_append,h]
theorem belowTo_mem {l:List Sh} {i n k:Nat}:(k:Int) ∈ belowTo l i n ↔ k < n ∧ i ∈ sf l k:=by
 unfold belowTo
 rw [mem_ints,List.mem_filter,List.mem_range,decide_eq_true_iff]
theorem belowTo_late {l:List Sh} {i n:Nat} (h:n ≤ i):belowTo l i n = []:=by
 induction n with
 | zero => rfl
 | succ n ih =>
   rw [belowTo_no (fun hm => by have:=sf_le hm; omega)]
   exact ih (by omega)
def abG (l:List Sh) (i:Nat):Nat:=ofG (upI l i)
def beG (l:List Sh) (i:Nat):Nat:=ofG (belowTo l i l.length)
def beP (l:List Sh) (i m:Nat) (b:Bool):Nat:=ofG (belowTo l i m ++ if b then [(m:Int)] else [])
theorem beP_no (l:List Sh) (i m:Nat):beP l i m false = ofG (belowTo l i m):=by
 unfold beP
 rw [if_neg (by simp),List.append_nil]
theorem beP_lt (l:List Sh) (i m:Nat) (b:Bool):beP l i m b < 2 ^ 64:=ofG_lt _
theorem beP_late {l:List Sh} {i m:Nat} (h:m ≤ i):beP l i m false = 0:=by
 rw [beP_no,belowTo_late h]
 rfl
theorem beP_with (l:List Sh) (i m:Nat) (b:Bool) (hm:m ≤ 63):withG (beP l i m b) (m:Int) = beP l i m true:=by
 unfold beP
 refine bits_eq (withG_lt (ofG_lt _) _) (ofG_lt _) fun k hk => ?_
 have e1:(if true = true then [(m:Int)] else []) = [(m:Int)]:=if_pos rfl
 rw [withG_bit,ofG_bit,ofG_bit,decide_eq_true hk,Bool.true_and,Bool.true_and,Bool.eq_iff_iff,Bool.or_eq_true,Bool.and_eq_true,decide_eq_true_iff,decide_eq_true_iff,decide_eq_true_iff,decide_eq_true_iff,List.mem_append,List.mem_append,e1,List.mem_singleton]
 have e2:(k:Int) ∈ (if b = true then [(m:Int)] else []) → (k:Int) = m:=by
  cases b with
  | true => rw [if_pos rfl,List.mem_singleton]; exact id
  | false => rw [if_neg (by simp)]; intro h; cases h
 constructor
 ·rintro ((h | h) | h)
  ·exact .inl h
  ·exact .inr (e2 h)
  ·exact .inr h.2
 ·rintro (h | h)
  ·exact .inl (.inl h)
  ·exact .inr ⟨by omega,h⟩
theorem beP_next {l:List Sh} {i m:Nat}:beP l i m (decide (i ∈ sf l m)) = beP l i (m + 1) false:=by
 rw [beP_no]
 unfold beP
 by_cases h:i ∈ sf l m
 ·rw [decide_eq_true h,if_pos rfl,belowTo_yes h]
 ·rw [decide_eq_false h,if_neg (by simp),List.append_nil,belowTo_no h]
theorem beP_all (l:List Sh) (i:Nat):beP l i l.length false = beG l i:=beP_no _ _ _
def kidsTb (l:List Sh) (i:Int):List Int:=if 0 ≤ i ∧ i < l.length then kids l i.toNat else []
def aboveTb (l:List Sh) (i:Int):Nat:=if 0 ≤ i ∧ i < l.length then abG l i.toNat else 0
def belowTb (l:List Sh) (i:Int):Nat:=if 0 ≤ i ∧ i < l.length then beG l i.toNat else 0
def depthTb (l:List Sh) (i:Int):Nat:=if 0 ≤ i ∧ i < l.length then (up l i.toNat).length + 1 else 0
theorem abG_lt (l:List Sh) (i:Nat):abG l i < 2 ^ 64:=ofG_lt _
theorem beG_lt (l:List Sh) (i:Nat):beG l i < 2 ^ 64:=ofG_lt _
section
variable {l:List Sh} {i:Int} {j:Nat}
theorem kidsTb_in (h:j < l.length):kidsTb l (j:Int) = kids l j:=by unfold kidsTb; rw [if_pos (by omega)]; rfl
theorem aboveTb_in (h:j < l.length):aboveTb l (j:Int) = abG l j:=by unfold aboveTb; rw [if_pos (by omega)]; rfl
theorem belowTb_in (h:j < l.length):belowTb l (j:Int) = beG l j:=by unfold belowTb; rw [if_pos (by omega)]; rfl
theorem depthTb_in (h:j < l.length):depthTb l (j:Int) = (up l j).length + 1:=by unfold depthTb; rw [if_pos (by omega)]; rfl
theorem rowTb_out (h:¬ (0 ≤ i ∧ i < l.length)):kidsTb l i = [] ∧ aboveTb l i = 0 ∧ belowTb l i = 0 ∧ depthTb l i = 0:=by
 unfold kidsTb aboveTb belowTb depthTb
 rw [if_neg h,if_neg h,if_neg h,if_neg h]
 exact ⟨rfl,rfl,rfl,rfl⟩
end
theorem above_has {l:List Sh} {i k:Nat} (hi:i < 64):hasG (abG l k) (i:Int) = decide (i ∈ up l k):=by
 unfold abG
 rw [bit_hasG hi,ofG_bit,decide_eq_true hi,Bool.true_and,Bool.eq_iff_iff,decide_eq_true_iff,decide_eq_true_iff,upI_mem]
theorem below_has {l:List Sh} {i k:Nat} (hk:k < l.length) (h64:k < 64):hasG (beG l i) (k:Int) = decide (i ∈ sf l k):=by
 unfold beG
 rw [bit_hasG h64,ofG_bit,decide_eq_true h64,Bool.true_and,Bool.eq_iff_iff,decide_eq_true_iff,decide_eq_true_iff,belowTo_mem]
 exact ⟨fun h => h.2,fun h => ⟨hk,h⟩⟩
theorem turned {l:List Sh} {i k:Nat} (hl:l.length ≤ 64) (hi:i < l.length) (hk:k < l.length):(hasG (abG l k) (i:Int) || decide (i = k)) = hasG (beG l i) (k:Int) ∧ hasG (abG l i) (i:Int) = false:=by
 rw [above_has (by omega),above_has (by omega),below_has hk (by omega)]
 constructor
 ·rw [Bool.eq_iff_iff,Bool.or_eq_true,decide_eq_true_iff,decide_eq_true_iff,decide_eq_true_iff,sf,List.mem_cons]
  exact Or.comm
 ·exact decide_eq_false fun h => by have:=up_lt h; omega
end AtlasSpec
end Go.Proofs.YtapnomdckglehaaGreat
namespace Go.Proofs.YtapnomdckglehaaGreat
open Go.RowKit
set_option maxRecDepth 100000
theorem on_disable (w:World):(callFunc 127 #[]).run Tryz.prog w = .ok (.value (.tuple #[])) w:=run_call_mark0 Tryz.func127 (by kernel_rfl) (by kernel_rfl) (by kernel_rfl) .disable (by kernel_rfl) w
theorem on_enable (w:World):(callFunc 129 #[]).run Tryz.prog w = .ok (.value (.tuple #[])) w:=run_call_mark0 Tryz.func129 (by kernel_rfl) (by kernel_rfl) (by kernel_rfl) .enable (by kernel_rfl) w
theorem on_acquire (a:Addr) (w:World):(callFunc 130 #[.pointer (some a)]).run Tryz.prog w = .ok (.value (.tuple #[])) w:=run_call_marked Tryz.func130 (by kernel_rfl) (by kernel_rfl) (by kernel_rfl) .acquire (by kernel_rfl) a w
theorem on_release (a:Addr) (w:World):(callFunc 132 #[.pointer (some a)]).run Tryz.prog w = .ok (.value (.tuple #[])) w:=run_call_marked Tryz.func132 (by kernel_rfl) (by kernel_rfl) (by kernel_rfl) .releaseMerge (by kernel_rfl) a w
theorem store_deferred (a:Addr) (x:Value) (u:FrameMode) (w:World) (hc:w.cell? a = some x) (hz:w.frozen? a = false) :
 CallsD Tryz.prog 89 #[.pointer (some a),.bool true] u w fun e u' w' => u' = u ∧ (e = .returned (.tuple #[]) ∧ w' = w.drew.setCell a (.int .u32 1)):=by
 have hc':w.drew.cell? a = some x:=by go_simp
 have hz':w.drew.frozen? a = false:=by go_simp
 have hst:=run_call_store (P:=Tryz.prog) Tryz.func111 (by kernel_rfl) (by kernel_rfl) (by kernel_rfl) (by kernel_rfl) (k:=.u32) (y:=1) hc' hz'
 go_enter_d Tryz.func89,Tryz.ntmps89
 go_wp2
 go_region_calls
 all_goals (go_end0; exact ⟨rfl,rfl⟩)
theorem unlock_deferred (a:Addr) (u:FrameMode) (w:World) (hc:w.cell? a = some (.int .i32 1)) (hz:w.frozen? a = false) :
 CallsD Tryz.prog 88 #[.pointer (some a)] u w fun e u' w' => u' = u ∧ (e = .returned (.tuple #[]) ∧ w' = w.setCell a (.int .i32 0)):=by
 have hd:=on_disable
 have he:=on_enable
 have hr:=on_release
 have hadd:=run_call_add (P:=Tryz.prog) Tryz.func133 (by kernel_rfl) (by kernel_rfl) (by kernel_rfl) .i32 (by kernel_rfl) (y:=-1) (s:=0) hc hz (by simp [go_sem]; rfl)
 have hcv:=run_convert_to_unsafe (P:=Tryz.prog) (src:=167) (dst:=171) Tryz.underlying167 Tryz.underlying171 (by kernel_rfl) hc
 go_enter_d Tryz.func88,Tryz.ntmps88
 go_wp2
 go_end0
 go_wp2
 go_end0
 exact ⟨rfl,rfl⟩
theorem lock_free (a:Addr) (w:World) (hc:w.cell? a = some (.int .i32 0)) (hz:w.frozen? a = false) :
 Calls Tryz.prog 87 #[.pointer (some a)] w fun e w' => e = .returned (.tuple #[]) ∧ w' = w.setCell a (.int .i32 1):=by
 have hd:=on_disable
 have he:=on_enable
 have ha:=on_acquire
 have hcas:=run_call_cas_hit (P:=Tryz.prog) Tryz.func128 (by kernel_rfl) (by kernel_rfl) (by kernel_rfl) .i32 (by kernel_rfl) (y:=1) hc hz
 have hc':(w.setCell a (.int .i32 1)).cell? a = some (.int .i32 1):=World.cell?_setCell_same w a _ hc
 have hcv:=run_convert_to_unsafe (P:=Tryz.prog) (src:=167) (dst:=171) Tryz.underlying167 Tryz.underlying171 (by kernel_rfl) hc'
 go_enter Tryz.func87,Tryz.ntmps87
 go_wp2
 first | go_end0 | (simp only [Exit.inBlock,Exit.then]; refine bodyPost_ret (results_none rfl _ _ _) rfl ?_) | refine bodyPost_ret (results_none rfl _ _ _) rfl ?_
 go_wp2
 go_end0
 exact ⟨rfl,rfl⟩
end Go.Proofs.YtapnomdckglehaaGreat
namespace Go.Proofs.YtapnomdckglehaaGreat
open Go.RowKit
set_option maxRecDepth 100000
abbrev atO (nm:ByteArray) (e v s:Value) (d m:Int) (pl rw ev:Value):Obj:=.cells #[.bool true,.string nm,e,v,s,.int .u32 d,.int .i32 m,.int .u32 0,pl,rw,ev] 63
theorem at_cells {w:World} {B:Nat} {nm:ByteArray} {e v s pl rw ev:Value} {d m:Int} (h:w.heap[B]? = some (atO nm e v s d m pl rw ev)) :
 w.cell? ⟨B,0,none⟩ = some (.bool true) ∧ w.cell? ⟨B,1,none⟩ = some (.string nm) ∧ w.cell? ⟨B,2,none⟩ = some e ∧ w.cell? ⟨B,3,none⟩ = some v ∧ w.cell? ⟨B,4,none⟩ = some s ∧
  w.cell? ⟨B,5,none⟩ = some (.int .u32 d) ∧ w.cell? ⟨B,6,none⟩ = some (.int .i32 m) ∧ w.cell? ⟨B,8,none⟩ = some pl ∧ w.cell? ⟨B,9,none⟩ = some rw ∧ w.cell? ⟨B,10,none⟩ = some ev :=
 ⟨cell_of_block' h rfl,cell_of_block' h rfl,cell_of_block' h rfl,cell_of_block' h rfl,cell_of_block' h rfl,cell_of_block' h rfl,cell_of_block' h rfl,cell_of_block' h rfl,cell_of_block' h rfl,cell_of_block' h rfl⟩
theorem load_done (a:Addr) (d:Int) (w:World) (h0:w.cell? a = some (.int .u32 d)) :
 Calls Tryz.prog 62 #[.pointer (some a)] w fun r w' => r = .returned (.bool (d != 0)) ∧ w' = w:=by
 have hl:=run_call_load (P:=Tryz.prog) Tryz.func86 (by kernel_rfl) (by kernel_rfl) (by kernel_rfl) .u32 (by kernel_rfl) h0
 go_enter Tryz.func62,Tryz.ntmps62
 go_wp2
 go_ret
 exact ⟨rfl,rfl⟩
set_option maxRecDepth 100000 in
set_option maxHeartbeats 4000000 in
theorem slow_at (B:Nat) (nm:ByteArray) (e v s pl rw ev:Value) (Q:World → Value → Value → Value → World → Prop) (w:World) (h:w.heap[B]? = some (atO nm e v s 0 0 pl rw ev))
 (HM:Calls Tryz.prog 36 #[.pointer (some ⟨B,0,none⟩)] (w.setCell ⟨B,6,none⟩ (.int .i32 1)) fun r w' => r = .returned (.tuple #[]) ∧ ∃ pl' rw' ev',w'.heap[B]? = some (atO nm e v s 0 1 pl' rw' ev') ∧ Q (w.setCell ⟨B,6,none⟩ (.int .i32 1)) pl' rw' ev' w') :
 Calls Tryz.prog 63 #[.pointer (some ⟨B,5,none⟩),.func (.func 36) #[.pointer (some ⟨B,0,none⟩)] #[]] w fun r w' => r = .returned (.tuple #[]) ∧ ∃ pl' rw' ev' w2,w2.heap[B]? = some (atO nm e v s 0 1 pl' rw' ev') ∧ Q (w.setCell ⟨B,6,none⟩ (.int .i32 1)) pl' rw' ev' w2 ∧
  w' = (w2.drew.setCell ⟨B,5,none⟩ (.int .u32 1)).setCell ⟨B,6,none⟩ (.int .i32 0):=by
 obtain ⟨-,-,-,-,-,c5,c6,-⟩:=at_cells h
 have f5:w.frozen? ⟨B,5,none⟩ = false:=free_of_block' h 5
 have f6:w.frozen? ⟨B,6,none⟩ = false:=free_of_block' h 6
 have c5':(w.setCell ⟨B,6,none⟩ (.int .i32 1)).cell? ⟨B,5,none⟩ = some (.int .u32 0):=(World.cell?_setCell_other _ ⟨B,6,none⟩ ⟨B,5,none⟩ _ (by simp)).trans c5
 have HLD:=Lib.hid (load_done _ _ _ c5')
 have hnot:∀ (x:Bool) (w:World),(Op.unary .not (.bool x)).run Tryz.prog w = .ok (.bool (!x)) w:=fun _ _ => rfl
 have HM':=Lib.hid HM
 clear HM h c5'
 go_enter_defers Tryz.func63,Tryz.ntmps63
 go_wp2_with (go_at_call 87; refine (lock_free ⟨B,6,none⟩ _ (by go_simp) (by go_simp)).mono ?_; rintro e w' ⟨rfl,rfl⟩)
 go_wp2_with (go_at_call 62; refine HLD.out.mono ?_; rintro r w1 ⟨rfl,rfl⟩)
 go_wp2_with (go_at_call 36; refine HM'.out.mono ?_; rintro r w2 ⟨rfl,pl',rw',ev',h2,hq⟩)
 have hd5:w2.drew.heap[B]? = some (atO nm e v s 0 1 pl' rw' ev'):=h2
 have h3:(w2.drew.setCell ⟨B,5,none⟩ (.int .u32 1)).heap[B]? = some (atO nm e v s 1 1 pl' rw' ev'):=block_setCell' hd5 5 _
 obtain ⟨-,-,-,-,-,d5,d6,-⟩:=at_cells h2
 obtain ⟨-,-,-,-,-,-,e6,-⟩:=at_cells h3
 refine leaves_cons (f:=89) (args:=#[.pointer (some ⟨B,5,none⟩),.bool true]) (by simp) (by simp [go_sem]) ?_
 refine (store_deferred ⟨B,5,none⟩ (.int .u32 0) .returning _ d5 (free_of_block' h2 5)).mono ?_
 rintro e u' w'' ⟨rfl,rfl,rfl⟩
 refine leaves_cons (f:=88) (args:=#[.pointer (some ⟨B,6,none⟩)]) (by simp [settle]) (by simp [go_sem]) ?_
 refine (unlock_deferred ⟨B,6,none⟩ _ _ e6 (free_of_block' h3 6)).mono ?_
 rintro e u' w'' ⟨rfl,rfl,rfl⟩
 simp [Leaves,settle,results,Tryz.results63]
 exact ⟨pl',rw',ev',w2,h2,hq,rfl⟩
set_option maxRecDepth 100000 in
set_option maxHeartbeats 4000000 in
theorem do_first (B:Nat) (nm:ByteArray) (e v s pl rw ev:Value) (Q:World → Value → Value → Value → World → Prop) (w:World) (h:w.heap[B]? = some (atO nm e v s 0 0 pl rw ev))
 (HM:Calls Tryz.prog 36 #[.pointer (some ⟨B,0,none⟩)] (w.setCell ⟨B,6,none⟩ (.int .i32 1)) fun r w' => r = .returned (.tuple #[]) ∧ ∃ pl' rw' ev',w'.heap[B]? = some (atO nm e v s 0 1 pl' rw' ev') ∧ Q (w.setCell ⟨B,6,none⟩ (.int .i32 1)) pl' rw' ev' w') :
 Calls Tryz.prog 35 #[.pointer (some ⟨B,5,none⟩),.func (.func 36) #[.pointer (some ⟨B,0,none⟩)] #[]] w fun r w' => r = .returned (.tuple #[]) ∧ ∃ pl' rw' ev' w2,w2.heap[B]? = some (atO nm e v s 0 1 pl' rw' ev') ∧ Q (w.setCell ⟨B,6,none⟩ (.int .i32 1)) pl' rw' ev' w2 ∧
  w' = (w2.drew.setCell ⟨B,5,none⟩ (.int .u32 1)).setCell ⟨B,6,none⟩ (.int .i32 0):=by
 have HS:=Lib.hid (slow_at B nm e v s pl rw ev Q w h HM)
 have HLD:=Lib.hid (load_done _ _ w (at_cells h).2.2.2.2.2.1)
 have hnot:∀ (x:Bool) (w:World),(Op.unary .not (.bool x)).run Tryz.prog w = .ok (.bool (!x)) w:=fun _ _ => rfl
 clear HM h
 go_enter Tryz.func35,Tryz.ntmps35
 go_wp2_with (go_at_call 62; refine HLD.out.mono ?_; rintro r w1 ⟨rfl,rfl⟩)
 go_wp2_with (go_at_call 63; refine HS.out.mono ?_; rintro r w2 ⟨rfl,hq⟩)
 go_end0
 exact ⟨rfl,hq⟩
theorem do_done (a:Addr) (fv:Value) (w:World) (h0:w.cell? a = some (.int .u32 1)) :
 Calls Tryz.prog 35 #[.pointer (some a),fv] w fun r w' => r = .returned (.tuple #[]) ∧ w' = w:=by
 have HLD:=Lib.hid (load_done _ _ w h0)
 have hnot:∀ (x:Bool) (w:World),(Op.unary .not (.bool x)).run Tryz.prog w = .ok (.bool (!x)) w:=fun _ _ => rfl
 go_enter Tryz.func35,Tryz.ntmps35
 go_wp2_with (go_at_call 62; refine HLD.out.mono ?_; rintro r w1 ⟨rfl,rfl⟩)
 go_end0
 exact ⟨rfl,rfl⟩
end Go.Proofs.YtapnomdckglehaaGreat
namespace Go.Proofs.YtapnomdckglehaaGreat
open Go.RowKit ShapeSpec
structure StC where
 s:ByteArray
 sh:Sh
 a3:Option Addr
 n3:Nat
 c3:Nat
 a4:Option Addr
 n4:Nat
 c4:Nat
 a5:Option Addr
 n5:Nat
 c5:Nat
def stV (t:StC):List Value:=[.string t.s,.int .i64 t.sh.kind,.int .i64 t.sh.par,.slice t.a3 t.n3 t.c3,.slice t.a4 t.n4 t.c4,.slice t.a5 t.n5 t.c5]
def stsV (l:List StC):List Value:=l.flatMap stV
theorem stV_length (t:StC):(stV t).length = 6:=rfl
def Sts (w:World) (v:Value) (l:List Sh):Prop:=∃ xs:List StC,l = xs.map (·.sh) ∧ Rdk 6 w v l.length (stsV xs)
theorem Sts.keep {w w':World} {v:Value} {l:List Sh} (h:Sts w v l) (hb:Below w.heap.size w w'):Sts w' v l:=by
 obtain ⟨xs,hx,h⟩:=h
 exact ⟨xs,hx,h.keep hb⟩
theorem Sts.alloc {w:World} {v:Value} {l:List Sh} (h:Sts w v l) (o:Obj):Sts (w.alloc o) v l:=h.keep ((Below.refl _ _).alloc (Nat.le_refl _) _)
theorem Sts.shape {w:World} {v:Value} {l:List Sh} (h:Sts w v l):∃ A n c,v = .slice A n c ∧ n = l.length ∧ n ≤ c:=by
 obtain ⟨xs,hx,A,c,hv,hc,_⟩:=h
 exact ⟨A,_,c,hv,rfl,hc⟩
theorem Sts.all {w:World} {A:Option Addr} {n c:Nat} {l:List Sh} {i:Nat} {t:Sh} (h:Sts w (.slice A n c) l) (hi:l[i]? = some t) :
 ∃ b off s a3 n3 c3 a4 n4 c4 a5 n5 c5,A = some ⟨b,off,none⟩ ∧ b < w.heap.size ∧ w.cell? ⟨b,off + i * 6,none⟩ = some (.string s) ∧ w.cell? ⟨b,off + i * 6 + 1,none⟩ = some (.int .i64 t.kind) ∧ w.cell? ⟨b,off + i * 6 + 2,none⟩ = some (.int .i64 t.par) ∧
   w.cell? ⟨b,off + i * 6 + 3,none⟩ = some (.slice a3 n3 c3) ∧ w.cell? ⟨b,off + i * 6 + 4,none⟩ = some (.slice a4 n4 c4) ∧ w.cell? ⟨b,off + i * 6 + 5,none⟩ = some (.slice a5 n5 c5):=by
 obtain ⟨xs,rfl,A',c',heq,hc,hl,hA⟩:=h
 cases heq
 have hlt:=get_lt hi
 rw [List.getElem?_map] at hi
 obtain ⟨x,hx,rfl⟩:=Option.map_eq_some_iff.1 hi
 obtain ⟨b,off,rfl,hb,hcell⟩:=hA (by omega)
 refine ⟨b,off,x.s,x.a3,x.n3,x.c3,x.a4,x.n4,x.c4,x.a5,x.n5,x.c5,rfl,hb,?_,?_,?_,?_,?_,?_⟩
 ·exact hcell _ _ (flat_get (j:=0) stV_length hx (by omega))
 ·rw [Nat.add_assoc]; exact hcell _ _ (flat_get (j:=1) stV_length hx (by omega))
 ·rw [Nat.add_assoc]; exact hcell _ _ (flat_get (j:=2) stV_length hx (by omega))
 ·rw [Nat.add_assoc]; exact hcell _ _ (flat_get (j:=3) stV_length hx (by omega))
 ·rw [Nat.add_assoc]; exact hcell _ _ (flat_get (j:=4) stV_length hx (by omega))
 ·rw [Nat.add_assoc]; exact hcell _ _ (flat_get (j:=5) stV_length hx (by omega))
theorem Sts.at_ {w:World} {A:Option Addr} {n c:Nat} {l:List Sh} {i:Nat} (h:Sts w (.slice A n c) l) (hi:i < n) :
 ∃ b off,A = some ⟨b,off,none⟩ ∧ b < w.heap.size ∧ w.cell? ⟨b,off + i * 6 + 1,none⟩ = some (.int .i64 (kind l i)) ∧ w.cell? ⟨b,off + i * 6 + 2,none⟩ = some (.int .i64 (par l i)):=by
 obtain ⟨_,m,_,heq,hm,_⟩:=h.shape
 cases heq
 obtain ⟨t,ht⟩:∃ t,l[i]? = some t:=get_some (by omega)
 obtain ⟨b,off,s,a3,n3,c3,a4,n4,c4,a5,n5,c5,rfl,hb,h0,h1,h2,_⟩:=h.all ht
 rw [kind_at ht,par_at ht]
 exact ⟨b,off,rfl,hb,h1,h2⟩
theorem Sts.len {w:World} {A:Option Addr} {n c:Nat} {l:List Sh} (h:Sts w (.slice A n c) l):n = l.length:=by
 obtain ⟨_,m,_,heq,hm,_⟩:=h.shape
 cases heq
 exact hm
end Go.Proofs.YtapnomdckglehaaGreat