/- ActText, EvalAwake, ActAwake, EvalRefAt, EvalRefAt1, joined. -/
import Derived.Test.YtcfcpbkeedfbpaaGreatDoorMActRuns08
import Derived.Test.YtcfcpbkeedfbpaaGreatDoorMActRuns09
import Derived.Test.YtcfcpbkeedfbpaaGreatDoorMActRuns04
import Derived.Test.YtcfcpbkeedfbpaaGreatDoorMActRuns10
import Derived.Test.YtcfcpbkeedfbpaaGreatDoorShelf
import Derived.Test.YtcfcpbkeedfbpaaGreatDoorMActRuns05
import Derived.Laws.Tables
import Derived.Deep.RegionHeld3
import Derived.Test.YtcfcpbkeedfbpaaGreatDoorMActRuns02
import Derived.BigQuiet
namespace Go.Proofs.YtcfcpbkeedfbpaaGreatDoor
open Go.RowKit TermSpec EvalSpec ActSpec NamesSpec ExprSpec
set_option maxRecDepth 100000

set_option maxHeartbeats 1000000 in
theorem atext_any (t : Ta) (h : t.Ok) (A : Option Addr) (n c : Nat) (w : World) (ht : Tms w (.slice A n c) t.ac.x) (hsm : Small t.ac.x) (hg : SignsIn w) :
    Calls Tryz.prog 27 #[.agg #[.string t.s, .bool t.any, .slice A n c]] w (RetS w (txA t)) := by
  have hsz := name_size h.1
  rcases ha : t.any with _ | _
  · obtain ⟨hgx, hk⟩ := h.2 ha
    have h40 := ta_few h ha
    have htz := tx_size hgx
    have hx : t.ac.x = flat t.e := by simp [Ta.ac, ha]
    rw [hx] at ht hsm
    obtain ⟨A', n', c', heq, hn, hnc⟩ := ht.shape
    cases heq
    have HP : Hid (∀ W, Below w.heap.size w W → Calls Tryz.prog 47 #[.slice A n c] W (RetPut W (tx t.e) 0)) := Lib.hid (fun W hW => put_ok A n c (flat t.e) W (ht.keep hW) hn hsm (hg.keep hW) rfl hgx hk h40)
    have HT : Hid (txA t = t.s ++ ⟨#[32, 58, 61, 32]⟩ ++ tx t.e) := Lib.hid (by unfold txA; rw [if_neg (by simp [ha])])
    obtain ⟨x, hxx⟩ : ∃ x, x = tx t.e := ⟨_, rfl⟩
    rw [← hxx] at HP HT htz
    have h5 : t.s.size ≤ 12 := hsz
    have h6 : x.size ≤ 1200 := by omega
    obtain ⟨s, hs⟩ : ∃ s, s = t.s := ⟨_, rfl⟩
    rw [← hs] at HT h5 ⊢
    have h7 : ¬ 9223372036854775807 < s.size + 4 := by omega
    have h8 : ¬ 9223372036854775807 < s.size + 4 + x.size := by omega
    clear hx ht hn hnc hgx hk h40 htz hxx hs hsz ha hg hsm
    go_enter Tryz.func27, Tryz.ntmps27
    go_wp2_with (go_at_call 47; (with_reducible refine (HP.out _ (KitC.below_one _ _)).mono ?_))
    rintro e2 w2 ⟨rfl, hb2⟩
    obtain ⟨B2, hbb, _⟩ := KitC.one_block hb2
    have HB2 := Lib.hid hbb
    obtain ⟨c0, c1, c2⟩ := cells_3 B2
    clear hb2 hbb B2
    go_wp2_with fail
    go_ret
    exact ⟨by rw [HT.out]; rfl, HB2.out⟩
  · have HT : Hid (txA t = ⟨#[97, 110, 121, 32]⟩ ++ t.s) := Lib.hid (by unfold txA; rw [if_pos ha])
    obtain ⟨s, hs⟩ : ∃ s, s = t.s := ⟨_, rfl⟩
    rw [← hs] at HT hsz ⊢
    have h7 : ¬ 9223372036854775807 < 4 + s.size := by omega
    clear ht hs ha hg h hsm
    go_enter Tryz.func27, Tryz.ntmps27
    go_wp2_with fail
    go_ret
    exact ⟨by rw [HT.out]; rfl, KitC.below_one _ _⟩
def APutRel (W w1 : World) (ts : List Ta) (p i : Value) (wr : World) : Prop := ∃ k : Nat, k ≤ ts.length ∧ i = .int .i64 k ∧ RowS w1 wr p ((ts.take k).map txA) ∧ Below W.heap.size W w1
theorem txs_next {ts : List Ta} {k : Nat} {t : Ta} (h : ts[k]? = some t) : (ts.take (k + 1)).map txA = (ts.take k).map txA ++ [txA t] := by rw [take_next h, List.map_append]; rfl
/-- The call of Join over a row of the call's own. -/
theorem join_row {W w : World} {p : Value} {xs : List ByteArray} (h : RowS W w p xs) (h8 : xs.length ≤ 8) (hl : (Lib.join (xs.map (·.data.toList)) [44, 32]).length ≤ 140737488355328) :
    ∃ A n c, p = .slice A n c ∧ Calls Tryz.prog 28 #[.slice A n c, .string ⟨#[44, 32]⟩] w (RetS w ⟨(Lib.join (xs.map (·.data.toList)) [44, 32]).toArray⟩) := by
  obtain ⟨A, n, c, rfl, hn, hc, hA⟩ := h.read.strs
  rcases Nat.eq_zero_or_pos n with h0 | h0
  · subst h0
    obtain rfl : xs = [] := List.eq_nil_of_length_eq_zero hn
    exact ⟨A, 0, c, rfl, (Tryz.strings_Join_none A c _ w).mono fun e w' ⟨he, hw⟩ => ⟨he, by rw [hw]; exact Below.refl _ _⟩⟩
  · obtain ⟨b, off, rfl, hb, hcell⟩ := hA h0
    subst hn
    exact ⟨_, _, c, rfl, Tryz.strings_Join b off c xs ⟨#[44, 32]⟩ w hcell hb (by omega) hc hl⟩
set_option maxHeartbeats 4000000 in
theorem aput_any (A : Option Addr) (n c : Nat) (l : List Ac) (hs : ∀ a ∈ l, SmallA a) (hl : l.length ≤ 9223372036854775807) (w : World) (h : Acs w (.slice A n c) l) (hg : SignsIn w) :
    (chkA l ≠ 0 → Calls Tryz.prog 8 #[.slice A n c] w (RetPut w ⟨#[]⟩ (chkA l))) ∧
    (∀ ts : List Ta, ts.map Ta.ac = l → (∀ t ∈ ts, t.Ok) → chkA l = 0 → Calls Tryz.prog 8 #[.slice A n c] w (RetPut w (putB ts) 0)) := by
  have HT := Lib.hid h
  have HN := Lib.hid h.len.1
  have hcap := h.len.2
  have HCK := Lib.hid (check_acts A n c l hs hl w h)
  have HG := Lib.hid hg
  have HS := Lib.hid hs
  refine ⟨fun hk => ?_, fun ts hts hok hk => ?_⟩
  · obtain ⟨k, hkk⟩ : ∃ k, k = chkA l := ⟨_, rfl⟩
    rw [← hkk] at HCK hk ⊢
    have e1 : (k != 0) = true := by simpa using hk
    clear h hs hl hg hkk hk
    go_enter Tryz.func8, Tryz.ntmps8
    go_wp2_with (go_at_call 10; (with_reducible refine HCK.out.mono ?_))
    rintro e w1 ⟨rfl, hb1⟩
    have HB := Lib.hid hb1
    clear hb1
    go_wp2_with fail
    go_ret2
    exact ⟨rfl, HB.out⟩
  · have h8 : ts.length ≤ 8 := by
      have h1 : l.length = ts.length := by rw [← hts, List.length_map]
      have h2 : l.length ≤ 8 := by
        unfold chkA at hk
        split at hk
        · cases hk
        · omega
      omega
    have HLN : Hid (l.length = ts.length) := Lib.hid (by rw [← hts, List.length_map])
    rw [hk] at HCK
    obtain ⟨i0, hi, hz0, hz1, hz2⟩ := info_parts inf_str
    have HI := Lib.hid (And.intro hi (And.intro hz0 (And.intro hz1 hz2)))
    have HOK := Lib.hid hok
    have HTS := Lib.hid hts
    obtain ⟨P, hP⟩ : ∃ P, P = putB ts := ⟨_, rfl⟩
    rw [← hP]
    have HP := Lib.hid hP
    have HJL : Hid ((Lib.join ((ts.map txA).map (·.data.toList)) [44, 32]).length ≤ 140737488355328 ∧ (⟨(Lib.join ((ts.map txA).map (·.data.toList)) [44, 32]).toArray⟩ : ByteArray) = putB ts) := Lib.hid (by
      have h1 := putB_size hok
      have h2 : (putB ts).size = (putT ts).length := by simp [putB, ByteArray.size]
      have h3 : Lib.join ((ts.map txA).map (·.data.toList)) [44, 32] = putT ts := by unfold putT; rw [List.map_map]; rfl
      rw [h3]
      exact ⟨by omega, rfl⟩)
    clear h hs hl hg hk hts hok hi hz0 hz1 hz2 hP
    go_enter Tryz.func8, Tryz.ntmps8
    go_wp2_with (go_at_call 10; (with_reducible refine HCK.out.mono ?_))
    rintro e w1 ⟨rfl, hb1⟩
    have HB1 := Lib.hid hb1
    clear hb1
    go_wp2_with fail
    go_loopw [5, 7, 15] (fun p _ i wr => APutRel w w1 ts p i wr) (fun _ _ i _ => ts.length - (intOf i).toNat)
    case atStart => exact ⟨0, Nat.zero_le _, rfl, RowS.nil _ _ (Below.refl _ _), HB1.out⟩
    case round =>
      obtain ⟨k, hkt, rfl, hrow, _⟩ := hrel
      have HR0 := Lib.hid hrow
      have HWB := Lib.hid (below_two' HB1.out hrow.2)
      clear hrow
      by_cases hlt : k < n
      · have hkI : (k : Int) < n := by omega
        have hk8 : (k : Int) ≤ 8 := by omega
        obtain ⟨t, ht⟩ : ∃ t, ts[k]? = some t := get_some (by have := HN.out; have := HLN.out; omega)
        have hla : l[k]? = some t.ac := by rw [← HTS.out, List.getElem?_map, ht]; rfl
        obtain ⟨b, off, tA, tn, tc, rfl, hb, htm, d0, d1, d2⟩ := (HT.out.keep HWB.out).at_ hla
        obtain ⟨tA', tn', tc', heq, htn, htc⟩ := htm.shape
        cases heq
        have HC : Hid (∀ V, Below wr.heap.size wr V → Calls Tryz.prog 27 #[.agg #[.string t.s, .bool t.any, .slice tA tn tc]] V (RetS V (txA t))) := Lib.hid (fun V hV => atext_any t (HOK.out t (List.mem_of_getElem? ht)) tA tn tc V (htm.keep hV) (HS.out _ (List.mem_of_getElem? hla)).2.1 (HG.out.keep (below_two' HWB.out hV)))
        have HX := Lib.hid (txs_next ht)
        have hd0 : wr.cell? ⟨b, off + k * 3, none⟩ = some (.string t.s) := d0
        have hd1 : wr.cell? ⟨b, off + k * 3 + 1, none⟩ = some (.bool t.any) := d1
        obtain ⟨x, hx⟩ : ∃ x, x = txA t := ⟨_, rfl⟩
        rw [← hx] at HC HX
        have HL1 : Hid (((ts.take k).map txA).length + (strV [x]).length ≤ maxLen) := Lib.hid (by rw [List.length_map, List.length_take]; simp [maxLen]; omega)
        have HL2 : Hid ((((ts.take k).map txA).length + (strV [x]).length) * 16 ≤ 140737488355328) := Lib.hid (by rw [List.length_map, List.length_take]; simp; omega)
        clear ht hla htm htn hx d0 d1
        obtain ⟨ta, tany, te⟩ := t
        simp only at hd0 hd1 HC
        go_wp2_with (go_at_call 27; (with_reducible refine (HC.out _ (KitC.below_one _ _)).mono ?_))
        rintro e w2 ⟨rfl, hb2⟩
        have HR1 := Lib.hid (HR0.out.keep (below_two' (KitC.below_one _ _) hb2))
        have HSZ : Hid (w1.heap.size ≤ w2.heap.size) := Lib.hid HR1.out.2.size
        have HRA := Lib.hid HR1.out.1
        clear hb2
        go_wp2_with (at_builtin; refine wpList_append_rd _ rfl (.tmp 19) (.tmp 22) _ rfl w1.heap.size 9 i0 (.string ByteArray.empty) 16 Tryz.underlying52 HI.out.1 HI.out.2.1 HI.out.2.2.1 HI.out.2.2.2 rfl _ _ _ rfl (own_keep HRA.out (KitC.below_one _ _)) _ (strV [x]) rfl (lit_here rfl rfl rfl) (strV_one _) HL1.out HL2.out ?_ ?_; (have := HSZ.out; simp; omega); intro p2 w3 hrow3 hg3 _; have HR2 := Lib.hid (RowS.add HR1.out hrow3 hg3); clear hrow3 hg3)
        go_roundw
        case rel => first | exact ⟨k + 1, by have := HN.out; have := HLN.out; omega, by go_num, by rw [HX.out]; exact HR2.out, HB1.out⟩ | ((repeat apply Exists.intro); exact ⟨⟨k + 1, by have := HN.out; have := HLN.out; omega, by go_num, by rw [HX.out]; exact HR2.out, HB1.out⟩, rfl⟩)
        case measure => have := HN.out; have := HLN.out; simp [intOf]; omega
      · have hkI : ¬ (k : Int) < n := by omega
        have hall : ts.take k = ts := List.take_of_length_le (by have := HN.out; have := HLN.out; omega)
        have hr := HR0.out
        rw [hall] at hr
        obtain ⟨jA, jn, jc, rfl, hj⟩ := join_row hr (by rw [List.length_map]; exact h8) HJL.out.1
        rw [HJL.out.2, ← HP.out] at hj
        have HJ := Lib.hid hj
        clear hall hr hj
        go_wp2_with (go_at_call 28; (with_reducible refine HJ.out.mono ?_))
        rintro e w2 ⟨rfl, hb2⟩
        have HB2 := Lib.hid (below_two' HWB.out hb2)
        clear hb2
        go_wp2_with fail
        go_ret2
        exact ⟨rfl, HB2.out⟩
end Go.Proofs.YtcfcpbkeedfbpaaGreatDoor

namespace Go.Proofs.YtcfcpbkeedfbpaaGreatDoor
open Go.RowKit TermSpec EvalSpec NamesSpec
set_option maxRecDepth 100000

abbrev exP (k : Nat) : EP := ⟨some ⟨k, 0, none⟩, 1, 1, none, 0, 0⟩
theorem tb_one (a : Int) (w : World) : (Instr.build 68 #[(0, .int .i64 a)]).run Tryz.prog w = .ok (.agg #[.int .i64 a, .int .i64 0, .string ⟨#[]⟩]) w := run_build w 68 _ _ (by kernel_rfl)
theorem tb_name (a : Int) (s : ByteArray) (w : World) : (Instr.build 68 #[(0, .int .i64 a), (2, .string s)]).run Tryz.prog w = .ok (.agg #[.int .i64 a, .int .i64 0, .string s]) w := run_build w 68 _ _ (by kernel_rfl)
theorem tb_num (a b : Int) (w : World) : (Instr.build 68 #[(0, .int .i64 a), (1, .int .i64 b)]).run Tryz.prog w = .ok (.agg #[.int .i64 a, .int .i64 b, .string ⟨#[]⟩]) w := run_build w 68 _ _ (by kernel_rfl)
end Go.Proofs.YtcfcpbkeedfbpaaGreatDoor

namespace Go.Proofs.YtcfcpbkeedfbpaaGreatDoor
open Go.RowKit Go.Sort TermSpec EvalSpec ActSpec NamesSpec ExprSpec
set_option maxRecDepth 100000

def awT : List Tm := [⟨4, 0, ⟨#[]⟩⟩, ⟨2, 0, ⟨#[120]⟩⟩, ⟨1, 1, ⟨#[]⟩⟩]
def awL : List Ac := [⟨⟨#[120]⟩, true, []⟩, ⟨⟨#[120]⟩, false, awT⟩]
def awE : Ev := ⟨[⟨⟨#[120]⟩, 0, 1, 0⟩], 0, 0, 0, 0, []⟩
def awTs : List Ta := [⟨⟨#[120]⟩, true, .leaf ⟨9, 0, ⟨#[]⟩⟩⟩, ⟨⟨#[120]⟩, false, .bin 4 (.leaf ⟨2, 0, ⟨#[120]⟩⟩) (.leaf ⟨1, 1, ⟨#[]⟩⟩)⟩]
theorem aw_run : runE awE awL = (0, [⟨1, 0, 0, 0⟩]) := by kernel_rfl
theorem aw_run1 : runE awE (awL.take 1) = (0, [⟨0, 0, 0, 0⟩, ⟨1, 0, 0, 0⟩]) := by kernel_rfl
theorem aw_chk : chkA awL = 0 := by kernel_rfl
theorem aw_ts : awTs.map Ta.ac = awL := rfl
theorem aw_text : putB awTs = ⟨#[97, 110, 121, 32, 120, 44, 32, 120, 32, 58, 61, 32, 120, 32, 43, 32, 49]⟩ := by kernel_rfl
theorem aw_ok : ∀ t ∈ awTs, t.Ok := by
  intro t ht
  simp only [awTs, List.mem_cons, List.not_mem_nil, or_false] at ht
  rcases ht with rfl | rfl
  · exact ⟨by kernel_rfl, fun h => by cases h⟩
  · exact ⟨by kernel_rfl, fun _ => ⟨⟨by kernel_rfl, ⟨by kernel_rfl, by kernel_rfl⟩, ⟨by kernel_rfl, by kernel_rfl⟩⟩, by kernel_rfl⟩⟩
theorem aw_small : ∀ a ∈ awL, SmallA a := by
  intro a ha
  simp only [awL, List.mem_cons, List.not_mem_nil, or_false] at ha
  rcases ha with rfl | rfl
  · exact ⟨by decide, fun t ht => by simp at ht, by decide⟩
  · refine ⟨by decide, fun t ht => ?_, by decide⟩
    simp only [awT, List.mem_cons, List.not_mem_nil, or_false] at ht
    rcases ht with rfl | rfl | rfl <;> decide
theorem aw_small1 : ∀ a ∈ awL.take 1, SmallA a := fun a ha => aw_small a (List.mem_of_mem_take ha)
theorem aw_fit : ∀ v ∈ awE.vars, VFit v := by
  intro v hv
  simp only [awE, List.mem_cons, List.not_mem_nil, or_false] at hv
  subst hv
  exact ⟨by decide, by decide, by decide, by decide⟩
abbrev awTO : Obj := .cells #[.int .i64 4, .int .i64 0, .string ⟨#[]⟩, .int .i64 2, .int .i64 0, .string ⟨#[120]⟩, .int .i64 1, .int .i64 1, .string ⟨#[]⟩] 68
abbrev awAO (k : Nat) : Obj := .cells #[.string ⟨#[120]⟩, .bool true, .slice none 0 0, .string ⟨#[120]⟩, .bool false, .slice (some ⟨k, 0, none⟩) 3 3] 66
abbrev awVO : Obj := .cells #[.string ⟨#[120]⟩, .int .i64 0, .int .i64 1, .int .i64 0] 62
abbrev awEO (k : Nat) : Obj := .cells #[.slice (some ⟨k, 0, none⟩) 1 1, .int .i64 0, .int .i64 0, .int .i64 0, .int .i64 0, .slice none 0 0] 54
abbrev awEV (k : Nat) : Value := .agg #[.slice (some ⟨k, 0, none⟩) 1 1, .int .i64 0, .int .i64 0, .int .i64 0, .int .i64 0, .slice none 0 0]
theorem act_any (s : ByteArray) (w : World) : (Instr.build 66 #[(0, .string s), (1, .bool true)]).run Tryz.prog w = .ok (.agg #[.string s, .bool true, .slice none 0 0]) w := run_build w 66 _ _ (by kernel_rfl)
theorem act_set (s : ByteArray) (A : Option Addr) (n c : Nat) (w : World) : (Instr.build 66 #[(0, .string s), (2, .slice A n c)]).run Tryz.prog w = .ok (.agg #[.string s, .bool false, .slice A n c]) w := run_build w 66 _ _ (by kernel_rfl)
theorem vb_hi (s : ByteArray) (h : Int) (w : World) : (Instr.build 62 #[(0, .string s), (2, .int .i64 h)]).run Tryz.prog w = .ok (.agg #[.string s, .int .i64 0, .int .i64 h, .int .i64 0]) w := run_build w 62 _ _ (by kernel_rfl)
theorem eb_vars (A : Option Addr) (n c : Nat) (w : World) : (Instr.build 54 #[(0, .slice A n c)]).run Tryz.prog w = .ok (.agg #[.slice A n c, .int .i64 0, .int .i64 0, .int .i64 0, .int .i64 0, .slice none 0 0]) w := run_build w 54 _ _ (by kernel_rfl)
/-- A row whose block is known whole. -/
theorem rdk_block {k n c b : Nat} {w : World} {cs : Array Value} {T : TypeId} {fr : Nat × Nat} {xs : List Value} (h : w.heap[b]? = some (.cells cs T fr)) (hx : cs.toList = xs) (hl : xs.length = n * k) (hc : n ≤ c) : Rdk k w (.slice (some ⟨b, 0, none⟩) n c) n xs := by
  refine ⟨_, c, rfl, hc, hl, fun _ => ⟨b, 0, rfl, (Array.getElem?_eq_some_iff.1 h).1, fun j u hj => ?_⟩⟩
  rw [← hx, Array.getElem?_toList] at hj
  simp [World.cell?, h, hj]
theorem acs_upto {W0 : World} {A : Option Addr} {n c k : Nat} {l : List Ac} (h : Acs W0 (.slice A n c) l) (hk : k ≤ n) (h0 : 0 < k) :
    (∀ W, (Instr.slice 22 (.slice A n c) none (some (.int .i64 (k : Int))) none).run Tryz.prog W = .ok (.slice A k c) W) ∧ Acs W0 (.slice A k c) (l.take k) := by
  obtain ⟨ps, hm, ⟨A', c', heq, hc, hl, hA⟩, hx⟩ := h
  cases heq
  obtain ⟨b, off, rfl, hb, hcell⟩ := hA (by omega)
  have hln : (l.take k).length = k := by rw [List.length_take]; omega
  have hpl : ps.length = l.length := by rw [← hm, List.length_map]
  refine ⟨fun W => ?_, ps.take k, by rw [← hm, List.map_take], ⟨_, c, by rw [hln], by omega, by rw [acsV_length, hln, List.length_take]; congr 1; omega, fun _ => ⟨b, off, rfl, hb, fun j u hj => hcell j u ?_⟩⟩, fun p hp => hx p (List.mem_of_mem_take hp)⟩
  · rw [run_slice_h (P := Tryz.prog) W 22 _ l.length c (by rw [show Tryz.prog.elem 22 = 66 by kernel_rfl]; exact Tryz.underlying22) .i64 (k : Int) (by omega) (by omega), show Tryz.prog.elem 22 = 66 by kernel_rfl]
    simp [sliced, Result.andThen, Addr.add]
  · have e : acsV ps = acsV (ps.take k) ++ acsV (ps.drop k) := by rw [acsV_append, List.take_append_drop]
    rw [e, List.getElem?_append_left (List.getElem?_eq_some_iff.1 hj).1]
    exact hj
set_option maxHeartbeats 4000000 in
theorem aawake_any (w : World) (hg : SignsIn w) : Calls Tryz.prog 7 #[] w (RetB w true) := by
  have b1 := tb_one
  have b2 := tb_name
  have b3 := tb_num
  have b4 := act_any
  have b5 := act_set
  have b6 := vb_hi
  have b7 := eb_vars
  obtain ⟨W4, hW4⟩ : ∃ W4, (((w.alloc awTO).alloc (awAO w.heap.size)).alloc awVO).alloc (awEO (w.heap.size + 2)) = W4 := ⟨_, rfl⟩
  have hb4 : Below w.heap.size w W4 := by rw [← hW4]; exact below_two' (KitC.below_pair _ _ _) (KitC.below_pair _ _ _)
  have hk0 : W4.heap[w.heap.size]? = some awTO := by
    rw [← hW4]
    have h1 := heap_alloc_new w awTO
    have h2 := KitC.block_on h1 (KitC.below_one _ (awAO w.heap.size))
    exact KitC.block_on h2 (KitC.below_pair _ _ _)
  have hk1 : W4.heap[w.heap.size + 1]? = some (awAO w.heap.size) := by
    rw [← hW4]
    have h1 := heap_alloc_new (w.alloc awTO) (awAO w.heap.size)
    rw [World.size_alloc] at h1
    exact KitC.block_on h1 (KitC.below_pair _ _ _)
  have hk2 : W4.heap[w.heap.size + 2]? = some awVO := by
    rw [← hW4]
    have h1 := heap_alloc_new ((w.alloc awTO).alloc (awAO w.heap.size)) awVO
    rw [World.size_alloc, World.size_alloc] at h1
    exact KitC.block_on h1 (KitC.below_one _ _)
  have hk3 : W4.heap[w.heap.size + 3]? = some (awEO (w.heap.size + 2)) := by
    rw [← hW4]
    have h1 := heap_alloc_new (((w.alloc awTO).alloc (awAO w.heap.size)).alloc awVO) (awEO (w.heap.size + 2))
    rwa [World.size_alloc, World.size_alloc, World.size_alloc] at h1
  have htm : Tms W4 (.slice (some ⟨w.heap.size, 0, none⟩) 3 3) awT := ⟨3, rfl, rdk_block hk0 rfl rfl (Nat.le_refl _)⟩
  have hac : Acs W4 (.slice (some ⟨w.heap.size + 1, 0, none⟩) 2 2) awL := by
    refine ⟨[⟨⟨⟨#[120]⟩, true, []⟩, none, 0, 0⟩, ⟨⟨⟨#[120]⟩, false, awT⟩, some ⟨w.heap.size, 0, none⟩, 3, 3⟩], rfl, rdk_block hk1 rfl rfl (Nat.le_refl _), fun p hp => ?_⟩
    simp only [List.mem_cons, List.not_mem_nil, or_false] at hp
    rcases hp with rfl | rfl
    · exact ⟨0, rfl, Rdk.nil 3 _⟩
    · exact htm
  have hen : EnvIn W4 (exP (w.heap.size + 2)) awE := ⟨⟨rfl, rdk_block hk2 rfl rfl (Nat.le_refl _)⟩, Rd.nil _, by decide, by decide⟩
  obtain ⟨hup, hac1⟩ := acs_upto (k := 1) hac (by omega) (by omega)
  have HUP := Lib.hid hup
  have HR1 : Hid (∀ W, Below W4.heap.size W4 W → Calls Tryz.prog 22 #[.slice (some ⟨w.heap.size + 1, 0, none⟩) 2 2, awEV (w.heap.size + 2)] W (RetVE W (0, [⟨1, 0, 0, 0⟩]))) := Lib.hid (fun W hW => by
    have := run_any (exP (w.heap.size + 2)) awE (some ⟨w.heap.size + 1, 0, none⟩) 2 2 awL W (hen.keep hW) aw_fit aw_small (by decide) (hac.keep hW)
    rw [aw_run] at this
    exact this)
  have HR2 : Hid (∀ W, Below W4.heap.size W4 W → Calls Tryz.prog 22 #[.slice (some ⟨w.heap.size + 1, 0, none⟩) 1 2, awEV (w.heap.size + 2)] W (RetVE W (0, [⟨0, 0, 0, 0⟩, ⟨1, 0, 0, 0⟩]))) := Lib.hid (fun W hW => by
    have := run_any (exP (w.heap.size + 2)) awE (some ⟨w.heap.size + 1, 0, none⟩) 1 2 (awL.take 1) W (hen.keep hW) aw_fit aw_small1 (by decide) (hac1.keep hW)
    rw [aw_run1] at this
    exact this)
  obtain ⟨P, hP⟩ : ∃ P : ByteArray, P = ⟨#[97, 110, 121, 32, 120, 44, 32, 120, 32, 58, 61, 32, 120, 32, 43, 32, 49]⟩ := ⟨_, rfl⟩
  have HPU : Hid (∀ W, Below W4.heap.size W4 W → Calls Tryz.prog 8 #[.slice (some ⟨w.heap.size + 1, 0, none⟩) 2 2] W (RetPut W P 0)) := Lib.hid (fun W hW => by
    have := (aput_any (some ⟨w.heap.size + 1, 0, none⟩) 2 2 awL aw_small (by decide) W (hac.keep hW) (hg.keep (below_two' hb4 hW))).2 awTs aw_ts aw_ok aw_chk
    rw [aw_text, ← hP] at this
    exact this)
  have HB4 := Lib.hid hb4
  have HK3 := Lib.hid hk3
  have HW4 := Lib.hid hW4
  have HP := Lib.hid hP
  have hsz : w.heap.size + 3 < W4.heap.size := (Array.getElem?_eq_some_iff.1 hk3).1
  clear hW4 hb4 hk0 hk1 hk2 hk3 htm hac hen hup hac1 hP hg
  go_enter Tryz.func7, Tryz.ntmps7
  go_wp2_with (rw [HW4.out]; go_at_call 22; (with_reducible refine (HR1.out _ (Below.refl _ _)).mono ?_))
  rintro e w5 ⟨v5, rfl, hv5, hb5⟩
  obtain ⟨A5, n5, c5, rfl, hn5, hc5⟩ := hv5.shape
  obtain rfl : n5 = 1 := hn5
  have HB5 := Lib.hid hb5
  have HV5 := Lib.hid hv5
  obtain ⟨z0, z1, z2, z3, z4, z5⟩ := cells_6 (KitC.block_on HK3.out hb5)
  have hup := HUP.out
  clear hv5 hb5
  go_wp2_with fail
  go_region_held3 (fun w' => w'.cell? ⟨w.heap.size + 3, 0, none⟩ = some (.slice (some ⟨w.heap.size + 2, 0, none⟩) 1 1) ∧ w'.cell? ⟨w.heap.size + 3, 1, none⟩ = some (.int .i64 0) ∧ w'.cell? ⟨w.heap.size + 3, 2, none⟩ = some (.int .i64 0) ∧ w'.cell? ⟨w.heap.size + 3, 3, none⟩ = some (.int .i64 0) ∧ w'.cell? ⟨w.heap.size + 3, 4, none⟩ = some (.int .i64 0) ∧ w'.cell? ⟨w.heap.size + 3, 5, none⟩ = some (.slice none 0 0)) (go_keep)
    ((go_at_call 22; refine (HR2.out _ (HB5.out.drew)).mono ?_; rintro e w6 ⟨v6, rfl, hv6, hb6'⟩; have hb6 := undrew hb6'; clear hb6'; have HB6 := Lib.hid (below_two' HB5.out hb6); have HV65 := Lib.hid (HV5.out.keep hb6); have HV6 := Lib.hid hv6; obtain ⟨A6, n6, c6, rfl, hn6, hc6⟩ := hv6.shape; clear hv6; obtain ⟨q0, q1, q2, q3, q4, q5⟩ := cells_6 (KitC.block_on HK3.out HB6.out); clear hb6))
  obtain rfl : n6 = 2 := hn6
  clear hup z0 z1 z2 z3 z4 z5 q0 q1 q2 q3 q4 q5
  go_wp2_with (go_at_call 8; (with_reducible refine (HPU.out _ HB6.out).mono ?_))
  rintro e w7 ⟨rfl, hb7⟩
  have HB7 := Lib.hid (below_two' HB6.out hb7)
  obtain ⟨b5, o5, rfl, _, a0, a1, a2, a3⟩ := (HV65.out.keep hb7).at_ (i := 0) rfl
  obtain ⟨b6, o6, rfl, _, d0, d1, d2, d3⟩ := (HV6.out.keep hb7).at_ (i := 0) rfl
  obtain ⟨b6', o6', heq, _, f0, f1, f2, f3⟩ := (HV6.out.keep hb7).at_ (i := 1) rfl
  cases heq
  have HL : Hid (∀ d os, Calls Tryz.prog 26 #[v4A ⟨0, 0, 0, 0⟩, v4A ⟨1, 0, 0, 0⟩] (grow (redrawn w7 d) os) fun e w'' => e = .returned (.bool true) ∧ ∃ p : Regrown, w'' = grow (redrawn w7 p.d) p.os) := Lib.hid (fun d os => Calls.regrown_of (less_any ⟨0, 0, 0, 0⟩ ⟨1, 0, 0, 0⟩ _))
  simp only [Nat.zero_mul, Nat.add_zero, Nat.one_mul] at a0 d0 d1 d2 d3 f0 f1 f2 f3
  have ra0 := cell_regrown a0
  have rd0 := cell_regrown d0
  have rd1 := cell_regrown d1
  have rd2 := cell_regrown d2
  have rd3 := cell_regrown d3
  have rf0 := cell_regrown f0
  have rf1 := cell_regrown f1
  have rf2 := cell_regrown f2
  have rf3 := cell_regrown f3
  have g1 : (P.toList == (⟨#[97, 110, 121, 32, 120, 44, 32, 120, 32, 58, 61, 32, 120, 32, 43, 32, 49]⟩ : ByteArray).toList) = true := by rw [HP.out]; simp
  clear hb7 b1 b2 b3 b4 b7 a0 a1 a2 a3 d0 d1 d2 d3 f0 f1 f2 f3
  go_wp2_with fail
  refine wp_region_quiet_below (by kernel_rfl) (by kernel_rfl) ?_
  repeat (go_big_quiet_step (exact HL.out _ _))
  refine wpQuiet_nil ?_
  intro _ hw'
  obtain ⟨⟨dq, osq⟩, hw''⟩ := hw'
  subst hw''
  simp only
  have HBZ := Lib.hid (below_two' (below_two' HB4.out HB7.out) (below_regrown w7 dq osq))
  go_wp2_with fail
  go_ret
  exact ⟨ret_bool (by rw [HP.out]; kernel_rfl), HBZ.out⟩
end Go.Proofs.YtcfcpbkeedfbpaaGreatDoor

namespace Go.Proofs.YtcfcpbkeedfbpaaGreatDoor
open Go.RowKit Go.Sort TermSpec EvalSpec NamesSpec Go.Lib ValSpec
set_option maxRecDepth 100000

/-- What is known of the terms and the Env. -/
structure Comes (p : EP) (e : Ev) (A : Option Addr) (n c : Nat) (l : List Tm) : Prop where
  hn : n = l.length
  hn62 : n ≤ 4398046511104
  may : l.all mayB = true
  known : knownB e l = true
  few : e.vars.length ≤ 4
theorem Comes.has {p : EP} {e : Ev} {A : Option Addr} {n c : Nat} {l : List Tm} (h : Comes p e A n c l) {k : Nat} {t : Tm} (ht : l[k]? = some t) (h2 : t.op = 2) : hasS (vnames e) t.s = true := by
  have := h.known
  unfold knownB at this
  rw [List.all_eq_true] at this
  have := this t (List.mem_of_getElem? ht)
  simpa [h2] using this
theorem Comes.bd {p : EP} {e : Ev} {A : Option Addr} {n c : Nat} {l : List Tm} (h : Comes p e A n c l) (k : Nat) : -1000000 ≤ comeE e (l.drop k) ∧ comeE e (l.drop k) ≤ 1000000 := by
  refine comeE_bd ?_
  have := h.may
  rw [List.all_eq_true] at this ⊢
  exact fun u hu => this u (List.mem_of_mem_drop hu)
theorem below_placeE {e : Ev} {l : List Tm} {a q m k : Nat} (h : cnt q (l.drop (a + 1)) = some m) (hk : k < q) :
    ∃ x, (belows l a q)[k]? = some ((a + 1 + x : Nat) : Int) ∧ 0 ≤ endA l ((a + 1 + x : Nat) : Int) ∧ a + 1 + x ≤ max l.length (a + 1) ∧ (stackE e (l.drop (a + 1)))[k]? = some (comeE e (l.drop (a + 1 + x))) := by
  have h' := h
  rw [show q = (k + 1) + (q - (k + 1)) by omega] at h'
  obtain ⟨z, _, hz, _, _⟩ := cnt_split h'
  obtain ⟨x, y, hx, hy, _⟩ := cnt_split hz
  have hle := (cnt_le hx).1
  rw [List.length_drop] at hle
  refine ⟨x, ?_, ?_, by omega, ?_⟩
  · rw [belows_get hk, hx]; rfl
  · have := (below_next h hk).1
    rw [hx] at this
    simp only [Option.getD_some] at this
    rw [this]; omega
  · obtain ⟨x', hx', hg⟩ := stackE_get (e := e) hz
    rw [hx] at hx'
    cases hx'
    rwa [List.drop_drop] at hg
theorem comeE_0 {e : Ev} {l : List Tm} {a : Nat} {t : Tm} (ht : l[a]? = some t) (h : ar t.op = 0) : comeE e (l.drop a) = ev0 e t := by
  rw [comeE_at ht]; unfold evF evT; rw [if_pos h]
theorem comeE_1 {e : Ev} {l : List Tm} {a : Nat} {t : Tm} {x : Int} (ht : l[a]? = some t) (h : ar t.op = 1) (hx : (stackE e (l.drop (a + 1)))[0]? = some x) : comeE e (l.drop a) = ev1 t.op x := by
  rw [comeE_at ht]; unfold evF evT
  rw [if_neg (by omega), if_pos h, List.getElem?_take_of_lt (by unfold arN; omega), hx]; rfl
theorem comeE_2 {e : Ev} {l : List Tm} {a : Nat} {t : Tm} {x y : Int} (ht : l[a]? = some t) (h : ar t.op = 2) (hx : (stackE e (l.drop (a + 1)))[0]? = some x) (hy : (stackE e (l.drop (a + 1)))[1]? = some y) : comeE e (l.drop a) = ev2 t.op x y := by
  rw [comeE_at ht]; unfold evF evT
  rw [if_neg (by omega), if_neg (by omega), List.getElem?_take_of_lt (by unfold arN; omega), List.getElem?_take_of_lt (by unfold arN; omega), hx, hy]; rfl
set_option maxHeartbeats 2000000 in
theorem rat_op1 (p : EP) (e : Ev) (A : Option Addr) (n c : Nat) (l : List Tm) (k0 : Nat) (w : World) (hC : Comes p e A n c l) (h : Tms w (.slice A n c) l) (he : EnvIn w p e) (tn : Int) (s : ByteArray) (ht : l[k0]? = some ⟨1, tn, s⟩) (hend : 0 ≤ endA l k0) :
    Calls Tryz.prog 84 #[.slice A n c, .int .i64 k0, envV p e] w (RetI w (comeE e (l.drop k0))) := by
  rw [comeE_0 ht rfl]
  have HBL := Lib.hid (fun w h => rbelow_any A n c l k0 w h hC.hn (by have := hC.hn62; omega) _ ht hend)
  obtain ⟨r, hr⟩ : ∃ r, r = ev0 e ⟨1, tn, s⟩ := ⟨_, rfl⟩
  rw [← hr]
  have HR := Lib.hid hr
  have hk := get_lt ht
  rw [← hC.hn] at hk
  have hkI : (k0 : Int) < n := by omega
  have HT := Lib.hid h
  have HEN := Lib.hid he
  obtain ⟨vA, vn, vc, iA, im, ic⟩ := p
  obtain ⟨E, hE⟩ : ∃ E, E = e := ⟨_, rfl⟩
  rw [← hE] at HR HEN
  have HE := Lib.hid hE
  obtain ⟨b, off, rfl, hb, c0, c1, c2⟩ := h.at_ ht
  simp only at c0 c1 c2
  obtain ⟨vars, v0, v1, v2, v3, ins⟩ := e
  change Calls _ _ #[.slice (some ⟨b, off, none⟩) n c, .int .i64 k0, .agg #[.slice vA vn vc, .int .i64 v0, .int .i64 v1, .int .i64 v2, .int .i64 v3, .slice iA im ic]] _ _
  have d0 := ((KitC.below_one w (.cells #[.slice vA vn vc, .int .i64 v0, .int .i64 v1, .int .i64 v2, .int .i64 v3, .slice iA im ic] 54)).cell (p := ⟨b, off + k0 * 3, none⟩) hb).trans c0
  have d1 := ((KitC.below_one w (.cells #[.slice vA vn vc, .int .i64 v0, .int .i64 v1, .int .i64 v2, .int .i64 v3, .slice iA im ic] 54)).cell (p := ⟨b, off + k0 * 3 + 1, none⟩) hb).trans c1
  have d2 := ((KitC.below_one w (.cells #[.slice vA vn vc, .int .i64 v0, .int .i64 v1, .int .i64 v2, .int .i64 v3, .slice iA im ic] 54)).cell (p := ⟨b, off + k0 * 3 + 2, none⟩) hb).trans c2
  clear hr h he ht hend hE hC c0 c1 c2
  go_enter Tryz.func84, Tryz.ntmps84
  go_wp2_with (go_at_call 56; (with_reducible refine (HBL.out _ (HT.out.keep (KitC.below_pair _ _ _))).mono ?_))
  rintro e2 w1 ⟨vv, rfl, hr2, hb1⟩
  obtain ⟨A2, n2, c2', rfl, hn2, hc2, hA2⟩ := hr2.ints
  rw [belows_length] at hn2
  obtain rfl : 0 = n2 := hn2
  obtain ⟨B1, B2, hbw, hz⟩ := KitC.pair_blocks hb1
  have HBW := Lib.hid hbw
  obtain ⟨t0, t1, t2⟩ := cells_3 B2
  obtain ⟨z0, z1, z2, z3, z4, z5⟩ := cells_6 B1
  clear hr2 hb1 hA2 hc2 B2 hbw d0 d1 d2
  clear B1
  go_wp2_with fail
  go_ret
  exact ⟨ret_int (by rw [HR.out]; simp [ev0]), HBW.out⟩
set_option maxHeartbeats 2000000 in
theorem rat_op9 (p : EP) (e : Ev) (A : Option Addr) (n c : Nat) (l : List Tm) (k0 : Nat) (w : World) (hC : Comes p e A n c l) (h : Tms w (.slice A n c) l) (he : EnvIn w p e) (tn : Int) (s : ByteArray) (ht : l[k0]? = some ⟨9, tn, s⟩) (hend : 0 ≤ endA l k0) :
    Calls Tryz.prog 84 #[.slice A n c, .int .i64 k0, envV p e] w (RetI w (comeE e (l.drop k0))) := by
  rw [comeE_0 ht rfl]
  have HBL := Lib.hid (fun w h => rbelow_any A n c l k0 w h hC.hn (by have := hC.hn62; omega) _ ht hend)
  obtain ⟨r, hr⟩ : ∃ r, r = ev0 e ⟨9, tn, s⟩ := ⟨_, rfl⟩
  rw [← hr]
  have HR := Lib.hid hr
  have hk := get_lt ht
  rw [← hC.hn] at hk
  have hkI : (k0 : Int) < n := by omega
  have HT := Lib.hid h
  have HEN := Lib.hid he
  obtain ⟨vA, vn, vc, iA, im, ic⟩ := p
  obtain ⟨E, hE⟩ : ∃ E, E = e := ⟨_, rfl⟩
  rw [← hE] at HR HEN
  have HE := Lib.hid hE
  obtain ⟨b, off, rfl, hb, c0, c1, c2⟩ := h.at_ ht
  simp only at c0 c1 c2
  obtain ⟨vars, v0, v1, v2, v3, ins⟩ := e
  change Calls _ _ #[.slice (some ⟨b, off, none⟩) n c, .int .i64 k0, .agg #[.slice vA vn vc, .int .i64 v0, .int .i64 v1, .int .i64 v2, .int .i64 v3, .slice iA im ic]] _ _
  have d0 := ((KitC.below_one w (.cells #[.slice vA vn vc, .int .i64 v0, .int .i64 v1, .int .i64 v2, .int .i64 v3, .slice iA im ic] 54)).cell (p := ⟨b, off + k0 * 3, none⟩) hb).trans c0
  have d1 := ((KitC.below_one w (.cells #[.slice vA vn vc, .int .i64 v0, .int .i64 v1, .int .i64 v2, .int .i64 v3, .slice iA im ic] 54)).cell (p := ⟨b, off + k0 * 3 + 1, none⟩) hb).trans c1
  have d2 := ((KitC.below_one w (.cells #[.slice vA vn vc, .int .i64 v0, .int .i64 v1, .int .i64 v2, .int .i64 v3, .slice iA im ic] 54)).cell (p := ⟨b, off + k0 * 3 + 2, none⟩) hb).trans c2
  clear hr h he ht hend hE hC c0 c1 c2
  go_enter Tryz.func84, Tryz.ntmps84
  go_wp2_with (go_at_call 56; (with_reducible refine (HBL.out _ (HT.out.keep (KitC.below_pair _ _ _))).mono ?_))
  rintro e2 w1 ⟨vv, rfl, hr2, hb1⟩
  obtain ⟨A2, n2, c2', rfl, hn2, hc2, hA2⟩ := hr2.ints
  rw [belows_length] at hn2
  obtain rfl : 0 = n2 := hn2
  obtain ⟨B1, B2, hbw, hz⟩ := KitC.pair_blocks hb1
  have HBW := Lib.hid hbw
  obtain ⟨t0, t1, t2⟩ := cells_3 B2
  obtain ⟨z0, z1, z2, z3, z4, z5⟩ := cells_6 B1
  clear hr2 hb1 hA2 hc2 B2 hbw d0 d1 d2
  clear B1
  go_wp2_with fail
  go_ret
  exact ⟨ret_int (by rw [HR.out]; simp [ev0, tru]), HBW.out⟩
set_option maxHeartbeats 2000000 in
theorem rat_op10 (p : EP) (e : Ev) (A : Option Addr) (n c : Nat) (l : List Tm) (k0 : Nat) (w : World) (hC : Comes p e A n c l) (h : Tms w (.slice A n c) l) (he : EnvIn w p e) (tn : Int) (s : ByteArray) (ht : l[k0]? = some ⟨10, tn, s⟩) (hend : 0 ≤ endA l k0) :
    Calls Tryz.prog 84 #[.slice A n c, .int .i64 k0, envV p e] w (RetI w (comeE e (l.drop k0))) := by
  rw [comeE_0 ht rfl]
  have HBL := Lib.hid (fun w h => rbelow_any A n c l k0 w h hC.hn (by have := hC.hn62; omega) _ ht hend)
  obtain ⟨r, hr⟩ : ∃ r, r = ev0 e ⟨10, tn, s⟩ := ⟨_, rfl⟩
  rw [← hr]
  have HR := Lib.hid hr
  have hk := get_lt ht
  rw [← hC.hn] at hk
  have hkI : (k0 : Int) < n := by omega
  have HT := Lib.hid h
  have HEN := Lib.hid he
  obtain ⟨vA, vn, vc, iA, im, ic⟩ := p
  obtain ⟨E, hE⟩ : ∃ E, E = e := ⟨_, rfl⟩
  rw [← hE] at HR HEN
  have HE := Lib.hid hE
  obtain ⟨b, off, rfl, hb, c0, c1, c2⟩ := h.at_ ht
  simp only at c0 c1 c2
  obtain ⟨vars, v0, v1, v2, v3, ins⟩ := e
  change Calls _ _ #[.slice (some ⟨b, off, none⟩) n c, .int .i64 k0, .agg #[.slice vA vn vc, .int .i64 v0, .int .i64 v1, .int .i64 v2, .int .i64 v3, .slice iA im ic]] _ _
  have d0 := ((KitC.below_one w (.cells #[.slice vA vn vc, .int .i64 v0, .int .i64 v1, .int .i64 v2, .int .i64 v3, .slice iA im ic] 54)).cell (p := ⟨b, off + k0 * 3, none⟩) hb).trans c0
  have d1 := ((KitC.below_one w (.cells #[.slice vA vn vc, .int .i64 v0, .int .i64 v1, .int .i64 v2, .int .i64 v3, .slice iA im ic] 54)).cell (p := ⟨b, off + k0 * 3 + 1, none⟩) hb).trans c1
  have d2 := ((KitC.below_one w (.cells #[.slice vA vn vc, .int .i64 v0, .int .i64 v1, .int .i64 v2, .int .i64 v3, .slice iA im ic] 54)).cell (p := ⟨b, off + k0 * 3 + 2, none⟩) hb).trans c2
  clear hr h he ht hend hE hC c0 c1 c2
  go_enter Tryz.func84, Tryz.ntmps84
  go_wp2_with (go_at_call 56; (with_reducible refine (HBL.out _ (HT.out.keep (KitC.below_pair _ _ _))).mono ?_))
  rintro e2 w1 ⟨vv, rfl, hr2, hb1⟩
  obtain ⟨A2, n2, c2', rfl, hn2, hc2, hA2⟩ := hr2.ints
  rw [belows_length] at hn2
  obtain rfl : 0 = n2 := hn2
  obtain ⟨B1, B2, hbw, hz⟩ := KitC.pair_blocks hb1
  have HBW := Lib.hid hbw
  obtain ⟨t0, t1, t2⟩ := cells_3 B2
  obtain ⟨z0, z1, z2, z3, z4, z5⟩ := cells_6 B1
  clear hr2 hb1 hA2 hc2 B2 hbw d0 d1 d2
  clear B1
  go_wp2_with fail
  go_ret
  exact ⟨ret_int (by rw [HR.out]; simp [ev0, tru]), HBW.out⟩
set_option maxHeartbeats 2000000 in
theorem rat_op2 (p : EP) (e : Ev) (A : Option Addr) (n c : Nat) (l : List Tm) (k0 : Nat) (w : World) (hC : Comes p e A n c l) (h : Tms w (.slice A n c) l) (he : EnvIn w p e) (tn : Int) (s : ByteArray) (ht : l[k0]? = some ⟨2, tn, s⟩) (hend : 0 ≤ endA l k0) :
    Calls Tryz.prog 84 #[.slice A n c, .int .i64 k0, envV p e] w (RetI w (comeE e (l.drop k0))) := by
  rw [comeE_0 ht rfl]
  obtain ⟨k, hik, hk4⟩ := known_place (hC.has ht rfl) hC.few
  obtain ⟨x, hx⟩ : ∃ x, x = valAt e k := ⟨_, rfl⟩
  have HNR := Lib.hid (rnear_any x)
  have HX := Lib.hid hx
  have HRX0 := Lib.hid (show ev0 e ⟨2, tn, s⟩ = near x by unfold ev0; simp [hik, hx])
  have HV0 := Lib.hid (fun w h => rvariable_any p e s w h)
  rw [hik] at HV0
  clear hik hx
  have HBL := Lib.hid (fun w h => rbelow_any A n c l k0 w h hC.hn (by have := hC.hn62; omega) _ ht hend)
  obtain ⟨r, hr⟩ : ∃ r, r = ev0 e ⟨2, tn, s⟩ := ⟨_, rfl⟩
  rw [← hr]
  have HR := Lib.hid hr
  have hk := get_lt ht
  rw [← hC.hn] at hk
  have hkI : (k0 : Int) < n := by omega
  have HT := Lib.hid h
  have HEN := Lib.hid he
  obtain ⟨vA, vn, vc, iA, im, ic⟩ := p
  obtain ⟨E, hE⟩ : ∃ E, E = e := ⟨_, rfl⟩
  rw [← hE] at HR HEN HX
  have HE := Lib.hid hE
  have HRX : Hid (r = near x) := Lib.hid (by rw [hr]; exact HRX0.out)
  obtain ⟨b, off, rfl, hb, c0, c1, c2⟩ := h.at_ ht
  simp only at c0 c1 c2
  obtain ⟨vars, v0, v1, v2, v3, ins⟩ := e
  have HV : Hid (∀ w, EnvIn w ⟨vA, vn, vc, iA, im, ic⟩ E → Calls Tryz.prog 80 #[.agg #[.slice vA vn vc, .int .i64 v0, .int .i64 v1, .int .i64 v2, .int .i64 v3, .slice iA im ic], .string s] w (RetI w (k : Int))) := Lib.hid (fun w h => HV0.out w (by rw [← HE.out]; exact h))
  have HX : Hid (x = if k = 0 then v0 else if k = 1 then v1 else if k = 2 then v2 else v3) := Lib.hid (by have := HX.out; rw [HE.out] at this; rw [this]; unfold valAt; rcases (show k = 0 ∨ k = 1 ∨ k = 2 ∨ k = 3 by omega) with h | h | h | h <;> simp [h])
  change Calls _ _ #[.slice (some ⟨b, off, none⟩) n c, .int .i64 k0, .agg #[.slice vA vn vc, .int .i64 v0, .int .i64 v1, .int .i64 v2, .int .i64 v3, .slice iA im ic]] _ _
  have d0 := ((KitC.below_one w (.cells #[.slice vA vn vc, .int .i64 v0, .int .i64 v1, .int .i64 v2, .int .i64 v3, .slice iA im ic] 54)).cell (p := ⟨b, off + k0 * 3, none⟩) hb).trans c0
  have d1 := ((KitC.below_one w (.cells #[.slice vA vn vc, .int .i64 v0, .int .i64 v1, .int .i64 v2, .int .i64 v3, .slice iA im ic] 54)).cell (p := ⟨b, off + k0 * 3 + 1, none⟩) hb).trans c1
  have d2 := ((KitC.below_one w (.cells #[.slice vA vn vc, .int .i64 v0, .int .i64 v1, .int .i64 v2, .int .i64 v3, .slice iA im ic] 54)).cell (p := ⟨b, off + k0 * 3 + 2, none⟩) hb).trans c2
  clear hr h he ht hend hE hC c0 c1 c2 HV0 HRX0 HR
  go_enter Tryz.func84, Tryz.ntmps84
  go_wp2_with (go_at_call 56; (with_reducible refine (HBL.out _ (HT.out.keep (KitC.below_pair _ _ _))).mono ?_))
  rintro e2 w1 ⟨vv, rfl, hr2, hb1⟩
  obtain ⟨A2, n2, c2', rfl, hn2, hc2, hA2⟩ := hr2.ints
  rw [belows_length] at hn2
  obtain rfl : 0 = n2 := hn2
  obtain ⟨B1, B2, hbw, hz⟩ := KitC.pair_blocks hb1
  have HBW := Lib.hid hbw
  obtain ⟨t0, t1, t2⟩ := cells_3 B2
  obtain ⟨z0, z1, z2, z3, z4, z5⟩ := cells_6 B1
  clear hr2 hb1 hA2 hc2 B2 hbw d0 d1 d2
  go_wp2_with (go_at_call 80; (with_reducible refine (HV.out _ (HEN.out.keep HBW.out)).mono ?_))
  rintro e2 w3 ⟨rfl, hb3⟩
  have HB3 := Lib.hid (below_two' HBW.out hb3)
  have hcell : w3.cell? ⟨w.heap.size, 1 + k, none⟩ = some (.int .i64 x) := by
    obtain ⟨-, q1, q2, q3, q4, -⟩ := cells_6 (KitC.block_on B1 hb3)
    have := HX.out
    rcases (show k = 0 ∨ k = 1 ∨ k = 2 ∨ k = 3 by omega) with rfl | rfl | rfl | rfl
    · rw [this]; exact q1
    · rw [this]; exact q2
    · rw [this]; exact q3
    · rw [this]; exact q4
  clear t0 t1 t2 z0 z1 z2 z3 z4 z5 B1 hb3
  go_wp2_with (go_at_call 118; (with_reducible refine (HNR.out _).mono ?_); rintro e w' ⟨rfl, rfl⟩)
  go_ret
  exact ⟨ret_int HRX.out.symm, HB3.out⟩
set_option maxHeartbeats 2000000 in
theorem rat_op11 (p : EP) (e : Ev) (A : Option Addr) (n c : Nat) (l : List Tm) (k0 : Nat) (w : World) (hC : Comes p e A n c l) (h : Tms w (.slice A n c) l) (he : EnvIn w p e) (tn : Int) (s : ByteArray) (ht : l[k0]? = some ⟨11, tn, s⟩) (hend : 0 ≤ endA l k0) :
    Calls Tryz.prog 84 #[.slice A n c, .int .i64 k0, envV p e] w (RetI w (comeE e (l.drop k0))) := by
  rw [comeE_0 ht rfl]
  have HP := Lib.hid (fun w h => rplace_any (.slice p.iA p.im p.ic) e.ins s w h he.ibd)
  have HINS := Lib.hid he.ins
  have HIS := Lib.hid (fun b => eis_any b)
  obtain ⟨x, hx⟩ : ∃ x, x = idxOfS e.ins s := ⟨_, rfl⟩
  rw [← hx] at HP
  have HRX0 := Lib.hid (show ev0 e ⟨11, tn, s⟩ = tru (decide (0 ≤ x)) by unfold ev0; simp [hx])
  clear hx
  have HBL := Lib.hid (fun w h => rbelow_any A n c l k0 w h hC.hn (by have := hC.hn62; omega) _ ht hend)
  obtain ⟨r, hr⟩ : ∃ r, r = ev0 e ⟨11, tn, s⟩ := ⟨_, rfl⟩
  rw [← hr]
  have HR := Lib.hid hr
  have hk := get_lt ht
  rw [← hC.hn] at hk
  have hkI : (k0 : Int) < n := by omega
  have HT := Lib.hid h
  have HEN := Lib.hid he
  obtain ⟨vA, vn, vc, iA, im, ic⟩ := p
  obtain ⟨E, hE⟩ : ∃ E, E = e := ⟨_, rfl⟩
  rw [← hE] at HR HEN
  have HE := Lib.hid hE
  have HRX : Hid (r = tru (decide (0 ≤ x))) := Lib.hid (by rw [hr]; exact HRX0.out)
  obtain ⟨b, off, rfl, hb, c0, c1, c2⟩ := h.at_ ht
  simp only at c0 c1 c2
  obtain ⟨vars, v0, v1, v2, v3, ins⟩ := e
  simp only at HP HINS
  change Calls _ _ #[.slice (some ⟨b, off, none⟩) n c, .int .i64 k0, .agg #[.slice vA vn vc, .int .i64 v0, .int .i64 v1, .int .i64 v2, .int .i64 v3, .slice iA im ic]] _ _
  have d0 := ((KitC.below_one w (.cells #[.slice vA vn vc, .int .i64 v0, .int .i64 v1, .int .i64 v2, .int .i64 v3, .slice iA im ic] 54)).cell (p := ⟨b, off + k0 * 3, none⟩) hb).trans c0
  have d1 := ((KitC.below_one w (.cells #[.slice vA vn vc, .int .i64 v0, .int .i64 v1, .int .i64 v2, .int .i64 v3, .slice iA im ic] 54)).cell (p := ⟨b, off + k0 * 3 + 1, none⟩) hb).trans c1
  have d2 := ((KitC.below_one w (.cells #[.slice vA vn vc, .int .i64 v0, .int .i64 v1, .int .i64 v2, .int .i64 v3, .slice iA im ic] 54)).cell (p := ⟨b, off + k0 * 3 + 2, none⟩) hb).trans c2
  clear hr h he ht hend hE hC c0 c1 c2 HRX0 HR
  go_enter Tryz.func84, Tryz.ntmps84
  go_wp2_with (go_at_call 56; (with_reducible refine (HBL.out _ (HT.out.keep (KitC.below_pair _ _ _))).mono ?_))
  rintro e2 w1 ⟨vv, rfl, hr2, hb1⟩
  obtain ⟨A2, n2, c2', rfl, hn2, hc2, hA2⟩ := hr2.ints
  rw [belows_length] at hn2
  obtain rfl : 0 = n2 := hn2
  obtain ⟨B1, B2, hbw, hz⟩ := KitC.pair_blocks hb1
  have HBW := Lib.hid hbw
  obtain ⟨t0, t1, t2⟩ := cells_3 B2
  obtain ⟨z0, z1, z2, z3, z4, z5⟩ := cells_6 B1
  clear hr2 hb1 hA2 hc2 B2 hbw d0 d1 d2
  clear B1
  go_wp2_with (first
    | (go_at_call 89; (with_reducible refine (HP.out _ (HINS.out.keep HBW.out)).mono ?_); rintro e w' ⟨rfl, rfl⟩)
    | (go_at_call 119; (with_reducible refine (HIS.out _ _).mono ?_); rintro e w' ⟨rfl, rfl⟩))
  go_ret
  exact ⟨ret_int (by rw [HRX.out]), HBW.out⟩
end Go.Proofs.YtcfcpbkeedfbpaaGreatDoor

namespace Go.Proofs.YtcfcpbkeedfbpaaGreatDoor
open Go.RowKit Go.Sort TermSpec EvalSpec NamesSpec Go.Lib ValSpec
set_option maxRecDepth 100000

/-- What is answered at the places behind. -/
def RatIH (p : EP) (e : Ev) (A : Option Addr) (n c : Nat) (l : List Tm) (k0 : Nat) : Prop := ∀ (a : Nat) (w : World), k0 < a → Tms w (.slice A n c) l → EnvIn w p e → 0 ≤ endA l a → Calls Tryz.prog 84 #[.slice A n c, .int .i64 a, envV p e] w (RetI w (comeE e (l.drop a)))
set_option maxHeartbeats 4000000 in
theorem rat_op3 (p : EP) (e : Ev) (A : Option Addr) (n c : Nat) (l : List Tm) (k0 : Nat) (w : World) (hC : Comes p e A n c l) (h : Tms w (.slice A n c) l) (he : EnvIn w p e) (tn : Int) (s : ByteArray) (ht : l[k0]? = some ⟨3, tn, s⟩) (hend : 0 ≤ endA l k0) (ih : RatIH p e A n c l k0) :
    Calls Tryz.prog 84 #[.slice A n c, .int .i64 k0, envV p e] w (RetI w (comeE e (l.drop k0))) := by
  obtain ⟨kk, m0, hkk, hc0, _, _, _⟩ := endA_nn hend
  obtain rfl : kk = k0 := by omega
  obtain ⟨t', m, ht', _, _, hm⟩ := first_of hc0
  rw [ht] at ht'
  cases ht'
  change cnt 1 _ = some m at hm
  obtain ⟨x0, hx0, hex0, hbx0, hs0⟩ := below_placeE (e := e) hm (show 0 < 1 by omega)
  have hv := comeE_1 (e := e) ht rfl hs0
  rw [hv]
  have HBL := Lib.hid (fun w h => rbelow_any A n c l kk w h hC.hn (by have := hC.hn62; omega) _ ht hend)
  obtain ⟨X0, hX0⟩ : ∃ X, X = comeE e (l.drop (kk + 1 + x0)) := ⟨_, rfl⟩
  obtain ⟨r, hr⟩ : ∃ r, r = ev1 3 (comeE e (l.drop (kk + 1 + x0))) := ⟨_, rfl⟩
  simp only
  rw [← hr]
  have HR := Lib.hid hr
  have hbd0 := hC.bd (kk + 1 + x0)
  obtain ⟨hlo0, hhi0⟩ := hbd0
  rw [← hX0] at HR hlo0 hhi0
  have hk := get_lt ht
  rw [← hC.hn] at hk
  have hkI : (kk : Int) < n := by omega
  have HT := Lib.hid h
  have HEN := Lib.hid he
  have HIH := Lib.hid ih
  obtain ⟨vA, vn, vc, iA, im, ic⟩ := p
  obtain ⟨b, off, rfl, hb, c0, c1, c2⟩ := h.at_ ht
  simp only at c0 c1 c2
  obtain ⟨vars, v0, v1, v2, v3, ins⟩ := e
  have HC0 : Hid (∀ w, Tms w (.slice (some ⟨b, off, none⟩) n c) l → EnvIn w ⟨vA, vn, vc, iA, im, ic⟩ ⟨vars, v0, v1, v2, v3, ins⟩ → Calls Tryz.prog 84 #[.slice (some ⟨b, off, none⟩) n c, .int .i64 ((kk + 1 + x0 : Nat) : Int), .agg #[.slice vA vn vc, .int .i64 v0, .int .i64 v1, .int .i64 v2, .int .i64 v3, .slice iA im ic]] w (RetI w X0)) := Lib.hid (fun w h h' => by rw [hX0]; exact HIH.out _ w (by omega) h h' hex0)
  obtain ⟨a0, ha0⟩ : ∃ a : Nat, a = kk + 1 + x0 := ⟨_, rfl⟩
  rw [← ha0] at HC0 hx0
  change Calls _ _ #[.slice (some ⟨b, off, none⟩) n c, .int .i64 kk, .agg #[.slice vA vn vc, .int .i64 v0, .int .i64 v1, .int .i64 v2, .int .i64 v3, .slice iA im ic]] _ _
  have d0 := ((KitC.below_one w (.cells #[.slice vA vn vc, .int .i64 v0, .int .i64 v1, .int .i64 v2, .int .i64 v3, .slice iA im ic] 54)).cell (p := ⟨b, off + kk * 3, none⟩) hb).trans c0
  have d1 := ((KitC.below_one w (.cells #[.slice vA vn vc, .int .i64 v0, .int .i64 v1, .int .i64 v2, .int .i64 v3, .slice iA im ic] 54)).cell (p := ⟨b, off + kk * 3 + 1, none⟩) hb).trans c1
  have d2 := ((KitC.below_one w (.cells #[.slice vA vn vc, .int .i64 v0, .int .i64 v1, .int .i64 v2, .int .i64 v3, .slice iA im ic] 54)).cell (p := ⟨b, off + kk * 3 + 2, none⟩) hb).trans c2
  have HBE := Lib.hid (And.intro hx0 trivial)
  clear hr h he ht hend hC c0 c1 c2 ih hm hc0 hkk hv hs0 hx0 hex0 hbx0 hX0 ha0
  go_enter Tryz.func84, Tryz.ntmps84
  go_wp2_with (go_at_call 56; (with_reducible refine (HBL.out _ (HT.out.keep (KitC.below_pair _ _ _))).mono ?_))
  rintro e2 w1 ⟨vv, rfl, hr2, hb1⟩
  obtain ⟨A2, n2, c2', rfl, hn2, hc2, hA2⟩ := hr2.ints
  rw [belows_length] at hn2
  obtain rfl : 1 = n2 := hn2
  obtain ⟨b2, off2, rfl, hb2, hcell⟩ := hA2 (by omega)
  obtain ⟨B1, B2, hbw, hz⟩ := KitC.pair_blocks hb1
  have HBW := Lib.hid hbw
  have u0 := hcell 0 _ HBE.out.1
  rw [Nat.add_zero] at u0
  have uu0 := cell_regrown u0
  have HB1 := Lib.hid B1
  have HB2 := Lib.hid B2
  obtain ⟨t0, t1, t2⟩ := cells_3 B2
  obtain ⟨z0, z1, z2, z3, z4, z5⟩ := cells_6 B1
  have y0 := cell_regrown z0
  have y1 := cell_regrown z1
  have y2 := cell_regrown z2
  have y3 := cell_regrown z3
  have y4 := cell_regrown z4
  have y5 := cell_regrown z5
  have y6 := cell_regrown t0
  have HA0 : Hid (∀ d os, Calls Tryz.prog 84 #[.slice (some ⟨b, off, none⟩) n c, .int .i64 a0, .agg #[.slice vA vn vc, .int .i64 v0, .int .i64 v1, .int .i64 v2, .int .i64 v3, .slice iA im ic]] (grow (redrawn w1 d) os) fun e w'' => e = .returned (.int .i64 X0) ∧ ∃ p : Regrown, w'' = grow (redrawn w1 p.d) p.os) := Lib.hid (fun d os => Calls.regrown_of (HC0.out _ (HT.out.keep (below_two' HBW.out (below_regrown w1 d os))) (HEN.out.keep (below_two' HBW.out (below_regrown w1 d os)))))
  clear u0 hr2 hb1 hA2 hc2 B1 B2 hbw d0 d1 d2 hcell t0 t1 t2 z0 z1 z2 z3 z4 z5
  go_wp2_with fail
  refine wp_region_quiet_below (by kernel_rfl) (by kernel_rfl) ?_
  repeat (go_big_quiet_step (exact HA0.out _ _))
  refine wpQuiet_nil ?_
  intro _ hw'
  obtain ⟨⟨dq, osq⟩, hw''⟩ := hw'
  subst hw''
  have HG := Lib.hid (below_two' HBW.out (below_regrown w1 dq osq))
  simp only
  go_wp2_with fail
  go_ret
  exact ⟨ret_int (by rw [HR.out]; simp [ev1]), HG.out⟩
set_option maxHeartbeats 4000000 in
theorem rat_op12 (p : EP) (e : Ev) (A : Option Addr) (n c : Nat) (l : List Tm) (k0 : Nat) (w : World) (hC : Comes p e A n c l) (h : Tms w (.slice A n c) l) (he : EnvIn w p e) (tn : Int) (s : ByteArray) (ht : l[k0]? = some ⟨12, tn, s⟩) (hend : 0 ≤ endA l k0) (ih : RatIH p e A n c l k0) :
    Calls Tryz.prog 84 #[.slice A n c, .int .i64 k0, envV p e] w (RetI w (comeE e (l.drop k0))) := by
  obtain ⟨kk, m0, hkk, hc0, _, _, _⟩ := endA_nn hend
  obtain rfl : kk = k0 := by omega
  obtain ⟨t', m, ht', _, _, hm⟩ := first_of hc0
  rw [ht] at ht'
  cases ht'
  change cnt 1 _ = some m at hm
  obtain ⟨x0, hx0, hex0, hbx0, hs0⟩ := below_placeE (e := e) hm (show 0 < 1 by omega)
  have hv := comeE_1 (e := e) ht rfl hs0
  rw [hv]
  have HBL := Lib.hid (fun w h => rbelow_any A n c l kk w h hC.hn (by have := hC.hn62; omega) _ ht hend)
  obtain ⟨X0, hX0⟩ : ∃ X, X = comeE e (l.drop (kk + 1 + x0)) := ⟨_, rfl⟩
  obtain ⟨r, hr⟩ : ∃ r, r = ev1 12 (comeE e (l.drop (kk + 1 + x0))) := ⟨_, rfl⟩
  simp only
  rw [← hr]
  have HR := Lib.hid hr
  have hbd0 := hC.bd (kk + 1 + x0)
  obtain ⟨hlo0, hhi0⟩ := hbd0
  rw [← hX0] at HR hlo0 hhi0
  have hk := get_lt ht
  rw [← hC.hn] at hk
  have hkI : (kk : Int) < n := by omega
  have HT := Lib.hid h
  have HEN := Lib.hid he
  have HIH := Lib.hid ih
  obtain ⟨vA, vn, vc, iA, im, ic⟩ := p
  obtain ⟨b, off, rfl, hb, c0, c1, c2⟩ := h.at_ ht
  simp only at c0 c1 c2
  obtain ⟨vars, v0, v1, v2, v3, ins⟩ := e
  have HC0 : Hid (∀ w, Tms w (.slice (some ⟨b, off, none⟩) n c) l → EnvIn w ⟨vA, vn, vc, iA, im, ic⟩ ⟨vars, v0, v1, v2, v3, ins⟩ → Calls Tryz.prog 84 #[.slice (some ⟨b, off, none⟩) n c, .int .i64 ((kk + 1 + x0 : Nat) : Int), .agg #[.slice vA vn vc, .int .i64 v0, .int .i64 v1, .int .i64 v2, .int .i64 v3, .slice iA im ic]] w (RetI w X0)) := Lib.hid (fun w h h' => by rw [hX0]; exact HIH.out _ w (by omega) h h' hex0)
  obtain ⟨a0, ha0⟩ : ∃ a : Nat, a = kk + 1 + x0 := ⟨_, rfl⟩
  rw [← ha0] at HC0 hx0
  change Calls _ _ #[.slice (some ⟨b, off, none⟩) n c, .int .i64 kk, .agg #[.slice vA vn vc, .int .i64 v0, .int .i64 v1, .int .i64 v2, .int .i64 v3, .slice iA im ic]] _ _
  have d0 := ((KitC.below_one w (.cells #[.slice vA vn vc, .int .i64 v0, .int .i64 v1, .int .i64 v2, .int .i64 v3, .slice iA im ic] 54)).cell (p := ⟨b, off + kk * 3, none⟩) hb).trans c0
  have d1 := ((KitC.below_one w (.cells #[.slice vA vn vc, .int .i64 v0, .int .i64 v1, .int .i64 v2, .int .i64 v3, .slice iA im ic] 54)).cell (p := ⟨b, off + kk * 3 + 1, none⟩) hb).trans c1
  have d2 := ((KitC.below_one w (.cells #[.slice vA vn vc, .int .i64 v0, .int .i64 v1, .int .i64 v2, .int .i64 v3, .slice iA im ic] 54)).cell (p := ⟨b, off + kk * 3 + 2, none⟩) hb).trans c2
  have HBE := Lib.hid (And.intro hx0 trivial)
  clear hr h he ht hend hC c0 c1 c2 ih hm hc0 hkk hv hs0 hx0 hex0 hbx0 hX0 ha0
  go_enter Tryz.func84, Tryz.ntmps84
  go_wp2_with (go_at_call 56; (with_reducible refine (HBL.out _ (HT.out.keep (KitC.below_pair _ _ _))).mono ?_))
  rintro e2 w1 ⟨vv, rfl, hr2, hb1⟩
  obtain ⟨A2, n2, c2', rfl, hn2, hc2, hA2⟩ := hr2.ints
  rw [belows_length] at hn2
  obtain rfl : 1 = n2 := hn2
  obtain ⟨b2, off2, rfl, hb2, hcell⟩ := hA2 (by omega)
  obtain ⟨B1, B2, hbw, hz⟩ := KitC.pair_blocks hb1
  have HBW := Lib.hid hbw
  have u0 := hcell 0 _ HBE.out.1
  rw [Nat.add_zero] at u0
  have uu0 := cell_regrown u0
  have HB1 := Lib.hid B1
  have HB2 := Lib.hid B2
  obtain ⟨t0, t1, t2⟩ := cells_3 B2
  obtain ⟨z0, z1, z2, z3, z4, z5⟩ := cells_6 B1
  have y0 := cell_regrown z0
  have y1 := cell_regrown z1
  have y2 := cell_regrown z2
  have y3 := cell_regrown z3
  have y4 := cell_regrown z4
  have y5 := cell_regrown z5
  have y6 := cell_regrown t0
  have HA0 : Hid (∀ d os, Calls Tryz.prog 84 #[.slice (some ⟨b, off, none⟩) n c, .int .i64 a0, .agg #[.slice vA vn vc, .int .i64 v0, .int .i64 v1, .int .i64 v2, .int .i64 v3, .slice iA im ic]] (grow (redrawn w1 d) os) fun e w'' => e = .returned (.int .i64 X0) ∧ ∃ p : Regrown, w'' = grow (redrawn w1 p.d) p.os) := Lib.hid (fun d os => Calls.regrown_of (HC0.out _ (HT.out.keep (below_two' HBW.out (below_regrown w1 d os))) (HEN.out.keep (below_two' HBW.out (below_regrown w1 d os)))))
  clear u0 hr2 hb1 hA2 hc2 B1 B2 hbw d0 d1 d2 hcell t0 t1 t2 z0 z1 z2 z3 z4 z5
  go_wp2_with fail
  refine wp_region_quiet_below (by kernel_rfl) (by kernel_rfl) ?_
  repeat (go_big_quiet_step (exact HA0.out _ _))
  refine wpQuiet_nil ?_
  intro _ hw'
  obtain ⟨⟨dq, osq⟩, hw''⟩ := hw'
  subst hw''
  have HG := Lib.hid (below_two' HBW.out (below_regrown w1 dq osq))
  simp only
  have HIS := Lib.hid (fun b => eis_any b)
  go_wp2_with (go_at_call 119; (with_reducible refine (HIS.out _ _).mono ?_); rintro e w' ⟨rfl, rfl⟩)
  go_ret
  exact ⟨ret_int (by rw [HR.out]; simp [ev1]), HG.out⟩
end Go.Proofs.YtcfcpbkeedfbpaaGreatDoor
